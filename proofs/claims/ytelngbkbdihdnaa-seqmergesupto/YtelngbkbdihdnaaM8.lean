/- The law's own 'awake' for seq. -/
import Derived.Test.YtelngbkbdihdnaaM7
import Derived.Test.YtelngbkbdihdnaaHqI
namespace Go.Proofs.Ytelngbkbdihdnaa
open Go.RowKit
set_option linter.unusedVariables false
theorem HI.off {B g : Nat} {L : List Int} {w : World} (h : HI B g L w) {i : Nat} {cs : Array Value} {e : TypeId} (hi : w.heap[i]? = some (.cells cs e (0, 0))) (h1 : e ≠ 75) (h2 : e ≠ 3) : ¬ (i = g ∨ rowOf w g 0 = some i) := by
  obtain ⟨v, b1, b2, _⟩ := h.ex
  have er : rowOf w g 0 = v.ownBlock := by unfold rowOf; rw [blk_cell b1]; rfl
  rintro (rfl | hr)
  · rw [b1] at hi
    simp at hi
    exact h1 hi.2.symm
  · rw [er] at hr
    exact own_apart b2 hi (Ne.symm h2) hr
theorem MP.heap {B C g q : Nat} {l : List Kv} {L : List Int} {w w' : World} (m : MP B g l w) (h : HI C q L w) (f : HFI q w w') : MP B g l w' := by
  obtain ⟨v, t, h1, _⟩ := m.ex
  exact m.kept f.kept (h.off h1 (by decide) (by decide)) (fun i cs hi => h.off hi (by decide) (by decide))
theorem Same.heap {q : Nat} {C : Nat} {L : List Int} {w w0 w' : World} (k : Same w0 w) (h : HI C q L w) (hC : w0.heap.size ≤ C) (f : HFI q w w') : Same w0 w' := by
  have hl := h.lt
  have hg := h.lg
  refine k.trans' f.kept (fun i hi hs => ?_)
  rcases hs with e | e
  · omega
  · have := (hl.2 i e).1; omega
abbrev kA : ByteArray := { data := #[97] }
abbrev kB : ByteArray := { data := #[98] }
theorem ab : ltS kA kB = true := by
  unfold ltS
  rw [Lib.toList_data, Lib.toList_data]
  decide
theorem ba : ltS kB kA = false := ordS.as _ _ ab
theorem two_min {L : List Int} (h : IsHeap ltI L) (hp : L.Perm [1, 3]) (h0 : 0 < L.length) : L[0] = 1 := by
  have m1 : (1 : Int) ∈ L := hp.symm.subset (by simp)
  obtain ⟨j, hj, e⟩ := List.getElem_of_mem m1
  have h1 := heap_min ordI h j hj
  rw [e] at h1
  have h2 : L[0] ∈ ([1, 3] : List Int) := hp.subset (List.getElem_mem _)
  simp [ltI] at h1
  simp at h2
  omega
set_option maxRecDepth 100000 in
theorem func_nil : ∀ (W : World) (n : FuncId) (b : Array Value), (binOp .eql 51 (.func (.func n) #[] b) Value.nilFunc).run Try.prog W = .ok (.bool false) W := fun W n b => by
  first | rfl | simp [binOp, Op.equal, Op.maxDepth, go_sem]
set_option maxHeartbeats 1000000 in
set_option maxRecDepth 100000 in
theorem all_fn (m : Option Addr) (w : World) : Calls Try.prog 28 #[.pointer m] w fun e w' => e = .returned (.func (.func 57) #[] #[.pointer (some ⟨w.heap.size, 0, none⟩)]) ∧ w.alloc (.cells #[.pointer m] 40) = w' := by
  go_enter Try.func28, Try.ntmps28
  go_wp2
  go_returns
  exact ⟨rfl, rfl⟩
set_option maxHeartbeats 1000000 in
set_option maxRecDepth 100000 in
theorem range_fn (m : Option Addr) (a b : ByteArray) (w : World) : Calls Try.prog 41 #[.pointer m, .string a, .string b] w fun e w' => e = .returned (.func (.func 73) #[] #[.pointer (some ⟨w.heap.size, 0, none⟩), .pointer (some ⟨w.heap.size + 1, 0, none⟩), .pointer (some ⟨w.heap.size + 2, 0, none⟩)]) ∧ ((w.alloc (.cells #[.pointer m] 40)).alloc (.cells #[.string a] 9)).alloc (.cells #[.string b] 9) = w' := by
  go_enter Try.func41, Try.ntmps41
  go_wp2
  go_returns
  exact ⟨by first | rfl | simp, rfl⟩
set_option maxHeartbeats 4000000 in
set_option maxRecDepth 100000 in
theorem awake_any (w : World) : Calls Try.prog 12 #[] w fun e w' => e = .returned (.bool true) ∧ Same w w' := by
  have t1 : True := trivial
  have t2 : True := trivial
  have t3 : True := trivial
  have hfn := func_nil
  go_enter Try.func12, Try.ntmps12
  go_wp2_with (first
    | (go_at_call 11; go_must (refine (new_I _).mono ?_; rintro e w1 ⟨g1, rfl, hg1, h1, k1⟩; have H1 := hidden h1; have K1 := hidden k1; clear h1 k1))
    | (go_at_call 22; go_must (refine (newM_any _).mono ?_; rintro e w2 ⟨g2, rfl, hg2, m2, k2⟩; have H2 := hidden (H1.out.same k2); have M2 := hidden m2; have K2 := hidden (Kept.trans K1.out k2); clear m2 k2))
    | (go_at_call 28; go_must (refine (all_fn _ _).mono ?_; rintro e w3 ⟨rfl, rfl⟩))
    | (go_at_call 41; go_must (refine (range_fn _ _ _ _).mono ?_; rintro e w3 ⟨rfl, rfl⟩))
    | (go_at_call 16; have _t := t1; go_must (refine (push_I (H2.out.same (by repeat first | exact Kept.refl _ _ | refine Kept.alloc ?_ _)) (by have := K2.out.size; simp; omega) 3 (by simp)).mono ?_; rintro e w3 ⟨rfl, L3, hp3, h3, f3⟩; have H3 := hidden h3; have M3 := hidden ((M2.out.same (by repeat first | exact Kept.refl _ _ | refine Kept.alloc ?_ _)).heap (H2.out.same (by repeat first | exact Kept.refl _ _ | refine Kept.alloc ?_ _)) f3); have K3 := hidden (Same.heap (Kept.trans K2.out (by repeat first | exact Kept.refl _ _ | refine Kept.alloc ?_ _)) (H2.out.same (by repeat first | exact Kept.refl _ _ | refine Kept.alloc ?_ _)) (Nat.le_refl _) f3); have P3 := hidden hp3; clear t1 h3 f3 hp3))
    | (go_at_call 16; have _t := t2; go_must (refine (push_I H3.out K3.out.size 1 (by rw [P3.out.length_eq]; simp)).mono ?_; rintro e w4 ⟨rfl, L4, hp4, h4, f4⟩; have H4 := hidden h4; have M4 := hidden (M3.out.heap H3.out f4); have K4 := hidden (Same.heap K3.out H3.out (Nat.le_refl _) f4); have P4 : Hid (L4.Perm [1, 3]) := hp4.trans (List.Perm.cons _ P3.out); clear t2 h4 f4 hp4))
    | (go_at_call 13; go_must (have h0 : 0 < L4.length := (by rw [P4.out.length_eq]; simp); refine (pop_I H4.out h0 (by rw [P4.out.length_eq]; simp)).mono ?_; rw [two_min H4.out.hp P4.out h0]; rintro e w5 ⟨rfl, L5, _, h5, f5⟩; have M5 := hidden (M4.out.heap H4.out f5); have K5 := hidden (Same.heap K4.out H4.out (Nat.le_refl _) f5); clear h5 f5))
    | (go_at_call 24; have _t := t3; go_must (refine (put_any M5.out kB 1 (by simp)).mono ?_; rintro e w6 ⟨rfl, m6, k6⟩; have M6 := hidden m6; have K6 := hidden (K5.out.trans' k6 (fun i hi e => by have := M5.out.lg; have := K1.out.size; omega)); clear t3 m6 k6))
    | (go_at_call 24; go_must (refine (put_any M6.out kA 2 (by simp [insL])).mono ?_; rintro e w7 ⟨rfl, m7, k7⟩; have e7 : insL kA 2 (insL kB 1 []) = [(kA, 2), (kB, 1)] := (by simp [insL, ab]); rw [e7] at m7; have M7 := hidden m7; have K7 := hidden (K6.out.trans' k7 (fun i hi e => by have := M6.out.lg; have := K1.out.size; omega)); clear m7 k7 e7))
    | (go_at_call 29; go_must (refine (atM_any M7.out 0 kA 2 rfl (by simp)).mono ?_; rintro e w8 ⟨rfl, k8⟩; have M8 := hidden (M7.out.same k8); have K8 := hidden (Kept.trans K7.out k8); clear k8))
    | (go_at_call 27; go_must (refine (lenM_any (M8.out.same (same_alloc _ _))).mono ?_; rintro e w9 ⟨rfl, rfl⟩)))
  go_returns
  exact ⟨by first | rfl | simp, Kept.trans K8.out (same_alloc _ _)⟩
end Go.Proofs.Ytelngbkbdihdnaa
