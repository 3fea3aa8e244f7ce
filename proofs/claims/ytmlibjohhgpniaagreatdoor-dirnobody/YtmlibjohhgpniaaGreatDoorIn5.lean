/- inode: All of an empty tree, and of none. -/
import Derived.Test.YtmlibjohhgpniaaGreatDoorIn4
import Derived.Test.YtmlibjohhgpniaaGreatDoorTrE
namespace Go.Proofs.YtmlibjohhgpniaaGreatDoor
open Go.RowKit Go.Shelf
set_option linter.unusedVariables false
set_option linter.unusedSimpArgs false
attribute [local go_sem] Oper.semAt_some
set_option maxHeartbeats 400000 in
theorem keysOf_fn (o : Option Addr) (w : World) : Calls Tryz.prog 94 #[.pointer o, .int .u8 105] w fun e w' => ∃ u, e = .returned u ∧ ScP w o ⟨(keyL 105 [] ⟨#[]⟩).toArray⟩ ⟨(keyL 106 [] ⟨#[]⟩).toArray⟩ u w' := by
  have H1 := hidden (fun W => prefixKey_any 105 (by decide) W)
  have H2 := hidden (fun W => prefixKey_any 106 (by decide) W)
  have HS := hidden (fun W => scan_fn o ⟨(keyL 105 [] ⟨#[]⟩).toArray⟩ ⟨(keyL 106 [] ⟨#[]⟩).toArray⟩ W)
  generalize (⟨(keyL 105 [] ⟨#[]⟩).toArray⟩ : ByteArray) = x at *
  generalize (⟨(keyL 106 [] ⟨#[]⟩).toArray⟩ : ByteArray) = y at *
  have t1 : True := trivial
  go_enter Tryz.func94, Tryz.ntmps94
  go_wp2_with (first
    | (go_at_call 95; have _t := t1; refine (H1.out _).mono ?_; rintro e w1 ⟨rfl, q1⟩; have K1 := hidden q1; clear q1 t1 _t)
    | (go_at_call 95; refine (H2.out _).mono ?_; rintro e w2 ⟨rfl, q2⟩; have K2 := hidden (K1.out.trans q2); clear q2)
    | (go_at_call 14; refine (HS.out _).mono ?_; rintro e w3 ⟨u, rfl, ⟨B, rfl, h0, h1, h2, h3, q3⟩⟩; have K3 := hidden (K2.out.trans q3); have H3 := hidden (And.intro h1 (And.intro h2 h3)); have hz := Nat.le_trans K2.out.size h0; clear q3 h1 h2 h3))
  go_returns
  exact ⟨_, rfl, ⟨⟨B, rfl, hz, H3.out.1, H3.out.2.1, H3.out.2.2, K3.out⟩⟩⟩
set_option maxHeartbeats 2000000 in
set_option maxRecDepth 100000 in
theorem inodesOf_no (Kp : World → World → Prop) (w : World) (B : Nat) (o : Option Addr) (hB : w.heap[B]? = some (.cells #[.pointer o] 22 (0, 0))) (h : EmptyT w o) :
    SeqStopsK Fence.wide 8 Tryz.prog 148 #[.pointer (some ⟨B, 0, none⟩)] (fun (x : Empty) => x.elim) Kp (fun ys => ys = []) (fun _ => False) 0 w := fun lp J Jx W hW hJ _ hY h0 => by
  have kW : Same w W := ⟨hW.os, hW.tape, hW.output, hW.size, fun k hk _ => hW.block k hk⟩
  have HL := hidden (h.same kW)
  have HK := hidden (fun W' => (callsIn_wide (n := 7)).2 (keysOf_fn o W'))
  have HJ := hidden (fun W' (k : Same W W') => hJ [] W W' none h0 (grown_same k) (fun r e => by cases e))
  have K0 := hidden (same_alloc W (.cells #[.func (.yield lp) #[] #[]] 235))
  have c0 : (W.alloc (.cells #[.func (.yield lp) #[] #[]] 235)).cell? ⟨B, 0, none⟩ = some (.pointer o) := blk_cell (blk_alloc (blk_kept kW (fun h => h) hB) _)
  clear hW hY hJ h0 hB h kW
  refine callsIn_of_wp_marks Tryz.func148 rfl trivial ?_ rfl
  simp only [Tryz.ntmps148, List.size_toArray, List.length_cons, List.length_nil, Nat.reduceAdd, Nat.reduceSub, Array.replicate_succ, Array.replicate_zero, List.push_toArray, List.append_toArray, List.nil_append, List.cons_append]
  gi_wp2_with (refine ⟨trivial, ?_⟩; gi_at_call 94; refine (HK.out _).mono ?_; rintro e w2 ⟨u, rfl, ⟨B', rfl, hB0, hB1, hB2, hB3, q2⟩⟩; have K2 := hidden (K0.out.trans q2); have G1 := hidden hB1; have G2 := hidden hB2; have G3 := hidden hB3; clear q2 hB1 hB2 hB3)
  refine wpIn_rangeFunc_ownH rfl (by decide) (gf := 64) (lb := #[.pointer (some ⟨B', 0, none⟩), .pointer (some ⟨B' + 1, 0, none⟩), .pointer (some ⟨B' + 2, 0, none⟩)]) rfl trivial (enters_of Tryz.func64 (by kernel_rfl) rfl)
    (scan_no KC w2 B' o _ _ G1.out G2.out G3.out (HL.out.same K2.out)) (fun h k => h.trans k) (fun W l o o' _ hl ho _ => KC.putObj W l o o' hl ho) (Below.refl _ _) (fun x => x.elim)
    (fun (pre : List Empty) V => Below W.heap.size W V)
    (fun _ _ _ => False)
    (ownFrom_below (Nat.le_refl _) K2.out.size)
    (fun _ _ _ _ _ hs _ _ => hs)
    (K2.out.below (Nat.le_refl _) fun _ h => h.elim)
    (fun _ _ _ => True) (fun _ _ _ _ _ _ _ _ _ => trivial) ?assign ?body ?done ?stop
  case assign =>
    intro l pre x
    exact x.elim
  case body =>
    intro l pre x
    exact x.elim
  case done =>
    rintro D ys V hD hS hI hK
    have hz := Nat.le_trans K2.out.size hD
    have hS5 : Same W (V.putObj D (.deferred none)) := (same_of_below hI).grown (grownBy_putObj' _ D _) (fun k e hk => by cases e; omega)
    have HJ5 := hidden (HJ.out _ hS5)
    clear hS5 hI hS
    gi_wp2
    refine ⟨by simp, .inl ⟨_, _, rfl, run_takeDeferred hK, ?_⟩⟩
    refine ⟨.tuple #[], ?_, ⟨_, rfl⟩, .inl ⟨[], rfl, HJ5.out⟩⟩
    simp [results, Tryz.f148, go_sem]
  case stop =>
    rintro D c pre V _ _ h _
    exact h.elim
theorem inodesOf_fn (o : Option Addr) (w : World) : Calls Tryz.prog 92 #[.pointer o] w fun e w' => e = .returned (.func (.func 148) #[] #[.pointer (some ⟨w.heap.size, 0, none⟩)]) ∧ w' = w.alloc (.cells #[.pointer o] 22) := by
  go_enter Tryz.func92, Tryz.ntmps92
  go_wp2
  go_returns
  exact ⟨rfl, rfl⟩
theorem values_fn (v : Value) (w : World) (hv : ∃ a n c, v = .slice a n c) : Calls Tryz.prog 93 #[v] w fun e w' => e = .returned (.func (.func 149) #[] #[.pointer (some ⟨w.heap.size, 0, none⟩)]) ∧ Same w w' ∧ w'.heap[w.heap.size]? = some (.cells #[v] 168 (0, 0)) := by
  obtain ⟨a, n, c, rfl⟩ := hv
  go_enter Tryz.func93, Tryz.ntmps93
  go_wp2
  go_returns
  exact ⟨rfl, same_alloc _ _, blk_new _ _⟩
structure AlP (w : World) (u : Value) (W : World) : Prop where
  out : ∃ B, u = .func (.func 149) #[] #[.pointer (some ⟨B, 0, none⟩)] ∧ W.heap[B]? = some (.cells #[.slice none 0 0] 168 (0, 0)) ∧ Same w W
set_option maxHeartbeats 2000000 in
set_option maxRecDepth 100000 in
theorem all_no (w : World) (o : Option Addr) (h : EmptyT w o) : Calls Tryz.prog 38 #[.pointer o] w fun e w' => ∃ u, e = .returned u ∧ AlP w u w' := by
  have HL := hidden h
  have HF := hidden (fun W' => (callsIn_wide (n := 8)).2 (inodesOf_fn o W'))
  have HV := hidden (fun W' => (callsIn_wide (n := 8)).2 (values_fn (.slice none 0 0) W' ⟨_, _, _, rfl⟩))
  clear h
  refine (callsIn_wide (n := 9)).1 ?_
  refine callsIn_of_wp_marks Tryz.func38 rfl trivial ?_ rfl
  simp only [Tryz.ntmps38, List.size_toArray, List.length_cons, List.length_nil, Nat.reduceAdd, Nat.reduceSub, Array.replicate_succ, Array.replicate_zero, List.push_toArray, List.append_toArray, List.nil_append, List.cons_append]
  gi_wp2_with (refine ⟨trivial, ?_⟩; gi_at_call 92; refine (HF.out _).mono ?_; rintro e w2 ⟨rfl, hw2⟩; have HW2 := hidden hw2; clear hw2)
  have k2 : Same w w2 := by rw [HW2.out]; exact ((Kept.refl _ w).alloc _).alloc _
  have g0 : w2.heap[w.heap.size]? = some (.cells #[.slice none 0 0] 168 (0, 0)) := by rw [HW2.out]; exact blk_alloc (blk_new _ _) _
  have g1 : w2.heap[w.heap.size + 1]? = some (.cells #[.pointer o] 22 (0, 0)) := by rw [HW2.out]; have := blk_new (w.alloc (.cells #[.slice none 0 0] 168)) (.cells #[.pointer o] 22); simpa using this
  clear HW2
  have by' : Boxed w2 w.heap.size 168 (.slice none 0 0) := g0
  have hz : w.heap.size < w2.heap.size := by'.lt
  refine wpIn_rangeFunc_ownH rfl (by decide) (gf := 148) (lb := #[.pointer (some ⟨w.heap.size + 1, 0, none⟩)]) (by simp [Act.eval]) trivial (enters_of Tryz.func148 (by kernel_rfl) rfl)
    (inodesOf_no KC w2 (w.heap.size + 1) o g1 (HL.out.same k2)) (fun h k => h.trans k) (fun W l o o' _ hl ho _ => KC.putObj W l o o' hl ho) (Below.refl _ _) (fun x => x.elim)
    (fun (pre : List Empty) V => Boxed V w.heap.size 168 (.slice none 0 0) ∧ Below w.heap.size w V)
    (fun _ _ _ => False)
    (OwnFrom.and (Own.from (fun s A B row hs hg hr => hs.kept hg (fun e => by obtain ⟨o, ho, hc⟩ := hr _ e.symm; rw [show A.heap[w.heap.size]? = _ from hs] at ho; cases ho; cases hc)) _) (ownFrom_below (Nat.le_refl _) (by omega)))
    (fun _ _ _ _ _ hs _ _ => hs)
    ⟨by', k2.below (Nat.le_refl _) fun _ h => h.elim⟩
    (fun _ _ _ => True) (fun _ _ _ _ _ _ _ _ _ => trivial) ?assign ?body ?done ?stop
  case assign =>
    intro l pre x
    exact x.elim
  case body =>
    intro l pre x
    exact x.elim
  case done =>
    rintro D ys V hD hS ⟨hv, hB⟩ hK
    have HB := hidden hB
    have HKK := hidden hK
    have c0 := hv.cell
    clear hB hK hS hv
    gi_wp2_with (refine ⟨trivial, ?_⟩; gi_at_call 93; refine (HV.out _).mono ?_; rintro e w5 ⟨rfl, q5, g5⟩; have K5 := hidden q5; have G5 := hidden g5; clear q5 g5)
    have hK2 : w5.heap[D]? = some (.deferred (some [])) := blk_kept K5.out (fun h => h) HKK.out
    have hS5 : Same w (w5.putObj D (.deferred none)) := ((same_of_below HB.out).trans K5.out).grown (grownBy_putObj' _ D _) (fun k e hk => by cases e; omega)
    have hG5 : (w5.putObj D (.deferred none)).heap[V.heap.size]? = some (.cells #[.slice none 0 0] 168 (0, 0)) := (World.putObj_heap_other (fun e => by have := blk_lt HKK.out; omega)).trans G5.out
    refine ⟨by simp, .inl ⟨_, _, rfl, run_takeDeferred hK2, ?_⟩⟩
    refine ⟨.func (.func 149) #[] #[.pointer (some ⟨V.heap.size, 0, none⟩)], ?_, _, rfl, ⟨⟨_, rfl, hG5, hS5⟩⟩⟩
    simp [results, Tryz.f38, go_sem]
  case stop =>
    rintro D c pre V _ _ h _
    exact h.elim
end Go.Proofs.YtmlibjohhgpniaaGreatDoor
