/- seq's branches: turnDown, turnUp, balanced. (Made by mkm2.py.) -/
import Derived.Test.YtelngbkbdihdnaaQ2
/- seq's branches in memory: a tree; size, newBranch. -/
namespace Go.Proofs.Ytelngbkbdihdnaa
open Go.RowKit
set_option linter.unusedVariables false
inductive T where
  | nil : T
  | node (k : ByteArray) (x : Int) (l r : T) : T
def T.size : T → Nat
  | .nil => 0
  | .node _ _ l r => l.size + 1 + r.size
def T.list : T → List (ByteArray × Int)
  | .nil => []
  | .node k x l r => l.list ++ (k, x) :: r.list
theorem T.list_len : ∀ t : T, t.list.length = t.size
  | .nil => rfl
  | .node k x l r => by simp [T.list, T.size, T.list_len l, T.list_len r]; omega
/-- A branch's cells. -/
def BC (k : ByteArray) (x : Int) (lo hi : Value) (n : Nat) : Array Value := #[.string k, .int .i64 x, lo, hi, .int .i64 n]
def BT (w : World) : Value → T → Prop
  | v, .nil => v = .pointer none
  | v, .node k x l r => ∃ g lo hi, v = .pointer (some ⟨g, 0, none⟩) ∧ w.heap[g]? = some (.cells (BC k x lo hi (T.node k x l r).size) 99 (0, 0)) ∧ BT w lo l ∧ BT w hi r
theorem BT.kept {S : Nat → Prop} {w w' : World} (k : Kept S w w') (hS : ∀ i cs, w.heap[i]? = some (.cells cs 99 (0, 0)) → ¬ S i) : ∀ {t : T} {v : Value}, BT w v t → BT w' v t
  | .nil, v, h => h
  | .node _ _ l r, v, ⟨g, lo, hi, e, hb, h1, h2⟩ => ⟨g, lo, hi, e, blk_kept k (hS g _ hb) hb, BT.kept k hS h1, BT.kept k hS h2⟩
theorem BT.same {w w' : World} (k : Same w w') {t : T} {v : Value} (h : BT w v t) : BT w' v t := BT.kept k (fun _ _ _ h => h) h
/-- A pointer to it. -/
theorem BT.ptr {w : World} : ∀ {t : T} {v : Value}, BT w v t → ∃ p, v = .pointer p
  | .nil, v, h => ⟨none, h⟩
  | .node _ _ l r, v, ⟨g, _, _, e, _⟩ => ⟨_, e⟩
set_option maxHeartbeats 1000000 in
set_option maxRecDepth 100000 in
theorem size_any {w : World} {v : Value} {t : T} (h : BT w v t) : Calls Try.prog 56 #[v] w fun e w' => e = .returned (.int .i64 t.size) ∧ w = w' := by
  cases t with
  | nil =>
    obtain rfl : v = .pointer none := h
    go_enter Try.func56, Try.ntmps56
    go_wp2
    go_returns
    exact ⟨rfl, rfl⟩
  | node k x l r =>
    obtain ⟨g, lo, hi, rfl, hb, _, _⟩ := h
    have c4 : w.cell? ⟨g, 4, none⟩ = some (.int .i64 (T.node k x l r).size) := blk_cell hb
    clear hb
    generalize (T.node k x l r).size = n at *
    go_enter Try.func56, Try.ntmps56
    go_wp2
    go_returns
    exact ⟨rfl, rfl⟩
abbrev It (k : ByteArray) (x : Int) : Value := .agg #[.string k, .int .i64 x]
set_option maxHeartbeats 2000000 in
set_option maxRecDepth 100000 in
theorem newB_any {w : World} {lo hi : Value} {l r : T} (k : ByteArray) (x : Int) (h1 : BT w lo l) (h2 : BT w hi r) (hs : l.size + 1 + r.size ≤ 1152921504606846976) :
    Calls Try.prog 79 #[lo, It k x, hi] w fun e w' => ∃ v, e = .returned v ∧ BT w' v (.node k x l r) ∧ Same w w' := by
  obtain ⟨p1, rfl⟩ := h1.ptr
  obtain ⟨p2, rfl⟩ := h2.ptr
  have H1 : Hid (∀ W, Same w W → BT W (.pointer p1) l) := fun W k => h1.same k
  have H2 : Hid (∀ W, Same w W → BT W (.pointer p2) r) := fun W k => h2.same k
  have hw1 : IntKind.i64.wrap ((l.size : Int) + 1) = (l.size : Int) + 1 := by rw [IntKind.wrap_i64]; omega
  have hw2 : IntKind.i64.wrap ((l.size : Int) + 1 + (r.size : Int)) = (l.size : Int) + 1 + (r.size : Int) := by rw [IntKind.wrap_i64]; omega
  have t1 : True := trivial
  have HBX : Hid (∀ cs t, ((w.alloc (.cells cs t)).drew).heap[w.heap.size]? = some (.cells cs t (0, 0))) := fun cs t => heap_alloc_new w _
  have HSZ : Hid ((T.node k x l r).size = l.size + 1 + r.size) := rfl
  clear h1 h2
  go_enter Try.func79, Try.ntmps79
  go_wp2
  go_region_held3 (fun w' => w'.cell? ⟨w.heap.size, 0, none⟩ = some (.string k) ∧ w'.cell? ⟨w.heap.size, 1, none⟩ = some (.int .i64 x))
    (first | go_keep | (go_split_ands; assumption) | assumption)
    ((first
      | (go_at_call 56; have _t := t1; refine (size_any (H1.out _ (same_alloc w _).drew)).mono ?_; rintro e w1 ⟨rfl, rfl⟩; clear t1)
      | (go_at_call 56; refine (size_any (H2.out _ (same_alloc w _).drew)).mono ?_; rintro e w1 ⟨rfl, rfl⟩)))
  go_wp2
  go_returns
  have hcs : (((T.node k x l r).size : Nat) : Int) = (l.size : Int) + 1 + (r.size : Int) := by rw [HSZ.out]; omega
  have kk : Same w (((w.alloc (.cells #[.string k, .int .i64 x] 54)).drew).alloc (.cells #[.string k, .int .i64 x, .pointer p1, .pointer p2, .int .i64 ((l.size : Int) + 1 + (r.size : Int))] 99)) := Kept.trans (same_alloc w _).drew (same_alloc _ _)
  refine ⟨_, rfl, ⟨w.heap.size + 1, .pointer p1, .pointer p2, by first | rfl | simp, ?_, H1.out _ kk, H2.out _ kk⟩, kk⟩
  have z := heap_alloc_new ((w.alloc (.cells #[.string k, .int .i64 x] 54)).drew) (.cells #[.string k, .int .i64 x, .pointer p1, .pointer p2, .int .i64 ((l.size : Int) + 1 + (r.size : Int))] 99)
  have hz : ((w.alloc (.cells #[.string k, .int .i64 x] 54)).drew).heap.size = w.heap.size + 1 := World.size_alloc w _
  rw [hz] at z
  rw [BC, hcs]
  exact z
end Go.Proofs.Ytelngbkbdihdnaa
namespace Go.Proofs.Ytelngbkbdihdnaa
open Go.RowKit
set_option linter.unusedVariables false
/-- A node's cells. -/
theorem BT.cells {w : World} {g : Nat} {k : ByteArray} {x : Int} {lo hi : Value} {n : Nat} (h : w.heap[g]? = some (.cells (BC k x lo hi n) 99 (0, 0))) :
    w.cell? ⟨g, 0, none⟩ = some (.string k) ∧ w.cell? ⟨g, 1, none⟩ = some (.int .i64 x) ∧ w.cell? ⟨g, 2, none⟩ = some lo ∧ w.cell? ⟨g, 3, none⟩ = some hi := ⟨blk_cell h, blk_cell h, blk_cell h, blk_cell h⟩
set_option maxHeartbeats 4000000 in
set_option maxRecDepth 100000 in
theorem turnDown_any {w : World} {lo hi : Value} {l r : T} (k : ByteArray) (x : Int) (h1 : BT w lo l) (h2 : BT w hi r) (hs : l.size + 1 + r.size ≤ 1125899906842624) (hb : 3 * l.size < r.size) (h0 : 1 < l.size + r.size) :
    Calls Try.prog 87 #[lo, It k x, hi] w fun e w' => ∃ v t, e = .returned v ∧ BT w' v t ∧ t.list = l.list ++ (k, x) :: r.list ∧ Same w w' := by
  obtain ⟨po, rfl⟩ := h1.ptr
  cases r with
  | nil => simp [T.size] at hb
  | node rk rv rl rr =>
    obtain ⟨gh, mlo, mhi, rfl, hbk, hml, hmh⟩ := h2
    obtain ⟨pl, rfl⟩ := hml.ptr
    obtain ⟨ph, rfl⟩ := hmh.ptr
    have HO : Hid (∀ W, Same w W → BT W (.pointer po) l) := fun W k => h1.same k
    have HL : Hid (∀ W, Same w W → BT W (.pointer pl) rl) := fun W k => hml.same k
    have HH : Hid (∀ W, Same w W → BT W (.pointer ph) rr) := fun W k => hmh.same k
    have HC : Hid (∀ W, Same w W → W.cell? ⟨gh, 0, none⟩ = some (.string rk) ∧ W.cell? ⟨gh, 1, none⟩ = some (.int .i64 rv) ∧ W.cell? ⟨gh, 2, none⟩ = some (.pointer pl) ∧ W.cell? ⟨gh, 3, none⟩ = some (.pointer ph)) := fun W k => BT.cells (blk_kept k (fun h => h) hbk)
    have HBX : Hid (∀ W cs t, Same (w.alloc (.cells cs t)) W → W.heap[w.heap.size]? = some (.cells cs t (0, 0))) := fun W cs t k => blk_kept k (fun h => h) (heap_alloc_new w _)
    have hsz : (T.node rk rv rl rr).size = rl.size + 1 + rr.size := rfl
    rw [hsz] at hs hb h0
    have hsa : ∀ o, ((w.alloc o)).cell? ⟨gh, 0, none⟩ = some (.string rk) ∧ ((w.alloc o)).cell? ⟨gh, 1, none⟩ = some (.int .i64 rv) ∧ ((w.alloc o)).cell? ⟨gh, 2, none⟩ = some (.pointer pl) ∧ ((w.alloc o)).cell? ⟨gh, 3, none⟩ = some (.pointer ph) := fun o => HC.out _ (same_alloc w o)
    have a2 := fun o => (hsa o).2.2.1
    have a3 := fun o => (hsa o).2.2.2
    have hwm : IntKind.i64.wrap (2 * (rr.size : Int)) = 2 * (rr.size : Int) := by rw [IntKind.wrap_i64]; omega
    have t1 : True := trivial
    clear hsa h1 hml hmh hbk
    by_cases hm : rl.size < 2 * rr.size
    · have q1 : (rl.size : Int) < 2 * (rr.size : Int) := by omega
      go_enter Try.func87, Try.ntmps87
      go_wp2
      go_region_held3 (fun w' => w'.cell? ⟨gh, 3, none⟩ = some (.pointer ph))
        (first | go_keep | (go_split_ands; assumption) | assumption)
        ((first
          | (go_at_call 56; have _t := t1; refine (size_any (HL.out _ (same_alloc w _).drew)).mono ?_; rintro e w1 ⟨rfl, rfl⟩; clear t1)
          | (go_at_call 56; refine (size_any (HH.out _ (same_alloc w _).drew)).mono ?_; rintro e w1 ⟨rfl, rfl⟩)))
      go_wp2
      have t2 : True := trivial
      have t3 : True := trivial
      obtain ⟨w2, hw2⟩ : ∃ W, W = (w.alloc (.cells #[.string k, .int .i64 x] 54)).drew := ⟨_, rfl⟩
      rw [← hw2]
      have k2 : Same w w2 := by rw [hw2]; exact (same_alloc w _).drew
      have kb2 : Same (w.alloc (.cells #[.string k, .int .i64 x] 54)) w2 := by rw [hw2]; exact (Kept.refl _ _).drew
      have K2 := hidden k2
      have b2 := HBX.out w2 _ _ kb2
      have x0 : w2.cell? ⟨w.heap.size, 0, none⟩ = some (.string k) := blk_cell b2
      have x1 : w2.cell? ⟨w.heap.size, 1, none⟩ = some (.int .i64 x) := blk_cell b2
      obtain ⟨d0, d1, d2, d3⟩ := HC.out w2 k2
      clear hw2 kb2 k2 b2 a2 a3
      go_region_held3 (fun w' => w'.cell? ⟨w.heap.size, 0, none⟩ = some (.string k) ∧ w'.cell? ⟨w.heap.size, 1, none⟩ = some (.int .i64 x) ∧ w'.cell? ⟨gh, 0, none⟩ = some (.string rk) ∧ w'.cell? ⟨gh, 1, none⟩ = some (.int .i64 rv) ∧ w'.cell? ⟨gh, 3, none⟩ = some (.pointer ph))
        (first | go_keep | (go_split_ands; exact ⟨by assumption, by assumption, by assumption, by assumption, by assumption⟩))
        ((first
          | (go_at_call 79; have _t := t2; go_must (refine (newB_any k x (HO.out _ (Kept.trans K2.out (Kept.refl _ w2).drew)) (HL.out _ (Kept.trans K2.out (Kept.refl _ w2).drew)) (by first | omega | (simp only [T.size]; omega))).mono ?_); rintro e w3 ⟨v3, rfl, hv3, k3⟩; obtain ⟨p3, rfl⟩ := hv3.ptr; have V3 := hidden hv3; have k3' := hidden (Kept.trans (Kept.refl _ w2).drew k3); have S3 := hidden (Kept.trans K2.out k3'.out); have x0' := Kept.cell k3'.out (fun h => h) x0; have x1' := Kept.cell k3'.out (fun h => h) x1; have d0' := Kept.cell k3'.out (fun h => h) d0; have d1' := Kept.cell k3'.out (fun h => h) d1; have d2' := Kept.cell k3'.out (fun h => h) d2; have d3' := Kept.cell k3'.out (fun h => h) d3; clear t2 hv3 k3)
          | (go_at_call 79; have _t := t3; go_must (refine (newB_any rk rv V3.out (HH.out _ S3.out) (by first | omega | (simp only [T.size]; omega))).mono ?_); rintro e w4 ⟨v4, rfl, hv4, k4⟩; obtain ⟨p4, rfl⟩ := hv4.ptr; have V4 := hidden hv4; have k4' := hidden (k4); have S4 := hidden (Kept.trans S3.out k4'.out); have x0'' := Kept.cell k4'.out (fun h => h) x0'; have x1'' := Kept.cell k4'.out (fun h => h) x1'; have d0'' := Kept.cell k4'.out (fun h => h) d0'; have d1'' := Kept.cell k4'.out (fun h => h) d1'; have d2'' := Kept.cell k4'.out (fun h => h) d2'; have d3'' := Kept.cell k4'.out (fun h => h) d3'; clear t3 hv4 k4)))
      go_wp2
      go_returns
      exact ⟨_, _, rfl, V4.out, by simp [T.list], S4.out⟩
    · have q1 : ¬ (rl.size : Int) < 2 * (rr.size : Int) := by omega
      cases rl with
      | nil => simp [T.size] at hm hb h0; omega
      | node mk mv ml mr =>
      obtain ⟨gm, nlo, nhi, he, hbm, hnl, hnh⟩ := HL.out w (Kept.refl _ _)
      obtain ⟨ql, rfl⟩ := hnl.ptr
      obtain ⟨qh, rfl⟩ := hnh.ptr
      simp only [Value.pointer.injEq] at he
      subst he
      have HML : Hid (∀ W, Same w W → BT W (.pointer ql) ml) := fun W k => hnl.same k
      have HMR : Hid (∀ W, Same w W → BT W (.pointer qh) mr) := fun W k => hnh.same k
      have HMC : Hid (∀ W, Same w W → W.cell? ⟨gm, 0, none⟩ = some (.string mk) ∧ W.cell? ⟨gm, 1, none⟩ = some (.int .i64 mv) ∧ W.cell? ⟨gm, 2, none⟩ = some (.pointer ql) ∧ W.cell? ⟨gm, 3, none⟩ = some (.pointer qh)) := fun W k => BT.cells (blk_kept k (fun h => h) hbm)
      have hsz2 : (T.node mk mv ml mr).size = ml.size + 1 + mr.size := rfl
      rw [hsz2] at hs
      clear hnl hnh hbm
      go_enter Try.func87, Try.ntmps87
      go_wp2
      go_region_held3 (fun w' => w'.cell? ⟨gh, 3, none⟩ = some (.pointer ph))
        (first | go_keep | (go_split_ands; assumption) | assumption)
        ((first
          | (go_at_call 56; have _t := t1; refine (size_any (HL.out _ (same_alloc w _).drew)).mono ?_; rintro e w1 ⟨rfl, rfl⟩; clear t1)
          | (go_at_call 56; refine (size_any (HH.out _ (same_alloc w _).drew)).mono ?_; rintro e w1 ⟨rfl, rfl⟩)))
      go_wp2
      have t2 : True := trivial
      have t3 : True := trivial
      have t4 : True := trivial
      obtain ⟨w2, hw2⟩ : ∃ W, W = (w.alloc (.cells #[.string k, .int .i64 x] 54)).drew := ⟨_, rfl⟩
      rw [← hw2]
      have k2 : Same w w2 := by rw [hw2]; exact (same_alloc w _).drew
      have kb2 : Same (w.alloc (.cells #[.string k, .int .i64 x] 54)) w2 := by rw [hw2]; exact (Kept.refl _ _).drew
      have K2 := hidden k2
      have b2 := HBX.out w2 _ _ kb2
      have x0 : w2.cell? ⟨w.heap.size, 0, none⟩ = some (.string k) := blk_cell b2
      have x1 : w2.cell? ⟨w.heap.size, 1, none⟩ = some (.int .i64 x) := blk_cell b2
      obtain ⟨d0, d1, d2, d3⟩ := HC.out w2 k2
      obtain ⟨m0, m1, m2, m3⟩ := HMC.out w2 k2
      clear hw2 kb2 k2 b2 a2 a3
      go_region_held3 (fun w' => w'.cell? ⟨w.heap.size, 0, none⟩ = some (.string k) ∧ w'.cell? ⟨w.heap.size, 1, none⟩ = some (.int .i64 x) ∧ w'.cell? ⟨gh, 0, none⟩ = some (.string rk) ∧ w'.cell? ⟨gh, 1, none⟩ = some (.int .i64 rv) ∧ w'.cell? ⟨gh, 3, none⟩ = some (.pointer ph) ∧ w'.cell? ⟨gm, 0, none⟩ = some (.string mk) ∧ w'.cell? ⟨gm, 1, none⟩ = some (.int .i64 mv) ∧ w'.cell? ⟨gm, 2, none⟩ = some (.pointer ql) ∧ w'.cell? ⟨gm, 3, none⟩ = some (.pointer qh))
        (first | go_keep | (go_split_ands; exact ⟨by assumption, by assumption, by assumption, by assumption, by assumption, by assumption, by assumption, by assumption, by assumption⟩))
        ((first
          | (go_at_call 79; have _t := t2; go_must (refine (newB_any k x (HO.out _ (Kept.trans K2.out (Kept.refl _ w2).drew)) (HML.out _ (Kept.trans K2.out (Kept.refl _ w2).drew)) (by first | omega | (simp only [T.size]; omega))).mono ?_); rintro e w3 ⟨v3, rfl, hv3, k3⟩; obtain ⟨p3, rfl⟩ := hv3.ptr; have V3 := hidden hv3; have k3' := hidden (Kept.trans (Kept.refl _ w2).drew k3); have S3 := hidden (Kept.trans K2.out k3'.out); have x0' := Kept.cell k3'.out (fun h => h) x0; have x1' := Kept.cell k3'.out (fun h => h) x1; have d0' := Kept.cell k3'.out (fun h => h) d0; have d1' := Kept.cell k3'.out (fun h => h) d1; have d2' := Kept.cell k3'.out (fun h => h) d2; have d3' := Kept.cell k3'.out (fun h => h) d3; have m0' := Kept.cell k3'.out (fun h => h) m0; have m1' := Kept.cell k3'.out (fun h => h) m1; have m2' := Kept.cell k3'.out (fun h => h) m2; have m3' := Kept.cell k3'.out (fun h => h) m3; clear t2 hv3 k3)
          | (go_at_call 79; have _t := t3; go_must (refine (newB_any rk rv (HMR.out _ S3.out) (HH.out _ S3.out) (by first | omega | (simp only [T.size]; omega))).mono ?_); rintro e w4 ⟨v4, rfl, hv4, k4⟩; obtain ⟨p4, rfl⟩ := hv4.ptr; have V4 := hidden hv4; have k4' := hidden (k4); have S4 := hidden (Kept.trans S3.out k4'.out); have x0'' := Kept.cell k4'.out (fun h => h) x0'; have x1'' := Kept.cell k4'.out (fun h => h) x1'; have d0'' := Kept.cell k4'.out (fun h => h) d0'; have d1'' := Kept.cell k4'.out (fun h => h) d1'; have d2'' := Kept.cell k4'.out (fun h => h) d2'; have d3'' := Kept.cell k4'.out (fun h => h) d3'; have m0'' := Kept.cell k4'.out (fun h => h) m0'; have m1'' := Kept.cell k4'.out (fun h => h) m1'; have m2'' := Kept.cell k4'.out (fun h => h) m2'; have m3'' := Kept.cell k4'.out (fun h => h) m3'; clear t3 hv4 k4)
          | (go_at_call 79; have _t := t4; go_must (refine (newB_any mk mv (V3.out.same k4'.out) V4.out (by first | omega | (simp only [T.size]; omega))).mono ?_); rintro e w5 ⟨v5, rfl, hv5, k5⟩; obtain ⟨p5, rfl⟩ := hv5.ptr; have V5 := hidden hv5; have k5' := hidden (k5); have S5 := hidden (Kept.trans S4.out k5'.out); have x0''' := Kept.cell k5'.out (fun h => h) x0''; have x1''' := Kept.cell k5'.out (fun h => h) x1''; have d0''' := Kept.cell k5'.out (fun h => h) d0''; have d1''' := Kept.cell k5'.out (fun h => h) d1''; have d2''' := Kept.cell k5'.out (fun h => h) d2''; have d3''' := Kept.cell k5'.out (fun h => h) d3''; have m0''' := Kept.cell k5'.out (fun h => h) m0''; have m1''' := Kept.cell k5'.out (fun h => h) m1''; have m2''' := Kept.cell k5'.out (fun h => h) m2''; have m3''' := Kept.cell k5'.out (fun h => h) m3''; clear t4 hv5 k5)))
      go_wp2
      go_returns
      exact ⟨_, _, rfl, V5.out, by simp [T.list], S5.out⟩
set_option maxHeartbeats 4000000 in
set_option maxRecDepth 100000 in
theorem turnUp_any {w : World} {lo hi : Value} {l r : T} (k : ByteArray) (x : Int) (h1 : BT w lo l) (h2 : BT w hi r) (hs : l.size + 1 + r.size ≤ 1125899906842624) (hb : 3 * r.size < l.size) (h0 : 1 < l.size + r.size) :
    Calls Try.prog 88 #[lo, It k x, hi] w fun e w' => ∃ v t, e = .returned v ∧ BT w' v t ∧ t.list = l.list ++ (k, x) :: r.list ∧ Same w w' := by
  obtain ⟨po, rfl⟩ := h2.ptr
  cases l with
  | nil => simp [T.size] at hb
  | node rk rv rl rr =>
    obtain ⟨gh, mlo, mhi, rfl, hbk, hml, hmh⟩ := h1
    obtain ⟨pl, rfl⟩ := hml.ptr
    obtain ⟨ph, rfl⟩ := hmh.ptr
    have HO : Hid (∀ W, Same w W → BT W (.pointer po) r) := fun W k => h2.same k
    have HL : Hid (∀ W, Same w W → BT W (.pointer pl) rl) := fun W k => hml.same k
    have HH : Hid (∀ W, Same w W → BT W (.pointer ph) rr) := fun W k => hmh.same k
    have HC : Hid (∀ W, Same w W → W.cell? ⟨gh, 0, none⟩ = some (.string rk) ∧ W.cell? ⟨gh, 1, none⟩ = some (.int .i64 rv) ∧ W.cell? ⟨gh, 2, none⟩ = some (.pointer pl) ∧ W.cell? ⟨gh, 3, none⟩ = some (.pointer ph)) := fun W k => BT.cells (blk_kept k (fun h => h) hbk)
    have HBX : Hid (∀ W cs t, Same (w.alloc (.cells cs t)) W → W.heap[w.heap.size]? = some (.cells cs t (0, 0))) := fun W cs t k => blk_kept k (fun h => h) (heap_alloc_new w _)
    have hsz : (T.node rk rv rl rr).size = rl.size + 1 + rr.size := rfl
    rw [hsz] at hs hb h0
    have hsa : ∀ o, ((w.alloc o)).cell? ⟨gh, 0, none⟩ = some (.string rk) ∧ ((w.alloc o)).cell? ⟨gh, 1, none⟩ = some (.int .i64 rv) ∧ ((w.alloc o)).cell? ⟨gh, 2, none⟩ = some (.pointer pl) ∧ ((w.alloc o)).cell? ⟨gh, 3, none⟩ = some (.pointer ph) := fun o => HC.out _ (same_alloc w o)
    have a2 := fun o => (hsa o).2.2.1
    have a3 := fun o => (hsa o).2.2.2
    have hwm : IntKind.i64.wrap (2 * (rl.size : Int)) = 2 * (rl.size : Int) := by rw [IntKind.wrap_i64]; omega
    have t1 : True := trivial
    clear hsa h2 hml hmh hbk
    by_cases hm : rr.size < 2 * rl.size
    · have q1 : (rr.size : Int) < 2 * (rl.size : Int) := by omega
      go_enter Try.func88, Try.ntmps88
      go_wp2
      go_region_held3 (fun w' => w'.cell? ⟨gh, 2, none⟩ = some (.pointer pl))
        (first | go_keep | (go_split_ands; assumption) | assumption)
        ((first
          | (go_at_call 56; have _t := t1; refine (size_any (HH.out _ (same_alloc w _).drew)).mono ?_; rintro e w1 ⟨rfl, rfl⟩; clear t1)
          | (go_at_call 56; refine (size_any (HL.out _ (same_alloc w _).drew)).mono ?_; rintro e w1 ⟨rfl, rfl⟩)))
      go_wp2
      have t2 : True := trivial
      have t3 : True := trivial
      obtain ⟨w2, hw2⟩ : ∃ W, W = (w.alloc (.cells #[.string k, .int .i64 x] 54)).drew := ⟨_, rfl⟩
      rw [← hw2]
      have k2 : Same w w2 := by rw [hw2]; exact (same_alloc w _).drew
      have kb2 : Same (w.alloc (.cells #[.string k, .int .i64 x] 54)) w2 := by rw [hw2]; exact (Kept.refl _ _).drew
      have K2 := hidden k2
      have b2 := HBX.out w2 _ _ kb2
      have x0 : w2.cell? ⟨w.heap.size, 0, none⟩ = some (.string k) := blk_cell b2
      have x1 : w2.cell? ⟨w.heap.size, 1, none⟩ = some (.int .i64 x) := blk_cell b2
      obtain ⟨d0, d1, d2, d3⟩ := HC.out w2 k2
      clear hw2 kb2 k2 b2 a2 a3
      go_region_held3 (fun w' => w'.cell? ⟨w.heap.size, 0, none⟩ = some (.string k) ∧ w'.cell? ⟨w.heap.size, 1, none⟩ = some (.int .i64 x) ∧ w'.cell? ⟨gh, 0, none⟩ = some (.string rk) ∧ w'.cell? ⟨gh, 1, none⟩ = some (.int .i64 rv) ∧ w'.cell? ⟨gh, 2, none⟩ = some (.pointer pl))
        (first | go_keep | (go_split_ands; exact ⟨by assumption, by assumption, by assumption, by assumption, by assumption⟩))
        ((first
          | (go_at_call 79; have _t := t2; go_must (refine (newB_any k x (HH.out _ (Kept.trans K2.out (Kept.refl _ w2).drew)) (HO.out _ (Kept.trans K2.out (Kept.refl _ w2).drew)) (by first | omega | (simp only [T.size]; omega))).mono ?_); rintro e w3 ⟨v3, rfl, hv3, k3⟩; obtain ⟨p3, rfl⟩ := hv3.ptr; have V3 := hidden hv3; have k3' := hidden (Kept.trans (Kept.refl _ w2).drew k3); have S3 := hidden (Kept.trans K2.out k3'.out); have x0' := Kept.cell k3'.out (fun h => h) x0; have x1' := Kept.cell k3'.out (fun h => h) x1; have d0' := Kept.cell k3'.out (fun h => h) d0; have d1' := Kept.cell k3'.out (fun h => h) d1; have d2' := Kept.cell k3'.out (fun h => h) d2; have d3' := Kept.cell k3'.out (fun h => h) d3; clear t2 hv3 k3)
          | (go_at_call 79; have _t := t3; go_must (refine (newB_any rk rv (HL.out _ S3.out) V3.out (by first | omega | (simp only [T.size]; omega))).mono ?_); rintro e w4 ⟨v4, rfl, hv4, k4⟩; obtain ⟨p4, rfl⟩ := hv4.ptr; have V4 := hidden hv4; have k4' := hidden (k4); have S4 := hidden (Kept.trans S3.out k4'.out); have x0'' := Kept.cell k4'.out (fun h => h) x0'; have x1'' := Kept.cell k4'.out (fun h => h) x1'; have d0'' := Kept.cell k4'.out (fun h => h) d0'; have d1'' := Kept.cell k4'.out (fun h => h) d1'; have d2'' := Kept.cell k4'.out (fun h => h) d2'; have d3'' := Kept.cell k4'.out (fun h => h) d3'; clear t3 hv4 k4)))
      go_wp2
      go_returns
      exact ⟨_, _, rfl, V4.out, by simp [T.list], S4.out⟩
    · have q1 : ¬ (rr.size : Int) < 2 * (rl.size : Int) := by omega
      cases rr with
      | nil => simp [T.size] at hm hb h0; omega
      | node mk mv ml mr =>
      obtain ⟨gm, nlo, nhi, he, hbm, hnl, hnh⟩ := HH.out w (Kept.refl _ _)
      obtain ⟨ql, rfl⟩ := hnl.ptr
      obtain ⟨qh, rfl⟩ := hnh.ptr
      simp only [Value.pointer.injEq] at he
      subst he
      have HML : Hid (∀ W, Same w W → BT W (.pointer ql) ml) := fun W k => hnl.same k
      have HMR : Hid (∀ W, Same w W → BT W (.pointer qh) mr) := fun W k => hnh.same k
      have HMC : Hid (∀ W, Same w W → W.cell? ⟨gm, 0, none⟩ = some (.string mk) ∧ W.cell? ⟨gm, 1, none⟩ = some (.int .i64 mv) ∧ W.cell? ⟨gm, 2, none⟩ = some (.pointer ql) ∧ W.cell? ⟨gm, 3, none⟩ = some (.pointer qh)) := fun W k => BT.cells (blk_kept k (fun h => h) hbm)
      have hsz2 : (T.node mk mv ml mr).size = ml.size + 1 + mr.size := rfl
      rw [hsz2] at hs
      clear hnl hnh hbm
      go_enter Try.func88, Try.ntmps88
      go_wp2
      go_region_held3 (fun w' => w'.cell? ⟨gh, 2, none⟩ = some (.pointer pl))
        (first | go_keep | (go_split_ands; assumption) | assumption)
        ((first
          | (go_at_call 56; have _t := t1; refine (size_any (HH.out _ (same_alloc w _).drew)).mono ?_; rintro e w1 ⟨rfl, rfl⟩; clear t1)
          | (go_at_call 56; refine (size_any (HL.out _ (same_alloc w _).drew)).mono ?_; rintro e w1 ⟨rfl, rfl⟩)))
      go_wp2
      have t2 : True := trivial
      have t3 : True := trivial
      have t4 : True := trivial
      obtain ⟨w2, hw2⟩ : ∃ W, W = (w.alloc (.cells #[.string k, .int .i64 x] 54)).drew := ⟨_, rfl⟩
      rw [← hw2]
      have k2 : Same w w2 := by rw [hw2]; exact (same_alloc w _).drew
      have kb2 : Same (w.alloc (.cells #[.string k, .int .i64 x] 54)) w2 := by rw [hw2]; exact (Kept.refl _ _).drew
      have K2 := hidden k2
      have b2 := HBX.out w2 _ _ kb2
      have x0 : w2.cell? ⟨w.heap.size, 0, none⟩ = some (.string k) := blk_cell b2
      have x1 : w2.cell? ⟨w.heap.size, 1, none⟩ = some (.int .i64 x) := blk_cell b2
      obtain ⟨d0, d1, d2, d3⟩ := HC.out w2 k2
      obtain ⟨m0, m1, m2, m3⟩ := HMC.out w2 k2
      clear hw2 kb2 k2 b2 a2 a3
      go_region_held3 (fun w' => w'.cell? ⟨w.heap.size, 0, none⟩ = some (.string k) ∧ w'.cell? ⟨w.heap.size, 1, none⟩ = some (.int .i64 x) ∧ w'.cell? ⟨gh, 0, none⟩ = some (.string rk) ∧ w'.cell? ⟨gh, 1, none⟩ = some (.int .i64 rv) ∧ w'.cell? ⟨gh, 2, none⟩ = some (.pointer pl) ∧ w'.cell? ⟨gm, 0, none⟩ = some (.string mk) ∧ w'.cell? ⟨gm, 1, none⟩ = some (.int .i64 mv) ∧ w'.cell? ⟨gm, 2, none⟩ = some (.pointer ql) ∧ w'.cell? ⟨gm, 3, none⟩ = some (.pointer qh))
        (first | go_keep | (go_split_ands; exact ⟨by assumption, by assumption, by assumption, by assumption, by assumption, by assumption, by assumption, by assumption, by assumption⟩))
        ((first
          | (go_at_call 79; have _t := t2; go_must (refine (newB_any rk rv (HL.out _ (Kept.trans K2.out (Kept.refl _ w2).drew)) (HML.out _ (Kept.trans K2.out (Kept.refl _ w2).drew)) (by first | omega | (simp only [T.size]; omega))).mono ?_); rintro e w3 ⟨v3, rfl, hv3, k3⟩; obtain ⟨p3, rfl⟩ := hv3.ptr; have V3 := hidden hv3; have k3' := hidden (Kept.trans (Kept.refl _ w2).drew k3); have S3 := hidden (Kept.trans K2.out k3'.out); have x0' := Kept.cell k3'.out (fun h => h) x0; have x1' := Kept.cell k3'.out (fun h => h) x1; have d0' := Kept.cell k3'.out (fun h => h) d0; have d1' := Kept.cell k3'.out (fun h => h) d1; have d2' := Kept.cell k3'.out (fun h => h) d2; have d3' := Kept.cell k3'.out (fun h => h) d3; have m0' := Kept.cell k3'.out (fun h => h) m0; have m1' := Kept.cell k3'.out (fun h => h) m1; have m2' := Kept.cell k3'.out (fun h => h) m2; have m3' := Kept.cell k3'.out (fun h => h) m3; clear t2 hv3 k3)
          | (go_at_call 79; have _t := t3; go_must (refine (newB_any k x (HMR.out _ S3.out) (HO.out _ S3.out) (by first | omega | (simp only [T.size]; omega))).mono ?_); rintro e w4 ⟨v4, rfl, hv4, k4⟩; obtain ⟨p4, rfl⟩ := hv4.ptr; have V4 := hidden hv4; have k4' := hidden (k4); have S4 := hidden (Kept.trans S3.out k4'.out); have x0'' := Kept.cell k4'.out (fun h => h) x0'; have x1'' := Kept.cell k4'.out (fun h => h) x1'; have d0'' := Kept.cell k4'.out (fun h => h) d0'; have d1'' := Kept.cell k4'.out (fun h => h) d1'; have d2'' := Kept.cell k4'.out (fun h => h) d2'; have d3'' := Kept.cell k4'.out (fun h => h) d3'; have m0'' := Kept.cell k4'.out (fun h => h) m0'; have m1'' := Kept.cell k4'.out (fun h => h) m1'; have m2'' := Kept.cell k4'.out (fun h => h) m2'; have m3'' := Kept.cell k4'.out (fun h => h) m3'; clear t3 hv4 k4)
          | (go_at_call 79; have _t := t4; go_must (refine (newB_any mk mv (V3.out.same k4'.out) V4.out (by first | omega | (simp only [T.size]; omega))).mono ?_); rintro e w5 ⟨v5, rfl, hv5, k5⟩; obtain ⟨p5, rfl⟩ := hv5.ptr; have V5 := hidden hv5; have k5' := hidden (k5); have S5 := hidden (Kept.trans S4.out k5'.out); have x0''' := Kept.cell k5'.out (fun h => h) x0''; have x1''' := Kept.cell k5'.out (fun h => h) x1''; have d0''' := Kept.cell k5'.out (fun h => h) d0''; have d1''' := Kept.cell k5'.out (fun h => h) d1''; have d2''' := Kept.cell k5'.out (fun h => h) d2''; have d3''' := Kept.cell k5'.out (fun h => h) d3''; have m0''' := Kept.cell k5'.out (fun h => h) m0''; have m1''' := Kept.cell k5'.out (fun h => h) m1''; have m2''' := Kept.cell k5'.out (fun h => h) m2''; have m3''' := Kept.cell k5'.out (fun h => h) m3''; clear t4 hv5 k5)))
      go_wp2
      go_returns
      exact ⟨_, _, rfl, V5.out, by simp [T.list], S5.out⟩
end Go.Proofs.Ytelngbkbdihdnaa
