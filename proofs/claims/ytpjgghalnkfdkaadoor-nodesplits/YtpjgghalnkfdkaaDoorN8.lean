/- node: a head. (Made by a script in the session of round 9.) -/
import Derived.Test.YtpjgghalnkfdkaaDoorN5
/- node: a head's text. -/
/- node: Put. (Made by mkn6.py.) -/
namespace Go.Proofs.YtpjgghalnkfdkaaDoor
open Go.RowKit
set_option linter.unusedVariables false
set_option linter.unusedSimpArgs false
def Nd.zero : Nd := ⟨false, [], [], []⟩
def insL (l : List ByteArray) (i : Nat) (x : ByteArray) : List ByteArray := l.take i ++ x :: l.drop i
def Nd.put (n : Nd) (key value : ByteArray) : Nd × Int :=
  if n.leaf && decide (n.chk = 0) then
    if mayK key && mayV value then
      if n.has key then (⟨true, n.keys, n.vals.set (n.cnt key) value, n.kids⟩, 0) else (⟨true, insL n.keys (n.cnt key) key, insL n.vals (n.cnt key) value, n.kids⟩, 0)
    else (Nd.zero, 91)
  else (Nd.zero, 90)
theorem Nd.chk_leaf {n : Nd} (hl : n.leaf = true) (h : n.chk = 0) : n.vals.length = n.keys.length ∧ n.kids = [] := by
  unfold Nd.chk at h
  split at h
  · split at h
    · rename_i h1 h2
      simp only [Bool.and_eq_true, Nd.shape, Nd.lists, hl, if_true, decide_eq_true_eq] at h2
      exact ⟨h2.1.1.1.1, List.eq_nil_of_length_eq_zero h2.1.1.1.2⟩
    · cases h
  · cases h
theorem Nd.has_lt {n : Nd} {key : ByteArray} (h : n.has key = true) : n.cnt key < n.keys.length := by
  unfold Nd.has at h
  simp only [Bool.and_eq_true] at h
  rcases Nat.lt_or_ge (n.cnt key) n.keys.length with h1 | h1
  · exact h1
  · rw [List.getElem?_eq_none h1] at h
    simp at h
theorem nf_zero (B : Nat) (w : World) : NF B w (.agg #[.bool false, .slice none 0 0, .slice none 0 0, .slice none 0 0]) Nd.zero :=
  ⟨none, none, none, 0, 0, 0, rfl, World.ownsRow_nil _ _ _ _, World.ownsRow_nil _ _ _ _, World.ownsRow_nil _ _ _ _, fun k h => by cases h⟩
theorem zero_blk (w : World) (cs : Array Value) : ((w.alloc (.cells cs 25)).alloc (.cells #[.bool false, .slice none 0 0, .slice none 0 0, .slice none 0 0] 25)).heap[w.heap.size + 1]? = some (.cells #[.bool false, .slice none 0 0, .slice none 0 0, .slice none 0 0] 25 (0, 0)) := by
  have := blk_new (w.alloc (.cells cs 25)) (.cells #[.bool false, .slice none 0 0, .slice none 0 0, .slice none 0 0] 25)
  simpa using this
theorem box_blk (w : World) (cs : Array Value) (o : Obj) : ((w.alloc (.cells cs 25)).alloc o).heap[w.heap.size]? = some (.cells cs 25 (0, 0)) := blk_alloc (blk_new _ _) _
theorem ins_len (l : List ByteArray) (x : ByteArray) {i k : Nat} (h : l.length = k) (hi : i ≤ k) : (l.take i ++ x :: l.drop i).length = k + 1 := by
  simp only [List.length_append, List.length_take, List.length_cons, List.length_drop]
  omega
structure PuP (w : World) (n : Nd) (z : Int) (u : Value) (W : World) : Prop where
  out : ∃ v, u = .tuple #[v, .int .i64 z] ∧ NF w.heap.size W v n ∧ Same w W
set_option maxHeartbeats 400000 in
set_option maxRecDepth 100000 in
theorem put_noleaf (n : Nd) (a1 a2 a3 : Option Addr) (k1 c1 k2 c2 k3 c3 : Nat) (key value : ByteArray) (w : World) (hl : n.leaf = false) :
    Calls Tryd.prog 22 #[.agg #[.bool n.leaf, .slice a1 k1 c1, .slice a2 k2 c2, .slice a3 k3 c3], .string key, .string value] w fun e w' => ∃ u, e = .returned u ∧ PuP w Nd.zero 90 u w' := by
  rw [hl]
  clear hl
  have K0 : Same w ((w.alloc (.cells #[.bool false, .slice a1 k1 c1, .slice a2 k2 c2, .slice a3 k3 c3] 25)).alloc (.cells #[.bool false, .slice none 0 0, .slice none 0 0, .slice none 0 0] 25)) := ((Kept.refl _ w).alloc _).alloc _
  have g1 : ((w.alloc (.cells #[.bool false, .slice a1 k1 c1, .slice a2 k2 c2, .slice a3 k3 c3] 25)).alloc (.cells #[.bool false, .slice none 0 0, .slice none 0 0, .slice none 0 0] 25)).heap[w.heap.size + 1]? = some (.cells #[.bool false, .slice none 0 0, .slice none 0 0, .slice none 0 0] 25 (0, 0)) := zero_blk _ _
  have zc0 : ((w.alloc (.cells #[.bool false, .slice a1 k1 c1, .slice a2 k2 c2, .slice a3 k3 c3] 25)).alloc (.cells #[.bool false, .slice none 0 0, .slice none 0 0, .slice none 0 0] 25)).cell? ⟨w.heap.size + 1, 0, none⟩ = some (.bool false) := blk_cell g1
  have zf0 : ((w.alloc (.cells #[.bool false, .slice a1 k1 c1, .slice a2 k2 c2, .slice a3 k3 c3] 25)).alloc (.cells #[.bool false, .slice none 0 0, .slice none 0 0, .slice none 0 0] 25)).frozen? ⟨w.heap.size + 1, 0, none⟩ = false := blk_free g1
  have zc1 : ((w.alloc (.cells #[.bool false, .slice a1 k1 c1, .slice a2 k2 c2, .slice a3 k3 c3] 25)).alloc (.cells #[.bool false, .slice none 0 0, .slice none 0 0, .slice none 0 0] 25)).cell? ⟨w.heap.size + 1, 1, none⟩ = some (.slice none 0 0) := blk_cell g1
  have zf1 : ((w.alloc (.cells #[.bool false, .slice a1 k1 c1, .slice a2 k2 c2, .slice a3 k3 c3] 25)).alloc (.cells #[.bool false, .slice none 0 0, .slice none 0 0, .slice none 0 0] 25)).frozen? ⟨w.heap.size + 1, 1, none⟩ = false := blk_free g1
  have zc2 : ((w.alloc (.cells #[.bool false, .slice a1 k1 c1, .slice a2 k2 c2, .slice a3 k3 c3] 25)).alloc (.cells #[.bool false, .slice none 0 0, .slice none 0 0, .slice none 0 0] 25)).cell? ⟨w.heap.size + 1, 2, none⟩ = some (.slice none 0 0) := blk_cell g1
  have zf2 : ((w.alloc (.cells #[.bool false, .slice a1 k1 c1, .slice a2 k2 c2, .slice a3 k3 c3] 25)).alloc (.cells #[.bool false, .slice none 0 0, .slice none 0 0, .slice none 0 0] 25)).frozen? ⟨w.heap.size + 1, 2, none⟩ = false := blk_free g1
  have zc3 : ((w.alloc (.cells #[.bool false, .slice a1 k1 c1, .slice a2 k2 c2, .slice a3 k3 c3] 25)).alloc (.cells #[.bool false, .slice none 0 0, .slice none 0 0, .slice none 0 0] 25)).cell? ⟨w.heap.size + 1, 3, none⟩ = some (.slice none 0 0) := blk_cell g1
  have zf3 : ((w.alloc (.cells #[.bool false, .slice a1 k1 c1, .slice a2 k2 c2, .slice a3 k3 c3] 25)).alloc (.cells #[.bool false, .slice none 0 0, .slice none 0 0, .slice none 0 0] 25)).frozen? ⟨w.heap.size + 1, 3, none⟩ = false := blk_free g1
  have G1 := hidden g1
  have KK := hidden K0
  clear g1 K0
  go_enter Tryd.func22, Tryd.ntmps22
  go_wp2
  have g1z := G1.out
  have qc0 : ((w.alloc (.cells #[.bool false, .slice a1 k1 c1, .slice a2 k2 c2, .slice a3 k3 c3] 25)).alloc (.cells #[.bool false, .slice none 0 0, .slice none 0 0, .slice none 0 0] 25)).cell? ⟨w.heap.size + 1, 0, none⟩ = some (.bool false) := blk_cell g1z
  have qc1 : ((w.alloc (.cells #[.bool false, .slice a1 k1 c1, .slice a2 k2 c2, .slice a3 k3 c3] 25)).alloc (.cells #[.bool false, .slice none 0 0, .slice none 0 0, .slice none 0 0] 25)).cell? ⟨w.heap.size + 1, 1, none⟩ = some (.slice none 0 0) := blk_cell g1z
  have qc2 : ((w.alloc (.cells #[.bool false, .slice a1 k1 c1, .slice a2 k2 c2, .slice a3 k3 c3] 25)).alloc (.cells #[.bool false, .slice none 0 0, .slice none 0 0, .slice none 0 0] 25)).cell? ⟨w.heap.size + 1, 2, none⟩ = some (.slice none 0 0) := blk_cell g1z
  have qc3 : ((w.alloc (.cells #[.bool false, .slice a1 k1 c1, .slice a2 k2 c2, .slice a3 k3 c3] 25)).alloc (.cells #[.bool false, .slice none 0 0, .slice none 0 0, .slice none 0 0] 25)).cell? ⟨w.heap.size + 1, 3, none⟩ = some (.slice none 0 0) := blk_cell g1z
  refine bodyPost_ret (v := .tuple #[.agg #[.bool false, .slice none 0 0, .slice none 0 0, .slice none 0 0], .int .i64 90]) (by simp [results, Tryd.results22, go_sem, qc0, qc1, qc2, qc3]) rfl ⟨_, rfl, ⟨⟨.agg #[.bool false, .slice none 0 0, .slice none 0 0, .slice none 0 0], rfl, nf_zero _ _, KK.out⟩⟩⟩
set_option maxHeartbeats 400000 in
set_option maxRecDepth 100000 in
theorem put_nochk (n : Nd) (a1 a2 a3 : Option Addr) (k1 c1 k2 c2 k3 c3 : Nat) (key value : ByteArray) (w : World) (r1 : Row w (.slice a1 k1 c1) (TS n.keys)) (r2 : Row w (.slice a2 k2 c2) (TS n.vals)) (r3 : Row w (.slice a3 k3 c3) (IS n.kids)) (hb : n.Bd) (hl : n.leaf = true) (hc : n.chk ≠ 0) :
    Calls Tryd.prog 22 #[.agg #[.bool n.leaf, .slice a1 k1 c1, .slice a2 k2 c2, .slice a3 k3 c3], .string key, .string value] w fun e w' => ∃ u, e = .returned u ∧ PuP w Nd.zero 90 u w' := by
  have HCk := hidden (fun W (k : Same w W) => check_any n a1 a2 a3 k1 c1 k2 c2 k3 c3 W (r1.same k) (r2.same k) (r3.same k) hb)
  generalize n.chk = z at *
  have hz : (z == 0) = false := beq_eq_false_iff_ne.2 hc
  have hz2 : (z != 0) = true := by rw [bne_iff_ne]; exact hc
  clear r1 r2 r3 hb
  rw [hl] at HCk ⊢
  have K0 : Hid (Same w ((w.alloc (.cells #[.bool true, .slice a1 k1 c1, .slice a2 k2 c2, .slice a3 k3 c3] 25)).alloc (.cells #[.bool false, .slice none 0 0, .slice none 0 0, .slice none 0 0] 25))) := hidden (((Kept.refl _ w).alloc _).alloc _)
  have i0 := box_blk w #[.bool true, .slice a1 k1 c1, .slice a2 k2 c2, .slice a3 k3 c3] (.cells #[.bool false, .slice none 0 0, .slice none 0 0, .slice none 0 0] 25)
  clear hl i0
  go_enter Tryd.func22, Tryd.ntmps22
  go_wp2_with (go_at_call 13; refine (HCk.out _ K0.out).mono ?_; rintro e w1 ⟨rfl, q1⟩; have g0 : w1.heap[w.heap.size]? = some (.cells #[.bool true, .slice a1 k1 c1, .slice a2 k2 c2, .slice a3 k3 c3] 25 (0, 0)) := blk_kept q1 (fun h => h) (box_blk _ _ _); have g1 : w1.heap[w.heap.size + 1]? = some (.cells #[.bool false, .slice none 0 0, .slice none 0 0, .slice none 0 0] 25 (0, 0)) := blk_kept q1 (fun h => h) (zero_blk _ _); have xc0 : w1.cell? ⟨w.heap.size, 0, none⟩ = some (.bool true) := blk_cell g0; have xf0 : w1.frozen? ⟨w.heap.size, 0, none⟩ = false := blk_free g0; have xc1 : w1.cell? ⟨w.heap.size, 1, none⟩ = some (.slice a1 k1 c1) := blk_cell g0; have xf1 : w1.frozen? ⟨w.heap.size, 1, none⟩ = false := blk_free g0; have xc2 : w1.cell? ⟨w.heap.size, 2, none⟩ = some (.slice a2 k2 c2) := blk_cell g0; have xf2 : w1.frozen? ⟨w.heap.size, 2, none⟩ = false := blk_free g0; have xc3 : w1.cell? ⟨w.heap.size, 3, none⟩ = some (.slice a3 k3 c3) := blk_cell g0; have xf3 : w1.frozen? ⟨w.heap.size, 3, none⟩ = false := blk_free g0; have zc0 : w1.cell? ⟨w.heap.size + 1, 0, none⟩ = some (.bool false) := blk_cell g1; have zf0 : w1.frozen? ⟨w.heap.size + 1, 0, none⟩ = false := blk_free g1; have zc1 : w1.cell? ⟨w.heap.size + 1, 1, none⟩ = some (.slice none 0 0) := blk_cell g1; have zf1 : w1.frozen? ⟨w.heap.size + 1, 1, none⟩ = false := blk_free g1; have zc2 : w1.cell? ⟨w.heap.size + 1, 2, none⟩ = some (.slice none 0 0) := blk_cell g1; have zf2 : w1.frozen? ⟨w.heap.size + 1, 2, none⟩ = false := blk_free g1; have zc3 : w1.cell? ⟨w.heap.size + 1, 3, none⟩ = some (.slice none 0 0) := blk_cell g1; have zf3 : w1.frozen? ⟨w.heap.size + 1, 3, none⟩ = false := blk_free g1; have G0 := hidden g0; have G1 := hidden g1; have K1 := hidden (K0.out.trans q1); clear q1 g0 g1)
  have gf := fill4 G1.out (.bool false) (.slice none 0 0) (.slice none 0 0) (.slice none 0 0)
  have kf := kept_fill4 (W := w1) (g := w.heap.size + 1) (.bool false) (.slice none 0 0) (.slice none 0 0) (.slice none 0 0)
  have sf := same_fill4 K1.out (g := w.heap.size + 1) (by omega) (.bool false) (.slice none 0 0) (.slice none 0 0) (.slice none 0 0)
  generalize ((((w1.setCell ⟨w.heap.size + 1, 0, none⟩ (.bool false)).setCell ⟨w.heap.size + 1, 1, none⟩ (.slice none 0 0)).setCell ⟨w.heap.size + 1, 2, none⟩ (.slice none 0 0)).setCell ⟨w.heap.size + 1, 3, none⟩ (.slice none 0 0)) = WF at gf kf sf ⊢
  have qc0 : WF.cell? ⟨w.heap.size + 1, 0, none⟩ = some (.bool false) := blk_cell gf
  have qc1 : WF.cell? ⟨w.heap.size + 1, 1, none⟩ = some (.slice none 0 0) := blk_cell gf
  have qc2 : WF.cell? ⟨w.heap.size + 1, 2, none⟩ = some (.slice none 0 0) := blk_cell gf
  have qc3 : WF.cell? ⟨w.heap.size + 1, 3, none⟩ = some (.slice none 0 0) := blk_cell gf
  refine bodyPost_ret (v := .tuple #[.agg #[.bool false, .slice none 0 0, .slice none 0 0, .slice none 0 0], .int .i64 90]) (by simp [results, Tryd.results22, go_sem, qc0, qc1, qc2, qc3]) rfl ⟨_, rfl, ⟨⟨.agg #[.bool false, .slice none 0 0, .slice none 0 0, .slice none 0 0], rfl, ?_, sf⟩⟩⟩
  exact nf_zero _ _
set_option maxHeartbeats 400000 in
set_option maxRecDepth 100000 in
theorem put_nokey (n : Nd) (a1 a2 a3 : Option Addr) (k1 c1 k2 c2 k3 c3 : Nat) (key value : ByteArray) (w : World) (r1 : Row w (.slice a1 k1 c1) (TS n.keys)) (r2 : Row w (.slice a2 k2 c2) (TS n.vals)) (r3 : Row w (.slice a3 k3 c3) (IS n.kids)) (hb : n.Bd) (hl : n.leaf = true) (hc : n.chk = 0) (hk : mayK key = false) :
    Calls Tryd.prog 22 #[.agg #[.bool n.leaf, .slice a1 k1 c1, .slice a2 k2 c2, .slice a3 k3 c3], .string key, .string value] w fun e w' => ∃ u, e = .returned u ∧ PuP w Nd.zero 91 u w' := by
  have HCk := hidden (fun W (k : Same w W) => check_any n a1 a2 a3 k1 c1 k2 c2 k3 c3 W (r1.same k) (r2.same k) (r3.same k) hb)
  have HMk := hidden (fun W => mayKey_any key W)
  have HMv := hidden (fun W => mayValue_any value W)
  rw [hc] at HCk
  rw [hk] at HMk
  clear r1 r2 r3 hb
  rw [hl] at HCk ⊢
  have K0 : Hid (Same w ((w.alloc (.cells #[.bool true, .slice a1 k1 c1, .slice a2 k2 c2, .slice a3 k3 c3] 25)).alloc (.cells #[.bool false, .slice none 0 0, .slice none 0 0, .slice none 0 0] 25))) := hidden (((Kept.refl _ w).alloc _).alloc _)
  have i0 := box_blk w #[.bool true, .slice a1 k1 c1, .slice a2 k2 c2, .slice a3 k3 c3] (.cells #[.bool false, .slice none 0 0, .slice none 0 0, .slice none 0 0] 25)
  clear hl i0 hc hk
  go_enter Tryd.func22, Tryd.ntmps22
  go_wp2_with (first
    | (go_at_call 13; refine (HCk.out _ K0.out).mono ?_; rintro e w1 ⟨rfl, q1⟩; have g0 : w1.heap[w.heap.size]? = some (.cells #[.bool true, .slice a1 k1 c1, .slice a2 k2 c2, .slice a3 k3 c3] 25 (0, 0)) := blk_kept q1 (fun h => h) (box_blk _ _ _); have g1 : w1.heap[w.heap.size + 1]? = some (.cells #[.bool false, .slice none 0 0, .slice none 0 0, .slice none 0 0] 25 (0, 0)) := blk_kept q1 (fun h => h) (zero_blk _ _); have xc0 : w1.cell? ⟨w.heap.size, 0, none⟩ = some (.bool true) := blk_cell g0; have xf0 : w1.frozen? ⟨w.heap.size, 0, none⟩ = false := blk_free g0; have xc1 : w1.cell? ⟨w.heap.size, 1, none⟩ = some (.slice a1 k1 c1) := blk_cell g0; have xf1 : w1.frozen? ⟨w.heap.size, 1, none⟩ = false := blk_free g0; have xc2 : w1.cell? ⟨w.heap.size, 2, none⟩ = some (.slice a2 k2 c2) := blk_cell g0; have xf2 : w1.frozen? ⟨w.heap.size, 2, none⟩ = false := blk_free g0; have xc3 : w1.cell? ⟨w.heap.size, 3, none⟩ = some (.slice a3 k3 c3) := blk_cell g0; have xf3 : w1.frozen? ⟨w.heap.size, 3, none⟩ = false := blk_free g0; have zc0 : w1.cell? ⟨w.heap.size + 1, 0, none⟩ = some (.bool false) := blk_cell g1; have zf0 : w1.frozen? ⟨w.heap.size + 1, 0, none⟩ = false := blk_free g1; have zc1 : w1.cell? ⟨w.heap.size + 1, 1, none⟩ = some (.slice none 0 0) := blk_cell g1; have zf1 : w1.frozen? ⟨w.heap.size + 1, 1, none⟩ = false := blk_free g1; have zc2 : w1.cell? ⟨w.heap.size + 1, 2, none⟩ = some (.slice none 0 0) := blk_cell g1; have zf2 : w1.frozen? ⟨w.heap.size + 1, 2, none⟩ = false := blk_free g1; have zc3 : w1.cell? ⟨w.heap.size + 1, 3, none⟩ = some (.slice none 0 0) := blk_cell g1; have zf3 : w1.frozen? ⟨w.heap.size + 1, 3, none⟩ = false := blk_free g1; have G0 := hidden g0; have G1 := hidden g1; have K1 := hidden (K0.out.trans q1); clear q1 g0 g1)
    | (go_at_call 47; refine (HMk.out _).mono ?_; rintro e w1' ⟨rfl, rfl⟩))
  have gf := fill4 G1.out (.bool false) (.slice none 0 0) (.slice none 0 0) (.slice none 0 0)
  have kf := kept_fill4 (W := w1) (g := w.heap.size + 1) (.bool false) (.slice none 0 0) (.slice none 0 0) (.slice none 0 0)
  have sf := same_fill4 K1.out (g := w.heap.size + 1) (by omega) (.bool false) (.slice none 0 0) (.slice none 0 0) (.slice none 0 0)
  generalize ((((w1.setCell ⟨w.heap.size + 1, 0, none⟩ (.bool false)).setCell ⟨w.heap.size + 1, 1, none⟩ (.slice none 0 0)).setCell ⟨w.heap.size + 1, 2, none⟩ (.slice none 0 0)).setCell ⟨w.heap.size + 1, 3, none⟩ (.slice none 0 0)) = WF at gf kf sf ⊢
  have qc0 : WF.cell? ⟨w.heap.size + 1, 0, none⟩ = some (.bool false) := blk_cell gf
  have qc1 : WF.cell? ⟨w.heap.size + 1, 1, none⟩ = some (.slice none 0 0) := blk_cell gf
  have qc2 : WF.cell? ⟨w.heap.size + 1, 2, none⟩ = some (.slice none 0 0) := blk_cell gf
  have qc3 : WF.cell? ⟨w.heap.size + 1, 3, none⟩ = some (.slice none 0 0) := blk_cell gf
  refine bodyPost_ret (v := .tuple #[.agg #[.bool false, .slice none 0 0, .slice none 0 0, .slice none 0 0], .int .i64 91]) (by simp [results, Tryd.results22, go_sem, qc0, qc1, qc2, qc3]) rfl ⟨_, rfl, ⟨⟨.agg #[.bool false, .slice none 0 0, .slice none 0 0, .slice none 0 0], rfl, ?_, sf⟩⟩⟩
  exact nf_zero _ _
set_option maxHeartbeats 400000 in
set_option maxRecDepth 100000 in
theorem put_noval (n : Nd) (a1 a2 a3 : Option Addr) (k1 c1 k2 c2 k3 c3 : Nat) (key value : ByteArray) (w : World) (r1 : Row w (.slice a1 k1 c1) (TS n.keys)) (r2 : Row w (.slice a2 k2 c2) (TS n.vals)) (r3 : Row w (.slice a3 k3 c3) (IS n.kids)) (hb : n.Bd) (hl : n.leaf = true) (hc : n.chk = 0) (hk : mayK key = true) (hv : mayV value = false) :
    Calls Tryd.prog 22 #[.agg #[.bool n.leaf, .slice a1 k1 c1, .slice a2 k2 c2, .slice a3 k3 c3], .string key, .string value] w fun e w' => ∃ u, e = .returned u ∧ PuP w Nd.zero 91 u w' := by
  have HCk := hidden (fun W (k : Same w W) => check_any n a1 a2 a3 k1 c1 k2 c2 k3 c3 W (r1.same k) (r2.same k) (r3.same k) hb)
  have HMk := hidden (fun W => mayKey_any key W)
  have HMv := hidden (fun W => mayValue_any value W)
  rw [hc] at HCk
  rw [hk] at HMk
  rw [hv] at HMv
  clear r1 r2 r3 hb
  rw [hl] at HCk ⊢
  have K0 : Hid (Same w ((w.alloc (.cells #[.bool true, .slice a1 k1 c1, .slice a2 k2 c2, .slice a3 k3 c3] 25)).alloc (.cells #[.bool false, .slice none 0 0, .slice none 0 0, .slice none 0 0] 25))) := hidden (((Kept.refl _ w).alloc _).alloc _)
  have i0 := box_blk w #[.bool true, .slice a1 k1 c1, .slice a2 k2 c2, .slice a3 k3 c3] (.cells #[.bool false, .slice none 0 0, .slice none 0 0, .slice none 0 0] 25)
  clear hl i0 hc hk hv
  go_enter Tryd.func22, Tryd.ntmps22
  go_wp2_with (first
    | (go_at_call 13; refine (HCk.out _ K0.out).mono ?_; rintro e w1 ⟨rfl, q1⟩; have g0 : w1.heap[w.heap.size]? = some (.cells #[.bool true, .slice a1 k1 c1, .slice a2 k2 c2, .slice a3 k3 c3] 25 (0, 0)) := blk_kept q1 (fun h => h) (box_blk _ _ _); have g1 : w1.heap[w.heap.size + 1]? = some (.cells #[.bool false, .slice none 0 0, .slice none 0 0, .slice none 0 0] 25 (0, 0)) := blk_kept q1 (fun h => h) (zero_blk _ _); have xc0 : w1.cell? ⟨w.heap.size, 0, none⟩ = some (.bool true) := blk_cell g0; have xf0 : w1.frozen? ⟨w.heap.size, 0, none⟩ = false := blk_free g0; have xc1 : w1.cell? ⟨w.heap.size, 1, none⟩ = some (.slice a1 k1 c1) := blk_cell g0; have xf1 : w1.frozen? ⟨w.heap.size, 1, none⟩ = false := blk_free g0; have xc2 : w1.cell? ⟨w.heap.size, 2, none⟩ = some (.slice a2 k2 c2) := blk_cell g0; have xf2 : w1.frozen? ⟨w.heap.size, 2, none⟩ = false := blk_free g0; have xc3 : w1.cell? ⟨w.heap.size, 3, none⟩ = some (.slice a3 k3 c3) := blk_cell g0; have xf3 : w1.frozen? ⟨w.heap.size, 3, none⟩ = false := blk_free g0; have zc0 : w1.cell? ⟨w.heap.size + 1, 0, none⟩ = some (.bool false) := blk_cell g1; have zf0 : w1.frozen? ⟨w.heap.size + 1, 0, none⟩ = false := blk_free g1; have zc1 : w1.cell? ⟨w.heap.size + 1, 1, none⟩ = some (.slice none 0 0) := blk_cell g1; have zf1 : w1.frozen? ⟨w.heap.size + 1, 1, none⟩ = false := blk_free g1; have zc2 : w1.cell? ⟨w.heap.size + 1, 2, none⟩ = some (.slice none 0 0) := blk_cell g1; have zf2 : w1.frozen? ⟨w.heap.size + 1, 2, none⟩ = false := blk_free g1; have zc3 : w1.cell? ⟨w.heap.size + 1, 3, none⟩ = some (.slice none 0 0) := blk_cell g1; have zf3 : w1.frozen? ⟨w.heap.size + 1, 3, none⟩ = false := blk_free g1; have G0 := hidden g0; have G1 := hidden g1; have K1 := hidden (K0.out.trans q1); clear q1 g0 g1)
    | (go_at_call 47; refine (HMk.out _).mono ?_; rintro e w1' ⟨rfl, rfl⟩)
    | (go_at_call 48; refine (HMv.out _).mono ?_; rintro e w1' ⟨rfl, rfl⟩))
  have gf := fill4 G1.out (.bool false) (.slice none 0 0) (.slice none 0 0) (.slice none 0 0)
  have kf := kept_fill4 (W := w1) (g := w.heap.size + 1) (.bool false) (.slice none 0 0) (.slice none 0 0) (.slice none 0 0)
  have sf := same_fill4 K1.out (g := w.heap.size + 1) (by omega) (.bool false) (.slice none 0 0) (.slice none 0 0) (.slice none 0 0)
  generalize ((((w1.setCell ⟨w.heap.size + 1, 0, none⟩ (.bool false)).setCell ⟨w.heap.size + 1, 1, none⟩ (.slice none 0 0)).setCell ⟨w.heap.size + 1, 2, none⟩ (.slice none 0 0)).setCell ⟨w.heap.size + 1, 3, none⟩ (.slice none 0 0)) = WF at gf kf sf ⊢
  have qc0 : WF.cell? ⟨w.heap.size + 1, 0, none⟩ = some (.bool false) := blk_cell gf
  have qc1 : WF.cell? ⟨w.heap.size + 1, 1, none⟩ = some (.slice none 0 0) := blk_cell gf
  have qc2 : WF.cell? ⟨w.heap.size + 1, 2, none⟩ = some (.slice none 0 0) := blk_cell gf
  have qc3 : WF.cell? ⟨w.heap.size + 1, 3, none⟩ = some (.slice none 0 0) := blk_cell gf
  refine bodyPost_ret (v := .tuple #[.agg #[.bool false, .slice none 0 0, .slice none 0 0, .slice none 0 0], .int .i64 91]) (by simp [results, Tryd.results22, go_sem, qc0, qc1, qc2, qc3]) rfl ⟨_, rfl, ⟨⟨.agg #[.bool false, .slice none 0 0, .slice none 0 0, .slice none 0 0], rfl, ?_, sf⟩⟩⟩
  exact nf_zero _ _
set_option maxHeartbeats 800000 in
set_option maxRecDepth 100000 in
theorem put_has (n : Nd) (a1 a2 a3 : Option Addr) (k1 c1 k2 c2 k3 c3 : Nat) (key value : ByteArray) (w : World) (r1 : Row w (.slice a1 k1 c1) (TS n.keys)) (r2 : Row w (.slice a2 k2 c2) (TS n.vals)) (r3 : Row w (.slice a3 k3 c3) (IS n.kids)) (hb : n.Bd) (hbig : n.keys.length ≤ 8796093022206) (hl : n.leaf = true) (hc : n.chk = 0) (hk : mayK key = true) (hv : mayV value = true) (hh : n.has key = true) :
    Calls Tryd.prog 22 #[.agg #[.bool n.leaf, .slice a1 k1 c1, .slice a2 k2 c2, .slice a3 k3 c3], .string key, .string value] w fun e w' => ∃ u, e = .returned u ∧ PuP w ⟨true, n.keys, n.vals.set (n.cnt key) value, n.kids⟩ 0 u w' := by
  have HCk := hidden (fun W (k : Same w W) => check_any n a1 a2 a3 k1 c1 k2 c2 k3 c3 W (r1.same k) (r2.same k) (r3.same k) hb)
  have HMk := hidden (fun W => mayKey_any key W)
  have HMv := hidden (fun W => mayValue_any value W)
  have HCl := hidden (fun W (k : Same w W) => clone_any n a1 a2 a3 k1 c1 k2 c2 k3 c3 W (r1.same k) (r2.same k) (r3.same k) (by omega) (by have := (Nd.chk_leaf hl hc).1; omega) (by rw [(Nd.chk_leaf hl hc).2]; simp))
  have HFd := hidden (fun (W : World) (b1 b2 b3 : Option Addr) (e1 f1 e2 f2 e3 f3 : Nat) (s1 : Row W (.slice b1 e1 f1) (TS n.keys)) (s2 : Row W (.slice b2 e2 f2) (TS n.vals)) (s3 : Row W (.slice b3 e3 f3) (IS n.kids)) => find_any n b1 b2 b3 e1 f1 e2 f2 e3 f3 key W s1 s2 s3 hb)
  have E1 := hidden r1.tl
  have E2 := hidden r2.tl
  have E3 := hidden r3.il
  have HL := hidden hl
  have HV12 : Hid (k2 = k1) := by rw [Hid, ← E1.out, ← E2.out]; exact (Nd.chk_leaf hl hc).1
  rw [hc] at HCk
  rw [hk] at HMk
  rw [hv] at HMv
  rw [hl] at HFd HCl
  have hcl : n.cnt key < k1 := by rw [← E1.out]; exact Nd.has_lt hh
  rw [hh] at HFd
  clear r1 r2 r3 hb hbig hc hk hv hh
  generalize n.cnt key = cn at *
  rw [hl] at HCk ⊢
  have K0 : Hid (Same w ((w.alloc (.cells #[.bool true, .slice a1 k1 c1, .slice a2 k2 c2, .slice a3 k3 c3] 25)).alloc (.cells #[.bool false, .slice none 0 0, .slice none 0 0, .slice none 0 0] 25))) := hidden (((Kept.refl _ w).alloc _).alloc _)
  have i0 := box_blk w #[.bool true, .slice a1 k1 c1, .slice a2 k2 c2, .slice a3 k3 c3] (.cells #[.bool false, .slice none 0 0, .slice none 0 0, .slice none 0 0] 25)
  clear hl i0
  have hcn0 : (0 : Int) ≤ (cn : Int) := Int.natCast_nonneg _
  go_enter Tryd.func22, Tryd.ntmps22
  go_wp2_with (first
    | (go_at_call 13; refine (HCk.out _ K0.out).mono ?_; rintro e w1 ⟨rfl, q1⟩; have g0 : w1.heap[w.heap.size]? = some (.cells #[.bool true, .slice a1 k1 c1, .slice a2 k2 c2, .slice a3 k3 c3] 25 (0, 0)) := blk_kept q1 (fun h => h) (box_blk _ _ _); have g1 : w1.heap[w.heap.size + 1]? = some (.cells #[.bool false, .slice none 0 0, .slice none 0 0, .slice none 0 0] 25 (0, 0)) := blk_kept q1 (fun h => h) (zero_blk _ _); have xc0 : w1.cell? ⟨w.heap.size, 0, none⟩ = some (.bool true) := blk_cell g0; have xf0 : w1.frozen? ⟨w.heap.size, 0, none⟩ = false := blk_free g0; have xc1 : w1.cell? ⟨w.heap.size, 1, none⟩ = some (.slice a1 k1 c1) := blk_cell g0; have xf1 : w1.frozen? ⟨w.heap.size, 1, none⟩ = false := blk_free g0; have xc2 : w1.cell? ⟨w.heap.size, 2, none⟩ = some (.slice a2 k2 c2) := blk_cell g0; have xf2 : w1.frozen? ⟨w.heap.size, 2, none⟩ = false := blk_free g0; have xc3 : w1.cell? ⟨w.heap.size, 3, none⟩ = some (.slice a3 k3 c3) := blk_cell g0; have xf3 : w1.frozen? ⟨w.heap.size, 3, none⟩ = false := blk_free g0; have zc0 : w1.cell? ⟨w.heap.size + 1, 0, none⟩ = some (.bool false) := blk_cell g1; have zf0 : w1.frozen? ⟨w.heap.size + 1, 0, none⟩ = false := blk_free g1; have zc1 : w1.cell? ⟨w.heap.size + 1, 1, none⟩ = some (.slice none 0 0) := blk_cell g1; have zf1 : w1.frozen? ⟨w.heap.size + 1, 1, none⟩ = false := blk_free g1; have zc2 : w1.cell? ⟨w.heap.size + 1, 2, none⟩ = some (.slice none 0 0) := blk_cell g1; have zf2 : w1.frozen? ⟨w.heap.size + 1, 2, none⟩ = false := blk_free g1; have zc3 : w1.cell? ⟨w.heap.size + 1, 3, none⟩ = some (.slice none 0 0) := blk_cell g1; have zf3 : w1.frozen? ⟨w.heap.size + 1, 3, none⟩ = false := blk_free g1; have G0 := hidden g0; have G1 := hidden g1; have K1 := hidden (K0.out.trans q1); clear q1 g0 g1)
    | (go_at_call 47; refine (HMk.out _).mono ?_; rintro e w1' ⟨rfl, rfl⟩)
    | (go_at_call 48; refine (HMv.out _).mono ?_; rintro e w1' ⟨rfl, rfl⟩)
    | (go_at_call 49; refine (HCl.out _ K1.out).mono ?_; rintro e w2 ⟨u, rfl, hn, q2⟩; obtain ⟨b1, b2, b3, d1, d2, d3, rfl, o1, o2, o3, oap⟩ := hn.out; clear hn; rw [E1.out] at o1; rw [E2.out] at o2; rw [E3.out] at o3; rw [E1.out, E2.out] at oap; have OAP := hidden oap; clear oap; rw [E1.out, E2.out, E3.out, HL.out]; have g0 := blk_kept q2 (fun h => h) G0.out; have g1 := blk_kept q2 (fun h => h) G1.out; have yc0 : w2.cell? ⟨w.heap.size, 0, none⟩ = some (.bool true) := blk_cell g0; have yf0 : w2.frozen? ⟨w.heap.size, 0, none⟩ = false := blk_free g0; have yc1 : w2.cell? ⟨w.heap.size, 1, none⟩ = some (.slice a1 k1 c1) := blk_cell g0; have yf1 : w2.frozen? ⟨w.heap.size, 1, none⟩ = false := blk_free g0; have yc2 : w2.cell? ⟨w.heap.size, 2, none⟩ = some (.slice a2 k2 c2) := blk_cell g0; have yf2 : w2.frozen? ⟨w.heap.size, 2, none⟩ = false := blk_free g0; have yc3 : w2.cell? ⟨w.heap.size, 3, none⟩ = some (.slice a3 k3 c3) := blk_cell g0; have yf3 : w2.frozen? ⟨w.heap.size, 3, none⟩ = false := blk_free g0; have gf := fill4 g0 (.bool true) (.slice b1 k1 d1) (.slice b2 k2 d2) (.slice b3 k3 d3); have kf := kept_fill4 (W := w2) (g := w.heap.size) (.bool true) (.slice b1 k1 d1) (.slice b2 k2 d2) (.slice b3 k3 d3); have sf := same_fill4 (K1.out.trans q2) (g := w.heap.size) (Nat.le_refl _) (.bool true) (.slice b1 k1 d1) (.slice b2 k2 d2) (.slice b3 k3 d3); have vc0 : ((((w2.setCell ⟨w.heap.size, 0, none⟩ (.bool true)).setCell ⟨w.heap.size, 1, none⟩ (.slice b1 k1 d1)).setCell ⟨w.heap.size, 2, none⟩ (.slice b2 k2 d2)).setCell ⟨w.heap.size, 3, none⟩ (.slice b3 k3 d3)).cell? ⟨w.heap.size, 0, none⟩ = some (.bool true) := blk_cell gf; have vf0 : ((((w2.setCell ⟨w.heap.size, 0, none⟩ (.bool true)).setCell ⟨w.heap.size, 1, none⟩ (.slice b1 k1 d1)).setCell ⟨w.heap.size, 2, none⟩ (.slice b2 k2 d2)).setCell ⟨w.heap.size, 3, none⟩ (.slice b3 k3 d3)).frozen? ⟨w.heap.size, 0, none⟩ = false := blk_free gf; have vc1 : ((((w2.setCell ⟨w.heap.size, 0, none⟩ (.bool true)).setCell ⟨w.heap.size, 1, none⟩ (.slice b1 k1 d1)).setCell ⟨w.heap.size, 2, none⟩ (.slice b2 k2 d2)).setCell ⟨w.heap.size, 3, none⟩ (.slice b3 k3 d3)).cell? ⟨w.heap.size, 1, none⟩ = some (.slice b1 k1 d1) := blk_cell gf; have vf1 : ((((w2.setCell ⟨w.heap.size, 0, none⟩ (.bool true)).setCell ⟨w.heap.size, 1, none⟩ (.slice b1 k1 d1)).setCell ⟨w.heap.size, 2, none⟩ (.slice b2 k2 d2)).setCell ⟨w.heap.size, 3, none⟩ (.slice b3 k3 d3)).frozen? ⟨w.heap.size, 1, none⟩ = false := blk_free gf; have vc2 : ((((w2.setCell ⟨w.heap.size, 0, none⟩ (.bool true)).setCell ⟨w.heap.size, 1, none⟩ (.slice b1 k1 d1)).setCell ⟨w.heap.size, 2, none⟩ (.slice b2 k2 d2)).setCell ⟨w.heap.size, 3, none⟩ (.slice b3 k3 d3)).cell? ⟨w.heap.size, 2, none⟩ = some (.slice b2 k2 d2) := blk_cell gf; have vf2 : ((((w2.setCell ⟨w.heap.size, 0, none⟩ (.bool true)).setCell ⟨w.heap.size, 1, none⟩ (.slice b1 k1 d1)).setCell ⟨w.heap.size, 2, none⟩ (.slice b2 k2 d2)).setCell ⟨w.heap.size, 3, none⟩ (.slice b3 k3 d3)).frozen? ⟨w.heap.size, 2, none⟩ = false := blk_free gf; have vc3 : ((((w2.setCell ⟨w.heap.size, 0, none⟩ (.bool true)).setCell ⟨w.heap.size, 1, none⟩ (.slice b1 k1 d1)).setCell ⟨w.heap.size, 2, none⟩ (.slice b2 k2 d2)).setCell ⟨w.heap.size, 3, none⟩ (.slice b3 k3 d3)).cell? ⟨w.heap.size, 3, none⟩ = some (.slice b3 k3 d3) := blk_cell gf; have vf3 : ((((w2.setCell ⟨w.heap.size, 0, none⟩ (.bool true)).setCell ⟨w.heap.size, 1, none⟩ (.slice b1 k1 d1)).setCell ⟨w.heap.size, 2, none⟩ (.slice b2 k2 d2)).setCell ⟨w.heap.size, 3, none⟩ (.slice b3 k3 d3)).frozen? ⟨w.heap.size, 3, none⟩ = false := blk_free gf; have hB1 := blk_lt G1.out; have O1 := hidden (own_kept o1 kf (fun k hk hs => by have h1 := own_geN o1 k hk; have h2 : k = w.heap.size := hs; omega)); have O2 := hidden (own_kept o2 kf (fun k hk hs => by have h1 := own_geN o2 k hk; have h2 : k = w.heap.size := hs; omega)); have O3 := hidden (own_kept o3 kf (fun k hk hs => by have h1 := own_geN o3 k hk; have h2 : k = w.heap.size := hs; omega)); have GF := hidden gf; have G1F := hidden (blk_kept kf (by show ¬ w.heap.size + 1 = w.heap.size; omega) g1); have KF := hidden sf; clear q2 o1 o2 o3 g0 g1 gf kf sf)
    | (go_at_call 20; refine (HFd.out _ _ _ _ _ _ _ _ _ _ (Row.own O1.out) (Row.own O2.out) (Row.own O3.out)).mono ?_; rintro e w3 ⟨rfl, q3⟩; have g0 := blk_kept q3 (fun h => h) GF.out; have g1 := blk_kept q3 (fun h => h) G1F.out; have tc0 : w3.cell? ⟨w.heap.size, 0, none⟩ = some (.bool true) := blk_cell g0; have tf0 : w3.frozen? ⟨w.heap.size, 0, none⟩ = false := blk_free g0; have tc1 : w3.cell? ⟨w.heap.size, 1, none⟩ = some (.slice b1 k1 d1) := blk_cell g0; have tf1 : w3.frozen? ⟨w.heap.size, 1, none⟩ = false := blk_free g0; have tc2 : w3.cell? ⟨w.heap.size, 2, none⟩ = some (.slice b2 k2 d2) := blk_cell g0; have tf2 : w3.frozen? ⟨w.heap.size, 2, none⟩ = false := blk_free g0; have tc3 : w3.cell? ⟨w.heap.size, 3, none⟩ = some (.slice b3 k3 d3) := blk_cell g0; have tf3 : w3.frozen? ⟨w.heap.size, 3, none⟩ = false := blk_free g0; have P1 := hidden (own_kept O1.out q3 (fun _ _ h => h)); have P2 := hidden (own_kept O2.out q3 (fun _ _ h => h)); have P3 := hidden (own_kept O3.out q3 (fun _ _ h => h)); have H0 := hidden g0; have H1 := hidden g1; have K3 := hidden (KF.out.trans q3); clear q3 g0 g1; have hz : 0 < k2 := (by have := HV12.out; omega); obtain ⟨gb, db, hgb, hg1, hg2⟩ := P2.out.form hz; simp only [Value.slice.injEq] at hgb; obtain ⟨rfl, -, rfl⟩ := hgb; have hc2 : (cn : Int) < (k2 : Int) := (by have := HV12.out; omega); obtain ⟨m1, m2⟩ := own_cellN P2.out (i := cn) _ (TS_at n.vals (by rw [E2.out]; have := HV12.out; omega)); have gneq : gb ≠ w.heap.size := (by omega); have gneq1 : gb ≠ w.heap.size + 1 := (by have h5 := G1.out; have h6 := blk_lt h5; omega); have ks : Kept (only gb) w3 (w3.setCell ⟨gb, cn, none⟩ (.string value)) := (Kept.refl (only gb) w3).setCell (p := ⟨gb, cn, none⟩) rfl _; have j0 := blk_kept ks (fun e => gneq (Eq.symm e)) H0.out; have j1 := blk_kept ks (fun e => gneq1 (Eq.symm e)) H1.out; have uc0 : (w3.setCell ⟨gb, cn, none⟩ (.string value)).cell? ⟨w.heap.size, 0, none⟩ = some (.bool true) := blk_cell j0; have uf0 : (w3.setCell ⟨gb, cn, none⟩ (.string value)).frozen? ⟨w.heap.size, 0, none⟩ = false := blk_free j0; have uc1 : (w3.setCell ⟨gb, cn, none⟩ (.string value)).cell? ⟨w.heap.size, 1, none⟩ = some (.slice b1 k1 d1) := blk_cell j0; have uf1 : (w3.setCell ⟨gb, cn, none⟩ (.string value)).frozen? ⟨w.heap.size, 1, none⟩ = false := blk_free j0; have uc2 : (w3.setCell ⟨gb, cn, none⟩ (.string value)).cell? ⟨w.heap.size, 2, none⟩ = some (.slice (some ⟨gb, 0, none⟩) k2 d2) := blk_cell j0; have uf2 : (w3.setCell ⟨gb, cn, none⟩ (.string value)).frozen? ⟨w.heap.size, 2, none⟩ = false := blk_free j0; have uc3 : (w3.setCell ⟨gb, cn, none⟩ (.string value)).cell? ⟨w.heap.size, 3, none⟩ = some (.slice b3 k3 d3) := blk_cell j0; have uf3 : (w3.setCell ⟨gb, cn, none⟩ (.string value)).frozen? ⟨w.heap.size, 3, none⟩ = false := blk_free j0; have sc0 : (w3.setCell ⟨gb, cn, none⟩ (.string value)).cell? ⟨w.heap.size + 1, 0, none⟩ = some (.bool false) := blk_cell j1; have sf0 : (w3.setCell ⟨gb, cn, none⟩ (.string value)).frozen? ⟨w.heap.size + 1, 0, none⟩ = false := blk_free j1; have sc1 : (w3.setCell ⟨gb, cn, none⟩ (.string value)).cell? ⟨w.heap.size + 1, 1, none⟩ = some (.slice none 0 0) := blk_cell j1; have sf1 : (w3.setCell ⟨gb, cn, none⟩ (.string value)).frozen? ⟨w.heap.size + 1, 1, none⟩ = false := blk_free j1; have sc2 : (w3.setCell ⟨gb, cn, none⟩ (.string value)).cell? ⟨w.heap.size + 1, 2, none⟩ = some (.slice none 0 0) := blk_cell j1; have sf2 : (w3.setCell ⟨gb, cn, none⟩ (.string value)).frozen? ⟨w.heap.size + 1, 2, none⟩ = false := blk_free j1; have sc3 : (w3.setCell ⟨gb, cn, none⟩ (.string value)).cell? ⟨w.heap.size + 1, 3, none⟩ = some (.slice none 0 0) := blk_cell j1; have sf3 : (w3.setCell ⟨gb, cn, none⟩ (.string value)).frozen? ⟨w.heap.size + 1, 3, none⟩ = false := blk_free j1; have J1 := hidden j1; have KS := hidden ks; clear j0 j1 ks))
  have KE := hidden (K3.out.setNew (p := ⟨gb, cn, none⟩) (by show w.heap.size ≤ gb; omega) (.string value))
  have Q2 := hidden (own_setN (i := cn) P2.out (.string value))
  have Q1 := hidden (own_kept P1.out KS.out (fun k hk hs => OAP.out k hk (by have e : k = gb := hs; rw [e]; rfl)))
  have Q3 := hidden (own_kept P3.out KS.out (fun k hk hs => own_typesN P3.out P2.out (by decide) k hk (by have e : k = gb := hs; rw [e]; rfl)))
  have gf := fill4 J1.out (.bool true) (.slice b1 k1 d1) (.slice (some ⟨gb, 0, none⟩) k2 d2) (.slice b3 k3 d3)
  have kf := kept_fill4 (W := (w3.setCell ⟨gb, cn, none⟩ (.string value))) (g := w.heap.size + 1) (.bool true) (.slice b1 k1 d1) (.slice (some ⟨gb, 0, none⟩) k2 d2) (.slice b3 k3 d3)
  have sf := same_fill4 KE.out (g := w.heap.size + 1) (by omega) (.bool true) (.slice b1 k1 d1) (.slice (some ⟨gb, 0, none⟩) k2 d2) (.slice b3 k3 d3)
  generalize (((((w3.setCell ⟨gb, cn, none⟩ (.string value)).setCell ⟨w.heap.size + 1, 0, none⟩ (.bool true)).setCell ⟨w.heap.size + 1, 1, none⟩ (.slice b1 k1 d1)).setCell ⟨w.heap.size + 1, 2, none⟩ (.slice (some ⟨gb, 0, none⟩) k2 d2)).setCell ⟨w.heap.size + 1, 3, none⟩ (.slice b3 k3 d3)) = WF at gf kf sf ⊢
  have qc0 : WF.cell? ⟨w.heap.size + 1, 0, none⟩ = some (.bool true) := blk_cell gf
  have qc1 : WF.cell? ⟨w.heap.size + 1, 1, none⟩ = some (.slice b1 k1 d1) := blk_cell gf
  have qc2 : WF.cell? ⟨w.heap.size + 1, 2, none⟩ = some (.slice (some ⟨gb, 0, none⟩) k2 d2) := blk_cell gf
  have qc3 : WF.cell? ⟨w.heap.size + 1, 3, none⟩ = some (.slice b3 k3 d3) := blk_cell gf
  refine bodyPost_ret (v := .tuple #[.agg #[.bool true, .slice b1 k1 d1, .slice (some ⟨gb, 0, none⟩) k2 d2, .slice b3 k3 d3], .int .i64 0]) (by simp [results, Tryd.results22, go_sem, qc0, qc1, qc2, qc3]) rfl ⟨_, rfl, ⟨⟨.agg #[.bool true, .slice b1 k1 d1, .slice (some ⟨gb, 0, none⟩) k2 d2, .slice b3 k3 d3], rfl, ?_, sf⟩⟩⟩
  have hB1 := blk_lt G1.out
  have hz9 := K1.out.size
  have e1 := E1.out
  have e2 := E2.out
  have e3 := E3.out
  subst e1 e2 e3
  refine ⟨b1, some ⟨gb, 0, none⟩, b3, d1, d2, d3, by simp, ?_, ?_, ?_, ?_⟩
  · exact own_mono (own_kept Q1.out kf (fun k hk hs => by have h1 := own_geN Q1.out k hk; have h2 : k = w.heap.size + 1 := hs; omega)) (by omega)
  · have h9 := own_mono (own_kept Q2.out kf (fun k hk hs => by have h1 := own_geN Q2.out k hk; have h2 : k = w.heap.size + 1 := hs; omega)) (show w.heap.size ≤ w1.heap.size by omega)
    have hts : TS (n.vals.set cn value) = (TS n.vals).set cn (.string value) := by simp [TS]
    rw [hts, List.length_set]
    exact h9
  · exact own_mono (own_kept Q3.out kf (fun k hk hs => by have h1 := own_geN Q3.out k hk; have h2 : k = w.heap.size + 1 := hs; omega)) (by omega)
  · rw [List.length_set]
    exact OAP.out
set_option maxHeartbeats 800000 in
set_option maxRecDepth 100000 in
theorem put_ins (n : Nd) (a1 a2 a3 : Option Addr) (k1 c1 k2 c2 k3 c3 : Nat) (key value : ByteArray) (w : World) (r1 : Row w (.slice a1 k1 c1) (TS n.keys)) (r2 : Row w (.slice a2 k2 c2) (TS n.vals)) (r3 : Row w (.slice a3 k3 c3) (IS n.kids)) (hb : n.Bd) (hbig : n.keys.length ≤ 8796093022206) (hl : n.leaf = true) (hc : n.chk = 0) (hk : mayK key = true) (hv : mayV value = true) (hh : n.has key = false) :
    Calls Tryd.prog 22 #[.agg #[.bool n.leaf, .slice a1 k1 c1, .slice a2 k2 c2, .slice a3 k3 c3], .string key, .string value] w fun e w' => ∃ u, e = .returned u ∧ PuP w ⟨true, insL n.keys (n.cnt key) key, insL n.vals (n.cnt key) value, n.kids⟩ 0 u w' := by
  have HCk := hidden (fun W (k : Same w W) => check_any n a1 a2 a3 k1 c1 k2 c2 k3 c3 W (r1.same k) (r2.same k) (r3.same k) hb)
  have HMk := hidden (fun W => mayKey_any key W)
  have HMv := hidden (fun W => mayValue_any value W)
  have HCl := hidden (fun W (k : Same w W) => clone_any n a1 a2 a3 k1 c1 k2 c2 k3 c3 W (r1.same k) (r2.same k) (r3.same k) (by omega) (by have := (Nd.chk_leaf hl hc).1; omega) (by rw [(Nd.chk_leaf hl hc).2]; simp))
  have HFd := hidden (fun (W : World) (b1 b2 b3 : Option Addr) (e1 f1 e2 f2 e3 f3 : Nat) (s1 : Row W (.slice b1 e1 f1) (TS n.keys)) (s2 : Row W (.slice b2 e2 f2) (TS n.vals)) (s3 : Row W (.slice b3 e3 f3) (IS n.kids)) => find_any n b1 b2 b3 e1 f1 e2 f2 e3 f3 key W s1 s2 s3 hb)
  have E1 := hidden r1.tl
  have E2 := hidden r2.tl
  have E3 := hidden r3.il
  have HL := hidden hl
  have HV12 : Hid (k2 = k1) := by rw [Hid, ← E1.out, ← E2.out]; exact (Nd.chk_leaf hl hc).1
  rw [hc] at HCk
  rw [hk] at HMk
  rw [hv] at HMv
  rw [hl] at HFd HCl
  have hcl : n.cnt key ≤ k1 := by rw [← E1.out]; exact List.countP_le_length
  have hbk : k1 ≤ 8796093022206 := by rw [← E1.out]; exact hbig
  rw [hh] at HFd
  clear r1 r2 r3 hb hbig hc hk hv hh
  generalize n.cnt key = cn at *
  rw [hl] at HCk ⊢
  have K0 : Hid (Same w ((w.alloc (.cells #[.bool true, .slice a1 k1 c1, .slice a2 k2 c2, .slice a3 k3 c3] 25)).alloc (.cells #[.bool false, .slice none 0 0, .slice none 0 0, .slice none 0 0] 25))) := hidden (((Kept.refl _ w).alloc _).alloc _)
  have i0 := box_blk w #[.bool true, .slice a1 k1 c1, .slice a2 k2 c2, .slice a3 k3 c3] (.cells #[.bool false, .slice none 0 0, .slice none 0 0, .slice none 0 0] 25)
  clear hl i0
  have hcn0 : (0 : Int) ≤ (cn : Int) := Int.natCast_nonneg _
  go_enter Tryd.func22, Tryd.ntmps22
  have HIn := hidden (fun (l : List ByteArray) (x : ByteArray) (a : Option Addr) (k c : Nat) (W : World) (B : Nat) (ho : W.ownsRow B 9 1 (.slice a k c) k (TS l)) (h1 : cn ≤ k) (h2 : k ≤ 8796093022206) (hB : B ≤ W.heap.size) (vb : Nat) (hv : W.heap[vb]? = some (.cells #[.string x] 9 (0, 0))) (hne : (Value.slice a k c).ownBlock ≠ some vb) => insert_any l x cn a k c W B ho h1 h2 hB vb hv hne)
  have L1 : Hid ((n.keys.take cn ++ key :: n.keys.drop cn).length = k1 + 1) := hidden (ins_len n.keys key E1.out hcl)
  have L2 : Hid ((n.vals.take cn ++ value :: n.vals.drop cn).length = k2 + 1) := hidden (ins_len n.vals value E2.out (by rw [HV12.out]; exact hcl))
  have t1 : True := trivial
  go_wp2_with (first
    | (go_at_call 13; refine (HCk.out _ K0.out).mono ?_; rintro e w1 ⟨rfl, q1⟩; have g0 : w1.heap[w.heap.size]? = some (.cells #[.bool true, .slice a1 k1 c1, .slice a2 k2 c2, .slice a3 k3 c3] 25 (0, 0)) := blk_kept q1 (fun h => h) (box_blk _ _ _); have g1 : w1.heap[w.heap.size + 1]? = some (.cells #[.bool false, .slice none 0 0, .slice none 0 0, .slice none 0 0] 25 (0, 0)) := blk_kept q1 (fun h => h) (zero_blk _ _); have xc0 : w1.cell? ⟨w.heap.size, 0, none⟩ = some (.bool true) := blk_cell g0; have xf0 : w1.frozen? ⟨w.heap.size, 0, none⟩ = false := blk_free g0; have xc1 : w1.cell? ⟨w.heap.size, 1, none⟩ = some (.slice a1 k1 c1) := blk_cell g0; have xf1 : w1.frozen? ⟨w.heap.size, 1, none⟩ = false := blk_free g0; have xc2 : w1.cell? ⟨w.heap.size, 2, none⟩ = some (.slice a2 k2 c2) := blk_cell g0; have xf2 : w1.frozen? ⟨w.heap.size, 2, none⟩ = false := blk_free g0; have xc3 : w1.cell? ⟨w.heap.size, 3, none⟩ = some (.slice a3 k3 c3) := blk_cell g0; have xf3 : w1.frozen? ⟨w.heap.size, 3, none⟩ = false := blk_free g0; have zc0 : w1.cell? ⟨w.heap.size + 1, 0, none⟩ = some (.bool false) := blk_cell g1; have zf0 : w1.frozen? ⟨w.heap.size + 1, 0, none⟩ = false := blk_free g1; have zc1 : w1.cell? ⟨w.heap.size + 1, 1, none⟩ = some (.slice none 0 0) := blk_cell g1; have zf1 : w1.frozen? ⟨w.heap.size + 1, 1, none⟩ = false := blk_free g1; have zc2 : w1.cell? ⟨w.heap.size + 1, 2, none⟩ = some (.slice none 0 0) := blk_cell g1; have zf2 : w1.frozen? ⟨w.heap.size + 1, 2, none⟩ = false := blk_free g1; have zc3 : w1.cell? ⟨w.heap.size + 1, 3, none⟩ = some (.slice none 0 0) := blk_cell g1; have zf3 : w1.frozen? ⟨w.heap.size + 1, 3, none⟩ = false := blk_free g1; have G0 := hidden g0; have G1 := hidden g1; have K1 := hidden (K0.out.trans q1); clear q1 g0 g1)
    | (go_at_call 47; refine (HMk.out _).mono ?_; rintro e w1' ⟨rfl, rfl⟩)
    | (go_at_call 48; refine (HMv.out _).mono ?_; rintro e w1' ⟨rfl, rfl⟩)
    | (go_at_call 49; refine (HCl.out _ K1.out).mono ?_; rintro e w2 ⟨u, rfl, hn, q2⟩; obtain ⟨b1, b2, b3, d1, d2, d3, rfl, o1, o2, o3, oap⟩ := hn.out; clear hn; rw [E1.out] at o1; rw [E2.out] at o2; rw [E3.out] at o3; rw [E1.out, E2.out] at oap; have OAP := hidden oap; clear oap; rw [E1.out, E2.out, E3.out, HL.out]; have hzw12 := q2.size; have g0 := blk_kept q2 (fun h => h) G0.out; have g1 := blk_kept q2 (fun h => h) G1.out; have yc0 : w2.cell? ⟨w.heap.size, 0, none⟩ = some (.bool true) := blk_cell g0; have yf0 : w2.frozen? ⟨w.heap.size, 0, none⟩ = false := blk_free g0; have yc1 : w2.cell? ⟨w.heap.size, 1, none⟩ = some (.slice a1 k1 c1) := blk_cell g0; have yf1 : w2.frozen? ⟨w.heap.size, 1, none⟩ = false := blk_free g0; have yc2 : w2.cell? ⟨w.heap.size, 2, none⟩ = some (.slice a2 k2 c2) := blk_cell g0; have yf2 : w2.frozen? ⟨w.heap.size, 2, none⟩ = false := blk_free g0; have yc3 : w2.cell? ⟨w.heap.size, 3, none⟩ = some (.slice a3 k3 c3) := blk_cell g0; have yf3 : w2.frozen? ⟨w.heap.size, 3, none⟩ = false := blk_free g0; have gf := fill4 g0 (.bool true) (.slice b1 k1 d1) (.slice b2 k2 d2) (.slice b3 k3 d3); have kf := kept_fill4 (W := w2) (g := w.heap.size) (.bool true) (.slice b1 k1 d1) (.slice b2 k2 d2) (.slice b3 k3 d3); have sf := same_fill4 (K1.out.trans q2) (g := w.heap.size) (Nat.le_refl _) (.bool true) (.slice b1 k1 d1) (.slice b2 k2 d2) (.slice b3 k3 d3); have vc0 : ((((w2.setCell ⟨w.heap.size, 0, none⟩ (.bool true)).setCell ⟨w.heap.size, 1, none⟩ (.slice b1 k1 d1)).setCell ⟨w.heap.size, 2, none⟩ (.slice b2 k2 d2)).setCell ⟨w.heap.size, 3, none⟩ (.slice b3 k3 d3)).cell? ⟨w.heap.size, 0, none⟩ = some (.bool true) := blk_cell gf; have vf0 : ((((w2.setCell ⟨w.heap.size, 0, none⟩ (.bool true)).setCell ⟨w.heap.size, 1, none⟩ (.slice b1 k1 d1)).setCell ⟨w.heap.size, 2, none⟩ (.slice b2 k2 d2)).setCell ⟨w.heap.size, 3, none⟩ (.slice b3 k3 d3)).frozen? ⟨w.heap.size, 0, none⟩ = false := blk_free gf; have vc1 : ((((w2.setCell ⟨w.heap.size, 0, none⟩ (.bool true)).setCell ⟨w.heap.size, 1, none⟩ (.slice b1 k1 d1)).setCell ⟨w.heap.size, 2, none⟩ (.slice b2 k2 d2)).setCell ⟨w.heap.size, 3, none⟩ (.slice b3 k3 d3)).cell? ⟨w.heap.size, 1, none⟩ = some (.slice b1 k1 d1) := blk_cell gf; have vf1 : ((((w2.setCell ⟨w.heap.size, 0, none⟩ (.bool true)).setCell ⟨w.heap.size, 1, none⟩ (.slice b1 k1 d1)).setCell ⟨w.heap.size, 2, none⟩ (.slice b2 k2 d2)).setCell ⟨w.heap.size, 3, none⟩ (.slice b3 k3 d3)).frozen? ⟨w.heap.size, 1, none⟩ = false := blk_free gf; have vc2 : ((((w2.setCell ⟨w.heap.size, 0, none⟩ (.bool true)).setCell ⟨w.heap.size, 1, none⟩ (.slice b1 k1 d1)).setCell ⟨w.heap.size, 2, none⟩ (.slice b2 k2 d2)).setCell ⟨w.heap.size, 3, none⟩ (.slice b3 k3 d3)).cell? ⟨w.heap.size, 2, none⟩ = some (.slice b2 k2 d2) := blk_cell gf; have vf2 : ((((w2.setCell ⟨w.heap.size, 0, none⟩ (.bool true)).setCell ⟨w.heap.size, 1, none⟩ (.slice b1 k1 d1)).setCell ⟨w.heap.size, 2, none⟩ (.slice b2 k2 d2)).setCell ⟨w.heap.size, 3, none⟩ (.slice b3 k3 d3)).frozen? ⟨w.heap.size, 2, none⟩ = false := blk_free gf; have vc3 : ((((w2.setCell ⟨w.heap.size, 0, none⟩ (.bool true)).setCell ⟨w.heap.size, 1, none⟩ (.slice b1 k1 d1)).setCell ⟨w.heap.size, 2, none⟩ (.slice b2 k2 d2)).setCell ⟨w.heap.size, 3, none⟩ (.slice b3 k3 d3)).cell? ⟨w.heap.size, 3, none⟩ = some (.slice b3 k3 d3) := blk_cell gf; have vf3 : ((((w2.setCell ⟨w.heap.size, 0, none⟩ (.bool true)).setCell ⟨w.heap.size, 1, none⟩ (.slice b1 k1 d1)).setCell ⟨w.heap.size, 2, none⟩ (.slice b2 k2 d2)).setCell ⟨w.heap.size, 3, none⟩ (.slice b3 k3 d3)).frozen? ⟨w.heap.size, 3, none⟩ = false := blk_free gf; have hB1 := blk_lt G1.out; have O1 := hidden (own_kept o1 kf (fun k hk hs => by have h1 := own_geN o1 k hk; have h2 : k = w.heap.size := hs; omega)); have O2 := hidden (own_kept o2 kf (fun k hk hs => by have h1 := own_geN o2 k hk; have h2 : k = w.heap.size := hs; omega)); have O3 := hidden (own_kept o3 kf (fun k hk hs => by have h1 := own_geN o3 k hk; have h2 : k = w.heap.size := hs; omega)); have GF := hidden gf; have G1F := hidden (blk_kept kf (by show ¬ w.heap.size + 1 = w.heap.size; omega) g1); have KF := hidden sf; clear q2 o1 o2 o3 g0 g1 gf kf sf)
    | (go_at_call 20; refine (HFd.out _ _ _ _ _ _ _ _ _ _ (Row.own O1.out) (Row.own O2.out) (Row.own O3.out)).mono ?_; rintro e w3 ⟨rfl, q3⟩; have g0 := blk_kept q3 (fun h => h) GF.out; have g1 := blk_kept q3 (fun h => h) G1F.out; have tc0 : w3.cell? ⟨w.heap.size, 0, none⟩ = some (.bool true) := blk_cell g0; have tf0 : w3.frozen? ⟨w.heap.size, 0, none⟩ = false := blk_free g0; have tc1 : w3.cell? ⟨w.heap.size, 1, none⟩ = some (.slice b1 k1 d1) := blk_cell g0; have tf1 : w3.frozen? ⟨w.heap.size, 1, none⟩ = false := blk_free g0; have tc2 : w3.cell? ⟨w.heap.size, 2, none⟩ = some (.slice b2 k2 d2) := blk_cell g0; have tf2 : w3.frozen? ⟨w.heap.size, 2, none⟩ = false := blk_free g0; have tc3 : w3.cell? ⟨w.heap.size, 3, none⟩ = some (.slice b3 k3 d3) := blk_cell g0; have tf3 : w3.frozen? ⟨w.heap.size, 3, none⟩ = false := blk_free g0; have P1 := hidden (own_kept O1.out q3 (fun _ _ h => h)); have P2 := hidden (own_kept O2.out q3 (fun _ _ h => h)); have P3 := hidden (own_kept O3.out q3 (fun _ _ h => h)); have H0 := hidden g0; have H1 := hidden g1; have K3 := hidden (KF.out.trans q3); have hzq := q3.size; simp [World.setCell] at hzq; have hB1' := hB1; clear q3 g0 g1)
    | (go_at_call 50; have _t := t1; refine (HIn.out n.keys key b1 k1 d1 (w3.alloc (.cells #[.string key] 9)) w1.heap.size (P1.out.alloc _) hcl hbk (by simp; omega) w3.heap.size (blk_new _ _) (fun e => by have := own_ltN P1.out _ e; omega)).mono ?_; rintro e w4 ⟨u, rfl, hu⟩; obtain ⟨ia, ic, rfl, io, ig, iw⟩ := hu.out; clear hu t1; rw [L1.out] at io iw; rw [L1.out]; have kg : Kept (fun k => (Value.slice b1 k1 d1).ownBlock = some k) w3 w4 := ((Kept.refl _ w3).alloc _).grown ig (fun k e _ => e); have g0 := blk_kept kg (fun e => by have := own_geN P1.out _ e; omega) H0.out; have g1 := blk_kept kg (fun e => by have := own_geN P1.out _ e; omega) H1.out; have p2 := own_kept P2.out kg (fun k hk hs => OAP.out k hs hk); have p3 := own_kept P3.out kg (fun k hk hs => own_typesN P3.out P1.out (by decide) k hk hs); have iapart : ∀ k, (Value.slice ia (k1 + 1) ic).ownBlock = some k → (Value.slice b2 k2 d2).ownBlock ≠ some k := (fun k hk h2 => by rcases iw k hk with h3 | h3; (exact OAP.out k h3 h2); (have h4 := own_ltN P2.out k h2; simp at h3; omega)); have wc1 : w4.cell? ⟨w.heap.size, 1, none⟩ = some (.slice b1 k1 d1) := blk_cell g0; have wf1 : w4.frozen? ⟨w.heap.size, 1, none⟩ = false := blk_free g0; have gs : (w4.setCell ⟨w.heap.size, 1, none⟩ (.slice ia (k1 + 1) ic)).heap[w.heap.size]? = some (.cells #[.bool true, .slice ia (k1 + 1) ic, .slice b2 k2 d2, .slice b3 k3 d3] 25 (0, 0)) := blk_set g0 _; have xs2 : (w4.setCell ⟨w.heap.size, 1, none⟩ (.slice ia (k1 + 1) ic)).cell? ⟨w.heap.size, 2, none⟩ = some (.slice b2 k2 d2) := blk_cell gs; have ks : Kept (only w.heap.size) w4 (w4.setCell ⟨w.heap.size, 1, none⟩ (.slice ia (k1 + 1) ic)) := (Kept.refl (only w.heap.size) w4).setCell (p := ⟨w.heap.size, 1, none⟩) rfl _; have S0 := hidden gs; have T1 := hidden (blk_kept ks (by show ¬ w.heap.size + 1 = w.heap.size; omega) g1); have IOw := hidden (own_kept io ks (fun k hk hs => by have h1 := own_geN io k hk; have h2 : k = w.heap.size := hs; omega)); have IP2 := hidden (own_kept p2 ks (fun k hk hs => by have h1 := own_geN p2 k hk; have h2 : k = w.heap.size := hs; omega)); have IP3 := hidden (own_kept p3 ks (fun k hk hs => by have h1 := own_geN p3 k hk; have h2 : k = w.heap.size := hs; omega)); have K4 := hidden (((K3.out.trans' kg (fun i hi hs => by have := own_geN P1.out _ hs; omega))).setNew (p := ⟨w.heap.size, 1, none⟩) (Nat.le_refl _) (.slice ia (k1 + 1) ic)); have IAP := hidden iapart; have hz4 : w3.heap.size ≤ w4.heap.size := kg.size; have hz5 : (w4.setCell ⟨w.heap.size, 1, none⟩ (.slice ia (k1 + 1) ic)).heap.size = w4.heap.size := (by simp [World.setCell]); have HZ5 := hidden hz5; have t2 : True := trivial; clear io ig iw kg g0 g1 p2 p3 iapart gs ks hz5)
    | (go_at_call 50; have _t := t2; refine (HIn.out n.vals value b2 k2 d2 ((w4.setCell ⟨w.heap.size, 1, none⟩ (.slice ia (k1 + 1) ic)).alloc (.cells #[.string value] 9)) w1.heap.size (IP2.out.alloc _) (by rw [HV12.out]; exact hcl) (by rw [HV12.out]; exact hbk) (by have := HZ5.out; simp; omega) w4.heap.size (by have h := blk_new (w4.setCell ⟨w.heap.size, 1, none⟩ (.slice ia (k1 + 1) ic)) (.cells #[.string value] 9); rw [HZ5.out] at h; exact h) (fun e => by have h1 := own_ltN IP2.out _ e; rw [HZ5.out] at h1; exact absurd h1 (Nat.lt_irrefl _))).mono ?_; rintro e w5 ⟨u, rfl, hu⟩; obtain ⟨ja, jc, rfl, jo, jg, jw⟩ := hu.out; clear hu t2; rw [L2.out] at jo jw; rw [L2.out]; have kg : Kept (fun k => (Value.slice b2 k2 d2).ownBlock = some k) (w4.setCell ⟨w.heap.size, 1, none⟩ (.slice ia (k1 + 1) ic)) w5 := ((Kept.refl _ _).alloc _).grown jg (fun k e _ => e); have g0 := blk_kept kg (fun e => by have := own_geN IP2.out _ e; omega) S0.out; have g1 := blk_kept kg (fun e => by have := own_geN IP2.out _ e; omega) T1.out; have p1 := own_kept IOw.out kg (fun k hk hs => IAP.out k hk hs); have p3 := own_kept IP3.out kg (fun k hk hs => own_typesN IP3.out IP2.out (by decide) k hk hs); have japart : ∀ k, (Value.slice ia (k1 + 1) ic).ownBlock = some k → (Value.slice ja (k2 + 1) jc).ownBlock ≠ some k := (fun k hk h2 => by rcases jw k h2 with h3 | h3; (exact IAP.out k hk h3); (have h4 := own_ltN IOw.out k hk; rw [HZ5.out] at h4; simp at h3; have h5 := HZ5.out; omega)); have wc2 : w5.cell? ⟨w.heap.size, 2, none⟩ = some (.slice b2 k2 d2) := blk_cell g0; have wf2 : w5.frozen? ⟨w.heap.size, 2, none⟩ = false := blk_free g0; have gs : (w5.setCell ⟨w.heap.size, 2, none⟩ (.slice ja (k2 + 1) jc)).heap[w.heap.size]? = some (.cells #[.bool true, .slice ia (k1 + 1) ic, .slice ja (k2 + 1) jc, .slice b3 k3 d3] 25 (0, 0)) := blk_set g0 _; have ks : Kept (only w.heap.size) w5 (w5.setCell ⟨w.heap.size, 2, none⟩ (.slice ja (k2 + 1) jc)) := (Kept.refl (only w.heap.size) w5).setCell (p := ⟨w.heap.size, 2, none⟩) rfl _; have ge1 := blk_kept ks (by show ¬ w.heap.size + 1 = w.heap.size; omega) g1; have uc0 : (w5.setCell ⟨w.heap.size, 2, none⟩ (.slice ja (k2 + 1) jc)).cell? ⟨w.heap.size, 0, none⟩ = some (.bool true) := blk_cell gs; have uf0 : (w5.setCell ⟨w.heap.size, 2, none⟩ (.slice ja (k2 + 1) jc)).frozen? ⟨w.heap.size, 0, none⟩ = false := blk_free gs; have uc1 : (w5.setCell ⟨w.heap.size, 2, none⟩ (.slice ja (k2 + 1) jc)).cell? ⟨w.heap.size, 1, none⟩ = some (.slice ia (k1 + 1) ic) := blk_cell gs; have uf1 : (w5.setCell ⟨w.heap.size, 2, none⟩ (.slice ja (k2 + 1) jc)).frozen? ⟨w.heap.size, 1, none⟩ = false := blk_free gs; have uc2 : (w5.setCell ⟨w.heap.size, 2, none⟩ (.slice ja (k2 + 1) jc)).cell? ⟨w.heap.size, 2, none⟩ = some (.slice ja (k2 + 1) jc) := blk_cell gs; have uf2 : (w5.setCell ⟨w.heap.size, 2, none⟩ (.slice ja (k2 + 1) jc)).frozen? ⟨w.heap.size, 2, none⟩ = false := blk_free gs; have uc3 : (w5.setCell ⟨w.heap.size, 2, none⟩ (.slice ja (k2 + 1) jc)).cell? ⟨w.heap.size, 3, none⟩ = some (.slice b3 k3 d3) := blk_cell gs; have uf3 : (w5.setCell ⟨w.heap.size, 2, none⟩ (.slice ja (k2 + 1) jc)).frozen? ⟨w.heap.size, 3, none⟩ = false := blk_free gs; have sc0 : (w5.setCell ⟨w.heap.size, 2, none⟩ (.slice ja (k2 + 1) jc)).cell? ⟨w.heap.size + 1, 0, none⟩ = some (.bool false) := blk_cell ge1; have sf0 : (w5.setCell ⟨w.heap.size, 2, none⟩ (.slice ja (k2 + 1) jc)).frozen? ⟨w.heap.size + 1, 0, none⟩ = false := blk_free ge1; have sc1 : (w5.setCell ⟨w.heap.size, 2, none⟩ (.slice ja (k2 + 1) jc)).cell? ⟨w.heap.size + 1, 1, none⟩ = some (.slice none 0 0) := blk_cell ge1; have sf1 : (w5.setCell ⟨w.heap.size, 2, none⟩ (.slice ja (k2 + 1) jc)).frozen? ⟨w.heap.size + 1, 1, none⟩ = false := blk_free ge1; have sc2 : (w5.setCell ⟨w.heap.size, 2, none⟩ (.slice ja (k2 + 1) jc)).cell? ⟨w.heap.size + 1, 2, none⟩ = some (.slice none 0 0) := blk_cell ge1; have sf2 : (w5.setCell ⟨w.heap.size, 2, none⟩ (.slice ja (k2 + 1) jc)).frozen? ⟨w.heap.size + 1, 2, none⟩ = false := blk_free ge1; have sc3 : (w5.setCell ⟨w.heap.size, 2, none⟩ (.slice ja (k2 + 1) jc)).cell? ⟨w.heap.size + 1, 3, none⟩ = some (.slice none 0 0) := blk_cell ge1; have sf3 : (w5.setCell ⟨w.heap.size, 2, none⟩ (.slice ja (k2 + 1) jc)).frozen? ⟨w.heap.size + 1, 3, none⟩ = false := blk_free ge1; have JO1 := hidden (own_kept p1 ks (fun k hk hs => by have h1 := own_geN p1 k hk; have h2 : k = w.heap.size := hs; omega)); have JO2 := hidden (own_kept jo ks (fun k hk hs => by have h1 := own_geN jo k hk; have h2 : k = w.heap.size := hs; omega)); have JO3 := hidden (own_kept p3 ks (fun k hk hs => by have h1 := own_geN p3 k hk; have h2 : k = w.heap.size := hs; omega)); have KE := hidden (((K4.out.trans' kg (fun i hi hs => by have := own_geN IP2.out _ hs; omega))).setNew (p := ⟨w.heap.size, 2, none⟩) (Nat.le_refl _) (.slice ja (k2 + 1) jc)); have JAP := hidden japart; have J1 := hidden ge1; clear jo jg jw kg g0 g1 p1 p3 japart gs ks ge1))
  have gf := fill4 J1.out (.bool true) (.slice ia (k1 + 1) ic) (.slice ja (k2 + 1) jc) (.slice b3 k3 d3)
  have kf := kept_fill4 (W := (w5.setCell ⟨w.heap.size, 2, none⟩ (.slice ja (k2 + 1) jc))) (g := w.heap.size + 1) (.bool true) (.slice ia (k1 + 1) ic) (.slice ja (k2 + 1) jc) (.slice b3 k3 d3)
  have sf := same_fill4 KE.out (g := w.heap.size + 1) (by omega) (.bool true) (.slice ia (k1 + 1) ic) (.slice ja (k2 + 1) jc) (.slice b3 k3 d3)
  generalize (((((w5.setCell ⟨w.heap.size, 2, none⟩ (.slice ja (k2 + 1) jc)).setCell ⟨w.heap.size + 1, 0, none⟩ (.bool true)).setCell ⟨w.heap.size + 1, 1, none⟩ (.slice ia (k1 + 1) ic)).setCell ⟨w.heap.size + 1, 2, none⟩ (.slice ja (k2 + 1) jc)).setCell ⟨w.heap.size + 1, 3, none⟩ (.slice b3 k3 d3)) = WF at gf kf sf ⊢
  have qc0 : WF.cell? ⟨w.heap.size + 1, 0, none⟩ = some (.bool true) := blk_cell gf
  have qc1 : WF.cell? ⟨w.heap.size + 1, 1, none⟩ = some (.slice ia (k1 + 1) ic) := blk_cell gf
  have qc2 : WF.cell? ⟨w.heap.size + 1, 2, none⟩ = some (.slice ja (k2 + 1) jc) := blk_cell gf
  have qc3 : WF.cell? ⟨w.heap.size + 1, 3, none⟩ = some (.slice b3 k3 d3) := blk_cell gf
  refine bodyPost_ret (v := .tuple #[.agg #[.bool true, .slice ia (k1 + 1) ic, .slice ja (k2 + 1) jc, .slice b3 k3 d3], .int .i64 0]) (by simp [results, Tryd.results22, go_sem, qc0, qc1, qc2, qc3]) rfl ⟨_, rfl, ⟨⟨.agg #[.bool true, .slice ia (k1 + 1) ic, .slice ja (k2 + 1) jc, .slice b3 k3 d3], rfl, ?_, sf⟩⟩⟩
  have e3 := E3.out
  subst e3
  refine ⟨ia, ja, b3, ic, jc, d3, ?_, ?_, ?_, ?_, ?_⟩
  · unfold insL
    rw [L1.out, L2.out]
  · have h9 := own_mono (own_kept JO1.out kf (fun k hk hs => by have h1 := own_geN JO1.out k hk; have h2 : k = w.heap.size + 1 := hs; omega)) (show w.heap.size ≤ w1.heap.size by omega)
    unfold insL
    rw [L1.out]
    exact h9
  · have h9 := own_mono (own_kept JO2.out kf (fun k hk hs => by have h1 := own_geN JO2.out k hk; have h2 : k = w.heap.size + 1 := hs; omega)) (show w.heap.size ≤ w1.heap.size by omega)
    unfold insL
    rw [L2.out]
    exact h9
  · exact own_mono (own_kept JO3.out kf (fun k hk hs => by have h1 := own_geN JO3.out k hk; have h2 : k = w.heap.size + 1 := hs; omega)) (by omega)
  · unfold insL
    rw [L1.out, L2.out]
    exact JAP.out
theorem put_any (n : Nd) (a1 a2 a3 : Option Addr) (k1 c1 k2 c2 k3 c3 : Nat) (key value : ByteArray) (w : World) (r1 : Row w (.slice a1 k1 c1) (TS n.keys)) (r2 : Row w (.slice a2 k2 c2) (TS n.vals)) (r3 : Row w (.slice a3 k3 c3) (IS n.kids)) (hb : n.Bd) (hbig : n.keys.length ≤ 8796093022206) :
    Calls Tryd.prog 22 #[.agg #[.bool n.leaf, .slice a1 k1 c1, .slice a2 k2 c2, .slice a3 k3 c3], .string key, .string value] w fun e w' => ∃ u, e = .returned u ∧ PuP w (n.put key value).1 (n.put key value).2 u w' := by
  unfold Nd.put
  cases hl : n.leaf
  · rw [if_neg (by simp)]
    have h := put_noleaf n a1 a2 a3 k1 c1 k2 c2 k3 c3 key value w hl
    rw [hl] at h
    exact h
  · by_cases hc : n.chk = 0
    · rw [if_pos (by simp [hc])]
      cases hk : mayK key
      · rw [if_neg (by simp)]
        have h := put_nokey n a1 a2 a3 k1 c1 k2 c2 k3 c3 key value w r1 r2 r3 hb hl hc hk
        rw [hl] at h
        exact h
      · cases hv : mayV value
        · rw [if_neg (by simp)]
          have h := put_noval n a1 a2 a3 k1 c1 k2 c2 k3 c3 key value w r1 r2 r3 hb hl hc hk hv
          rw [hl] at h
          exact h
        · rw [if_pos (by simp)]
          cases hh : n.has key
          · rw [if_neg (by simp)]
            have h := put_ins n a1 a2 a3 k1 c1 k2 c2 k3 c3 key value w r1 r2 r3 hb hbig hl hc hk hv hh
            rw [hl] at h
            exact h
          · rw [if_pos rfl]
            have h := put_has n a1 a2 a3 k1 c1 k2 c2 k3 c3 key value w r1 r2 r3 hb hbig hl hc hk hv hh
            rw [hl] at h
            exact h
    · rw [if_neg (by simp [hc])]
      have h := put_nochk n a1 a2 a3 k1 c1 k2 c2 k3 c3 key value w r1 r2 r3 hb hl hc
      rw [hl] at h
      exact h
end Go.Proofs.YtpjgghalnkfdkaaDoor
namespace Go.Proofs.YtpjgghalnkfdkaaDoor
open Go.RowKit
set_option linter.unusedVariables false
set_option linter.unusedSimpArgs false
def hd4 : List UInt8 := [68, 78, 79, 68]
def headB (k ks bs sm : Nat) : List UInt8 := ((((hd4 ++ be 1 k) ++ be 1 0) ++ be 2 ks) ++ be 4 bs) ++ be 4 sm
theorem headB_len (k ks bs sm : Nat) : (headB k ks bs sm).length = 16 := by simp [headB, hd4, be_length]
set_option maxHeartbeats 1000000 in
set_option maxRecDepth 100000 in
theorem text_any (k ks bs sm : Nat) (hk : k < 256) (hks : ks < 65536) (hbs : bs < 4294967296) (hsm : sm < 4294967296) (w : World) :
    Calls Tryd.prog 34 #[.agg #[.int .u8 68, .int .u8 78, .int .u8 79, .int .u8 68, .int .u8 k, .int .u8 0, .int .u16 ks, .int .u32 bs, .int .u32 sm]] w fun e w' => e = .returned (.string ⟨(headB k ks bs sm).toArray⟩) ∧ Same w w' := by
  have K0 : Hid (Same w (w.alloc (.cells #[.int .u8 68, .int .u8 78, .int .u8 79, .int .u8 68, .int .u8 k, .int .u8 0, .int .u16 ks, .int .u32 bs, .int .u32 sm] 62))) := hidden (same_alloc _ _)
  have l5 : (hd4 ++ be 1 k).length = 5 := by simp [hd4, be_length]
  have l6 : ((hd4 ++ be 1 k) ++ be 1 0).length = 6 := by simp [hd4, be_length]
  have l8 : (((hd4 ++ be 1 k) ++ be 1 0) ++ be 2 ks).length = 8 := by simp [hd4, be_length]
  have l12 : ((((hd4 ++ be 1 k) ++ be 1 0) ++ be 2 ks) ++ be 4 bs).length = 12 := by simp [hd4, be_length]
  have g1 : ∀ B g w, WS B g 16 ([], false) w → Calls Tryd.prog 61 #[.pointer (some ⟨g, 0, none⟩), .string ⟨hd4.toArray⟩] w fun e w' => e = .returned (.tuple #[]) ∧ WS B g 16 (hd4, false) w' ∧ Kept (wrS B g) w w' := fun B g w h => by
    have := fitRaw h ⟨hd4.toArray⟩ (by decide) (by decide)
    rw [ba_list, List.nil_append] at this
    exact this
  have g2 : ∀ B g w, WS B g 16 (hd4, false) w → Calls Tryd.prog 60 #[.pointer (some ⟨g, 0, none⟩), .int .u8 (k : Nat)] w fun e w' => e = .returned (.tuple #[]) ∧ WS B g 16 (hd4 ++ be 1 k, false) w' ∧ Kept (wrS B g) w w' := fun B g w h => fitU8 h k hk (by decide) (by decide)
  have g3 : ∀ B g w, WS B g 16 (hd4 ++ be 1 k, false) w → Calls Tryd.prog 60 #[.pointer (some ⟨g, 0, none⟩), .int .u8 0] w fun e w' => e = .returned (.tuple #[]) ∧ WS B g 16 ((hd4 ++ be 1 k) ++ be 1 0, false) w' ∧ Kept (wrS B g) w w' := fun B g w h => fitU8 h 0 (by decide) (by rw [l5]; decide) (by rw [l5]; decide)
  have g4 : ∀ B g w, WS B g 16 ((hd4 ++ be 1 k) ++ be 1 0, false) w → Calls Tryd.prog 64 #[.pointer (some ⟨g, 0, none⟩), .int .u16 (ks : Nat)] w fun e w' => e = .returned (.tuple #[]) ∧ WS B g 16 (((hd4 ++ be 1 k) ++ be 1 0) ++ be 2 ks, false) w' ∧ Kept (wrS B g) w w' := fun B g w h => fitU16 h ks hks (by rw [l6]; decide) (by rw [l6]; decide)
  have g5 : ∀ B g w, WS B g 16 (((hd4 ++ be 1 k) ++ be 1 0) ++ be 2 ks, false) w → Calls Tryd.prog 59 #[.pointer (some ⟨g, 0, none⟩), .int .u32 (bs : Nat)] w fun e w' => e = .returned (.tuple #[]) ∧ WS B g 16 ((((hd4 ++ be 1 k) ++ be 1 0) ++ be 2 ks) ++ be 4 bs, false) w' ∧ Kept (wrS B g) w w' := fun B g w h => fitU32 h bs hbs (by rw [l8]; decide) (by rw [l8]; decide)
  have g6 : ∀ B g w, WS B g 16 ((((hd4 ++ be 1 k) ++ be 1 0) ++ be 2 ks) ++ be 4 bs, false) w → Calls Tryd.prog 59 #[.pointer (some ⟨g, 0, none⟩), .int .u32 (sm : Nat)] w fun e w' => e = .returned (.tuple #[]) ∧ WS B g 16 (headB k ks bs sm, false) w' ∧ Kept (wrS B g) w w' := fun B g w h => fitU32 h sm hsm (by rw [l12]; decide) (by rw [l12]; decide)
  clear l5 l6 l8 l12 hk hks hbs hsm
  generalize headB k ks bs sm = H16 at *
  generalize (((hd4 ++ be 1 k) ++ be 1 0) ++ be 2 ks) ++ be 4 bs = H12 at *
  generalize ((hd4 ++ be 1 k) ++ be 1 0) ++ be 2 ks = H8 at *
  generalize (hd4 ++ be 1 k) ++ be 1 0 = H6 at *
  generalize hd4 ++ be 1 k = H5 at *
  have G1 := hidden g1
  have G2 := hidden g2
  have G3 := hidden g3
  have G4 := hidden g4
  have G5 := hidden g5
  have G6 := hidden g6
  clear g1 g2 g3 g4 g5 g6
  go_enter Tryd.func34, Tryd.ntmps34
  go_wp2_with (first
    | (go_at_call 58; refine (newW 16 _ (by omega) (by omega)).mono ?_; rintro e w1 ⟨rfl, s1, k1, z1⟩; clear z1; replace s1 : WS (w.heap.size + 1) (w.heap.size + 1) 16 ([], false) w1 := (by simpa using s1)
       have b1 := blk_kept k1 (fun h => h) (blk_new w (.cells #[.int .u8 68, .int .u8 78, .int .u8 79, .int .u8 68, .int .u8 k, .int .u8 0, .int .u16 ks, .int .u32 bs, .int .u32 sm] 62))
       have hbt : Bt w1 (.slice (some ⟨w.heap.size, 0, none⟩) 4 4) hd4 := ⟨some ⟨w.heap.size, 0, none⟩, 4, rfl, by decide, fun _ => ⟨w.heap.size, 0, rfl, fun j hj => by have hj4 : j < 4 := hj; rw [Nat.zero_add, blk_cell b1]; rcases j with _ | _ | _ | _ | j <;> first | rfl | omega⟩⟩
       have htx := hbt.text
       have K1 := hidden (K0.out.trans k1)
       have B1 := hidden b1
       have t1 : True := trivial
       clear hbt b1 k1)
    | (go_at_call 61; have _t := t1; refine (G1.out _ _ _ s1).mono ?_; rintro e w2 ⟨rfl, s2, k2⟩; clear s1 t1; have K2 := hidden (Same.wr K1.out k2 (by omega) (by omega)); have b2 := blk_kept k2 (fun h => by rcases h with h | h <;> omega) B1.out; have x2 : w2.cell? ⟨w.heap.size, 4, none⟩ = some (.int .u8 k) := blk_cell b2; have B2 := hidden b2; have t2 : True := trivial; clear k2 b2)
    | (go_at_call 60; have _t := t2; refine (G2.out _ _ _ s2).mono ?_; rintro e w3 ⟨rfl, s3, k3⟩; clear s2 t2; have K3 := hidden (Same.wr K2.out k3 (by omega) (by omega)); have b3 := blk_kept k3 (fun h => by rcases h with h | h <;> omega) B2.out; have x3 : w3.cell? ⟨w.heap.size, 5, none⟩ = some (.int .u8 0) := blk_cell b3; have B3 := hidden b3; have t3 : True := trivial; clear k3 b3)
    | (go_at_call 60; have _t := t3; refine (G3.out _ _ _ s3).mono ?_; rintro e w4 ⟨rfl, s4, k4⟩; clear s3 t3; have K4 := hidden (Same.wr K3.out k4 (by omega) (by omega)); have b4 := blk_kept k4 (fun h => by rcases h with h | h <;> omega) B3.out; have x4 : w4.cell? ⟨w.heap.size, 6, none⟩ = some (.int .u16 ks) := blk_cell b4; have B4 := hidden b4; have t4 : True := trivial; clear k4 b4)
    | (go_at_call 64; have _t := t4; refine (G4.out _ _ _ s4).mono ?_; rintro e w5 ⟨rfl, s5, k5⟩; clear s4 t4; have K5 := hidden (Same.wr K4.out k5 (by omega) (by omega)); have b5 := blk_kept k5 (fun h => by rcases h with h | h <;> omega) B4.out; have x5 : w5.cell? ⟨w.heap.size, 7, none⟩ = some (.int .u32 bs) := blk_cell b5; have B5 := hidden b5; have t5 : True := trivial; clear k5 b5)
    | (go_at_call 59; have _t := t5; refine (G5.out _ _ _ s5).mono ?_; rintro e w6 ⟨rfl, s6, k6⟩; clear s5 t5; have K6 := hidden (Same.wr K5.out k6 (by omega) (by omega)); have b6 := blk_kept k6 (fun h => by rcases h with h | h <;> omega) B5.out; have x6 : w6.cell? ⟨w.heap.size, 8, none⟩ = some (.int .u32 sm) := blk_cell b6; have B6 := hidden b6; have t6 : True := trivial; clear k6 b6)
    | (go_at_call 59; have _t := t6; refine (G6.out _ _ _ s6).mono ?_; rintro e w7 ⟨rfl, s7, k7⟩; clear s6 t6; have K7 := hidden (Same.wr K6.out k7 (by omega) (by omega)); have b7 := blk_kept k7 (fun h => by rcases h with h | h <;> omega) B6.out; have B7 := hidden b7; have t7 : True := trivial; clear k7 b7)
    | (go_at_call 62; refine (fitDone s7).mono ?_; rintro e w8 ⟨rfl, rfl⟩))
  go_returns
  exact ⟨rfl, K7.out⟩
end Go.Proofs.YtpjgghalnkfdkaaDoor
namespace Go.Proofs.YtpjgghalnkfdkaaDoor
open Go.RowKit
set_option linter.unusedVariables false
set_option linter.unusedSimpArgs false
/-- copy of a text into a row that is known whole. -/
theorem copy_str (s : List UInt8) (W : World) (g o dLen dCap : Nat) (cur : Array Value) (t : TypeId) (hg : W.heap[g]? = some (.cells cur t (0, 0))) (hle : s.length ≤ dLen) (hfit : o + s.length ≤ cur.size) :
    ∃ W', (Builtin.copy_ #[27, 9] 3 #[.slice (some ⟨g, o, none⟩) dLen dCap, .string ⟨s.toArray⟩]).run Tryd.prog W = .ok (goInt s.length) W' ∧ W'.heap[g]? = some (.cells (cur.toList.take o ++ s.map U8 ++ cur.toList.drop (o + s.length)).toArray t (0, 0)) ∧ Kept (only g) W W' := by
  obtain ⟨i0, hi, hz0, hz1, hz2⟩ := info_parts info5
  have hs : (⟨s.toArray⟩ : ByteArray).size = s.length := ba_size s
  have h := Lib.run_copy_row_string (P := Tryd.prog) W 27 9 3 5 g o dLen dCap ⟨s.toArray⟩ cur t Tryd.underlying27 (by rw [hi]; simp [hz1]) hg (by rw [hs]; exact hle) (by rw [hs]; exact hfit)
  rw [hs, ba_list] at h
  have e : Lib.byteCells s = s.map U8 := rfl
  rw [e] at h
  exact ⟨_, h, setRow_heap W g cur _ t _ hg, ⟨rfl, rfl, rfl, by simp, fun k hk hne => setRow_other _ _ _ _ hne⟩⟩
theorem fill9 {W : World} {g : Nat} {t : TypeId} {z0 z1 z2 z3 z4 z5 z6 z7 z8 : Value} (h : W.heap[g]? = some (.cells #[z0, z1, z2, z3, z4, z5, z6, z7, z8] t (0, 0))) (v0 v1 v2 v3 v4 v5 v6 v7 v8 : Value) :
    ((World.setCell (World.setCell (World.setCell (World.setCell (World.setCell (World.setCell (World.setCell (World.setCell (World.setCell W ⟨g, 0, none⟩ (v0)) ⟨g, 1, none⟩ (v1)) ⟨g, 2, none⟩ (v2)) ⟨g, 3, none⟩ (v3)) ⟨g, 4, none⟩ (v4)) ⟨g, 5, none⟩ (v5)) ⟨g, 6, none⟩ (v6)) ⟨g, 7, none⟩ (v7)) ⟨g, 8, none⟩ (v8))).heap[g]? = some (.cells #[v0, v1, v2, v3, v4, v5, v6, v7, v8] t (0, 0)) := by
  have h1 : (World.setCell W ⟨g, 0, none⟩ v0).heap[g]? = some (.cells #[v0, z1, z2, z3, z4, z5, z6, z7, z8] t (0, 0)) := blk_set h v0
  generalize World.setCell W ⟨g, 0, none⟩ v0 = W1 at h1 ⊢
  have h2 : (World.setCell W1 ⟨g, 1, none⟩ v1).heap[g]? = some (.cells #[v0, v1, z2, z3, z4, z5, z6, z7, z8] t (0, 0)) := blk_set h1 v1
  generalize World.setCell W1 ⟨g, 1, none⟩ v1 = W2 at h2 ⊢
  have h3 : (World.setCell W2 ⟨g, 2, none⟩ v2).heap[g]? = some (.cells #[v0, v1, v2, z3, z4, z5, z6, z7, z8] t (0, 0)) := blk_set h2 v2
  generalize World.setCell W2 ⟨g, 2, none⟩ v2 = W3 at h3 ⊢
  have h4 : (World.setCell W3 ⟨g, 3, none⟩ v3).heap[g]? = some (.cells #[v0, v1, v2, v3, z4, z5, z6, z7, z8] t (0, 0)) := blk_set h3 v3
  generalize World.setCell W3 ⟨g, 3, none⟩ v3 = W4 at h4 ⊢
  have h5 : (World.setCell W4 ⟨g, 4, none⟩ v4).heap[g]? = some (.cells #[v0, v1, v2, v3, v4, z5, z6, z7, z8] t (0, 0)) := blk_set h4 v4
  generalize World.setCell W4 ⟨g, 4, none⟩ v4 = W5 at h5 ⊢
  have h6 : (World.setCell W5 ⟨g, 5, none⟩ v5).heap[g]? = some (.cells #[v0, v1, v2, v3, v4, v5, z6, z7, z8] t (0, 0)) := blk_set h5 v5
  generalize World.setCell W5 ⟨g, 5, none⟩ v5 = W6 at h6 ⊢
  have h7 : (World.setCell W6 ⟨g, 6, none⟩ v6).heap[g]? = some (.cells #[v0, v1, v2, v3, v4, v5, v6, z7, z8] t (0, 0)) := blk_set h6 v6
  generalize World.setCell W6 ⟨g, 6, none⟩ v6 = W7 at h7 ⊢
  have h8 : (World.setCell W7 ⟨g, 7, none⟩ v7).heap[g]? = some (.cells #[v0, v1, v2, v3, v4, v5, v6, v7, z8] t (0, 0)) := blk_set h7 v7
  generalize World.setCell W7 ⟨g, 7, none⟩ v7 = W8 at h8 ⊢
  have h9 : (World.setCell W8 ⟨g, 8, none⟩ v8).heap[g]? = some (.cells #[v0, v1, v2, v3, v4, v5, v6, v7, v8] t (0, 0)) := blk_set h8 v8
  exact h9
theorem same_fill9 {w W : World} (k : Same w W) {g : Nat} (hg : w.heap.size ≤ g) (v0 v1 v2 v3 v4 v5 v6 v7 v8 : Value) : Same w (World.setCell (World.setCell (World.setCell (World.setCell (World.setCell (World.setCell (World.setCell (World.setCell (World.setCell W ⟨g, 0, none⟩ (v0)) ⟨g, 1, none⟩ (v1)) ⟨g, 2, none⟩ (v2)) ⟨g, 3, none⟩ (v3)) ⟨g, 4, none⟩ (v4)) ⟨g, 5, none⟩ (v5)) ⟨g, 6, none⟩ (v6)) ⟨g, 7, none⟩ (v7)) ⟨g, 8, none⟩ (v8)) := by
  have k1 := k.setNew (p := ⟨g, 0, none⟩) hg v0
  have k2 := k1.setNew (p := ⟨g, 1, none⟩) hg v1
  have k3 := k2.setNew (p := ⟨g, 2, none⟩) hg v2
  have k4 := k3.setNew (p := ⟨g, 3, none⟩) hg v3
  have k5 := k4.setNew (p := ⟨g, 4, none⟩) hg v4
  have k6 := k5.setNew (p := ⟨g, 5, none⟩) hg v5
  have k7 := k6.setNew (p := ⟨g, 6, none⟩) hg v6
  have k8 := k7.setNew (p := ⟨g, 7, none⟩) hg v7
  have k9 := k8.setNew (p := ⟨g, 8, none⟩) hg v8
  exact k9
set_option maxHeartbeats 2000000 in
set_option maxRecDepth 100000 in
theorem headOf_leaf (n : Nd) (a1 a2 a3 : Option Addr) (k1 c1 k2 c2 k3 c3 : Nat) (es : List UInt8) (w : World) (hl : n.leaf = true) (h1 : k1 < 65536) (h2 : es.length < 4294967296) (hT : Tab w) :
    Calls Tryd.prog 33 #[.agg #[.bool n.leaf, .slice a1 k1 c1, .slice a2 k2 c2, .slice a3 k3 c3], .string ⟨es.toArray⟩] w fun e w' => e = .returned (.agg #[.int .u8 68, .int .u8 78, .int .u8 79, .int .u8 68, .int .u8 1, .int .u8 0, .int .u16 k1, .int .u32 es.length, .int .u32 (crc ((headB 1 k1 es.length 0).take 12 ++ es) : Nat)]) ∧ Same w w' := by
  rw [hl]
  have hsz : (⟨es.toArray⟩ : ByteArray).size = es.length := ba_size es
  have q1 : IntKind.u16.wrap (k1 : Int) = (k1 : Int) := by simp [IntKind.wrap, IntKind.signed, IntKind.bits]; omega
  have q2 : IntKind.u32.wrap (es.length : Int) = (es.length : Int) := by simp [IntKind.wrap, IntKind.signed, IntKind.bits]; omega
  have HTx := hidden (fun W => text_any 1 k1 es.length 0 (by decide) h1 h2 (by decide) W)
  have l16 := headB_len 1 k1 es.length 0
  have hcut : ∀ W : World, (Instr.sliceAt 9 (.string ⟨(headB 1 k1 es.length 0).toArray⟩) none (some (.int .i64 12)) none).run Tryd.prog W = .ok (.string ⟨((headB 1 k1 es.length 0).take 12).toArray⟩) W := fun W => by
    rw [run_sliceAt_string (h := Tryd.underlying9), run_slice_string_to_if (h := Tryd.underlying9), if_pos (by rw [ba_size, l16]; decide)]
    have e : (⟨(headB 1 k1 es.length 0).toArray⟩ : ByteArray).extract 0 (12 : Int).toNat = ⟨((headB 1 k1 es.length 0).take 12).toArray⟩ := by
      apply ByteArray.ext
      rw [ByteArray.data_extract]
      simp
    rw [e]
  have hadd : ∀ W : World, (Op.stringOp .add ⟨((headB 1 k1 es.length 0).take 12).toArray⟩ ⟨es.toArray⟩).run Tryd.prog W = .ok (.string ⟨((headB 1 k1 es.length 0).take 12 ++ es).toArray⟩) W := fun W => by
    rw [run_string_add_sum W _ _ (by rw [ba_size, ba_size, List.length_take]; omega)]
    first | rfl | (congr 2; apply ByteArray.ext; simp)
  have HCr := hidden (fun W h => crc_any ⟨((headB 1 k1 es.length 0).take 12 ++ es).toArray⟩ W (by rw [ba_size, List.length_append, List.length_take]; omega) h)
  rw [ba_list] at HCr
  have K0 : Same w (((w.alloc (.cells #[.bool true, .slice a1 k1 c1, .slice a2 k2 c2, .slice a3 k3 c3] 25)).alloc (.cells #[.int .u8 0, .int .u8 0, .int .u8 0, .int .u8 0, .int .u8 0, .int .u8 0, .int .u16 0, .int .u32 0, .int .u32 0] 62)).alloc (.cells #[.int .u8 0, .int .u8 0, .int .u8 0, .int .u8 0, .int .u8 1, .int .u8 0, .int .u16 k1, .int .u32 es.length, .int .u32 0] 62)) := (((Kept.refl _ w).alloc _).alloc _).alloc _
  have g2 : (((w.alloc (.cells #[.bool true, .slice a1 k1 c1, .slice a2 k2 c2, .slice a3 k3 c3] 25)).alloc (.cells #[.int .u8 0, .int .u8 0, .int .u8 0, .int .u8 0, .int .u8 0, .int .u8 0, .int .u16 0, .int .u32 0, .int .u32 0] 62)).alloc (.cells #[.int .u8 0, .int .u8 0, .int .u8 0, .int .u8 0, .int .u8 1, .int .u8 0, .int .u16 k1, .int .u32 es.length, .int .u32 0] 62)).heap[w.heap.size + 1 + 1]? = some (.cells #[.int .u8 0, .int .u8 0, .int .u8 0, .int .u8 0, .int .u8 1, .int .u8 0, .int .u16 k1, .int .u32 es.length, .int .u32 0] 62 (0, 0)) := by
    have := blk_new ((w.alloc (.cells #[.bool true, .slice a1 k1 c1, .slice a2 k2 c2, .slice a3 k3 c3] 25)).alloc (.cells #[.int .u8 0, .int .u8 0, .int .u8 0, .int .u8 0, .int .u8 0, .int .u8 0, .int .u16 0, .int .u32 0, .int .u32 0] 62)) (.cells #[.int .u8 0, .int .u8 0, .int .u8 0, .int .u8 0, .int .u8 1, .int .u8 0, .int .u16 k1, .int .u32 es.length, .int .u32 0] 62)
    simpa using this
  have g1 : (((w.alloc (.cells #[.bool true, .slice a1 k1 c1, .slice a2 k2 c2, .slice a3 k3 c3] 25)).alloc (.cells #[.int .u8 0, .int .u8 0, .int .u8 0, .int .u8 0, .int .u8 0, .int .u8 0, .int .u16 0, .int .u32 0, .int .u32 0] 62)).alloc (.cells #[.int .u8 0, .int .u8 0, .int .u8 0, .int .u8 0, .int .u8 1, .int .u8 0, .int .u16 k1, .int .u32 es.length, .int .u32 0] 62)).heap[w.heap.size + 1]? = some (.cells #[.int .u8 0, .int .u8 0, .int .u8 0, .int .u8 0, .int .u8 0, .int .u8 0, .int .u16 0, .int .u32 0, .int .u32 0] 62 (0, 0)) := by
    have := blk_new (w.alloc (.cells #[.bool true, .slice a1 k1 c1, .slice a2 k2 c2, .slice a3 k3 c3] 25)) (.cells #[.int .u8 0, .int .u8 0, .int .u8 0, .int .u8 0, .int .u8 0, .int .u8 0, .int .u16 0, .int .u32 0, .int .u32 0] 62)
    exact blk_alloc (by simpa using this) _
  obtain ⟨W3, hcp, b3, k3⟩ := copy_str [68, 78, 79, 68] _ (w.heap.size + 1 + 1) 0 4 4 _ _ g2 (by decide) (by simp)
  have b3' : W3.heap[w.heap.size + 1 + 1]? = some (.cells #[.int .u8 68, .int .u8 78, .int .u8 79, .int .u8 68, .int .u8 1, .int .u8 0, .int .u16 k1, .int .u32 es.length, .int .u32 0] 62 (0, 0)) := b3
  have r3 := blk_kept k3 (fun h => by have h : w.heap.size + 1 = w.heap.size + 1 + 1 := h; omega) g1
  have K3 : Same w W3 := K0.trans' k3 (fun i hi hs => by have : i = w.heap.size + 1 + 1 := hs; omega)
  have x0 : W3.cell? ⟨w.heap.size + 1 + 1, 0, none⟩ = some (.int .u8 68) := blk_cell b3'
  have x1 : W3.cell? ⟨w.heap.size + 1 + 1, 1, none⟩ = some (.int .u8 78) := blk_cell b3'
  have x2 : W3.cell? ⟨w.heap.size + 1 + 1, 2, none⟩ = some (.int .u8 79) := blk_cell b3'
  have x3 : W3.cell? ⟨w.heap.size + 1 + 1, 3, none⟩ = some (.int .u8 68) := blk_cell b3'
  have x4 : W3.cell? ⟨w.heap.size + 1 + 1, 4, none⟩ = some (.int .u8 1) := blk_cell b3'
  have x5 : W3.cell? ⟨w.heap.size + 1 + 1, 5, none⟩ = some (.int .u8 0) := blk_cell b3'
  have x6 : W3.cell? ⟨w.heap.size + 1 + 1, 6, none⟩ = some (.int .u16 k1) := blk_cell b3'
  have x7 : W3.cell? ⟨w.heap.size + 1 + 1, 7, none⟩ = some (.int .u32 es.length) := blk_cell b3'
  have x8 : W3.cell? ⟨w.heap.size + 1 + 1, 8, none⟩ = some (.int .u32 0) := blk_cell b3'
  have BB := hidden b3'
  have RR := hidden r3
  have KK := hidden K3
  have HT := hidden hT
  clear b3 b3' r3 K3 k3 g1 g2 K0 hT hl h1 h2 l16
  generalize crc ((headB 1 k1 es.length 0).take 12 ++ es) = c at *
  generalize (headB 1 k1 es.length 0).take 12 ++ es = L2 at *
  generalize (headB 1 k1 es.length 0).take 12 = L1 at *
  generalize headB 1 k1 es.length 0 = L0 at *
  go_enter Tryd.func33, Tryd.ntmps33
  go_wp2_with (first
    | (go_at_call 34; refine (HTx.out _).mono ?_; rintro e w4 ⟨rfl, k4⟩
       have b4 := blk_kept k4 (fun h => h) BB.out
       have r4 := blk_kept k4 (fun h => h) RR.out
       have y8 : w4.cell? ⟨w.heap.size + 1 + 1, 8, none⟩ = some (.int .u32 0) := blk_cell b4
       have y8f : w4.frozen? ⟨w.heap.size + 1 + 1, 8, none⟩ = false := blk_free b4
       have K4 := hidden (KK.out.trans k4)
       have b5 : (w4.setCell ⟨w.heap.size + 1 + 1, 8, none⟩ (.int .u32 (c : Nat))).heap[w.heap.size + 1 + 1]? = some (.cells #[.int .u8 68, .int .u8 78, .int .u8 79, .int .u8 68, .int .u8 1, .int .u8 0, .int .u16 k1, .int .u32 es.length, .int .u32 (c : Nat)] 62 (0, 0)) := blk_set b4 _
       have r5 := blk_kept ((Kept.refl (only (w.heap.size + 1 + 1)) w4).setCell (p := ⟨w.heap.size + 1 + 1, 8, none⟩) rfl (.int .u32 (c : Nat))) (fun h => by have h : w.heap.size + 1 = w.heap.size + 1 + 1 := h; omega) r4
       have K5 := hidden (K4.out.setNew (p := ⟨w.heap.size + 1 + 1, 8, none⟩) (by show w.heap.size ≤ w.heap.size + 1 + 1; omega) (.int .u32 (c : Nat)))
       have u0 : (w4.setCell ⟨w.heap.size + 1 + 1, 8, none⟩ (.int .u32 (c : Nat))).cell? ⟨w.heap.size + 1 + 1, 0, none⟩ = some (.int .u8 68) := blk_cell b5
       have u1 : (w4.setCell ⟨w.heap.size + 1 + 1, 8, none⟩ (.int .u32 (c : Nat))).cell? ⟨w.heap.size + 1 + 1, 1, none⟩ = some (.int .u8 78) := blk_cell b5
       have u2 : (w4.setCell ⟨w.heap.size + 1 + 1, 8, none⟩ (.int .u32 (c : Nat))).cell? ⟨w.heap.size + 1 + 1, 2, none⟩ = some (.int .u8 79) := blk_cell b5
       have u3 : (w4.setCell ⟨w.heap.size + 1 + 1, 8, none⟩ (.int .u32 (c : Nat))).cell? ⟨w.heap.size + 1 + 1, 3, none⟩ = some (.int .u8 68) := blk_cell b5
       have u4 : (w4.setCell ⟨w.heap.size + 1 + 1, 8, none⟩ (.int .u32 (c : Nat))).cell? ⟨w.heap.size + 1 + 1, 4, none⟩ = some (.int .u8 1) := blk_cell b5
       have u5 : (w4.setCell ⟨w.heap.size + 1 + 1, 8, none⟩ (.int .u32 (c : Nat))).cell? ⟨w.heap.size + 1 + 1, 5, none⟩ = some (.int .u8 0) := blk_cell b5
       have u6 : (w4.setCell ⟨w.heap.size + 1 + 1, 8, none⟩ (.int .u32 (c : Nat))).cell? ⟨w.heap.size + 1 + 1, 6, none⟩ = some (.int .u16 k1) := blk_cell b5
       have u7 : (w4.setCell ⟨w.heap.size + 1 + 1, 8, none⟩ (.int .u32 (c : Nat))).cell? ⟨w.heap.size + 1 + 1, 7, none⟩ = some (.int .u32 es.length) := blk_cell b5
       have u8 : (w4.setCell ⟨w.heap.size + 1 + 1, 8, none⟩ (.int .u32 (c : Nat))).cell? ⟨w.heap.size + 1 + 1, 8, none⟩ = some (.int .u32 (c : Nat)) := blk_cell b5
       have t0 : (w4.setCell ⟨w.heap.size + 1 + 1, 8, none⟩ (.int .u32 (c : Nat))).cell? ⟨w.heap.size + 1, 0, none⟩ = some (.int .u8 0) := blk_cell r5
       have t1 : (w4.setCell ⟨w.heap.size + 1 + 1, 8, none⟩ (.int .u32 (c : Nat))).cell? ⟨w.heap.size + 1, 1, none⟩ = some (.int .u8 0) := blk_cell r5
       have t2 : (w4.setCell ⟨w.heap.size + 1 + 1, 8, none⟩ (.int .u32 (c : Nat))).cell? ⟨w.heap.size + 1, 2, none⟩ = some (.int .u8 0) := blk_cell r5
       have t3 : (w4.setCell ⟨w.heap.size + 1 + 1, 8, none⟩ (.int .u32 (c : Nat))).cell? ⟨w.heap.size + 1, 3, none⟩ = some (.int .u8 0) := blk_cell r5
       have t4 : (w4.setCell ⟨w.heap.size + 1 + 1, 8, none⟩ (.int .u32 (c : Nat))).cell? ⟨w.heap.size + 1, 4, none⟩ = some (.int .u8 0) := blk_cell r5
       have t5 : (w4.setCell ⟨w.heap.size + 1 + 1, 8, none⟩ (.int .u32 (c : Nat))).cell? ⟨w.heap.size + 1, 5, none⟩ = some (.int .u8 0) := blk_cell r5
       have t6 : (w4.setCell ⟨w.heap.size + 1 + 1, 8, none⟩ (.int .u32 (c : Nat))).cell? ⟨w.heap.size + 1, 6, none⟩ = some (.int .u16 0) := blk_cell r5
       have t7 : (w4.setCell ⟨w.heap.size + 1 + 1, 8, none⟩ (.int .u32 (c : Nat))).cell? ⟨w.heap.size + 1, 7, none⟩ = some (.int .u32 0) := blk_cell r5
       have t8 : (w4.setCell ⟨w.heap.size + 1 + 1, 8, none⟩ (.int .u32 (c : Nat))).cell? ⟨w.heap.size + 1, 8, none⟩ = some (.int .u32 0) := blk_cell r5
       have tf0 : (w4.setCell ⟨w.heap.size + 1 + 1, 8, none⟩ (.int .u32 (c : Nat))).frozen? ⟨w.heap.size + 1, 0, none⟩ = false := blk_free r5
       have tf1 : (w4.setCell ⟨w.heap.size + 1 + 1, 8, none⟩ (.int .u32 (c : Nat))).frozen? ⟨w.heap.size + 1, 1, none⟩ = false := blk_free r5
       have tf2 : (w4.setCell ⟨w.heap.size + 1 + 1, 8, none⟩ (.int .u32 (c : Nat))).frozen? ⟨w.heap.size + 1, 2, none⟩ = false := blk_free r5
       have tf3 : (w4.setCell ⟨w.heap.size + 1 + 1, 8, none⟩ (.int .u32 (c : Nat))).frozen? ⟨w.heap.size + 1, 3, none⟩ = false := blk_free r5
       have tf4 : (w4.setCell ⟨w.heap.size + 1 + 1, 8, none⟩ (.int .u32 (c : Nat))).frozen? ⟨w.heap.size + 1, 4, none⟩ = false := blk_free r5
       have tf5 : (w4.setCell ⟨w.heap.size + 1 + 1, 8, none⟩ (.int .u32 (c : Nat))).frozen? ⟨w.heap.size + 1, 5, none⟩ = false := blk_free r5
       have tf6 : (w4.setCell ⟨w.heap.size + 1 + 1, 8, none⟩ (.int .u32 (c : Nat))).frozen? ⟨w.heap.size + 1, 6, none⟩ = false := blk_free r5
       have tf7 : (w4.setCell ⟨w.heap.size + 1 + 1, 8, none⟩ (.int .u32 (c : Nat))).frozen? ⟨w.heap.size + 1, 7, none⟩ = false := blk_free r5
       have tf8 : (w4.setCell ⟨w.heap.size + 1 + 1, 8, none⟩ (.int .u32 (c : Nat))).frozen? ⟨w.heap.size + 1, 8, none⟩ = false := blk_free r5
       have R5 := hidden r5
       clear b4 r4 k4 b5 r5)
    | (go_at_call 63; refine (HCr.out _ (HT.out.same K4.out)).mono ?_; rintro e w5 ⟨rfl, rfl⟩))
  generalize (w4.setCell ⟨w.heap.size + 1 + 1, 8, none⟩ (.int .u32 (c : Nat))) = W5 at *
  have gf := fill9 R5.out (.int .u8 68) (.int .u8 78) (.int .u8 79) (.int .u8 68) (.int .u8 1) (.int .u8 0) (.int .u16 k1) (.int .u32 es.length) (.int .u32 (c : Nat))
  have sf := same_fill9 K5.out (g := w.heap.size + 1) (by omega) (.int .u8 68) (.int .u8 78) (.int .u8 79) (.int .u8 68) (.int .u8 1) (.int .u8 0) (.int .u16 k1) (.int .u32 es.length) (.int .u32 (c : Nat))
  generalize (World.setCell (World.setCell (World.setCell (World.setCell (World.setCell (World.setCell (World.setCell (World.setCell (World.setCell W5 ⟨w.heap.size + 1, 0, none⟩ (.int .u8 68)) ⟨w.heap.size + 1, 1, none⟩ (.int .u8 78)) ⟨w.heap.size + 1, 2, none⟩ (.int .u8 79)) ⟨w.heap.size + 1, 3, none⟩ (.int .u8 68)) ⟨w.heap.size + 1, 4, none⟩ (.int .u8 1)) ⟨w.heap.size + 1, 5, none⟩ (.int .u8 0)) ⟨w.heap.size + 1, 6, none⟩ (.int .u16 k1)) ⟨w.heap.size + 1, 7, none⟩ (.int .u32 es.length)) ⟨w.heap.size + 1, 8, none⟩ (.int .u32 (c : Nat))) = WF at gf sf ⊢
  have p0 : WF.cell? ⟨w.heap.size + 1, 0, none⟩ = some (.int .u8 68) := blk_cell gf
  have p1 : WF.cell? ⟨w.heap.size + 1, 1, none⟩ = some (.int .u8 78) := blk_cell gf
  have p2 : WF.cell? ⟨w.heap.size + 1, 2, none⟩ = some (.int .u8 79) := blk_cell gf
  have p3 : WF.cell? ⟨w.heap.size + 1, 3, none⟩ = some (.int .u8 68) := blk_cell gf
  have p4 : WF.cell? ⟨w.heap.size + 1, 4, none⟩ = some (.int .u8 1) := blk_cell gf
  have p5 : WF.cell? ⟨w.heap.size + 1, 5, none⟩ = some (.int .u8 0) := blk_cell gf
  have p6 : WF.cell? ⟨w.heap.size + 1, 6, none⟩ = some (.int .u16 k1) := blk_cell gf
  have p7 : WF.cell? ⟨w.heap.size + 1, 7, none⟩ = some (.int .u32 es.length) := blk_cell gf
  have p8 : WF.cell? ⟨w.heap.size + 1, 8, none⟩ = some (.int .u32 (c : Nat)) := blk_cell gf
  exact bodyPost_ret (v := .agg #[.int .u8 68, .int .u8 78, .int .u8 79, .int .u8 68, .int .u8 1, .int .u8 0, .int .u16 k1, .int .u32 es.length, .int .u32 (c : Nat)]) (by simp [results, Tryd.results33, go_sem, p0, p1, p2, p3, p4, p5, p6, p7, p8]) rfl ⟨rfl, sf⟩
end Go.Proofs.YtpjgghalnkfdkaaDoor
