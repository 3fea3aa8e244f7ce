/- inode: countersOf, New, Remove. (Made by mkin3.py.) -/
import Derived.Test.YtmlibjohhgpniaaGreatDoorIn2
namespace Go.Proofs.YtmlibjohhgpniaaGreatDoor
open Go.RowKit
set_option linter.unusedVariables false
set_option linter.unusedSimpArgs false
theorem fill3 {W : World} {g : Nat} {t : TypeId} {z0 z1 z2 : Value} (h : W.heap[g]? = some (.cells #[z0, z1, z2] t (0, 0))) (v0 v1 v2 : Value) : (((W.setCell ⟨g, 0, none⟩ v0).setCell ⟨g, 1, none⟩ v1).setCell ⟨g, 2, none⟩ v2).heap[g]? = some (.cells #[v0, v1, v2] t (0, 0)) := by
  have h1 : (W.setCell ⟨g, 0, none⟩ v0).heap[g]? = some (.cells #[v0, z1, z2] t (0, 0)) := blk_set h v0
  have h2 : ((W.setCell ⟨g, 0, none⟩ v0).setCell ⟨g, 1, none⟩ v1).heap[g]? = some (.cells #[v0, v1, z2] t (0, 0)) := blk_set h1 v1
  exact blk_set h2 v2
theorem same_fill3 {w W : World} (k : Same w W) {g : Nat} (hg : w.heap.size ≤ g) (v0 v1 v2 : Value) : Same w (((W.setCell ⟨g, 0, none⟩ v0).setCell ⟨g, 1, none⟩ v1).setCell ⟨g, 2, none⟩ v2) :=
  ((k.setNew (p := ⟨g, 0, none⟩) hg v0).setNew (p := ⟨g, 1, none⟩) hg v1).setNew (p := ⟨g, 2, none⟩) hg v2
/-- What a counters' text reads as. -/
structure CtRd (s : ByteArray) (i : Nat) : Prop where
  sz : s.size ≤ 281474976710656
  r1 : rnum (s, 0) 4 = i
  r2 : rnum (rtake (s, 0) 4).2 4 = 1
  r3 : rnum (rtake (rtake (s, 0) 4).2 4).2 4 = 1
  r4 : rdone (rtake (rtake (rtake (s, 0) 4).2 4).2 4).2 = 0
  lo : 1 ≤ i
  hi : i ≤ 2147483647
/-- Where a leaf's counters stand. -/
def CtOk (n : Nd) (i : Nat) : Prop := (n.has kS = false ∧ i = 1) ∨ (n.has kS = true ∧ n.vals.length = n.keys.length ∧ ∃ s, n.vals[n.cnt kS]? = some s ∧ CtRd s i)
set_option maxHeartbeats 400000 in
set_option maxRecDepth 100000 in
theorem cmay (i : Nat) (h0 : 1 ≤ i) (h1 : i ≤ 2147483647) (w : World) : Calls Tryz.prog 91 #[.agg #[.int .i64 i, .int .i64 1, .int .i64 1]] w fun e w' => e = .returned (.bool true) ∧ Same w w' := by
  have HI := hidden (fun W => mayNext_yes i (by omega) (by omega) W)
  have H1 := hidden (fun W => mayNext_yes 1 (by omega) (by omega) W)
  have t1 : True := trivial
  clear h0 h1
  go_enter Tryz.func91, Tryz.ntmps91
  go_wp2_with (first | (go_at_call 147; have _t := t1; refine (HI.out _).mono ?_; rintro e w1 ⟨rfl, rfl⟩; clear t1 _t) | (go_at_call 147; refine (H1.out _).mono ?_; rintro e w1 ⟨rfl, rfl⟩))
  go_returns
  exact ⟨rfl, same_alloc _ _⟩
set_option maxHeartbeats 1000000 in
set_option maxRecDepth 100000 in
theorem countersOf_no (n : Nd) (a1 a2 a3 : Option Addr) (k1 c1 k2 c2 k3 c3 : Nat) (hl : n.leaf = true) (hb : n.Bd) (hh : n.has kS = false) (w : World) (g p : Nat) (ht : LT w g p n a1 a2 a3 k1 c1 k2 c2 k3 c3) :
    Calls Tryz.prog 86 #[.pointer (some ⟨g, 0, none⟩)] w fun e w' => e = .returned (.tuple #[.agg #[.int .i64 1, .int .i64 1, .int .i64 1], .int .i64 0]) ∧ Same w w' := by
  have HPK := hidden (fun W => prefixKey_any 115 (by decide) W)
  have hS : (⟨(keyL 115 [] ⟨#[]⟩).toArray⟩ : ByteArray) = kS := rfl
  rw [hS] at HPK
  have HG := hidden (fun W (k : Same w W) => tget_no n a1 a2 a3 k1 c1 k2 c2 k3 c3 W g p (ht.same k) hl hb kS hh)
  generalize kS = kk at *
  have K0 := hidden (same_alloc w (.cells #[.int .i64 0, .int .i64 0, .int .i64 0] 160))
  have B0 := hidden (blk_new w (.cells #[.int .i64 0, .int .i64 0, .int .i64 0] 160))
  clear ht hh hS
  go_enter Tryz.func86, Tryz.ntmps86
  go_wp2_with (first
    | (go_at_call 95; refine (HPK.out _).mono ?_; rintro e w1 ⟨rfl, q1⟩; have K1 := hidden (K0.out.trans q1); have B1 := hidden (blk_kept q1 (fun h => h) B0.out); clear q1)
    | (go_at_call 8; refine (HG.out _ K1.out).mono ?_; rintro e w2 ⟨rfl, q2⟩; have K2 := hidden (K1.out.trans q2); have B2 := hidden (blk_kept q2 (fun h => h) B1.out); have y0 := blk_cell (j := 0) B2.out; have y1 := blk_cell (j := 1) B2.out; have y2 := blk_cell (j := 2) B2.out; have f0 := blk_free (j := 0) B2.out; have f1 := blk_free (j := 1) B2.out; have f2 := blk_free (j := 2) B2.out; clear q2))
  have gf := fill3 B2.out (.int .i64 1) (.int .i64 1) (.int .i64 1)
  have sf := same_fill3 K2.out (g := w.heap.size) (Nat.le_refl _) (.int .i64 1) (.int .i64 1) (.int .i64 1)
  generalize (((w2.setCell ⟨w.heap.size, 0, none⟩ (.int .i64 1)).setCell ⟨w.heap.size, 1, none⟩ (.int .i64 1)).setCell ⟨w.heap.size, 2, none⟩ (.int .i64 1)) = WF at gf sf ⊢
  have q0 := blk_cell (j := 0) gf
  have q1 := blk_cell (j := 1) gf
  have q2 := blk_cell (j := 2) gf
  refine bodyPost_ret (v := .tuple #[.agg #[.int .i64 1, .int .i64 1, .int .i64 1], .int .i64 0]) (by simp [results, Tryz.results86, go_sem, q0, q1, q2]) rfl ⟨rfl, sf⟩
set_option maxHeartbeats 1000000 in
set_option maxRecDepth 100000 in
theorem countersOf_has (n : Nd) (a1 a2 a3 : Option Addr) (k1 c1 k2 c2 k3 c3 : Nat) (i : Nat) (s : ByteArray) (hl : n.leaf = true) (hb : n.Bd) (hh : n.has kS = true) (hv : n.vals.length = n.keys.length) (hx : n.vals[n.cnt kS]? = some s) (hr : CtRd s i) (w : World) (g p : Nat) (ht : LT w g p n a1 a2 a3 k1 c1 k2 c2 k3 c3) :
    Calls Tryz.prog 86 #[.pointer (some ⟨g, 0, none⟩)] w fun e w' => e = .returned (.tuple #[.agg #[.int .i64 i, .int .i64 1, .int .i64 1], .int .i64 0]) ∧ Same w w' := by
  have HPK := hidden (fun W => prefixKey_any 115 (by decide) W)
  have hS : (⟨(keyL 115 [] ⟨#[]⟩).toArray⟩ : ByteArray) = kS := rfl
  rw [hS] at HPK
  have HG := hidden (fun W (k : Same w W) => tget_has n a1 a2 a3 k1 c1 k2 c2 k3 c3 W g p (ht.same k) hl hb kS hh hv s hx)
  generalize kS = kk at *
  have HNR := hidden (fun W => newR s W hr.sz)
  have HU1 := hidden (fun g W (h : Rd g (s, 0) W) => rU32 h)
  have HU2 := hidden (fun g W (h : Rd g (rtake (s, 0) 4).2 W) => rU32 h)
  have HU3 := hidden (fun g W (h : Rd g (rtake (rtake (s, 0) 4).2 4).2 W) => rU32 h)
  have HDn := hidden (fun g W (h : Rd g (rtake (rtake (rtake (s, 0) 4).2 4).2 4).2 W) => rDone h)
  rw [hr.r1] at HU1
  rw [hr.r2] at HU2
  rw [hr.r3] at HU3
  rw [hr.r4] at HDn
  have HMy := hidden (fun W => cmay i hr.lo hr.hi W)
  have hw : IntKind.i64.wrap (i : Int) = (i : Int) := wrapN (by omega) (by have := hr.hi; omega)
  generalize (rtake (rtake (rtake (s, 0) 4).2 4).2 4).2 = st3 at *
  generalize (rtake (rtake (s, 0) 4).2 4).2 = st2 at *
  generalize (rtake (s, 0) 4).2 = st1 at *
  have K0 := hidden (same_alloc w (.cells #[.int .i64 0, .int .i64 0, .int .i64 0] 160))
  have B0 := hidden (blk_new w (.cells #[.int .i64 0, .int .i64 0, .int .i64 0] 160))
  clear ht hh hx hv hr hS
  go_enter Tryz.func86, Tryz.ntmps86
  go_wp2_with (first
    | (go_at_call 95; refine (HPK.out _).mono ?_; rintro e w1 ⟨rfl, q1⟩; have K1 := hidden (K0.out.trans q1); have B1 := hidden (blk_kept q1 (fun h => h) B0.out); clear q1)
    | (go_at_call 8; refine (HG.out _ K1.out).mono ?_; rintro e w2 ⟨rfl, q2⟩; have K2 := hidden (K1.out.trans q2); have B2 := hidden (blk_kept q2 (fun h => h) B1.out); have hz2 := blk_lt B2.out; clear q2)
    | (go_at_call 139; refine (HNR.out _).mono ?_; rintro e w3 ⟨rfl, s3, q3, z3⟩; have S3 := hidden s3; have K3 := hidden (K2.out.trans q3); have B3 := hidden (blk_kept q3 (fun h => h) B2.out); have t3 : True := trivial; clear q3 s3 z3)
    | (go_at_call 141; have _t := t3; refine (HU1.out _ _ S3.out).mono ?_; rintro e w4 ⟨rfl, s4, q4⟩; have S4 := hidden s4; have K4 := hidden (Kept.trans' K3.out q4 (fun j hj (e : j = _) => by omega)); have B4 := hidden (blk_kept q4 (fun (e : w.heap.size = w2.heap.size) => by omega) B3.out); have t4 : True := trivial; clear t3 _t s4 q4)
    | (go_at_call 141; have _t := t4; refine (HU2.out _ _ S4.out).mono ?_; rintro e w5 ⟨rfl, s5, q5⟩; have S5 := hidden s5; have K5 := hidden (Kept.trans' K4.out q5 (fun j hj (e : j = _) => by omega)); have B5 := hidden (blk_kept q5 (fun (e : w.heap.size = w2.heap.size) => by omega) B4.out); have t5 : True := trivial; clear t4 _t s5 q5)
    | (go_at_call 141; have _t := t5; refine (HU3.out _ _ S5.out).mono ?_; rintro e w6 ⟨rfl, s6, q6⟩; have q6' := q6.alloc (.cells #[.int .i64 i, .int .i64 1, .int .i64 1] 160); have K6 := hidden (Kept.trans' K5.out q6' (fun j hj (e : j = _) => by omega)); have B6 := hidden (blk_kept q6' (fun (e : w.heap.size = w2.heap.size) => by omega) B5.out); have S6 := hidden s6; have C6 := hidden (blk_new w6 (.cells #[.int .i64 i, .int .i64 1, .int .i64 1] 160)); clear t5 _t s6 q6 q6')
    | (go_at_call 142; refine (HDn.out _ _ (S6.out.kept (same_alloc _ _) (fun h => h))).mono ?_; rintro e w7 ⟨rfl, rfl⟩)
    | (go_at_call 91; refine (HMy.out _).mono ?_; rintro e w8 ⟨rfl, q8⟩; have K8 := hidden (K6.out.trans q8); have B8 := hidden (blk_kept q8 (fun h => h) B6.out); have C8 := hidden (blk_kept q8 (fun h => h) C6.out); have c0 := blk_cell (j := 0) C8.out; have c1 := blk_cell (j := 1) C8.out; have c2 := blk_cell (j := 2) C8.out; have y0 := blk_cell (j := 0) B8.out; have y1 := blk_cell (j := 1) B8.out; have y2 := blk_cell (j := 2) B8.out; have f0 := blk_free (j := 0) B8.out; have f1 := blk_free (j := 1) B8.out; have f2 := blk_free (j := 2) B8.out; clear q8))
  have gf := fill3 B8.out (.int .i64 i) (.int .i64 1) (.int .i64 1)
  have sf := same_fill3 K8.out (g := w.heap.size) (Nat.le_refl _) (.int .i64 i) (.int .i64 1) (.int .i64 1)
  generalize (((w8.setCell ⟨w.heap.size, 0, none⟩ (.int .i64 i)).setCell ⟨w.heap.size, 1, none⟩ (.int .i64 1)).setCell ⟨w.heap.size, 2, none⟩ (.int .i64 1)) = WF at gf sf ⊢
  have q0 := blk_cell (j := 0) gf
  have q1 := blk_cell (j := 1) gf
  have q2 := blk_cell (j := 2) gf
  refine bodyPost_ret (v := .tuple #[.agg #[.int .i64 i, .int .i64 1, .int .i64 1], .int .i64 0]) (by simp [results, Tryz.results86, go_sem, q0, q1, q2]) rfl ⟨rfl, sf⟩
theorem countersOf_any (n : Nd) (a1 a2 a3 : Option Addr) (k1 c1 k2 c2 k3 c3 : Nat) (i : Nat) (hl : n.leaf = true) (hb : n.Bd) (hc : CtOk n i) (w : World) (g p : Nat) (ht : LT w g p n a1 a2 a3 k1 c1 k2 c2 k3 c3) :
    Calls Tryz.prog 86 #[.pointer (some ⟨g, 0, none⟩)] w fun e w' => e = .returned (.tuple #[.agg #[.int .i64 i, .int .i64 1, .int .i64 1], .int .i64 0]) ∧ Same w w' := by
  rcases hc with ⟨h1, rfl⟩ | ⟨h1, h2, s, h3, h4⟩
  · exact countersOf_no n a1 a2 a3 k1 c1 k2 c2 k3 c3 hl hb h1 w g p ht
  · exact countersOf_has n a1 a2 a3 k1 c1 k2 c2 k3 c3 i s hl hb h1 h2 h3 h4 w g p ht
end Go.Proofs.YtmlibjohhgpniaaGreatDoor
