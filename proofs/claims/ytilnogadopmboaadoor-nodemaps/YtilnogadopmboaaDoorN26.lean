/- node: the document's Remove. (Made by mkn26.py.) -/
import Derived.Test.YtilnogadopmboaaDoorN25
namespace Go.Proofs.YtilnogadopmboaaDoor
open Go.RowKit
set_option linter.unusedVariables false
set_option linter.unusedSimpArgs false
structure RmQ (w : World) (n : Nd) (t : Bool) (u : Value) (W : World) : Prop where
  out : ∃ v, u = .tuple #[v, .bool t] ∧ NF' w.heap.size W v n ∧ Same w W
set_option maxHeartbeats 1000000 in
set_option maxRecDepth 100000 in
theorem refRemove_noT (n : Nd) (a1 a2 a3 : Option Addr) (k1 c1 k2 c2 k3 c3 : Nat) (key : ByteArray) (w : World) (r1 : Row w (.slice a1 k1 c1) (TS n.keys)) (r2 : Row w (.slice a2 k2 c2) (TS n.vals)) (r3 : Row w (.slice a3 k3 c3) (IS n.kids)) (hb : n.Bd) (h1 : n.keys.length ≤ 8796093022208) (h2 : n.vals.length ≤ 8796093022208) (h3 : n.kids.length ≤ 17592186044416) (hr : rises n.keys = true) (hl : n.leaf = true) (hh : n.has key = false) :
    Calls Tryd.prog 26 #[.agg #[.bool n.leaf, .slice a1 k1 c1, .slice a2 k2 c2, .slice a3 k3 c3], .string key] w fun e w' => ∃ u, e = .returned u ∧ RmQ w n false u w' := by
  have HFd := hidden (fun W (k : Same w W) => refFind_any n a1 a2 a3 k1 c1 k2 c2 k3 c3 key W (r1.same k) (r2.same k) (r3.same k) hb hr)
  have HCp := hidden (fun W (k : Same w W) => copy_any n a1 a2 a3 k1 c1 k2 c2 k3 c3 W (r1.same k) (r2.same k) (r3.same k) h1 h2 h3)
  have E1 := hidden r1.tl
  have E2 := hidden r2.tl
  have E3 := hidden r3.il
  have HL := hidden hl
  rw [hh] at HFd
  rw [hl] at HFd HCp ⊢
  have K0 : Hid (Same w ((w.alloc (.cells #[.bool true, .slice a1 k1 c1, .slice a2 k2 c2, .slice a3 k3 c3] 25)).alloc (.cells #[.bool false, .slice none 0 0, .slice none 0 0, .slice none 0 0] 25))) := hidden (((Kept.refl _ w).alloc _).alloc _)
  clear r1 r2 r3 hb h1 h2 h3 hr hh hl
  generalize n.cnt key = cn at *
  go_enter Tryd.func26, Tryd.ntmps26
  go_wp2_with (first
    | (go_at_call 21; refine (HFd.out _ K0.out).mono ?_; rintro e w2 ⟨rfl, q2⟩; have g0 : w2.heap[w.heap.size]? = some (.cells #[.bool true, .slice a1 k1 c1, .slice a2 k2 c2, .slice a3 k3 c3] 25 (0, 0)) := blk_kept q2 (fun h => h) (box_blk _ _ _); have g1 : w2.heap[w.heap.size + 1]? = some (.cells #[.bool false, .slice none 0 0, .slice none 0 0, .slice none 0 0] 25 (0, 0)) := blk_kept q2 (fun h => h) (zero_blk _ _); have yc0 : w2.cell? ⟨w.heap.size, 0, none⟩ = some (.bool true) := blk_cell g0; have yc1 : w2.cell? ⟨w.heap.size, 1, none⟩ = some (.slice a1 k1 c1) := blk_cell g0; have yc2 : w2.cell? ⟨w.heap.size, 2, none⟩ = some (.slice a2 k2 c2) := blk_cell g0; have yc3 : w2.cell? ⟨w.heap.size, 3, none⟩ = some (.slice a3 k3 c3) := blk_cell g0; have H0 := hidden g0; have H1 := hidden g1; have K2 := hidden (K0.out.trans q2); clear q2 g0 g1)
    | (go_at_call 8; refine (HCp.out _ K2.out).mono ?_; rintro e w3 ⟨u, rfl, hn, q3⟩; obtain ⟨b1, b2, b3, d1, d2, d3, rfl, o1, o2, o3, oap⟩ := hn.out; clear hn; rw [E1.out] at o1; rw [E2.out] at o2; rw [E3.out] at o3; rw [E1.out, E2.out] at oap; rw [E1.out, E2.out, E3.out, HL.out]; have OAP := hidden oap; have O1 := hidden o1; have O2 := hidden o2; have O3 := hidden o3; have I0 := hidden (blk_kept q3 (fun h => h) H0.out); have I1 := hidden (blk_kept q3 (fun h => h) H1.out); have K3 := hidden (K2.out.trans q3); have zc0 : w3.cell? ⟨w.heap.size + 1, 0, none⟩ = some (.bool false) := blk_cell I1.out; have zf0 : w3.frozen? ⟨w.heap.size + 1, 0, none⟩ = false := blk_free I1.out; have zc1 : w3.cell? ⟨w.heap.size + 1, 1, none⟩ = some (.slice none 0 0) := blk_cell I1.out; have zf1 : w3.frozen? ⟨w.heap.size + 1, 1, none⟩ = false := blk_free I1.out; have zc2 : w3.cell? ⟨w.heap.size + 1, 2, none⟩ = some (.slice none 0 0) := blk_cell I1.out; have zf2 : w3.frozen? ⟨w.heap.size + 1, 2, none⟩ = false := blk_free I1.out; have zc3 : w3.cell? ⟨w.heap.size + 1, 3, none⟩ = some (.slice none 0 0) := blk_cell I1.out; have zf3 : w3.frozen? ⟨w.heap.size + 1, 3, none⟩ = false := blk_free I1.out; clear q3 o1 o2 o3 oap))
  have gf := fill4 I1.out (.bool true) (.slice b1 k1 d1) (.slice b2 k2 d2) (.slice b3 k3 d3)
  have kf := kept_fill4 (W := w3) (g := w.heap.size + 1) (.bool true) (.slice b1 k1 d1) (.slice b2 k2 d2) (.slice b3 k3 d3)
  have sf := same_fill4 K3.out (g := w.heap.size + 1) (by omega) (.bool true) (.slice b1 k1 d1) (.slice b2 k2 d2) (.slice b3 k3 d3)
  generalize ((((w3.setCell ⟨w.heap.size + 1, 0, none⟩ (.bool true)).setCell ⟨w.heap.size + 1, 1, none⟩ (.slice b1 k1 d1)).setCell ⟨w.heap.size + 1, 2, none⟩ (.slice b2 k2 d2)).setCell ⟨w.heap.size + 1, 3, none⟩ (.slice b3 k3 d3)) = WF at gf kf sf ⊢
  have qc0 : WF.cell? ⟨w.heap.size + 1, 0, none⟩ = some (.bool true) := blk_cell gf
  have qc1 : WF.cell? ⟨w.heap.size + 1, 1, none⟩ = some (.slice b1 k1 d1) := blk_cell gf
  have qc2 : WF.cell? ⟨w.heap.size + 1, 2, none⟩ = some (.slice b2 k2 d2) := blk_cell gf
  have qc3 : WF.cell? ⟨w.heap.size + 1, 3, none⟩ = some (.slice b3 k3 d3) := blk_cell gf
  refine bodyPost_ret (v := .tuple #[.agg #[.bool true, .slice b1 k1 d1, .slice b2 k2 d2, .slice b3 k3 d3], .bool false]) (by simp [results, Tryd.results26, go_sem, qc0, qc1, qc2, qc3]) rfl ⟨_, rfl, ⟨⟨.agg #[.bool true, .slice b1 k1 d1, .slice b2 k2 d2, .slice b3 k3 d3], rfl, ?_, sf⟩⟩⟩
  have e1 := E1.out
  have e2 := E2.out
  have e3 := E3.out
  subst e1 e2 e3
  have hK2 := K2.out.size
  have hB1 := blk_lt H1.out
  refine ⟨b1, b2, b3, d1, d2, d3, by rw [HL.out], ?_, ?_, ?_, OAP.out⟩
  · exact own_mono (own_kept O1.out kf (fun k hk hs => by have h1 := own_geN O1.out k hk; have h2 : k = w.heap.size + 1 := hs; omega)) (by omega)
  · exact own_mono (own_kept O2.out kf (fun k hk hs => by have h1 := own_geN O2.out k hk; have h2 : k = w.heap.size + 1 := hs; omega)) (by omega)
  · exact own_mono (own_kept O3.out kf (fun k hk hs => by have h1 := own_geN O3.out k hk; have h2 : k = w.heap.size + 1 := hs; omega)) (by omega)
set_option maxHeartbeats 1000000 in
set_option maxRecDepth 100000 in
theorem refRemove_noF (n : Nd) (a1 a2 a3 : Option Addr) (k1 c1 k2 c2 k3 c3 : Nat) (key : ByteArray) (w : World) (r1 : Row w (.slice a1 k1 c1) (TS n.keys)) (r2 : Row w (.slice a2 k2 c2) (TS n.vals)) (r3 : Row w (.slice a3 k3 c3) (IS n.kids)) (hb : n.Bd) (h1 : n.keys.length ≤ 8796093022208) (h2 : n.vals.length ≤ 8796093022208) (h3 : n.kids.length ≤ 17592186044416) (hr : rises n.keys = true) (hl : n.leaf = false) (hh : n.has key = false) :
    Calls Tryd.prog 26 #[.agg #[.bool n.leaf, .slice a1 k1 c1, .slice a2 k2 c2, .slice a3 k3 c3], .string key] w fun e w' => ∃ u, e = .returned u ∧ RmQ w n false u w' := by
  have HFd := hidden (fun W (k : Same w W) => refFind_any n a1 a2 a3 k1 c1 k2 c2 k3 c3 key W (r1.same k) (r2.same k) (r3.same k) hb hr)
  have HCp := hidden (fun W (k : Same w W) => copy_any n a1 a2 a3 k1 c1 k2 c2 k3 c3 W (r1.same k) (r2.same k) (r3.same k) h1 h2 h3)
  have E1 := hidden r1.tl
  have E2 := hidden r2.tl
  have E3 := hidden r3.il
  have HL := hidden hl
  rw [hh] at HFd
  rw [hl] at HFd HCp ⊢
  have K0 : Hid (Same w ((w.alloc (.cells #[.bool false, .slice a1 k1 c1, .slice a2 k2 c2, .slice a3 k3 c3] 25)).alloc (.cells #[.bool false, .slice none 0 0, .slice none 0 0, .slice none 0 0] 25))) := hidden (((Kept.refl _ w).alloc _).alloc _)
  clear r1 r2 r3 hb h1 h2 h3 hr hh hl
  generalize n.cnt key = cn at *
  go_enter Tryd.func26, Tryd.ntmps26
  go_wp2_with (first
    | (go_at_call 21; refine (HFd.out _ K0.out).mono ?_; rintro e w2 ⟨rfl, q2⟩; have g0 : w2.heap[w.heap.size]? = some (.cells #[.bool false, .slice a1 k1 c1, .slice a2 k2 c2, .slice a3 k3 c3] 25 (0, 0)) := blk_kept q2 (fun h => h) (box_blk _ _ _); have g1 : w2.heap[w.heap.size + 1]? = some (.cells #[.bool false, .slice none 0 0, .slice none 0 0, .slice none 0 0] 25 (0, 0)) := blk_kept q2 (fun h => h) (zero_blk _ _); have yc0 : w2.cell? ⟨w.heap.size, 0, none⟩ = some (.bool false) := blk_cell g0; have yc1 : w2.cell? ⟨w.heap.size, 1, none⟩ = some (.slice a1 k1 c1) := blk_cell g0; have yc2 : w2.cell? ⟨w.heap.size, 2, none⟩ = some (.slice a2 k2 c2) := blk_cell g0; have yc3 : w2.cell? ⟨w.heap.size, 3, none⟩ = some (.slice a3 k3 c3) := blk_cell g0; have H0 := hidden g0; have H1 := hidden g1; have K2 := hidden (K0.out.trans q2); clear q2 g0 g1)
    | (go_at_call 8; refine (HCp.out _ K2.out).mono ?_; rintro e w3 ⟨u, rfl, hn, q3⟩; obtain ⟨b1, b2, b3, d1, d2, d3, rfl, o1, o2, o3, oap⟩ := hn.out; clear hn; rw [E1.out] at o1; rw [E2.out] at o2; rw [E3.out] at o3; rw [E1.out, E2.out] at oap; rw [E1.out, E2.out, E3.out, HL.out]; have OAP := hidden oap; have O1 := hidden o1; have O2 := hidden o2; have O3 := hidden o3; have I0 := hidden (blk_kept q3 (fun h => h) H0.out); have I1 := hidden (blk_kept q3 (fun h => h) H1.out); have K3 := hidden (K2.out.trans q3); have zc0 : w3.cell? ⟨w.heap.size + 1, 0, none⟩ = some (.bool false) := blk_cell I1.out; have zf0 : w3.frozen? ⟨w.heap.size + 1, 0, none⟩ = false := blk_free I1.out; have zc1 : w3.cell? ⟨w.heap.size + 1, 1, none⟩ = some (.slice none 0 0) := blk_cell I1.out; have zf1 : w3.frozen? ⟨w.heap.size + 1, 1, none⟩ = false := blk_free I1.out; have zc2 : w3.cell? ⟨w.heap.size + 1, 2, none⟩ = some (.slice none 0 0) := blk_cell I1.out; have zf2 : w3.frozen? ⟨w.heap.size + 1, 2, none⟩ = false := blk_free I1.out; have zc3 : w3.cell? ⟨w.heap.size + 1, 3, none⟩ = some (.slice none 0 0) := blk_cell I1.out; have zf3 : w3.frozen? ⟨w.heap.size + 1, 3, none⟩ = false := blk_free I1.out; clear q3 o1 o2 o3 oap))
  have gf := fill4 I1.out (.bool false) (.slice b1 k1 d1) (.slice b2 k2 d2) (.slice b3 k3 d3)
  have kf := kept_fill4 (W := w3) (g := w.heap.size + 1) (.bool false) (.slice b1 k1 d1) (.slice b2 k2 d2) (.slice b3 k3 d3)
  have sf := same_fill4 K3.out (g := w.heap.size + 1) (by omega) (.bool false) (.slice b1 k1 d1) (.slice b2 k2 d2) (.slice b3 k3 d3)
  generalize ((((w3.setCell ⟨w.heap.size + 1, 0, none⟩ (.bool false)).setCell ⟨w.heap.size + 1, 1, none⟩ (.slice b1 k1 d1)).setCell ⟨w.heap.size + 1, 2, none⟩ (.slice b2 k2 d2)).setCell ⟨w.heap.size + 1, 3, none⟩ (.slice b3 k3 d3)) = WF at gf kf sf ⊢
  have qc0 : WF.cell? ⟨w.heap.size + 1, 0, none⟩ = some (.bool false) := blk_cell gf
  have qc1 : WF.cell? ⟨w.heap.size + 1, 1, none⟩ = some (.slice b1 k1 d1) := blk_cell gf
  have qc2 : WF.cell? ⟨w.heap.size + 1, 2, none⟩ = some (.slice b2 k2 d2) := blk_cell gf
  have qc3 : WF.cell? ⟨w.heap.size + 1, 3, none⟩ = some (.slice b3 k3 d3) := blk_cell gf
  refine bodyPost_ret (v := .tuple #[.agg #[.bool false, .slice b1 k1 d1, .slice b2 k2 d2, .slice b3 k3 d3], .bool false]) (by simp [results, Tryd.results26, go_sem, qc0, qc1, qc2, qc3]) rfl ⟨_, rfl, ⟨⟨.agg #[.bool false, .slice b1 k1 d1, .slice b2 k2 d2, .slice b3 k3 d3], rfl, ?_, sf⟩⟩⟩
  have e1 := E1.out
  have e2 := E2.out
  have e3 := E3.out
  subst e1 e2 e3
  have hK2 := K2.out.size
  have hB1 := blk_lt H1.out
  refine ⟨b1, b2, b3, d1, d2, d3, by rw [HL.out], ?_, ?_, ?_, OAP.out⟩
  · exact own_mono (own_kept O1.out kf (fun k hk hs => by have h1 := own_geN O1.out k hk; have h2 : k = w.heap.size + 1 := hs; omega)) (by omega)
  · exact own_mono (own_kept O2.out kf (fun k hk hs => by have h1 := own_geN O2.out k hk; have h2 : k = w.heap.size + 1 := hs; omega)) (by omega)
  · exact own_mono (own_kept O3.out kf (fun k hk hs => by have h1 := own_geN O3.out k hk; have h2 : k = w.heap.size + 1 := hs; omega)) (by omega)
/-- How far 'append(append([]string{}, l[:cn]...), l[cn+1:]...)' is. -/
structure RmI (B B0 B2 fld : Nat) (src ph pt : Value) (cn k : Nat) (l : List ByteArray) (d : Nat → Bool) (xs : Nat → Value) (W : World) : Prop where
  v1 : d 1 = true → xs 1 = .pointer (some ⟨B0, fld, none⟩)
  v2 : d 2 = true → xs 2 = src
  v3 : d 3 = true → xs 3 = .int .i64 cn
  v4 : d 4 = true → xs 4 = ph
  v6 : d 6 = true → xs 6 = .pointer (some ⟨B0, fld, none⟩)
  v7 : d 7 = true → xs 7 = src
  v8 : d 8 = true → xs 8 = .int .i64 cn
  v9 : d 9 = true → xs 9 = .int .i64 ((cn : Int) + 1)
  v10 : d 10 = true → xs 10 = pt
  v12 : d 12 = true → xs 12 = .pointer (some ⟨B2, fld, none⟩)
  e0 : d 0 = true → d 5 = false → Emp B 9 (xs 0) W
  o5 : d 5 = true → d 11 = false → Ows B cn (l.take cn) (xs 5) W
  o11 : d 11 = true → Ows B (k - 1) (l.eraseIdx cn) (xs 11) W
  n5 : d 5 = true → d 0 = true
  n11 : d 11 = true → d 5 = true
theorem rm_end {l : List ByteArray} {cn : Nat} : TS (l.take cn) ++ TS (l.drop (cn + 1)) = TS (l.eraseIdx cn) := by
  rw [List.eraseIdx_eq_take_drop_succ]
  simp [TS]
def rmF (nv cv s1 s2 : Value) (key : ByteArray) (k1 k2 B0 B2 cn : Nat) (y x : Nat → Value) : Act := { tmps := #[nv, .string key, .pointer (some ⟨B0, 0, none⟩), undef, .pointer (some ⟨B0 + 1, 0, none⟩), .bool false, .int .i64 (cn : Int), .bool true, .pointer (some ⟨B2, 0, none⟩), .tuple #[.int .i64 (cn : Int), .bool true], nv, .string key, .tuple #[.int .i64 (cn : Int), .bool true], .int .i64 (cn : Int), .bool true, .pointer (some ⟨B0, 0, none⟩), .bool true, .bool false, .bool false, .bool true, .bool false, .bool false, .bool false, .pointer (some ⟨B0, 2, none⟩), s2, .int .i64 (k2 : Int), .pointer (some ⟨B0, 1, none⟩), s1, .int .i64 (k1 : Int), .bool false, .bool false, undef, undef, nv, cv, y 0, y 1, y 2, y 3, y 4, y 5, y 6, y 7, y 8, y 9, y 10, y 11, y 12, x 0, x 1, x 2, x 3, x 4, x 5, x 6, x 7, x 8, x 9, x 10, x 11, x 12, undef], defers := [] }
theorem slice_from1 {W0 : World} {a : Option Addr} {k c : Nat} {L : List ByteArray} (r : Row W0 (.slice a k c) (TS L)) {cn : Nat} (h : cn < k) :
    ∃ p, (∀ W, (Instr.sliceAt 22 (.slice a k c) (some (.int .i64 ((cn : Int) + 1))) none none).run Tryd.prog W = .ok (.slice p (k - (cn + 1)) (c - (cn + 1))) W) ∧ ∀ W, Same W0 W → Row W (.slice p (k - (cn + 1)) (c - (cn + 1))) (TS (L.drop (cn + 1))) := slice_from r (cn := cn + 1) (by omega)
set_option maxHeartbeats 1000000 in
set_option maxRecDepth 100000 in
theorem refRemove_yes (n : Nd) (a1 a2 a3 : Option Addr) (k1 c1 k2 c2 k3 c3 : Nat) (key : ByteArray) (w : World) (r1 : Row w (.slice a1 k1 c1) (TS n.keys)) (r2 : Row w (.slice a2 k2 c2) (TS n.vals)) (r3 : Row w (.slice a3 k3 c3) (IS n.kids)) (hb : n.Bd) (hbig : n.keys.length ≤ 8796093022206) (hl : n.leaf = true) (hr : rises n.keys = true) (hkv : n.vals.length = n.keys.length) (hkid : n.kids = []) (hh : n.has key = true) :
    Calls Tryd.prog 26 #[.agg #[.bool n.leaf, .slice a1 k1 c1, .slice a2 k2 c2, .slice a3 k3 c3], .string key] w fun e w' => ∃ u, e = .returned u ∧ RmQ w ⟨true, n.keys.eraseIdx (n.cnt key), n.vals.eraseIdx (n.cnt key), []⟩ true u w' := by
  have HFd := hidden (fun W (k : Same w W) => refFind_any n a1 a2 a3 k1 c1 k2 c2 k3 c3 key W (r1.same k) (r2.same k) (r3.same k) hb hr)
  have HCp := hidden (fun W (k : Same w W) => copy_any n a1 a2 a3 k1 c1 k2 c2 k3 c3 W (r1.same k) (r2.same k) (r3.same k) (by omega) (by omega) (by rw [hkid]; simp))
  have E1 := hidden r1.tl
  have E2 := hidden r2.tl
  have E3 := hidden r3.il
  have HL := hidden hl
  have HKI := hidden hkid
  have HV12 : Hid (k2 = k1) := by rw [Hid, ← E1.out, ← E2.out]; exact hkv
  have hcl : n.cnt key < k1 := by rw [← E1.out]; exact Nd.has_lt hh
  obtain ⟨i0, hi, hz0, hz1, hz2⟩ := info_parts infoS
  have HI0 := hidden hi
  have HZ0 := hidden hz0
  have HZ1 := hidden hz1
  have HZ2 := hidden hz2
  clear hi hz0 hz1 hz2
  have HMX : Hid (Tryd.prog.follows .mixedOrders = true) := hidden (by kernel_rfl)
  have R1 := hidden r1
  have R2 := hidden r2
  have hbk : k1 ≤ 8796093022206 := by rw [← E1.out]; exact hbig
  have hne : ((k2 : Int) != (k1 : Int)) = false := by rw [HV12.out]; simp
  have hnf : decide ((k2 : Int) ≠ (k1 : Int)) = false := by rw [HV12.out]; simp
  rw [hh] at HFd
  rw [hl] at HFd HCp ⊢
  have K0 : Hid (Same w ((w.alloc (.cells #[.bool true, .slice a1 k1 c1, .slice a2 k2 c2, .slice a3 k3 c3] 25)).alloc (.cells #[.bool false, .slice none 0 0, .slice none 0 0, .slice none 0 0] 25))) := hidden (((Kept.refl _ w).alloc _).alloc _)
  clear r1 r2 r3 hb hbig hr hkv hkid hh hl
  generalize n.cnt key = cn at *
  go_enter Tryd.func26, Tryd.ntmps26
  go_wp2_with (first
    | (go_at_call 21; refine (HFd.out _ K0.out).mono ?_; rintro e w2 ⟨rfl, q2⟩; have g0 : w2.heap[w.heap.size]? = some (.cells #[.bool true, .slice a1 k1 c1, .slice a2 k2 c2, .slice a3 k3 c3] 25 (0, 0)) := blk_kept q2 (fun h => h) (box_blk _ _ _); have g1 : w2.heap[w.heap.size + 1]? = some (.cells #[.bool false, .slice none 0 0, .slice none 0 0, .slice none 0 0] 25 (0, 0)) := blk_kept q2 (fun h => h) (zero_blk _ _); have yc0 : w2.cell? ⟨w.heap.size, 0, none⟩ = some (.bool true) := blk_cell g0; have yc1 : w2.cell? ⟨w.heap.size, 1, none⟩ = some (.slice a1 k1 c1) := blk_cell g0; have yc2 : w2.cell? ⟨w.heap.size, 2, none⟩ = some (.slice a2 k2 c2) := blk_cell g0; have yc3 : w2.cell? ⟨w.heap.size, 3, none⟩ = some (.slice a3 k3 c3) := blk_cell g0; have H0 := hidden g0; have H1 := hidden g1; have K2 := hidden (K0.out.trans q2); clear q2 g0 g1)
    | (go_at_call 8; refine (HCp.out _ K2.out).mono ?_; rintro e w3 ⟨u, rfl, hn, q3⟩; obtain ⟨b1, b2, b3, d1, d2, d3, rfl, o1, o2, o3, oap⟩ := hn.out; clear hn; rw [E1.out] at o1; rw [E2.out] at o2; rw [E3.out] at o3; rw [E1.out, E2.out] at oap; rw [E1.out, E2.out, E3.out, HL.out]; have OAP := hidden oap; have O1 := hidden o1; have O2 := hidden o2; have O3 := hidden o3; have I0 := hidden (blk_kept q3 (fun h => h) H0.out); have I1 := hidden (blk_kept q3 (fun h => h) H1.out); have K3 := hidden (K2.out.trans q3); clear q3 o1 o2 o3 oap))
  rename_i KQ
  have hi := HI0.out
  have hz0 := HZ0.out
  have hz1 := HZ1.out
  have hz2 := HZ2.out
  have hmx := HMX.out
  have J0 := hidden (blk_alloc I0.out (.cells #[.bool true, .slice b1 k1 d1, .slice b2 k2 d2, .slice b3 k3 d3] 25))
  have J1 := hidden (blk_alloc I1.out (.cells #[.bool true, .slice b1 k1 d1, .slice b2 k2 d2, .slice b3 k3 d3] 25))
  have J2 := hidden (blk_new w3 (.cells #[.bool true, .slice b1 k1 d1, .slice b2 k2 d2, .slice b3 k3 d3] 25))
  have Q3 := hidden (O3.out.alloc (.cells #[.bool true, .slice b1 k1 d1, .slice b2 k2 d2, .slice b3 k3 d3] 25))
  have KR := hidden (K3.out.alloc (.cells #[.bool true, .slice b1 k1 d1, .slice b2 k2 d2, .slice b3 k3 d3] 25))
  have hB2 : w.heap.size + 1 < w3.heap.size := blk_lt I1.out
  have hB3 : w3.heap.size < (w3.alloc (.cells #[.bool true, .slice b1 k1 d1, .slice b2 k2 d2, .slice b3 k3 d3] 25)).heap.size := blk_lt J2.out
  have hW2 : w.heap.size ≤ w2.heap.size := K2.out.size
  have hwr : IntKind.i64.wrap ((cn : Int) + 1) = (cn : Int) + 1 := wrapN (by omega) (by omega)
  clear yc0 yc1 yc2 yc3 H0 H1 K2 HCp HFd K0 I0 I1 K3 O1 O2 O3 OAP hne hnf HI0 HZ0 HZ1 HZ2
  generalize (w3.alloc (.cells #[.bool true, .slice b1 k1 d1, .slice b2 k2 d2, .slice b3 k3 d3] 25)) = wR at *
  generalize w3.heap.size = B2 at *
  generalize w2.heap.size = BO at *
  generalize hB0 : w.heap.size = B0 at *
  have HB0 := hidden hB0
  clear hB0
  obtain ⟨ph, hph, rph⟩ := slice_to (R1.out.same KR.out) (Nat.le_of_lt hcl)
  obtain ⟨pt, hpt, rpt⟩ := slice_from1 (R1.out.same KR.out) hcl
  have RPH := hidden rph
  have RPT := hidden rpt
  clear rph rpt
  generalize hnv : Value.agg #[.bool true, .slice a1 k1 c1, .slice a2 k2 c2, .slice a3 k3 c3] = nv
  generalize hcv : Value.agg #[.bool true, .slice b1 k1 d1, .slice b2 k2 d2, .slice b3 k3 d3] = cv
  clear hnv hcv
  change Code.wp _ _ _ (rmF nv cv (.slice a1 k1 c1) (.slice a2 k2 c2) key k1 k2 B0 B2 cn (fun _ => undef) (fun _ => undef)) wR
  refine region_grow (m := 13) (F := fun x => rmF nv cv (.slice a1 k1 c1) (.slice a2 k2 c2) key k1 k2 B0 B2 cn x (fun _ => undef)) (I := RmI wR.heap.size B0 B2 1 (.slice a1 k1 c1) (.slice ph cn c1) (.slice pt (k1 - (cn + 1)) (c1 - (cn + 1))) cn k1 n.keys) hmx (by kernel_rfl) (fun _ => undef) rfl ⟨(fun h => by cases h), (fun h => by cases h), (fun h => by cases h), (fun h => by cases h), (fun h => by cases h), (fun h => by cases h), (fun h => by cases h), (fun h => by cases h), (fun h => by cases h), (fun h => by cases h), (fun h => by cases h), (fun h => by cases h), (fun h => by cases h), (fun h => by cases h), (fun h => by cases h)⟩ ?_ ?_
  · intro i hi13 d x W hsm hdi hdep hI
    clear KQ
    have zf : W.cell? ⟨B0, 1, none⟩ = some (.slice a1 k1 c1) := blk_cell (blk_kept hsm (fun h => h) J0.out)
    have hBW : wR.heap.size ≤ W.heap.size := hsm.size
    match i, hi13 with
    | 1, _ =>
      refine wpOp_step rfl (fun K' hK => ?_)
      have HK := hidden hK
      clear hK
      unfold rmF
      go_simp
      exact HK.out _ _ ⟨.pointer (some ⟨B0, 1, none⟩), (by unfold rmF upd; simp), ⟨(fun _ => rfl), hI.v2, hI.v3, hI.v4, hI.v6, hI.v7, hI.v8, hI.v9, hI.v10, hI.v12, hI.e0, hI.o5, hI.o11, hI.n5, hI.n11⟩, hsm⟩
    | 2, _ =>
      have u1 : x 1 = .pointer (some ⟨B0, 1, none⟩) := hI.v1 (hdep 1 (by kernel_rfl))
      refine wpOp_step rfl (fun K' hK => ?_)
      have HK := hidden hK
      clear hK
      unfold rmF
      simp only [u1]
      go_simp
      exact HK.out _ _ ⟨.slice a1 k1 c1, (by unfold rmF upd; simp [u1]), ⟨hI.v1, (fun _ => rfl), hI.v3, hI.v4, hI.v6, hI.v7, hI.v8, hI.v9, hI.v10, hI.v12, hI.e0, hI.o5, hI.o11, hI.n5, hI.n11⟩, hsm⟩
    | 3, _ =>
      refine wpOp_step rfl (fun K' hK => ?_)
      have HK := hidden hK
      clear hK
      unfold rmF
      go_simp
      exact HK.out _ _ ⟨.int .i64 (cn : Int), (by unfold rmF upd; simp), ⟨hI.v1, hI.v2, (fun _ => rfl), hI.v4, hI.v6, hI.v7, hI.v8, hI.v9, hI.v10, hI.v12, hI.e0, hI.o5, hI.o11, hI.n5, hI.n11⟩, hsm⟩
    | 4, _ =>
      have u2 : x 2 = .slice a1 k1 c1 := hI.v2 (hdep 2 (by kernel_rfl))
      have u3 : x 3 = .int .i64 (cn : Int) := hI.v3 (hdep 3 (by kernel_rfl))
      refine wpOp_step rfl (fun K' hK => ?_)
      have HK := hidden hK
      clear hK
      unfold rmF
      simp only [u2, u3]
      go_simp
      exact HK.out _ _ ⟨.slice ph cn c1, (by unfold rmF upd; simp [u2, u3]), ⟨hI.v1, hI.v2, hI.v3, (fun _ => rfl), hI.v6, hI.v7, hI.v8, hI.v9, hI.v10, hI.v12, hI.e0, hI.o5, hI.o11, hI.n5, hI.n11⟩, hsm⟩
    | 6, _ =>
      refine wpOp_step rfl (fun K' hK => ?_)
      have HK := hidden hK
      clear hK
      unfold rmF
      go_simp
      exact HK.out _ _ ⟨.pointer (some ⟨B0, 1, none⟩), (by unfold rmF upd; simp), ⟨hI.v1, hI.v2, hI.v3, hI.v4, (fun _ => rfl), hI.v7, hI.v8, hI.v9, hI.v10, hI.v12, hI.e0, hI.o5, hI.o11, hI.n5, hI.n11⟩, hsm⟩
    | 7, _ =>
      have u6 : x 6 = .pointer (some ⟨B0, 1, none⟩) := hI.v6 (hdep 6 (by kernel_rfl))
      refine wpOp_step rfl (fun K' hK => ?_)
      have HK := hidden hK
      clear hK
      unfold rmF
      simp only [u6]
      go_simp
      exact HK.out _ _ ⟨.slice a1 k1 c1, (by unfold rmF upd; simp [u6]), ⟨hI.v1, hI.v2, hI.v3, hI.v4, hI.v6, (fun _ => rfl), hI.v8, hI.v9, hI.v10, hI.v12, hI.e0, hI.o5, hI.o11, hI.n5, hI.n11⟩, hsm⟩
    | 8, _ =>
      refine wpOp_step rfl (fun K' hK => ?_)
      have HK := hidden hK
      clear hK
      unfold rmF
      go_simp
      exact HK.out _ _ ⟨.int .i64 (cn : Int), (by unfold rmF upd; simp), ⟨hI.v1, hI.v2, hI.v3, hI.v4, hI.v6, hI.v7, (fun _ => rfl), hI.v9, hI.v10, hI.v12, hI.e0, hI.o5, hI.o11, hI.n5, hI.n11⟩, hsm⟩
    | 9, _ =>
      have u8 : x 8 = .int .i64 (cn : Int) := hI.v8 (hdep 8 (by kernel_rfl))
      refine wpOp_step rfl (fun K' hK => ?_)
      have HK := hidden hK
      clear hK
      unfold rmF
      simp only [u8]
      go_simp
      exact HK.out _ _ ⟨.int .i64 ((cn : Int) + 1), (by unfold rmF upd; simp [u8]), ⟨hI.v1, hI.v2, hI.v3, hI.v4, hI.v6, hI.v7, hI.v8, (fun _ => rfl), hI.v10, hI.v12, hI.e0, hI.o5, hI.o11, hI.n5, hI.n11⟩, hsm⟩
    | 10, _ =>
      have u7 : x 7 = .slice a1 k1 c1 := hI.v7 (hdep 7 (by kernel_rfl))
      have u9 : x 9 = .int .i64 ((cn : Int) + 1) := hI.v9 (hdep 9 (by kernel_rfl))
      refine wpOp_step rfl (fun K' hK => ?_)
      have HK := hidden hK
      clear hK
      unfold rmF
      simp only [u7, u9]
      go_simp
      exact HK.out _ _ ⟨.slice pt (k1 - (cn + 1)) (c1 - (cn + 1)), (by unfold rmF upd; simp [u7, u9]), ⟨hI.v1, hI.v2, hI.v3, hI.v4, hI.v6, hI.v7, hI.v8, hI.v9, (fun _ => rfl), hI.v12, hI.e0, hI.o5, hI.o11, hI.n5, hI.n11⟩, hsm⟩
    | 12, _ =>
      refine wpOp_step rfl (fun K' hK => ?_)
      have HK := hidden hK
      clear hK
      unfold rmF
      go_simp
      exact HK.out _ _ ⟨.pointer (some ⟨B2, 1, none⟩), (by unfold rmF upd; simp), ⟨hI.v1, hI.v2, hI.v3, hI.v4, hI.v6, hI.v7, hI.v8, hI.v9, hI.v10, (fun _ => rfl), hI.e0, hI.o5, hI.o11, hI.n5, hI.n11⟩, hsm⟩
    | 0, _ =>
      refine wpOp_step rfl (fun K' hK => ?_)
      have HK := hidden hK
      clear hK
      unfold rmF
      go_simp
      exact HK.out _ _ ⟨.slice (some ⟨W.heap.size, 0, none⟩) 0 0, (by unfold rmF upd; simp), ⟨hI.v1, hI.v2, hI.v3, hI.v4, hI.v6, hI.v7, hI.v8, hI.v9, hI.v10, hI.v12, (fun _ _ => ⟨W.heap.size, rfl, hBW, blk_new _ _⟩), (fun h1 h2 => (hI.o5 h1 h2).same (same_alloc _ _)), (fun h1 => (hI.o11 h1).same (same_alloc _ _)), (fun _ => rfl), hI.n11⟩, hsm.alloc _⟩
    | 5, _ =>
      have d0 := hdep 0 (by kernel_rfl)
      have u4 : x 4 = .slice ph cn c1 := hI.v4 (hdep 4 (by kernel_rfl))
      have m1 : Emp wR.heap.size 9 (x 0) W := hI.e0 d0 hdi
      refine wpOp_step rfl (fun K' hK => ?_)
      refine step_emp rfl _ _ 22 rfl wR.heap.size 9 i0 (.string ⟨#[]⟩) 16 Tryd.underlying22 hi hz0 hz1 hz2 rfl (x 0) rfl m1 _ cn _ (TS (n.keys.take cn)) u4 (RPH.out W hsm) (TS_one _) (by unfold maxLen; omega) (by omega) hBW ?_
      intro u W' hu
      obtain ⟨ua, uc, rfl, uo, _⟩ := hu.apd.out
      exact hK _ _ ⟨_, rfl, ⟨hI.v1, hI.v2, hI.v3, hI.v4, hI.v6, hI.v7, hI.v8, hI.v9, hI.v10, hI.v12, (fun _ h => absurd (show true = false from h) (by decide)), (fun _ _ => ⟨ua, uc, rfl, uo⟩), (fun h1 => (hI.o11 h1).same hu.same), (fun _ => d0), (fun _ => rfl)⟩, hsm.trans hu.same⟩
    | 11, _ =>
      have d5 := hdep 5 (by kernel_rfl)
      obtain ⟨pa, pc, hx5, po⟩ := (hI.o5 d5 hdi).form
      have u10 : x 10 = .slice pt (k1 - (cn + 1)) (c1 - (cn + 1)) := hI.v10 (hdep 10 (by kernel_rfl))
      refine wpOp_step rfl (fun K' hK => ?_)
      refine step_append_where rfl _ _ 22 rfl wR.heap.size 9 i0 (.string ⟨#[]⟩) 1 16 Tryd.underlying22 hi hz0 hz1 hz2 rfl (by decide) pa cn pc _ hx5 po _ (k1 - (cn + 1)) _ (TS (n.keys.drop (cn + 1))) u10 (by rw [Nat.mul_one]; exact (RPT.out W hsm).len.1.symm) (RPT.out W hsm).lies (TS_one _) (by unfold maxLen; omega) (by omega) hBW ?_
      intro ua uc W' uo hg hw
      rw [rm_end] at uo
      have hln : cn + (k1 - (cn + 1)) = k1 - 1 := by omega
      refine hK _ _ ⟨_, rfl, ⟨hI.v1, hI.v2, hI.v3, hI.v4, hI.v6, hI.v7, hI.v8, hI.v9, hI.v10, hI.v12, (fun _ h => by have h2 : d 5 = false := h; rw [d5] at h2; cases h2), (fun _ h => absurd (show true = false from h) (by decide)), (fun _ => ⟨ua, uc, by rw [← hln]; rfl, by rw [← hln]; exact uo⟩), hI.n5, (fun _ => d5)⟩, same_grown (m := 0) hsm po hg⟩
    | q + 13, h => exact absurd h (by omega)
  · intro d x W hsm hall hI
    have u12 : x 12 = .pointer (some ⟨B2, 1, none⟩) := hI.v12 (hall 12 (by decide))
    obtain ⟨ra, rc, hx11, ro⟩ := (hI.o11 (hall 11 (by decide))).form
    have bl2 := blk_kept hsm (fun h => h) J2.out
    have sc : W.cell? ⟨B2, 1, none⟩ = some (.slice b1 k1 d1) := blk_cell bl2
    have sf : W.frozen? ⟨B2, 1, none⟩ = false := blk_free bl2
    have BL2 := hidden bl2
    clear bl2
    refine wpOp_step rfl (fun K' hK => ?_)
    have HK := hidden hK
    clear hK
    unfold rmF
    simp only [u12, hx11]
    go_simp
    refine HK.out _ _ (KQ _ _ ?_)
    clear HK KQ hI sc sf hall
    have ks : Kept (only B2) W (W.setCell ⟨B2, 1, none⟩ (.slice ra (k1 - 1) rc)) := (Kept.refl (only B2) W).setCell (p := ⟨B2, 1, none⟩) rfl _
    have g2 : (W.setCell ⟨B2, 1, none⟩ (.slice ra (k1 - 1) rc)).heap[B2]? = some (.cells #[.bool true, .slice ra (k1 - 1) rc, .slice b2 k2 d2, .slice b3 k3 d3] 25 (0, 0)) := blk_set BL2.out _
    have g0 := blk_kept ks (by show ¬ B0 = B2; omega) (blk_kept hsm (fun h => h) J0.out)
    have g1 := blk_kept ks (by show ¬ B0 + 1 = B2; omega) (blk_kept hsm (fun h => h) J1.out)
    have hsz : wR.heap.size ≤ W.heap.size := hsm.size
    have hse : (W.setCell ⟨B2, 1, none⟩ (.slice ra (k1 - 1) rc)).heap.size = W.heap.size := by simp [World.setCell]
    have oN := own_kept ro ks (fun k hk hs => by have h1 := own_geN ro k hk; have h2 : k = B2 := hs; omega)
    have p_3 := own_kept Q3.out hsm (fun _ _ h => h)
    have o_3 := own_kept p_3 ks (fun k hk hs => own_apart p_3 BL2.out (by decide) (by have e : k = B2 := hs; rw [← e]; exact hk))
    have sm := (KR.out.trans hsm).setNew (p := ⟨B2, 1, none⟩) (by show w.heap.size ≤ B2; have := HB0.out; omega) (.slice ra (k1 - 1) rc)
    have hS : B2 < (W.setCell ⟨B2, 1, none⟩ (.slice ra (k1 - 1) rc)).heap.size := blk_lt g2
    generalize W.setCell ⟨B2, 1, none⟩ (.slice ra (k1 - 1) rc) = wS at *
    have G0 := hidden g0
    have G1 := hidden g1
    have G2 := hidden g2
    have OK := hidden oN
    have O3 := hidden o_3
    have SM := hidden sm
    have hcl2 : cn < k2 := by have := HV12.out; omega
    have hbk2 : k2 ≤ 8796093022206 := by have := HV12.out; omega
    obtain ⟨ph, hph, rph⟩ := slice_to (R2.out.same SM.out) (Nat.le_of_lt hcl2)
    obtain ⟨pt, hpt, rpt⟩ := slice_from1 (R2.out.same SM.out) hcl2
    have RPH2 := hidden rph
    have RPT2 := hidden rpt
    clear rph rpt g0 g1 g2 oN o_3 p_3 sm ks hse RPH RPT J0 J1 J2 Q3 KR ro hsm BL2
    have RPH := RPH2
    have RPT := RPT2
    go_wp2
    rename_i KQ
    change Code.wp _ _ _ (rmF nv cv (.slice a1 k1 c1) (.slice a2 k2 c2) key k1 k2 B0 B2 cn (fun j => if j = 11 then Value.slice ra (k1 - 1) rc else if j = 12 then .pointer (some ⟨B2, 1, none⟩) else x j) (fun _ => undef)) wS
    generalize (fun j => if j = 11 then Value.slice ra (k1 - 1) rc else if j = 12 then .pointer (some ⟨B2, 1, none⟩) else x j) = y
    refine region_grow (m := 13) (F := fun x => rmF nv cv (.slice a1 k1 c1) (.slice a2 k2 c2) key k1 k2 B0 B2 cn y x) (I := RmI wS.heap.size B0 B2 2 (.slice a2 k2 c2) (.slice ph cn c2) (.slice pt (k2 - (cn + 1)) (c2 - (cn + 1))) cn k2 n.vals) hmx (by kernel_rfl) (fun _ => undef) rfl ⟨(fun h => by cases h), (fun h => by cases h), (fun h => by cases h), (fun h => by cases h), (fun h => by cases h), (fun h => by cases h), (fun h => by cases h), (fun h => by cases h), (fun h => by cases h), (fun h => by cases h), (fun h => by cases h), (fun h => by cases h), (fun h => by cases h), (fun h => by cases h), (fun h => by cases h)⟩ ?_ ?_
    · intro i hi13 d x W hsm hdi hdep hI
      clear KQ
      have zf : W.cell? ⟨B0, 2, none⟩ = some (.slice a2 k2 c2) := blk_cell (blk_kept hsm (fun h => h) G0.out)
      have hBW : wS.heap.size ≤ W.heap.size := hsm.size
      match i, hi13 with
      | 1, _ =>
        refine wpOp_step rfl (fun K' hK => ?_)
        have HK := hidden hK
        clear hK
        unfold rmF
        go_simp
        exact HK.out _ _ ⟨.pointer (some ⟨B0, 2, none⟩), (by unfold rmF upd; simp), ⟨(fun _ => rfl), hI.v2, hI.v3, hI.v4, hI.v6, hI.v7, hI.v8, hI.v9, hI.v10, hI.v12, hI.e0, hI.o5, hI.o11, hI.n5, hI.n11⟩, hsm⟩
      | 2, _ =>
        have u1 : x 1 = .pointer (some ⟨B0, 2, none⟩) := hI.v1 (hdep 1 (by kernel_rfl))
        refine wpOp_step rfl (fun K' hK => ?_)
        have HK := hidden hK
        clear hK
        unfold rmF
        simp only [u1]
        go_simp
        exact HK.out _ _ ⟨.slice a2 k2 c2, (by unfold rmF upd; simp [u1]), ⟨hI.v1, (fun _ => rfl), hI.v3, hI.v4, hI.v6, hI.v7, hI.v8, hI.v9, hI.v10, hI.v12, hI.e0, hI.o5, hI.o11, hI.n5, hI.n11⟩, hsm⟩
      | 3, _ =>
        refine wpOp_step rfl (fun K' hK => ?_)
        have HK := hidden hK
        clear hK
        unfold rmF
        go_simp
        exact HK.out _ _ ⟨.int .i64 (cn : Int), (by unfold rmF upd; simp), ⟨hI.v1, hI.v2, (fun _ => rfl), hI.v4, hI.v6, hI.v7, hI.v8, hI.v9, hI.v10, hI.v12, hI.e0, hI.o5, hI.o11, hI.n5, hI.n11⟩, hsm⟩
      | 4, _ =>
        have u2 : x 2 = .slice a2 k2 c2 := hI.v2 (hdep 2 (by kernel_rfl))
        have u3 : x 3 = .int .i64 (cn : Int) := hI.v3 (hdep 3 (by kernel_rfl))
        refine wpOp_step rfl (fun K' hK => ?_)
        have HK := hidden hK
        clear hK
        unfold rmF
        simp only [u2, u3]
        go_simp
        exact HK.out _ _ ⟨.slice ph cn c2, (by unfold rmF upd; simp [u2, u3]), ⟨hI.v1, hI.v2, hI.v3, (fun _ => rfl), hI.v6, hI.v7, hI.v8, hI.v9, hI.v10, hI.v12, hI.e0, hI.o5, hI.o11, hI.n5, hI.n11⟩, hsm⟩
      | 6, _ =>
        refine wpOp_step rfl (fun K' hK => ?_)
        have HK := hidden hK
        clear hK
        unfold rmF
        go_simp
        exact HK.out _ _ ⟨.pointer (some ⟨B0, 2, none⟩), (by unfold rmF upd; simp), ⟨hI.v1, hI.v2, hI.v3, hI.v4, (fun _ => rfl), hI.v7, hI.v8, hI.v9, hI.v10, hI.v12, hI.e0, hI.o5, hI.o11, hI.n5, hI.n11⟩, hsm⟩
      | 7, _ =>
        have u6 : x 6 = .pointer (some ⟨B0, 2, none⟩) := hI.v6 (hdep 6 (by kernel_rfl))
        refine wpOp_step rfl (fun K' hK => ?_)
        have HK := hidden hK
        clear hK
        unfold rmF
        simp only [u6]
        go_simp
        exact HK.out _ _ ⟨.slice a2 k2 c2, (by unfold rmF upd; simp [u6]), ⟨hI.v1, hI.v2, hI.v3, hI.v4, hI.v6, (fun _ => rfl), hI.v8, hI.v9, hI.v10, hI.v12, hI.e0, hI.o5, hI.o11, hI.n5, hI.n11⟩, hsm⟩
      | 8, _ =>
        refine wpOp_step rfl (fun K' hK => ?_)
        have HK := hidden hK
        clear hK
        unfold rmF
        go_simp
        exact HK.out _ _ ⟨.int .i64 (cn : Int), (by unfold rmF upd; simp), ⟨hI.v1, hI.v2, hI.v3, hI.v4, hI.v6, hI.v7, (fun _ => rfl), hI.v9, hI.v10, hI.v12, hI.e0, hI.o5, hI.o11, hI.n5, hI.n11⟩, hsm⟩
      | 9, _ =>
        have u8 : x 8 = .int .i64 (cn : Int) := hI.v8 (hdep 8 (by kernel_rfl))
        refine wpOp_step rfl (fun K' hK => ?_)
        have HK := hidden hK
        clear hK
        unfold rmF
        simp only [u8]
        go_simp
        exact HK.out _ _ ⟨.int .i64 ((cn : Int) + 1), (by unfold rmF upd; simp [u8]), ⟨hI.v1, hI.v2, hI.v3, hI.v4, hI.v6, hI.v7, hI.v8, (fun _ => rfl), hI.v10, hI.v12, hI.e0, hI.o5, hI.o11, hI.n5, hI.n11⟩, hsm⟩
      | 10, _ =>
        have u7 : x 7 = .slice a2 k2 c2 := hI.v7 (hdep 7 (by kernel_rfl))
        have u9 : x 9 = .int .i64 ((cn : Int) + 1) := hI.v9 (hdep 9 (by kernel_rfl))
        refine wpOp_step rfl (fun K' hK => ?_)
        have HK := hidden hK
        clear hK
        unfold rmF
        simp only [u7, u9]
        go_simp
        exact HK.out _ _ ⟨.slice pt (k2 - (cn + 1)) (c2 - (cn + 1)), (by unfold rmF upd; simp [u7, u9]), ⟨hI.v1, hI.v2, hI.v3, hI.v4, hI.v6, hI.v7, hI.v8, hI.v9, (fun _ => rfl), hI.v12, hI.e0, hI.o5, hI.o11, hI.n5, hI.n11⟩, hsm⟩
      | 12, _ =>
        refine wpOp_step rfl (fun K' hK => ?_)
        have HK := hidden hK
        clear hK
        unfold rmF
        go_simp
        exact HK.out _ _ ⟨.pointer (some ⟨B2, 2, none⟩), (by unfold rmF upd; simp), ⟨hI.v1, hI.v2, hI.v3, hI.v4, hI.v6, hI.v7, hI.v8, hI.v9, hI.v10, (fun _ => rfl), hI.e0, hI.o5, hI.o11, hI.n5, hI.n11⟩, hsm⟩
      | 0, _ =>
        refine wpOp_step rfl (fun K' hK => ?_)
        have HK := hidden hK
        clear hK
        unfold rmF
        go_simp
        exact HK.out _ _ ⟨.slice (some ⟨W.heap.size, 0, none⟩) 0 0, (by unfold rmF upd; simp), ⟨hI.v1, hI.v2, hI.v3, hI.v4, hI.v6, hI.v7, hI.v8, hI.v9, hI.v10, hI.v12, (fun _ _ => ⟨W.heap.size, rfl, hBW, blk_new _ _⟩), (fun h1 h2 => (hI.o5 h1 h2).same (same_alloc _ _)), (fun h1 => (hI.o11 h1).same (same_alloc _ _)), (fun _ => rfl), hI.n11⟩, hsm.alloc _⟩
      | 5, _ =>
        have d0 := hdep 0 (by kernel_rfl)
        have u4 : x 4 = .slice ph cn c2 := hI.v4 (hdep 4 (by kernel_rfl))
        have m1 : Emp wS.heap.size 9 (x 0) W := hI.e0 d0 hdi
        refine wpOp_step rfl (fun K' hK => ?_)
        refine step_emp rfl _ _ 22 rfl wS.heap.size 9 i0 (.string ⟨#[]⟩) 16 Tryd.underlying22 hi hz0 hz1 hz2 rfl (x 0) rfl m1 _ cn _ (TS (n.vals.take cn)) u4 (RPH.out W hsm) (TS_one _) (by unfold maxLen; omega) (by omega) hBW ?_
        intro u W' hu
        obtain ⟨ua, uc, rfl, uo, _⟩ := hu.apd.out
        exact hK _ _ ⟨_, rfl, ⟨hI.v1, hI.v2, hI.v3, hI.v4, hI.v6, hI.v7, hI.v8, hI.v9, hI.v10, hI.v12, (fun _ h => absurd (show true = false from h) (by decide)), (fun _ _ => ⟨ua, uc, rfl, uo⟩), (fun h1 => (hI.o11 h1).same hu.same), (fun _ => d0), (fun _ => rfl)⟩, hsm.trans hu.same⟩
      | 11, _ =>
        have d5 := hdep 5 (by kernel_rfl)
        obtain ⟨pa, pc, hx5, po⟩ := (hI.o5 d5 hdi).form
        have u10 : x 10 = .slice pt (k2 - (cn + 1)) (c2 - (cn + 1)) := hI.v10 (hdep 10 (by kernel_rfl))
        refine wpOp_step rfl (fun K' hK => ?_)
        refine step_append_where rfl _ _ 22 rfl wS.heap.size 9 i0 (.string ⟨#[]⟩) 1 16 Tryd.underlying22 hi hz0 hz1 hz2 rfl (by decide) pa cn pc _ hx5 po _ (k2 - (cn + 1)) _ (TS (n.vals.drop (cn + 1))) u10 (by rw [Nat.mul_one]; exact (RPT.out W hsm).len.1.symm) (RPT.out W hsm).lies (TS_one _) (by unfold maxLen; omega) (by omega) hBW ?_
        intro ua uc W' uo hg hw
        rw [rm_end] at uo
        have hln : cn + (k2 - (cn + 1)) = k2 - 1 := by omega
        refine hK _ _ ⟨_, rfl, ⟨hI.v1, hI.v2, hI.v3, hI.v4, hI.v6, hI.v7, hI.v8, hI.v9, hI.v10, hI.v12, (fun _ h => by have h2 : d 5 = false := h; rw [d5] at h2; cases h2), (fun _ h => absurd (show true = false from h) (by decide)), (fun _ => ⟨ua, uc, by rw [← hln]; rfl, by rw [← hln]; exact uo⟩), hI.n5, (fun _ => d5)⟩, same_grown (m := 0) hsm po hg⟩
      | q + 13, h => exact absurd h (by omega)
    · intro d x W hsm hall hI
      have u12 : x 12 = .pointer (some ⟨B2, 2, none⟩) := hI.v12 (hall 12 (by decide))
      obtain ⟨va, vc, hx11, vo⟩ := (hI.o11 (hall 11 (by decide))).form
      have bl2 := blk_kept hsm (fun h => h) G2.out
      have sc : W.cell? ⟨B2, 2, none⟩ = some (.slice b2 k2 d2) := blk_cell bl2
      have sf : W.frozen? ⟨B2, 2, none⟩ = false := blk_free bl2
      have BL2 := hidden bl2
      clear bl2
      refine wpOp_step rfl (fun K' hK => ?_)
      have HK := hidden hK
      clear hK
      unfold rmF
      simp only [u12, hx11]
      go_simp
      refine HK.out _ _ (KQ _ _ ?_)
      clear HK KQ hI sc sf hall
      have ks : Kept (only B2) W (W.setCell ⟨B2, 2, none⟩ (.slice va (k2 - 1) vc)) := (Kept.refl (only B2) W).setCell (p := ⟨B2, 2, none⟩) rfl _
      have g2 : (W.setCell ⟨B2, 2, none⟩ (.slice va (k2 - 1) vc)).heap[B2]? = some (.cells #[.bool true, .slice ra (k1 - 1) rc, .slice va (k2 - 1) vc, .slice b3 k3 d3] 25 (0, 0)) := blk_set BL2.out _
      have g0 := blk_kept ks (by show ¬ B0 = B2; omega) (blk_kept hsm (fun h => h) G0.out)
      have g1 := blk_kept ks (by show ¬ B0 + 1 = B2; omega) (blk_kept hsm (fun h => h) G1.out)
      have hsz : wS.heap.size ≤ W.heap.size := hsm.size
      have hse : (W.setCell ⟨B2, 2, none⟩ (.slice va (k2 - 1) vc)).heap.size = W.heap.size := by simp [World.setCell]
      have oN := own_kept vo ks (fun k hk hs => by have h1 := own_geN vo k hk; have h2 : k = B2 := hs; omega)
      have p_3 := own_kept O3.out hsm (fun _ _ h => h)
      have o_3 := own_kept p_3 ks (fun k hk hs => own_apart p_3 BL2.out (by decide) (by have e : k = B2 := hs; rw [← e]; exact hk))
      have p_1 := own_kept OK.out hsm (fun _ _ h => h)
      have o_1 := own_kept p_1 ks (fun k hk hs => own_apart p_1 BL2.out (by decide) (by have e : k = B2 := hs; rw [← e]; exact hk))
      have sm := (SM.out.trans hsm).setNew (p := ⟨B2, 2, none⟩) (by show w.heap.size ≤ B2; have := HB0.out; omega) (.slice va (k2 - 1) vc)
      have hap : ∀ k, (Value.slice ra (k1 - 1) rc).ownBlock = some k → (Value.slice va (k2 - 1) vc).ownBlock ≠ some k := fun k h1 h2 => by have h3 := own_ltN OK.out k h1; have h4 := own_geN vo k h2; omega
      generalize W.setCell ⟨B2, 2, none⟩ (.slice va (k2 - 1) vc) = wF at *
      have uc0 : wF.cell? ⟨B2, 0, none⟩ = some (.bool true) := blk_cell g2
      have uc1 : wF.cell? ⟨B2, 1, none⟩ = some (.slice ra (k1 - 1) rc) := blk_cell g2
      have uc2 : wF.cell? ⟨B2, 2, none⟩ = some (.slice va (k2 - 1) vc) := blk_cell g2
      have uc3 : wF.cell? ⟨B2, 3, none⟩ = some (.slice b3 k3 d3) := blk_cell g2
      have zc0 : wF.cell? ⟨B0 + 1, 0, none⟩ = some (.bool false) := blk_cell g1
      have zf0 : wF.frozen? ⟨B0 + 1, 0, none⟩ = false := blk_free g1
      have zc1 : wF.cell? ⟨B0 + 1, 1, none⟩ = some (.slice none 0 0) := blk_cell g1
      have zf1 : wF.frozen? ⟨B0 + 1, 1, none⟩ = false := blk_free g1
      have zc2 : wF.cell? ⟨B0 + 1, 2, none⟩ = some (.slice none 0 0) := blk_cell g1
      have zf2 : wF.frozen? ⟨B0 + 1, 2, none⟩ = false := blk_free g1
      have zc3 : wF.cell? ⟨B0 + 1, 3, none⟩ = some (.slice none 0 0) := blk_cell g1
      have zf3 : wF.frozen? ⟨B0 + 1, 3, none⟩ = false := blk_free g1
      have GF := hidden g1
      have KF := hidden sm
      have U1 := hidden o_1
      have U2 := hidden oN
      have U3 := hidden o_3
      have HAP := hidden hap
      clear g0 g1 g2 oN o_3 o_1 p_3 p_1 sm ks hse RPH RPT G0 G1 G2 OK O3 SM vo hsm BL2 hap RPH2 RPT2 hph hpt
      have HB3 := hidden hB3
      have HSS := hidden hS
      have HSZ := hidden hsz
      clear hB3 hS hsz
      go_wp2
      have gf := fill4 GF.out (.bool true) (.slice ra (k1 - 1) rc) (.slice va (k2 - 1) vc) (.slice b3 k3 d3)
      have kf := kept_fill4 (W := wF) (g := B0 + 1) (.bool true) (.slice ra (k1 - 1) rc) (.slice va (k2 - 1) vc) (.slice b3 k3 d3)
      have sf := same_fill4 KF.out (g := B0 + 1) (by have := HB0.out; omega) (.bool true) (.slice ra (k1 - 1) rc) (.slice va (k2 - 1) vc) (.slice b3 k3 d3)
      generalize ((((wF.setCell ⟨B0 + 1, 0, none⟩ (.bool true)).setCell ⟨B0 + 1, 1, none⟩ (.slice ra (k1 - 1) rc)).setCell ⟨B0 + 1, 2, none⟩ (.slice va (k2 - 1) vc)).setCell ⟨B0 + 1, 3, none⟩ (.slice b3 k3 d3)) = WF at gf kf sf ⊢
      have qc0 : WF.cell? ⟨B0 + 1, 0, none⟩ = some (.bool true) := blk_cell gf
      have qc1 : WF.cell? ⟨B0 + 1, 1, none⟩ = some (.slice ra (k1 - 1) rc) := blk_cell gf
      have qc2 : WF.cell? ⟨B0 + 1, 2, none⟩ = some (.slice va (k2 - 1) vc) := blk_cell gf
      have qc3 : WF.cell? ⟨B0 + 1, 3, none⟩ = some (.slice b3 k3 d3) := blk_cell gf
      refine bodyPost_ret (v := .tuple #[.agg #[.bool true, .slice ra (k1 - 1) rc, .slice va (k2 - 1) vc, .slice b3 k3 d3], .bool true]) (by simp [results, Tryd.results26, go_sem, qc0, qc1, qc2, qc3]) rfl ⟨_, rfl, ⟨⟨.agg #[.bool true, .slice ra (k1 - 1) rc, .slice va (k2 - 1) vc, .slice b3 k3 d3], rfl, ?_, sf⟩⟩⟩
      have e1 := E1.out
      have e2 := E2.out
      have e3 := E3.out
      have hv12 := HV12.out
      have hb0 := HB0.out
      have hb3 := HB3.out
      have hss := HSS.out
      have hki := HKI.out
      rw [hki] at e3
      have hk3 : k3 = 0 := by simpa using e3.symm
      subst hk3
      have l1 : (n.keys.eraseIdx cn).length = k1 - 1 := by rw [List.length_eraseIdx_of_lt (by omega)]; omega
      have l2 : (n.vals.eraseIdx cn).length = k2 - 1 := by rw [List.length_eraseIdx_of_lt (by omega)]; omega
      refine ⟨ra, va, b3, rc, vc, d3, by simp [l1, l2], ?_, ?_, ?_, ?_⟩
      · show World.ownsRow WF w.heap.size 9 1 (.slice ra (n.keys.eraseIdx cn).length rc) (n.keys.eraseIdx cn).length (TS (n.keys.eraseIdx cn))
        rw [l1]
        exact own_mono (own_kept U1.out kf (fun k hk hs => by have h1 := own_geN U1.out k hk; have h2 : k = B0 + 1 := hs; omega)) (by omega)
      · show World.ownsRow WF w.heap.size 9 1 (.slice va (n.vals.eraseIdx cn).length vc) (n.vals.eraseIdx cn).length (TS (n.vals.eraseIdx cn))
        rw [l2]
        exact own_mono (own_kept U2.out kf (fun k hk hs => by have h1 := own_geN U2.out k hk; have h2 : k = B0 + 1 := hs; omega)) (by omega)
      · have h9 := own_mono (own_kept U3.out kf (fun k hk hs => own_apart U3.out GF.out (by decide) (by have h2 : k = B0 + 1 := hs; rw [← h2]; exact hk))) (show w.heap.size ≤ BO by omega)
        rw [hki] at h9
        exact h9
      · intro _ k hk
        have hk' : (Value.slice ra (k1 - 1) rc).ownBlock = some k := by rw [← l1]; exact hk
        have := HAP.out k hk'
        rw [← l2] at this
        exact this
end Go.Proofs.YtilnogadopmboaaDoor
