/- node: the document's Put of a new key. (Made by mkn25.py.) -/
import Derived.Test.YtilnogadopmboaaDoorN23
/- node: the document's Put of a new key. (Its ground; the walk: N25.) (Made by mkn24.py.) -/
namespace Go.Proofs.YtilnogadopmboaaDoor
open Go.RowKit
set_option linter.unusedVariables false
set_option linter.unusedSimpArgs false
/-- One text in a block of its own. -/
structure Sgl (v : Value) (x : ByteArray) (W : World) : Prop where
  out : ∃ g, v = .slice (some ⟨g, 0, none⟩) 1 1 ∧ W.heap[g]? = some (.cells #[.string x] 9 (0, 0))
theorem Sgl.same {v : Value} {x : ByteArray} {W W' : World} (h : Sgl v x W) (k : Same W W') : Sgl v x W' := by
  obtain ⟨g, h1, h2⟩ := h.out
  exact ⟨g, h1, blk_kept k (fun h => h) h2⟩
structure Ows (B k : Nat) (L : List ByteArray) (v : Value) (W : World) : Prop where
  out : ∃ a c, v = .slice a k c ∧ W.ownsRow B 9 1 (.slice a k c) k (TS L)
theorem Ows.same {B k : Nat} {L : List ByteArray} {v : Value} {W W' : World} (h : Ows B k L v W) (s : Same W W') : Ows B k L v W' := by
  obtain ⟨a, c, h1, h2⟩ := h.out
  exact ⟨a, c, h1, own_kept h2 s (fun _ _ h => h)⟩
/-- How far 'append(append(append([]string{}, l[:cn]...), x), l[cn:]...)' is. -/
structure InsI (B B0 B2 fld : Nat) (src ph pt : Value) (cn k : Nat) (l : List ByteArray) (x : ByteArray) (d : Nat → Bool) (xs : Nat → Value) (W : World) : Prop where
  v1 : d 1 = true → xs 1 = .pointer (some ⟨B0, fld, none⟩)
  v2 : d 2 = true → xs 2 = src
  v3 : d 3 = true → xs 3 = .int .i64 cn
  v4 : d 4 = true → xs 4 = ph
  v6 : d 6 = true → xs 6 = .string x
  v9 : d 9 = true → xs 9 = .pointer (some ⟨B0, fld, none⟩)
  v10 : d 10 = true → xs 10 = src
  v11 : d 11 = true → xs 11 = .int .i64 cn
  v12 : d 12 = true → xs 12 = pt
  v14 : d 14 = true → xs 14 = .pointer (some ⟨B2, fld, none⟩)
  e0 : d 0 = true → d 5 = false → Emp B 9 (xs 0) W
  o5 : d 5 = true → d 8 = false → Ows B cn (l.take cn) (xs 5) W
  s7 : d 7 = true → d 8 = false → Sgl (xs 7) x W
  o8 : d 8 = true → d 13 = false → Ows B (cn + 1) (l.take cn ++ [x]) (xs 8) W
  o13 : d 13 = true → Ows B (k + 1) (insL l cn x) (xs 13) W
  n5 : d 5 = true → d 0 = true
  n8 : d 8 = true → d 5 = true
  n7 : d 8 = true → d 7 = true
  n13 : d 13 = true → d 8 = true
theorem Row.sub {W : World} {a : Option Addr} {k c : Nat} {xs : List Value} (r : Row W (.slice a k c) xs) {i j : Nat} (hij : i ≤ j) (hj : j ≤ k) : Row W (.slice (if c = i then a else a.map (·.add (i * 1))) (j - i) (c - i)) ((xs.drop i).take (j - i)) := by
  have hl := r.len
  obtain ⟨a', c', e1, e2, e3, e4⟩ := r
  simp only [Value.slice.injEq] at e1
  obtain ⟨rfl, he, rfl⟩ := e1
  have hlen : ((xs.drop i).take (j - i)).length = j - i := by rw [List.length_take, List.length_drop]; omega
  refine ⟨_, c - i, by rw [hlen], by omega, fun hn => ?_, fun hpos => ?_⟩
  · split at hn
    · omega
    · cases a with
      | none => have := e3 rfl; omega
      | some ad => simp at hn
  · rw [hlen] at hpos
    obtain ⟨b, off, rfl, hc⟩ := e4 (by omega)
    refine ⟨b, off + i, ?_, fun t x ht => ?_⟩
    · rw [if_neg (by omega)]
      simp [add_none]
    · have htj : t < j - i := by have := (List.getElem?_eq_some_iff.1 ht).1; omega
      rw [List.getElem?_take, if_pos htj, List.getElem?_drop] at ht
      rw [Nat.add_assoc]
      exact hc _ _ ht
theorem size_str (W : World) : (sizeOf (Tryd.prog.elem 22)).run Tryd.prog W = .ok 1 W := by
  obtain ⟨i0, hii, hz0, hz1, hz2⟩ := info_parts infoS
  have e : Tryd.prog.elem 22 = 9 := by kernel_rfl
  rw [e]
  simp [sizeOf, typeInfo, hii, hz1]
set_option maxRecDepth 100000 in
theorem slice_to {W0 : World} {a : Option Addr} {k c : Nat} {L : List ByteArray} (r : Row W0 (.slice a k c) (TS L)) {cn : Nat} (h : cn ≤ k) :
    ∃ p, (∀ W, (Instr.sliceAt 22 (.slice a k c) none (some (.int .i64 (cn : Int))) none).run Tryd.prog W = .ok (.slice p cn c) W) ∧ ∀ W, Same W0 W → Row W (.slice p cn c) (TS (L.take cn)) := by
  have hlen := r.len
  refine ⟨(if c = 0 then a else a.map (·.add (0 * 1))), fun W => ?_, fun W s => ?_⟩
  · rw [run_sliceAt_slice (h := Tryd.underlying22), run_slice_h (ht := Tryd.underlying22) (h0 := by omega) (h2 := by omega), size_str]
    simp [sliced]
  · have := (r.same s).sub (Nat.zero_le cn) h
    simpa [TS] using this
set_option maxRecDepth 100000 in
theorem slice_from {W0 : World} {a : Option Addr} {k c : Nat} {L : List ByteArray} (r : Row W0 (.slice a k c) (TS L)) {cn : Nat} (h : cn ≤ k) :
    ∃ p, (∀ W, (Instr.sliceAt 22 (.slice a k c) (some (.int .i64 (cn : Int))) none none).run Tryd.prog W = .ok (.slice p (k - cn) (c - cn)) W) ∧ ∀ W, Same W0 W → Row W (.slice p (k - cn) (c - cn)) (TS (L.drop cn)) := by
  have hlen := r.len
  have htl := r.tl
  refine ⟨(if c = cn then a else a.map (·.add (cn * 1))), fun W => ?_, fun W s => ?_⟩
  · rw [run_sliceAt_slice (h := Tryd.underlying22), run_slice_l (ht := Tryd.underlying22) (h0 := by omega) (h1 := by omega), size_str]
    simp [sliced]
  · have := (r.same s).sub h (Nat.le_refl k)
    rw [List.take_of_length_le (by rw [List.length_drop, TS_len]; omega)] at this
    simpa [TS] using this
end Go.Proofs.YtilnogadopmboaaDoor
namespace Go.Proofs.YtilnogadopmboaaDoor
open Go.RowKit
set_option linter.unusedVariables false
set_option linter.unusedSimpArgs false
def insF (nv cv : Value) (key value : ByteArray) (B0 B2 cn : Nat) (y x : Nat → Value) : Act := { tmps := #[nv, .string key, .string value, .pointer (some ⟨B0, 0, none⟩), undef, undef, .pointer (some ⟨B0 + 1, 0, none⟩), .int .i64 0, .int .i64 (cn : Int), .bool false, .pointer (some ⟨B2, 0, none⟩), nv, .int .i64 0, .bool false, .bool false, .pointer (some ⟨B0, 0, none⟩), .bool true, .bool false, .bool false, undef, .string key, .int .i64 (key.size : Int), .bool false, .bool false, .string key, .int .i64 (key.size : Int), .bool false, .bool false, .bool false, .string value, .int .i64 (value.size : Int), .bool false, .bool false, undef, .tuple #[.int .i64 (cn : Int), .bool false], nv, .string key, .tuple #[.int .i64 (cn : Int), .bool false], .int .i64 (cn : Int), .bool false, nv, cv, .bool false, undef, undef, undef, undef, undef, undef, y 0, y 1, y 2, y 3, y 4, y 5, y 6, y 7, y 8, y 9, y 10, y 11, y 12, y 13, y 14, x 0, x 1, x 2, x 3, x 4, x 5, x 6, x 7, x 8, x 9, x 10, x 11, x 12, x 13, x 14, undef], defers := [] }
theorem Ows.form {B k : Nat} {L : List ByteArray} {v : Value} {W : World} (h : Ows B k L v W) : ∃ a c, v = .slice a k c ∧ W.ownsRow B 9 1 (.slice a k c) k (TS L) := h.out
theorem ins_end {l : List ByteArray} {cn : Nat} {x : ByteArray} : TS (l.take cn ++ [x]) ++ TS (l.drop cn) = TS (insL l cn x) := by simp [TS, insL]
theorem Sgl.lies {v : Value} {x : ByteArray} {W : World} (h : Sgl v x W) : ∃ ao, v = .slice ao 1 1 ∧ Lies W ao 1 [.string x] := by
  obtain ⟨g, rfl, h2⟩ := h.out
  exact ⟨_, rfl, fun _ => ⟨_, rfl, fun j u hj => by
    rw [add_none, Nat.zero_add, cell_of_row _ _ _ _ _ _ h2]
    simpa using hj⟩⟩
set_option maxHeartbeats 1000000 in
set_option maxRecDepth 100000 in
theorem refPut_ins (n : Nd) (a1 a2 a3 : Option Addr) (k1 c1 k2 c2 k3 c3 : Nat) (key value : ByteArray) (w : World) (r1 : Row w (.slice a1 k1 c1) (TS n.keys)) (r2 : Row w (.slice a2 k2 c2) (TS n.vals)) (r3 : Row w (.slice a3 k3 c3) (IS n.kids)) (hb : n.Bd) (hbig : n.keys.length ≤ 8796093022206) (hl : n.leaf = true) (hc : n.chk = 0) (hk : ¬ key.size < 1) (hk2 : ¬ 64 < key.size) (hv : ¬ 64 < value.size) (hh : n.has key = false) :
    Calls Tryd.prog 23 #[.agg #[.bool n.leaf, .slice a1 k1 c1, .slice a2 k2 c2, .slice a3 k3 c3], .string key, .string value] w fun e w' => ∃ u, e = .returned u ∧ PuQ w ⟨true, insL n.keys (n.cnt key) key, insL n.vals (n.cnt key) value, n.kids⟩ 0 u w' := by
  have HCk := hidden (fun W (k : Same w W) => refCheck_any n a1 a2 a3 k1 c1 k2 c2 k3 c3 W (r1.same k) (r2.same k) (r3.same k) hb)
  have HFd := hidden (fun W (k : Same w W) => refFind_any n a1 a2 a3 k1 c1 k2 c2 k3 c3 key W (r1.same k) (r2.same k) (r3.same k) hb (Nd.chk_rises hc))
  have HCp := hidden (fun W (k : Same w W) => copy_any n a1 a2 a3 k1 c1 k2 c2 k3 c3 W (r1.same k) (r2.same k) (r3.same k) (by omega) (by have := (Nd.chk_leaf hl hc).1; omega) (by rw [(Nd.chk_leaf hl hc).2]; simp))
  have E1 := hidden r1.tl
  have E2 := hidden r2.tl
  have E3 := hidden r3.il
  have HL := hidden hl
  have HV12 : Hid (k2 = k1) := by rw [Hid, ← E1.out, ← E2.out]; exact (Nd.chk_leaf hl hc).1
  rw [hc] at HCk
  rw [hh] at HFd
  have s1 : ¬ (key.size : Int) < 1 := by omega
  have s2 : ¬ (64 : Int) < (key.size : Int) := by omega
  have s3 : ¬ (64 : Int) < (value.size : Int) := by omega
  have hcl : n.cnt key ≤ k1 := by rw [← E1.out]; exact List.countP_le_length
  obtain ⟨i0, hi, hz0, hz1, hz2⟩ := info_parts infoS
  have HI0 := hidden hi
  have HZ0 := hidden hz0
  have HZ1 := hidden hz1
  have HZ2 := hidden hz2
  clear hi hz0 hz1 hz2
  have hmx : Hid (Tryd.prog.follows .mixedOrders = true) := hidden (by kernel_rfl)
  have R1 := hidden r1
  have R2 := hidden r2
  have hbk : k1 ≤ 8796093022206 := by rw [← E1.out]; exact hbig
  rw [hl] at HCk HFd HCp ⊢
  have K0 : Hid (Same w ((w.alloc (.cells #[.bool true, .slice a1 k1 c1, .slice a2 k2 c2, .slice a3 k3 c3] 25)).alloc (.cells #[.bool false, .slice none 0 0, .slice none 0 0, .slice none 0 0] 25))) := hidden (((Kept.refl _ w).alloc _).alloc _)
  clear r1 r2 r3 hb hbig hc hk hk2 hv hh hl
  generalize n.cnt key = cn at *
  have hcn0 : (0 : Int) ≤ (cn : Int) := Int.natCast_nonneg _
  have ki : decide ((key.size : Int) < 1) = false := by simp; omega
  have kj : decide ((64 : Int) < (key.size : Int)) = false := by simp; omega
  have kv : decide ((64 : Int) < (value.size : Int)) = false := by simp; omega
  go_enter Tryd.func23, Tryd.ntmps23
  go_wp2_with (first
    | (go_at_call 14; refine (HCk.out _ K0.out).mono ?_; rintro e w1 ⟨rfl, q1⟩; have g0 : w1.heap[w.heap.size]? = some (.cells #[.bool true, .slice a1 k1 c1, .slice a2 k2 c2, .slice a3 k3 c3] 25 (0, 0)) := blk_kept q1 (fun h => h) (box_blk _ _ _); have g1 : w1.heap[w.heap.size + 1]? = some (.cells #[.bool false, .slice none 0 0, .slice none 0 0, .slice none 0 0] 25 (0, 0)) := blk_kept q1 (fun h => h) (zero_blk _ _); have xc0 : w1.cell? ⟨w.heap.size, 0, none⟩ = some (.bool true) := blk_cell g0; have xf0 : w1.frozen? ⟨w.heap.size, 0, none⟩ = false := blk_free g0; have xc1 : w1.cell? ⟨w.heap.size, 1, none⟩ = some (.slice a1 k1 c1) := blk_cell g0; have xf1 : w1.frozen? ⟨w.heap.size, 1, none⟩ = false := blk_free g0; have xc2 : w1.cell? ⟨w.heap.size, 2, none⟩ = some (.slice a2 k2 c2) := blk_cell g0; have xf2 : w1.frozen? ⟨w.heap.size, 2, none⟩ = false := blk_free g0; have xc3 : w1.cell? ⟨w.heap.size, 3, none⟩ = some (.slice a3 k3 c3) := blk_cell g0; have xf3 : w1.frozen? ⟨w.heap.size, 3, none⟩ = false := blk_free g0; have zc0 : w1.cell? ⟨w.heap.size + 1, 0, none⟩ = some (.bool false) := blk_cell g1; have zf0 : w1.frozen? ⟨w.heap.size + 1, 0, none⟩ = false := blk_free g1; have zc1 : w1.cell? ⟨w.heap.size + 1, 1, none⟩ = some (.slice none 0 0) := blk_cell g1; have zf1 : w1.frozen? ⟨w.heap.size + 1, 1, none⟩ = false := blk_free g1; have zc2 : w1.cell? ⟨w.heap.size + 1, 2, none⟩ = some (.slice none 0 0) := blk_cell g1; have zf2 : w1.frozen? ⟨w.heap.size + 1, 2, none⟩ = false := blk_free g1; have zc3 : w1.cell? ⟨w.heap.size + 1, 3, none⟩ = some (.slice none 0 0) := blk_cell g1; have zf3 : w1.frozen? ⟨w.heap.size + 1, 3, none⟩ = false := blk_free g1; have G0 := hidden g0; have G1 := hidden g1; have K1 := hidden (K0.out.trans q1); clear q1 g0 g1)
    | (go_at_call 21; refine (HFd.out _ K1.out).mono ?_; rintro e w2 ⟨rfl, q2⟩; have g0 := blk_kept q2 (fun h => h) G0.out; have g1 := blk_kept q2 (fun h => h) G1.out; have yc0 : w2.cell? ⟨w.heap.size, 0, none⟩ = some (.bool true) := blk_cell g0; have yc1 : w2.cell? ⟨w.heap.size, 1, none⟩ = some (.slice a1 k1 c1) := blk_cell g0; have yc2 : w2.cell? ⟨w.heap.size, 2, none⟩ = some (.slice a2 k2 c2) := blk_cell g0; have yc3 : w2.cell? ⟨w.heap.size, 3, none⟩ = some (.slice a3 k3 c3) := blk_cell g0; have H0 := hidden g0; have H1 := hidden g1; have K2 := hidden (K1.out.trans q2); clear q2 g0 g1)
    | (go_at_call 8; refine (HCp.out _ K2.out).mono ?_; rintro e w3 ⟨u, rfl, hn, q3⟩; obtain ⟨b1, b2, b3, d1, d2, d3, rfl, o1, o2, o3, oap⟩ := hn.out; clear hn; rw [E1.out] at o1; rw [E2.out] at o2; rw [E3.out] at o3; rw [E1.out, E2.out] at oap; rw [E1.out, E2.out, E3.out, HL.out]; have OAP := hidden oap; have O1 := hidden o1; have O2 := hidden o2; have O3 := hidden o3; have I0 := hidden (blk_kept q3 (fun h => h) H0.out); have I1 := hidden (blk_kept q3 (fun h => h) H1.out); have K3 := hidden (K2.out.trans q3); clear q3 o1 o2 o3 oap))
  rename_i KQ
  have hi := HI0.out
  have hz0 := HZ0.out
  have hz1 := HZ1.out
  have hz2 := HZ2.out
  have hmx := hmx.out
  have hv12 := HV12.out
  have J0 := hidden (blk_alloc I0.out (.cells #[.bool true, .slice b1 k1 d1, .slice b2 k2 d2, .slice b3 k3 d3] 25))
  have J1 := hidden (blk_alloc I1.out (.cells #[.bool true, .slice b1 k1 d1, .slice b2 k2 d2, .slice b3 k3 d3] 25))
  have J2 := hidden (blk_new w3 (.cells #[.bool true, .slice b1 k1 d1, .slice b2 k2 d2, .slice b3 k3 d3] 25))
  have Q2 := hidden (O2.out.alloc (.cells #[.bool true, .slice b1 k1 d1, .slice b2 k2 d2, .slice b3 k3 d3] 25))
  have Q3 := hidden (O3.out.alloc (.cells #[.bool true, .slice b1 k1 d1, .slice b2 k2 d2, .slice b3 k3 d3] 25))
  have KR := hidden (K3.out.alloc (.cells #[.bool true, .slice b1 k1 d1, .slice b2 k2 d2, .slice b3 k3 d3] 25))
  have hB2 : w.heap.size + 1 < w3.heap.size := blk_lt I1.out
  have hB3 : w3.heap.size < (w3.alloc (.cells #[.bool true, .slice b1 k1 d1, .slice b2 k2 d2, .slice b3 k3 d3] 25)).heap.size := blk_lt J2.out
  have hW2 : w.heap.size ≤ w2.heap.size := K2.out.size
  clear xc0 xf0 xc1 xf1 xc2 xf2 xc3 xf3 zc0 zf0 zc1 zf1 zc2 zf2 zc3 zf3 G0 G1 K1 s1 s2 s3 yc0 yc1 yc2 yc3 H0 H1 K2 HCk HCp HFd K0 I0 I1 K3 O1 O2 O3 OAP ki kj kv HI0 HZ0 HZ1 HZ2
  generalize (w3.alloc (.cells #[.bool true, .slice b1 k1 d1, .slice b2 k2 d2, .slice b3 k3 d3] 25)) = wR at *
  generalize w3.heap.size = B2 at *
  generalize w2.heap.size = BO at *
  generalize hB0 : w.heap.size = B0 at *
  have HB0 := hidden hB0
  clear hB0
  obtain ⟨ph, hph, rph⟩ := slice_to (R1.out.same KR.out) hcl
  obtain ⟨pt, hpt, rpt⟩ := slice_from (R1.out.same KR.out) hcl
  have RPH := hidden rph
  have RPT := hidden rpt
  clear rph rpt
  generalize hnv : Value.agg #[.bool true, .slice a1 k1 c1, .slice a2 k2 c2, .slice a3 k3 c3] = nv
  generalize hcv : Value.agg #[.bool true, .slice b1 k1 d1, .slice b2 k2 d2, .slice b3 k3 d3] = cv
  clear hnv hcv
  refine region_grow (m := 15) (F := fun x => insF nv cv key value B0 B2 cn x (fun _ => undef)) (I := InsI wR.heap.size B0 B2 1 (.slice a1 k1 c1) (.slice ph cn c1) (.slice pt (k1 - cn) (c1 - cn)) cn k1 n.keys key) hmx (by kernel_rfl) (fun _ => undef) rfl ⟨(fun h => by cases h), (fun h => by cases h), (fun h => by cases h), (fun h => by cases h), (fun h => by cases h), (fun h => by cases h), (fun h => by cases h), (fun h => by cases h), (fun h => by cases h), (fun h => by cases h), (fun h => by cases h), (fun h => by cases h), (fun h => by cases h), (fun h => by cases h), (fun h => by cases h), (fun h => by cases h), (fun h => by cases h), (fun h => by cases h), (fun h => by cases h)⟩ ?_ ?_
  · intro i hi15 d x W hsm hdi hdep hI
    clear KQ
    have zf : W.cell? ⟨B0, 1, none⟩ = some (.slice a1 k1 c1) := blk_cell (blk_kept hsm (fun h => h) J0.out)
    have hBW : wR.heap.size ≤ W.heap.size := hsm.size
    match i, hi15 with
    | 1, _ =>
      refine wpOp_step rfl (fun K' hK => ?_)
      have HK := hidden hK
      clear hK
      unfold insF
      go_simp
      exact HK.out _ _ ⟨.pointer (some ⟨B0, 1, none⟩), (by unfold insF upd; simp), ⟨(fun _ => rfl), hI.v2, hI.v3, hI.v4, hI.v6, hI.v9, hI.v10, hI.v11, hI.v12, hI.v14, hI.e0, hI.o5, hI.s7, hI.o8, hI.o13, hI.n5, hI.n8, hI.n7, hI.n13⟩, hsm⟩
    | 2, _ =>
      have u1 : x 1 = .pointer (some ⟨B0, 1, none⟩) := hI.v1 (hdep 1 (by kernel_rfl))
      refine wpOp_step rfl (fun K' hK => ?_)
      have HK := hidden hK
      clear hK
      unfold insF
      simp only [u1]
      go_simp
      exact HK.out _ _ ⟨.slice a1 k1 c1, (by unfold insF upd; simp [u1]), ⟨hI.v1, (fun _ => rfl), hI.v3, hI.v4, hI.v6, hI.v9, hI.v10, hI.v11, hI.v12, hI.v14, hI.e0, hI.o5, hI.s7, hI.o8, hI.o13, hI.n5, hI.n8, hI.n7, hI.n13⟩, hsm⟩
    | 3, _ =>
      refine wpOp_step rfl (fun K' hK => ?_)
      have HK := hidden hK
      clear hK
      unfold insF
      go_simp
      exact HK.out _ _ ⟨.int .i64 (cn : Int), (by unfold insF upd; simp), ⟨hI.v1, hI.v2, (fun _ => rfl), hI.v4, hI.v6, hI.v9, hI.v10, hI.v11, hI.v12, hI.v14, hI.e0, hI.o5, hI.s7, hI.o8, hI.o13, hI.n5, hI.n8, hI.n7, hI.n13⟩, hsm⟩
    | 4, _ =>
      have u2 : x 2 = .slice a1 k1 c1 := hI.v2 (hdep 2 (by kernel_rfl))
      have u3 : x 3 = .int .i64 (cn : Int) := hI.v3 (hdep 3 (by kernel_rfl))
      refine wpOp_step rfl (fun K' hK => ?_)
      have HK := hidden hK
      clear hK
      unfold insF
      simp only [u2, u3]
      go_simp
      exact HK.out _ _ ⟨.slice ph cn c1, (by unfold insF upd; simp [u2, u3]), ⟨hI.v1, hI.v2, hI.v3, (fun _ => rfl), hI.v6, hI.v9, hI.v10, hI.v11, hI.v12, hI.v14, hI.e0, hI.o5, hI.s7, hI.o8, hI.o13, hI.n5, hI.n8, hI.n7, hI.n13⟩, hsm⟩
    | 6, _ =>
      refine wpOp_step rfl (fun K' hK => ?_)
      have HK := hidden hK
      clear hK
      unfold insF
      go_simp
      exact HK.out _ _ ⟨.string key, (by unfold insF upd; simp), ⟨hI.v1, hI.v2, hI.v3, hI.v4, (fun _ => rfl), hI.v9, hI.v10, hI.v11, hI.v12, hI.v14, hI.e0, hI.o5, hI.s7, hI.o8, hI.o13, hI.n5, hI.n8, hI.n7, hI.n13⟩, hsm⟩
    | 9, _ =>
      refine wpOp_step rfl (fun K' hK => ?_)
      have HK := hidden hK
      clear hK
      unfold insF
      go_simp
      exact HK.out _ _ ⟨.pointer (some ⟨B0, 1, none⟩), (by unfold insF upd; simp), ⟨hI.v1, hI.v2, hI.v3, hI.v4, hI.v6, (fun _ => rfl), hI.v10, hI.v11, hI.v12, hI.v14, hI.e0, hI.o5, hI.s7, hI.o8, hI.o13, hI.n5, hI.n8, hI.n7, hI.n13⟩, hsm⟩
    | 10, _ =>
      have u9 : x 9 = .pointer (some ⟨B0, 1, none⟩) := hI.v9 (hdep 9 (by kernel_rfl))
      refine wpOp_step rfl (fun K' hK => ?_)
      have HK := hidden hK
      clear hK
      unfold insF
      simp only [u9]
      go_simp
      exact HK.out _ _ ⟨.slice a1 k1 c1, (by unfold insF upd; simp [u9]), ⟨hI.v1, hI.v2, hI.v3, hI.v4, hI.v6, hI.v9, (fun _ => rfl), hI.v11, hI.v12, hI.v14, hI.e0, hI.o5, hI.s7, hI.o8, hI.o13, hI.n5, hI.n8, hI.n7, hI.n13⟩, hsm⟩
    | 11, _ =>
      refine wpOp_step rfl (fun K' hK => ?_)
      have HK := hidden hK
      clear hK
      unfold insF
      go_simp
      exact HK.out _ _ ⟨.int .i64 (cn : Int), (by unfold insF upd; simp), ⟨hI.v1, hI.v2, hI.v3, hI.v4, hI.v6, hI.v9, hI.v10, (fun _ => rfl), hI.v12, hI.v14, hI.e0, hI.o5, hI.s7, hI.o8, hI.o13, hI.n5, hI.n8, hI.n7, hI.n13⟩, hsm⟩
    | 12, _ =>
      have u10 : x 10 = .slice a1 k1 c1 := hI.v10 (hdep 10 (by kernel_rfl))
      have u11 : x 11 = .int .i64 (cn : Int) := hI.v11 (hdep 11 (by kernel_rfl))
      refine wpOp_step rfl (fun K' hK => ?_)
      have HK := hidden hK
      clear hK
      unfold insF
      simp only [u10, u11]
      go_simp
      exact HK.out _ _ ⟨.slice pt (k1 - cn) (c1 - cn), (by unfold insF upd; simp [u10, u11]), ⟨hI.v1, hI.v2, hI.v3, hI.v4, hI.v6, hI.v9, hI.v10, hI.v11, (fun _ => rfl), hI.v14, hI.e0, hI.o5, hI.s7, hI.o8, hI.o13, hI.n5, hI.n8, hI.n7, hI.n13⟩, hsm⟩
    | 14, _ =>
      refine wpOp_step rfl (fun K' hK => ?_)
      have HK := hidden hK
      clear hK
      unfold insF
      go_simp
      exact HK.out _ _ ⟨.pointer (some ⟨B2, 1, none⟩), (by unfold insF upd; simp), ⟨hI.v1, hI.v2, hI.v3, hI.v4, hI.v6, hI.v9, hI.v10, hI.v11, hI.v12, (fun _ => rfl), hI.e0, hI.o5, hI.s7, hI.o8, hI.o13, hI.n5, hI.n8, hI.n7, hI.n13⟩, hsm⟩
    | 0, _ =>
      refine wpOp_step rfl (fun K' hK => ?_)
      have HK := hidden hK
      clear hK
      unfold insF
      go_simp
      exact HK.out _ _ ⟨.slice (some ⟨W.heap.size, 0, none⟩) 0 0, (by unfold insF upd; simp), ⟨hI.v1, hI.v2, hI.v3, hI.v4, hI.v6, hI.v9, hI.v10, hI.v11, hI.v12, hI.v14, (fun _ _ => ⟨W.heap.size, rfl, hBW, blk_new _ _⟩), (fun h1 h2 => (hI.o5 h1 h2).same (same_alloc _ _)), (fun h1 h2 => (hI.s7 h1 h2).same (same_alloc _ _)), (fun h1 h2 => (hI.o8 h1 h2).same (same_alloc _ _)), (fun h1 => (hI.o13 h1).same (same_alloc _ _)), (fun _ => rfl), hI.n8, hI.n7, hI.n13⟩, hsm.alloc _⟩
    | 7, _ =>
      have u6 : x 6 = .string key := hI.v6 (hdep 6 (by kernel_rfl))
      refine wpOp_step rfl (fun K' hK => ?_)
      have HK := hidden hK
      clear hK
      unfold insF
      simp only [u6]
      go_simp
      exact HK.out _ _ ⟨.slice (some ⟨W.heap.size, 0, none⟩) 1 1, (by unfold insF upd; simp [u6]), ⟨hI.v1, hI.v2, hI.v3, hI.v4, hI.v6, hI.v9, hI.v10, hI.v11, hI.v12, hI.v14, (fun h1 h2 => (hI.e0 h1 h2).same (same_alloc _ _)), (fun h1 h2 => (hI.o5 h1 h2).same (same_alloc _ _)), (fun _ _ => ⟨W.heap.size, rfl, blk_new _ _⟩), (fun h1 h2 => (hI.o8 h1 h2).same (same_alloc _ _)), (fun h1 => (hI.o13 h1).same (same_alloc _ _)), hI.n5, hI.n8, (fun _ => rfl), hI.n13⟩, hsm.alloc _⟩
    | 5, _ =>
      have d0 := hdep 0 (by kernel_rfl)
      have u4 : x 4 = .slice ph cn c1 := hI.v4 (hdep 4 (by kernel_rfl))
      have m1 : Emp wR.heap.size 9 (x 0) W := hI.e0 d0 hdi
      refine wpOp_step rfl (fun K' hK => ?_)
      refine step_emp rfl _ _ 22 rfl wR.heap.size 9 i0 (.string ⟨#[]⟩) 16 Tryd.underlying22 hi hz0 hz1 hz2 rfl (x 0) rfl m1 _ cn _ (TS (n.keys.take cn)) u4 (RPH.out W hsm) (TS_one _) (by unfold maxLen; omega) (by omega) hBW ?_
      intro u W' hu
      obtain ⟨ua, uc, rfl, uo, _⟩ := hu.apd.out
      exact hK _ _ ⟨_, rfl, ⟨hI.v1, hI.v2, hI.v3, hI.v4, hI.v6, hI.v9, hI.v10, hI.v11, hI.v12, hI.v14, (fun _ h => absurd (show true = false from h) (by decide)), (fun _ _ => ⟨ua, uc, rfl, uo⟩), (fun h1 h2 => (hI.s7 h1 h2).same hu.same), (fun h1 h2 => (hI.o8 h1 h2).same hu.same), (fun h1 => (hI.o13 h1).same hu.same), (fun _ => d0), (fun _ => rfl), hI.n7, hI.n13⟩, hsm.trans hu.same⟩
    | 8, _ =>
      have d5 := hdep 5 (by kernel_rfl)
      have d7 := hdep 7 (by kernel_rfl)
      obtain ⟨pa, pc, hx5, po⟩ := (hI.o5 d5 hdi).form
      obtain ⟨sa, hx7, sl⟩ := (hI.s7 d7 hdi).lies
      refine wpOp_step rfl (fun K' hK => ?_)
      refine step_append_where rfl _ _ 22 rfl wR.heap.size 9 i0 (.string ⟨#[]⟩) 1 16 Tryd.underlying22 hi hz0 hz1 hz2 rfl (by decide) pa cn pc _ hx5 po sa 1 1 [.string key] hx7 rfl sl (by simp [Value.oneCell']) (by unfold maxLen; omega) (by omega) hBW ?_
      intro ua uc W' uo hg hw
      rw [show TS (n.keys.take cn) ++ [Value.string key] = TS (n.keys.take cn ++ [key]) by simp [TS]] at uo
      exact hK _ _ ⟨_, rfl, ⟨hI.v1, hI.v2, hI.v3, hI.v4, hI.v6, hI.v9, hI.v10, hI.v11, hI.v12, hI.v14, (fun _ h => by have h2 : d 5 = false := h; rw [d5] at h2; cases h2), (fun _ h => absurd (show true = false from h) (by decide)), (fun _ h => absurd (show true = false from h) (by decide)), (fun _ _ => ⟨ua, uc, rfl, uo⟩), (fun h => by have h2 := hI.n13 h; rw [hdi] at h2; cases h2), hI.n5, (fun _ => d5), (fun _ => d7), (fun _ => rfl)⟩, same_grown (m := 0) hsm po hg⟩
    | 13, _ =>
      have d8 := hdep 8 (by kernel_rfl)
      have d5 := hI.n8 d8
      obtain ⟨pa, pc, hx8, po⟩ := (hI.o8 d8 hdi).form
      have u12 : x 12 = .slice pt (k1 - cn) (c1 - cn) := hI.v12 (hdep 12 (by kernel_rfl))
      refine wpOp_step rfl (fun K' hK => ?_)
      refine step_append_where rfl _ _ 22 rfl wR.heap.size 9 i0 (.string ⟨#[]⟩) 1 16 Tryd.underlying22 hi hz0 hz1 hz2 rfl (by decide) pa (cn + 1) pc _ hx8 po _ (k1 - cn) _ (TS (n.keys.drop cn)) u12 (by rw [Nat.mul_one]; exact (RPT.out W hsm).len.1.symm) (RPT.out W hsm).lies (TS_one _) (by unfold maxLen; omega) (by omega) hBW ?_
      intro ua uc W' uo hg hw
      rw [ins_end] at uo
      have hln : cn + 1 + (k1 - cn) = k1 + 1 := by omega
      refine hK _ _ ⟨_, rfl, ⟨hI.v1, hI.v2, hI.v3, hI.v4, hI.v6, hI.v9, hI.v10, hI.v11, hI.v12, hI.v14, (fun _ h => by have h2 : d 5 = false := h; rw [d5] at h2; cases h2), (fun _ h => by have h2 : d 8 = false := h; rw [d8] at h2; cases h2), (fun _ h => by have h2 : d 8 = false := h; rw [d8] at h2; cases h2), (fun _ h => absurd (show true = false from h) (by decide)), (fun _ => ⟨ua, uc, by rw [← hln]; rfl, by rw [← hln]; exact uo⟩), hI.n5, hI.n8, hI.n7, (fun _ => d8)⟩, same_grown (m := 0) hsm po hg⟩
    | q + 15, h => exact absurd h (by omega)
  · intro d x W hsm hall hI
    have u14 : x 14 = .pointer (some ⟨B2, 1, none⟩) := hI.v14 (hall 14 (by decide))
    obtain ⟨ra, rc, hx13, ro⟩ := (hI.o13 (hall 13 (by decide))).form
    have bl2 := blk_kept hsm (fun h => h) J2.out
    have sc : W.cell? ⟨B2, 1, none⟩ = some (.slice b1 k1 d1) := blk_cell bl2
    have sf : W.frozen? ⟨B2, 1, none⟩ = false := blk_free bl2
    have BL2 := hidden bl2
    clear bl2
    refine wpOp_step rfl (fun K' hK => ?_)
    have HK := hidden hK
    clear hK
    unfold insF
    simp only [u14, hx13]
    go_simp
    refine HK.out _ _ (KQ _ _ ?_)
    clear HK KQ hI sc sf hall
    have ks : Kept (only B2) W (W.setCell ⟨B2, 1, none⟩ (.slice ra (k1 + 1) rc)) := (Kept.refl (only B2) W).setCell (p := ⟨B2, 1, none⟩) rfl _
    have g2 : (W.setCell ⟨B2, 1, none⟩ (.slice ra (k1 + 1) rc)).heap[B2]? = some (.cells #[.bool true, .slice ra (k1 + 1) rc, .slice b2 k2 d2, .slice b3 k3 d3] 25 (0, 0)) := blk_set BL2.out _
    have g0 := blk_kept ks (by show ¬ B0 = B2; omega) (blk_kept hsm (fun h => h) J0.out)
    have g1 := blk_kept ks (by show ¬ B0 + 1 = B2; omega) (blk_kept hsm (fun h => h) J1.out)
    have hsz : wR.heap.size ≤ W.heap.size := hsm.size
    have hse : (W.setCell ⟨B2, 1, none⟩ (.slice ra (k1 + 1) rc)).heap.size = W.heap.size := by simp [World.setCell]
    have oN := own_kept ro ks (fun k hk hs => by have h1 := own_geN ro k hk; have h2 : k = B2 := hs; omega)
    have p_3 := own_kept Q3.out hsm (fun _ _ h => h)
    have o_3 := own_kept p_3 ks (fun k hk hs => own_apart p_3 BL2.out (by decide) (by have e : k = B2 := hs; rw [← e]; exact hk))
    have sm := (KR.out.trans hsm).setNew (p := ⟨B2, 1, none⟩) (by show w.heap.size ≤ B2; have := HB0.out; omega) (.slice ra (k1 + 1) rc)
    have hS : B2 < (W.setCell ⟨B2, 1, none⟩ (.slice ra (k1 + 1) rc)).heap.size := blk_lt g2
    have hx : ∃ y : Nat → Value, (∀ j, y j = if j = 13 then .slice ra (k1 + 1) rc else if j = 14 then .pointer (some ⟨B2, 1, none⟩) else x j) := ⟨_, fun _ => rfl⟩
    generalize W.setCell ⟨B2, 1, none⟩ (.slice ra (k1 + 1) rc) = wS at *
    have G0 := hidden g0
    have G1 := hidden g1
    have G2 := hidden g2
    have OK := hidden oN
    have O3 := hidden o_3
    have SM := hidden sm
    have HX := hidden hse
    have hcl2 : cn ≤ k2 := by omega
    have hbk2 : k2 ≤ 8796093022206 := by omega
    obtain ⟨ph, hph, rph⟩ := slice_to (R2.out.same SM.out) hcl2
    obtain ⟨pt, hpt, rpt⟩ := slice_from (R2.out.same SM.out) hcl2
    have RPH2 := hidden rph
    have RPT2 := hidden rpt
    have HWB : Hid (wR.heap.size ≤ wS.heap.size) := hidden (by omega)
    clear rph rpt g0 g1 g2 oN o_3 p_3 sm ks hse hv12 RPH RPT J0 J1 J2 Q2 Q3 KR ro hsm BL2 hx
    have RPH := RPH2
    have RPT := RPT2
    go_wp2
    rename_i KQ
    change Code.wp _ _ _ (insF nv cv key value B0 B2 cn (fun j => if j = 13 then .slice ra (k1 + 1) rc else if j = 14 then .pointer (some ⟨B2, 1, none⟩) else x j) (fun _ => undef)) wS
    generalize (fun j => if j = 13 then Value.slice ra (k1 + 1) rc else if j = 14 then .pointer (some ⟨B2, 1, none⟩) else x j) = y
    refine region_grow (m := 15) (F := fun x => insF nv cv key value B0 B2 cn y x) (I := InsI wS.heap.size B0 B2 2 (.slice a2 k2 c2) (.slice ph cn c2) (.slice pt (k2 - cn) (c2 - cn)) cn k2 n.vals value) hmx (by kernel_rfl) (fun _ => undef) rfl ⟨(fun h => by cases h), (fun h => by cases h), (fun h => by cases h), (fun h => by cases h), (fun h => by cases h), (fun h => by cases h), (fun h => by cases h), (fun h => by cases h), (fun h => by cases h), (fun h => by cases h), (fun h => by cases h), (fun h => by cases h), (fun h => by cases h), (fun h => by cases h), (fun h => by cases h), (fun h => by cases h), (fun h => by cases h), (fun h => by cases h), (fun h => by cases h)⟩ ?_ ?_
    · intro i hi15 d x W hsm hdi hdep hI
      clear KQ
      have zf : W.cell? ⟨B0, 2, none⟩ = some (.slice a2 k2 c2) := blk_cell (blk_kept hsm (fun h => h) G0.out)
      have hBW : wS.heap.size ≤ W.heap.size := hsm.size
      match i, hi15 with
      | 1, _ =>
        refine wpOp_step rfl (fun K' hK => ?_)
        have HK := hidden hK
        clear hK
        unfold insF
        go_simp
        exact HK.out _ _ ⟨.pointer (some ⟨B0, 2, none⟩), (by unfold insF upd; simp), ⟨(fun _ => rfl), hI.v2, hI.v3, hI.v4, hI.v6, hI.v9, hI.v10, hI.v11, hI.v12, hI.v14, hI.e0, hI.o5, hI.s7, hI.o8, hI.o13, hI.n5, hI.n8, hI.n7, hI.n13⟩, hsm⟩
      | 2, _ =>
        have u1 : x 1 = .pointer (some ⟨B0, 2, none⟩) := hI.v1 (hdep 1 (by kernel_rfl))
        refine wpOp_step rfl (fun K' hK => ?_)
        have HK := hidden hK
        clear hK
        unfold insF
        simp only [u1]
        go_simp
        exact HK.out _ _ ⟨.slice a2 k2 c2, (by unfold insF upd; simp [u1]), ⟨hI.v1, (fun _ => rfl), hI.v3, hI.v4, hI.v6, hI.v9, hI.v10, hI.v11, hI.v12, hI.v14, hI.e0, hI.o5, hI.s7, hI.o8, hI.o13, hI.n5, hI.n8, hI.n7, hI.n13⟩, hsm⟩
      | 3, _ =>
        refine wpOp_step rfl (fun K' hK => ?_)
        have HK := hidden hK
        clear hK
        unfold insF
        go_simp
        exact HK.out _ _ ⟨.int .i64 (cn : Int), (by unfold insF upd; simp), ⟨hI.v1, hI.v2, (fun _ => rfl), hI.v4, hI.v6, hI.v9, hI.v10, hI.v11, hI.v12, hI.v14, hI.e0, hI.o5, hI.s7, hI.o8, hI.o13, hI.n5, hI.n8, hI.n7, hI.n13⟩, hsm⟩
      | 4, _ =>
        have u2 : x 2 = .slice a2 k2 c2 := hI.v2 (hdep 2 (by kernel_rfl))
        have u3 : x 3 = .int .i64 (cn : Int) := hI.v3 (hdep 3 (by kernel_rfl))
        refine wpOp_step rfl (fun K' hK => ?_)
        have HK := hidden hK
        clear hK
        unfold insF
        simp only [u2, u3]
        go_simp
        exact HK.out _ _ ⟨.slice ph cn c2, (by unfold insF upd; simp [u2, u3]), ⟨hI.v1, hI.v2, hI.v3, (fun _ => rfl), hI.v6, hI.v9, hI.v10, hI.v11, hI.v12, hI.v14, hI.e0, hI.o5, hI.s7, hI.o8, hI.o13, hI.n5, hI.n8, hI.n7, hI.n13⟩, hsm⟩
      | 6, _ =>
        refine wpOp_step rfl (fun K' hK => ?_)
        have HK := hidden hK
        clear hK
        unfold insF
        go_simp
        exact HK.out _ _ ⟨.string value, (by unfold insF upd; simp), ⟨hI.v1, hI.v2, hI.v3, hI.v4, (fun _ => rfl), hI.v9, hI.v10, hI.v11, hI.v12, hI.v14, hI.e0, hI.o5, hI.s7, hI.o8, hI.o13, hI.n5, hI.n8, hI.n7, hI.n13⟩, hsm⟩
      | 9, _ =>
        refine wpOp_step rfl (fun K' hK => ?_)
        have HK := hidden hK
        clear hK
        unfold insF
        go_simp
        exact HK.out _ _ ⟨.pointer (some ⟨B0, 2, none⟩), (by unfold insF upd; simp), ⟨hI.v1, hI.v2, hI.v3, hI.v4, hI.v6, (fun _ => rfl), hI.v10, hI.v11, hI.v12, hI.v14, hI.e0, hI.o5, hI.s7, hI.o8, hI.o13, hI.n5, hI.n8, hI.n7, hI.n13⟩, hsm⟩
      | 10, _ =>
        have u9 : x 9 = .pointer (some ⟨B0, 2, none⟩) := hI.v9 (hdep 9 (by kernel_rfl))
        refine wpOp_step rfl (fun K' hK => ?_)
        have HK := hidden hK
        clear hK
        unfold insF
        simp only [u9]
        go_simp
        exact HK.out _ _ ⟨.slice a2 k2 c2, (by unfold insF upd; simp [u9]), ⟨hI.v1, hI.v2, hI.v3, hI.v4, hI.v6, hI.v9, (fun _ => rfl), hI.v11, hI.v12, hI.v14, hI.e0, hI.o5, hI.s7, hI.o8, hI.o13, hI.n5, hI.n8, hI.n7, hI.n13⟩, hsm⟩
      | 11, _ =>
        refine wpOp_step rfl (fun K' hK => ?_)
        have HK := hidden hK
        clear hK
        unfold insF
        go_simp
        exact HK.out _ _ ⟨.int .i64 (cn : Int), (by unfold insF upd; simp), ⟨hI.v1, hI.v2, hI.v3, hI.v4, hI.v6, hI.v9, hI.v10, (fun _ => rfl), hI.v12, hI.v14, hI.e0, hI.o5, hI.s7, hI.o8, hI.o13, hI.n5, hI.n8, hI.n7, hI.n13⟩, hsm⟩
      | 12, _ =>
        have u10 : x 10 = .slice a2 k2 c2 := hI.v10 (hdep 10 (by kernel_rfl))
        have u11 : x 11 = .int .i64 (cn : Int) := hI.v11 (hdep 11 (by kernel_rfl))
        refine wpOp_step rfl (fun K' hK => ?_)
        have HK := hidden hK
        clear hK
        unfold insF
        simp only [u10, u11]
        go_simp
        exact HK.out _ _ ⟨.slice pt (k2 - cn) (c2 - cn), (by unfold insF upd; simp [u10, u11]), ⟨hI.v1, hI.v2, hI.v3, hI.v4, hI.v6, hI.v9, hI.v10, hI.v11, (fun _ => rfl), hI.v14, hI.e0, hI.o5, hI.s7, hI.o8, hI.o13, hI.n5, hI.n8, hI.n7, hI.n13⟩, hsm⟩
      | 14, _ =>
        refine wpOp_step rfl (fun K' hK => ?_)
        have HK := hidden hK
        clear hK
        unfold insF
        go_simp
        exact HK.out _ _ ⟨.pointer (some ⟨B2, 2, none⟩), (by unfold insF upd; simp), ⟨hI.v1, hI.v2, hI.v3, hI.v4, hI.v6, hI.v9, hI.v10, hI.v11, hI.v12, (fun _ => rfl), hI.e0, hI.o5, hI.s7, hI.o8, hI.o13, hI.n5, hI.n8, hI.n7, hI.n13⟩, hsm⟩
      | 0, _ =>
        refine wpOp_step rfl (fun K' hK => ?_)
        have HK := hidden hK
        clear hK
        unfold insF
        go_simp
        exact HK.out _ _ ⟨.slice (some ⟨W.heap.size, 0, none⟩) 0 0, (by unfold insF upd; simp), ⟨hI.v1, hI.v2, hI.v3, hI.v4, hI.v6, hI.v9, hI.v10, hI.v11, hI.v12, hI.v14, (fun _ _ => ⟨W.heap.size, rfl, hBW, blk_new _ _⟩), (fun h1 h2 => (hI.o5 h1 h2).same (same_alloc _ _)), (fun h1 h2 => (hI.s7 h1 h2).same (same_alloc _ _)), (fun h1 h2 => (hI.o8 h1 h2).same (same_alloc _ _)), (fun h1 => (hI.o13 h1).same (same_alloc _ _)), (fun _ => rfl), hI.n8, hI.n7, hI.n13⟩, hsm.alloc _⟩
      | 7, _ =>
        have u6 : x 6 = .string value := hI.v6 (hdep 6 (by kernel_rfl))
        refine wpOp_step rfl (fun K' hK => ?_)
        have HK := hidden hK
        clear hK
        unfold insF
        simp only [u6]
        go_simp
        exact HK.out _ _ ⟨.slice (some ⟨W.heap.size, 0, none⟩) 1 1, (by unfold insF upd; simp [u6]), ⟨hI.v1, hI.v2, hI.v3, hI.v4, hI.v6, hI.v9, hI.v10, hI.v11, hI.v12, hI.v14, (fun h1 h2 => (hI.e0 h1 h2).same (same_alloc _ _)), (fun h1 h2 => (hI.o5 h1 h2).same (same_alloc _ _)), (fun _ _ => ⟨W.heap.size, rfl, blk_new _ _⟩), (fun h1 h2 => (hI.o8 h1 h2).same (same_alloc _ _)), (fun h1 => (hI.o13 h1).same (same_alloc _ _)), hI.n5, hI.n8, (fun _ => rfl), hI.n13⟩, hsm.alloc _⟩
      | 5, _ =>
        have d0 := hdep 0 (by kernel_rfl)
        have u4 : x 4 = .slice ph cn c2 := hI.v4 (hdep 4 (by kernel_rfl))
        have m1 : Emp wS.heap.size 9 (x 0) W := hI.e0 d0 hdi
        refine wpOp_step rfl (fun K' hK => ?_)
        refine step_emp rfl _ _ 22 rfl wS.heap.size 9 i0 (.string ⟨#[]⟩) 16 Tryd.underlying22 hi hz0 hz1 hz2 rfl (x 0) rfl m1 _ cn _ (TS (n.vals.take cn)) u4 (RPH.out W hsm) (TS_one _) (by unfold maxLen; omega) (by omega) hBW ?_
        intro u W' hu
        obtain ⟨ua, uc, rfl, uo, _⟩ := hu.apd.out
        exact hK _ _ ⟨_, rfl, ⟨hI.v1, hI.v2, hI.v3, hI.v4, hI.v6, hI.v9, hI.v10, hI.v11, hI.v12, hI.v14, (fun _ h => absurd (show true = false from h) (by decide)), (fun _ _ => ⟨ua, uc, rfl, uo⟩), (fun h1 h2 => (hI.s7 h1 h2).same hu.same), (fun h1 h2 => (hI.o8 h1 h2).same hu.same), (fun h1 => (hI.o13 h1).same hu.same), (fun _ => d0), (fun _ => rfl), hI.n7, hI.n13⟩, hsm.trans hu.same⟩
      | 8, _ =>
        have d5 := hdep 5 (by kernel_rfl)
        have d7 := hdep 7 (by kernel_rfl)
        obtain ⟨pa, pc, hx5, po⟩ := (hI.o5 d5 hdi).form
        obtain ⟨sa, hx7, sl⟩ := (hI.s7 d7 hdi).lies
        refine wpOp_step rfl (fun K' hK => ?_)
        refine step_append_where rfl _ _ 22 rfl wS.heap.size 9 i0 (.string ⟨#[]⟩) 1 16 Tryd.underlying22 hi hz0 hz1 hz2 rfl (by decide) pa cn pc _ hx5 po sa 1 1 [.string value] hx7 rfl sl (by simp [Value.oneCell']) (by unfold maxLen; omega) (by omega) hBW ?_
        intro ua uc W' uo hg hw
        rw [show TS (n.vals.take cn) ++ [Value.string value] = TS (n.vals.take cn ++ [value]) by simp [TS]] at uo
        exact hK _ _ ⟨_, rfl, ⟨hI.v1, hI.v2, hI.v3, hI.v4, hI.v6, hI.v9, hI.v10, hI.v11, hI.v12, hI.v14, (fun _ h => by have h2 : d 5 = false := h; rw [d5] at h2; cases h2), (fun _ h => absurd (show true = false from h) (by decide)), (fun _ h => absurd (show true = false from h) (by decide)), (fun _ _ => ⟨ua, uc, rfl, uo⟩), (fun h => by have h2 := hI.n13 h; rw [hdi] at h2; cases h2), hI.n5, (fun _ => d5), (fun _ => d7), (fun _ => rfl)⟩, same_grown (m := 0) hsm po hg⟩
      | 13, _ =>
        have d8 := hdep 8 (by kernel_rfl)
        have d5 := hI.n8 d8
        obtain ⟨pa, pc, hx8, po⟩ := (hI.o8 d8 hdi).form
        have u12 : x 12 = .slice pt (k2 - cn) (c2 - cn) := hI.v12 (hdep 12 (by kernel_rfl))
        refine wpOp_step rfl (fun K' hK => ?_)
        refine step_append_where rfl _ _ 22 rfl wS.heap.size 9 i0 (.string ⟨#[]⟩) 1 16 Tryd.underlying22 hi hz0 hz1 hz2 rfl (by decide) pa (cn + 1) pc _ hx8 po _ (k2 - cn) _ (TS (n.vals.drop cn)) u12 (by rw [Nat.mul_one]; exact (RPT.out W hsm).len.1.symm) (RPT.out W hsm).lies (TS_one _) (by unfold maxLen; omega) (by omega) hBW ?_
        intro ua uc W' uo hg hw
        rw [ins_end] at uo
        have hln : cn + 1 + (k2 - cn) = k2 + 1 := by omega
        refine hK _ _ ⟨_, rfl, ⟨hI.v1, hI.v2, hI.v3, hI.v4, hI.v6, hI.v9, hI.v10, hI.v11, hI.v12, hI.v14, (fun _ h => by have h2 : d 5 = false := h; rw [d5] at h2; cases h2), (fun _ h => by have h2 : d 8 = false := h; rw [d8] at h2; cases h2), (fun _ h => by have h2 : d 8 = false := h; rw [d8] at h2; cases h2), (fun _ h => absurd (show true = false from h) (by decide)), (fun _ => ⟨ua, uc, by rw [← hln]; rfl, by rw [← hln]; exact uo⟩), hI.n5, hI.n8, hI.n7, (fun _ => d8)⟩, same_grown (m := 0) hsm po hg⟩
      | q + 15, h => exact absurd h (by omega)
    · intro d x W hsm hall hI
      have u14 : x 14 = .pointer (some ⟨B2, 2, none⟩) := hI.v14 (hall 14 (by decide))
      obtain ⟨va, vc, hx13, vo⟩ := (hI.o13 (hall 13 (by decide))).form
      have bl2 := blk_kept hsm (fun h => h) G2.out
      have sc : W.cell? ⟨B2, 2, none⟩ = some (.slice b2 k2 d2) := blk_cell bl2
      have sf : W.frozen? ⟨B2, 2, none⟩ = false := blk_free bl2
      have BL2 := hidden bl2
      clear bl2
      refine wpOp_step rfl (fun K' hK => ?_)
      have HK := hidden hK
      clear hK
      unfold insF
      simp only [u14, hx13]
      go_simp
      refine HK.out _ _ (KQ _ _ ?_)
      clear HK KQ hI sc sf hall
      have ks : Kept (only B2) W (W.setCell ⟨B2, 2, none⟩ (.slice va (k2 + 1) vc)) := (Kept.refl (only B2) W).setCell (p := ⟨B2, 2, none⟩) rfl _
      have g2 : (W.setCell ⟨B2, 2, none⟩ (.slice va (k2 + 1) vc)).heap[B2]? = some (.cells #[.bool true, .slice ra (k1 + 1) rc, .slice va (k2 + 1) vc, .slice b3 k3 d3] 25 (0, 0)) := blk_set BL2.out _
      have g0 := blk_kept ks (by show ¬ B0 = B2; omega) (blk_kept hsm (fun h => h) G0.out)
      have g1 := blk_kept ks (by show ¬ B0 + 1 = B2; omega) (blk_kept hsm (fun h => h) G1.out)
      have hsz : wS.heap.size ≤ W.heap.size := hsm.size
      have hse : (W.setCell ⟨B2, 2, none⟩ (.slice va (k2 + 1) vc)).heap.size = W.heap.size := by simp [World.setCell]
      have oN := own_kept vo ks (fun k hk hs => by have h1 := own_geN vo k hk; have h2 : k = B2 := hs; omega)
      have p_3 := own_kept O3.out hsm (fun _ _ h => h)
      have o_3 := own_kept p_3 ks (fun k hk hs => own_apart p_3 BL2.out (by decide) (by have e : k = B2 := hs; rw [← e]; exact hk))
      have p_1 := own_kept OK.out hsm (fun _ _ h => h)
      have o_1 := own_kept p_1 ks (fun k hk hs => own_apart p_1 BL2.out (by decide) (by have e : k = B2 := hs; rw [← e]; exact hk))
      have sm := (SM.out.trans hsm).setNew (p := ⟨B2, 2, none⟩) (by show w.heap.size ≤ B2; have := HB0.out; omega) (.slice va (k2 + 1) vc)
      have hap : ∀ k, (Value.slice ra (k1 + 1) rc).ownBlock = some k → (Value.slice va (k2 + 1) vc).ownBlock ≠ some k := fun k h1 h2 => by have h3 := own_ltN OK.out k h1; have h4 := own_geN vo k h2; omega
      generalize W.setCell ⟨B2, 2, none⟩ (.slice va (k2 + 1) vc) = wF at *
      have uc0 : wF.cell? ⟨B2, 0, none⟩ = some (.bool true) := blk_cell g2
      have uc1 : wF.cell? ⟨B2, 1, none⟩ = some (.slice ra (k1 + 1) rc) := blk_cell g2
      have uc2 : wF.cell? ⟨B2, 2, none⟩ = some (.slice va (k2 + 1) vc) := blk_cell g2
      have uc3 : wF.cell? ⟨B2, 3, none⟩ = some (.slice b3 k3 d3) := blk_cell g2
      have zc0 : wF.cell? ⟨B0 + 1, 0, none⟩ = some (.bool false) := blk_cell g1
      have zf0 : wF.frozen? ⟨B0 + 1, 0, none⟩ = false := blk_free g1
      have zc1 : wF.cell? ⟨B0 + 1, 1, none⟩ = some (.slice none 0 0) := blk_cell g1
      have zf1 : wF.frozen? ⟨B0 + 1, 1, none⟩ = false := blk_free g1
      have zc2 : wF.cell? ⟨B0 + 1, 2, none⟩ = some (.slice none 0 0) := blk_cell g1
      have zf2 : wF.frozen? ⟨B0 + 1, 2, none⟩ = false := blk_free g1
      have zc3 : wF.cell? ⟨B0 + 1, 3, none⟩ = some (.slice none 0 0) := blk_cell g1
      have zf3 : wF.frozen? ⟨B0 + 1, 3, none⟩ = false := blk_free g1
      have GF := hidden g1
      have KF := hidden sm
      have U1 := hidden o_1
      have U2 := hidden oN
      have U3 := hidden o_3
      have HAP := hidden hap
      clear g0 g1 g2 oN o_3 o_1 p_3 p_1 sm ks hse RPH RPT G0 G1 G2 OK O3 SM vo hsm BL2 hap RPH2 RPT2 hph hpt
      have HB3 := hidden hB3
      have HSS := hidden hS
      have HSZ := hidden hsz
      clear hB3 hS hsz
      go_wp2
      have gf := fill4 GF.out (.bool true) (.slice ra (k1 + 1) rc) (.slice va (k2 + 1) vc) (.slice b3 k3 d3)
      have kf := kept_fill4 (W := wF) (g := B0 + 1) (.bool true) (.slice ra (k1 + 1) rc) (.slice va (k2 + 1) vc) (.slice b3 k3 d3)
      have sf := same_fill4 KF.out (g := B0 + 1) (by have := HB0.out; omega) (.bool true) (.slice ra (k1 + 1) rc) (.slice va (k2 + 1) vc) (.slice b3 k3 d3)
      generalize ((((wF.setCell ⟨B0 + 1, 0, none⟩ (.bool true)).setCell ⟨B0 + 1, 1, none⟩ (.slice ra (k1 + 1) rc)).setCell ⟨B0 + 1, 2, none⟩ (.slice va (k2 + 1) vc)).setCell ⟨B0 + 1, 3, none⟩ (.slice b3 k3 d3)) = WF at gf kf sf ⊢
      have qc0 : WF.cell? ⟨B0 + 1, 0, none⟩ = some (.bool true) := blk_cell gf
      have qc1 : WF.cell? ⟨B0 + 1, 1, none⟩ = some (.slice ra (k1 + 1) rc) := blk_cell gf
      have qc2 : WF.cell? ⟨B0 + 1, 2, none⟩ = some (.slice va (k2 + 1) vc) := blk_cell gf
      have qc3 : WF.cell? ⟨B0 + 1, 3, none⟩ = some (.slice b3 k3 d3) := blk_cell gf
      refine bodyPost_ret (v := .tuple #[.agg #[.bool true, .slice ra (k1 + 1) rc, .slice va (k2 + 1) vc, .slice b3 k3 d3], .int .i64 0]) (by simp [results, Tryd.results23, go_sem, qc0, qc1, qc2, qc3]) rfl ⟨_, rfl, ⟨⟨.agg #[.bool true, .slice ra (k1 + 1) rc, .slice va (k2 + 1) vc, .slice b3 k3 d3], rfl, ?_, sf⟩⟩⟩
      have e1 := E1.out
      have e2 := E2.out
      have e3 := E3.out
      have hv12 := HV12.out
      have hb0 := HB0.out
      have hb3 := HB3.out
      have hss := HSS.out
      have hwb := HWB.out
      have l1 : (insL n.keys cn key).length = k1 + 1 := by simp [insL]; omega
      have l2 : (insL n.vals cn value).length = k2 + 1 := by simp [insL]; omega
      refine ⟨ra, va, b3, rc, vc, d3, by simp [l1, l2, e3], ?_, ?_, ?_, ?_⟩
      · show World.ownsRow WF w.heap.size 9 1 (.slice ra (insL n.keys cn key).length rc) (insL n.keys cn key).length (TS (insL n.keys cn key))
        rw [l1]
        exact own_mono (own_kept U1.out kf (fun k hk hs => by have h1 := own_geN U1.out k hk; have h2 : k = B0 + 1 := hs; omega)) (by omega)
      · show World.ownsRow WF w.heap.size 9 1 (.slice va (insL n.vals cn value).length vc) (insL n.vals cn value).length (TS (insL n.vals cn value))
        rw [l2]
        exact own_mono (own_kept U2.out kf (fun k hk hs => by have h1 := own_geN U2.out k hk; have h2 : k = B0 + 1 := hs; omega)) (by omega)
      · show World.ownsRow WF w.heap.size 3 1 (.slice b3 n.kids.length d3) n.kids.length (IS n.kids)
        rw [e3]
        exact own_mono (own_kept U3.out kf (fun k hk hs => own_apart U3.out GF.out (by decide) (by have h2 : k = B0 + 1 := hs; rw [← h2]; exact hk))) (by omega)
      · intro _ k hk
        have hk' : (Value.slice ra (k1 + 1) rc).ownBlock = some k := by rw [← l1]; exact hk
        have := HAP.out k hk'
        rw [← l2] at this
        exact this
end Go.Proofs.YtilnogadopmboaaDoor
