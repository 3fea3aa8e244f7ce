/-
  CutLengths (P5.1, P5.3), in its bounded form: whatever the shape, the bytes and 'most': the lengths of all pieces are the document's, what goes over them goes over these, they come to the bytes and lie between the bounds: the law's call returns true and leaves its arguments as they were.
  Conditions: the form's bound on all that is read; the library's two tables hold what its text lays (the card ties them).
-/
import Derived.Test.YtijellodifblkaaDoorL1
import Derived.Sort.QuietTacIn
namespace Go.Proofs.YtijellodifblkaaDoor
open Go.ChangeShapes Go.WideShapes Go.ChangeAt Go.RowKit Go.Joins Go.ChangeMaps Go.Shelf
set_option linter.unusedVariables false
attribute [local go_sem] Oper.semAt_some
theorem places_get : ∀ (t : List Nat) (a i : Nat), i < t.length → (places a t)[i]? = some (a + (t.take i).sum, t.getD i 0)
  | [], a, i, h => by simp at h
  | n :: t, a, 0, h => by simp [places]
  | n :: t, a, i + 1, h => by
    have := places_get t (a + n) i (by simpa using h)
    simp [places, this]
    omega
theorem take_sum : ∀ (t : List Nat) (i : Nat), i < t.length → (t.take (i + 1)).sum = (t.take i).sum + t.getD i 0
  | [], i, h => by simp at h
  | n :: t, 0, h => by simp
  | n :: t, i + 1, h => by
    have := take_sum t i (by simpa using h)
    simp only [List.take_succ_cons, List.sum_cons, List.getD_cons_succ]
    omega
theorem cut_mn (c : Shp) (hc : c.Ok) (l : List UInt8) (h : c.cut l < l.length) : c.mn ≤ c.cut l := by
  by_cases hf : l.length ≤ c.mn
  · have hg := c.grow_few hc l 0 0 (by omega)
    unfold Shp.cut at h
    rw [hg] at h
    simp at h
  · have hg := c.grow_skip hc c.mn l 0 0 (by omega) (by omega)
    unfold Shp.cut
    rw [hg]
    simp
theorem lens_bounds (c : Shp) (hc : c.Ok) : ∀ (n : Nat) (l : List UInt8), l.length ≤ n → ∀ j, j < (c.lens l).length → (c.lens l).getD j 0 ≤ c.mx ∧ (j + 1 < (c.lens l).length → c.mn ≤ (c.lens l).getD j 0)
  | 0, l, h => by
    obtain rfl : l = [] := List.eq_nil_of_length_eq_zero (by omega)
    rw [Shp.lens_nil]
    simp
  | n + 1, l, h => by
    by_cases hl : l = []
    · subst hl
      rw [Shp.lens_nil]
      simp
    · have hcp := c.cut_pos hc hl
      have hcm := c.cut_mx l
      rw [c.lens_cons hc hl]
      intro j hj
      cases j with
      | zero =>
        refine ⟨by simpa using hcm, fun h2 => ?_⟩
        have h3 : 0 < (c.lens (l.drop (c.cut l))).length := by simpa using h2
        have h4 := c.lens_len hc _ (l.drop (c.cut l)) (Nat.le_refl _)
        rw [List.length_drop] at h4
        simpa using cut_mn c hc l (by omega)
      | succ j =>
        have := lens_bounds c hc n (l.drop (c.cut l)) (by rw [List.length_drop]; omega) j (by simpa using hj)
        simpa using this
theorem one_defer_cell {W : World} {bR D : Nat} {v : Value} (c : W.cell? ⟨bR, 0, none⟩ = some v) (h1 : bR ≠ D) : (W.putObj D (.deferred none)).cell? ⟨bR, 0, none⟩ = some v :=
  Kept.cell (kept_putObj (S := fun k => k = D) _ D _ rfl) (by simp; omega) c
theorem take_le (t : List Nat) (i : Nat) : (t.take i).sum ≤ t.sum := by
  have h : t.sum = (t.take i).sum + (t.drop i).sum := by rw [← List.sum_append, List.take_append_drop]
  omega
theorem pf_iffN {pre l : List (Nat × Nat)} {i : Nat} {x e : Nat × Nat} (hp : pre <+: l) (hl : pre.length = i) (he : l[i]? = some e) : (pre ++ [x]) <+: l ↔ x = e := by
  obtain ⟨q, rfl⟩ := hp
  rw [List.prefix_append_right_inj]
  rw [List.getElem?_append_right (by omega)] at he
  have e0 : i - pre.length = 0 := by omega
  rw [e0] at he
  rcases q with _ | ⟨c, q⟩
  · simp at he
  · simp at he
    subst he
    simp [List.cons_prefix_cons]
/-- What stands in a round over the pieces: where the next begins, and how many there were. -/
structure LI (w4 : World) (L : List Nat) (pre : List (Nat × Nat)) (X : World) : Prop where
  bel : Below w4.heap.size w4 X
  ab : X.heap[w4.heap.size]? = some (.cells #[.int .i64 ((L.take pre.length).sum : Nat)] 3 (0, 0))
  ib : X.heap[w4.heap.size + 1]? = some (.cells #[.int .i64 (pre.length : Nat)] 3 (0, 0))
  pf : pre <+: places 0 L
theorem LI.own {w4 : World} {L : List Nat} {N : Nat} (h1 : w4.heap.size + 1 < N) : OwnFrom N (LI w4 L) := fun pre A B row hs hg hr =>
  ⟨hs.bel.grown hg hs.bel.size (fun k e => by have := (hr k e).1; omega), (hg.block _ (blk_lt hs.ab) (fun e => by have := (hr _ e.symm).1; omega)).trans hs.ab, (hg.block _ (blk_lt hs.ib) (fun e => by have := (hr _ e.symm).1; omega)).trans hs.ib, hs.pf⟩
theorem keepsFrom_two {B b : Nat} {W W' : World} (k : Kept (fun j => j = b ∨ j = b + 1) W W') (hb : b + 1 < B) : KeepsFrom B W W' :=
  ⟨k.size, fun i o hB hi _ => (k.block i (Array.getElem?_eq_some_iff.1 hi).1 (by omega)).trans hi⟩
theorem keepsFrom_one {B b : Nat} {W W' : World} (k : Kept (fun j => j = b) W W') (hb : b < B) : KeepsFrom B W W' :=
  ⟨k.size, fun i o hB hi _ => (k.block i (Array.getElem?_eq_some_iff.1 hi).1 (by omega)).trans hi⟩
set_option maxHeartbeats 4000000 in
set_option maxRecDepth 100000 in
theorem lengths_law_yes (c : Shp) (hc : c.Ok) (v : Value) (l : List UInt8) (most : Int) (w : World)
    (hb : Byt w v l) (hl : l.length ≤ 1048576) (hT : Tab w) :
    Calls Tryd.prog 3 #[.agg #[.int .i64 c.mn, .int .i64 c.no, .int .i64 c.mx, .int .u64 c.seed], v, .int .i64 most] w fun e w' => e = .returned (.bool true) ∧ Same w w' := by
  obtain ⟨a, cap, rfl, hcap, hcell⟩ := hb.form
  have HLv := hidden (fun W (k : Same w W) => (callsIn_wide (n := 5)).2 (lives_any W (hT.same k)))
  have HLn := hidden (fun W (k : Same w W) => (callsIn_wide (n := 5)).2 (lengths_yes c hc (hT.same k) (hb.same k) (by omega)))
  have HRn := hidden (fun W (k : Same w W) => (callsIn_wide (n := 5)).2 (refLengths_yes c hc (hb.same k) (by omega)))
  have HSm := hidden (fun u1 u2 W (h1 : Cells W u1 (c.lens l)) (h2 : Cells W u2 (c.lens l)) => (callsIn_wide (n := 5)).2 (sameInts_any u1 u2 (c.lens l) W h1 h2 (by have := c.lens_len hc l.length l (Nat.le_refl _); omega)))
  have HCu := hidden (fun W (k : Same w W) => (callsIn_wide (n := 5)).2 (cuts_yes c hc _ l W (hb.same k) (by omega)))
  have hll := c.lens_len hc l.length l (Nat.le_refl _)
  have hsm := lens_sum c hc l.length l (Nat.le_refl _)
  have hbd := lens_bounds c hc l.length l (Nat.le_refl _)
  have hmn0 := hc.mx_le
  have hmn2 := hc.mn2
  have hmx1 := hc.mx1
  have HC := hidden hc
  have HT := hidden hT
  generalize hLE : c.lens l = L at *
  have HLE := hidden hLE
  have HSU := hidden hsm
  have HBD := hidden hbd
  clear hLE hsm hbd
  clear hcell hb hc hT
  refine (callsIn_wide (n := 6)).1 ?_
  refine callsIn_of_wp_marks Tryd.func3 rfl trivial ?_ rfl
  simp only [Tryd.ntmps3, List.size_toArray, List.length_cons, List.length_nil, Nat.reduceAdd, Nat.reduceSub, Array.replicate_succ, Array.replicate_zero, List.push_toArray, List.append_toArray, List.nil_append, List.cons_append]
  obtain ⟨W0, hW0⟩ : ∃ W0, W0 = ((w.alloc (.cells #[.int .i64 c.mn, .int .i64 c.no, .int .i64 c.mx, .int .u64 c.seed] 24)).alloc (.cells #[.int .i64 most] 3)).alloc (.cells #[.bool false] 4) := ⟨_, rfl⟩
  have K0 : Hid (Same w W0) := hidden (by rw [hW0]; exact ((same_alloc _ _).alloc _).alloc _)
  have hs0 : Hid (W0.heap.size = w.heap.size + 3) := hidden (by rw [hW0]; simp)
  have X0 : Hid (∀ W, Same W0 W → W.cell? ⟨w.heap.size, 0, none⟩ = some (.int .i64 c.mn) ∧ W.cell? ⟨w.heap.size, 1, none⟩ = some (.int .i64 c.no) ∧ W.cell? ⟨w.heap.size, 2, none⟩ = some (.int .i64 c.mx) ∧ W.cell? ⟨w.heap.size, 3, none⟩ = some (.int .u64 c.seed) ∧ Boxed W (w.heap.size + 1) 3 (.int .i64 most) ∧ Boxed W (w.heap.size + 1 + 1) 4 (.bool false)) := hidden (by
    intro W k
    have bC := blk_alloc (blk_alloc (blk_new w (.cells #[.int .i64 c.mn, .int .i64 c.no, .int .i64 c.mx, .int .u64 c.seed] 24)) (.cells #[.int .i64 most] 3)) (.cells #[.bool false] 4)
    have bM := (Boxed.new (w.alloc (.cells #[.int .i64 c.mn, .int .i64 c.no, .int .i64 c.mx, .int .u64 c.seed] 24)) 3 (.int .i64 most)).alloc (.cells #[.bool false] 4)
    have bF := Boxed.new ((w.alloc (.cells #[.int .i64 c.mn, .int .i64 c.no, .int .i64 c.mx, .int .u64 c.seed] 24)).alloc (.cells #[.int .i64 most] 3)) 4 (.bool false)
    simp only [World.size_alloc] at bC bM bF
    rw [← hW0] at bC bM bF
    have b' := blk_kept k (fun h => h) bC
    exact ⟨blk_cell b', blk_cell b', blk_cell b', blk_cell b', blk_kept k (fun h => h) bM, blk_kept k (fun h => h) bF⟩)
  have HW0 := hidden hW0
  clear hW0
  gi_wp2_with (first
    | (refine ⟨trivial, ?_⟩; gi_at_call 6; rw [← HW0.out]; refine (HLv.out _ K0.out).mono ?_; rintro e w1 ⟨rfl, k1⟩; have K1 := hidden k1; obtain ⟨b0, b1, b2, b3, -, -⟩ := X0.out _ k1; clear k1)
    | (refine ⟨trivial, ?_⟩; gi_at_call 7; refine (HLn.out _ (Kept.trans K0.out K1.out)).mono ?_; rintro e w2 ⟨u2, rfl, i2, k2⟩; obtain ⟨x2, y2, rfl, hy2, -⟩ := i2.ncs; have K2 := hidden (Kept.trans K1.out k2); have I2 := hidden i2; clear i2 k2; obtain ⟨d0, d1, d2, d3, -, -⟩ := X0.out _ K2.out)
    | (refine ⟨trivial, ?_⟩; gi_at_call 8; refine (HRn.out _ (Kept.trans K0.out K2.out)).mono ?_; rintro e w3 ⟨u3, rfl, i3, k3⟩; obtain ⟨x3, y3, rfl, hy3, -⟩ := i3.ncs; have K3 := hidden (Kept.trans K2.out k3); have I3 := hidden i3; have K23 := hidden k3; clear i3 k3; obtain ⟨e0, e1, e2, e3, -, -⟩ := X0.out _ K3.out)
    | (refine ⟨trivial, ?_⟩; gi_at_call 9; refine (HSm.out _ _ _ (I2.out.cells.same (K23.out.alloc _)) (I3.out.cells.same (same_alloc _ _))).mono ?_; rintro e w4 ⟨rfl, k4⟩; have K4 := hidden (Kept.trans (K3.out.alloc _) k4); have BM := hidden (blk_kept k4 (fun h => h) (Boxed.new w3 27 (.slice x3 L.length y3))); have hs4 : w3.heap.size < w4.heap.size := (by have := k4.size; simp at this; omega); have K34 := hidden (Kept.trans (same_alloc w3 _) k4); clear k4; clear b0 b1 b2 b3 d0 d1 d2 d3 e0 e1 e2 e3; obtain ⟨f0, f1, f2, f3, -, -⟩ := X0.out _ ((K4.out.alloc (.cells #[.int .i64 0] 3)).alloc (.cells #[.int .i64 0] 3)))
    | (refine ⟨trivial, ?_⟩; gi_at_call 10; refine (HCu.out _ (Kept.trans K0.out ((K4.out.alloc _).alloc _))).mono ?_; rintro e w5 ⟨u5, G, a5, c5, rfl, P5, k5⟩; obtain rfl := P5.is; clear f0 f1 f2 f3))
  obtain ⟨H, hH⟩ : ∃ H, H = w4.heap.size := ⟨_, rfl⟩
  have hG0 := P5.ge
  have hsz := P5.sz
  simp only [World.size_alloc] at hG0
  have SD4 := hidden ((same_alloc w4 (.cells #[.int .i64 0] 3)).alloc (.cells #[.int .i64 0] 3))
  have BA := hidden (blk_kept k5 (fun h => h) ((Boxed.new w4 3 (.int .i64 0)).alloc (.cells #[.int .i64 0] 3)))
  have BI := hidden (blk_kept k5 (fun h => h) (Boxed.new (w4.alloc (.cells #[.int .i64 0] 3)) 3 (.int .i64 0)))
  have K45 := hidden (Kept.trans SD4.out k5)
  have hTl := HT.out.lt
  have hw4 : w.heap.size + 3 ≤ w4.heap.size := by have h1 := K4.out.size; have h2 := hs0.out; omega
  have hrun := pieces_stops 5 (by decide) c HC.out a5 c5 l P5.room (G + 1) G (fun k => k = w4.heap.size ∨ k = w4.heap.size + 1 ∨ w5.heap.size ≤ k) w5 (by omega) (by omega) (by omega) (by omega) P5.row P5.c0 P5.c1 P5.c2 P5.c3
    (fun hp => by
      obtain ⟨b, off, e, hbb, hce⟩ := P5.at' hp
      simp only [World.size_alloc] at hbb
      exact ⟨b, off, e, by omega, hce⟩)
    (HT.out.same (Kept.trans (Kept.trans K0.out K4.out) K45.out))
  rw [HLE.out] at hrun
  have HB0 : Hid (LI w4 L [] w5) := hidden ⟨K45.out.below (Nat.le_refl _) fun _ h => h.elim, BA.out, by have := BI.out; rw [World.size_alloc] at this; exact this, List.nil_prefix⟩
  clear P5 k5 SD4 BA BI hTl
  refine wpIn_rangeFunc_ownG rfl (by decide) (gf := 29) (lb := #[.pointer (some ⟨G + 1, 0, none⟩), .pointer (some ⟨G, 0, none⟩)]) rfl trivial (enters_of Tryd.func29 (by kernel_rfl) rfl)
    hrun (fun h k => h.trans k) (fun W l o o' hl _ _ _ => kept_putObj W l o' (Or.inr (Or.inr hl))) (Below.refl _ _) (fun _ => rfl)
    (LI w4 L)
    (fun cd pre X => (cd = .ret ∧ ¬ pre <+: places 0 L) ∨ (cd = .exit 0 ∧ ∃ p0, most ≤ (p0.length : Int) ∧ LI w4 L p0 X))
    (LI.own (by omega))
    (fun cd pre A B row hs hg hr => hs.imp id (fun ⟨e, p0, h1, h2⟩ => ⟨e, p0, h1, LI.own (by omega) p0 A B row h2 hg hr⟩))
    HB0.out
    (fun x => { tmps := #[.agg #[.int .i64 c.mn, .int .i64 c.no, .int .i64 c.mx, .int .u64 c.seed], .slice a l.length cap, .int .i64 most, .pointer (some ⟨w.heap.size, 0, none⟩), undef, .pointer (some ⟨w.heap.size + 1, 0, none⟩), .pointer (some ⟨w.heap.size + 1 + 1, 0, none⟩), .slice x2 L.length y2, .int .i64 0, .pointer (some ⟨w3.heap.size, 0, none⟩), .int .i64 0, .pointer (some ⟨w4.heap.size, 0, none⟩), .pointer (some ⟨w4.heap.size + 1, 0, none⟩), .int .i64 x.1, .int .i64 x.2, undef, undef, .bool true, .bool false, .tuple #[.slice x2 L.length y2, .int .i64 0], .agg #[.int .i64 c.mn, .int .i64 c.no, .int .i64 c.mx, .int .u64 c.seed], .slice a l.length cap, .tuple #[.slice x2 L.length y2, .int .i64 0], .slice x2 L.length y2, .int .i64 0, .tuple #[.slice x3 L.length y3, .int .i64 0], .agg #[.int .i64 c.mn, .int .i64 c.no, .int .i64 c.mx, .int .u64 c.seed], .slice a l.length cap, .tuple #[.slice x3 L.length y3, .int .i64 0], .slice x3 L.length y3, .int .i64 0, .int .i64 0, .int .i64 0, .bool false, .bool false, .slice x2 L.length y2, .slice x3 L.length y3, .bool true, .bool false, .bool false, .agg #[.int .i64 c.mn, .int .i64 c.no, .int .i64 c.mx, .int .u64 c.seed], .slice a l.length cap, .func (.func 29) #[] #[.pointer (some ⟨G + 1, 0, none⟩), .pointer (some ⟨G, 0, none⟩)], .int .i64 x.1, .int .i64 x.2, undef, undef, undef, undef, undef, undef, undef, undef, undef, undef, undef, undef, undef, undef, undef, undef, undef, undef, undef, undef, undef, undef, undef, undef, undef, undef, undef, undef, undef, undef, undef, undef, undef, undef, undef, undef, undef, undef, undef, undef, undef, undef, undef, undef, undef, undef, undef, undef, undef, undef, undef, undef, undef, undef, undef, undef, undef, undef, undef, undef, undef, undef, undef, undef, undef, undef, undef, undef, undef, undef, undef, undef, undef, undef, undef, undef, undef, undef, undef, undef, undef, undef, undef, undef], defers := [] }) ?assign ?body ?done ?stop
  case assign =>
    intro l x W K hK
    gi_wp2
    exact hK
  case body =>
    rintro lp pre ⟨xf, xn⟩ W hG hlt
    obtain ⟨i, hi⟩ : ∃ i, pre.length = i := ⟨_, rfl⟩
    have gib := hG.ib
    have gab := hG.ab
    have hpg := places_get L 0 i (by omega)
    rw [Nat.zero_add] at hpg
    have PFX : Hid ((pre ++ [(xf, xn)]) <+: places 0 L ↔ (xf, xn) = ((L.take i).sum, L.getD i 0)) := pf_iffN hG.pf hi hpg
    have hs1 := take_sum L i (by omega)
    have hs2 := take_le L (i + 1)
    have hs3 := HSU.out.1
    rw [hi] at gib gab hlt
    have HG := hidden hG
    have k4W := same_of_below hG.bel
    obtain ⟨-, -, -, -, bm, br⟩ := X0.out _ (Kept.trans K4.out k4W)
    have z1 : W.cell? ⟨w.heap.size + 1, 0, none⟩ = some (.int .i64 most) := bm.cell
    have z2 : W.cell? ⟨w.heap.size + 1 + 1, 0, none⟩ = some (.bool false) := br.cell
    have z3 : W.frozen? ⟨w.heap.size + 1 + 1, 0, none⟩ = false := blk_free br
    have z4 : W.cell? ⟨w4.heap.size + 1, 0, none⟩ = some (.int .i64 i) := blk_cell gib
    have z5 : W.frozen? ⟨w4.heap.size + 1, 0, none⟩ = false := blk_free gib
    have z6 : W.cell? ⟨w4.heap.size, 0, none⟩ = some (.int .i64 ((L.take i).sum : Nat)) := blk_cell gab
    have z7 : W.frozen? ⟨w4.heap.size, 0, none⟩ = false := blk_free gab
    have z8 : W.cell? ⟨w3.heap.size, 0, none⟩ = some (.slice x3 L.length y3) := blk_cell (blk_kept k4W (fun h => h) BM.out)
    obtain ⟨b3, o3, rfl, z9⟩ := ((I3.out.ncs).same (Kept.trans K34.out k4W)).at (i := i) hlt
    have HI := hidden hi
    have GIB := hidden gib
    have GAB := hidden gab
    have HK4 := hidden k4W
    have HS1 := hidden hs1
    have hq1 : (L.take i).sum ≤ 1048576 := by omega
    have hq2 : L.getD i 0 ≤ 1048576 := by omega
    have q1 : ¬ (L.length : Int) ≤ (i : Int) := by omega
    have q2 : (i : Int) < (L.length : Int) := by omega
    have q3 : (0 : Int) ≤ (i : Int) := Int.natCast_nonneg _
    have qi : i ≤ 1048576 := by omega
    clear hi hpg hG gib gab k4W bm br hs1 hs2 hs3
    generalize (L.take i).sum = at0 at *
    generalize L.getD i 0 = e0 at *
    by_cases hm : most ≤ (i : Int)
    · have HM := hidden hm
      gi_wp2
      exact ⟨KeepsFrom.refl _ _, .inr ⟨rfl, pre, by rw [HI.out]; exact HM.out, HG.out⟩⟩
    · by_cases hx : xf = at0
      · subst hx
        by_cases hn : xn = e0
        · subst hn
          have PF : Hid ((pre ++ [(xf, xn)]) <+: places 0 L) := PFX.out.2 rfl
          have KA : Hid (Kept (fun j => j = w4.heap.size ∨ j = w4.heap.size + 1) W (W.setCell ⟨w4.heap.size, 0, none⟩ (.int .i64 ((xf : Int) + (xn : Int))))) := (Kept.refl (fun k => k = w4.heap.size ∨ k = w4.heap.size + 1) W).setCell (p := ⟨w4.heap.size, 0, none⟩) (Or.inl rfl) _
          have KA1 := (Kept.refl (fun k => k = w4.heap.size) W).setCell (p := ⟨w4.heap.size, 0, none⟩) rfl (.int .i64 ((xf : Int) + (xn : Int)))
          have b2 := blk_kept KA1 (show ¬ w4.heap.size + 1 = w4.heap.size by omega) GIB.out
          have zz : (W.setCell ⟨w4.heap.size, 0, none⟩ (.int .i64 ((xf : Int) + (xn : Int)))).cell? ⟨w4.heap.size + 1, 0, none⟩ = some (.int .i64 i) := blk_cell b2
          have zf : (W.setCell ⟨w4.heap.size, 0, none⟩ (.int .i64 ((xf : Int) + (xn : Int)))).frozen? ⟨w4.heap.size + 1, 0, none⟩ = false := blk_free b2
          have KI : Hid (Kept (fun j => j = w4.heap.size ∨ j = w4.heap.size + 1) W ((W.setCell ⟨w4.heap.size, 0, none⟩ (.int .i64 ((xf : Int) + (xn : Int)))).setCell ⟨w4.heap.size + 1, 0, none⟩ (.int .i64 ((i : Int) + 1)))) := KA.out.setCell (p := ⟨w4.heap.size + 1, 0, none⟩) (Or.inr rfl) _
          have KI2 := (Kept.refl (fun k => k = w4.heap.size + 1) (W.setCell ⟨w4.heap.size, 0, none⟩ (.int .i64 ((xf : Int) + (xn : Int))))).setCell (p := ⟨w4.heap.size + 1, 0, none⟩) rfl (.int .i64 ((i : Int) + 1))
          have NG : Hid (LI w4 L (pre ++ [(xf, xn)]) ((W.setCell ⟨w4.heap.size, 0, none⟩ (.int .i64 ((xf : Int) + (xn : Int)))).setCell ⟨w4.heap.size + 1, 0, none⟩ (.int .i64 ((i : Int) + 1)))) :=
            ⟨HG.out.bel.trans (KI.out.below HG.out.bel.size fun k hk => by omega),
              by
                have h3 := blk_kept KI2 (show ¬ w4.heap.size = w4.heap.size + 1 by omega) (blk_set (j := 0) GAB.out (.int .i64 ((xf : Int) + (xn : Int))))
                rw [List.length_append, HI.out, List.length_singleton, HS1.out]
                exact h3,
              by
                have h3 := blk_set (j := 0) b2 (.int .i64 ((i : Int) + 1))
                rw [List.length_append, HI.out, List.length_singleton]
                exact h3, PF.out⟩
          have e1 : ((xf : Int) == (xf : Int)) = true := by simp
          have e2 : ((xn : Int) == (xn : Int)) = true := by simp
          clear KA1 KI2 b2
          gi_wp2
          exact ⟨keepsFrom_two KI.out (by omega), KI.out.mono (fun j _ e => by rcases e with e | e; exact Or.inl e; exact Or.inr (Or.inl e)), NG.out⟩
        · have NPF : Hid (¬ (pre ++ [(xf, xn)]) <+: places 0 L) := fun h => hn (by have := PFX.out.1 h; simp at this; exact this)
          have e1 : ((xn : Int) == (e0 : Int)) = false := by rw [beq_eq_false_iff_ne]; omega
          gi_wp2
          exact ⟨keepsFrom_one ((Kept.refl (fun k => k = w.heap.size + 1 + 1) W).setCell (p := ⟨w.heap.size + 1 + 1, 0, none⟩) rfl _) (by omega), .inl ⟨rfl, NPF.out⟩⟩
      · have NPF : Hid (¬ (pre ++ [(xf, xn)]) <+: places 0 L) := fun h => hx (by have := PFX.out.1 h; simp at this; exact this.1)
        have e1 : ((xf : Int) == (at0 : Int)) = false := by rw [beq_eq_false_iff_ne]; omega
        gi_wp2
        exact ⟨keepsFrom_one ((Kept.refl (fun k => k = w.heap.size + 1 + 1) W).setCell (p := ⟨w.heap.size + 1 + 1, 0, none⟩) rfl _) (by omega), .inl ⟨rfl, NPF.out⟩⟩
  case done =>
    rintro D ys W hD hys hG hKD
    have hln : ys.length = L.length := by rw [hys, places_len]
    have gib := hG.ib
    rw [hln] at gib
    have k4W := same_of_below hG.bel
    obtain ⟨y0, y1, y2', y3', bm, br⟩ := X0.out _ (Kept.trans K4.out k4W)
    have z1 : W.cell? ⟨w.heap.size + 1, 0, none⟩ = some (.int .i64 most) := bm.cell
    have z4 : W.cell? ⟨w4.heap.size + 1, 0, none⟩ = some (.int .i64 (L.length : Nat)) := blk_cell gib
    have z8 : W.cell? ⟨w3.heap.size, 0, none⟩ = some (.slice x3 L.length y3) := blk_cell (blk_kept k4W (fun h => h) BM.out)
    have NC := hidden ((I2.out.ncs).same (Kept.trans K23.out (Kept.trans K34.out k4W)))
    have HK4 := hidden k4W
    have HKD := hidden hKD
    have HBR := hidden br
    clear hys hln gib hG hKD k4W bm br
    gi_wp2
    all_goals
      gi_loopw [15, 16] (fun s k wr => ∃ j : Nat, j ≤ L.length ∧ s = .int .i64 ((L.take j).sum : Nat) ∧ k = .int .i64 j ∧ Same W wr) (fun _ k _ => L.length - (intOf k).toNat)
      case atStart => exact ⟨0, Nat.zero_le _, rfl, rfl, Kept.refl _ _⟩
      case round =>
        obtain ⟨j, hj, rfl, rfl, hS⟩ := hrel
        have HS := hidden hS
        by_cases hlt : j < L.length
        · obtain ⟨b2, o2, rfl, z9⟩ := (NC.out.same hS).at (i := j) hlt
          have c0 : wr.cell? ⟨w.heap.size, 0, none⟩ = some (.int .i64 c.mn) := hS.cell (p := ⟨w.heap.size, 0, none⟩) (fun h => h) y0
          have c2 : wr.cell? ⟨w.heap.size, 2, none⟩ = some (.int .i64 c.mx) := hS.cell (p := ⟨w.heap.size, 2, none⟩) (fun h => h) y2'
          have hb1 := HBD.out j hlt
          have hb0 : 1 ≤ L.getD j 0 := HSU.out.2 _ (by simp [hlt])
          have hs1 := take_sum L j hlt
          have hs2 := take_le L (j + 1)
          have hs3 := HSU.out.1
          have HS1 := hidden hs1
          have hq1 : (L.take j).sum ≤ 1048576 := by omega
          have hq2 : L.getD j 0 ≤ 1048576 := by omega
          clear hs1 hs2 hs3 hS
          generalize (L.take j).sum = s0 at *
          generalize L.getD j 0 = e0 at *
          have k1 : (0 : Int) ≤ (j : Int) := by omega
          have k2 : (j : Int) < (L.length : Int) := by omega
          have k3 : ¬ (e0 : Int) < 1 := by omega
          have k4 : ¬ (c.mx : Int) < (e0 : Int) := by omega
          have kw : IntKind.i64.wrap ((L.length : Int) - 1) = (L.length : Int) - 1 := by
            first
              | exact IntWalk.wrap64_in _ ⟨by omega, by omega⟩
              | (simp [IntKind.wrap, IntKind.signed, IntKind.bits]; omega)
              | (unfold IntKind.wrap; simp [IntKind.signed, IntKind.bits]; omega)
          have k3n : ¬ e0 < 1 := by omega
          have k3z : ¬ e0 = 0 := by omega
          have k4n : ¬ c.mx < e0 := by omega
          by_cases hj2 : j + 1 < L.length
          · have k5 : (j : Int) < (L.length : Int) - 1 := by omega
            have k6 : ¬ (e0 : Int) < (c.mn : Int) := by have := hb1.2 hj2; omega
            have k6n : ¬ e0 < c.mn := by omega
            clear hb1
            gi_wp2
            gi_quiet_th (fail)
            gi_wp2
            go_roundw
            case rel => exact ⟨j + 1, by omega, by rw [HS1.out]; go_num, by go_num, HS.out.drewN _⟩
            case measure => simp [intOf]; omega
          · have k5 : ¬ (j : Int) < (L.length : Int) - 1 := by omega
            have k5b : (L.length : Int) - 1 ≤ (j : Int) := by omega
            have kd : decide ((j : Int) < (L.length : Int) - 1) = false := decide_eq_false k5
            clear hb1
            gi_wp2
            gi_quiet_th (fail)
            gi_wp2
            go_roundw
            case rel => exact ⟨j + 1, by omega, by rw [HS1.out]; go_num, by go_num, HS.out.drewN _⟩
            case measure => simp [intOf]; omega
        · obtain rfl : j = L.length := by omega
          have hsum : (L.take L.length).sum = l.length := by rw [List.take_length]; exact HSU.out.1
          rw [hsum]
          have br2 := blk_kept hS (fun h => h) HBR.out
          have zf : wr.frozen? ⟨w.heap.size + 1 + 1, 0, none⟩ = false := blk_free br2
          have hD2 := blk_kept hS (fun h => h) HKD.out
          have BR2 := hidden br2
          have HD2 := hidden hD2
          have zc : wr.cell? ⟨w.heap.size + 1 + 1, 0, none⟩ = some (.bool false) := blk_cell br2
          have E3 : Hid ((wr.setCell ⟨w.heap.size + 1 + 1, 0, none⟩ (.bool true)).heap[D]? = some (.deferred (some []))) := blk_kept ((Kept.refl (fun k => k = w.heap.size + 1 + 1) wr).setCell (p := ⟨w.heap.size + 1 + 1, 0, none⟩) rfl _) (by show ¬ D = w.heap.size + 1 + 1; omega) hD2
          have c9 : Hid (((wr.setCell ⟨w.heap.size + 1 + 1, 0, none⟩ (.bool true)).putObj D (.deferred none)).cell? ⟨w.heap.size + 1 + 1, 0, none⟩ = some (.bool true)) := one_defer_cell (blk_cell (blk_set (j := 0) br2 (.bool true))) (by omega)
          clear hS hsum br2 hD2
          gi_wp2
          refine ⟨by simp, .inl ⟨_, _, rfl, run_takeDeferred E3.out, ?_⟩⟩
          have c9' := c9.out
          refine ⟨_, by simp [results, Tryd.results3, go_sem, c9'], rfl, ?_⟩
          exact Kept.trans' (Kept.trans K0.out (Kept.trans K4.out (Kept.trans HK4.out HS.out))) (((Kept.refl (fun k => w.heap.size ≤ k) wr).setCell (p := ⟨w.heap.size + 1 + 1, 0, none⟩) (by show w.heap.size ≤ w.heap.size + 1 + 1; omega) _).trans (kept_putObj _ D _ (by omega))) (fun k hk h => by omega)
  case stop =>
    rintro D cd pre W hD hp h hKD
    rcases h with ⟨_, h⟩ | ⟨rfl, p0, hm, hG⟩
    · exact absurd hp h
    have gib := hG.ib
    have k4W := same_of_below hG.bel
    obtain ⟨y0, y1, y2', y3', bm, br⟩ := X0.out _ (Kept.trans K4.out k4W)
    have z1 : W.cell? ⟨w.heap.size + 1, 0, none⟩ = some (.int .i64 most) := bm.cell
    have z4 : W.cell? ⟨w4.heap.size + 1, 0, none⟩ = some (.int .i64 (p0.length : Nat)) := blk_cell gib
    have z8 : W.cell? ⟨w3.heap.size, 0, none⟩ = some (.slice x3 L.length y3) := blk_cell (blk_kept k4W (fun h => h) BM.out)
    have NC := hidden ((I2.out.ncs).same (Kept.trans K23.out (Kept.trans K34.out k4W)))
    have HK4 := hidden k4W
    have HKD := hidden hKD
    have HBR := hidden br
    have hm2 : ¬ (p0.length : Int) < most := by omega
    clear gib hG hKD k4W bm br hp hm
    gi_wp2
    all_goals
      gi_loopw [15, 16] (fun s k wr => ∃ j : Nat, j ≤ L.length ∧ s = .int .i64 ((L.take j).sum : Nat) ∧ k = .int .i64 j ∧ Same W wr) (fun _ k _ => L.length - (intOf k).toNat)
      case atStart => exact ⟨0, Nat.zero_le _, rfl, rfl, Kept.refl _ _⟩
      case round =>
        obtain ⟨j, hj, rfl, rfl, hS⟩ := hrel
        have HS := hidden hS
        by_cases hlt : j < L.length
        · obtain ⟨b2, o2, rfl, z9⟩ := (NC.out.same hS).at (i := j) hlt
          have c0 : wr.cell? ⟨w.heap.size, 0, none⟩ = some (.int .i64 c.mn) := hS.cell (p := ⟨w.heap.size, 0, none⟩) (fun h => h) y0
          have c2 : wr.cell? ⟨w.heap.size, 2, none⟩ = some (.int .i64 c.mx) := hS.cell (p := ⟨w.heap.size, 2, none⟩) (fun h => h) y2'
          have hb1 := HBD.out j hlt
          have hb0 : 1 ≤ L.getD j 0 := HSU.out.2 _ (by simp [hlt])
          have hs1 := take_sum L j hlt
          have hs2 := take_le L (j + 1)
          have hs3 := HSU.out.1
          have HS1 := hidden hs1
          have hq1 : (L.take j).sum ≤ 1048576 := by omega
          have hq2 : L.getD j 0 ≤ 1048576 := by omega
          clear hs1 hs2 hs3 hS
          generalize (L.take j).sum = s0 at *
          generalize L.getD j 0 = e0 at *
          have k1 : (0 : Int) ≤ (j : Int) := by omega
          have k2 : (j : Int) < (L.length : Int) := by omega
          have k3 : ¬ (e0 : Int) < 1 := by omega
          have k4 : ¬ (c.mx : Int) < (e0 : Int) := by omega
          have kw : IntKind.i64.wrap ((L.length : Int) - 1) = (L.length : Int) - 1 := by
            first
              | exact IntWalk.wrap64_in _ ⟨by omega, by omega⟩
              | (simp [IntKind.wrap, IntKind.signed, IntKind.bits]; omega)
              | (unfold IntKind.wrap; simp [IntKind.signed, IntKind.bits]; omega)
          have k3n : ¬ e0 < 1 := by omega
          have k3z : ¬ e0 = 0 := by omega
          have k4n : ¬ c.mx < e0 := by omega
          by_cases hj2 : j + 1 < L.length
          · have k5 : (j : Int) < (L.length : Int) - 1 := by omega
            have k6 : ¬ (e0 : Int) < (c.mn : Int) := by have := hb1.2 hj2; omega
            have k6n : ¬ e0 < c.mn := by omega
            clear hb1
            gi_wp2
            gi_quiet_th (fail)
            gi_wp2
            go_roundw
            case rel => exact ⟨j + 1, by omega, by rw [HS1.out]; go_num, by go_num, HS.out.drewN _⟩
            case measure => simp [intOf]; omega
          · have k5 : ¬ (j : Int) < (L.length : Int) - 1 := by omega
            have k5b : (L.length : Int) - 1 ≤ (j : Int) := by omega
            have kd : decide ((j : Int) < (L.length : Int) - 1) = false := decide_eq_false k5
            clear hb1
            gi_wp2
            gi_quiet_th (fail)
            gi_wp2
            go_roundw
            case rel => exact ⟨j + 1, by omega, by rw [HS1.out]; go_num, by go_num, HS.out.drewN _⟩
            case measure => simp [intOf]; omega
        · obtain rfl : j = L.length := by omega
          have hsum : (L.take L.length).sum = l.length := by rw [List.take_length]; exact HSU.out.1
          rw [hsum]
          have br2 := blk_kept hS (fun h => h) HBR.out
          have zf : wr.frozen? ⟨w.heap.size + 1 + 1, 0, none⟩ = false := blk_free br2
          have hD2 := blk_kept hS (fun h => h) HKD.out
          have BR2 := hidden br2
          have HD2 := hidden hD2
          have zc : wr.cell? ⟨w.heap.size + 1 + 1, 0, none⟩ = some (.bool false) := blk_cell br2
          have E3 : Hid ((wr.setCell ⟨w.heap.size + 1 + 1, 0, none⟩ (.bool true)).heap[D]? = some (.deferred (some []))) := blk_kept ((Kept.refl (fun k => k = w.heap.size + 1 + 1) wr).setCell (p := ⟨w.heap.size + 1 + 1, 0, none⟩) rfl _) (by show ¬ D = w.heap.size + 1 + 1; omega) hD2
          have c9 : Hid (((wr.setCell ⟨w.heap.size + 1 + 1, 0, none⟩ (.bool true)).putObj D (.deferred none)).cell? ⟨w.heap.size + 1 + 1, 0, none⟩ = some (.bool true)) := one_defer_cell (blk_cell (blk_set (j := 0) br2 (.bool true))) (by omega)
          clear hS hsum br2 hD2
          gi_wp2
          refine ⟨by simp, .inl ⟨_, _, rfl, run_takeDeferred E3.out, ?_⟩⟩
          have c9' := c9.out
          refine ⟨_, by simp [results, Tryd.results3, go_sem, c9'], rfl, ?_⟩
          exact Kept.trans' (Kept.trans K0.out (Kept.trans K4.out (Kept.trans HK4.out HS.out))) (((Kept.refl (fun k => w.heap.size ≤ k) wr).setCell (p := ⟨w.heap.size + 1 + 1, 0, none⟩) (by show w.heap.size ≤ w.heap.size + 1 + 1; omega) _).trans (kept_putObj _ D _ (by omega))) (fun k hk h => by omega)
end Go.Proofs.YtijellodifblkaaDoor
