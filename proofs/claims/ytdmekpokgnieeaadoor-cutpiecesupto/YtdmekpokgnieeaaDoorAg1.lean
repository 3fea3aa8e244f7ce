/- cut: lengths behind a place; the law's hasPlace and behind. -/
import Derived.Test.YtdmekpokgnieeaaDoorCutL
namespace Go.Proofs.YtdmekpokgnieeaaDoor
open Go.RowKit Go.Shelf
set_option linter.unusedVariables false
attribute [local go_sem ↓] Go.wp_at_zero Go.wp_at_succ

/-- What the lengths from one on come to. -/
def suf (L : List Nat) (i : Nat) : Nat := (L.drop i).sum
theorem suf_end (L : List Nat) : suf L L.length = 0 := by simp [suf]
theorem suf_at (L : List Nat) (i : Nat) (h : i < L.length) : suf L i = L.getD i 0 + suf L (i + 1) := by
  unfold suf
  rw [List.drop_eq_getElem_cons h, List.sum_cons]
  simp [h]
theorem suf_le (L : List Nat) (i : Nat) : suf L i ≤ L.sum := by
  have h : L.sum = (L.take i).sum + (L.drop i).sum := by rw [← List.sum_append, List.take_append_drop]
  unfold suf
  omega
theorem suf_mono (L : List Nat) {i j : Nat} (h : i ≤ j) : suf L j ≤ suf L i := by
  unfold suf
  have e : L.drop j = (L.drop i).drop (j - i) := by rw [List.drop_drop]; congr 1; omega
  rw [e]
  exact suf_le (L.drop i) (j - i)
theorem suf_lt (L : List Nat) (hp : ∀ n ∈ L, 1 ≤ n) {i j : Nat} (h : i < j) (hj : j ≤ L.length) : suf L j < suf L i := by
  have h1 := suf_at L i (by omega)
  have h2 := suf_mono L (show i + 1 ≤ j from h)
  have h3 : 1 ≤ L.getD i 0 := by
    have hi : i < L.length := by omega
    have := hp L[i] (List.getElem_mem hi)
    simpa [hi] using this
  omega
theorem lens_sum (c : Shp) (hc : c.Ok) : ∀ (n : Nat) (l : List UInt8), l.length ≤ n → (c.lens l).sum = l.length ∧ ∀ x ∈ c.lens l, 1 ≤ x
  | 0, l, h => by
    obtain rfl : l = [] := List.eq_nil_of_length_eq_zero (by omega)
    rw [Shp.lens_nil]
    simp
  | n + 1, l, h => by
    by_cases hl : l = []
    · subst hl
      rw [Shp.lens_nil]
      simp
    · have h1 := c.cut_pos hc hl
      have h2 := c.cut_le l
      have ih := lens_sum c hc n (l.drop (c.cut l)) (by rw [List.length_drop]; omega)
      rw [c.lens_cons hc hl, List.sum_cons, ih.1, List.length_drop]
      refine ⟨by omega, fun x hx => ?_⟩
      rcases List.mem_cons.1 hx with rfl | hx
      · exact h1
      · exact ih.2 x hx
theorem lens_drop (c : Shp) (hc : c.Ok) : ∀ (k : Nat) (l : List UInt8), k ≤ (c.lens l).length → (c.lens l).drop k = c.lens (l.drop (l.length - suf (c.lens l) k))
  | 0, l, _ => by
    have := (lens_sum c hc l.length l (Nat.le_refl _)).1
    simp [suf, this]
  | k + 1, l, h => by
    by_cases hl : l = []
    · subst hl
      rw [Shp.lens_nil] at h
      simp at h
    · have h1 := c.cut_pos hc hl
      have h2 := c.cut_le l
      have hs := (lens_sum c hc _ (l.drop (c.cut l)) (Nat.le_refl _)).1
      rw [c.lens_cons hc hl] at h ⊢
      rw [List.length_cons] at h
      have ih := lens_drop c hc k (l.drop (c.cut l)) (by omega)
      have hsf : suf (c.cut l :: c.lens (l.drop (c.cut l))) (k + 1) = suf (c.lens (l.drop (c.cut l))) k := rfl
      have hle := suf_le (c.lens (l.drop (c.cut l))) k
      rw [hs, List.length_drop] at hle
      rw [List.drop_succ_cons, hsf, ih, List.drop_drop, List.length_drop]
      congr 2
      omega
/-- Cutting finds its feet again. -/
theorem lens_again (c : Shp) (hc : c.Ok) (a b t : List UInt8) {i j : Nat} (hi : i ≤ (c.lens (a ++ t)).length) (hj : j ≤ (c.lens (b ++ t)).length) (he : suf (c.lens (a ++ t)) i = suf (c.lens (b ++ t)) j) (hle : suf (c.lens (a ++ t)) i ≤ t.length) :
    (c.lens (a ++ t)).drop i = (c.lens (b ++ t)).drop j := by
  rw [lens_drop c hc i _ hi, lens_drop c hc j _ hj, ← he]
  generalize suf (c.lens (a ++ t)) i = s at *
  have key : ∀ z : List UInt8, (z ++ t).drop ((z ++ t).length - s) = t.drop (t.length - s) := fun z => by
    rw [List.length_append, show z.length + t.length - s = z.length + (t.length - s) by omega, ← List.drop_drop, List.drop_left]
  rw [key a, key b]
/-- Numbers in memory, with the room that their slice has. -/
def NCs (w : World) (v : Value) (l : List Nat) : Prop :=
  ∃ a cap, v = .slice a l.length cap ∧ l.length ≤ cap ∧ (l ≠ [] → ∃ b off, a = some ⟨b, off, none⟩ ∧ ∀ j, j < l.length → w.cell? ⟨b, off + j, none⟩ = some (.int .i64 (l.getD j 0 : Nat)))
theorem NCs.cells {w : World} {v : Value} {l : List Nat} (h : NCs w v l) : Cells w v l := by
  obtain ⟨a, cap, h1, _, h2⟩ := h
  exact ⟨a, cap, h1, h2⟩
theorem NCs.same {w w' : World} {v : Value} {l : List Nat} (h : NCs w v l) (hk : Same w w') : NCs w' v l := by
  obtain ⟨a, cap, h1, h0, h2⟩ := h
  refine ⟨a, cap, h1, h0, fun hn => ?_⟩
  obtain ⟨b, off, h3, h4⟩ := h2 hn
  exact ⟨b, off, h3, fun j hj => hk.cell (fun h => h) (h4 j hj)⟩
theorem NCs.nil (w : World) : NCs w (.slice none 0 0) [] := ⟨none, 0, rfl, Nat.le_refl _, fun h => absurd rfl h⟩
theorem Ints.ncs {B : Nat} {v : Value} {l : List Nat} {w : World} (h : Ints B w v l) : NCs w v l := by
  obtain ⟨a, cap, h1, h2⟩ := h.cells
  refine ⟨a, cap, h1, ?_, h2⟩
  rcases h.2 with ⟨q1, q2⟩ | ⟨g, cp, cur, q1, _, _, q3, _⟩
  · rw [h1] at q1
    simp only [Value.slice.injEq] at q1
    omega
  · rw [h1] at q1
    simp only [Value.slice.injEq] at q1
    omega
theorem elemInt : Tryd.prog.elem 27 = 3 := by kernel_rfl
set_option maxRecDepth 100000 in
theorem NCs.tail {w : World} {a : Option Addr} {n cap : Nat} {l : List Nat} (h : NCs w (.slice a n cap) l) {i : Nat} (hi : i ≤ n) (x : Int) (hx : x = (i : Int)) :
    ∃ p, (∀ W, (Instr.sliceAt 27 (.slice a n cap) (some (.int .i64 x)) none none).run Tryd.prog W = .ok (.slice p (n - i) (cap - i)) W) ∧ NCs w (.slice p (n - i) (cap - i)) (l.drop i) := by
  obtain ⟨a', cap', h1, h0, h2⟩ := h
  simp only [Value.slice.injEq] at h1
  obtain ⟨rfl, rfl, rfl⟩ := h1
  obtain ⟨i0, hii, hz0, hz1, hz2⟩ := info_parts infoInt
  subst hx
  refine ⟨if cap = i then a else a.map (·.add (i * 1)), fun W => ?_, ?_⟩
  · have hs : (sizeOf (Tryd.prog.elem 27)).run Tryd.prog W = .ok 1 W := by rw [elemInt]; simp [sizeOf, typeInfo, hii, hz1]
    rw [run_sliceAt_slice (h := Tryd.underlying27), run_slice_l (ht := Tryd.underlying27) (h0 := by omega) (h1 := by omega), hs]
    simp only [sliced, Result.andThen_ok, Int.toNat_natCast]
  · refine ⟨_, _, by rw [List.length_drop], by rw [List.length_drop]; omega, fun hne => ?_⟩
    have hlt : i < l.length := by
      rcases Nat.lt_or_ge i l.length with h | h
      · exact h
      · exact absurd (List.drop_of_length_le h) hne
    obtain ⟨b, off, rfl, hc⟩ := h2 (by rintro rfl; simp at hlt)
    have hadd : (⟨b, off, none⟩ : Addr).add i = ⟨b, off + i, none⟩ := by unfold Addr.add; split <;> simp_all
    refine ⟨b, off + i, by simp [show ¬ cap = i by omega, hadd], fun j hj => ?_⟩
    rw [List.length_drop] at hj
    have := hc (i + j) (by omega)
    rw [Nat.add_assoc, this]
    simp
theorem NCs.at {w : World} {a : Option Addr} {n cap : Nat} {l : List Nat} (h : NCs w (.slice a n cap) l) {i : Nat} (hi : i < l.length) : ∃ b off, a = some ⟨b, off, none⟩ ∧ w.cell? ⟨b, off + i, none⟩ = some (.int .i64 (l.getD i 0 : Nat)) := by
  obtain ⟨a', cap', h1, h0, h2⟩ := h
  simp only [Value.slice.injEq] at h1
  obtain ⟨rfl, _, _⟩ := h1
  obtain ⟨b, off, e, hc⟩ := h2 (by rintro rfl; simp at hi)
  exact ⟨b, off, e, hc i hi⟩
set_option maxHeartbeats 1000000 in
set_option maxRecDepth 100000 in
theorem behind_any (v : Value) (L : List Nat) (w : World) (h : NCs w v L) (hp : ∀ n ∈ L, 1 ≤ n) (hs : L.sum ≤ 16777216) (hl : L.length ≤ 16777216) (k : Nat) (hk : k ≤ L.length) :
    Calls Tryd.prog 18 #[v, .int .i64 (suf L k : Nat)] w fun e w' => ∃ u, e = .returned u ∧ NCs w u (L.drop k) ∧ w = w' := by
  have h' := h
  obtain ⟨a, cap, rfl, _, _⟩ := h'
  have H := hidden h
  have HP := hidden hp
  have hsk := suf_le L k
  obtain ⟨n, hn⟩ : ∃ n, L.length = n := ⟨_, rfl⟩
  have HN := hidden hn
  rw [hn] at hk hl
  have hgo : ∃ p, (∀ W, (Instr.sliceAt 27 (.slice a n cap) (some (.int .i64 (k : Int))) none none).run Tryd.prog W = .ok (.slice p (n - k) (cap - k)) W) ∧ NCs w (.slice p (n - k) (cap - k)) (L.drop k) := by
    have := NCs.tail (i := k) h (by omega) (k : Int) rfl
    rwa [hn] at this
  obtain ⟨p, hsl, hnc⟩ := hgo
  have HNC := hidden hnc
  rw [show (Value.slice a L.length cap) = .slice a n cap by rw [hn]]
  clear h hp hn hnc
  go_enter Tryd.func18, Tryd.ntmps18
  go_wp2
  go_loop [5, 1] (fun i r => ∃ j : Nat, k ≤ j ∧ j ≤ n ∧ i = .int .i64 j ∧ r = .int .i64 ((suf L k - suf L j : Nat) : Int)) (fun i _ => (intOf i).toNat)
  case atStart => exact ⟨n, hk, Nat.le_refl _, rfl, by rw [← HN.out, suf_end]; rfl⟩
  case round =>
    obtain ⟨j, hj1, hj2, rfl, rfl⟩ := hrel
    by_cases hjk : k < j
    · have hlt := suf_lt L HP.out hjk (by rw [HN.out]; exact hj2)
      obtain ⟨m, hm1⟩ : ∃ m, m + 1 = j := ⟨j - 1, by omega⟩
      have hm : m < L.length := by rw [HN.out]; omega
      have hat := suf_at L m hm
      rw [hm1] at hat
      have hmk := suf_mono L (show k ≤ m by omega)
      have hsm := suf_le L m
      obtain ⟨b, off, rfl, hc⟩ := (show NCs w (.slice a n cap) L by have := H.out; rwa [HN.out] at this).at hm
      generalize L.getD m 0 = x at hat hc
      have q0 : (0 : Int) ≤ (m : Int) := Int.natCast_nonneg _
      have q1 : (m : Int) < (n : Int) := by omega
      have q2 : (0 : Int) < (j : Int) := by omega
      have q3 : (0 : Int) < ((suf L k - suf L j : Nat) : Int) := by omega
      obtain ⟨r2, hr2⟩ : ∃ r2, r2 = suf L k - suf L m := ⟨_, rfl⟩
      have hc' : w.cell? ⟨b, off + (j - 1), none⟩ = some (.int .i64 (x : Int)) := by rw [show j - 1 = m by omega]; exact hc
      have Q5 : Hid (((suf L k - suf L j : Nat) : Int) - (x : Int) = (r2 : Int)) := by rw [Hid]; omega
      have q6 : x ≤ 16777216 := by omega
      have q7 : suf L k - suf L j ≤ 16777216 := by omega
      have q8 : (0 : Int) ≤ (j : Int) - 1 := by omega
      have q9 : (j : Int) - 1 < (n : Int) := by omega
      have HR2 := hidden hr2
      have HM1 := hidden hm1
      clear hat hlt hmk hsm hr2 hm1 hc
      generalize suf L k - suf L j = r1 at *
      go_wp2
      go_round
      case rel =>
        refine ⟨m, by have := HM1.out; omega, by omega, ?_, ?_⟩
        · have := HM1.out
          congr 1
          omega
        · rw [← HR2.out, ← Q5.out]
      case measure => have := HM1.out; simp [intOf]; omega
    · obtain rfl : j = k := by omega
      have q3 : ¬ (0 : Int) < ((suf L j - suf L j : Nat) : Int) := by omega
      generalize suf L j - suf L j = r1 at *
      go_wp2
      all_goals
        go_returns
        exact ⟨_, rfl, HNC.out, rfl⟩
set_option maxHeartbeats 1000000 in
set_option maxRecDepth 100000 in
theorem hasPlace_any (v : Value) (L : List Nat) (w : World) (h : NCs w v L) (hs : L.sum ≤ 16777216) (hl : L.length ≤ 16777216) (k left : Nat) (hk : k ≤ L.length) (hlf : left ≤ 16777216) :
    Calls Tryd.prog 17 #[v, .int .i64 (suf L k : Nat), .int .i64 (k : Nat), .int .i64 (left : Nat)] w fun e w' => ∃ b, e = .returned (.bool b) ∧ (b = true → ∃ j, j < L.length ∧ suf L j = left) ∧ w = w' := by
  have h' := h
  obtain ⟨a, cap, rfl, _, _⟩ := h'
  have H := hidden h
  obtain ⟨n, hn⟩ : ∃ n, L.length = n := ⟨_, rfl⟩
  have HN := hidden hn
  rw [hn] at hk hl
  rw [show (Value.slice a L.length cap) = .slice a n cap by rw [hn]]
  have HP : Hid (∀ {e : Ending} {w' : World} (b : Bool), e = .returned (.bool b) → (b = true → ∃ j, j < L.length ∧ suf L j = left) → w = w' → ∃ b, e = .returned (.bool b) ∧ (b = true → ∃ j, j < L.length ∧ suf L j = left) ∧ w = w') := hidden (fun b h1 h2 h3 => ⟨b, h1, h2, h3⟩)
  obtain ⟨P, hP⟩ : ∃ P : Ending → World → Prop, P = fun e w' => ∃ b, e = .returned (.bool b) ∧ (b = true → ∃ j, j < L.length ∧ suf L j = left) ∧ w = w' := ⟨_, rfl⟩
  rw [show (fun e w' => ∃ b, e = Ending.returned (.bool b) ∧ (b = true → ∃ j, j < L.length ∧ suf L j = left) ∧ w = w') = P from hP.symm]
  have HPF : Hid (P (.returned (.bool false)) w) := hidden (by rw [hP]; exact ⟨false, rfl, (fun h => by cases h), rfl⟩)
  have HPT : Hid (∀ j, j < L.length → suf L j = left → P (.returned (.bool true)) w) := hidden (fun j h1 h2 => by rw [hP]; exact ⟨true, rfl, fun _ => ⟨j, h1, h2⟩, rfl⟩)
  clear h hn hP HP
  go_enter Tryd.func17, Tryd.ntmps17
  go_wp2
  go_loop [9, 1] (fun i r => ∃ j : Nat, j ≤ n ∧ i = .int .i64 j ∧ r = .int .i64 (suf L j : Nat)) (fun i _ => n - (intOf i).toNat)
  case atStart => exact ⟨k, hk, rfl, rfl⟩
  case round =>
    obtain ⟨j, hj, rfl, rfl⟩ := hrel
    by_cases hjn : j < n
    · have hm : j < L.length := by rw [HN.out]; omega
      have q1 : (j : Int) < (n : Int) := by omega
      have q0 : (0 : Int) ≤ (j : Int) := Int.natCast_nonneg _
      by_cases he : suf L j = left
      · have HT := hidden (HPT.out j hm he)
        rw [he]
        clear he
        go_wp2
        first | exact HT.out | (go_returns; exact HT.out)
      · have q2 : (((suf L j : Nat) : Int) == (left : Int)) = false := by simpa using (show ¬ ((suf L j : Nat) : Int) = (left : Int) by omega)
        have hat := suf_at L j hm
        have hsm := suf_le L j
        obtain ⟨b, off, rfl, hc⟩ := (show NCs w (.slice a n cap) L by have := H.out; rwa [HN.out] at this).at hm
        generalize L.getD j 0 = x at hat hc
        have q5 : ((suf L j : Nat) : Int) - (x : Int) = ((suf L (j + 1) : Nat) : Int) := by omega
        have q6 : x ≤ 16777216 := by omega
        have q7 : suf L j ≤ 16777216 := by omega
        obtain ⟨r2, hr2⟩ : ∃ r2, r2 = suf L (j + 1) := ⟨_, rfl⟩
        rw [← hr2] at q5
        have HR2 := hidden hr2
        clear he hat hsm hr2
        generalize suf L j = r1 at *
        go_wp2
        go_round
        case rel => exact ⟨j + 1, by omega, by go_num, by rw [← HR2.out]⟩
        case measure => simp [intOf]; omega
    · obtain rfl : j = n := by omega
      have q1 : ¬ (j : Int) < (j : Int) := by omega
      generalize suf L j = r1 at *
      go_wp2
      first | exact HPF.out | (go_returns; exact HPF.out)
end Go.Proofs.YtdmekpokgnieeaaDoor
