/- The law's own 'lives' for journal: true, whatever the world that holds the table. -/
import Derived.Test.YtljbmpnpbjnbkaaDoorJ5
namespace Go.Proofs.YtljbmpnpbjnbkaaDoor
open Go.RowKit
set_option linter.unusedVariables false

/-- A Writer that the call has made: what is done to it turns nothing that was there. -/
theorem Same.turns {w a b : World} {g : Nat} (h : Same w a) (k : Turns g a b) (hg : ∀ i, jS g a i → w.heap.size ≤ i) : Same w b ∧ ∀ i, jS g b i → w.heap.size ≤ i := by
  refine ⟨h.trans' k.kept (fun i hi hs => by have := hg i hs; omega), ?_⟩
  rintro i (rfl | hr)
  · exact hg _ (Or.inl rfl)
  · by_cases hi : i < a.heap.size
    · exact hg i (k.row i hi hr)
    · have := h.size; omega
/-- One sector: where it lies. -/
theorem Secs.first {w : World} {v : Value} {t B : Nat} {b : List UInt8} (h : Secs w v t [b] B) (x : UInt8) (hx : b[0]? = some x) :
    ∃ gg cap gu, v = .slice (some ⟨gg, 0, none⟩) 1 cap ∧ w.cell? ⟨gg, 1, none⟩ = some (.slice (some ⟨gu, 0, none⟩) b.length b.length) ∧ w.cell? ⟨gu, 0, none⟩ = some (U8 x) := by
  obtain ⟨us, h1, h2, h3⟩ := h
  match us, h1 with
  | [u], _ =>
    obtain ⟨gu, _, e, hb⟩ := h3 0 (by simp) (by simp)
    rcases h2.2 with ⟨_, h0⟩ | ⟨gg, cap, cur, hv, _⟩
    · simp at h0
    · have c1 := h2.cells (g := gg) (by rw [hv]; rfl) 1 u (by simp [secCells])
      rw [add_none] at c1
      simp only [List.getElem_cons_zero] at e hb
      refine ⟨gg, cap, gu, hv, by rw [← e]; exact c1, ?_⟩
      rw [blk_cell hb]
      simp [hx]
def s0 : JSt := JSt.new 512 2 7
def s1 : JSt := s0.app [97, 98, 99]
theorem s1_is : s1 = ⟨512, 2, 7, 0, [0, 0, 0, 3, 97, 98, 99], 1⟩ := by
  unfold s1 JSt.app
  rw [if_pos (by decide)]
  rfl
theorem s1_many : s1.many = 1 := by rw [s1_is]; decide
theorem s1_sec : s1.secs s1.many = [s1.sec 0] := by rw [s1_many]; rfl
theorem s1_sec0 : (s1.sec 0)[0]? = some 68 ∧ (s1.sec 0).length = 512 := by
  rw [s1_is]
  refine ⟨by simp [JSt.sec, jsec, jhead2, jhead], ?_⟩
  unfold JSt.sec
  rw [jsec_len _ _ _ _ (by decide)]
set_option maxHeartbeats 4000000 in
set_option maxRecDepth 100000 in
theorem j_lives (w : World) (hT : Tab w) : Calls Tryd.prog 8 #[] w fun e w' => e = .returned (.bool true) ∧ Same w w' := by
  have hn := fun w => j_new 512 2 7 w (by unfold JMay JSize Pow; decide) (by decide)
  have hl0 : ∀ g w, JW g (JSt.new 512 2 7) w → Calls Tryd.prog 13 #[.pointer (some ⟨g, 0, none⟩)] w fun e w' => e = .returned (.int .i64 972) ∧ Same w w' := fun g w h => j_left h
  have ha : ∀ g w, JW g (JSt.new 512 2 7) w → Calls Tryd.prog 11 #[.pointer (some ⟨g, 0, none⟩), .string ⟨#[97, 98, 99]⟩] w fun e w' => e = .returned (.int .i64 0) ∧ JW g s1 w' ∧ Turns g w w' := fun g w h => j_appendYes h ⟨#[97, 98, 99]⟩ (by decide)
  have ht : ∀ g w, JW g s1 w → Tab w → Calls Tryd.prog 15 #[.pointer (some ⟨g, 0, none⟩)] w fun e w' => ∃ gg cap gu, e = .returned (.slice (some ⟨gg, 0, none⟩) 1 cap) ∧ w'.cell? ⟨gg, 1, none⟩ = some (.slice (some ⟨gu, 0, none⟩) 512 512) ∧ w'.cell? ⟨gu, 0, none⟩ = some (.int .u8 68) ∧ JW g s1.take w' ∧ Turns g w w' := fun g w h hT => (j_take h hT).mono fun e w' ⟨v, he, hs, hj, hk⟩ => by
    rw [s1_sec] at hs
    obtain ⟨gg, cap, gu, rfl, c1, c2⟩ := hs.first 68 s1_sec0.1
    rw [s1_sec0.2] at c1
    exact ⟨gg, cap, gu, he, c1, c2, hj, hk⟩
  have hl2 : ∀ g w, JW g s1.take w → Calls Tryd.prog 13 #[.pointer (some ⟨g, 0, none⟩)] w fun e w' => e = .returned (.int .i64 484) ∧ Same w w' := fun g w h => by
    have := j_left h
    rw [show s1.take.free - 4 = 484 by rw [s1_is]; decide] at this
    exact this
  have HN := hidden hn
  have HL0 := hidden hl0
  have HA := hidden ha
  have HTk := hidden ht
  have HL2 := hidden hl2
  have HT := hidden hT
  clear hn hl0 ha ht hl2 hT
  go_enter Tryd.func8, Tryd.ntmps8
  go_wp2_with (first
    | (go_at_call 9; refine (HN.out _).mono ?_; rintro e w1 ⟨rfl, j1, k1, r1⟩; have n1 : ∀ i, jS w.heap.size w1 i → w.heap.size ≤ i := (by rintro i (rfl | h); exact Nat.le_refl _; rw [r1] at h; cases h); have N1 := hidden n1; have tok := True.intro; clear r1 n1)
    | (go_at_call 13; have _t := tok; refine (HL0.out _ _ j1).mono ?_; rintro e w2 ⟨rfl, k2⟩; have j2 := j1.same k2; have K2 := Kept.trans k1 k2; have N2 : Hid (∀ i, jS w.heap.size w2 i → w.heap.size ≤ i) := fun i hi => N1.out i (hi.imp id (fun h => by rw [← h]; exact (rowOf_same j1.lt k2).symm)); clear tok)
    | (go_at_call 11; refine (HA.out _ _ j2).mono ?_; rintro e w3 ⟨rfl, j3, t3⟩; obtain ⟨K3, n3⟩ := Same.turns K2 t3 N2.out; have N3 := hidden n3; clear n3)
    | (go_at_call 15; refine (HTk.out _ _ j3 (HT.out.same K3)).mono ?_; rintro e w4 ⟨gg, cap, gu, rfl, c1, c2, j4, t4⟩; obtain ⟨K4, n4⟩ := Same.turns K3 t4 N3.out; clear n4)
    | (go_at_call 13; refine (HL2.out _ _ j4).mono ?_; rintro e w5 ⟨rfl, k5⟩))
  go_returns
  exact ⟨rfl, Kept.trans K4 k5⟩
end Go.Proofs.YtljbmpnpbjnbkaaDoor
