/- pack: the law's own 'lives'. -/
import Derived.Test.YtafdkfieajdeiaaDoorK7
import Derived.Test.YtafdkfieajdeiaaDoorK9
namespace Go.Proofs.YtafdkfieajdeiaaDoor
open Go.RowKit
set_option linter.unusedVariables false

theorem conv_const (w : World) (C : Array Value) (n m : Nat) : (convert 32 32 (.slice (some ⟨w.heap.size, 0, none⟩) n m)).run Tryd.prog (w.alloc (.cells C 5)) = .ok (.slice (some ⟨w.heap.size, 0, none⟩) n m) (w.alloc (.cells C 5 (C.size, C.size + 1))) := by
  have hsh : (w.alloc (.cells C 5)).shape? w.heap.size = some (5, C.size) := by
    have : (w.alloc (.cells C 5)).heap[w.heap.size]? = some (.cells C 5) := by
      show (w.heap.push (.cells C 5))[w.heap.size]? = _
      simp
    unfold World.shape?
    rw [this]
  have hfr : (w.alloc (.cells C 5)).freeze ⟨w.heap.size, C.size, none⟩ 1 = w.alloc (.cells C 5 (C.size, C.size + 1)) := by
    have hm : ∀ (a : Array Obj) (x : Obj) (f : Obj → Obj), (a.push x).modify a.size f = a.push (f x) := by
      intro a x f
      apply Array.ext
      · simp
      · intro i h1 h2
        simp only [Array.getElem_modify, Array.getElem_push]
        by_cases h : a.size = i
        · subst h
          simp
        · have hi : i < a.size := by simp at h1; omega
          simp [h, hi]
    unfold World.freeze
    rw [if_neg (by decide)]
    show ({ w.alloc (.cells C 5) with heap := (w.heap.push (.cells C 5)).modify w.heap.size _ } : World) = _
    rw [hm]
    rfl
  simp [convert, run_underlying Tryd.underlying32, run_underlying Tryd.underlying5, markStringish, hsh, hfr]
/-- A container that the call has made: what is done to it turns nothing that was there. -/
theorem Same.turns {w a b : World} {g : Nat} (h : Same w a) (k : Turns g a b) (hg : ∀ i, pS g a i → w.heap.size ≤ i) : Same w b ∧ ∀ i, pS g b i → w.heap.size ≤ i := by
  refine ⟨h.trans' k.kept (fun i hi hs => by have := hg i hs; omega), ?_⟩
  intro i hi
  by_cases hl : i < a.heap.size
  · exact hg i (k.row i hl hi)
  · have := h.size; omega
theorem PW.below {g : Nat} {s : PSt} {w : World} (h : PW g s w) {i : Nat} (hi : pS g w i) : i < w.heap.size := by
  obtain ⟨⟨vb, vs, b1, b2, b3⟩, _, _⟩ := h
  rcases (pS_of b1 i).1 hi with rfl | q | q
  · exact blk_lt b1
  · exact b2.lt q
  · exact b3.lt q
theorem abc_bt (w : World) : Bt (w.alloc (.cells #[.int .u8 97, .int .u8 98, .int .u8 99] 5 (3, 4))) (.slice (some ⟨w.heap.size, 0, none⟩) 3 3) [97, 98, 99] := by
  refine ⟨_, _, rfl, by decide, fun _ => ⟨_, 0, rfl, fun j hj => ?_⟩⟩
  rw [cell_of_row _ _ (0 + j) _ _ _ (blk_new w _)]
  have hj3 : j < 3 := hj
  match j, hj3 with
  | 0, _ => rfl
  | 1, _ => rfl
  | 2, _ => rfl
def s0 : PSt := PSt.new 512 1 7
def s1 : PSt := s0.app [97, 98, 99]
theorem s0_bs : s0.bs.length = 16 := by rw [PSt.bs_len]; rfl
theorem s0_left : s0.left = 472 := by
  unfold PSt.left
  rw [s0_bs]
  rfl
theorem s0_err : s0.appErr 3 = 0 := by
  unfold PSt.appErr
  rw [s0_left]
  rfl
theorem s1_is : s1 = ⟨512, 1, 7, [[97, 98, 99]], false, 0, 0, false⟩ := by
  unfold s1 PSt.app
  rw [if_pos (show s0.appErr ([97, 98, 99] : List UInt8).length = 0 from s0_err)]
  rfl
theorem s1_bs : s1.bs.length = 27 := by rw [PSt.bs_len, s1_is]; simp [bodyB, slotB_len]
theorem s1_left : s1.left = 461 := by
  unfold PSt.left
  rw [s1_bs, s1_is]
  rfl
theorem s1_read : s1.read 24 3 = some [97, 98, 99] := by rw [s1_is]; decide +kernel
set_option maxHeartbeats 4000000 in
set_option maxRecDepth 100000 in
theorem p_lives (w : World) (hT : Tab w) : Calls Tryd.prog 9 #[] w fun e w' => e = .returned (.bool true) ∧ Same w w' := by
  have hn := fun (W : World) (h : Tab W) => p_new 512 1 7 W h (by unfold PMay PSize Pow; decide) (by decide)
  have hl0 : ∀ g w, PW g s0 w → Calls Tryd.prog 32 #[.pointer (some ⟨g, 0, none⟩)] w fun e w' => e = .returned (.int .i64 472) ∧ Same w w' := fun g w h => by
    have := p_left h
    rw [s0_left] at this
    exact this
  have hl1 : ∀ g w, PW g s1 w → Calls Tryd.prog 32 #[.pointer (some ⟨g, 0, none⟩)] w fun e w' => e = .returned (.int .i64 461) ∧ Same w w' := fun g w h => by
    have := p_left h
    rw [s1_left] at this
    exact this
  have ha : ∀ g w v, PW g s0 w → Tab w → Bt w v [97, 98, 99] → (∀ i, v.ownBlock = some i → ¬ pS g w i) → Calls Tryd.prog 13 #[.pointer (some ⟨g, 0, none⟩), v] w fun e w' => e = .returned (.tuple #[.agg #[.int .i64 24, .int .i64 3], .int .i64 0]) ∧ PW g s1 w' ∧ Turns g w w' := fun g w v h t b n => by
    have := p_appendYes h t v [97, 98, 99] b n s0_err
    rw [s0_bs] at this
    exact this
  have hr : ∀ g w, PW g s1 w → Calls Tryd.prog 30 #[.pointer (some ⟨g, 0, none⟩), .agg #[.int .i64 24, .int .i64 3]] w fun e w' => ∃ u, e = .returned (.tuple #[u, .int .i64 0]) ∧ Bt w' u [97, 98, 99] ∧ Same w w' := fun g w h => by
    have := p_read h 24 3
    rw [s1_read] at this
    exact this
  have HN := hidden (hn w hT)
  have HL0 := hidden hl0
  have HL1 := hidden hl1
  have HA := hidden ha
  have HR := hidden hr
  have HT := hidden hT
  clear hn hl0 hl1 ha hr hT
  go_enter Tryd.func9, Tryd.ntmps9
  go_wp2_with (first
    | (go_at_call 10; refine (HN.out).mono ?_; rintro e w1 ⟨g, rfl, j1, k1, n1⟩; have J1 : Hid (PW g s0 w1) := hidden j1; have K1 := hidden k1; have N1 := hidden n1; have tok : True := trivial; clear j1 k1 n1)
    | (go_at_call 32; have _t := tok; refine (HL0.out _ _ J1.out).mono ?_; rintro e w2 ⟨rfl, k2⟩; have J2 := hidden (J1.out.same k2); have K2 := hidden (Kept.trans K1.out k2); have N2 : Hid (∀ i, pS g w2 i → w.heap.size ≤ i) := fun i hi => N1.out i ((pS_same J1.out.lt k2 i).1 hi); clear tok k2; have hcv := conv_const w2 #[.int .u8 97, .int .u8 98, .int .u8 99] 3 3)
    | (go_at_call 13; have ka := same_alloc w2 (.cells #[.int .u8 97, .int .u8 98, .int .u8 99] 5 (3, 4)); refine (HA.out _ _ _ (J2.out.same ka) (HT.out.same (Kept.trans K2.out ka)) (abc_bt w2) (fun i hi hp => absurd (J2.out.below ((pS_same J2.out.lt ka i).1 hp)) (by simp [Value.ownBlock] at hi; omega))).mono ?_; rintro e w3 ⟨rfl, j3, t3⟩; have J3 := hidden j3; have K3 := hidden (Same.turns (Kept.trans K2.out ka) t3 (fun i hi => N2.out i ((pS_same J2.out.lt ka i).1 hi))).1; clear j3 t3 ka)
    | (go_at_call 30; refine (HR.out _ _ (J3.out.same (same_alloc _ _))).mono ?_; rintro e w4 ⟨u, rfl, hu, k4⟩; have J4 := hidden ((J3.out.same (same_alloc _ _)).same k4); have K4 := hidden (Kept.trans (K3.out.alloc _) k4); obtain ⟨ua, uc, hue, _⟩ := hu.form; subst hue; have htx : (convert 32 9 (.slice ua 3 uc)).run Tryd.prog w4 = .ok (.string ⟨#[97, 98, 99]⟩) w4 := hu.text; have b4 := blk_kept k4 (fun h => h) (blk_new w3 _); have x0 : w4.cell? ⟨w3.heap.size, 0, none⟩ = some (.int .i64 24) := blk_cell b4; have x1 : w4.cell? ⟨w3.heap.size, 1, none⟩ = some (.int .i64 3) := blk_cell b4; clear k4 b4 hu)
    | (go_at_call 32; refine (HL1.out _ _ J4.out).mono ?_; rintro e w5 ⟨rfl, k5⟩))
  go_returns
  exact ⟨rfl, Kept.trans K4.out k5⟩
end Go.Proofs.YtafdkfieajdeiaaDoor
