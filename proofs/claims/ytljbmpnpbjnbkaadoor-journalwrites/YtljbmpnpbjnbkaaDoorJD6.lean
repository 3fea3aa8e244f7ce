/- journal: the document's Append. -/
import Derived.Test.YtljbmpnpbjnbkaaDoorJD5
namespace Go.Proofs.YtljbmpnpbjnbkaaDoor
open Go.RowKit
set_option linter.unusedVariables false
set_option linter.unusedSimpArgs false
set_option maxHeartbeats 1000000 in
set_option maxRecDepth 100000 in
theorem appendD_no {g : Nat} {d : DSt} {w : World} (h : DW g d w) {s : JSt} (ag : Ag d s) (rec : ByteArray) (hr : rec.size ≤ 140737488351232) (he : s.appErr rec.size ≠ 0) : Calls Tryd.prog 12 #[.pointer (some ⟨g, 0, none⟩), .string rec] w fun e w' => e = .returned (.int .i64 (s.appErr rec.size)) ∧ Same w w' := by
  have HF := hidden (fun W (k : Same w W) => freeD_any (w := W) (by
    obtain ⟨rv, us, h1, h2, h3, h4, h5⟩ := h.lies
    exact ⟨rv, us, blk_kept k (fun h => h) h1, h2, own_kept h3 k (fun _ _ h => h), fun i x u hx hu => own_kept (h4 i x u hx hu) k (fun _ _ h => h), h5⟩) ag)
  have hfb : s.free ≤ 16777216 := by have := ag.ok.rooms; unfold JSt.free; omega
  unfold JSt.appErr at he ⊢
  generalize s.free = fr at *
  by_cases h1 : 65536 < rec.size
  · have q1 : (65536 : Int) < (rec.size : Int) := by omega
    rw [if_pos h1]
    clear he h ag
    go_enter Tryd.func12, Tryd.ntmps12
    go_wp2
    go_returns
    exact ⟨rfl, Kept.refl _ _⟩
  · rw [if_neg h1] at he ⊢
    by_cases h2 : fr < 4 + rec.size
    · have q1 : ¬ (65536 : Int) < (rec.size : Int) := by omega
      have a1 : IntKind.i64.wrap (4 + (rec.size : Int)) = 4 + (rec.size : Int) := by rw [IntKind.wrap_i64]; omega
      have q2 : (fr : Int) < 4 + (rec.size : Int) := by omega
      rw [if_pos h2]
      clear he h ag
      go_enter Tryd.func12, Tryd.ntmps12
      go_wp2_with (go_at_call 36; refine (HF.out _ (Kept.refl _ _)).mono ?_; rintro e w1 ⟨rfl, k1⟩; have K1 := hidden k1; clear k1)
      go_returns
      exact ⟨rfl, K1.out⟩
    · rw [if_neg h2] at he
      exact absurd rfl he
end Go.Proofs.YtljbmpnpbjnbkaaDoor
