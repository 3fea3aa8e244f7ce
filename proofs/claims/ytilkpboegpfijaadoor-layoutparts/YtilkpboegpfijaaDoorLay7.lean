/- The law's own 'awake' for layout: true, whatever the world that holds the table. -/
import Derived.Test.YtilkpboegpfijaaDoorLay6
namespace Go.Proofs.YtilkpboegpfijaaDoor
open Go.RowKit
set_option linter.unusedVariables false

theorem small_shp : Shp 512 32 6 4 16 64 128 256 := by unfold Shp CutOk Pow; decide
theorem small_sup : Sup 5 9 512 32 6 4 16 64 128 7 256 true := by
  refine ⟨by decide, by decide, small_shp, ?_⟩
  unfold supErr
  rw [if_pos (by exact small_shp)]
  decide
set_option maxHeartbeats 1000000 in
set_option maxRecDepth 100000 in
theorem small_any (w : World) : Calls Tryd.prog 51 #[] w fun e w' => e = .returned (.agg #[.int .i64 512, .int .i64 32, .int .i64 6, .int .i64 4, .int .i64 16, .int .i64 64, .int .i64 128, .int .u64 7, .int .i64 256, .bool true]) ∧ Same w w' := by
  go_enter Tryd.func51, Tryd.ntmps51
  go_wp2
  refine bodyPost_ret (v := .agg #[.int .i64 512, .int .i64 32, .int .i64 6, .int .i64 4, .int .i64 16, .int .i64 64, .int .i64 128, .int .u64 7, .int .i64 256, .bool true]) (by simp [results, Tryd.results51, go_sem]) rfl ⟨rfl, ?_⟩
  repeat' (first | exact same_alloc _ _ | refine Same.put ?_ (Nat.le_refl _))
set_option maxHeartbeats 4000000 in
set_option maxRecDepth 100000 in
theorem lay_awake (w : World) (hT : Tab w) : Calls Tryd.prog 25 #[] w fun e w' => e = .returned (.bool true) ∧ Same w w' := by
  have h1 := fun w ht => enc_yes 5 9 512 32 6 4 16 64 128 7 256 true w ht small_sup.g small_sup.s small_sup.shp small_sup.ok (by decide)
  have h2 := fun v w hb ht => dec_yes v 5 9 512 32 6 4 16 64 128 7 256 true w hb ht small_sup
  have hlen := superL_len small_sup
  have h3 := fun w => journal_yes 512 32 6 4 16 64 128 7 256 true w small_shp
  have h4 := fun w => data_yes 512 32 6 4 16 64 128 7 256 true w small_shp
  generalize superL 5 9 512 32 6 4 16 64 128 7 256 true = SL at *
  have H1 := hidden h1
  have H2 := hidden h2
  have H3 := hidden h3
  have H4 := hidden h4
  have HT := hidden hT
  have HL := hidden hlen
  clear h1 h2 h3 h4 hT hlen
  have tok0 : True := trivial
  go_enter Tryd.func25, Tryd.ntmps25
  go_wp2_with (first
    | (go_at_call 51; have _t := tok0; refine (small_any _).mono ?_; rintro e w1 ⟨rfl, k1⟩; clear tok0)
    | (go_at_call 50; refine (H1.out _ (HT.out.same k1)).mono ?_; rintro e w2 ⟨v2, rfl, o2, k2⟩; have K2 := Kept.trans k1 k2; obtain ⟨a2, c2, e2⟩ := o2.byt.form; rw [HL.out] at e2; subst e2)
    | (go_at_call 52; refine (H2.out _ _ o2.byt (HT.out.same K2)).mono ?_; rintro e w3 ⟨rfl, k3⟩; have K3 := Kept.trans K2 k3; have tok1 : True := trivial)
    | (go_at_call 51; have _t := tok1; refine (small_any _).mono ?_; rintro e w4 ⟨rfl, k4⟩; clear tok1)
    | (go_at_call 28; refine (H3.out _).mono ?_; rintro e w5 ⟨rfl, k5⟩; have tok2 : True := trivial)
    | (go_at_call 51; have _t := tok2; refine (small_any _).mono ?_; rintro e w6 ⟨rfl, k6⟩; clear tok2)
    | (go_at_call 29; refine (H4.out _).mono ?_; rintro e w7 ⟨rfl, k7⟩))
  go_returns
  exact ⟨rfl, Kept.trans (Kept.trans (Kept.trans (Kept.trans (Kept.alloc K3 _) k4) k5) k6) k7⟩
end Go.Proofs.YtilkpboegpfijaaDoor
