/- The law's step, walked: Counts. -/
import Derived.Test.YteoajgphahobiaaR12
namespace Go.Proofs.Yteoajgphahobiaa
open Go.RowKit
set_option linter.unusedVariables false
set_option maxHeartbeats 1000000 in
set_option maxRecDepth 100000 in
theorem y_counts (g r wn f : Nat) (w : World) (h6 : w.cell? ⟨g, 6, none⟩ = some (.int .i64 r)) (h7 : w.cell? ⟨g, 7, none⟩ = some (.int .i64 wn)) (h8 : w.cell? ⟨g, 8, none⟩ = some (.int .i64 f)) :
    Calls Try.prog 33 #[.pointer (some ⟨g, 0, none⟩)] w fun e w' => e = .returned (.tuple #[.int .i64 r, .int .i64 wn, .int .i64 f]) ∧ Same w w' := by
  go_enter Try.func33, Try.ntmps33
  go_wp2
  go_quiet (fail)
  go_wp2
  go_returns
  exact ⟨rfl, (Kept.refl (fun _ => False) w).drewN _⟩
theorem zd_counts {A : Nat → Prop} {B n c g pb pc rb rc : Nat} {s : St} {w : World} (h : ZD A B n c g pb pc rb rc s w) :
    Calls Try.prog 33 #[.pointer (some ⟨g, 0, none⟩)] w fun e w' => e = .returned (.tuple #[.int .i64 s.r, .int .i64 s.wn, .int .i64 s.f]) ∧ Same w w' := by
  obtain ⟨qv, qs, ps, rs, h1, _⟩ := h.ex
  exact y_counts g s.r s.wn s.f w (blk_cell h1) (blk_cell h1) (blk_cell h1)
set_option maxHeartbeats 4000000 in
set_option maxRecDepth 100000 in
theorem step_7 {A : Nat → Prop} {B n c g pb pc rb rc x xb xc M : Nat} {s : St} {w : World} (h : Pair A B n c g pb pc rb rc x xb xc s s w) (p : Op5) (hp : p.ok w) (h1 : p.kind ≠ 1) (h2 : p.kind ≠ 2) (h3 : p.kind ≠ 3) (h4 : p.kind ≠ 4) (h5 : p.kind ≠ 5) (h6 : p.kind ≠ 6) (h9 : p.kind ≠ 9) (h10 : p.kind ≠ 10) :
    Calls Try.prog 26 #[.pointer (some ⟨g, 0, none⟩), .pointer (some ⟨x, 0, none⟩), .agg #[.int .i64 p.kind, .int .i64 p.N, .int .u8 p.byte, .int .i64 p.more, p.kv]] w fun e w' => e = .returned (.bool true) ∧ Pair A B n c g pb pc rb rc x xb xc s s w' ∧ KF B g pb rb x xb w w' := by
  obtain ⟨kd, N, yb, mo, kv, ks⟩ := p
  obtain ⟨ka, kc, hkv⟩ := hp.ints.form
  simp only at hkv h1 h2 h3 h4 h5 h6 h9 h10
  subst hkv
  have hPs : ∀ w', Same w w' → Pair A B n c g pb pc rb rc x xb xc s s w' := fun w' k => h.same k
  have HPS := hidden hPs
  have hc4 : Hid (∀ w', Same w w' → w'.cell? ⟨x, 4, none⟩ = some (.int .i64 s.r) ∧ w'.cell? ⟨x, 5, none⟩ = some (.int .i64 s.wn) ∧ w'.cell? ⟨x, 6, none⟩ = some (.int .i64 s.f)) := fun w' k => by
    obtain ⟨rv, rq, more, i1, _⟩ := (h.same k).r.ex
    exact ⟨blk_cell i1, blk_cell i1, blk_cell i1⟩
  have e1 : (kd == 1) = false := by simpa using h1
  have e2 : (kd == 2) = false := by simpa using h2
  have e3 : (kd == 3) = false := by simpa using h3
  have e4 : (kd == 4) = false := by simpa using h4
  have e5 : (kd == 5) = false := by simpa using h5
  have e6 : (kd == 6) = false := by simpa using h6
  have e9 : (kd == 9) = false := by simpa using h9
  have e10 : (kd == 10) = false := by simpa using h10
  clear hp h hPs
  go_enter Try.func26, Try.ntmps26
  go_wp2_with (go_at_call 33; refine (zd_counts (HPS.out _ (same_alloc w _)).d).mono ?_; rintro e w2 ⟨rfl, k2⟩; have S2 := hidden (Kept.trans (same_alloc w _) k2); obtain ⟨c4, c5, c6⟩ := hc4.out _ S2.out; clear k2)
  go_returns
  exact ⟨by first | rfl | simp, HPS.out _ S2.out, (HPS.out _ (Kept.refl _ _)).kfS S2.out⟩
end Go.Proofs.Yteoajgphahobiaa
