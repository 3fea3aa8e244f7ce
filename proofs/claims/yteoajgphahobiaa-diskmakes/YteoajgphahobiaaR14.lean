/- The law's step, walked: Pending. -/
import Derived.Test.YteoajgphahobiaaR12
namespace Go.Proofs.Yteoajgphahobiaa
open Go.RowKit
set_option linter.unusedVariables false
set_option maxHeartbeats 4000000 in
set_option maxRecDepth 100000 in
theorem step_4 {A : Nat → Prop} {B n c g pb pc rb rc x xb xc M : Nat} {s : St} {w : World} (h : Pair A B n c g pb pc rb rc x xb xc s s w) (hM : SB M s) (hm : M ≤ 4398046511102) (hB : B ≤ w.heap.size) (p : Op5) (hp : p.ok w) (hk : p.kind = 4) :
    Calls Try.prog 26 #[.pointer (some ⟨g, 0, none⟩), .pointer (some ⟨x, 0, none⟩), .agg #[.int .i64 p.kind, .int .i64 p.N, .int .u8 p.byte, .int .i64 p.more, p.kv]] w fun e w' => e = .returned (.bool true) ∧ Pair A B n c g pb pc rb rc x xb xc s s w' ∧ KF B g pb rb x xb w w' := by
  rw [hk]
  obtain ⟨kd, N, yb, mo, kv, ks⟩ := p
  have HOK := hidden hp
  obtain ⟨ka, kc, hkv⟩ := hp.ints.form
  simp only at hkv
  subst hkv
  have hPs : ∀ w', Same w w' → Pair A B n c g pb pc rb rc x xb xc s s w' := fun w' k => h.same k
  have HP := hidden h
  have HPS := hidden hPs
  have HM := hidden hM
  clear hp hk h hPs hM
  have hmm := HM.out.m
  have HPL2 : Hid (s.pds.length = s.pend.length) := by rw [Hid]; simp [St.pds]
  have HPD : Hid (s.pds.length ≤ 140737488355328) := by rw [Hid]; simp [St.pds]; omega
  go_enter Try.func26, Try.ntmps26
  go_wp2_with (first
    | (go_at_call 20; refine (zd_pending (HPS.out _ (same_alloc w _)).d HM.out (by omega)).mono ?_; rintro e w2 ⟨rfl, i2, k2⟩; rw [World.size_alloc] at i2; have K2 := hidden (Kept.trans (same_alloc w _) k2); have I2 := hidden i2; clear i2 k2)
    | (go_at_call 48; refine (rd_pending (HPS.out _ K2.out).r HM.out (by omega)).mono ?_; rintro e w3 ⟨v3, rfl, i3, k3⟩; have K3 := hidden (Kept.trans K2.out k3); have I3 := hidden i3; have I2' := hidden (I2.out.same' k3); obtain ⟨va, vc, hve⟩ := i3.form; rw [HPL2.out] at hve; subst hve; clear i3 k3)
    | (go_at_call 31; refine (sameInts_eq _ _ s.pds _ I2'.out I3.out HPD.out).mono ?_; rintro e w4 ⟨rfl, k4⟩; have K4 := hidden (Kept.trans K3.out k4); clear k4))
  go_returns
  exact ⟨by first | rfl | simp, HPS.out _ K4.out, (HPS.out _ (Kept.refl _ _)).kfS K4.out⟩
end Go.Proofs.Yteoajgphahobiaa
