/- A Space's places, whatever the area; Has, Mark, giveBack, Free, Later. -/
import Derived.Test.YtbmbdidmbdanmaaDoorSp9
namespace Go.Proofs.YtbmbdidmbdanmaaDoor
open Go.RowKit
set_option linter.unusedVariables false
set_option linter.unusedSimpArgs false
/-- An area lies within. -/
def Wi (first count : Nat) (af ac : Int) : Prop := 1 ≤ ac ∧ (first : Int) ≤ af ∧ af + ac ≤ (first : Int) + count
instance (first count : Nat) (af ac : Int) : Decidable (Wi first count af ac) := by unfold Wi; infer_instance
set_option maxHeartbeats 2000000 in
set_option maxRecDepth 100000 in
theorem sp_placesNo (g first count : Nat) (u v : Nat → Bool) (res : Nat) (af ac : Int) (w : World) (h : SpAt g first count u v res w) (hf : af ≤ 9223372036854775807) (hn : ¬ Wi first count af ac) :
    Calls Tryd.prog 48 #[.pointer (some ⟨g, 0, none⟩), .agg #[.int .i64 af, .int .i64 ac]] w fun r w' => r = .returned (.tuple #[.int .i64 0, .int .i64 0, .bool false]) ∧ Same w w' := by
  obtain ⟨cs, hb, hsz, q0, q1, hu, hv, q2⟩ := h.box
  have l3 := h.fits
  have c0 : ∀ W, Same w W → W.cell? ⟨g, 0, none⟩ = some (.int .i64 first) := fun W k => (blk_cell (blk_kept k (fun h => h) hb)).trans q0
  have c1 : ∀ W, Same w W → W.cell? ⟨g, 1, none⟩ = some (.int .i64 count) := fun W k => (blk_cell (blk_kept k (fun h => h) hb)).trans q1
  have d0 := fun o => c0 (w.alloc o) (same_alloc _ _)
  have d1 := fun o => c1 (w.alloc o) (same_alloc _ _)
  clear hb h hu hv q0 q1 q2 c0 c1
  have m1 : IntKind.i64.wrap ((first : Int) + (count : Int)) = (first : Int) + (count : Int) := by rw [IntKind.wrap_i64]; omega
  unfold Wi at hn
  by_cases h1 : ac < 1
  · have t1 : decide (ac < 1) = true := decide_eq_true h1
    go_enter Tryd.func48, Tryd.ntmps48
    go_wp2
    go_quiet (fail)
    go_wp2
    go_returns
    exact ⟨rfl, Kept.trans (same_alloc _ _) ((Kept.refl _ _).drewN _)⟩
  have t1 : decide (ac < 1) = false := decide_eq_false h1
  by_cases h2 : af < (first : Int)
  · have t2 : decide (af < (first : Int)) = true := decide_eq_true h2
    go_enter Tryd.func48, Tryd.ntmps48
    go_wp2
    go_quiet (fail)
    go_wp2
    go_returns
    exact ⟨rfl, Kept.trans (same_alloc _ _) ((Kept.refl _ _).drewN _)⟩
  · have t2 : decide (af < (first : Int)) = false := decide_eq_false h2
    have h3 : (first : Int) + (count : Int) - af < ac := by omega
    have t3 : decide ((first : Int) + (count : Int) - af < ac) = true := decide_eq_true h3
    have m2 : IntKind.i64.wrap ((first : Int) + (count : Int) - af) = (first : Int) + (count : Int) - af := by rw [IntKind.wrap_i64]; omega
    go_enter Tryd.func48, Tryd.ntmps48
    go_wp2
    go_quiet (fail)
    go_wp2
    go_returns
    exact ⟨rfl, Kept.trans (same_alloc _ _) ((Kept.refl _ _).drewN _)⟩
/-- What places tells. -/
def plV (first count : Nat) (af ac : Int) : Value := if Wi first count af ac then .tuple #[.int .i64 (af - first), .int .i64 (af - first + ac), .bool true] else .tuple #[.int .i64 0, .int .i64 0, .bool false]
theorem Tab.kept' {w w' : World} (h : Tab w) (k : Same w w') : Tab w' := fun j hj => k.cell (p := ⟨0, j, none⟩) (fun h => h) (h j hj)
theorem First.set_at {h : Nat → Bool} {a r : Nat} (x : First h a (a + 1) r) : (r = a) ↔ h a = true := by
  constructor
  · intro e
    subst e
    exact x.some (by omega)
  · intro e
    rcases Nat.lt_or_ge a r with l | l
    · have := x.none a (Nat.le_refl _) l
      rw [e] at this
      cases this
    · exact Nat.le_antisymm l x.lo
theorem First.all_no {h : Nat → Bool} {a e r : Nat} (x : First h a e r) : (r = e) ↔ ∀ i, a ≤ i → i < e → h i = false := by
  constructor
  · intro he i h1 h2
    subst he
    exact x.none i h1 h2
  · intro ha
    rcases Nat.lt_or_ge r e with l | l
    · have h1 := x.some l
      rw [ha r x.lo l] at h1
      cases h1
    · exact Nat.le_antisymm x.hi l
set_option maxHeartbeats 2000000 in
set_option maxRecDepth 100000 in
theorem sp_has (g first count : Nat) (u v : Nat → Bool) (res : Nat) (sec : Int) (w : World) (h : SpAt g first count u v res w) (hf : sec ≤ 9223372036854775807) (hT : Tab w) :
    Calls Tryd.prog 28 #[.pointer (some ⟨g, 0, none⟩), .int .i64 sec] w fun r w' => r = .returned (.bool (decide (Wi first count sec 1) && (u (sec - first).toNat || v (sec - first).toNat))) ∧ Same w w' := by
  have A := hidden (sp_made g first count u v res w h)
  have HT := hidden hT
  have HH := hidden (fun W (k : Same w W) => h.kept k (fun h => h))
  have l3 := h.fits
  by_cases hw : Wi first count sec 1
  · have hw2 := hw
    obtain ⟨_, w2, w3⟩ := hw
    obtain ⟨p, hp⟩ : ∃ p : Nat, sec = (first : Int) + p := ⟨(sec - first).toNat, by omega⟩
    have hp4 : p + 1 ≤ 4096 := by omega
    have e0 : (sec - first).toNat = p := by omega
    rw [e0, decide_eq_true hw2, Bool.true_and]
    have P := hidden (fun W (k : Same w W) => sp_placesYes g first count u v res sec 1 W (HH.out W k) (by omega) (by omega) (by omega))
    have e1 : sec - (first : Int) = (p : Int) := by omega
    have e2 : (p : Int) + 1 = ((p + 1 : Nat) : Int) := by omega
    rw [e1, e2] at P
    have K := hidden (fun W (k : Same w W) => sp_taken g first count u v res W (HH.out W k))
    clear h hT w2 w3 hp hw2 e0 e1 e2
    go_enter Tryd.func28, Tryd.ntmps28
    go_wp2_with (first
      | (go_at_call 44; refine A.out.mono ?_; rintro e w1 ⟨rfl, rfl⟩)
      | (go_at_call 48; refine (P.out _ (Kept.refl _ _)).mono ?_; rintro e w2 ⟨rfl, k2⟩; have K2 := hidden k2; clear k2)
      | (go_at_call 49; refine (K.out _ K2.out).mono ?_; rintro e w3 ⟨cc, rfl, hc, hb, k3⟩; have K3 := hidden (K2.out.trans k3); have HC := hidden hc; have HBm := hidden hb; clear hc hb k3)
      | (refine wl_store 53 _ _ rfl rfl rfl _ rfl cc rfl (run_storeAt_new w3 53 _ cc (by rw [iBm, HC.out]) (by rw [HC.out]; rfl) (HBm.out.one HC.out)) ?_)
      | (go_at_call 50; refine (bm_firstSet w3.heap.size 0 53 cc _ p (p + 1) _ (blk_new w3 _) HBm.out (HT.out.kept' (K3.out.alloc _)) (by omega) hp4).mono ?_; rintro e w4 ⟨n, rfl, hF, rfl⟩; have HF := hidden hF; clear hF))
    go_returns
    refine ⟨?_, K3.out.alloc _⟩
    have h5 := HF.out.set_at
    show Ending.returned (.bool (decide ((n : Int) = (p : Int)))) = _
    congr 2
    rw [Bool.eq_iff_iff]
    simp only [decide_eq_true_eq]
    rw [← h5]
    omega
  · rw [decide_eq_false hw, Bool.false_and]
    have P := hidden (fun W (k : Same w W) => sp_placesNo g first count u v res sec 1 W (HH.out W k) hf hw)
    have K := hidden (fun W (k : Same w W) => sp_taken g first count u v res W (HH.out W k))
    clear h hT hw
    go_enter Tryd.func28, Tryd.ntmps28
    go_wp2_with (first
      | (go_at_call 44; refine A.out.mono ?_; rintro e w1 ⟨rfl, rfl⟩)
      | (go_at_call 48; refine (P.out _ (Kept.refl _ _)).mono ?_; rintro e w2 ⟨rfl, k2⟩; have K2 := hidden k2; clear k2)
      | (go_at_call 49; refine (K.out _ K2.out).mono ?_; rintro e w3 ⟨cc, rfl, hc, hb, k3⟩; have K3 := hidden (K2.out.trans k3); have HC := hidden hc; have HBm := hidden hb; clear hc hb k3)
      | (refine wl_store 53 _ _ rfl rfl rfl _ rfl cc rfl (run_storeAt_new w3 53 _ cc (by rw [iBm, HC.out]) (by rw [HC.out]; rfl) (HBm.out.one HC.out)) ?_))
    go_returns
    exact ⟨rfl, K3.out.alloc _⟩
end Go.Proofs.YtbmbdidmbdanmaaDoor
