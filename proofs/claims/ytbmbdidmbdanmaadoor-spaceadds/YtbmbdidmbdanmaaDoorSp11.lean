/- A Space's Left (the world told), Mark, giveBack, Free, Later. -/
import Derived.Test.YtbmbdidmbdanmaaDoorSp10
namespace Go.Proofs.YtbmbdidmbdanmaaDoor
open Go.RowKit
set_option linter.unusedVariables false
set_option linter.unusedSimpArgs false
theorem SpAt.newU {g first count : Nat} {u v u' : Nat → Bool} {res : Nat} {w w' : World} (h : SpAt g first count u v res w) {cs cs' : Array Value} (hb : w.heap[g]? = some (.cells cs 55 (0, 0))) (hb' : w'.heap[g]? = some (.cells cs' 55 (0, 0))) (ho : Out 2 cs cs') (hu : BmIn cs' 2 u') (hin : ∀ i, count ≤ i → i < 4096 → u' i = false) : SpAt g first count u' v res w' := by
  obtain ⟨c0, b0, h1, h2, h3, h4, h5, h6⟩ := h.box
  obtain rfl : c0 = cs := by rw [hb] at b0; simpa using b0.symm
  refine ⟨⟨cs', hb', by rw [ho.1]; exact h1, by rw [ho.2 0 (by omega)]; exact h2, by rw [ho.2 1 (by omega)]; exact h3, hu, ⟨fun k hk => ?_⟩, by rw [ho.2 130 (by omega)]; exact h6⟩, h.fits, hin, h.inV⟩
  obtain ⟨n, a, b, c⟩ := h5.word k hk
  exact ⟨n, by rw [ho.2 (66 + k) (by omega)]; exact a, b, c⟩
theorem SpAt.newV {g first count : Nat} {u v v' : Nat → Bool} {res : Nat} {w w' : World} (h : SpAt g first count u v res w) {cs cs' : Array Value} (hb : w.heap[g]? = some (.cells cs 55 (0, 0))) (hb' : w'.heap[g]? = some (.cells cs' 55 (0, 0))) (ho : Out 66 cs cs') (hv : BmIn cs' 66 v') (hin : ∀ i, count ≤ i → i < 4096 → v' i = false) : SpAt g first count u v' res w' := by
  obtain ⟨c0, b0, h1, h2, h3, h4, h5, h6⟩ := h.box
  obtain rfl : c0 = cs := by rw [hb] at b0; simpa using b0.symm
  refine ⟨⟨cs', hb', by rw [ho.1]; exact h1, by rw [ho.2 0 (by omega)]; exact h2, by rw [ho.2 1 (by omega)]; exact h3, ⟨fun k hk => ?_⟩, hv, by rw [ho.2 130 (by omega)]; exact h6⟩, h.fits, h.inU, hin⟩
  obtain ⟨n, a, b, c⟩ := h4.word k hk
  exact ⟨n, by rw [ho.2 (2 + k) (by omega)]; exact a, b, c⟩
/-- What is left. -/
def leftZ (count : Nat) (u v : Nat → Bool) (res : Nat) : Int := (count : Int) - (cnt u 4096 : Nat) - (cnt v 4096 : Nat) - res
set_option maxHeartbeats 1000000 in
set_option maxRecDepth 100000 in
theorem sp_leftN (g first count : Nat) (u v : Nat → Bool) (res : Nat) (w : World) (h : SpAt g first count u v res w) :
    Calls Tryd.prog 25 #[.pointer (some ⟨g, 0, none⟩)] w fun r w' => r = .returned (.int .i64 (leftZ count u v res)) ∧ ∃ n, w' = w.drewN n := by
  obtain ⟨cs, hb, hsz, q0, q1, hu, hv, q2⟩ := h.box
  have A := hidden (sp_made g first count u v res w h)
  have B := hidden (fun n => bm_ones g 2 _ cs u (w.drewN n) (blk_kept ((Kept.refl (fun _ => False) w).drewN n) (fun h => h) hb) hu)
  have C := hidden (fun n => bm_ones g 66 _ cs v (w.drewN n) (blk_kept ((Kept.refl (fun _ => False) w).drewN n) (fun h => h) hb) hv)
  have c1 : w.cell? ⟨g, 1, none⟩ = some (.int .i64 count) := (blk_cell hb).trans q1
  have c2 : w.cell? ⟨g, 130, none⟩ = some (.int .i64 res) := (blk_cell hb).trans q2
  have l1 := cnt_le u 4096
  have l2 := cnt_le v 4096
  have l3 := h.fits
  unfold leftZ
  generalize cnt u 4096 = x at *
  generalize cnt v 4096 = y at *
  clear hb h hu hv q0 q1 q2
  have m1 : IntKind.i64.wrap ((count : Int) - (x : Int)) = (count : Int) - (x : Int) := by rw [IntKind.wrap_i64]; omega
  have m2 : IntKind.i64.wrap ((count : Int) - (x : Int) - (y : Int)) = (count : Int) - (x : Int) - (y : Int) := by rw [IntKind.wrap_i64]; omega
  have m3 : IntKind.i64.wrap ((count : Int) - (x : Int) - (y : Int) - (res : Int)) = (count : Int) - (x : Int) - (y : Int) - (res : Int) := by rw [IntKind.wrap_i64]; omega
  go_enter Tryd.func25, Tryd.ntmps25
  go_wp2_with (go_at_call 44; refine A.out.mono ?_; rintro e w1 ⟨rfl, rfl⟩)
  go_quiet (first
    | (go_at_call_of 47 (Value.pointer (some ⟨g, 2, none⟩)); exact Calls.quiet_of_same ((B.out _).mono fun _ _ ⟨a, b⟩ => ⟨a, b.symm⟩))
    | (go_at_call 47; exact Calls.quiet_of_same ((C.out _).mono fun _ _ ⟨a, b⟩ => ⟨a, b.symm⟩)))
  go_wp2
  go_returns
  exact ⟨rfl, _, rfl⟩
theorem left_bd (count : Nat) (u v : Nat → Bool) (res : Nat) (h1 : count ≤ 4096) (h2 : res ≤ 4096) : -20000 ≤ leftZ count u v res ∧ leftZ count u v res ≤ 20000 := by
  have l1 := cnt_le u 4096
  have l2 := cnt_le v 4096
  unfold leftZ
  omega
theorem fSet_in {u : Nat → Bool} {p m count : Nat} (h : ∀ i, count ≤ i → i < 4096 → u i = false) (hp : p + m ≤ count) : ∀ i, count ≤ i → i < 4096 → fSet u p (p + m) i = false := fun i h1 h2 => by
  unfold fSet
  rw [h i h1 h2, decide_eq_false (show ¬ i < p + m by omega)]
  simp
theorem fUnset_in {u : Nat → Bool} {p m count : Nat} (h : ∀ i, count ≤ i → i < 4096 → u i = false) : ∀ i, count ≤ i → i < 4096 → fUnset u p m i = false := fun i h1 h2 => by
  unfold fUnset
  rw [h i h1 h2]
  rfl
/-- What Mark tells. -/
def allNo (t : Nat → Bool) (p m : Nat) : Prop := ∀ i, p ≤ i → i < p + m → t i = false
set_option maxHeartbeats 2000000 in
set_option maxRecDepth 100000 in
theorem sp_markOut (g first count : Nat) (u v : Nat → Bool) (res : Nat) (af ac : Int) (w : World) (h : SpAt g first count u v res w) (hf : af ≤ 9223372036854775807) (hn : ¬ Wi first count af ac) :
    Calls Tryd.prog 21 #[.pointer (some ⟨g, 0, none⟩), .agg #[.int .i64 af, .int .i64 ac]] w fun r w' => r = .returned (.int .i64 60) ∧ Same w w' := by
  have A := hidden (fun W (k : Same w W) => sp_made g first count u v res W (h.kept k (fun h => h)))
  have HH := hidden (fun W (k : Same w W) => h.kept k (fun h => h))
  have P := hidden (fun W (k : Same w W) => sp_placesNo g first count u v res af ac W (HH.out W k) hf hn)
  have K := hidden (fun W (k : Same w W) => sp_taken g first count u v res W (HH.out W k))
  clear h hn
  go_enter Tryd.func21, Tryd.ntmps21
  go_wp2_with (first
    | (go_at_call 44; refine (A.out _ (same_alloc _ _)).mono ?_; rintro e w1 ⟨rfl, rfl⟩)
    | (go_at_call 48; refine (P.out _ (same_alloc _ _)).mono ?_; rintro e w2 ⟨rfl, k2⟩; have K2 := hidden ((same_alloc w _).trans k2); clear k2)
    | (go_at_call 49; refine (K.out _ K2.out).mono ?_; rintro e w3 ⟨cc, rfl, hc, hb, k3⟩; have K3 := hidden (K2.out.trans k3); have HC := hidden hc; have HBm := hidden hb; clear hc hb k3)
    | (refine wl_store 53 _ _ rfl rfl rfl _ rfl cc rfl (run_storeAt_new w3 53 _ cc (by rw [iBm, HC.out]) (by rw [HC.out]; rfl) (HBm.out.one HC.out)) ?_))
  go_returns
  exact ⟨rfl, K3.out.alloc _⟩
-- MADE BY mksp11.py
set_option maxHeartbeats 2000000 in
set_option maxRecDepth 100000 in
theorem sp_markBusy (g first count : Nat) (u v : Nat → Bool) (res : Nat) (p m : Nat) (w : World) (h : SpAt g first count u v res w) (hm : 1 ≤ m) (hp : p + m ≤ count) (hT : Tab w) (ha : ¬ allNo (fun i => u i || v i) p m) :
    Calls Tryd.prog 21 #[.pointer (some ⟨g, 0, none⟩), .agg #[.int .i64 ((first + p : Nat) : Int), .int .i64 (m : Int)]] w fun r w' => r = .returned (.int .i64 60) ∧ Same w w' := by
  have A := hidden (fun W (k : Same w W) => sp_made g first count u v res W (h.kept k (fun h => h)))
  have HH := hidden (fun W (k : Same w W) => h.kept k (fun h => h))
  have l3 := h.fits
  have P := hidden (fun W (k : Same w W) => sp_placesYes g first count u v res ((first + p : Nat) : Int) (m : Int) W (HH.out W k) (by omega) (by omega) (by omega))
  have e1 : ((first + p : Nat) : Int) - (first : Int) = (p : Int) := by omega
  have e2 : (p : Int) + (m : Int) = ((p + m : Nat) : Int) := by omega
  rw [e1, e2] at P
  have HT := hidden hT
  have HINU := hidden h.inU
  have HINV := hidden h.inV
  have HP := hidden hp
  have K := hidden (fun W (k : Same w W) => sp_taken g first count u v res W (HH.out W k))
  have HL := hidden (fun W (k : Same w W) => sp_leftN g first count u v res W (HH.out W k))
  have hlb := left_bd count u v res (by omega) (by omega)
  obtain ⟨q, hq⟩ : ∃ q, q = p + m := ⟨_, rfl⟩
  have hq4 : q ≤ 4096 := by omega
  have hpq : p ≤ q := by omega
  rw [← hq] at P
  have HQ := hidden hq
  obtain ⟨af, haf⟩ : ∃ af : Int, af = ((first + p : Nat) : Int) := ⟨_, rfl⟩
  rw [← haf] at P ⊢
  have HA := hidden ha
  generalize leftZ count u v res = L at *
  clear h hT e1 e2 haf hq ha
  go_enter Tryd.func21, Tryd.ntmps21
  go_wp2_with (first
    | (go_at_call 44; refine (A.out _ (same_alloc _ _)).mono ?_; rintro e w1 ⟨rfl, rfl⟩)
    | (go_at_call 48; refine (P.out _ (same_alloc _ _)).mono ?_; rintro e w2 ⟨rfl, k2⟩; have b2 := hidden (blk_kept k2 (fun h => h) (blk_new w _)); have K2 := hidden ((same_alloc w _).trans k2); clear k2)
    | (go_at_call 49; refine (K.out _ K2.out).mono ?_; rintro e w3 ⟨cc, rfl, hc, hb, k3⟩; have b3 := hidden (blk_kept k3 (fun h => h) b2.out); have K3 := hidden (K2.out.trans k3); have HC := hidden hc; have HBm := hidden hb; clear hc hb k3)
    | (refine wl_store 53 _ _ rfl rfl rfl _ rfl cc rfl (run_storeAt_new w3 53 _ cc (by rw [iBm, HC.out]) (by rw [HC.out]; rfl) (HBm.out.one HC.out)) ?_)
    | (go_at_call 50; refine (bm_firstSet w3.heap.size 0 53 cc _ p q _ (blk_new w3 _) HBm.out (HT.out.kept' (K3.out.alloc _)) (by omega) hq4).mono ?_; rintro e w4 ⟨n, rfl, hF, rfl⟩; have hne : ¬ (n : Int) = (q : Int) := fun e => HA.out (by have h9 := hF.all_no.1 (by omega); rw [HQ.out] at h9; exact h9); clear hF))
  go_returns
  exact ⟨rfl, K3.out.alloc _⟩
set_option maxHeartbeats 2000000 in
set_option maxRecDepth 100000 in
theorem sp_markFull (g first count : Nat) (u v : Nat → Bool) (res : Nat) (p m : Nat) (w : World) (h : SpAt g first count u v res w) (hm : 1 ≤ m) (hp : p + m ≤ count) (hT : Tab w) (ha : allNo (fun i => u i || v i) p m) (hl : leftZ count u v res < m) :
    Calls Tryd.prog 21 #[.pointer (some ⟨g, 0, none⟩), .agg #[.int .i64 ((first + p : Nat) : Int), .int .i64 (m : Int)]] w fun r w' => r = .returned (.int .i64 2) ∧ Same w w' := by
  have A := hidden (fun W (k : Same w W) => sp_made g first count u v res W (h.kept k (fun h => h)))
  have HH := hidden (fun W (k : Same w W) => h.kept k (fun h => h))
  have l3 := h.fits
  have P := hidden (fun W (k : Same w W) => sp_placesYes g first count u v res ((first + p : Nat) : Int) (m : Int) W (HH.out W k) (by omega) (by omega) (by omega))
  have e1 : ((first + p : Nat) : Int) - (first : Int) = (p : Int) := by omega
  have e2 : (p : Int) + (m : Int) = ((p + m : Nat) : Int) := by omega
  rw [e1, e2] at P
  have HT := hidden hT
  have HINU := hidden h.inU
  have HINV := hidden h.inV
  have HP := hidden hp
  have K := hidden (fun W (k : Same w W) => sp_taken g first count u v res W (HH.out W k))
  have HL := hidden (fun W (k : Same w W) => sp_leftN g first count u v res W (HH.out W k))
  have hlb := left_bd count u v res (by omega) (by omega)
  obtain ⟨q, hq⟩ : ∃ q, q = p + m := ⟨_, rfl⟩
  have hq4 : q ≤ 4096 := by omega
  have hpq : p ≤ q := by omega
  rw [← hq] at P
  have HQ := hidden hq
  obtain ⟨af, haf⟩ : ∃ af : Int, af = ((first + p : Nat) : Int) := ⟨_, rfl⟩
  rw [← haf] at P ⊢
  have HA := hidden ha
  generalize leftZ count u v res = L at *
  clear h hT e1 e2 haf hq ha
  go_enter Tryd.func21, Tryd.ntmps21
  go_wp2_with (first
    | (go_at_call 44; refine (A.out _ (same_alloc _ _)).mono ?_; rintro e w1 ⟨rfl, rfl⟩)
    | (go_at_call 48; refine (P.out _ (same_alloc _ _)).mono ?_; rintro e w2 ⟨rfl, k2⟩; have b2 := hidden (blk_kept k2 (fun h => h) (blk_new w _)); have K2 := hidden ((same_alloc w _).trans k2); clear k2)
    | (go_at_call 49; refine (K.out _ K2.out).mono ?_; rintro e w3 ⟨cc, rfl, hc, hb, k3⟩; have b3 := hidden (blk_kept k3 (fun h => h) b2.out); have K3 := hidden (K2.out.trans k3); have HC := hidden hc; have HBm := hidden hb; clear hc hb k3)
    | (refine wl_store 53 _ _ rfl rfl rfl _ rfl cc rfl (run_storeAt_new w3 53 _ cc (by rw [iBm, HC.out]) (by rw [HC.out]; rfl) (HBm.out.one HC.out)) ?_)
    | (go_at_call 50; refine (bm_firstSet w3.heap.size 0 53 cc _ p q _ (blk_new w3 _) HBm.out (HT.out.kept' (K3.out.alloc _)) (by omega) hq4).mono ?_; rintro e w4 ⟨n, rfl, hF, rfl⟩; have hne : n = q := hF.all_no.2 (by rw [HQ.out]; exact HA.out); subst hne; clear hF))
  have x1 : (w3.alloc (.cells cc 53)).cell? ⟨w.heap.size, 1, none⟩ = some (.int .i64 (m : Int)) := blk_cell (blk_alloc b3.out _)
  have KW := hidden (K3.out.alloc (.cells cc 53))
  generalize w3.alloc (.cells cc 53) = w5 at x1 KW ⊢
  have KD := hidden (fun nn => KW.out.trans ((Kept.refl (fun _ => False) w5).drewN nn))
  go_quiet (first | (go_at_call 25; exact Calls.quiet_of (HL.out _ (KD.out _))))
  go_wp2
  go_returns
  exact ⟨rfl, KD.out _⟩
set_option maxHeartbeats 2000000 in
set_option maxRecDepth 100000 in
theorem sp_markOk (g first count : Nat) (u v : Nat → Bool) (res : Nat) (p m : Nat) (w : World) (h : SpAt g first count u v res w) (hm : 1 ≤ m) (hp : p + m ≤ count) (hT : Tab w) (ha : allNo (fun i => u i || v i) p m) (hl : ¬ leftZ count u v res < m) :
    Calls Tryd.prog 21 #[.pointer (some ⟨g, 0, none⟩), .agg #[.int .i64 ((first + p : Nat) : Int), .int .i64 (m : Int)]] w fun r w' => r = .returned (.int .i64 0) ∧ SpAt g first count (fSet u p (p + m)) v res w' ∧ Kept (fun b => b = g) w w' := by
  have A := hidden (fun W (k : Same w W) => sp_made g first count u v res W (h.kept k (fun h => h)))
  have HH := hidden (fun W (k : Same w W) => h.kept k (fun h => h))
  have l3 := h.fits
  have P := hidden (fun W (k : Same w W) => sp_placesYes g first count u v res ((first + p : Nat) : Int) (m : Int) W (HH.out W k) (by omega) (by omega) (by omega))
  have e1 : ((first + p : Nat) : Int) - (first : Int) = (p : Int) := by omega
  have e2 : (p : Int) + (m : Int) = ((p + m : Nat) : Int) := by omega
  rw [e1, e2] at P
  have HT := hidden hT
  have HINU := hidden h.inU
  have HINV := hidden h.inV
  have HP := hidden hp
  have K := hidden (fun W (k : Same w W) => sp_taken g first count u v res W (HH.out W k))
  have HL := hidden (fun W (k : Same w W) => sp_leftN g first count u v res W (HH.out W k))
  have hlb := left_bd count u v res (by omega) (by omega)
  obtain ⟨q, hq⟩ : ∃ q, q = p + m := ⟨_, rfl⟩
  have hq4 : q ≤ 4096 := by omega
  have hpq : p ≤ q := by omega
  rw [← hq] at P
  have HQ := hidden hq
  obtain ⟨af, haf⟩ : ∃ af : Int, af = ((first + p : Nat) : Int) := ⟨_, rfl⟩
  rw [← haf] at P ⊢
  have HA := hidden ha
  generalize leftZ count u v res = L at *
  clear h hT e1 e2 haf hq ha
  go_enter Tryd.func21, Tryd.ntmps21
  go_wp2_with (first
    | (go_at_call 44; refine (A.out _ (same_alloc _ _)).mono ?_; rintro e w1 ⟨rfl, rfl⟩)
    | (go_at_call 48; refine (P.out _ (same_alloc _ _)).mono ?_; rintro e w2 ⟨rfl, k2⟩; have b2 := hidden (blk_kept k2 (fun h => h) (blk_new w _)); have K2 := hidden ((same_alloc w _).trans k2); clear k2)
    | (go_at_call 49; refine (K.out _ K2.out).mono ?_; rintro e w3 ⟨cc, rfl, hc, hb, k3⟩; have b3 := hidden (blk_kept k3 (fun h => h) b2.out); have K3 := hidden (K2.out.trans k3); have HC := hidden hc; have HBm := hidden hb; clear hc hb k3)
    | (refine wl_store 53 _ _ rfl rfl rfl _ rfl cc rfl (run_storeAt_new w3 53 _ cc (by rw [iBm, HC.out]) (by rw [HC.out]; rfl) (HBm.out.one HC.out)) ?_)
    | (go_at_call 50; refine (bm_firstSet w3.heap.size 0 53 cc _ p q _ (blk_new w3 _) HBm.out (HT.out.kept' (K3.out.alloc _)) (by omega) hq4).mono ?_; rintro e w4 ⟨n, rfl, hF, rfl⟩; have hne : n = q := hF.all_no.2 (by rw [HQ.out]; exact HA.out); subst hne; clear hF))
  have x1 : (w3.alloc (.cells cc 53)).cell? ⟨w.heap.size, 1, none⟩ = some (.int .i64 (m : Int)) := blk_cell (blk_alloc b3.out _)
  have KW := hidden (K3.out.alloc (.cells cc 53))
  generalize w3.alloc (.cells cc 53) = w5 at x1 KW ⊢
  have KD := hidden (fun nn => KW.out.trans ((Kept.refl (fun _ => False) w5).drewN nn))
  go_quiet (first | (go_at_call 25; exact Calls.quiet_of (HL.out _ (KD.out _))))
  obtain ⟨cs, hb, hrest⟩ := (HH.out _ (KD.out nq)).box
  have hu := hrest.2.2.2.1
  have HSet := hidden (bm_set g 2 55 cs u p n _ hb hu (by omega) hq4)
  have HB := hidden hb
  clear hb hrest hu
  have KD6 := hidden (KD.out nq)
  clear KD
  generalize w5.drewN nq = w6 at *
  go_wp2_with (go_at_call 45; refine (HSet.out).mono ?_; rintro e w7 ⟨rfl, k7, cs', hb7, ho7, hu7⟩; have K7 := hidden k7; have B7 := hidden hb7; have O7 := hidden ho7; have U7 := hidden hu7; clear k7 hb7 ho7 hu7)
  go_returns
  refine ⟨rfl, ?_, ((KD6.out).mono (fun k _ h => h.elim)).trans K7.out⟩
  have hq := HQ.out
  rw [← hq]
  have hin := fSet_in HINU.out HP.out
  rw [← hq] at hin
  exact (HH.out _ KD6.out).newU HB.out B7.out O7.out U7.out hin
set_option maxHeartbeats 2000000 in
set_option maxRecDepth 100000 in
theorem sp_giveNo (g first count : Nat) (u v : Nat → Bool) (res : Nat) (p m : Nat) (w : World) (h : SpAt g first count u v res w) (hm : 1 ≤ m) (hp : p + m ≤ count) (hT : Tab w) (ha : ¬ allNo (fun i => !u i) p m) :
    Calls Tryd.prog 46 #[.pointer (some ⟨g, 0, none⟩), .agg #[.int .i64 ((first + p : Nat) : Int), .int .i64 (m : Int)]] w fun r w' => r = .returned (.tuple #[.int .i64 0, .int .i64 0, .int .i64 60]) ∧ Same w w' := by
  have A := hidden (fun W (k : Same w W) => sp_made g first count u v res W (h.kept k (fun h => h)))
  have HH := hidden (fun W (k : Same w W) => h.kept k (fun h => h))
  have l3 := h.fits
  have P := hidden (fun W (k : Same w W) => sp_placesYes g first count u v res ((first + p : Nat) : Int) (m : Int) W (HH.out W k) (by omega) (by omega) (by omega))
  have e1 : ((first + p : Nat) : Int) - (first : Int) = (p : Int) := by omega
  have e2 : (p : Int) + (m : Int) = ((p + m : Nat) : Int) := by omega
  rw [e1, e2] at P
  have HT := hidden hT
  have HINU := hidden h.inU
  have HINV := hidden h.inV
  have HP := hidden hp
  obtain ⟨q, hq⟩ : ∃ q, q = p + m := ⟨_, rfl⟩
  have hq4 : q ≤ 4096 := by omega
  have hpq : p ≤ q := by omega
  rw [← hq] at P
  have HQ := hidden hq
  obtain ⟨af, haf⟩ : ∃ af : Int, af = ((first + p : Nat) : Int) := ⟨_, rfl⟩
  rw [← haf] at P ⊢
  have HA := hidden ha
  obtain ⟨cs, hb, hrest⟩ := h.box
  have hu := hrest.2.2.2.1
  have HU := hidden hu
  have HBk := hidden (fun W (k : Same w W) => blk_kept k (fun h => h) hb)
  clear h hT e1 e2 haf hq ha hb hrest hu
  go_enter Tryd.func46, Tryd.ntmps46
  go_wp2_with (first
    | (go_at_call 44; refine (A.out _ (same_alloc _ _)).mono ?_; rintro e w1 ⟨rfl, rfl⟩)
    | (go_at_call 48; refine (P.out _ (same_alloc _ _)).mono ?_; rintro e w2 ⟨rfl, k2⟩; have K2 := hidden ((same_alloc w _).trans k2); clear k2)
    | (go_at_call 52; refine (bm_firstUnset g 2 55 cs u p q _ (HBk.out _ K2.out) HU.out (HT.out.kept' K2.out) (by omega) hq4).mono ?_; rintro e w4 ⟨n, rfl, hF, rfl⟩; have hne : ¬ (n : Int) = (q : Int) := fun e => HA.out (by have h9 := hF.all_no.1 (by omega); rw [HQ.out] at h9; exact h9); clear hF)
    | (go_at_call 57; refine (bm_unset g 2 55 cs u p _ _ (HBk.out _ K2.out) HU.out (by omega) hq4).mono ?_; rintro e w7 ⟨rfl, k7, cs', hb7, ho7, hu7⟩; have K7 := hidden k7; have B7 := hidden hb7; have O7 := hidden ho7; have U7 := hidden hu7; clear k7 hb7 ho7 hu7))
  go_returns
  exact ⟨rfl, K2.out⟩
set_option maxHeartbeats 2000000 in
set_option maxRecDepth 100000 in
theorem sp_giveOk (g first count : Nat) (u v : Nat → Bool) (res : Nat) (p m : Nat) (w : World) (h : SpAt g first count u v res w) (hm : 1 ≤ m) (hp : p + m ≤ count) (hT : Tab w) (ha : allNo (fun i => !u i) p m) :
    Calls Tryd.prog 46 #[.pointer (some ⟨g, 0, none⟩), .agg #[.int .i64 ((first + p : Nat) : Int), .int .i64 (m : Int)]] w fun r w' => r = .returned (.tuple #[.int .i64 (p : Int), .int .i64 ((p + m : Nat) : Int), .int .i64 0]) ∧ SpAt g first count (fUnset u p (p + m)) v res w' ∧ Kept (fun b => b = g) w w' := by
  have A := hidden (fun W (k : Same w W) => sp_made g first count u v res W (h.kept k (fun h => h)))
  have HH := hidden (fun W (k : Same w W) => h.kept k (fun h => h))
  have l3 := h.fits
  have P := hidden (fun W (k : Same w W) => sp_placesYes g first count u v res ((first + p : Nat) : Int) (m : Int) W (HH.out W k) (by omega) (by omega) (by omega))
  have e1 : ((first + p : Nat) : Int) - (first : Int) = (p : Int) := by omega
  have e2 : (p : Int) + (m : Int) = ((p + m : Nat) : Int) := by omega
  rw [e1, e2] at P
  have HT := hidden hT
  have HINU := hidden h.inU
  have HINV := hidden h.inV
  have HP := hidden hp
  obtain ⟨q, hq⟩ : ∃ q, q = p + m := ⟨_, rfl⟩
  have hq4 : q ≤ 4096 := by omega
  have hpq : p ≤ q := by omega
  rw [← hq] at P
  have HQ := hidden hq
  obtain ⟨af, haf⟩ : ∃ af : Int, af = ((first + p : Nat) : Int) := ⟨_, rfl⟩
  rw [← haf] at P ⊢
  have HA := hidden ha
  obtain ⟨cs, hb, hrest⟩ := h.box
  have hu := hrest.2.2.2.1
  have HU := hidden hu
  have HBk := hidden (fun W (k : Same w W) => blk_kept k (fun h => h) hb)
  clear h hT e1 e2 haf hq ha hb hrest hu
  go_enter Tryd.func46, Tryd.ntmps46
  go_wp2_with (first
    | (go_at_call 44; refine (A.out _ (same_alloc _ _)).mono ?_; rintro e w1 ⟨rfl, rfl⟩)
    | (go_at_call 48; refine (P.out _ (same_alloc _ _)).mono ?_; rintro e w2 ⟨rfl, k2⟩; have K2 := hidden ((same_alloc w _).trans k2); clear k2)
    | (go_at_call 52; refine (bm_firstUnset g 2 55 cs u p q _ (HBk.out _ K2.out) HU.out (HT.out.kept' K2.out) (by omega) hq4).mono ?_; rintro e w4 ⟨n, rfl, hF, rfl⟩; have hne : n = q := hF.all_no.2 (by rw [HQ.out]; exact HA.out); subst hne; clear hF)
    | (go_at_call 57; refine (bm_unset g 2 55 cs u p _ _ (HBk.out _ K2.out) HU.out (by omega) hq4).mono ?_; rintro e w7 ⟨rfl, k7, cs', hb7, ho7, hu7⟩; have K7 := hidden k7; have B7 := hidden hb7; have O7 := hidden ho7; have U7 := hidden hu7; clear k7 hb7 ho7 hu7))
  go_returns
  refine ⟨by rw [← HQ.out]; rfl, ?_, ((K2.out).mono (fun k _ h => h.elim)).trans K7.out⟩
  have hin := fUnset_in (p := p) (m := p + m) HINU.out
  have hq := HQ.out
  rw [← hq] at hin ⊢
  exact (HH.out _ K2.out).newU (HBk.out _ K2.out) B7.out O7.out U7.out hin
set_option maxHeartbeats 2000000 in
set_option maxRecDepth 100000 in
theorem sp_giveOut (g first count : Nat) (u v : Nat → Bool) (res : Nat) (af ac : Int) (w : World) (h : SpAt g first count u v res w) (hf : af ≤ 9223372036854775807) (hn : ¬ Wi first count af ac) :
    Calls Tryd.prog 46 #[.pointer (some ⟨g, 0, none⟩), .agg #[.int .i64 af, .int .i64 ac]] w fun r w' => r = .returned (.tuple #[.int .i64 0, .int .i64 0, .int .i64 60]) ∧ Same w w' := by
  have A := hidden (fun W (k : Same w W) => sp_made g first count u v res W (h.kept k (fun h => h)))
  have P := hidden (fun W (k : Same w W) => sp_placesNo g first count u v res af ac W (h.kept k (fun h => h)) hf hn)
  clear h hn
  go_enter Tryd.func46, Tryd.ntmps46
  go_wp2_with (first
    | (go_at_call 44; refine (A.out _ (same_alloc _ _)).mono ?_; rintro e w1 ⟨rfl, rfl⟩)
    | (go_at_call 48; refine (P.out _ (same_alloc _ _)).mono ?_; rintro e w2 ⟨rfl, k2⟩; have K2 := hidden ((same_alloc w _).trans k2); clear k2))
  go_returns
  exact ⟨rfl, K2.out⟩
set_option maxHeartbeats 2000000 in
set_option maxRecDepth 100000 in
theorem sp_freeNo (g : Nat) (af ac : Int) (w : World) (hg : ∀ W, Same w W → Calls Tryd.prog 46 #[.pointer (some ⟨g, 0, none⟩), .agg #[.int .i64 af, .int .i64 ac]] W fun r w' => r = .returned (.tuple #[.int .i64 0, .int .i64 0, .int .i64 60]) ∧ Same W w') :
    Calls Tryd.prog 16 #[.pointer (some ⟨g, 0, none⟩), .agg #[.int .i64 af, .int .i64 ac]] w fun r w' => r = .returned (.int .i64 60) ∧ Same w w' := by
  have G := hidden hg
  clear hg
  go_enter Tryd.func16, Tryd.ntmps16
  go_wp2_with (go_at_call 46; refine (G.out _ (same_alloc _ _)).mono ?_; rintro e w2 ⟨rfl, k2⟩; have K2 := hidden ((same_alloc w _).trans k2); clear k2)
  go_returns
  exact ⟨rfl, K2.out⟩
set_option maxHeartbeats 2000000 in
set_option maxRecDepth 100000 in
theorem sp_laterNo (g : Nat) (af ac : Int) (w : World) (hg : ∀ W, Same w W → Calls Tryd.prog 46 #[.pointer (some ⟨g, 0, none⟩), .agg #[.int .i64 af, .int .i64 ac]] W fun r w' => r = .returned (.tuple #[.int .i64 0, .int .i64 0, .int .i64 60]) ∧ Same W w') :
    Calls Tryd.prog 17 #[.pointer (some ⟨g, 0, none⟩), .agg #[.int .i64 af, .int .i64 ac]] w fun r w' => r = .returned (.int .i64 60) ∧ Same w w' := by
  have G := hidden hg
  clear hg
  go_enter Tryd.func17, Tryd.ntmps17
  go_wp2_with (go_at_call 46; refine (G.out _ (same_alloc _ _)).mono ?_; rintro e w2 ⟨rfl, k2⟩; have K2 := hidden ((same_alloc w _).trans k2); clear k2)
  go_returns
  exact ⟨rfl, K2.out⟩
set_option maxHeartbeats 2000000 in
set_option maxRecDepth 100000 in
theorem sp_freeOk (g first count : Nat) (u v : Nat → Bool) (res : Nat) (p m : Nat) (w : World) (h : SpAt g first count u v res w) (hm : 1 ≤ m) (hp : p + m ≤ count) (hT : Tab w) (ha : allNo (fun i => !u i) p m) :
    Calls Tryd.prog 16 #[.pointer (some ⟨g, 0, none⟩), .agg #[.int .i64 ((first + p : Nat) : Int), .int .i64 (m : Int)]] w fun r w' => r = .returned (.int .i64 0) ∧ SpAt g first count (fUnset u p (p + m)) v res w' ∧ Kept (fun b => b = g) w w' := by
  have G := hidden (fun W (k : Same w W) => sp_giveOk g first count u v res p m W (h.kept k (fun h => h)) hm hp (hT.kept' k) ha)
  obtain ⟨af, haf⟩ : ∃ af : Int, af = ((first + p : Nat) : Int) := ⟨_, rfl⟩
  rw [← haf] at G ⊢
  clear h hT ha haf
  go_enter Tryd.func16, Tryd.ntmps16
  go_wp2_with (go_at_call 46; refine (G.out _ (same_alloc _ _)).mono ?_; rintro e w2 ⟨rfl, h2, k2⟩; have H2 := hidden h2; have K2 := hidden (((same_alloc w _).mono (fun k _ h => h.elim)).trans k2); clear h2 k2)
  go_returns
  exact ⟨rfl, H2.out, K2.out⟩
set_option maxHeartbeats 2000000 in
set_option maxRecDepth 100000 in
theorem sp_laterOk (g first count : Nat) (u v : Nat → Bool) (res : Nat) (p m : Nat) (w : World) (h : SpAt g first count u v res w) (hm : 1 ≤ m) (hp : p + m ≤ count) (hT : Tab w) (ha : allNo (fun i => !u i) p m) :
    Calls Tryd.prog 17 #[.pointer (some ⟨g, 0, none⟩), .agg #[.int .i64 ((first + p : Nat) : Int), .int .i64 (m : Int)]] w fun r w' => r = .returned (.int .i64 0) ∧ SpAt g first count (fUnset u p (p + m)) (fSet v p (p + m)) res w' ∧ Kept (fun b => b = g) w w' := by
  have G := hidden (fun W (k : Same w W) => sp_giveOk g first count u v res p m W (h.kept k (fun h => h)) hm hp (hT.kept' k) ha)
  have l3 := h.fits
  have HIN := hidden (fSet_in h.inV hp)
  obtain ⟨q, hq⟩ : ∃ q, q = p + m := ⟨_, rfl⟩
  have hq4 : q ≤ 4096 := by omega
  have hpq : p ≤ q := by omega
  rw [← hq] at G HIN ⊢
  obtain ⟨af, haf⟩ : ∃ af : Int, af = ((first + p : Nat) : Int) := ⟨_, rfl⟩
  rw [← haf] at G ⊢
  clear h hT ha haf hq
  go_enter Tryd.func17, Tryd.ntmps17
  go_wp2_with (first
    | (go_at_call 46; refine (G.out _ (same_alloc _ _)).mono ?_; rintro e w2 ⟨rfl, h2, k2⟩; obtain ⟨cs, hb, hrest⟩ := h2.box; have HV := hidden hrest.2.2.2.2.1; have HB := hidden hb; have H2 := hidden h2; have K2 := hidden (((same_alloc w _).mono (fun k _ h => h.elim)).trans k2); clear h2 k2 hb hrest)
    | (go_at_call 45; refine (bm_set g 66 55 cs v p q _ HB.out HV.out (by omega) hq4).mono ?_; rintro e w7 ⟨rfl, k7, cs', hb7, ho7, hu7⟩; have K7 := hidden k7; have B7 := hidden hb7; have O7 := hidden ho7; have U7 := hidden hu7; clear k7 hb7 ho7 hu7))
  go_returns
  exact ⟨rfl, H2.out.newV HB.out B7.out O7.out U7.out HIN.out, K2.out.trans K7.out⟩
end Go.Proofs.YtbmbdidmbdanmaaDoor
