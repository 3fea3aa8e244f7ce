/- The program's Size and Count; Load refused; the document's Load. -/
import Derived.Test.YteoajgphahobiaaCh2
import Derived.Test.YteoajgphahobiaaAppD
namespace Go.Proofs.Yteoajgphahobiaa
open Go.RowKit
set_option linter.unusedVariables false
theorem pcs_flat : ∀ (c n : Nat) (img : List UInt8), img.length = n * c → (pcs n c img).flatten = img
  | 0, n, img, h => by
    have : img = [] := List.length_eq_zero_iff.1 (by simpa using h)
    subst this
    rfl
  | c + 1, n, img, h => by
    have e : pcs n (c + 1) img = img.take n :: pcs n c (img.drop n) := by
      unfold pcs
      rw [List.range_succ_eq_map, List.map_cons, List.map_map]
      congr 1
      · simp
      · apply List.map_congr_left
        intro i _
        simp only [Function.comp_apply]
        rw [List.drop_drop, Nat.succ_mul, Nat.add_comm]
    rw [e, List.flatten_cons, pcs_flat c n (img.drop n) (by rw [List.length_drop, h, Nat.mul_succ]; omega), List.take_append_drop]
set_option maxHeartbeats 1000000 in
set_option maxRecDepth 100000 in
theorem zd_size {A : Nat → Prop} {B n c g pb pc rb rc : Nat} {s : St} {w : World} (h : ZD A B n c g pb pc rb rc s w) : Calls Try.prog 16 #[.pointer (some ⟨g, 0, none⟩)] w fun e w' => e = .returned (.int .i64 n) ∧ w = w' := by
  obtain ⟨qv, qs, ps, rs, h1, _⟩ := h.ex
  have c0 : w.cell? ⟨g, 0, none⟩ = some (.int .i64 n) := blk_cell h1
  clear h h1
  go_enter Try.func16, Try.ntmps16
  go_wp2
  go_returns
  exact ⟨rfl, rfl⟩
set_option maxHeartbeats 1000000 in
set_option maxRecDepth 100000 in
theorem zd_count {A : Nat → Prop} {B n c g pb pc rb rc : Nat} {s : St} {w : World} (h : ZD A B n c g pb pc rb rc s w) : Calls Try.prog 17 #[.pointer (some ⟨g, 0, none⟩)] w fun e w' => e = .returned (.int .i64 c) ∧ w = w' := by
  obtain ⟨qv, qs, ps, rs, h1, _⟩ := h.ex
  have c1 : w.cell? ⟨g, 1, none⟩ = some (.slice (some ⟨pb, 0, none⟩) c pc) := blk_cell h1
  clear h h1
  go_enter Try.func17, Try.ntmps17
  go_wp2
  go_returns
  exact ⟨rfl, rfl⟩
theorem kept_setRow (W : World) (g : Nat) (cs : Array Value) : Kept (fun k => k = g) W (W.setRow g cs) := ⟨rfl, rfl, rfl, by simp, fun i hi hs => setRow_other _ _ _ _ (fun e => hs e)⟩
/-- Whether an image may be loaded. -/
def MayLoad (n : Int) (L : Nat) : Prop := JSize n ∧ (L : Int) % n = 0 ∧ 1 ≤ (L : Int) / n ∧ (L : Int) / n ≤ 4096
set_option maxHeartbeats 1000000 in
set_option maxRecDepth 100000 in
theorem load_no (n : Int) (a : Option Addr) (L cap : Nat) (w : World) (h : ¬ MayLoad n L) (hLb : L ≤ 140737488355328) :
    Calls Try.prog 18 #[.int .i64 n, .slice a L cap] w fun e w' => e = .returned (.tuple #[.pointer none, .int .i64 1]) ∧ w = w' := by
  by_cases h1 : JSize n
  · have HMS : Hid (∀ W, Calls Try.prog 34 #[.int .i64 n] W fun e w' => e = .returned (.bool true) ∧ W = w') := fun W => by have := d_maySize n W; rw [decide_eq_true h1] at this; exact this
    have hn5 : 512 ≤ n := h1.1
    have hn0 : ¬ n = 0 := by omega
    have q0 : (0 : Int) ≤ (L : Int) := Int.natCast_nonneg _
    have et : Int.tmod (L : Int) n = (L : Int) % n := Int.tmod_eq_emod_of_nonneg (by omega)
    have ed : Int.tdiv (L : Int) n = (L : Int) / n := Int.tdiv_eq_ediv_of_nonneg (by omega)
    by_cases h2 : (L : Int) % n = 0
    · have h3 : ¬ (1 ≤ (L : Int) / n ∧ (L : Int) / n ≤ 4096) := fun h3 => h ⟨h1, h2, h3.1, h3.2⟩
      obtain ⟨q, hq⟩ : ∃ q : Nat, (L : Int) / n = (q : Int) := ⟨((L : Int) / n).toNat, by rw [Int.toNat_of_nonneg (Int.ediv_nonneg q0 (by omega))]⟩
      have hqb : (q : Int) ≤ (L : Int) := by rw [← hq]; exact Int.ediv_le_self _ q0
      have HMC : Hid (∀ W, Calls Try.prog 35 #[.int .i64 (q : Int)] W fun e w' => e = .returned (.bool false) ∧ W = w') := fun W => by have := d_mayCount (q : Int) W; rw [decide_eq_false (by rw [← hq]; exact h3)] at this; exact this
      clear h h1 h3
      go_enter Try.func18, Try.ntmps18
      go_wp2_with (first
        | (go_at_call 34; go_must (refine (HMS.out _).mono ?_; rintro e w1 ⟨rfl, rfl⟩))
        | (go_at_call 35; go_must (refine (HMC.out _).mono ?_; rintro e w1 ⟨rfl, rfl⟩)))
      go_returns
      exact ⟨rfl, rfl⟩
    · clear h h1
      go_enter Try.func18, Try.ntmps18
      go_wp2_with (go_at_call 34; go_must (refine (HMS.out _).mono ?_; rintro e w1 ⟨rfl, rfl⟩))
      go_returns
      exact ⟨rfl, rfl⟩
  · have HMS : Hid (∀ W, Calls Try.prog 34 #[.int .i64 n] W fun e w' => e = .returned (.bool false) ∧ W = w') := fun W => by have := d_maySize n W; rw [decide_eq_false h1] at this; exact this
    clear h h1
    go_enter Try.func18, Try.ntmps18
    go_wp2_with (go_at_call 34; go_must (refine (HMS.out _).mono ?_; rintro e w1 ⟨rfl, rfl⟩))
    go_returns
    exact ⟨rfl, rfl⟩
set_option maxHeartbeats 1000000 in
set_option maxRecDepth 100000 in
theorem rload_no (n : Int) (a : Option Addr) (L cap : Nat) (w : World) (h : ¬ MayLoad n L) (hLb : L ≤ 140737488355328) :
    Calls Try.prog 19 #[.int .i64 n, .slice a L cap] w fun e w' => e = .returned (.tuple #[.pointer none, .int .i64 1]) ∧ w = w' := by
  by_cases h1 : JSize n
  · have HMS : Hid (∀ W, Calls Try.prog 38 #[.int .i64 n, .int .i64 512, .int .i64 4096] W fun e w' => e = .returned (.bool true) ∧ W = w') := fun W => by have := r_power n W; rw [decide_eq_true h1] at this; exact this
    have hn5 : 512 ≤ n := h1.1
    have hn0 : ¬ n = 0 := by omega
    have q0 : (0 : Int) ≤ (L : Int) := Int.natCast_nonneg _
    have et : Int.tmod (L : Int) n = (L : Int) % n := Int.tmod_eq_emod_of_nonneg (by omega)
    have ed : Int.tdiv (L : Int) n = (L : Int) / n := Int.tdiv_eq_ediv_of_nonneg (by omega)
    by_cases h2 : (L : Int) % n = 0
    · have h3 : ¬ (1 ≤ (L : Int) / n ∧ (L : Int) / n ≤ 4096) := fun h3 => h ⟨h1, h2, h3.1, h3.2⟩
      obtain ⟨q, hq⟩ : ∃ q : Nat, (L : Int) / n = (q : Int) := ⟨((L : Int) / n).toNat, by rw [Int.toNat_of_nonneg (Int.ediv_nonneg q0 (by omega))]⟩
      have hqb : (q : Int) ≤ (L : Int) := by rw [← hq]; exact Int.ediv_le_self _ q0
      have HMC := hidden (fun W => r_newNo n (q : Int) W (fun hh => h3 (by rw [hq]; exact hh.2)))
      clear h h1 h3
      go_enter Try.func19, Try.ntmps19
      go_wp2_with (first
        | (go_at_call 38; go_must (refine (HMS.out _).mono ?_; rintro e w1 ⟨rfl, rfl⟩))
        | (go_at_call 13; go_must (refine (HMC.out _).mono ?_; rintro e w1 ⟨rfl, rfl⟩)))
      go_returns
      exact ⟨rfl, rfl⟩
    · clear h h1
      go_enter Try.func19, Try.ntmps19
      go_wp2_with (go_at_call 38; go_must (refine (HMS.out _).mono ?_; rintro e w1 ⟨rfl, rfl⟩))
      go_returns
      exact ⟨rfl, rfl⟩
  · have HMS : Hid (∀ W, Calls Try.prog 38 #[.int .i64 n, .int .i64 512, .int .i64 4096] W fun e w' => e = .returned (.bool false) ∧ W = w') := fun W => by have := r_power n W; rw [decide_eq_false h1] at this; exact this
    clear h h1
    go_enter Try.func19, Try.ntmps19
    go_wp2_with (go_at_call 38; go_must (refine (HMS.out _).mono ?_; rintro e w1 ⟨rfl, rfl⟩))
    go_returns
    exact ⟨rfl, rfl⟩
set_option maxHeartbeats 1000000 in
set_option maxRecDepth 100000 in
theorem rload_yes (n c : Nat) (hn : JSize n) (hc1 : 1 ≤ c) (hc2 : c ≤ 4096) (v : Value) (img : List UInt8) (L : Nat) (w : World) (hL : L = n * c) (hi : img.length = L) (hv : Byt w v img) :
    Calls Try.prog 19 #[.int .i64 n, v] w fun e w' => ∃ x, e = .returned (.tuple #[.pointer (some ⟨x, 0, none⟩), .int .i64 0]) ∧ w'.cell? ⟨x, 1, none⟩ = some (.int .i64 c) ∧ w.heap.size ≤ x ∧ Same w w' := by
  have hn5 : 512 ≤ n := by have := hn.1; omega
  have hn4 : n ≤ 4096 := by have := hn.2.1; omega
  have hle : n * c ≤ 4096 * 4096 := Nat.mul_le_mul hn4 hc2
  have hLb : L ≤ 16777216 := by omega
  have hL1 : 1 ≤ L := by rw [hL]; exact Nat.mul_pos (by omega) hc1
  have HMS : Hid (∀ W, Calls Try.prog 38 #[.int .i64 n, .int .i64 512, .int .i64 4096] W fun e w' => e = .returned (.bool true) ∧ W = w') := fun W => by have := r_power n W; rw [decide_eq_true hn] at this; exact this
  have HRN := hidden (fun W => r_new n c W hn hc1 hc2)
  have hrem : Int.tmod (L : Int) (n : Int) = 0 := by rw [hL, Int.natCast_mul]; exact Int.mul_tmod_right _ _
  have hrem2 : (L : Int) % (n : Int) = 0 := by rw [hL, Int.natCast_mul]; exact Int.mul_emod_right _ _
  have hquo : Int.tdiv (L : Int) (n : Int) = (c : Int) := by rw [hL, Int.natCast_mul]; exact Int.mul_tdiv_cancel_left _ (by omega)
  have hquo2 : (L : Int) / (n : Int) = (c : Int) := by rw [hL, Int.natCast_mul]; exact Int.mul_ediv_cancel_left _ (by omega)
  have hn0 : ¬ (n : Int) = 0 := by omega
  have HV := hidden hv
  obtain ⟨va, vc, rfl⟩ := hv.form
  have HI := hidden hi
  have HL := hidden hL
  rw [hi]
  rw [← hL] at HRN
  clear hn hL hle hv hi
  go_enter Try.func19, Try.ntmps19
  go_wp2_with (first
    | (go_at_call 38; go_must (refine (HMS.out _).mono ?_; rintro e w1 ⟨rfl, rfl⟩))
    | (go_at_call 13; go_must (refine (HRN.out _).mono ?_; rintro e w3 ⟨x, rfl, hx, hb3, hp3, k3⟩; have x2 : w3.cell? ⟨x, 2, none⟩ = some (.slice (some ⟨w.heap.size, 0, none⟩) L L) := blk_cell hb3; have x1 : w3.cell? ⟨x, 1, none⟩ = some (.int .i64 c) := blk_cell hb3; have hcp := copy_put w3 3 w.heap.size L L 0 L _ img (.slice va img.length vc) hp3 (by simp) (HV.out.same k3) HI.out hL1 (by omega); rw [HI.out] at hcp; simp only [Nat.sub_zero] at hcp; have B3 := hidden hb3; have P3 := hidden hp3; have K3 := hidden k3; clear hb3 hp3 k3)))
  go_returns
  have kS := kept_setRow w3 w.heap.size (putX (List.replicate L (U8 0)).toArray 0 L img)
  have hxw : x ≠ w.heap.size := fun e => by have h8 := B3.out; rw [e, P3.out] at h8; simp at h8
  exact ⟨x, rfl, Kept.cell kS hxw x1, hx, K3.out.trans' kS (fun i hi e => by omega)⟩
end Go.Proofs.Yteoajgphahobiaa
