/- Digits and sums, as plain mathematics; digit, Parse of the program and of the document, walked. -/
import Derived.Test.YtbankcgkbiflhaaDoorSh8
namespace Go.Proofs.YtbankcgkbiflhaaDoor
open Go.RowKit
set_option linter.unusedVariables false

def dgb (c : Nat) : Bool := (decide (48 ≤ c) && decide (c ≤ 57)) || (decide (97 ≤ c) && decide (c ≤ 102))
def dgv (c : Nat) : Nat := if 48 ≤ c ∧ c ≤ 57 then c - 48 else if 97 ≤ c ∧ c ≤ 102 then c - 87 else 0
theorem dgv_lt (c : Nat) : dgv c < 16 := by unfold dgv; split <;> (try split) <;> omega
def at' (s : List UInt8) (i : Nat) : Nat := (s.getD i 0).toNat
def okS (s : List UInt8) : Bool := decide (s.length = 64) && (List.range 64).all fun i => dgb (at' s i)
def valS (s : List UInt8) : List UInt8 := (List.range 32).map fun i => UInt8.ofNat (dgv (at' s (2 * i)) * 16 + dgv (at' s (2 * i + 1)))
theorem valS_len (s : List UInt8) : (valS s).length = 32 := by simp [valS]
theorem valS_at (s : List UInt8) (i : Nat) (h : i < 32) : (valS s).getD i 0 = UInt8.ofNat (dgv (at' s (2 * i)) * 16 + dgv (at' s (2 * i + 1))) := by
  unfold valS
  rw [List.getD_eq_getElem?_getD, List.getElem?_map, List.getElem?_range h]
  rfl
theorem okS_no (s : List UInt8) (i : Nat) (h : i < 64) (hd : dgb (at' s i) = false) : okS s = false := by
  unfold okS
  rw [Bool.and_eq_false_iff]
  right
  rw [List.all_eq_false]
  exact ⟨i, by simpa using h, by simp [hd]⟩
theorem okS_yes (s : List UInt8) (hl : s.length = 64) (h : ∀ i, i < 64 → dgb (at' s i) = true) : okS s = true := by
  unfold okS
  rw [Bool.and_eq_true, List.all_eq_true]
  exact ⟨by simpa using hl, fun i hi => h i (by simpa using hi)⟩
theorem okS_len (s : List UInt8) (hl : s.length ≠ 64) : okS s = false := by simp [okS, hl]
/-- What both Parses tell. -/
def parV (s : List UInt8) : List UInt8 := if okS s then valS s else List.replicate 32 0
theorem parV_len (s : List UInt8) : (parV s).length = 32 := by unfold parV; split; exact valS_len s; simp
theorem hd_ok : ∀ n, n < 16 → dgb (hd n).toNat = true ∧ dgv (hd n).toNat = n := by decide +kernel
theorem hd_back : ∀ c, c < 256 → dgb c = true → hd (dgv c) = UInt8.ofNat c := by decide +kernel
theorem hexOf_at (l : List UInt8) : ∀ i, i < l.length → (hexOf l).getD (2 * i) 0 = hd ((l.getD i 0).toNat / 16) ∧ (hexOf l).getD (2 * i + 1) 0 = hd ((l.getD i 0).toNat % 16) := by
  induction l with
  | nil => intro i h; simp at h
  | cons b l ih =>
    intro i h
    cases i with
    | zero => exact ⟨rfl, rfl⟩
    | succ i =>
      have := ih i (by simpa using h)
      simp only [hexOf, List.flatMap_cons] at this ⊢
      rw [show 2 * (i + 1) = 2 * i + 1 + 1 by omega]
      exact this
theorem hex_ok (l : List UInt8) (hl : l.length = 32) : okS (hexOf l) = true := by
  refine okS_yes _ (by rw [hexOf_len, hl]) (fun i hi => ?_)
  obtain ⟨h1, h2⟩ := hexOf_at l (i / 2) (by omega)
  have hb := (l.getD (i / 2) 0).toNat_lt
  unfold at'
  by_cases e : i % 2 = 0
  · rw [show i = 2 * (i / 2) by omega, h1]
    exact (hd_ok _ (by omega)).1
  · rw [show i = 2 * (i / 2) + 1 by omega, h2]
    exact (hd_ok _ (by omega)).1
theorem hex_val (l : List UInt8) (hl : l.length = 32) : valS (hexOf l) = l := by
  apply List.ext_getElem?
  intro i
  by_cases h : i < 32
  · obtain ⟨h1, h2⟩ := hexOf_at l i (by omega)
    have hv := valS_at (hexOf l) i h
    have hb := (l.getD i 0).toNat_lt
    unfold at' at hv
    rw [h1, h2, (hd_ok _ (show (l.getD i 0).toNat / 16 < 16 by omega)).2, (hd_ok _ (show (l.getD i 0).toNat % 16 < 16 by omega)).2, show (l.getD i 0).toNat / 16 * 16 + (l.getD i 0).toNat % 16 = (l.getD i 0).toNat by omega] at hv
    rw [UInt8.ofNat_toNat, List.getD_eq_getElem?_getD, List.getD_eq_getElem?_getD, List.getElem?_eq_getElem (by rw [valS_len]; exact h), List.getElem?_eq_getElem (by omega)] at hv
    rw [List.getElem?_eq_getElem (by rw [valS_len]; exact h), List.getElem?_eq_getElem (by omega)]
    simpa using hv
  · rw [List.getElem?_eq_none (by rw [valS_len]; omega), List.getElem?_eq_none (by omega)]
theorem par_hex (l : List UInt8) (hl : l.length = 32) : parV (hexOf l) = l := by unfold parV; rw [hex_ok l hl, if_pos rfl, hex_val l hl]
theorem okS_all (s : List UInt8) (h : okS s = true) : s.length = 64 ∧ ∀ i, i < 64 → dgb (at' s i) = true := by
  unfold okS at h
  rw [Bool.and_eq_true, List.all_eq_true] at h
  exact ⟨by simpa using h.1, fun i hi => h.2 i (by simpa using hi)⟩
theorem val_hex (s : List UInt8) (h : okS s = true) : hexOf (valS s) = s := by
  obtain ⟨hl, hdg⟩ := okS_all s h
  apply List.ext_getElem?
  intro i
  by_cases hi : i < 64
  · have hi2 : i / 2 < 32 := by omega
    obtain ⟨h1, h2⟩ := hexOf_at (valS s) (i / 2) (by rw [valS_len]; exact hi2)
    rw [valS_at s _ hi2] at h1 h2
    have d1 := dgv_lt (at' s (2 * (i / 2)))
    have d2 := dgv_lt (at' s (2 * (i / 2) + 1))
    rw [UInt8.toNat_ofNat', Nat.mod_eq_of_lt (show dgv (at' s (2 * (i / 2))) * 16 + dgv (at' s (2 * (i / 2) + 1)) < 2 ^ 8 by omega)] at h1 h2
    rw [show (dgv (at' s (2 * (i / 2))) * 16 + dgv (at' s (2 * (i / 2) + 1))) / 16 = dgv (at' s (2 * (i / 2))) by omega] at h1
    rw [show (dgv (at' s (2 * (i / 2))) * 16 + dgv (at' s (2 * (i / 2) + 1))) % 16 = dgv (at' s (2 * (i / 2) + 1)) by omega] at h2
    have key : ∀ j, j < 64 → hd (dgv (at' s j)) = s.getD j 0 := fun j hj => by
      have := hd_back (at' s j) (s.getD j 0).toNat_lt (hdg j hj)
      rw [this]
      unfold at'
      exact UInt8.ofNat_toNat
    have hg : (hexOf (valS s)).getD i 0 = s.getD i 0 := by
      by_cases e : i % 2 = 0
      · rw [show i = 2 * (i / 2) by omega, h1]
        exact key _ (by omega)
      · rw [show i = 2 * (i / 2) + 1 by omega, h2]
        exact key _ (by omega)
    rw [List.getD_eq_getElem?_getD, List.getD_eq_getElem?_getD, List.getElem?_eq_getElem (by rw [hexOf_len, valS_len]; omega), List.getElem?_eq_getElem (by omega)] at hg
    rw [List.getElem?_eq_getElem (by rw [hexOf_len, valS_len]; omega), List.getElem?_eq_getElem (by omega)]
    simpa using hg
  · rw [List.getElem?_eq_none (by rw [hexOf_len, valS_len]; omega), List.getElem?_eq_none (by omega)]
set_option maxHeartbeats 400000 in
set_option maxRecDepth 100000 in
theorem digit_any (c : Nat) (hc : c < 256) (w : World) : Calls Tryd.prog 27 #[.int .u8 c] w fun e w' => e = .returned (.tuple #[.int .u8 (dgv c : Nat), .bool (dgb c)]) ∧ w = w' := by
  have hv : dgv c = if 48 ≤ c ∧ c ≤ 57 then c - 48 else if 97 ≤ c ∧ c ≤ 102 then c - 87 else 0 := rfl
  have hb : dgb c = ((decide (48 ≤ c) && decide (c ≤ 57)) || (decide (97 ≤ c) && decide (c ≤ 102))) := rfl
  have HV := hidden hv
  have HB := hidden hb
  clear hv hb
  generalize dgv c = dv at *
  generalize dgb c = db at *
  by_cases h1 : 48 ≤ c
  · by_cases h2 : c ≤ 57
    · have k1 : (48 : Int) ≤ (c : Int) := by omega
      have k2 : (c : Int) ≤ 57 := by omega
      have e1 : IntKind.u8.wrap ((c : Int) - 48) = (c : Int) - 48 := by rw [IntKind.wrap_u8']; omega
      go_enter Tryd.func27, Tryd.ntmps27
      go_wp2
      go_returns
      refine ⟨?_, rfl⟩
      rw [HV.out, HB.out, if_pos ⟨h1, h2⟩]
      simp only [h1, h2, decide_true, Bool.and_self, Bool.true_or]
      exact congrArg (fun x : Int => Ending.returned (.tuple #[.int .u8 x, .bool true])) (show (c : Int) - 48 = ((c - 48 : Nat) : Int) by omega)
    · by_cases h3 : 97 ≤ c
      · by_cases h4 : c ≤ 102
        · have k1 : (48 : Int) ≤ (c : Int) := by omega
          have k2 : ¬ (c : Int) ≤ 57 := by omega
          have k3 : (97 : Int) ≤ (c : Int) := by omega
          have k4 : (c : Int) ≤ 102 := by omega
          have e1 : IntKind.u8.wrap ((c : Int) - 97) = (c : Int) - 97 := by rw [IntKind.wrap_u8']; omega
          have e2 : IntKind.u8.wrap ((c : Int) - 97 + 10) = (c : Int) - 97 + 10 := by rw [IntKind.wrap_u8']; omega
          go_enter Tryd.func27, Tryd.ntmps27
          go_wp2
          go_returns
          refine ⟨?_, rfl⟩
          rw [HV.out, HB.out, if_neg (by omega), if_pos ⟨h3, h4⟩]
          simp only [h1, h2, h3, h4, decide_true, decide_false, Bool.and_self, Bool.and_false, Bool.false_or]
          exact congrArg (fun x : Int => Ending.returned (.tuple #[.int .u8 x, .bool true])) (show (c : Int) - 97 + 10 = ((c - 87 : Nat) : Int) by omega)
        · have k1 : (48 : Int) ≤ (c : Int) := by omega
          have k2 : ¬ (c : Int) ≤ 57 := by omega
          have k3 : (97 : Int) ≤ (c : Int) := by omega
          have k4 : ¬ (c : Int) ≤ 102 := by omega
          go_enter Tryd.func27, Tryd.ntmps27
          go_wp2
          go_returns
          refine ⟨?_, rfl⟩
          rw [HV.out, HB.out, if_neg (by omega), if_neg (by omega)]
          simp only [h1, h2, h3, h4, decide_true, decide_false, Bool.and_false, Bool.or_self]
          rfl
      · have k1 : (48 : Int) ≤ (c : Int) := by omega
        have k2 : ¬ (c : Int) ≤ 57 := by omega
        have k3 : ¬ (97 : Int) ≤ (c : Int) := by omega
        go_enter Tryd.func27, Tryd.ntmps27
        go_wp2
        go_returns
        refine ⟨?_, rfl⟩
        rw [HV.out, HB.out, if_neg (by omega), if_neg (by omega)]
        simp only [h1, h2, h3, decide_true, decide_false, Bool.and_false, Bool.false_and, Bool.or_self]
        rfl
  · have k1 : ¬ (48 : Int) ≤ (c : Int) := by omega
    have k3 : ¬ (97 : Int) ≤ (c : Int) := by omega
    have h3 : ¬ 97 ≤ c := by omega
    go_enter Tryd.func27, Tryd.ntmps27
    go_wp2
    go_returns
    refine ⟨?_, rfl⟩
    rw [HV.out, HB.out, if_neg (by omega), if_neg (by omega)]
    simp only [h1, h3, decide_false, Bool.false_and, Bool.or_self]
    rfl
end Go.Proofs.YtbankcgkbiflhaaDoor
