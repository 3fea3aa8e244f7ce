/- journal: the rooms of an image, pure; the document's Sectors, walked. -/
import Derived.Test.YtljbmpnpbjnbkaaDoorJR4
namespace Go.Proofs.YtljbmpnpbjnbkaaDoor
open Go.RowKit
set_option linter.unusedVariables false
set_option linter.unusedSimpArgs false
def secP (n i : Nat) (img : List UInt8) : List UInt8 := (img.take ((i + 1) * n)).drop (i * n)
/-- The bytes of the right sectors from the i-th on, of so many. -/
def roomsJ (n gen : Nat) (img : List UInt8) : Nat → Nat → List (List UInt8)
  | 0, _ => []
  | f + 1, i => match rtJ n gen i (secP n i img) with
    | some r => r :: roomsJ n gen img f (i + 1)
    | none => []
theorem roomsJ_len (n gen : Nat) (img : List UInt8) : ∀ f i, (roomsJ n gen img f i).length ≤ f
  | 0, _ => Nat.zero_le _
  | f + 1, i => by
    unfold roomsJ
    split
    · have := roomsJ_len n gen img f (i + 1)
      simp only [List.length_cons]
      omega
    · simp
theorem roomsJ_at (n gen : Nat) (img : List UInt8) : ∀ f i k r, (roomsJ n gen img f i)[k]? = some r → rtJ n gen (i + k) (secP n (i + k) img) = some r
  | 0, _, _, _, h => by simp [roomsJ] at h
  | f + 1, i, k, r, h => by
    unfold roomsJ at h
    split at h
    · rename_i r0 e
      cases k with
      | zero => simp at h; rw [Nat.add_zero, e, h]
      | succ k =>
        rw [List.getElem?_cons_succ] at h
        have := roomsJ_at n gen img f (i + 1) k r h
        rwa [show i + 1 + k = i + (k + 1) by omega] at this
    · simp at h
theorem MayJ.form {n L : Nat} (h : MayJ n L) : 512 ≤ n ∧ n ≤ 4096 ∧ ∃ c, L = n * c ∧ 1 ≤ c ∧ c ≤ 4096 := by
  obtain ⟨⟨h1, h2, _⟩, h3, h4, h5⟩ := h
  have e : L % n = 0 := by exact_mod_cast h3
  have h1' : 512 ≤ n := by omega
  refine ⟨h1', by omega, L / n, (Nat.mul_div_cancel' (Nat.dvd_of_mod_eq_zero e)).symm, ?_, ?_⟩
  · exact Nat.div_pos (by omega) (by omega)
  · have : L ≤ 4096 * n := by omega
    have h9 : L / n ≤ 4096 * n / n := Nat.div_le_div_right this
    rwa [Nat.mul_div_cancel _ (by omega)] at h9
set_option maxHeartbeats 1000000 in
set_option maxRecDepth 100000 in
theorem sectorsD_any (n gen c L : Nat) (ad : Addr) (cap : Nat) (img : List UInt8) (w : World) (hb : Bt w (.slice (some ad) L cap) img) (hM : MayJ n L) (hL : L = n * c) (h1 : 512 ≤ n) (h2 : n ≤ 4096) (hc : c ≤ 4096) (hg : gen < 18446744073709551616) :
    Calls Tryd.prog 23 #[.int .i64 n, .int .u64 gen, .slice (some ad) L cap] w fun e w' => e = .returned (.tuple #[.int .i64 ((roomsJ n gen img c 0).length : Nat), .int .i64 0]) ∧ Same w w' := by
  have hLb : L ≤ 16777216 := by rw [hL]; exact Nat.mul_le_mul h2 hc
  have HF := hidden (fits_any (n : Int) (some ad) L cap (by omega))
  rw [decide_eq_true hM] at HF
  have HR := hidden (fun place p1 cp b W hb hp => rightD_any n gen place p1 cp b W hb h1 h2 hg hp)
  have HB := hidden hb
  have HL := hidden hL
  have hrl := roomsJ_len n gen img c 0
  obtain ⟨R0, hR0⟩ : ∃ R0, R0 = roomsJ n gen img c 0 := ⟨_, rfl⟩
  rw [← hR0] at hrl ⊢
  have HR0 := hidden hR0
  clear hb hL hR0 hM
  go_enter Tryd.func23, Tryd.ntmps23
  go_wp2_with (go_at_call 46; refine (HF.out _).mono ?_; rintro e w1 ⟨rfl, rfl⟩)
  go_loopw [8] (fun v wr => ∃ i : Nat, v = .int .i64 i ∧ i ≤ c ∧ R0.length = i + (roomsJ n gen img (c - i) i).length ∧ Same w wr) (fun v _ => c - (intOf v).toNat)
  case atStart => exact ⟨0, rfl, Nat.zero_le _, by rw [HR0.out]; simp, Kept.refl _ _⟩
  case round =>
    obtain ⟨i, rfl, hi, hE, hS⟩ := hrel
    have HS := hidden hS
    have HE := hidden hE
    clear hS hE
    obtain ⟨p, hp⟩ : ∃ p, p = i * n := ⟨_, rfl⟩
    obtain ⟨q, hq⟩ : ∃ q, q = (i + 1) * n := ⟨_, rfl⟩
    have hqp : q = p + n := by rw [hq, hp, Nat.succ_mul]
    have hqb : q ≤ 16785408 := by rw [hq]; exact Nat.le_trans (Nat.mul_le_mul (show i + 1 ≤ 4098 by omega) h2) (by decide)
    have e1 : ((i : Int) + 1) * (n : Int) = (q : Int) := by rw [hq]; push_cast; rfl
    have e2 : (i : Int) * (n : Int) = (p : Int) := by rw [hp]; push_cast; rfl
    have a0 : IntKind.i64.wrap ((i : Int) + 1) = (i : Int) + 1 := by rw [IntKind.wrap_i64]; omega
    have a1 : IntKind.i64.wrap (((i : Int) + 1) * (n : Int)) = (q : Int) := by rw [e1, IntKind.wrap_i64]; omega
    have a2 : IntKind.i64.wrap ((i : Int) * (n : Int)) = (p : Int) := by rw [e2, IntKind.wrap_i64]; omega
    have HQ := hidden hqp
    have hsec : (img.take q).drop p = secP n i img := by unfold secP; rw [hq, hp]
    have hlt : i < c ↔ q ≤ L := by
      rw [hq, HL.out, Nat.mul_comm n c]
      constructor
      · intro h; exact Nat.mul_le_mul_right _ h
      · intro h; exact Nat.le_of_mul_le_mul_right h (by omega)
    clear hq hp e1 e2
    by_cases g1 : i < c
    · have hqL := hlt.1 g1
      have q1 : (q : Int) ≤ (L : Int) := by omega
      obtain ⟨p1, r1, t1⟩ := HB.out.subS (i := p) (j := q) (by omega) (by omega) (p : Int) (q : Int) rfl rfl
      rw [hsec, show q - p = n by omega] at t1
      rw [show q - p = n by omega] at r1
      have HRi := hidden (fun W (k : Same w W) => HR.out i p1 (cap - p) (secP n i img) W (t1 W k) (by omega))
      have HSt := hidden (show roomsJ n gen img (c - i) i = match rtJ n gen i (secP n i img) with | some r => r :: roomsJ n gen img (c - (i + 1)) (i + 1) | none => [] by
        obtain ⟨f, hf⟩ : ∃ f, c - i = f + 1 := ⟨c - i - 1, by omega⟩
        rw [hf, show c - (i + 1) = f by omega]
        rfl)
      clear hlt hsec t1 hqp hqL hqb
      cases hr : rtJ n gen i (secP n i img) with
      | none =>
        rw [hr] at HRi
        have HEn := hidden (show R0.length = i by rw [HE.out, HSt.out, hr]; rfl)
        go_wp2_with (go_at_call 44; refine (HRi.out _ HS.out).mono ?_; rintro e w2 ⟨⟨u, rfl, _⟩, k2⟩; have K2 := hidden (HS.out.trans k2); clear k2)
        go_returns
        exact ⟨by rw [HEn.out]; rfl, K2.out⟩
      | some r =>
        rw [hr] at HRi
        have HEn := hidden (show R0.length = (i + 1) + (roomsJ n gen img (c - (i + 1)) (i + 1)).length by rw [HE.out, HSt.out, hr]; simp; omega)
        go_wp2_with (go_at_call 44; refine (HRi.out _ HS.out).mono ?_; rintro e w2 ⟨⟨u, rfl, _⟩, k2⟩; have K2 := hidden (HS.out.trans k2); clear k2)
        go_roundw
        case rel => exact ⟨i + 1, by go_num, by omega, HEn.out, K2.out⟩
        case measure => simp [intOf]; omega
    · have q1 : ¬ (q : Int) ≤ (L : Int) := fun h => g1 (hlt.2 (by omega))
      have HEn := hidden (show R0.length = i by rw [HE.out, show c - i = 0 by omega]; rfl)
      clear hlt hsec hqp hqb
      go_wp2
      go_returns
      exact ⟨by rw [HEn.out]; rfl, HS.out⟩
set_option maxHeartbeats 1000000 in
set_option maxRecDepth 100000 in
theorem sectorsD_no (n : Int) (gen : Nat) (ao : Option Addr) (L cap : Nat) (hL : L ≤ 281474976710656) (w : World) (hM : ¬ MayJ n L) :
    Calls Tryd.prog 23 #[.int .i64 n, .int .u64 gen, .slice ao L cap] w fun e w' => e = .returned (.tuple #[.int .i64 0, .int .i64 1]) ∧ w = w' := by
  have HF := hidden (fits_any n ao L cap hL)
  rw [decide_eq_false hM] at HF
  clear hM
  go_enter Tryd.func23, Tryd.ntmps23
  go_wp2_with (go_at_call 46; refine (HF.out _).mono ?_; rintro e w1 ⟨rfl, rfl⟩)
  go_returns
  exact ⟨rfl, rfl⟩
end Go.Proofs.YtljbmpnpbjnbkaaDoor
