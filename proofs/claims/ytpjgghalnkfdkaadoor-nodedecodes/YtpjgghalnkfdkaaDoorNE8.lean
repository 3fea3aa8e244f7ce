/- node, pure: which bytes are a node's: as the program looks, and as the document does. -/
import Derived.Test.YtpjgghalnkfdkaaDoorNE4
namespace Go.Proofs.YtpjgghalnkfdkaaDoor
open Go.RowKit
set_option linter.unusedVariables false
set_option linter.unusedSimpArgs false
def bLeaf (b : List UInt8) : Bool := b.getD 4 0 == 1
def bCnt (b : List UInt8) : Nat := num ((b.drop 6).take 2)
def bLen (b : List UInt8) : Nat := num ((b.drop 8).take 4)
def bEnt (b : List UInt8) : List UInt8 := (b.drop 16).take (bLen b)
/-- The node that bytes are, as the document reads them. -/
def decD (b : List UInt8) : Option Nd :=
  match pN (bLeaf b) (bCnt b) (b.drop 16) with
  | none => none
  | some (n, _) => if n.chk = 0 ∧ n.size ≤ b.length ∧ n.enc b.length = b then some n else none
/-- .. and as the program does. -/
def decP (b : List UInt8) : Option Nd :=
  if 16 + bLen b ≤ b.length then
    match pN (bLeaf b) (bCnt b) (bEnt b) with
    | none => none
    | some (n, r) => if r = [] ∧ n.chk = 0 ∧ encH n.kd n.keys.length (bEnt b) = b.take 16 ∧ (b.drop (16 + bLen b)).all (· == 0) = true then some n else none
  else none
structure IsN (b : List UInt8) (n : Nd) : Prop where
  chk : n.chk = 0
  fit : 16 + n.body.length ≤ b.length
  enc : n.enc b.length = b
theorem Nd.kd_cases (n : Nd) : (n.leaf = true ∧ n.kd = 1) ∨ (n.leaf = false ∧ n.kd = 2) := by
  unfold Nd.kd
  cases n.leaf <;> simp
theorem encH_form (kd ks : Nat) (es : List UInt8) : ∃ c, encH kd ks es = hd4 ++ (be 1 kd ++ (be 1 0 ++ (be 2 ks ++ (be 4 es.length ++ be 4 c)))) :=
  by
  unfold encH
  generalize crc ((headB kd ks es.length 0).take 12 ++ es) = c
  exact ⟨c, by unfold headB; simp only [List.append_assoc]⟩
theorem IsN.look {b : List UInt8} {n : Nd} (h : IsN b n) (hl : b.length ≤ 4096) : bLeaf b = n.leaf ∧ bCnt b = n.keys.length ∧ bLen b = n.body.length ∧ b.drop 16 = n.body ++ List.replicate (b.length - (16 + n.body.length)) 0 ∧ b.take 16 = encH n.kd n.keys.length n.body := by
  have hF := chk_fine h.chk
  have hb := body_len hF
  have hk := fine_keys hF
  have hf := h.fit
  have he := h.enc
  have hc : n.keys.length < 65536 := by omega
  have hbl : n.body.length < 4294967296 := by omega
  obtain ⟨L, hL⟩ : ∃ L, b.length = L := ⟨_, rfl⟩
  rw [hL] at he ⊢
  have h16 : (encH n.kd n.keys.length n.body).length = 16 := encH_len _ _ _
  have hd : b.drop 16 = n.body ++ List.replicate (L - (16 + n.body.length)) 0 := by
    rw [← he, Nd.enc, encS, List.drop_left' h16]
  have ht : b.take 16 = encH n.kd n.keys.length n.body := by
    rw [← he, Nd.enc, encS, List.take_left' h16]
  obtain ⟨c, hcf⟩ := encH_form n.kd n.keys.length n.body
  have hb2 : b = hd4 ++ (be 1 n.kd ++ (be 1 0 ++ (be 2 n.keys.length ++ (be 4 n.body.length ++ (be 4 c ++ b.drop 16))))) := by
    conv => lhs; rw [← List.take_append_drop 16 b, ht, hcf]
    simp only [List.append_assoc]
  have g4 : b.getD 4 0 = (be 1 n.kd ++ (be 1 0 ++ (be 2 n.keys.length ++ (be 4 n.body.length ++ (be 4 c ++ b.drop 16))))).getD 0 0 := by
    rw [hb2]; rfl
  refine ⟨?_, ?_, ?_, hd, ht⟩
  · unfold bLeaf
    rw [g4]
    rcases n.kd_cases with ⟨e1, e2⟩ | ⟨e1, e2⟩ <;> rw [e1, e2] <;> rfl
  · unfold bCnt
    have e : b.drop 6 = be 2 n.keys.length ++ (be 4 n.body.length ++ (be 4 c ++ b.drop 16)) := by
      have e6 : (hd4 ++ (be 1 n.kd ++ be 1 0)).length = 6 := by simp [hd4, be_length]
      conv => lhs; rw [hb2]
      rw [show hd4 ++ (be 1 n.kd ++ (be 1 0 ++ (be 2 n.keys.length ++ (be 4 n.body.length ++ (be 4 c ++ b.drop 16))))) = (hd4 ++ (be 1 n.kd ++ be 1 0)) ++ (be 2 n.keys.length ++ (be 4 n.body.length ++ (be 4 c ++ b.drop 16))) by simp only [List.append_assoc]]
      rw [List.drop_left' e6]
    rw [e, List.take_left' (be_length _ _), num_be']
    omega
  · unfold bLen
    have e : b.drop 8 = be 4 n.body.length ++ (be 4 c ++ b.drop 16) := by
      have e6 : (hd4 ++ (be 1 n.kd ++ (be 1 0 ++ be 2 n.keys.length))).length = 8 := by simp [hd4, be_length]
      conv => lhs; rw [hb2]
      rw [show hd4 ++ (be 1 n.kd ++ (be 1 0 ++ (be 2 n.keys.length ++ (be 4 n.body.length ++ (be 4 c ++ b.drop 16))))) = (hd4 ++ (be 1 n.kd ++ (be 1 0 ++ be 2 n.keys.length))) ++ (be 4 n.body.length ++ (be 4 c ++ b.drop 16)) by simp only [List.append_assoc]]
      rw [List.drop_left' e6]
    rw [e, List.take_left' (be_length _ _), num_be']
    omega
theorem decD_iff (b : List UInt8) (hl : b.length ≤ 4096) (n : Nd) : decD b = some n ↔ IsN b n := by
  constructor
  · intro h
    unfold decD at h
    split at h
    · cases h
    · split at h
      · rename_i m r hm hc
        cases h
        obtain ⟨h1, h2, h3⟩ := hc
        exact ⟨h1, by rw [body_len (chk_fine h1)]; exact h2, h3⟩
      · cases h
  · intro h
    obtain ⟨e1, e2, e3, e4, e5⟩ := h.look hl
    unfold decD
    rw [e1, e2, e4, pN_full (chk_fine h.chk)]
    simp only
    rw [if_pos ⟨h.chk, by rw [← body_len (chk_fine h.chk)]; exact h.fit, h.enc⟩]
theorem decP_iff (b : List UInt8) (hl : b.length ≤ 4096) (h16 : 16 ≤ b.length) (n : Nd) : decP b = some n ↔ IsN b n := by
  constructor
  · intro h
    unfold decP at h
    split at h
    · rename_i hfit
      split at h
      · cases h
      · split at h
        · rename_i m r hm hc
          cases h
          obtain ⟨rfl, h1, h2, h3⟩ := hc
          obtain ⟨q1, q2, q3⟩ := pN_sound _ _ hm
          rw [List.append_nil] at q3
          have hbl : n.body.length = bLen b := by
            rw [← q3, bEnt, List.length_take, List.length_drop]; omega
          refine ⟨h1, by omega, ?_⟩
          have hz : b.drop (16 + bLen b) = List.replicate (b.length - (16 + bLen b)) 0 := by
            rw [List.eq_replicate_iff]
            exact ⟨by rw [List.length_drop], fun x hx => by simpa using List.all_eq_true.1 h3 x hx⟩
          rw [Nd.enc, encS, ← q3, h2, q3, hbl, ← hz, ← q3, bEnt, ← List.drop_drop, List.take_append_drop, List.take_append_drop]
        · cases h
    · cases h
  · intro h
    obtain ⟨e1, e2, e3, e4, e5⟩ := h.look hl
    have hfit := h.fit
    have he : bEnt b = n.body := by unfold bEnt; rw [e4, e3, List.take_left' rfl]
    have hz : b.drop (16 + bLen b) = List.replicate (b.length - (16 + n.body.length)) 0 := by
      rw [← List.drop_drop, e4, e3, List.drop_left' rfl]
    unfold decP
    rw [if_pos (by omega), e1, e2, he]
    have hp := pN_full (chk_fine h.chk) []
    rw [List.append_nil] at hp
    rw [hp]
    simp only
    rw [if_pos ⟨by trivial, h.chk, e5.symm, by rw [hz, List.all_eq_true]; intro x hx; simpa using List.eq_of_mem_replicate hx⟩]
theorem dec_same (b : List UInt8) (hl : b.length ≤ 4096) (h16 : 16 ≤ b.length) : decP b = decD b := by
  cases hd : decD b with
  | none =>
    cases hp : decP b with
    | none => rfl
    | some n =>
      have := (decD_iff b hl n).2 ((decP_iff b hl h16 n).1 hp)
      rw [hd] at this
      cases this
  | some n => exact (decP_iff b hl h16 n).2 ((decD_iff b hl n).1 hd)
/-- What Decode tells. -/
def Nd.dec (sz : Int) (b : List UInt8) : Nd × Int :=
  if JSize sz then (if (b.length : Int) = sz then (match decD b with | none => (Nd.zero, 90) | some n => (n, 0)) else (Nd.zero, 90)) else (Nd.zero, 1)
end Go.Proofs.YtpjgghalnkfdkaaDoor
