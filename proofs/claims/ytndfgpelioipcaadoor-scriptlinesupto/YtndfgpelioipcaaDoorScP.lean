/- Quoted texts as plain functions on bytes: what Quote tells, how both sides read one, and that they read alike. Of no program. -/
import Derived.Lib.ItoaNum
import Derived.Lib.Strings
namespace Go.Proofs.YtndfgpelioipcaaDoor
set_option linter.unusedVariables false
set_option linter.unusedSimpArgs false
def BA (l : List UInt8) : ByteArray := ⟨l.toArray⟩
theorem BA_data (l : List UInt8) : (BA l).data.toList = l := rfl
theorem BA_of (s : ByteArray) : BA s.data.toList = s := by cases s; simp [BA]
theorem BA_inj {a b : List UInt8} (h : BA a = BA b) : a = b := by
  have := congrArg (fun s : ByteArray => s.data.toList) h
  simpa [BA] using this
/-- Stands for itself. -/
def plainB (b : UInt8) : Bool := decide (32 ≤ b.toNat) && decide (b.toNat ≤ 126) && decide (b.toNat ≠ 34) && decide (b.toNat ≠ 92)
def hexD (n : Nat) : UInt8 := if n < 10 then UInt8.ofNat (48 + n) else UInt8.ofNat (87 + n)
def q1 (b : UInt8) : List UInt8 := if plainB b then [b] else if b = 34 ∨ b = 92 then [92, b] else [92, 120, hexD (b.toNat / 16), hexD (b.toNat % 16)]
def qb (l : List UInt8) : List UInt8 := l.flatMap q1
def quoteL (l : List UInt8) : List UInt8 := 34 :: (qb l ++ [34])
theorem qb_cons (b : UInt8) (l : List UInt8) : qb (b :: l) = q1 b ++ qb l := rfl
theorem qb_nil : qb [] = [] := rfl
theorem qb_snoc (l : List UInt8) (b : UInt8) : qb (l ++ [b]) = qb l ++ q1 b := by simp [qb]
theorem q1_len (b : UInt8) : 1 ≤ (q1 b).length ∧ (q1 b).length ≤ 4 := by
  unfold q1
  split
  · simp
  · split <;> simp
theorem qb_len (l : List UInt8) : l.length ≤ (qb l).length ∧ (qb l).length ≤ 4 * l.length := by
  induction l with
  | nil => simp [qb_nil]
  | cons b l ih =>
    have := q1_len b
    rw [qb_cons, List.length_append, List.length_cons]
    omega
theorem quoteL_len (l : List UInt8) : (quoteL l).length = (qb l).length + 2 := by simp [quoteL]
/-- Where a digit stands among the sixteen. -/
def hexI (c : UInt8) : Int := if 48 ≤ c.toNat ∧ c.toNat ≤ 57 then (c.toNat : Int) - 48 else if 97 ≤ c.toNat ∧ c.toNat ≤ 102 then (c.toNat : Int) - 87 else -1
theorem hexI_range (c : UInt8) : -1 ≤ hexI c ∧ hexI c ≤ 15 := by
  unfold hexI
  split
  · omega
  · split <;> omega
/-- The byte of two digits, whatever they are. -/
def hx (h l : Int) : UInt8 := if h < 0 then (if l < 0 then 255 else UInt8.ofNat (240 + l.toNat)) else if l < 0 then 255 else UInt8.ofNat (16 * h.toNat + l.toNat)
theorem hx_hex : ∀ b : UInt8, hx (hexI (hexD (b.toNat / 16))) (hexI (hexD (b.toNat % 16))) = b := by
  have : ∀ i : Fin 256, hx (hexI (hexD (i.val / 16))) (hexI (hexD (i.val % 16))) = UInt8.ofNat i.val := by decide +kernel
  intro b
  have h := this ⟨b.toNat, b.toNat_lt⟩
  simpa using h
theorem hexI_ok : ∀ n, n < 16 → 0 ≤ hexI (hexD n) ∧ hexI (hexD n) = n := by decide +kernel
/-- What stands first in a piece of a quoted text, by the program: the byte, and how many bytes it has. -/
def dec1 : List UInt8 → UInt8 × Nat
  | [] => (0, 1)
  | c :: r => if c ≠ 92 ∨ r = [] then (c, 1) else
    match r with
    | [] => (c, 1)
    | d :: r2 => if d ≠ 120 ∨ r2.length < 2 then (d, 2) else (hx (hexI (r2.getD 0 0)) (hexI (r2.getD 1 0)), 4)
theorem dec1_size : ∀ (c : UInt8) (r : List UInt8), 1 ≤ (dec1 (c :: r)).2 ∧ (dec1 (c :: r)).2 ≤ (c :: r).length
  | c, [] => by simp [dec1]
  | c, d :: r2 => by
    simp only [dec1]
    split
    · simp
    · split
      · simp
      · simp only [List.length_cons]
        omega
theorem dec1_q1 (b : UInt8) (r : List UInt8) : dec1 (q1 b ++ r) = (b, (q1 b).length) := by
  unfold q1
  split
  · rename_i h
    have : b ≠ 92 := fun e => by subst e; revert h; decide
    simp [dec1, this]
  · split
    · rename_i h1 h2
      rcases h2 with rfl | rfl <;> simp [dec1]
    · simp only [List.cons_append, List.nil_append, dec1]
      rw [if_neg (by simp), if_neg (by simp)]
      simp only [List.getD_cons_zero, List.getD_cons_succ]
      rw [hx_hex]
      rfl
/-- All of a piece, by the program. -/
def decL : Nat → List UInt8 → List UInt8
  | 0, _ => []
  | n + 1, s => if s = [] then [] else (dec1 s).1 :: decL n (s.drop (dec1 s).2)
theorem decL_len : ∀ n s, (decL n s).length ≤ n
  | 0, _ => by simp [decL]
  | n + 1, s => by
    unfold decL
    split
    · simp
    · have := decL_len n (s.drop (dec1 s).2)
      simp only [List.length_cons]
      omega
theorem decL_qb : ∀ (l : List UInt8) (n : Nat), (qb l).length ≤ n → decL n (qb l) = l
  | [], n, _ => by cases n <;> simp [decL, qb_nil]
  | b :: l, n, h => by
    have hq := q1_len b
    rw [qb_cons, List.length_append] at h
    obtain ⟨m, rfl⟩ : ∃ m, n = m + 1 := ⟨n - 1, by omega⟩
    unfold decL
    rw [qb_cons, if_neg (fun e => by have := congrArg List.length e; rw [List.length_append, List.length_nil] at this; omega), dec1_q1]
    simp only
    rw [List.drop_left, decL_qb l m (by omega)]
theorem decL_more : ∀ (n m : Nat) (s : List UInt8), s.length ≤ n → s.length ≤ m → decL n s = decL m s
  | 0, m, s, h, _ => by
    obtain rfl : s = [] := List.eq_nil_of_length_eq_zero (by omega)
    cases m <;> simp [decL]
  | n + 1, 0, s, _, h => by
    obtain rfl : s = [] := List.eq_nil_of_length_eq_zero (by omega)
    simp [decL]
  | n + 1, m + 1, s, h1, h2 => by
    unfold decL
    split
    · rfl
    · cases s with
      | nil => simp at *
      | cons c r =>
        have := dec1_size c r
        rw [decL_more n m _ (by rw [List.length_drop]; omega) (by rw [List.length_drop]; omega)]
def mid (s : List UInt8) : List UInt8 := (s.take (s.length - 1)).drop 1
theorem mid_quote (l : List UInt8) : mid (quoteL l) = qb l := by
  unfold mid
  rw [quoteL_len]
  unfold quoteL
  simp
/-- What a text stands for. -/
def unq (s : List UInt8) : Option (List UInt8) := if s.length < 2 then none else if quoteL (decL s.length (mid s)) = s then some (decL s.length (mid s)) else none
theorem unq_quote (l : List UInt8) : unq (quoteL l) = some l := by
  unfold unq
  have h := quoteL_len l
  rw [if_neg (by omega), mid_quote, decL_qb l _ (by omega), if_pos rfl]
theorem unq_some {s l : List UInt8} (h : unq s = some l) : quoteL l = s := by
  unfold unq at h
  split at h
  · cases h
  · split at h
    · rename_i e
      cases h
      exact e
    · cases h
theorem unq_iff (s l : List UInt8) : unq s = some l ↔ quoteL l = s := ⟨unq_some, fun h => h ▸ unq_quote l⟩
/-- The document's reading of a piece. -/
def decD : Nat → List UInt8 → Option (List UInt8)
  | 0, _ => some []
  | n + 1, s => match s with
    | [] => some []
    | c :: r => if c ≠ 92 then (decD n r).map (c :: ·) else
      match r with
      | [] => none
      | d :: r2 => if d ≠ 120 then (decD n r2).map (d :: ·) else
        if r2.length < 2 ∨ hexI (r2.getD 0 0) < 0 ∨ hexI (r2.getD 1 0) < 0 then none else (decD n (r2.drop 2)).map (hx (hexI (r2.getD 0 0)) (hexI (r2.getD 1 0)) :: ·)
theorem decD_qb : ∀ (l : List UInt8) (n : Nat), (qb l).length ≤ n → decD n (qb l) = some l
  | [], n, _ => by cases n <;> simp [decD, qb_nil]
  | b :: l, n, h => by
    have hq := q1_len b
    rw [qb_cons, List.length_append] at h
    obtain ⟨m, rfl⟩ : ∃ m, n = m + 1 := ⟨n - 1, by omega⟩
    have ih := decD_qb l m (by omega)
    rw [qb_cons]
    unfold q1
    split
    · rename_i h
      have : b ≠ 92 := fun e => by subst e; revert h; decide
      simp [decD, this, ih]
    · split
      · rename_i h1 h2
        rcases h2 with rfl | rfl <;> simp [decD, ih]
      · have e1 := hexI_ok (b.toNat / 16) (by have := b.toNat_lt; omega)
        have e2 := hexI_ok (b.toNat % 16) (by omega)
        simp only [List.cons_append, List.nil_append, decD]
        rw [if_neg (by simp), if_neg (by simp)]
        simp only [List.getD_cons_zero, List.getD_cons_succ]
        rw [if_neg (by simp only [List.length_cons]; omega), hx_hex]
        simp [ih]
/-- What a text stands for, by the document. -/
def unqD (s : List UInt8) : Option (List UInt8) :=
  if s.length < 2 ∨ s.head? ≠ some 34 ∨ s.getLast? ≠ some 34 then none else
    match decD s.length (mid s) with
    | none => none
    | some l => if quoteL l = s then some l else none
theorem unqD_eq (s : List UInt8) : unqD s = unq s := by
  cases h : unq s with
  | none =>
    unfold unqD
    split
    · rfl
    · cases hd : decD s.length (mid s) with
      | none => rfl
      | some l =>
        simp only
        split
        · rename_i e
          rw [(unq_iff s l).2 e] at h
          cases h
        · rfl
  | some l =>
    have e := unq_some h
    subst e
    unfold unqD
    have h2 := quoteL_len l
    rw [if_neg (by
      rintro (h | h | h)
      · omega
      · exact h rfl
      · apply h; unfold quoteL; simp [List.getLast?_cons, List.getLast?_append])]
    rw [mid_quote, decD_qb l _ (by omega)]
    simp
end Go.Proofs.YtndfgpelioipcaaDoor
