/- Content-defined cutting, of no program: a piece grows byte by byte. -/
namespace Go.Proofs.YtbmbdidmbdanmaaDoor

def two64 : Nat := 18446744073709551616
/-- A number, mixed. -/
def mixA (x : Nat) : Nat := ((x ^^^ x / 1073741824) * 13787848793156543929) % 18446744073709551616
def mixB (x : Nat) : Nat := ((x ^^^ x / 134217728) * 10723151780598845931) % 18446744073709551616
def mixC (x : Nat) : Nat := x ^^^ x / 2147483648
def mixN (x : Nat) : Nat := mixC (mixB (mixA x))
def gearN (seed : Nat) (b : UInt8) : Nat := mixN ((seed + b.toNat) % 18446744073709551616)
theorem xor64 {a b : Nat} (ha : a < 18446744073709551616) (hb : b < 18446744073709551616) : a ^^^ b < 18446744073709551616 := Nat.xor_lt_two_pow (n := 64) ha hb
theorem mixA_lt (x : Nat) : mixA x < 18446744073709551616 := Nat.mod_lt _ (by decide)
theorem mixB_lt (x : Nat) : mixB x < 18446744073709551616 := Nat.mod_lt _ (by decide)
theorem mixC_lt (x : Nat) (h : x < 18446744073709551616) : mixC x < 18446744073709551616 := xor64 h (by omega)
theorem mixN_lt (x : Nat) : mixN x < 18446744073709551616 := mixC_lt _ (mixB_lt _)
theorem gearN_lt (s : Nat) (b : UInt8) : gearN s b < 18446744073709551616 := mixN_lt _

/-- A shape that may be. -/
structure Shp where
  mn : Nat
  no : Nat
  mx : Nat
  seed : Nat
  k : Nat
structure Shp.Ok (c : Shp) : Prop where
  pow : c.no = 2 ^ c.k
  k1 : 4 ≤ c.k
  k2 : c.k ≤ 16
  mn1 : 1 ≤ c.mn
  mn2 : c.mn ≤ c.no
  mx1 : c.no ≤ c.mx
  mx2 : c.mx ≤ 8 * c.no
  sd : c.seed < 18446744073709551616
theorem Shp.Ok.no_le {c : Shp} (h : c.Ok) : c.no ≤ 65536 := by
  rw [h.pow]
  exact Nat.le_trans (Nat.pow_le_pow_right (by decide) h.k2) (by decide)
theorem Shp.Ok.no_ge {c : Shp} (h : c.Ok) : 16 ≤ c.no := by
  rw [h.pow]
  exact Nat.le_trans (by decide) (Nat.pow_le_pow_right (by decide) h.k1)
theorem Shp.Ok.mx_le {c : Shp} (h : c.Ok) : c.mx ≤ 524288 := by have := h.no_le; have := h.mx2; omega
/-- How many of the highest bits are looked at ahead of byte i. -/
def Shp.zer (c : Shp) (i : Nat) : Nat := if i < c.no then c.k + 1 else c.k - 1
theorem Shp.Ok.zer_le {c : Shp} (h : c.Ok) (i : Nat) : 3 ≤ c.zer i ∧ c.zer i ≤ 17 := by
  have := h.k1
  have := h.k2
  unfold Shp.zer
  split <;> omega
def Shp.hash (c : Shp) (h : Nat) (x : UInt8) : Nat := (2 * h + gearN c.seed x) % 18446744073709551616
theorem Shp.hash_lt (c : Shp) (h : Nat) (x : UInt8) : c.hash h x < 18446744073709551616 := Nat.mod_lt _ (by decide)
/-- Are the bits all 0? -/
def Shp.hit (c : Shp) (i h : Nat) : Bool := decide (h / 2 ^ (64 - c.zer i) = 0)
/-- A piece of so many bytes, with its hash, grows: how many bytes are its own, whether its cut is sure, and what it is then. -/
def Shp.grow (c : Shp) : Nat → Nat → List UInt8 → Nat × Bool × Nat × Nat
  | len, h, [] => (0, decide (len = c.mx), len, h)
  | len, h, x :: l =>
    if len = c.mx then (0, true, len, h)
    else if len < c.mn then let r := c.grow (len + 1) h l; (r.1 + 1, r.2)
    else if c.hit len (c.hash h x) = true then (0, true, len, c.hash h x)
    else let r := c.grow (len + 1) (c.hash h x) l; (r.1 + 1, r.2)
theorem Shp.grow_le (c : Shp) : ∀ (l : List UInt8) (len h : Nat), (c.grow len h l).1 ≤ l.length
  | [], _, _ => by simp [Shp.grow]
  | x :: l, len, h => by
    have h1 := c.grow_le l (len + 1) h
    have h2 := c.grow_le l (len + 1) (c.hash h x)
    unfold Shp.grow
    split
    · simp
    · split
      · simp only [List.length_cons]; omega
      · split
        · simp
        · simp only [List.length_cons]; omega
theorem Shp.grow_len (c : Shp) : ∀ (l : List UInt8) (len h : Nat), (c.grow len h l).2.2.1 = len + (c.grow len h l).1
  | [], _, _ => by simp [Shp.grow]
  | x :: l, len, h => by
    have h1 := c.grow_len l (len + 1) h
    have h2 := c.grow_len l (len + 1) (c.hash h x)
    unfold Shp.grow
    split
    · rfl
    · split
      · simp only; omega
      · split
        · rfl
        · simp only; omega
theorem Shp.grow_mx (c : Shp) : ∀ (l : List UInt8) (len h : Nat), len ≤ c.mx → (c.grow len h l).2.2.1 ≤ c.mx
  | [], _, _, hl => by simpa [Shp.grow] using hl
  | x :: l, len, h, hl => by
    unfold Shp.grow
    split
    · exact hl
    · split
      · exact c.grow_mx l (len + 1) h (by omega)
      · split
        · exact hl
        · exact c.grow_mx l (len + 1) (c.hash h x) (by omega)
theorem Shp.grow_hash (c : Shp) : ∀ (l : List UInt8) (len h : Nat), h < 18446744073709551616 → (c.grow len h l).2.2.2 < 18446744073709551616
  | [], _, _, hl => by simpa [Shp.grow] using hl
  | x :: l, len, h, hl => by
    unfold Shp.grow
    split
    · exact hl
    · split
      · exact c.grow_hash l (len + 1) h hl
      · split
        · exact c.hash_lt h x
        · exact c.grow_hash l (len + 1) (c.hash h x) (c.hash_lt h x)
/-- A piece that was not cut has all the bytes. -/
theorem Shp.grow_all (c : Shp) : ∀ (l : List UInt8) (len h : Nat), (c.grow len h l).2.1 = false → (c.grow len h l).1 = l.length ∧ (c.grow len h l).2.2.1 ≠ c.mx
  | [], _, _, hl => by simpa [Shp.grow] using hl
  | x :: l, len, h, hl => by
    unfold Shp.grow at hl ⊢
    split at hl
    · cases hl
    · split at hl
      · rename_i h1 h2
        rw [if_neg h1, if_pos h2]
        have := c.grow_all l (len + 1) h hl
        exact ⟨by simp only [List.length_cons]; omega, this.2⟩
      · rename_i h1 h2
        split at hl
        · cases hl
        · rename_i h3
          rw [if_neg h1, if_neg h2, if_neg h3]
          have := c.grow_all l (len + 1) (c.hash h x) hl
          exact ⟨by simp only [List.length_cons]; omega, this.2⟩
/-- A new piece of some bytes has one at least. -/
theorem Shp.grow_pos (c : Shp) (hc : c.Ok) (x : UInt8) (l : List UInt8) : 1 ≤ (c.grow 0 0 (x :: l)).1 := by
  have := hc.mn1
  have := hc.mn2
  have := hc.mx1
  unfold Shp.grow
  rw [if_neg (by omega), if_pos (by omega)]
  simp
/-- The bytes ahead of Min are not looked at. -/
theorem Shp.grow_few (c : Shp) (hc : c.Ok) : ∀ (l : List UInt8) (len h : Nat), len + l.length ≤ c.mn → c.grow len h l = (l.length, decide (len + l.length = c.mx), len + l.length, h)
  | [], _, _, _ => by simp [Shp.grow]
  | x :: l, len, h, hl => by
    have h1 := hc.mn2
    have h2 := hc.mx1
    simp only [List.length_cons] at hl
    unfold Shp.grow
    rw [if_neg (by omega), if_pos (by omega), c.grow_few hc l (len + 1) h (by omega)]
    simp only [List.length_cons]
    rw [show len + 1 + l.length = len + (l.length + 1) by omega]
theorem Shp.grow_skip (c : Shp) (hc : c.Ok) : ∀ (j : Nat) (l : List UInt8) (len h : Nat), len + j ≤ c.mn → j ≤ l.length → c.grow len h l = (j + (c.grow (len + j) h (l.drop j)).1, (c.grow (len + j) h (l.drop j)).2)
  | 0, l, len, h, _, _ => by simp
  | j + 1, [], len, h, _, hl => by simp at hl
  | j + 1, x :: l, len, h, hm, hl => by
    have h1 := hc.mn2
    have h2 := hc.mx1
    simp only [List.length_cons] at hl
    rw [Shp.grow, if_neg (by omega), if_pos (by omega), c.grow_skip hc j l (len + 1) h (by omega) (by omega), List.drop_succ_cons, show len + 1 + j = len + (j + 1) by omega]
    simp only [Prod.mk.injEq, and_true]
    omega
theorem drop_cons' {l : List UInt8} {i : Nat} {x : UInt8} (h : l[i]? = some x) : l.drop i = x :: l.drop (i + 1) := by
  obtain ⟨hi, he⟩ := List.getElem?_eq_some_iff.1 h
  rw [List.drop_eq_getElem_cons hi, he]
end Go.Proofs.YtbmbdidmbdanmaaDoor
