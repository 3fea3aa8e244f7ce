/- SHA-256 as plain mathematics. Of no program. -/
import Derived.Test.YtbankcgkbiflhaaDoorBase
namespace Go.Proofs.YtbankcgkbiflhaaDoor
set_option linter.unusedVariables false

def M32 : Nat := 4294967296
def kws : List Nat := [
  0x428a2f98, 0x71374491, 0xb5c0fbcf, 0xe9b5dba5, 0x3956c25b, 0x59f111f1, 0x923f82a4, 0xab1c5ed5,
  0xd807aa98, 0x12835b01, 0x243185be, 0x550c7dc3, 0x72be5d74, 0x80deb1fe, 0x9bdc06a7, 0xc19bf174,
  0xe49b69c1, 0xefbe4786, 0x0fc19dc6, 0x240ca1cc, 0x2de92c6f, 0x4a7484aa, 0x5cb0a9dc, 0x76f988da,
  0x983e5152, 0xa831c66d, 0xb00327c8, 0xbf597fc7, 0xc6e00bf3, 0xd5a79147, 0x06ca6351, 0x14292967,
  0x27b70a85, 0x2e1b2138, 0x4d2c6dfc, 0x53380d13, 0x650a7354, 0x766a0abb, 0x81c2c92e, 0x92722c85,
  0xa2bfe8a1, 0xa81a664b, 0xc24b8b70, 0xc76c51a3, 0xd192e819, 0xd6990624, 0xf40e3585, 0x106aa070,
  0x19a4c116, 0x1e376c08, 0x2748774c, 0x34b0bcb5, 0x391c0cb3, 0x4ed8aa4a, 0x5b9cca4f, 0x682e6ff3,
  0x748f82ee, 0x78a5636f, 0x84c87814, 0x8cc70208, 0x90befffa, 0xa4506ceb, 0xbef9a3f7, 0xc67178f2]
def kw (t : Nat) : Nat := kws.getD t 0
/-- A word turned right. -/
def rr (n x : Nat) : Nat := x / 2 ^ n ||| x * 2 ^ (32 - n) % 4294967296
def sg0 (x : Nat) : Nat := rr 7 x ^^^ rr 18 x ^^^ x / 8
def sg1 (x : Nat) : Nat := rr 17 x ^^^ rr 19 x ^^^ x / 1024
def bg0 (a : Nat) : Nat := rr 2 a ^^^ rr 13 a ^^^ rr 22 a
def bg1 (e : Nat) : Nat := rr 6 e ^^^ rr 11 e ^^^ rr 25 e
def chf (e f g : Nat) : Nat := (e &&& f) ^^^ ((4294967295 - e) &&& g)
def maj (a b c : Nat) : Nat := (a &&& b) ^^^ (a &&& c) ^^^ (b &&& c)
/-- The next word behind those of l. -/
def wnext (l : List Nat) : Nat := (sg1 (l.getD (l.length - 2) 0) + l.getD (l.length - 7) 0 + sg0 (l.getD (l.length - 15) 0) + l.getD (l.length - 16) 0) % 4294967296
/-- The word t of a block. -/
def wfirst (b : List UInt8) (t : Nat) : Nat := (b.getD (4 * t) 0).toNat * 16777216 + (b.getD (4 * t + 1) 0).toNat * 65536 + (b.getD (4 * t + 2) 0).toNat * 256 + (b.getD (4 * t + 3) 0).toNat
/-- The first t words. -/
def wds (b : List UInt8) : Nat → List Nat
  | 0 => []
  | t + 1 => wds b t ++ [if t < 16 then wfirst b t else wnext (wds b t)]
structure S8 where
  a : Nat
  b : Nat
  c : Nat
  d : Nat
  e : Nat
  f : Nat
  g : Nat
  h : Nat
deriving DecidableEq
structure S8.Ok (s : S8) : Prop where
  a : s.a < 4294967296
  b : s.b < 4294967296
  c : s.c < 4294967296
  d : s.d < 4294967296
  e : s.e < 4294967296
  f : s.f < 4294967296
  g : s.g < 4294967296
  h : s.h < 4294967296
def tt1 (s : S8) (k w : Nat) : Nat := (s.h + bg1 s.e + chf s.e s.f s.g + k + w) % 4294967296
def tt2 (s : S8) : Nat := (bg0 s.a + maj s.a s.b s.c) % 4294967296
def rnd (s : S8) (k w : Nat) : S8 := ⟨(tt1 s k w + tt2 s) % 4294967296, s.a, s.b, s.c, (s.d + tt1 s k w) % 4294967296, s.e, s.f, s.g⟩
/-- Behind n rounds over the words ws. -/
def rnds (s : S8) (ws : List Nat) : Nat → S8
  | 0 => s
  | n + 1 => rnd (rnds s ws n) (kw n) (ws.getD n 0)
def S8.add (s t : S8) : S8 := ⟨(s.a + t.a) % 4294967296, (s.b + t.b) % 4294967296, (s.c + t.c) % 4294967296, (s.d + t.d) % 4294967296, (s.e + t.e) % 4294967296, (s.f + t.f) % 4294967296, (s.g + t.g) % 4294967296, (s.h + t.h) % 4294967296⟩
/-- The state behind one more block. -/
def blkS (s : S8) (b : List UInt8) : S8 := s.add (rnds s (wds b 64) 64)
def H0 : S8 := ⟨0x6a09e667, 0xbb67ae85, 0x3c6ef372, 0xa54ff53a, 0x510e527f, 0x9b05688c, 0x1f83d9ab, 0x5be0cd19⟩
/-- Behind the first n blocks of l. -/
def runN (l : List UInt8) : Nat → S8
  | 0 => H0
  | n + 1 => blkS (runN l n) ((l.drop (64 * n)).take 64)
def be8 (n : Nat) : List UInt8 := (List.range 8).map fun i => UInt8.ofNat (n / 2 ^ (56 - 8 * i) % 256)
/-- What stands behind n bytes. -/
def padL (n : Nat) : List UInt8 := 128 :: List.replicate (63 - (n + 8) % 64) 0 ++ be8 (8 * n % 18446744073709551616)
def S8.list (s : S8) : List Nat := [s.a, s.b, s.c, s.d, s.e, s.f, s.g, s.h]
/-- The bytes of a state. -/
def S8.byt (s : S8) (i : Nat) : Nat := s.list.getD (i / 4) 0 / 2 ^ (24 - 8 * (i % 4)) % 256
def S8.out (s : S8) : List UInt8 := (List.range 32).map fun i => UInt8.ofNat (s.byt i)
def shaL (l : List UInt8) : List UInt8 := (runN (l ++ padL l.length) ((l.length + (padL l.length).length) / 64)).out
theorem padL_len (n : Nat) : (padL n).length = 72 - (n + 8) % 64 := by
  unfold padL be8
  have := Nat.mod_lt (n + 8) (show 0 < 64 by decide)
  simp
  omega
theorem runN_congr (l m : List UInt8) : ∀ n, l.take (64 * n) = m.take (64 * n) → runN l n = runN m n
  | 0, _ => rfl
  | n + 1, h => by
    have e : l.take (64 * n) = m.take (64 * n) := by
      have := congrArg (List.take (64 * n)) h
      rwa [List.take_take, List.take_take, Nat.min_eq_left (by omega)] at this
    have e2 : (l.drop (64 * n)).take 64 = (m.drop (64 * n)).take 64 := by
      have := congrArg (List.drop (64 * n)) h
      rwa [List.drop_take, List.drop_take, show 64 * (n + 1) - 64 * n = 64 by omega] at this
    rw [runN, runN, runN_congr l m n e, e2]
theorem runN_append (l m : List UInt8) (n : Nat) (h : 64 * n ≤ l.length) : runN (l ++ m) n = runN l n :=
  runN_congr _ _ n (by rw [List.take_append_of_le_length h])
theorem or_lt32 {a b : Nat} (ha : a < 4294967296) (hb : b < 4294967296) : a ||| b < 4294967296 := Nat.or_lt_two_pow (n := 32) ha hb
theorem xor_lt32 {a b : Nat} (ha : a < 4294967296) (hb : b < 4294967296) : a ^^^ b < 4294967296 := Nat.xor_lt_two_pow (n := 32) ha hb
theorem and_lt32 {a b : Nat} (ha : a < 4294967296) : a &&& b < 4294967296 := Nat.lt_of_le_of_lt Nat.and_le_left ha
theorem div_lt32 {a b : Nat} (ha : a < 4294967296) : a / b < 4294967296 := Nat.lt_of_le_of_lt (Nat.div_le_self _ _) ha
theorem rr_lt {n x : Nat} (h : x < 4294967296) : rr n x < 4294967296 := or_lt32 (div_lt32 h) (Nat.mod_lt _ (by decide))
theorem sg0_lt {x : Nat} (h : x < 4294967296) : sg0 x < 4294967296 := xor_lt32 (xor_lt32 (rr_lt h) (rr_lt h)) (div_lt32 h)
theorem sg1_lt {x : Nat} (h : x < 4294967296) : sg1 x < 4294967296 := xor_lt32 (xor_lt32 (rr_lt h) (rr_lt h)) (div_lt32 h)
theorem bg0_lt {x : Nat} (h : x < 4294967296) : bg0 x < 4294967296 := xor_lt32 (xor_lt32 (rr_lt h) (rr_lt h)) (rr_lt h)
theorem bg1_lt {x : Nat} (h : x < 4294967296) : bg1 x < 4294967296 := xor_lt32 (xor_lt32 (rr_lt h) (rr_lt h)) (rr_lt h)
theorem chf_lt {e f g : Nat} (h : e < 4294967296) : chf e f g < 4294967296 := xor_lt32 (and_lt32 h) (and_lt32 (by omega))
theorem maj_lt {a b c : Nat} (ha : a < 4294967296) (hb : b < 4294967296) : maj a b c < 4294967296 := xor_lt32 (xor_lt32 (and_lt32 ha) (and_lt32 ha)) (and_lt32 hb)
theorem tt1_lt (s : S8) (k w : Nat) : tt1 s k w < 4294967296 := Nat.mod_lt _ (by decide)
theorem tt2_lt (s : S8) : tt2 s < 4294967296 := Nat.mod_lt _ (by decide)
theorem kw_lt (t : Nat) : kw t < 4294967296 := by
  unfold kw
  by_cases h : t < 64
  · have : ∀ t, t < 64 → kws.getD t 0 < 4294967296 := by decide +kernel
    exact this t h
  · rw [List.getD_eq_getElem?_getD, List.getElem?_eq_none (by simp [kws]; omega)]
    decide
theorem wfirst_lt (b : List UInt8) (t : Nat) : wfirst b t < 4294967296 := by
  unfold wfirst
  have h1 := (b.getD (4 * t) 0).toNat_lt
  have h2 := (b.getD (4 * t + 1) 0).toNat_lt
  have h3 := (b.getD (4 * t + 2) 0).toNat_lt
  have h4 := (b.getD (4 * t + 3) 0).toNat_lt
  omega
theorem wds_len (b : List UInt8) : ∀ t, (wds b t).length = t
  | 0 => rfl
  | t + 1 => by rw [wds, List.length_append, wds_len b t]; rfl
theorem wds_lt (b : List UInt8) : ∀ t, ∀ x ∈ wds b t, x < 4294967296
  | 0 => by simp [wds]
  | t + 1 => by
    intro x hx
    rw [wds, List.mem_append, List.mem_singleton] at hx
    rcases hx with hx | rfl
    · exact wds_lt b t x hx
    · split
      · exact wfirst_lt b t
      · exact Nat.mod_lt _ (by decide)
theorem getD_lt {l : List Nat} (h : ∀ x ∈ l, x < 4294967296) (i : Nat) : l.getD i 0 < 4294967296 := by
  rw [List.getD_eq_getElem?_getD]
  cases e : l[i]? with
  | none => simp
  | some x => exact h x (List.mem_of_getElem? e)
theorem rnd_ok {s : S8} (h : s.Ok) (k w : Nat) : (rnd s k w).Ok := ⟨Nat.mod_lt _ (by decide), h.a, h.b, h.c, Nat.mod_lt _ (by decide), h.e, h.f, h.g⟩
theorem rnds_ok {s : S8} (h : s.Ok) (ws : List Nat) : ∀ n, (rnds s ws n).Ok
  | 0 => h
  | n + 1 => rnd_ok (rnds_ok h ws n) _ _
theorem add_ok (s t : S8) : (s.add t).Ok := ⟨Nat.mod_lt _ (by decide), Nat.mod_lt _ (by decide), Nat.mod_lt _ (by decide), Nat.mod_lt _ (by decide), Nat.mod_lt _ (by decide), Nat.mod_lt _ (by decide), Nat.mod_lt _ (by decide), Nat.mod_lt _ (by decide)⟩
theorem H0_ok : H0.Ok := by constructor <;> decide
theorem runN_ok (l : List UInt8) : ∀ n, (runN l n).Ok
  | 0 => H0_ok
  | n + 1 => add_ok _ _
theorem out_len (s : S8) : s.out.length = 32 := by simp [S8.out]
def abcL : List UInt8 := [97, 98, 99]
set_option maxRecDepth 100000 in
theorem sha_abc : shaL abcL = [0xba, 0x78, 0x16, 0xbf, 0x8f, 0x01, 0xcf, 0xea, 0x41, 0x41, 0x40, 0xde, 0x5d, 0xae, 0x22, 0x23, 0xb0, 0x03, 0x61, 0xa3, 0x96, 0x17, 0x7a, 0x9c, 0xb4, 0x10, 0xff, 0x61, 0xf2, 0x00, 0x15, 0xad] := by decide +kernel
end Go.Proofs.YtbankcgkbiflhaaDoor
