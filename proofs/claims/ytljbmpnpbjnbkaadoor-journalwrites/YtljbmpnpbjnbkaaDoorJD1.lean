/- journal: the document's Writer, pure: its rooms are the stream cut into pieces. Of no program. -/
import Derived.Test.YtljbmpnpbjnbkaaDoorJR4
import Derived.Test.YtljbmpnpbjnbkaaDoorJT
namespace Go.Proofs.YtljbmpnpbjnbkaaDoor
open Go.RowKit
set_option linter.unusedVariables false
/-- Rooms of r bytes: all full but the last one, none empty. -/
def Chk (r : Nat) : List (List UInt8) → Prop
  | [] => True
  | [x] => 0 < x.length ∧ x.length ≤ r
  | x :: y :: l => x.length = r ∧ Chk r (y :: l)
theorem Chk.tail {r : Nat} {x : List UInt8} {l : List (List UInt8)} (h : Chk r (x :: l)) : Chk r l := by
  cases l with
  | nil => trivial
  | cons y l => exact h.2
theorem Chk.le {r : Nat} : ∀ {l : List (List UInt8)}, Chk r l → ∀ x ∈ l, x.length ≤ r
  | [], _, _, hx => by cases hx
  | [y], h, x, hx => by
    obtain rfl := List.mem_singleton.1 hx
    exact h.2
  | y :: z :: l, h, x, hx => by
    rcases List.mem_cons.1 hx with rfl | hx
    · exact Nat.le_of_eq h.1
    · exact Chk.le h.2 x hx
/-- How many rooms: as many as the bytes want. -/
theorem Chk.many {r : Nat} (hr : 0 < r) : ∀ {l : List (List UInt8)}, Chk r l → l.length = (l.flatten.length + r - 1) / r
  | [], _ => by
    show 0 = _
    rw [Nat.div_eq_of_lt]
    show 0 + r - 1 < r
    omega
  | [x], h => by
    show 1 = _
    simp only [List.flatten_cons, List.flatten_nil, List.append_nil]
    have g1 := h.1
    have g2 := h.2
    exact (Nat.div_eq_of_lt_le (k := 1) (by omega) (by omega)).symm
  | x :: y :: l, h => by
    have ih := Chk.many hr h.2
    rw [List.length_cons, ih, show (x :: y :: l).flatten = x ++ (y :: l).flatten from rfl, List.length_append, h.1, show r + (y :: l).flatten.length + r - 1 = (y :: l).flatten.length + r - 1 + r by omega, Nat.add_div_right _ hr]
/-- Each room is its piece. -/
theorem Chk.piece {r : Nat} : ∀ {l : List (List UInt8)}, Chk r l → ∀ (i : Nat) (x : List UInt8), l[i]? = some x → x = (l.flatten.drop (i * r)).take r
  | [], _, i, x, hx => by simp at hx
  | [y], h, i, x, hx => by
    cases i with
    | zero =>
      obtain rfl : y = x := by simpa using hx
      simp [List.take_of_length_le h.2]
    | succ i => simp at hx
  | y :: z :: l, h, i, x, hx => by
    cases i with
    | zero =>
      obtain rfl : y = x := by simpa using hx
      rw [List.flatten_cons, Nat.zero_mul, List.drop_zero, List.take_append_of_le_length (Nat.le_of_eq h.1.symm), List.take_of_length_le (Nat.le_of_eq h.1)]
    | succ i =>
      have hx' : (z :: l)[i]? = some x := by simpa using hx
      have ih := Chk.piece h.2 i x hx'
      rw [List.flatten_cons, ← h.1, Nat.succ_mul, Nat.add_comm, ← List.drop_drop, List.drop_left, h.1]
      exact ih
/-- A byte behind the last one. -/
def pushB (r : Nat) : List (List UInt8) → UInt8 → List (List UInt8)
  | [], b => [[b]]
  | [x], b => if x.length = r then [x, [b]] else [x ++ [b]]
  | x :: y :: l, b => x :: pushB r (y :: l) b
theorem pushB_flat (r : Nat) (b : UInt8) : ∀ l, (pushB r l b).flatten = l.flatten ++ [b]
  | [] => rfl
  | [x] => by
    unfold pushB
    split <;> simp
  | x :: y :: l => by
    unfold pushB
    rw [List.flatten_cons, pushB_flat r b (y :: l), show (x :: y :: l).flatten = x ++ (y :: l).flatten from rfl, List.append_assoc]
theorem pushB_ne (r : Nat) (b : UInt8) : ∀ l, ∃ y t, pushB r l b = y :: t
  | [] => ⟨_, _, rfl⟩
  | [x] => by
    unfold pushB
    split <;> exact ⟨_, _, rfl⟩
  | x :: y :: l => ⟨_, _, rfl⟩
theorem Chk.push {r : Nat} (hr : 1 ≤ r) (b : UInt8) : ∀ {l : List (List UInt8)}, Chk r l → Chk r (pushB r l b)
  | [], _ => ⟨Nat.succ_pos _, hr⟩
  | [x], h => by
    unfold pushB
    split
    · rename_i e
      exact ⟨e, Nat.succ_pos _, hr⟩
    · rename_i e
      have := h.2
      exact ⟨by simp, by simp; omega⟩
  | x :: y :: l, h => by
    have ih := Chk.push hr b h.2
    unfold pushB
    obtain ⟨z, t, e⟩ := pushB_ne r b (y :: l)
    rw [e] at ih ⊢
    exact ⟨h.1, ih⟩
theorem pushB_new {r : Nat} (b : UInt8) : ∀ (l : List (List UInt8)), (l = [] ∨ ∃ x, l[l.length - 1]? = some x ∧ x.length = r) → pushB r l b = l ++ [[b]]
  | [], _ => rfl
  | [x], h => by
    rcases h with h | ⟨y, hy, hl⟩
    · cases h
    · obtain rfl : x = y := by simpa using hy
      simp [pushB, hl]
  | x :: y :: l, h => by
    have h' : (y :: l)[(y :: l).length - 1]? = (x :: y :: l)[(x :: y :: l).length - 1]? := by simp
    unfold pushB
    rw [pushB_new b (y :: l) (.inr (by
      rcases h with h | ⟨z, hz, hl⟩
      · cases h
      · exact ⟨z, h'.trans hz, hl⟩))]
    rfl
theorem pushB_on {r : Nat} (b : UInt8) : ∀ (l : List (List UInt8)) (x : List UInt8), l[l.length - 1]? = some x → x.length ≠ r → pushB r l b = l.set (l.length - 1) (x ++ [b])
  | [], _, h, _ => by simp at h
  | [y], x, h, hl => by
    obtain rfl : y = x := by simpa using h
    simp [pushB, hl]
  | y :: z :: l, x, h, hl => by
    have h' : (z :: l)[(z :: l).length - 1]? = (y :: z :: l)[(y :: z :: l).length - 1]? := by simp
    unfold pushB
    rw [pushB_on b (z :: l) x (h'.trans h) hl]
    simp
/-- Some bytes, one behind the other. -/
def pushL (r : Nat) (l : List (List UInt8)) (bs : List UInt8) : List (List UInt8) := bs.foldl (pushB r) l
theorem pushL_flat (r : Nat) : ∀ (bs : List UInt8) (l : List (List UInt8)), (pushL r l bs).flatten = l.flatten ++ bs
  | [], l => by simp [pushL]
  | b :: bs, l => by
    show (pushL r (pushB r l b) bs).flatten = _
    rw [pushL_flat r bs, pushB_flat]
    simp
theorem Chk.pushL {r : Nat} (hr : 1 ≤ r) : ∀ (bs : List UInt8) {l : List (List UInt8)}, Chk r l → Chk r (pushL r l bs)
  | [], l, h => h
  | b :: bs, l, h => Chk.pushL hr bs (l := pushB r l b) (h.push hr b)
/-- What the document's Writer is. -/
structure DSt where
  size : Nat
  sectors : Nat
  gen : Nat
  rooms : List (List UInt8)
  taken : Nat
  count : Nat
def DSt.cur (d : DSt) : List (List UInt8) := d.rooms.drop d.taken
def DSt.free (d : DSt) : Nat := (d.sectors - d.taken) * (d.size - 24) - d.cur.flatten.length
/-- It is as the program's. -/
structure Ag (d : DSt) (s : JSt) : Prop where
  ok : s.Ok
  size : d.size = s.size
  sectors : d.sectors = s.sectors
  gen : d.gen = s.gen
  taken : d.taken = s.taken
  count : d.count = s.recs
  le : d.taken ≤ d.rooms.length
  chk : Chk (s.size - 24) d.cur
  flat : d.cur.flatten = s.bs
theorem Ag.free {d : DSt} {s : JSt} (h : Ag d s) : d.free = s.free := by
  unfold DSt.free JSt.free
  rw [h.size, h.sectors, h.taken, h.flat]
theorem Ag.many {d : DSt} {s : JSt} (h : Ag d s) : d.cur.length = s.many := by
  have := h.ok.room
  rw [h.chk.many (by unfold JSt.room at this; omega), h.flat]
  rfl
theorem Ag.len {d : DSt} {s : JSt} (h : Ag d s) : d.rooms.length = s.taken + s.many := by
  have h1 := h.many
  have h2 := h.le
  have h3 := h.taken
  unfold DSt.cur at h1
  rw [List.length_drop] at h1
  omega
theorem Ag.sec {d : DSt} {s : JSt} (h : Ag d s) (i : Nat) (x : List UInt8) (hx : d.cur[i]? = some x) : jsec d.size d.gen (d.taken + i) x = s.sec i := by
  have := h.chk.piece i x hx
  unfold JSt.sec JSt.room
  rw [h.size, h.gen, h.taken, this, h.flat]
theorem Ag.new {size sectors gen : Nat} (h : JMay size sectors) (hg : gen < 18446744073709551616) : Ag ⟨size, sectors, gen, [], 0, 0⟩ (JSt.new size sectors gen) :=
  ⟨JSt.new_ok size sectors gen h hg, rfl, rfl, rfl, rfl, rfl, Nat.le_refl _, trivial, rfl⟩
/-- A record laid. -/
def DSt.app (d : DSt) (rec : List UInt8) : DSt := { d with rooms := d.rooms.take d.taken ++ Go.Proofs.YtljbmpnpbjnbkaaDoor.pushL (d.size - 24) d.cur (be 4 rec.length ++ rec), count := d.count + 1 }
theorem Ag.app {d : DSt} {s : JSt} (h : Ag d s) (rec : List UInt8) (h0 : s.appErr rec.length = 0) : Ag (d.app rec) (s.app rec) := by
  have hk := JSt.app_ok h.ok rec
  unfold JSt.app at hk ⊢
  rw [if_pos h0] at hk ⊢
  have hr := h.ok.room
  unfold JSt.room at hr
  have hd : (d.app rec).cur = pushL (d.size - 24) d.cur (be 4 rec.length ++ rec) := by
    have hl : (d.rooms.take d.taken).length = d.taken := by rw [List.length_take]; have := h.le; omega
    show (d.rooms.take d.taken ++ pushL (d.size - 24) d.cur (be 4 rec.length ++ rec)).drop d.taken = _
    rw [List.drop_append_of_le_length (Nat.le_of_eq hl.symm), List.drop_of_length_le (Nat.le_of_eq hl), List.nil_append]
  refine ⟨hk, h.size, h.sectors, h.gen, h.taken, by show d.count + 1 = s.recs + 1; rw [h.count], ?_, ?_, ?_⟩
  · show d.taken ≤ (d.rooms.take d.taken ++ _).length
    rw [List.length_append, List.length_take]
    have := h.le
    omega
  · rw [hd, h.size]
    exact Chk.pushL (r := s.size - 24) (show 1 ≤ s.size - 24 by omega) _ h.chk
  · rw [hd, pushL_flat, h.flat, List.append_assoc]
/-- All taken. -/
def DSt.take (d : DSt) : DSt := { d with taken := d.rooms.length }
theorem Ag.take {d : DSt} {s : JSt} (h : Ag d s) : Ag d.take s.take := by
  have hc : d.take.cur = [] := by
    show d.rooms.drop d.rooms.length = []
    simp
  exact ⟨JSt.take_ok h.ok, h.size, h.sectors, h.gen, h.len, h.count, Nat.le_refl _, by rw [hc]; trivial, by rw [hc]; rfl⟩
end Go.Proofs.YtljbmpnpbjnbkaaDoor
