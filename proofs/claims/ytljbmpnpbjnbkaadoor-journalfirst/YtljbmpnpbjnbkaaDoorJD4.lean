/- journal: the document's Take. -/
import Derived.Test.YtljbmpnpbjnbkaaDoorJR4
import Derived.Test.YtljbmpnpbjnbkaaDoorJT
import Derived.Test.YtljbmpnpbjnbkaaDoorJR2
/- journal: the document's New. -/
/- journal: the document's Writer in memory; New, free, Left. -/
/- journal: the document's Writer, pure: its rooms are the stream cut into pieces. Of no program. -/
namespace Go.Proofs.YtljbmpnpbjnbkaaDoor
open Go.RowKit
set_option linter.unusedVariables false
/-- Rooms of r bytes: all full but the last one, none empty. -/
def Chk (r : Nat) : List (List UInt8) → Prop
  | [] => True
  | [x] => 0 < x.length ∧ x.length ≤ r
  | x :: y :: l => x.length = r ∧ Chk r (y :: l)
theorem Chk.tail {r : Nat} {x : List UInt8} {l : List (List UInt8)} (h : Chk r (x :: l)) : Chk r l := by
  cases l with
  | nil => trivial
  | cons y l => exact h.2
theorem Chk.le {r : Nat} : ∀ {l : List (List UInt8)}, Chk r l → ∀ x ∈ l, x.length ≤ r
  | [], _, _, hx => by cases hx
  | [y], h, x, hx => by
    obtain rfl := List.mem_singleton.1 hx
    exact h.2
  | y :: z :: l, h, x, hx => by
    rcases List.mem_cons.1 hx with rfl | hx
    · exact Nat.le_of_eq h.1
    · exact Chk.le h.2 x hx
/-- How many rooms: as many as the bytes want. -/
theorem Chk.many {r : Nat} (hr : 0 < r) : ∀ {l : List (List UInt8)}, Chk r l → l.length = (l.flatten.length + r - 1) / r
  | [], _ => by
    show 0 = _
    rw [Nat.div_eq_of_lt]
    show 0 + r - 1 < r
    omega
  | [x], h => by
    show 1 = _
    simp only [List.flatten_cons, List.flatten_nil, List.append_nil]
    have g1 := h.1
    have g2 := h.2
    exact (Nat.div_eq_of_lt_le (k := 1) (by omega) (by omega)).symm
  | x :: y :: l, h => by
    have ih := Chk.many hr h.2
    rw [List.length_cons, ih, show (x :: y :: l).flatten = x ++ (y :: l).flatten from rfl, List.length_append, h.1, show r + (y :: l).flatten.length + r - 1 = (y :: l).flatten.length + r - 1 + r by omega, Nat.add_div_right _ hr]
/-- Each room is its piece. -/
theorem Chk.piece {r : Nat} : ∀ {l : List (List UInt8)}, Chk r l → ∀ (i : Nat) (x : List UInt8), l[i]? = some x → x = (l.flatten.drop (i * r)).take r
  | [], _, i, x, hx => by simp at hx
  | [y], h, i, x, hx => by
    cases i with
    | zero =>
      obtain rfl : y = x := by simpa using hx
      simp [List.take_of_length_le h.2]
    | succ i => simp at hx
  | y :: z :: l, h, i, x, hx => by
    cases i with
    | zero =>
      obtain rfl : y = x := by simpa using hx
      rw [List.flatten_cons, Nat.zero_mul, List.drop_zero, List.take_append_of_le_length (Nat.le_of_eq h.1.symm), List.take_of_length_le (Nat.le_of_eq h.1)]
    | succ i =>
      have hx' : (z :: l)[i]? = some x := by simpa using hx
      have ih := Chk.piece h.2 i x hx'
      rw [List.flatten_cons, ← h.1, Nat.succ_mul, Nat.add_comm, ← List.drop_drop, List.drop_left, h.1]
      exact ih
/-- A byte behind the last one. -/
def pushB (r : Nat) : List (List UInt8) → UInt8 → List (List UInt8)
  | [], b => [[b]]
  | [x], b => if x.length = r then [x, [b]] else [x ++ [b]]
  | x :: y :: l, b => x :: pushB r (y :: l) b
theorem pushB_flat (r : Nat) (b : UInt8) : ∀ l, (pushB r l b).flatten = l.flatten ++ [b]
  | [] => rfl
  | [x] => by
    unfold pushB
    split <;> simp
  | x :: y :: l => by
    unfold pushB
    rw [List.flatten_cons, pushB_flat r b (y :: l), show (x :: y :: l).flatten = x ++ (y :: l).flatten from rfl, List.append_assoc]
theorem pushB_ne (r : Nat) (b : UInt8) : ∀ l, ∃ y t, pushB r l b = y :: t
  | [] => ⟨_, _, rfl⟩
  | [x] => by
    unfold pushB
    split <;> exact ⟨_, _, rfl⟩
  | x :: y :: l => ⟨_, _, rfl⟩
theorem Chk.push {r : Nat} (hr : 1 ≤ r) (b : UInt8) : ∀ {l : List (List UInt8)}, Chk r l → Chk r (pushB r l b)
  | [], _ => ⟨Nat.succ_pos _, hr⟩
  | [x], h => by
    unfold pushB
    split
    · rename_i e
      exact ⟨e, Nat.succ_pos _, hr⟩
    · rename_i e
      have := h.2
      exact ⟨by simp, by simp; omega⟩
  | x :: y :: l, h => by
    have ih := Chk.push hr b h.2
    unfold pushB
    obtain ⟨z, t, e⟩ := pushB_ne r b (y :: l)
    rw [e] at ih ⊢
    exact ⟨h.1, ih⟩
theorem pushB_new {r : Nat} (b : UInt8) : ∀ (l : List (List UInt8)), (l = [] ∨ ∃ x, l[l.length - 1]? = some x ∧ x.length = r) → pushB r l b = l ++ [[b]]
  | [], _ => rfl
  | [x], h => by
    rcases h with h | ⟨y, hy, hl⟩
    · cases h
    · obtain rfl : x = y := by simpa using hy
      simp [pushB, hl]
  | x :: y :: l, h => by
    have h' : (y :: l)[(y :: l).length - 1]? = (x :: y :: l)[(x :: y :: l).length - 1]? := by simp
    unfold pushB
    rw [pushB_new b (y :: l) (.inr (by
      rcases h with h | ⟨z, hz, hl⟩
      · cases h
      · exact ⟨z, h'.trans hz, hl⟩))]
    rfl
theorem pushB_on {r : Nat} (b : UInt8) : ∀ (l : List (List UInt8)) (x : List UInt8), l[l.length - 1]? = some x → x.length ≠ r → pushB r l b = l.set (l.length - 1) (x ++ [b])
  | [], _, h, _ => by simp at h
  | [y], x, h, hl => by
    obtain rfl : y = x := by simpa using h
    simp [pushB, hl]
  | y :: z :: l, x, h, hl => by
    have h' : (z :: l)[(z :: l).length - 1]? = (y :: z :: l)[(y :: z :: l).length - 1]? := by simp
    unfold pushB
    rw [pushB_on b (z :: l) x (h'.trans h) hl]
    simp
/-- Some bytes, one behind the other. -/
def pushL (r : Nat) (l : List (List UInt8)) (bs : List UInt8) : List (List UInt8) := bs.foldl (pushB r) l
theorem pushL_flat (r : Nat) : ∀ (bs : List UInt8) (l : List (List UInt8)), (pushL r l bs).flatten = l.flatten ++ bs
  | [], l => by simp [pushL]
  | b :: bs, l => by
    show (pushL r (pushB r l b) bs).flatten = _
    rw [pushL_flat r bs, pushB_flat]
    simp
theorem Chk.pushL {r : Nat} (hr : 1 ≤ r) : ∀ (bs : List UInt8) {l : List (List UInt8)}, Chk r l → Chk r (pushL r l bs)
  | [], l, h => h
  | b :: bs, l, h => Chk.pushL hr bs (l := pushB r l b) (h.push hr b)
/-- What the document's Writer is. -/
structure DSt where
  size : Nat
  sectors : Nat
  gen : Nat
  rooms : List (List UInt8)
  taken : Nat
  count : Nat
def DSt.cur (d : DSt) : List (List UInt8) := d.rooms.drop d.taken
def DSt.free (d : DSt) : Nat := (d.sectors - d.taken) * (d.size - 24) - d.cur.flatten.length
/-- It is as the program's. -/
structure Ag (d : DSt) (s : JSt) : Prop where
  ok : s.Ok
  size : d.size = s.size
  sectors : d.sectors = s.sectors
  gen : d.gen = s.gen
  taken : d.taken = s.taken
  count : d.count = s.recs
  le : d.taken ≤ d.rooms.length
  chk : Chk (s.size - 24) d.cur
  flat : d.cur.flatten = s.bs
theorem Ag.free {d : DSt} {s : JSt} (h : Ag d s) : d.free = s.free := by
  unfold DSt.free JSt.free
  rw [h.size, h.sectors, h.taken, h.flat]
theorem Ag.many {d : DSt} {s : JSt} (h : Ag d s) : d.cur.length = s.many := by
  have := h.ok.room
  rw [h.chk.many (by unfold JSt.room at this; omega), h.flat]
  rfl
theorem Ag.len {d : DSt} {s : JSt} (h : Ag d s) : d.rooms.length = s.taken + s.many := by
  have h1 := h.many
  have h2 := h.le
  have h3 := h.taken
  unfold DSt.cur at h1
  rw [List.length_drop] at h1
  omega
theorem Ag.sec {d : DSt} {s : JSt} (h : Ag d s) (i : Nat) (x : List UInt8) (hx : d.cur[i]? = some x) : jsec d.size d.gen (d.taken + i) x = s.sec i := by
  have := h.chk.piece i x hx
  unfold JSt.sec JSt.room
  rw [h.size, h.gen, h.taken, this, h.flat]
theorem Ag.new {size sectors gen : Nat} (h : JMay size sectors) (hg : gen < 18446744073709551616) : Ag ⟨size, sectors, gen, [], 0, 0⟩ (JSt.new size sectors gen) :=
  ⟨JSt.new_ok size sectors gen h hg, rfl, rfl, rfl, rfl, rfl, Nat.le_refl _, trivial, rfl⟩
/-- A record laid. -/
def DSt.app (d : DSt) (rec : List UInt8) : DSt := { d with rooms := d.rooms.take d.taken ++ Go.Proofs.YtljbmpnpbjnbkaaDoor.pushL (d.size - 24) d.cur (be 4 rec.length ++ rec), count := d.count + 1 }
theorem Ag.app {d : DSt} {s : JSt} (h : Ag d s) (rec : List UInt8) (h0 : s.appErr rec.length = 0) : Ag (d.app rec) (s.app rec) := by
  have hk := JSt.app_ok h.ok rec
  unfold JSt.app at hk ⊢
  rw [if_pos h0] at hk ⊢
  have hr := h.ok.room
  unfold JSt.room at hr
  have hd : (d.app rec).cur = pushL (d.size - 24) d.cur (be 4 rec.length ++ rec) := by
    have hl : (d.rooms.take d.taken).length = d.taken := by rw [List.length_take]; have := h.le; omega
    show (d.rooms.take d.taken ++ pushL (d.size - 24) d.cur (be 4 rec.length ++ rec)).drop d.taken = _
    rw [List.drop_append_of_le_length (Nat.le_of_eq hl.symm), List.drop_of_length_le (Nat.le_of_eq hl), List.nil_append]
  refine ⟨hk, h.size, h.sectors, h.gen, h.taken, by show d.count + 1 = s.recs + 1; rw [h.count], ?_, ?_, ?_⟩
  · show d.taken ≤ (d.rooms.take d.taken ++ _).length
    rw [List.length_append, List.length_take]
    have := h.le
    omega
  · rw [hd, h.size]
    exact Chk.pushL (r := s.size - 24) (show 1 ≤ s.size - 24 by omega) _ h.chk
  · rw [hd, pushL_flat, h.flat, List.append_assoc]
/-- All taken. -/
def DSt.take (d : DSt) : DSt := { d with taken := d.rooms.length }
theorem Ag.take {d : DSt} {s : JSt} (h : Ag d s) : Ag d.take s.take := by
  have hc : d.take.cur = [] := by
    show d.rooms.drop d.rooms.length = []
    simp
  exact ⟨JSt.take_ok h.ok, h.size, h.sectors, h.gen, h.len, h.count, Nat.le_refl _, by rw [hc]; trivial, by rw [hc]; rfl⟩
end Go.Proofs.YtljbmpnpbjnbkaaDoor
namespace Go.Proofs.YtljbmpnpbjnbkaaDoor
open Go.RowKit
set_option linter.unusedVariables false
set_option linter.unusedSimpArgs false
/-- The document's Writer lies at a block: its rooms' row, each room a row of its own. -/
structure DW (g : Nat) (d : DSt) (w : World) : Prop where
  lies : ∃ rv us, w.heap[g]? = some (.cells #[.int .i64 d.size, .int .i64 d.sectors, .int .u64 d.gen, rv, .int .i64 d.taken, .int .i64 d.count] 44 (0, 0)) ∧ us.length = d.rooms.length ∧ w.ownsRow 0 39 1 rv d.rooms.length us ∧
    (∀ (i : Nat) (x : List UInt8) (u : Value), d.rooms[i]? = some x → us[i]? = some u → w.ownsRow 0 5 1 u x.length (x.map U8)) ∧
    (∀ (i j : Nat) (u u' : Value) (k : Nat), us[i]? = some u → us[j]? = some u' → u.ownBlock = some k → u'.ownBlock = some k → i = j)
/-- A cell of an own row of one-cell values. -/
theorem own_at {w : World} {B n i : Nat} {e : TypeId} {v u : Value} {xs : List Value} (h : w.ownsRow B e 1 v n xs) (hu : xs[i]? = some u) : ∃ b cap, v = .slice (some ⟨b, 0, none⟩) n cap ∧ w.cell? ⟨b, i, none⟩ = some u := by
  have hl := h.1
  have hi := (List.getElem?_eq_some_iff.1 hu).1
  rcases h.2 with ⟨rfl, h0⟩ | ⟨b, cap, cur, rfl, h1, h2, h3, h4, h5, h6⟩
  · omega
  · refine ⟨b, cap, rfl, ?_⟩
    rw [blk_cell h2, ← hu, ← h6, List.getElem?_take, if_pos (by omega), Array.getElem?_toList]
theorem DW.room {g : Nat} {d : DSt} {w : World} (h : DW g d w) : ∃ rv, w.heap[g]? = some (.cells #[.int .i64 d.size, .int .i64 d.sectors, .int .u64 d.gen, rv, .int .i64 d.taken, .int .i64 d.count] 44 (0, 0)) ∧ (∃ ao cap, rv = .slice ao d.rooms.length cap) ∧
    ∀ i x, d.rooms[i]? = some x → ∃ b cap ao' cap', rv = .slice (some ⟨b, 0, none⟩) d.rooms.length cap ∧ w.cell? ⟨b, i, none⟩ = some (.slice ao' x.length cap') := by
  obtain ⟨rv, us, h1, h2, h3, h4, h5⟩ := h.lies
  refine ⟨rv, h1, ?_, fun i x hx => ?_⟩
  · rcases h3.2 with ⟨rfl, h0⟩ | ⟨b, cap, cur, rfl, _⟩
    · exact ⟨none, 0, by rw [h0]⟩
    · exact ⟨_, _, rfl⟩
  · have hi := (List.getElem?_eq_some_iff.1 hx).1
    obtain ⟨u, hu⟩ : ∃ u, us[i]? = some u := ⟨_, List.getElem?_eq_getElem (by omega)⟩
    obtain ⟨b, cap, e, hc⟩ := own_at h3 hu
    obtain ⟨a', c', rfl⟩ := own_form (h4 i x u hx hu)
    exact ⟨b, cap, a', c', e, hc⟩
theorem drop_at {R : List (List UInt8)} {i : Nat} {x : List UInt8} (h : R[i]? = some x) : (R.drop i).flatten.length = x.length + (R.drop (i + 1)).flatten.length := by
  obtain ⟨hi, rfl⟩ := List.getElem?_eq_some_iff.1 h
  rw [List.drop_eq_getElem_cons hi, List.flatten_cons, List.length_append]
set_option maxHeartbeats 1000000 in
set_option maxRecDepth 100000 in
theorem freeD_any {g : Nat} {d : DSt} {w : World} (h : DW g d w) {s : JSt} (ag : Ag d s) : Calls Tryd.prog 36 #[.pointer (some ⟨g, 0, none⟩)] w fun e w' => e = .returned (.int .i64 (s.free : Nat)) ∧ Same w w' := by
  obtain ⟨rv, hb, ⟨ao, cap, rfl⟩, hr⟩ := h.room
  have c0 : w.cell? ⟨g, 0, none⟩ = some (.int .i64 d.size) := blk_cell hb
  have c1 : w.cell? ⟨g, 1, none⟩ = some (.int .i64 d.sectors) := blk_cell hb
  have c3 : w.cell? ⟨g, 3, none⟩ = some (.slice ao d.rooms.length cap) := blk_cell hb
  have c4 : w.cell? ⟨g, 4, none⟩ = some (.int .i64 d.taken) := blk_cell hb
  have hf := ag.free
  have hro := ag.ok.rooms
  have hbl := ag.ok.b
  rw [← ag.sectors, ← ag.taken, ← ag.size] at hro hbl
  rw [← ag.flat] at hbl
  have hle := ag.le
  have h0 := ag.ok.s0
  have h1 := ag.ok.s1
  have h2 := ag.ok.n1
  have h3 := ag.ok.t
  rw [← ag.size] at h0 h1
  rw [← ag.sectors] at h2
  rw [← ag.taken, ← ag.sectors] at h3
  have hln := ag.len
  have hmn := ag.ok.many
  rw [← ag.sectors] at hmn
  unfold DSt.free at hf
  unfold DSt.cur at hf hbl
  obtain ⟨fr, hfr⟩ : ∃ fr, fr = s.free := ⟨_, rfl⟩
  rw [← hfr] at hf ⊢
  generalize d.rooms = R at *
  generalize d.size = S at *
  generalize d.sectors = C at *
  generalize d.taken = T at *
  obtain ⟨r, hrS⟩ : ∃ r, r = S - 24 := ⟨_, rfl⟩
  obtain ⟨m, hmC⟩ : ∃ m, m = C - T := ⟨_, rfl⟩
  rw [← hrS, ← hmC] at hf hro hbl
  obtain ⟨tot, htot⟩ : ∃ tot, tot = m * r := ⟨_, rfl⟩
  rw [← htot] at hf hro hbl
  have a1 : IntKind.i64.wrap ((S : Int) - 24) = (r : Int) := by rw [IntKind.wrap_i64]; omega
  have a2 : IntKind.i64.wrap ((C : Int) - (T : Int)) = (m : Int) := by rw [IntKind.wrap_i64]; omega
  have e3 : (m : Int) * (r : Int) = (tot : Int) := by rw [htot]; push_cast; rfl
  have a3 : IntKind.i64.wrap ((m : Int) * (r : Int)) = (tot : Int) := by rw [e3, IntKind.wrap_i64]; omega
  have HT := hidden (show tot = fr + (R.drop T).flatten.length by omega)
  have HR := hidden hr
  have hLb : R.length ≤ 4096 := by omega
  have HLe := hidden hle
  have htb : tot ≤ 16777216 := hro
  clear hb hr hf hro hbl hfr hrS hmC htot e3 hln hmn h0 h1 h2 h3 hle
  go_enter Tryd.func36, Tryd.ntmps36
  go_wp2
  go_quiet (fail)
  go_wp2
  go_loopw [4, 5] (fun u v wr => ∃ i : Nat, v = .int .i64 i ∧ T ≤ i ∧ i ≤ R.length ∧ u = .int .i64 ((fr + (R.drop i).flatten.length : Nat) : Int) ∧ fr + (R.drop i).flatten.length ≤ 16777216 ∧ Same w wr) (fun _ v _ => R.length - (intOf v).toNat)
  case atStart => exact ⟨T, rfl, Nat.le_refl _, HLe.out, by rw [← HT.out], by rw [← HT.out]; exact htb, (Kept.refl _ _).drewN _⟩
  case round =>
    obtain ⟨i, rfl, hi, hil, rfl, hub, hS⟩ := hrel
    have HS := hidden hS
    have d3 := hS.cell (fun h => h) c3
    clear hS
    by_cases g1 : i < R.length
    · have q0 : (0 : Int) ≤ (i : Int) := Int.natCast_nonneg _
      have q1 : (i : Int) < (R.length : Int) := by omega
      obtain ⟨x, hx⟩ : ∃ x, R[i]? = some x := ⟨_, List.getElem?_eq_getElem g1⟩
      obtain ⟨b, cp, a', c', e, hc⟩ := HR.out i x hx
      cases e
      have hc' := HS.out.cell (fun h => h) hc
      have hda := drop_at hx
      obtain ⟨p, hp⟩ : ∃ p, p = fr + (R.drop i).flatten.length := ⟨_, rfl⟩
      obtain ⟨q, hq⟩ : ∃ q, q = fr + (R.drop (i + 1)).flatten.length := ⟨_, rfl⟩
      have hpq : p = x.length + q := by omega
      rw [← hp] at hub ⊢
      have a9 : IntKind.i64.wrap ((p : Int) - (x.length : Int)) = (q : Int) := by rw [IntKind.wrap_i64]; omega
      have hqb : q ≤ 16777216 := by omega
      have HQ := hidden hq
      clear hp hq hpq hda hx hc
      go_wp2
      go_roundw
      case rel => exact ⟨i + 1, by go_num, by omega, by omega, by rw [← HQ.out], by rw [← HQ.out]; exact hqb, HS.out⟩
      case measure => simp [intOf]; omega
    · have q1 : ¬ (i : Int) < (R.length : Int) := by omega
      have he : fr + (R.drop i).flatten.length = fr := by rw [List.drop_of_length_le (by omega)]; rfl
      rw [he]
      clear he
      go_wp2
      go_returns
      exact ⟨rfl, HS.out⟩
set_option maxHeartbeats 1000000 in
set_option maxRecDepth 100000 in
theorem leftD_any {g : Nat} {d : DSt} {w : World} (h : DW g d w) {s : JSt} (ag : Ag d s) : Calls Tryd.prog 14 #[.pointer (some ⟨g, 0, none⟩)] w fun e w' => e = .returned (.int .i64 (s.free - 4 : Nat)) ∧ Same w w' := by
  obtain ⟨rv, hb, ⟨ao, cap, rfl⟩, hr⟩ := h.room
  have c0 : w.cell? ⟨g, 0, none⟩ = some (.int .i64 d.size) := blk_cell hb
  have c1 : w.cell? ⟨g, 1, none⟩ = some (.int .i64 d.sectors) := blk_cell hb
  have c3 : w.cell? ⟨g, 3, none⟩ = some (.slice ao d.rooms.length cap) := blk_cell hb
  have c4 : w.cell? ⟨g, 4, none⟩ = some (.int .i64 d.taken) := blk_cell hb
  have hf := ag.free
  have hro := ag.ok.rooms
  have hbl := ag.ok.b
  rw [← ag.sectors, ← ag.taken, ← ag.size] at hro hbl
  rw [← ag.flat] at hbl
  have hle := ag.le
  have h0 := ag.ok.s0
  have h1 := ag.ok.s1
  have h2 := ag.ok.n1
  have h3 := ag.ok.t
  rw [← ag.size] at h0 h1
  rw [← ag.sectors] at h2
  rw [← ag.taken, ← ag.sectors] at h3
  have hln := ag.len
  have hmn := ag.ok.many
  rw [← ag.sectors] at hmn
  unfold DSt.free at hf
  unfold DSt.cur at hf hbl
  obtain ⟨fr, hfr⟩ : ∃ fr, fr = s.free := ⟨_, rfl⟩
  rw [← hfr] at hf ⊢
  generalize d.rooms = R at *
  generalize d.size = S at *
  generalize d.sectors = C at *
  generalize d.taken = T at *
  obtain ⟨r, hrS⟩ : ∃ r, r = S - 24 := ⟨_, rfl⟩
  obtain ⟨m, hmC⟩ : ∃ m, m = C - T := ⟨_, rfl⟩
  rw [← hrS, ← hmC] at hf hro hbl
  obtain ⟨tot, htot⟩ : ∃ tot, tot = m * r := ⟨_, rfl⟩
  rw [← htot] at hf hro hbl
  have a1 : IntKind.i64.wrap ((S : Int) - 24) = (r : Int) := by rw [IntKind.wrap_i64]; omega
  have a2 : IntKind.i64.wrap ((C : Int) - (T : Int)) = (m : Int) := by rw [IntKind.wrap_i64]; omega
  have e3 : (m : Int) * (r : Int) = (tot : Int) := by rw [htot]; push_cast; rfl
  have a3 : IntKind.i64.wrap ((m : Int) * (r : Int)) = (tot : Int) := by rw [e3, IntKind.wrap_i64]; omega
  have HT := hidden (show tot = fr + (R.drop T).flatten.length by omega)
  have HR := hidden hr
  have hLb : R.length ≤ 4096 := by omega
  have HLe := hidden hle
  have htb : tot ≤ 16777216 := hro
  clear hb hr hf hro hbl hfr hrS hmC htot e3 hln hmn h0 h1 h2 h3 hle
  go_enter Tryd.func14, Tryd.ntmps14
  go_wp2
  go_quiet (fail)
  go_wp2
  go_loopw [4, 5] (fun u v wr => ∃ i : Nat, v = .int .i64 i ∧ T ≤ i ∧ i ≤ R.length ∧ u = .int .i64 ((fr + (R.drop i).flatten.length : Nat) : Int) ∧ fr + (R.drop i).flatten.length ≤ 16777216 ∧ Same w wr) (fun _ v _ => R.length - (intOf v).toNat)
  case atStart => exact ⟨T, rfl, Nat.le_refl _, HLe.out, by rw [← HT.out], by rw [← HT.out]; exact htb, (Kept.refl _ _).drewN _⟩
  case round =>
    obtain ⟨i, rfl, hi, hil, rfl, hub, hS⟩ := hrel
    have HS := hidden hS
    have d3 := hS.cell (fun h => h) c3
    clear hS
    by_cases g1 : i < R.length
    · have q0 : (0 : Int) ≤ (i : Int) := Int.natCast_nonneg _
      have q1 : (i : Int) < (R.length : Int) := by omega
      obtain ⟨x, hx⟩ : ∃ x, R[i]? = some x := ⟨_, List.getElem?_eq_getElem g1⟩
      obtain ⟨b, cp, a', c', e, hc⟩ := HR.out i x hx
      cases e
      have hc' := HS.out.cell (fun h => h) hc
      have hda := drop_at hx
      obtain ⟨p, hp⟩ : ∃ p, p = fr + (R.drop i).flatten.length := ⟨_, rfl⟩
      obtain ⟨q, hq⟩ : ∃ q, q = fr + (R.drop (i + 1)).flatten.length := ⟨_, rfl⟩
      have hpq : p = x.length + q := by omega
      rw [← hp] at hub ⊢
      have a9 : IntKind.i64.wrap ((p : Int) - (x.length : Int)) = (q : Int) := by rw [IntKind.wrap_i64]; omega
      have hqb : q ≤ 16777216 := by omega
      have HQ := hidden hq
      clear hp hq hpq hda hx hc
      go_wp2
      go_roundw
      case rel => exact ⟨i + 1, by go_num, by omega, by omega, by rw [← HQ.out], by rw [← HQ.out]; exact hqb, HS.out⟩
      case measure => simp [intOf]; omega
    · have q1 : ¬ (i : Int) < (R.length : Int) := by omega
      have he : fr + (R.drop i).flatten.length = fr := by rw [List.drop_of_length_le (by omega)]; rfl
      rw [he]
      clear he
      have b1 : IntKind.i64.wrap ((fr : Int) - 4) = (fr : Int) - 4 := by rw [IntKind.wrap_i64]; omega
      by_cases g4 : fr < 4
      · have q4 : (fr : Int) - 4 < 0 := by omega
        go_wp2
        go_returns
        exact ⟨by rw [show fr - 4 = 0 by omega]; rfl, HS.out⟩
      · have q4 : ¬ (fr : Int) - 4 < 0 := by omega
        go_wp2
        go_returns
        exact ⟨by rw [show ((fr - 4 : Nat) : Int) = (fr : Int) - 4 by omega]; rfl, HS.out⟩
end Go.Proofs.YtljbmpnpbjnbkaaDoor
namespace Go.Proofs.YtljbmpnpbjnbkaaDoor
open Go.RowKit
set_option linter.unusedVariables false
set_option linter.unusedSimpArgs false
set_option maxHeartbeats 1000000 in
set_option maxRecDepth 100000 in
theorem newD_any (size sectors gen : Nat) (w : World) (h : JMay size sectors) : Calls Tryd.prog 10 #[.int .i64 size, .int .i64 sectors, .int .u64 gen] w fun e w' => ∃ g, e = .returned (.tuple #[.pointer (some ⟨g, 0, none⟩), .int .i64 0]) ∧ DW g ⟨size, sectors, gen, [], 0, 0⟩ w' ∧ Same w w' ∧ w.heap.size ≤ g := by
  have HP := hidden (fun W => refPower size 512 4096 W (by unfold Pow; omega) (by unfold Pow; omega))
  rw [show decide ((512 : Int) ≤ size ∧ (size : Int) ≤ 4096 ∧ Pow size) = true from decide_eq_true h.1] at HP
  have q1 : ¬ (sectors : Int) < 1 := by have := h.2.1; omega
  have q2 : ¬ (4096 : Int) < (sectors : Int) := by have := h.2.2; omega
  clear h
  go_enter Tryd.func10, Tryd.ntmps10
  go_wp2_with (go_at_call 30; refine (HP.out _).mono ?_; rintro e w1 ⟨rfl, rfl⟩)
  go_returns
  exact ⟨w.heap.size, rfl, ⟨_, [], blk_new _ _, rfl, World.ownsRow_nil _ _ _ _, fun i x u hx _ => by simp at hx, fun i j u u' k hu => by simp at hu⟩, same_alloc _ _, Nat.le_refl _⟩
set_option maxHeartbeats 1000000 in
set_option maxRecDepth 100000 in
theorem newD_no (size sectors : Int) (gen : Nat) (w : World) (h : ¬ JMay size sectors) : Calls Tryd.prog 10 #[.int .i64 size, .int .i64 sectors, .int .u64 gen] w fun e w' => e = .returned (.tuple #[.pointer none, .int .i64 1]) ∧ Same w w' := by
  have HP := hidden (fun W => refPower size 512 4096 W (by unfold Pow; omega) (by unfold Pow; omega))
  by_cases h1 : 512 ≤ size ∧ size ≤ 4096 ∧ Pow size
  · rw [decide_eq_true h1] at HP
    by_cases h2 : sectors < 1
    · clear h h1
      go_enter Tryd.func10, Tryd.ntmps10
      go_wp2_with (go_at_call 30; refine (HP.out _).mono ?_; rintro e w1 ⟨rfl, rfl⟩)
      go_returns
      exact ⟨rfl, Kept.refl _ _⟩
    · have q1 : (4096 : Int) < sectors := Int.not_le.1 (fun h3 => h ⟨h1, by omega, h3⟩)
      clear h h1
      go_enter Tryd.func10, Tryd.ntmps10
      go_wp2_with (go_at_call 30; refine (HP.out _).mono ?_; rintro e w1 ⟨rfl, rfl⟩)
      go_returns
      exact ⟨rfl, Kept.refl _ _⟩
  · rw [decide_eq_false h1] at HP
    clear h h1
    go_enter Tryd.func10, Tryd.ntmps10
    go_wp2_with (go_at_call 30; refine (HP.out _).mono ?_; rintro e w1 ⟨rfl, rfl⟩)
    go_returns
    exact ⟨rfl, Kept.refl _ _⟩
end Go.Proofs.YtljbmpnpbjnbkaaDoor
namespace Go.Proofs.YtljbmpnpbjnbkaaDoor
open Go.RowKit
set_option linter.unusedVariables false
set_option linter.unusedSimpArgs false
theorem Chk.pos {r : Nat} : ∀ {l : List (List UInt8)}, Chk r l → ∀ x ∈ l, 0 < x.length ∨ r = 0
  | [], _, _, hx => by cases hx
  | [y], h, x, hx => by
    obtain rfl := List.mem_singleton.1 hx
    exact .inl h.1
  | y :: z :: l, h, x, hx => by
    rcases List.mem_cons.1 hx with rfl | hx
    · have := h.1
      omega
    · exact Chk.pos h.2 x hx
theorem own_bk {w : World} {B n s r : Nat} {e : TypeId} {v : Value} {xs : List Value} (h : w.ownsRow B e s v n xs) (hr : v.ownBlock = some r) : B ≤ r ∧ ∃ cs, w.heap[r]? = some (.cells cs e (0, 0)) := by
  rcases h.2 with ⟨rfl, _⟩ | ⟨g, cap, cur, rfl, h1, h2, _⟩
  · cases hr
  · cases hr
    exact ⟨h1, cur, h2⟩
theorem own_atB {w : World} {B n i : Nat} {e : TypeId} {v u : Value} {xs : List Value} (h : w.ownsRow B e 1 v n xs) (hu : xs[i]? = some u) : ∃ b cap cs, v = .slice (some ⟨b, 0, none⟩) n cap ∧ w.heap[b]? = some (.cells cs e (0, 0)) ∧ cs[i]? = some u := by
  have hl := h.1
  have hi := (List.getElem?_eq_some_iff.1 hu).1
  rcases h.2 with ⟨rfl, h0⟩ | ⟨b, cap, cur, rfl, h1, h2, h3, h4, h5, h6⟩
  · omega
  · refine ⟨b, cap, cur, rfl, h2, ?_⟩
    rw [← hu, ← h6, List.getElem?_take, if_pos (by omega), Array.getElem?_toList]
theorem DW.roomB {g : Nat} {d : DSt} {w : World} (h : DW g d w) : ∃ rv, w.heap[g]? = some (.cells #[.int .i64 d.size, .int .i64 d.sectors, .int .u64 d.gen, rv, .int .i64 d.taken, .int .i64 d.count] 44 (0, 0)) ∧ (∃ ao cap, rv = .slice ao d.rooms.length cap) ∧
    ∀ (i : Nat) (x : List UInt8), d.rooms[i]? = some x → 0 < x.length → ∃ (b cap b' cap' : Nat) (cs : Array Value), rv = .slice (some ⟨b, 0, none⟩) d.rooms.length cap ∧ w.heap[b]? = some (.cells cs 39 (0, 0)) ∧ cs[i]? = some (.slice (some ⟨b', 0, none⟩) x.length cap') ∧ Bt w (.slice (some ⟨b', 0, none⟩) x.length cap') x := by
  obtain ⟨rv, us, h1, h2, h3, h4, h5⟩ := h.lies
  refine ⟨rv, h1, ?_, fun i x hx h0 => ?_⟩
  · rcases h3.2 with ⟨rfl, h0⟩ | ⟨b, cap, cur, rfl, _⟩
    · exact ⟨none, 0, by rw [h0]⟩
    · exact ⟨_, _, rfl⟩
  · have hi := (List.getElem?_eq_some_iff.1 hx).1
    obtain ⟨u, hu⟩ : ∃ u, us[i]? = some u := ⟨_, List.getElem?_eq_getElem (by omega)⟩
    obtain ⟨b, cap, cs, e, hcs, hc⟩ := own_atB h3 hu
    have hO := h4 i x u hx hu
    rcases hO.2 with ⟨_, h⟩ | ⟨b', cap', cur, rfl, _⟩
    · omega
    · exact ⟨b, cap, b', cap', cs, e, hcs, hc, Bt.own hO⟩
/-- Sectors that may be read: their places, their bytes. -/
def DSecs (w : World) (v : Value) (t : Nat) (ls : List (List UInt8)) : Prop := ∃ ao cap, v = .slice ao ls.length cap ∧ ∀ i l, ls[i]? = some l → ∃ b u, ao = some ⟨b, 0, none⟩ ∧ w.cell? ⟨b, 2 * i, none⟩ = some (.int .i64 ((t + i : Nat) : Int)) ∧ w.cell? ⟨b, 2 * i + 1, none⟩ = some u ∧ Bt w u l
theorem DSecs.same {w w' : World} {v : Value} {t : Nat} {ls : List (List UInt8)} (h : DSecs w v t ls) (k : Same w w') : DSecs w' v t ls := by
  obtain ⟨ao, cap, e, hc⟩ := h
  refine ⟨ao, cap, e, fun i l hl => ?_⟩
  obtain ⟨b, u, h1, h2, h3, h4⟩ := hc i l hl
  exact ⟨b, u, h1, k.cell (fun h => h) h2, k.cell (fun h => h) h3, h4.same k⟩
set_option maxHeartbeats 1000000 in
set_option maxRecDepth 100000 in
theorem takeD_any {g : Nat} {d : DSt} {w : World} (h : DW g d w) {s : JSt} (ag : Ag d s) : Calls Tryd.prog 16 #[.pointer (some ⟨g, 0, none⟩)] w fun e w' => ∃ v, e = .returned v ∧ DSecs w' v s.taken (s.secs s.many) ∧ DW g d.take w' ∧ w'.cell? ⟨g, 3, none⟩ = w.cell? ⟨g, 3, none⟩ ∧ Kept (fun i => i = g) w w' := by
  have HD := hidden h
  obtain ⟨rv, hb, ⟨ao, cap, rfl⟩, hr⟩ := h.roomB
  obtain ⟨i0, hi, hz0, hz1, hz2⟩ := info_parts infoSec
  have c0 : w.cell? ⟨g, 0, none⟩ = some (.int .i64 d.size) := blk_cell hb
  have c2 : w.cell? ⟨g, 2, none⟩ = some (.int .u64 d.gen) := blk_cell hb
  have c3 : w.cell? ⟨g, 3, none⟩ = some (.slice ao d.rooms.length cap) := blk_cell hb
  have c4 : w.cell? ⟨g, 4, none⟩ = some (.int .i64 d.taken) := blk_cell hb
  have HBk := hidden hb
  have HAg := hidden ag
  have s1 : d.size ≤ 4096 := by rw [ag.size]; exact ag.ok.s1
  have s0 : 512 ≤ d.size := by rw [ag.size]; exact ag.ok.s0
  have sg : d.gen < 18446744073709551616 := by rw [ag.gen]; exact ag.ok.g
  have hle := ag.le
  have hln : d.rooms.length ≤ 4096 := by have := ag.len; have := ag.ok.many; have := ag.ok.n1; omega
  have hcl : d.cur.length = d.rooms.length - d.taken := by unfold DSt.cur; rw [List.length_drop]
  have HCall : Hid (∀ (k : Nat) (x : List UInt8), d.cur[k]? = some x → ∃ (b b' cp' : Nat) (cs : Array Value), ao = some ⟨b, 0, none⟩ ∧ w.heap[b]? = some (.cells cs 39 (0, 0)) ∧ cs[d.taken + k]? = some (.slice (some ⟨b', 0, none⟩) x.length cp') ∧
      ∀ W, Same w W → Calls Tryd.prog 26 #[.int .i64 d.size, .int .u64 d.gen, .int .i64 ((d.taken + k : Nat) : Int), .slice (some ⟨b', 0, none⟩) x.length cp'] W fun e w' => ∃ u, e = .returned u ∧ Gr W w' u (jsec d.size d.gen (d.taken + k) x)) := hidden (fun k x hx => by
    have hx' : d.rooms[d.taken + k]? = some x := by unfold DSt.cur at hx; rw [List.getElem?_drop] at hx; exact hx
    have hxm : x ∈ d.cur := List.mem_of_getElem? hx
    have hk := (List.getElem?_eq_some_iff.1 hx').1
    have hxl : x.length ≤ d.size - 24 := by rw [ag.size]; exact ag.chk.le x hxm
    have hx0 : 0 < x.length := (ag.chk.pos x hxm).elim id (fun e => by have := ag.ok.s0; omega)
    obtain ⟨b, cp, b', cp', cs, e, hcs, hc, hbt⟩ := hr (d.taken + k) x hx' hx0
    cases e
    exact ⟨b, b', cp', cs, rfl, hcs, hc, fun W k2 => bytesD_gr d.size d.gen (d.taken + k) ⟨b', 0, none⟩ cp' x W (hbt.same k2) s0 s1 sg (by omega) (by omega)⟩)
  have HCl := hidden hcl
  have HLe := hidden hle
  clear hb hr h ag hcl hle
  go_enter Tryd.func16, Tryd.ntmps16
  go_wp2
  go_loopw [3, 4] (fun o v wr => ∃ k : Nat, v = .int .i64 ((d.taken + k : Nat) : Int) ∧ k ≤ d.cur.length ∧ ∃ us : List Value, us.length = k ∧ wr.ownsRow w.heap.size 41 2 o k (secCells d.taken us) ∧ (∀ (j : Nat) (u : Value) (x : List UInt8), us[j]? = some u → d.cur[j]? = some x → Gr w wr u (jsec d.size d.gen (d.taken + j) x)) ∧ Same w wr) (fun _ v _ => d.rooms.length - (intOf v).toNat)
  case atStart => exact ⟨0, by simp, Nat.zero_le _, [], rfl, World.ownsRow_nil _ _ _ _, fun j u x hj => by simp at hj, Kept.refl _ _⟩
  case round =>
    obtain ⟨k, rfl, hk, us, hul, hO, hG, hS⟩ := hrel
    have HS := hidden hS
    have HO := hidden hO
    have HG := hidden hG
    have HUl := hidden hul
    have d0 := hS.cell (fun h => h) c0
    have d2 := hS.cell (fun h => h) c2
    have d3 := hS.cell (fun h => h) c3
    have hcl := HCl.out
    by_cases g1 : k < d.cur.length
    · obtain ⟨x, hx⟩ : ∃ x, d.cur[k]? = some x := ⟨_, List.getElem?_eq_getElem g1⟩
      obtain ⟨b, b', cp', cs, rfl, hcs, hc, hcall⟩ := HCall.out k x hx
      have hcr := blk_kept hS (fun h => h) hcs
      have HCR := hidden hcr
      have hgr := blk_kept hS (fun h => h) HBk.out
      have HGR := hidden hgr
      have HCc := hidden hc
      have HC1 := hidden hcall
      have HX := hidden hx
      obtain ⟨p, hp⟩ : ∃ p, p = d.taken + k := ⟨_, rfl⟩
      rw [← hp] at HCc HC1 ⊢
      have dc : wr.cell? ⟨b, p, none⟩ = some (.slice (some ⟨b', 0, none⟩) x.length cp') := (blk_cell HCR.out).trans HCc.out
      have HP := hidden hp
      have hpl : p < d.rooms.length := by have := HLe.out; omega
      have q0 : (0 : Int) ≤ (p : Int) := Int.natCast_nonneg _
      have q1 : (p : Int) < (d.rooms.length : Int) := by omega
      obtain ⟨oa, oc, hof⟩ := own_form hO
      subst hof
      have hb1 : Hid (k + 1 ≤ maxLen) := hidden (by unfold maxLen; omega)
      have hb2 : Hid ((k + 1) * 32 ≤ 140737488355328) := hidden (by omega)
      clear hS hO hG hul hc hcs hcr hgr hcall hx hp hcl g1 hk
      go_wp2
      go_region_held3 (fun w' => w'.cell? ⟨g, 0, none⟩ = some (.int .i64 d.size) ∧ w'.cell? ⟨g, 2, none⟩ = some (.int .u64 d.gen) ∧ w'.cell? ⟨g, 3, none⟩ = some (.slice (some ⟨b, 0, none⟩) d.rooms.length cap) ∧ w'.cell? ⟨b, p, none⟩ = some (.slice (some ⟨b', 0, none⟩) x.length cp'))
        (first | go_keep | (go_split_ands; exact ⟨by assumption, by assumption, by assumption, by assumption⟩))
        ((first
          | (go_at_call 26; refine (HC1.out _ HS.out.drew).mono ?_; rintro e w2 ⟨u, rfl, hu⟩; have k2 : Same wr w2 := Kept.trans ((Kept.refl _ wr).drew) hu.same; obtain ⟨ua, uc, hue, _⟩ := hu.own.form; subst hue; have HU := hidden hu; have b2 := blk_kept k2 (fun h => h) HGR.out; have r2 := blk_kept k2 (fun h => h) HCR.out; have d0 : w2.cell? ⟨g, 0, none⟩ = some (.int .i64 d.size) := blk_cell b2; have d2 : w2.cell? ⟨g, 2, none⟩ = some (.int .u64 d.gen) := blk_cell b2; have d3 : w2.cell? ⟨g, 3, none⟩ = some (.slice (some ⟨b, 0, none⟩) d.rooms.length cap) := blk_cell b2; have dc : w2.cell? ⟨b, p, none⟩ = some (.slice (some ⟨b', 0, none⟩) x.length cp') := (blk_cell r2).trans HCc.out; clear hu)
          | (refine step_append_lies _ (by rfl) _ _ 36 (by rfl) w.heap.size 41 i0 _ 2 32 Tryd.underlying36 hi hz0 hz1 hz2 rfl (by omega) _ _ _ (by rfl) ((own_kept HO.out k2 (fun _ _ h => h)).alloc _) ⟨w2.heap.size, 0, none⟩ 1 1 _ (by rfl) (by rfl) (World.news_of_block (heap_alloc_new w2 _)) (by simp [Value.oneCell']) (by omega) hb1.out hb2.out (by have := HS.out.size; have := k2.size; simp at this ⊢; omega) (w2.heap.size + 1) (by simp) ?_; intro gg cap5 w5 hown5 hgrow5 hat5 hlt5; have HO5 := hidden hown5; have HG5 := hidden hgrow5; have b5 : w5.heap[g]? = _ := (hgrow5.block g (by have := blk_lt b2; simp; omega) (Ne.symm (own_apart HO.out HGR.out (by decide)))).trans (blk_alloc b2 _); have r5 : w5.heap[b]? = _ := (hgrow5.block b (by have := blk_lt r2; simp; omega) (Ne.symm (own_apart HO.out HCR.out (by decide)))).trans (blk_alloc r2 _); have d0 : w5.cell? ⟨g, 0, none⟩ = some (.int .i64 d.size) := blk_cell b5; have d2 : w5.cell? ⟨g, 2, none⟩ = some (.int .u64 d.gen) := blk_cell b5; have d3 : w5.cell? ⟨g, 3, none⟩ = some (.slice (some ⟨b, 0, none⟩) d.rooms.length cap) := blk_cell b5; have dc : w5.cell? ⟨b, p, none⟩ = some (.slice (some ⟨b', 0, none⟩) x.length cp') := (blk_cell r5).trans HCc.out; clear hown5 hgrow5)))
      have a1 : IntKind.i64.wrap ((p : Int) + 1) = (p : Int) + 1 := by rw [IntKind.wrap_i64]; omega
      have hO2 := own_kept HO.out k2 (fun _ _ h => h)
      have K5 : Same w w5 := ((HS.out.trans k2).alloc _).grown HG5.out (fun i hi hl => by have := (HO.out.lt i hi).1; omega)
      have hnew : ∀ (u : Value) (l : List UInt8), Gr w w2 u l → Gr w w5 u l := fun u l hg => (hg.on (same_alloc w2 _)).past HG5.out (fun r e => (own_bk HO.out e).1) (fun r hr e => by
        obtain ⟨_, cs', hb'⟩ := own_bk hO2 e
        exact hg.own.apart hb' (by decide) hr)
      have hrel : ∃ us' : List Value, us'.length = k + 1 ∧ w5.ownsRow w.heap.size 41 2 (.slice (some ⟨gg, 0, none⟩) (k + 1) cap5) (k + 1) (secCells d.taken us') ∧ (∀ (j : Nat) (u : Value) (y : List UInt8), us'[j]? = some u → d.cur[j]? = some y → Gr w w5 u (jsec d.size d.gen (d.taken + j) y)) := by
        refine ⟨us ++ [.slice ua (jsec d.size d.gen p x).length uc], by rw [List.length_append, HUl.out]; rfl, ?_, fun j u y hu hy => ?_⟩
        · rw [secCells_snoc, HUl.out, ← HP.out]
          exact HO5.out
        · rcases Nat.lt_or_ge j us.length with hj | hj
          · rw [List.getElem?_append_left hj] at hu
            exact hnew _ _ ((HG.out j u y hu hy).on k2)
          · rw [List.getElem?_append_right hj] at hu
            have hjk : j - us.length = 0 := by
              have := (List.getElem?_eq_some_iff.1 hu).1
              simpa using this
            have hj2 : j = k := by have := HUl.out; omega
            rw [hjk] at hu
            obtain rfl : Value.slice ua (jsec d.size d.gen p x).length uc = u := by simpa using hu
            subst hj2
            rw [HX.out] at hy
            cases hy
            rw [← HP.out]
            refine hnew _ _ ⟨HU.out.own, fun r hr => ?_, HS.out.trans k2⟩
            have h1 := HU.out.new r hr
            have h2 := HS.out.size
            simp at h1
            omega
      have HRel := hidden hrel
      have HK5 := hidden K5
      clear hrel K5 hnew hO2
      go_wp2
      go_roundw
      case rel =>
        obtain ⟨us', e1, e2, e3⟩ := HRel.out
        exact ⟨k + 1, by rw [HP.out]; push_cast; simp [Int.add_assoc], by have := HCl.out; have := HP.out; omega, us', e1, e2, e3, HK5.out⟩
      case measure => simp [intOf]; omega
    · have hkc : k = d.cur.length := by omega
      have q1 : ¬ ((d.taken + k : Nat) : Int) < (d.rooms.length : Int) := by have := HLe.out; omega
      have hgr := blk_kept hS (fun h => h) HBk.out
      have HGR := hidden hgr
      have f4 : wr.frozen? ⟨g, 4, none⟩ = false := blk_free hgr
      have d4 := hS.cell (fun h => h) c4
      obtain ⟨oa, oc, hof⟩ := own_form hO
      subst hof
      obtain ⟨p, hp⟩ : ∃ p, p = d.taken + k := ⟨_, rfl⟩
      rw [← hp] at q1 ⊢
      clear hS hO hG hgr hcl hp
      go_wp2
      go_returns
      have KF : Kept (fun i => i = g) wr (wr.setCell ⟨g, 4, none⟩ (.int .i64 (d.rooms.length : Nat))) := (Kept.refl (fun i => i = g) wr).setCell (p := ⟨g, 4, none⟩) rfl _
      have KW : Kept (fun i => i = g) w (wr.setCell ⟨g, 4, none⟩ (.int .i64 (d.rooms.length : Nat))) := (HS.out.mono (fun _ _ h => h.elim)).trans KF
      refine ⟨_, rfl, ?_, ?_, (blk_cell (j := 3) (blk_set (j := 4) HGR.out _)).trans (by rfl), KW⟩
      · have hmn := HAg.out.many
        refine ⟨oa, oc, by rw [JSt.secs_len, ← hmn, ← hkc]; rfl, fun i l hl => ?_⟩
        have hil : i < s.many := by have := (List.getElem?_eq_some_iff.1 hl).1; rwa [JSt.secs_len] at this
        obtain ⟨x, hx⟩ : ∃ x, d.cur[i]? = some x := ⟨_, List.getElem?_eq_getElem (by omega)⟩
        obtain ⟨u, hu⟩ : ∃ u, us[i]? = some u := ⟨_, List.getElem?_eq_getElem (by have := HUl.out; omega)⟩
        have hgx := HG.out i u x hu hx
        rw [HAg.out.sec i x hx] at hgx
        have hls : l = s.sec i := by
          unfold JSt.secs at hl
          rw [List.getElem?_map, List.getElem?_range hil] at hl
          exact (Option.some.inj hl).symm
        rw [hls]
        obtain ⟨z1, z2⟩ := secCells_at us d.taken i u hu
        rcases HO.out.2 with ⟨_, h0⟩ | ⟨b, cp, cur, e, hB, hbl, _⟩
        · omega
        · cases e
          have hne : b ≠ g := fun e => own_apart HO.out HGR.out (by decide) (by rw [e]; rfl)
          refine ⟨b, u, rfl, KF.cell hne ?_, KF.cell hne (by have h9 := HO.out.cells (g := b) rfl _ _ z2; rwa [add_none, Nat.zero_add] at h9), Bt.ownM (hgx.own.kept KF (fun r hr e => hgx.own.apart HGR.out (by decide) (by rw [hr, e])))⟩
          have := HO.out.cells (g := b) rfl _ _ z1
          rw [HAg.out.taken, add_none, Nat.zero_add] at this
          exact this
      · obtain ⟨rv, us0, t1, t2, t3, t4, t5⟩ := HD.out.lies
        have t0 := HBk.out
        rw [t1] at t0
        cases t0
        refine ⟨_, us0, blk_set (j := 4) HGR.out _, t2, own_kept t3 KW (fun r hr e => own_apart t3 t1 (by decide) (by rw [hr, e])), fun i x u hx hu => ?_, t5⟩
        have ho := t4 i x u hx hu
        exact own_kept ho KW (fun r hr e => own_apart ho t1 (by decide) (by rw [hr, e]))
end Go.Proofs.YtljbmpnpbjnbkaaDoor
