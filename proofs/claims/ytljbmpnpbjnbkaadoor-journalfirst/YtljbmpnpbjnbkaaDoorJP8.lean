/- journal: JournalFirst in memory: what the last loops read. -/
import Derived.Test.YtljbmpnpbjnbkaaDoorJE4
import Derived.Test.YtljbmpnpbjnbkaaDoorJ12
import Derived.Test.YtljbmpnpbjnbkaaDoorJH1
import Derived.Laws.CopyRow
/- journal: an append that tells where the row lies behind it; sectors that are appended. -/
/- journal: JournalFirst in memory: the image is made and written. -/
/- journal: JournalFirst, pure: what holds of the rooms, the records, their ends and the sectors. -/
/- journal: JournalFirst in memory: the image, the records' texts, where they end, the sectors; apart from both Writers. -/
/- journal: JournalFirst, pure: rooms that grow, records of a stream's first bytes, an image of sectors. Of no program. -/
namespace Go.Proofs.YtljbmpnpbjnbkaaDoor
open Go.RowKit
set_option linter.unusedVariables false
/-- Rooms that have grown: none but the last one; and more behind it. -/
structure Ext (R R' : List (List UInt8)) : Prop where
  len : R.length ≤ R'.length
  same : ∀ i, i + 1 < R.length → R'[i]? = R[i]?
  more : ∀ (i : Nat) (x : List UInt8), R[i]? = some x → ∃ y, R'[i]? = some y ∧ x.length ≤ y.length
theorem Ext.refl (R : List (List UInt8)) : Ext R R := ⟨Nat.le_refl _, fun _ _ => rfl, fun _ x h => ⟨x, h, Nat.le_refl _⟩⟩
theorem Ext.trans {a b c : List (List UInt8)} (h : Ext a b) (k : Ext b c) : Ext a c :=
  ⟨Nat.le_trans h.len k.len, fun i hi => (k.same i (by have := h.len; omega)).trans (h.same i hi), fun i x hx => by
    obtain ⟨y, hy, h1⟩ := h.more i x hx
    obtain ⟨z, hz, h2⟩ := k.more i y hy
    exact ⟨z, hz, Nat.le_trans h1 h2⟩⟩
theorem Ext.pre (A : List (List UInt8)) {R R' : List (List UInt8)} (h : Ext R R') : Ext (A ++ R) (A ++ R') := by
  refine ⟨by have := h.len; simp; omega, fun i hi => ?_, fun i x hx => ?_⟩
  · rcases Nat.lt_or_ge i A.length with hl | hl
    · rw [List.getElem?_append_left hl, List.getElem?_append_left hl]
    · rw [List.getElem?_append_right hl, List.getElem?_append_right hl]
      exact h.same _ (by rw [List.length_append] at hi; omega)
  · rcases Nat.lt_or_ge i A.length with hl | hl
    · rw [List.getElem?_append_left hl] at hx ⊢
      exact ⟨x, hx, Nat.le_refl _⟩
    · rw [List.getElem?_append_right hl] at hx ⊢
      exact h.more _ x hx
theorem ext_pushB (r : Nat) (b : UInt8) : ∀ l, Ext l (pushB r l b)
  | [] => ⟨Nat.zero_le _, fun i h => by simp at h, fun i x h => by simp at h⟩
  | [x] => by
    unfold pushB
    split
    · refine ⟨by simp, fun i h => by simp at h, fun i y h => ?_⟩
      cases i with
      | zero => exact ⟨x, rfl, by obtain rfl : x = y := by simpa using h
                                  exact Nat.le_refl _⟩
      | succ i => simp at h
    · refine ⟨by simp, fun i h => by simp at h, fun i y h => ?_⟩
      cases i with
      | zero => exact ⟨x ++ [b], rfl, by obtain rfl : x = y := by simpa using h
                                         simp⟩
      | succ i => simp at h
  | x :: y :: l => (ext_pushB r b (y :: l)).pre [x]
theorem ext_pushL (r : Nat) : ∀ (bs : List UInt8) (l : List (List UInt8)), Ext l (pushL r l bs)
  | [], l => Ext.refl l
  | b :: bs, l => (ext_pushB r b l).trans (ext_pushL r bs (pushB r l b))
theorem DSt.ext_app (d : DSt) (rec : List UInt8) : Ext d.rooms (d.app rec).rooms := by
  have h := (ext_pushL (d.size - 24) (be 4 rec.length ++ rec) d.cur).pre (d.rooms.take d.taken)
  have e : d.rooms.take d.taken ++ d.cur = d.rooms := List.take_append_drop _ _
  rw [e] at h
  exact h
theorem Ext.flat {R R' : List (List UInt8)} (h : Ext R R') : ∀ n, (R.take n).flatten.length ≤ (R'.take n).flatten.length
  | 0 => Nat.le_refl _
  | n + 1 => by
    have ih := h.flat n
    rw [List.take_add_one, List.take_add_one, List.flatten_append, List.flatten_append, List.length_append, List.length_append]
    cases hx : R[n]? with
    | none =>
      have e1 : ((none : Option (List UInt8)).toList.flatten).length = 0 := rfl
      rw [e1]
      omega
    | some x =>
      obtain ⟨y, hy, hl⟩ := h.more n x hx
      rw [hy]
      have e1 : ∀ z : List UInt8, ((some z : Option (List UInt8)).toList.flatten).length = z.length := fun z => by simp
      rw [e1, e1]
      omega
theorem Ext.take {R R' : List (List UInt8)} (h : Ext R R') : ∀ n, n < R.length → R'.take n = R.take n
  | 0, _ => by simp
  | n + 1, hn => by rw [List.take_add_one, List.take_add_one, h.take n (by omega), h.same n hn]
/-- A record that ends at a byte wants so many rooms. -/
def QE (R : List (List UInt8)) (E m : Nat) : Prop := m ≤ R.length ∧ ∀ n, m ≤ n ↔ E ≤ (R.take n).flatten.length
theorem QE.ext {R R' : List (List UInt8)} {E m : Nat} (h : QE R E m) (k : Ext R R') : QE R' E m := by
  refine ⟨Nat.le_trans h.1 k.len, fun n => ⟨fun hn => Nat.le_trans ((h.2 n).1 hn) (k.flat n), fun hE => ?_⟩⟩
  rcases Nat.lt_or_ge n m with hl | hl
  · rw [k.take n (by have := h.1; omega)] at hE
    exact (h.2 n).2 hE
  · exact hl
theorem mem_flat_le {x : List UInt8} : ∀ {L : List (List UInt8)}, x ∈ L → x.length ≤ L.flatten.length
  | y :: L, h => by
    rw [List.flatten_cons, List.length_append]
    rcases List.mem_cons.1 h with rfl | h
    · omega
    · have := mem_flat_le h
      omega
theorem QE.new {R : List (List UInt8)} {x : List UInt8} (h0 : R[R.length - 1]? = some x) (hx : 0 < x.length) : QE R R.flatten.length R.length := by
  refine ⟨Nat.le_refl _, fun n => ⟨fun hn => by rw [List.take_of_length_le hn]; exact Nat.le_refl _, fun hE => ?_⟩⟩
  rcases Nat.lt_or_ge n R.length with hl | hl
  · have hd : x ∈ R.drop n := by
      have : (R.drop n)[R.length - 1 - n]? = some x := by rw [List.getElem?_drop, show n + (R.length - 1 - n) = R.length - 1 by omega]; exact h0
      exact List.mem_of_getElem? this
    have h1 := mem_flat_le hd
    have h2 : R.flatten.length = (R.take n).flatten.length + (R.drop n).flatten.length := by
      conv => lhs; rw [← List.take_append_drop n R]
      rw [List.flatten_append, List.length_append]
    omega
  · exact hl
/-! ### Records of a stream's first bytes -/
def encR (r : List UInt8) : List UInt8 := be 4 r.length ++ r
theorem encR_len (r : List UInt8) : (encR r).length = 4 + r.length := by unfold encR; rw [List.length_append, be_length]
def endOf (laid : List (List UInt8)) (j : Nat) : Nat := ((laid.take j).map encR).flatten.length
theorem endOf_cons (r : List UInt8) (laid : List (List UInt8)) (j : Nat) : endOf (r :: laid) (j + 1) = 4 + r.length + endOf laid j := by
  unfold endOf
  rw [List.take_succ_cons, List.map_cons, List.flatten_cons, List.length_append, encR_len]
theorem take4 (r S : List UInt8) (T : Nat) (h : 4 ≤ T) : ((encR r ++ S).take T).take 4 = be 4 r.length := by
  rw [List.take_take, Nat.min_eq_left h]
  unfold encR
  rw [List.append_assoc, List.take_append_of_le_length (by rw [be_length]; exact Nat.le_refl _), List.take_of_length_le (by rw [be_length]; exact Nat.le_refl _)]
theorem num_be4 (n : Nat) (h : n ≤ 65536) : num (be 4 n) = n := by
  rw [num_be']
  exact Nat.mod_eq_of_lt (by omega)
theorem recs_pre : ∀ (laid : List (List UInt8)) (hl : ∀ r ∈ laid, r.length ≤ 65536) (T w : Nat), w ≤ laid.length → endOf laid w ≤ T → (w = laid.length ∨ T < endOf laid (w + 1)) → T ≤ (laid.map encR).flatten.length → recs (((laid.map encR).flatten).take T) = laid.take w
  | [], _, T, w, _, _, _, _ => by
    simp
    exact recs_end (.inl (by simp))
  | r :: laid, hl, T, w, hw, h1, h2, hT => by
    have hr := hl r (List.mem_cons_self ..)
    rw [List.map_cons, List.flatten_cons] at hT ⊢
    rw [List.length_append, encR_len] at hT
    have hsl : ((encR r ++ (laid.map encR).flatten).take T).length = T := by
      rw [List.length_take, List.length_append, encR_len]
      omega
    cases w with
    | zero =>
      have h3 : T < 4 + r.length := by
        rcases h2 with h | h
        · simp at h
        · rw [endOf_cons] at h
          have h0 : endOf laid 0 = 0 := by simp [endOf]
          omega
      rw [List.take_zero]
      by_cases h4 : T < 4
      · exact recs_end (.inl (by rw [hsl]; exact h4))
      · refine recs_end (.inr (.inr ?_))
        rw [hsl, take4 r _ T (by omega), num_be4 _ hr]
        omega
    | succ w =>
      rw [endOf_cons] at h1
      have e4 := take4 r (laid.map encR).flatten T (by omega)
      rw [recs_cons (by rw [hsl]; omega) (by rw [e4, num_be4 _ hr]; omega) (by rw [hsl, e4, num_be4 _ hr]; omega), e4, num_be4 _ hr, List.take_succ_cons]
      have hsp : (encR r ++ (laid.map encR).flatten).take T = encR r ++ ((laid.map encR).flatten).take (T - (4 + r.length)) := by
        rw [List.take_append, encR_len, List.take_of_length_le (by rw [encR_len]; omega)]
      rw [hsp]
      congr 1
      · unfold encR
        rw [List.append_assoc, List.drop_append_of_le_length (by rw [be_length]; exact Nat.le_refl _), List.drop_of_length_le (by rw [be_length]; exact Nat.le_refl _), List.nil_append, List.take_append_of_le_length (Nat.le_refl _), List.take_of_length_le (Nat.le_refl _)]
      · rw [List.drop_append_of_le_length (by rw [encR_len]; exact Nat.le_refl _), List.drop_of_length_le (by rw [encR_len]; exact Nat.le_refl _), List.nil_append]
        refine recs_pre laid (fun x hx => hl x (List.mem_cons_of_mem _ hx)) _ w (by simpa using hw) (by omega) ?_ (by omega)
        rcases h2 with h | h
        · exact .inl (by simpa using h)
        · rw [endOf_cons] at h
          exact .inr (by omega)
/-! ### Sectors -/
theorem rtJ_sec (n gen i : Nat) (x : List UInt8) (hx : x.length + 24 ≤ n) (hn : n ≤ 4096) : rtJ n gen i (jsec n gen i x) = some x := by
  have hh : jsec n gen i x = (([68, 74, 82, 78] ++ be 8 gen ++ be 4 i : List UInt8) ++ be 4 x.length) ++ (be 4 (crc (jhead gen i x.length ++ jbody n x)) ++ jbody n x) := by
    unfold jsec jhead2 jhead
    simp [List.append_assoc]
  have hl16 : ([68, 74, 82, 78] ++ be 8 gen ++ be 4 i : List UInt8).length = 16 := by simp [be_length]
  have h20 : (jsec n gen i x).take 20 = ([68, 74, 82, 78] ++ be 8 gen ++ be 4 i : List UInt8) ++ be 4 x.length := by
    rw [hh, List.take_append_of_le_length (by rw [List.length_append, hl16, be_length]; exact Nat.le_refl _), List.take_of_length_le (by rw [List.length_append, hl16, be_length]; exact Nat.le_refl _)]
  have hu : usedJ (jsec n gen i x) = x.length := by
    unfold usedJ
    rw [h20, List.drop_append_of_le_length (by omega), List.drop_of_length_le (by omega), List.nil_append, num_be4 _ (by omega)]
  have hj : jsec n gen i x = jhead2 n gen i x ++ (x ++ List.replicate (n - 24 - x.length) 0) := rfl
  have hr : roomJ (jsec n gen i x) = x := by
    unfold roomJ
    rw [hu, hj, List.take_append, jhead2_len, List.take_of_length_le (by rw [jhead2_len]; omega), show 24 + x.length - 24 = x.length by omega, List.take_append_of_le_length (Nat.le_refl _), List.take_of_length_le (Nat.le_refl _), List.drop_append_of_le_length (by rw [jhead2_len]; exact Nat.le_refl _), List.drop_of_length_le (by rw [jhead2_len]; exact Nat.le_refl _), List.nil_append]
  unfold rtJ
  rw [if_pos ⟨by rw [hu]; omega, by rw [hr]⟩, hr]
theorem jsec_head (n gen i : Nat) (x : List UInt8) : ∃ t, jsec n gen i x = 68 :: 74 :: 82 :: 78 :: (be 8 gen ++ t) := by
  refine ⟨be 4 i ++ (be 4 x.length ++ (be 4 (crc (jhead gen i x.length ++ jbody n x)) ++ jbody n x)), ?_⟩
  unfold jsec jhead2 jhead
  simp [List.append_assoc]
theorem rtJ_zero (n gen i : Nat) : rtJ n gen i (List.replicate n 0) = none := by
  unfold rtJ
  refine if_neg (fun h => ?_)
  obtain ⟨t, ht⟩ := jsec_head n gen i (roomJ (List.replicate n 0))
  have h2 := h.2.trans ht
  cases n with
  | zero => simp at h2
  | succ n =>
    rw [List.replicate_succ] at h2
    have := (List.cons.inj h2).1
    exact absurd this (by decide)
theorem rtJ_old (n gen old i : Nat) (x : List UInt8) (hne : old ≠ gen) (hg : gen < 18446744073709551616) (ho : old < 18446744073709551616) : rtJ n gen i (jsec n old i x) = none := by
  unfold rtJ
  refine if_neg (fun h => ?_)
  obtain ⟨t, ht⟩ := jsec_head n gen i (roomJ (jsec n old i x))
  obtain ⟨t', ht'⟩ := jsec_head n old i x
  have h2 := (ht'.symm.trans h.2).trans ht
  have h3 : be 8 old ++ t' = be 8 gen ++ t := by simpa using h2
  have h4 := congrArg (List.take 8) h3
  rw [List.take_append_of_le_length (by rw [be_length]; exact Nat.le_refl _), List.take_append_of_le_length (by rw [be_length]; exact Nat.le_refl _), List.take_of_length_le (by rw [be_length]; exact Nat.le_refl _), List.take_of_length_le (by rw [be_length]; exact Nat.le_refl _)] at h4
  have h5 := congrArg num h4
  rw [num_be', num_be', Nat.mod_eq_of_lt (by omega), Nat.mod_eq_of_lt (by omega)] at h5
  exact hne h5
theorem secP_blk (n : Nat) : ∀ (B : List (List UInt8)) (i : Nat) (b : List UInt8), (∀ x ∈ B, x.length = n) → B[i]? = some b → secP n i B.flatten = b
  | [], i, b, _, h => by simp at h
  | x :: B, 0, b, hB, h => by
    obtain rfl : x = b := by simpa using h
    have hx := hB x (List.mem_cons_self ..)
    unfold secP
    rw [List.flatten_cons, Nat.zero_add, Nat.one_mul, Nat.zero_mul, List.drop_zero, List.take_append_of_le_length (by omega), List.take_of_length_le (by omega)]
  | x :: B, i + 1, b, hB, h => by
    have hx := hB x (List.mem_cons_self ..)
    have ih := secP_blk n B i b (fun y hy => hB y (List.mem_cons_of_mem _ hy)) (by simpa using h)
    unfold secP at ih ⊢
    rw [List.flatten_cons, List.take_append, List.take_of_length_le (by rw [hx, Nat.add_mul]; omega), List.drop_append, List.drop_of_length_le (by rw [hx, Nat.add_mul]; omega), List.nil_append, hx, show (i + 1 + 1) * n - n = (i + 1) * n by rw [Nat.add_mul (i + 1)]; omega, show (i + 1) * n - n = i * n by rw [Nat.add_mul]; omega]
    exact ih
theorem roomsJ_pre (n gen : Nat) (B : List (List UInt8)) (R : List (List UInt8)) (m : Nat) (hm : m ≤ R.length) (hB : ∀ x ∈ B, x.length = n) (h1 : ∀ (i : Nat) (x b : List UInt8), i < m → R[i]? = some x → B[i]? = some b → rtJ n gen i b = some x) (h2 : ∀ (i : Nat) (b : List UInt8), m ≤ i → B[i]? = some b → rtJ n gen i b = none) : ∀ (f i : Nat), i + f = B.length → roomsJ n gen B.flatten f i = (R.take m).drop i ∨ B.length < m
  | 0, i, hi => by
    by_cases hl : B.length < m
    · exact .inr hl
    · refine .inl ?_
      unfold roomsJ
      rw [List.drop_of_length_le (by rw [List.length_take]; omega)]
  | f + 1, i, hi => by
    by_cases hl : B.length < m
    · exact .inr hl
    · refine .inl ?_
      obtain ⟨b, hb⟩ : ∃ b, B[i]? = some b := ⟨_, List.getElem?_eq_getElem (by omega)⟩
      unfold roomsJ
      rw [secP_blk n B i b hB hb]
      rcases Nat.lt_or_ge i m with hm2 | hm2
      · obtain ⟨x, hx⟩ : ∃ x, R[i]? = some x := ⟨_, List.getElem?_eq_getElem (by omega)⟩
        rw [h1 i x b hm2 hx hb]
        have ih := (roomsJ_pre n gen B R m hm hB h1 h2 f (i + 1) (by omega)).resolve_right hl
        show x :: roomsJ n gen B.flatten f (i + 1) = _
        rw [ih]
        have hx' : (R.take m)[i]? = some x := by rw [List.getElem?_take, if_pos hm2]; exact hx
        obtain ⟨hi', he⟩ := List.getElem?_eq_some_iff.1 hx'
        rw [List.drop_eq_getElem_cons hi', he]
      · rw [h2 i b hm2 hb]
        show [] = _
        rw [List.drop_of_length_le (by rw [List.length_take]; omega)]
end Go.Proofs.YtljbmpnpbjnbkaaDoor
namespace Go.Proofs.YtljbmpnpbjnbkaaDoor
open Go.RowKit
set_option linter.unusedVariables false
set_option linter.unusedSimpArgs false
theorem kept_setRow (w : World) (q : Nat) (cs : Array Value) : Kept (fun k => k = q) w (w.setRow q cs) :=
  ⟨rfl, rfl, rfl, by simp, fun i hi hs => setRow_other _ _ _ _ hs⟩
theorem flat_set (n : Nat) (b : List UInt8) : ∀ (Bk : List (List UInt8)) (i : Nat), (∀ x ∈ Bk, x.length = n) → i < Bk.length → (Bk.set i b).flatten = Bk.flatten.take (i * n) ++ b ++ Bk.flatten.drop (i * n + n)
  | [], i, _, h => by simp at h
  | x :: Bk, 0, hB, h => by
    have hx := hB x (List.mem_cons_self ..)
    rw [List.set_cons_zero, List.flatten_cons, List.flatten_cons, Nat.zero_mul, List.take_zero, List.nil_append, Nat.zero_add, List.drop_append_of_le_length (by omega), List.drop_of_length_le (by omega), List.nil_append]
  | x :: Bk, i + 1, hB, h => by
    have hx := hB x (List.mem_cons_self ..)
    have ih := flat_set n b Bk i (fun y hy => hB y (List.mem_cons_of_mem _ hy)) (by simpa using h)
    have e1 : (x ++ Bk.flatten).take ((i + 1) * n) = x ++ Bk.flatten.take (i * n) := by
      rw [List.take_append, List.take_of_length_le (l := x) (by rw [hx, Nat.add_mul]; omega), hx, show (i + 1) * n - n = i * n by rw [Nat.add_mul]; omega]
    have e2 : (x ++ Bk.flatten).drop ((i + 1) * n + n) = Bk.flatten.drop (i * n + n) := by
      rw [List.drop_append, List.drop_of_length_le (l := x) (by rw [hx, Nat.add_mul]; omega), hx, List.nil_append, show (i + 1) * n + n - n = i * n + n by rw [Nat.add_mul]; omega]
    rw [List.set_cons_succ, List.flatten_cons, List.flatten_cons, ih, e1, e2]
    simp [List.append_assoc]
theorem flat_lenB (n : Nat) : ∀ Bk : List (List UInt8), (∀ x ∈ Bk, x.length = n) → Bk.flatten.length = Bk.length * n
  | [], _ => by simp
  | x :: Bk, hB => by
    rw [List.flatten_cons, List.length_append, hB x (List.mem_cons_self ..), flat_lenB n Bk (fun y hy => hB y (List.mem_cons_of_mem _ hy)), List.length_cons, Nat.add_mul]
    omega
/-- copy into the image's i-th sector. -/
theorem copy_blk {q n i : Nat} {Bk : List (List UInt8)} (hB : ∀ x ∈ Bk, x.length = n) (hi : i < Bk.length) {b : List UInt8} {ao : Option Addr} {cap : Nat} (hb : b.length = n) (h0 : 0 < n) (W : World) (hq : W.heap[q]? = some (.cells (Bk.flatten.map U8).toArray 5 (0, 0))) (hs : Bt W (.slice ao n cap) b) (L cp : Nat) (hL : n ≤ L) :
    (Builtin.copy_ #[39, 39] 3 #[.slice (some ⟨q, i * n, none⟩) L cp, .slice ao n cap]).run Tryd.prog W = .ok (goInt n) (W.setRow q ((Bk.set i b).flatten.map U8).toArray) := by
  obtain ⟨i0, hi0, hz0, hz1, hz2⟩ := info_parts info5
  obtain ⟨y, off, rfl, hc⟩ := hs.cell (by omega)
  have hlen := flat_lenB n Bk hB
  have hin : i * n + n ≤ Bk.length * n := by
    have := Nat.mul_le_mul_right n (Nat.succ_le_of_lt hi)
    rw [Nat.succ_mul] at this
    exact this
  have h := run_copy_row (P := Tryd.prog) W 39 39 3 5 q (i * n) L cp ⟨y, off, none⟩ n cap _ _ (b.map U8) Tryd.underlying39 (by rw [hi0]; simp [hz1]) hq (by rw [List.length_map, hb]; exact (Nat.min_eq_left hL).symm)
    (fun j x hx => by
      rw [List.getElem?_map, Option.map_eq_some_iff] at hx
      obtain ⟨z, hz, rfl⟩ := hx
      obtain ⟨hj, rfl⟩ := List.getElem?_eq_some_iff.1 hz
      rw [add_none]
      exact hc j hj) (by rw [List.length_map, hb]; simp only [List.size_toArray, List.length_map]; omega) (fun x hx => by
      rw [List.mem_map] at hx
      obtain ⟨z, _, rfl⟩ := hx
      exact U8_one z)
  rw [h, List.length_map, hb]
  have e : List.take (i * n) (List.map U8 Bk.flatten).toArray.toList ++ b.map U8 ++ List.drop (i * n + n) (List.map U8 Bk.flatten).toArray.toList = (Bk.set i b).flatten.map U8 := by
    rw [List.toList_toArray, flat_set n b Bk i hB hi, List.map_append, List.map_append, List.map_take, List.map_drop]
  rw [e]
theorem JX.bl_lt {B gp gd : Nat} {s : JSt} {d : DSt} {rv : Value} {us : List Value} {w : World} (h : JX B gp gd s d rv us w) {k : Nat} (hk : bl gp gd rv us w k) : k < w.heap.size := by
  rcases hk with e | e
  · exact h.p.jlt e
  · exact h.d.lt e
/-- What the law itself holds; N: the Writers' blocks, Y: the sectors' bytes. -/
structure JM (B q : Nat) (N : Nat → Prop) (lv : Value) (laid : List (List UInt8)) (ev : Value) (ends : List Nat) (sv : Value) (ls Bk : List (List UInt8)) (Y : Nat → Prop) (w : World) : Prop where
  img : w.heap[q]? = some (.cells (Bk.flatten.map U8).toArray 5 (0, 0))
  lr : w.ownsRow B 9 1 lv laid.length (TJ laid)
  er : w.ownsRow B 3 1 ev ends.length (ends.map fun m : Nat => Value.int .i64 (m : Int))
  sr : ∃ us : List Value, us.length = ls.length ∧ w.ownsRow B 41 2 sv ls.length (secCells 0 us) ∧ ∀ (i : Nat) (b : List UInt8) (u : Value), ls[i]? = some b → us[i]? = some u → ∃ y, Y y ∧ u = .slice (some ⟨y, 0, none⟩) b.length b.length ∧ w.heap[y]? = some (.cells (b.map U8).toArray 5 (0, 0))
  qb : B ≤ q ∧ ¬ N q
  yb : ∀ k, Y k → B ≤ k ∧ k < w.heap.size ∧ k ≠ q ∧ ¬ N k
  rn : ∀ k, (lv.ownBlock = some k ∨ ev.ownBlock = some k ∨ sv.ownBlock = some k) → ¬ N k
  nb : ∀ k, N k → k < w.heap.size
theorem JM.rlt {B q : Nat} {N : Nat → Prop} {lv ev sv : Value} {laid ls Bk : List (List UInt8)} {ends : List Nat} {Y : Nat → Prop} {w : World} (h : JM B q N lv laid ev ends sv ls Bk Y w) {k : Nat} (hk : lv.ownBlock = some k ∨ ev.ownBlock = some k ∨ sv.ownBlock = some k) : B ≤ k ∧ k < w.heap.size := by
  obtain ⟨us, u1, u2, u3⟩ := h.sr
  rcases hk with e | e | e
  · exact ⟨(own_bk h.lr e).1, blk_lt (own_bk h.lr e).2.choose_spec⟩
  · exact ⟨(own_bk h.er e).1, blk_lt (own_bk h.er e).2.choose_spec⟩
  · exact ⟨(own_bk u2 e).1, blk_lt (own_bk u2 e).2.choose_spec⟩
theorem JM.step {B q : Nat} {N N' : Nat → Prop} {lv ev sv : Value} {laid ls Bk : List (List UInt8)} {ends : List Nat} {Y : Nat → Prop} {w w' : World} (h : JM B q N lv laid ev ends sv ls Bk Y w) (k : Kept N w w') (hf : ∀ i, i < w.heap.size → N' i → N i) (hn : ∀ i, N' i → i < w'.heap.size) : JM B q N' lv laid ev ends sv ls Bk Y w' := by
  obtain ⟨us, u1, u2, u3⟩ := h.sr
  refine ⟨blk_kept k h.qb.2 h.img, own_kept h.lr k (fun i e => h.rn i (.inl e)), own_kept h.er k (fun i e => h.rn i (.inr (.inl e))), ⟨us, u1, own_kept u2 k (fun i e => h.rn i (.inr (.inr e))), fun i b u hb hu => ?_⟩, ⟨h.qb.1, fun e => h.qb.2 (hf q (blk_lt h.img) e)⟩, fun i hi => ?_, fun i hi e => h.rn i hi (hf i (h.rlt hi).2 e), hn⟩
  · obtain ⟨y, y1, y2, y3⟩ := u3 i b u hb hu
    exact ⟨y, y1, y2, blk_kept k (h.yb y y1).2.2.2 y3⟩
  · obtain ⟨a, b, c, e⟩ := h.yb i hi
    exact ⟨a, Nat.lt_of_lt_of_le b k.size, c, fun g => e (hf i b g)⟩
theorem own_ne {w : World} {B B' : Nat} {e e' : TypeId} {s s' n n' : Nat} {v v' : Value} {xs xs' : List Value} (h : w.ownsRow B e s v n xs) (h' : w.ownsRow B' e' s' v' n' xs') (hne : e ≠ e') (k : Nat) (hk : v.ownBlock = some k) : v'.ownBlock ≠ some k := by
  obtain ⟨_, cs, hcs⟩ := own_bk h hk
  exact own_apart h' hcs (fun e => hne e.symm)
theorem JM.pushL {B q : Nat} {N : Nat → Prop} {lv lv' ev sv : Value} {laid ls Bk : List (List UInt8)} {ends : List Nat} {Y : Nat → Prop} {w W1 w' : World} {r : List UInt8} (h : JM B q N lv laid ev ends sv ls Bk Y w) (k1 : Same w W1) (hg : W1.grownBy w' lv.ownBlock) (ho : w'.ownsRow B 9 1 lv' (laid.length + 1) (TJ laid ++ [.string ⟨r.toArray⟩])) (hat : lv'.ownBlock = lv.ownBlock ∨ lv'.ownBlock = some W1.heap.size) :
    JM B q N lv' (laid ++ [r]) ev ends sv ls Bk Y w' ∧ Kept (fun k => lv.ownBlock = some k) w w' := by
  obtain ⟨us, u1, u2, u3⟩ := h.sr
  have hs := k1.size
  have hk : Kept (fun k => lv.ownBlock = some k) w w' := ((Kept.refl (fun k => lv.ownBlock = some k) w).trans (k1.mono (fun _ _ h => h.elim))).grown hg (fun k e _ => e)
  refine ⟨⟨blk_kept hk (own_apart h.lr h.img (by decide)) h.img, by rw [List.length_append]; simpa [TJ] using ho, own_kept h.er hk (fun i e => own_ne h.er h.lr (by decide) i e), ⟨us, u1, own_kept u2 hk (fun i e => own_ne u2 h.lr (by decide) i e), fun i b u hb hu => ?_⟩, h.qb, fun i hi => ?_, fun i hi e => ?_, fun i hi => Nat.lt_of_lt_of_le (h.nb i hi) hk.size⟩, hk⟩
  · obtain ⟨y, y1, y2, y3⟩ := u3 i b u hb hu
    exact ⟨y, y1, y2, blk_kept hk (own_apart h.lr y3 (by decide)) y3⟩
  · obtain ⟨a, b, c, e⟩ := h.yb i hi
    exact ⟨a, Nat.lt_of_lt_of_le b hk.size, c, e⟩
  · rcases hi with hi | hi
    · rcases hat with h1 | h1
      · exact h.rn i (.inl (by rw [← h1]; exact hi)) e
      · rw [h1] at hi
        cases hi
        have := h.nb _ e
        omega
    · exact h.rn i (.inr hi) e
theorem JM.pushE {B q : Nat} {N : Nat → Prop} {lv ev ev' sv : Value} {laid ls Bk : List (List UInt8)} {ends : List Nat} {Y : Nat → Prop} {w W1 w' : World} {m : Nat} (h : JM B q N lv laid ev ends sv ls Bk Y w) (k1 : Same w W1) (hg : W1.grownBy w' ev.ownBlock) (ho : w'.ownsRow B 3 1 ev' (ends.length + 1) ((ends.map fun m : Nat => Value.int .i64 (m : Int)) ++ [.int .i64 (m : Int)])) (hat : ev'.ownBlock = ev.ownBlock ∨ ev'.ownBlock = some W1.heap.size) :
    JM B q N lv laid ev' (ends ++ [m]) sv ls Bk Y w' ∧ Kept (fun k => ev.ownBlock = some k) w w' := by
  obtain ⟨us, u1, u2, u3⟩ := h.sr
  have hs := k1.size
  have hk : Kept (fun k => ev.ownBlock = some k) w w' := ((Kept.refl (fun k => ev.ownBlock = some k) w).trans (k1.mono (fun _ _ h => h.elim))).grown hg (fun k e _ => e)
  refine ⟨⟨blk_kept hk (own_apart h.er h.img (by decide)) h.img, own_kept h.lr hk (fun i e => own_ne h.lr h.er (by decide) i e), by rw [List.length_append]; simpa using ho, ⟨us, u1, own_kept u2 hk (fun i e => own_ne u2 h.er (by decide) i e), fun i b u hb hu => ?_⟩, h.qb, fun i hi => ?_, fun i hi e => ?_, fun i hi => Nat.lt_of_lt_of_le (h.nb i hi) hk.size⟩, hk⟩
  · obtain ⟨y, y1, y2, y3⟩ := u3 i b u hb hu
    exact ⟨y, y1, y2, blk_kept hk (own_apart h.er y3 (by decide)) y3⟩
  · obtain ⟨a, b, c, e⟩ := h.yb i hi
    exact ⟨a, Nat.lt_of_lt_of_le b hk.size, c, e⟩
  · rcases hi with hi | hi | hi
    · exact h.rn i (.inl hi) e
    · rcases hat with h1 | h1
      · exact h.rn i (.inr (.inl (by rw [← h1]; exact hi))) e
      · rw [h1] at hi
        cases hi
        have := h.nb _ e
        omega
    · exact h.rn i (.inr (.inr hi)) e
theorem secCells_app : ∀ (us us' : List Value) (t : Nat), secCells t (us ++ us') = secCells t us ++ secCells (t + us.length) us'
  | [], us', t => by simp [secCells]
  | u :: us, us', t => by
    simp only [secCells, List.cons_append, List.length_cons]
    rw [secCells_app us us' (t + 1), show t + 1 + us.length = t + (us.length + 1) by omega]
theorem JM.pushS {B q n0 : Nat} {N : Nat → Prop} {lv ev sv sv' : Value} {laid ls ls' Bk : List (List UInt8)} {ends : List Nat} {Y : Nat → Prop} {w w' : World} (h : JM B q N lv laid ev ends sv ls Bk Y w)
    {us us' : List Value} (u1 : us.length = ls.length) (u2 : w.ownsRow B 41 2 sv ls.length (secCells 0 us)) (u3 : ∀ (i : Nat) (b : List UInt8) (u : Value), ls[i]? = some b → us[i]? = some u → ∃ y, Y y ∧ u = .slice (some ⟨y, 0, none⟩) b.length b.length ∧ w.heap[y]? = some (.cells (b.map U8).toArray 5 (0, 0)))
    (v1 : us'.length = ls'.length) (v3 : ∀ i (h : i < ls'.length) (h' : i < us'.length), Own w us'[i] ls'[i] n0) (hB0 : B ≤ n0) (hq0 : q < n0) (hN0 : ∀ k, N k → k < n0)
    (hg : w.grownBy w' sv.ownBlock) (ho : w'.ownsRow B 41 2 sv' (ls.length + ls'.length) (secCells 0 us ++ secCells ls.length us')) (hat : sv'.ownBlock = sv.ownBlock ∨ ∀ k, sv'.ownBlock = some k → w.heap.size ≤ k) :
    ∃ Y', JM B q N lv laid ev ends sv' (ls ++ ls') Bk Y' w' ∧ Kept (fun k => sv.ownBlock = some k) w w' := by
  have hk : Kept (fun k => sv.ownBlock = some k) w w' := (Kept.refl (fun k => sv.ownBlock = some k) w).grown hg (fun k e _ => e)
  refine ⟨fun k => Y k ∨ (n0 ≤ k ∧ k < w'.heap.size), ⟨blk_kept hk (own_apart u2 h.img (by decide)) h.img, own_kept h.lr hk (fun i e => own_ne h.lr u2 (by decide) i e), own_kept h.er hk (fun i e => own_ne h.er u2 (by decide) i e), ⟨us ++ us', by rw [List.length_append, List.length_append, u1, v1], by rw [List.length_append, secCells_app, u1, Nat.zero_add]; exact ho, fun i b u hb hu => ?_⟩, h.qb, fun i hi => ?_, fun i hi e => ?_, fun i hi => Nat.lt_of_lt_of_le (h.nb i hi) hk.size⟩, hk⟩
  · rcases Nat.lt_or_ge i ls.length with hl | hl
    · rw [List.getElem?_append_left hl] at hb
      rw [List.getElem?_append_left (by omega)] at hu
      obtain ⟨y, y1, y2, y3⟩ := u3 i b u hb hu
      exact ⟨y, .inl y1, y2, blk_kept hk (own_apart u2 y3 (by decide)) y3⟩
    · rw [List.getElem?_append_right hl] at hb
      rw [List.getElem?_append_right (by omega), u1] at hu
      obtain ⟨p1, rfl⟩ := List.getElem?_eq_some_iff.1 hb
      obtain ⟨p2, rfl⟩ := List.getElem?_eq_some_iff.1 hu
      obtain ⟨y, y1, y2, y3⟩ := v3 _ p1 p2
      have y4 := blk_kept hk (own_apart u2 y3 (by decide)) y3
      exact ⟨y, .inr ⟨y1, blk_lt y4⟩, y2, y4⟩
  · rcases hi with hi | ⟨hi1, hi2⟩
    · obtain ⟨a, b, c, e⟩ := h.yb i hi
      exact ⟨a, Nat.lt_of_lt_of_le b hk.size, c, e⟩
    · exact ⟨by omega, hi2, by omega, fun e => by have := hN0 i e; omega⟩
  · rcases hi with hi | hi | hi
    · exact h.rn i (.inl hi) e
    · exact h.rn i (.inr (.inl hi)) e
    · rcases hat with h1 | h1
      · exact h.rn i (.inr (.inr (by rw [← h1]; exact hi))) e
      · have h2 := h1 i hi
        have h3 := h.nb i e
        omega
theorem JM.congr {B q : Nat} {N N' : Nat → Prop} {lv ev sv : Value} {laid ls Bk : List (List UInt8)} {ends : List Nat} {Y : Nat → Prop} {w : World} (h : JM B q N lv laid ev ends sv ls Bk Y w) (hf : ∀ i, N' i → N i) : JM B q N' lv laid ev ends sv ls Bk Y w :=
  ⟨h.img, h.lr, h.er, h.sr, ⟨h.qb.1, fun e => h.qb.2 (hf q e)⟩, fun i hi => ⟨(h.yb i hi).1, (h.yb i hi).2.1, (h.yb i hi).2.2.1, fun e => (h.yb i hi).2.2.2 (hf i e)⟩, fun i hi e => h.rn i hi (hf i e), fun i hi => h.nb i (hf i hi)⟩
/-- Both Writers and what the law holds. -/
structure JQ (B gp gd q : Nat) (s : JSt) (d : DSt) (rv : Value) (us : List Value) (lv : Value) (laid : List (List UInt8)) (ev : Value) (ends : List Nat) (sv : Value) (ls Bk : List (List UInt8)) (Y : Nat → Prop) (w : World) : Prop where
  x : JX B gp gd s d rv us w
  m : JM B q (bl gp gd rv us w) lv laid ev ends sv ls Bk Y w
theorem JQ.bo {B gp gd q : Nat} {s s' : JSt} {d d' : DSt} {rv rv' lv ev sv : Value} {us us' : List Value} {laid ls Bk : List (List UInt8)} {ends : List Nat} {Y : Nat → Prop} {w w' : World} (h : JQ B gp gd q s d rv us lv laid ev ends sv ls Bk Y w) (o : BO B gp gd rv us w s' d' rv' us' w') : JQ B gp gd q s' d' rv' us' lv laid ev ends sv ls Bk Y w' ∧ Kept (fun k => B ≤ k) w w' :=
  ⟨⟨o.x, h.m.step o.k o.f (fun i hi => o.x.bl_lt hi)⟩, o.k.mono (fun i _ hi => hi.elim (h.x.pb i) (fun e => (h.x.db i e).1))⟩
/-- A row of the law's own grows: the Writers stay. -/
theorem JQ.row {B gp gd q : Nat} {s : JSt} {d : DSt} {rv lv ev sv lv' ev' sv' : Value} {us : List Value} {laid ls Bk laid' ls' : List (List UInt8)} {ends ends' : List Nat} {Y Y' : Nat → Prop} {w w' : World} (h : JQ B gp gd q s d rv us lv laid ev ends sv ls Bk Y w) {v : Value} (hv : v = lv ∨ v = ev ∨ v = sv)
    (hm : JM B q (bl gp gd rv us w) lv' laid' ev' ends' sv' ls' Bk Y' w') (k : Kept (fun k => v.ownBlock = some k) w w') : JQ B gp gd q s d rv us lv' laid' ev' ends' sv' ls' Bk Y' w' ∧ Kept (fun k => B ≤ k) w w' := by
  have hr : ∀ k, v.ownBlock = some k → lv.ownBlock = some k ∨ ev.ownBlock = some k ∨ sv.ownBlock = some k := fun k e => by
    rcases hv with rfl | rfl | rfl
    · exact .inl e
    · exact .inr (.inl e)
    · exact .inr (.inr e)
  have h1 : ∀ i, bl gp gd rv us w i → ¬ (v.ownBlock = some i) := fun i hi e => h.m.rn i (hr i e) hi
  have hj := h.x.p.jkept k (h1 gp (.inl (.inl rfl)))
  refine ⟨⟨h.x.kept k (fun i hi => h1 i (.inl hi)) (fun i hi => h1 i (.inr hi)), hm.congr (fun i hi => hi.imp (hj i).1 id)⟩, k.mono (fun i _ hi => (h.m.rlt (hr i hi)).1)⟩
end Go.Proofs.YtljbmpnpbjnbkaaDoor
namespace Go.Proofs.YtljbmpnpbjnbkaaDoor
open Go.RowKit
set_option linter.unusedVariables false
structure JZ (d : DSt) (laid : List (List UInt8)) (ends : List Nat) (ls : List (List UInt8)) : Prop where
  fl : d.rooms.flatten = (laid.map encR).flatten
  ll : ∀ r ∈ laid, r.length ≤ 65536
  el : ends.length = laid.length
  qe : ∀ (j m : Nat), ends[j]? = some m → QE d.rooms (endOf laid (j + 1)) m
  sl : ls.length = d.taken
  se : ∀ (i : Nat) (b : List UInt8), ls[i]? = some b → ∃ x, d.rooms[i]? = some x ∧ b = jsec d.size d.gen i x
  rl : ∀ x ∈ d.rooms, x.length + 24 ≤ d.size
theorem JZ.new (size sectors gen : Nat) : JZ ⟨size, sectors, gen, [], 0, 0⟩ [] [] [] :=
  ⟨rfl, fun r h => by simp at h, rfl, fun j m h => by simp at h, rfl, fun i b h => by simp at h, fun x h => by simp at h⟩
theorem DSt.app_flat (d : DSt) (rec : List UInt8) : (d.app rec).rooms.flatten = d.rooms.flatten ++ encR rec := by
  show (d.rooms.take d.taken ++ Go.Proofs.YtljbmpnpbjnbkaaDoor.pushL (d.size - 24) d.cur (be 4 rec.length ++ rec)).flatten = _
  rw [List.flatten_append, pushL_flat, ← List.append_assoc]
  congr 1
  conv => rhs; rw [← List.take_append_drop d.taken d.rooms]
  rw [List.flatten_append]
  rfl
theorem endOf_old (laid : List (List UInt8)) (r : List UInt8) (j : Nat) (h : j ≤ laid.length) : endOf (laid ++ [r]) j = endOf laid j := by
  unfold endOf
  rw [List.take_append_of_le_length h]
theorem JZ.app {d : DSt} {s : JSt} {laid ls : List (List UInt8)} {ends : List Nat} (h : JZ d laid ends ls) (ag : Ag d s) (rec : List UInt8) (h0 : s.appErr rec.length = 0) : JZ (d.app rec) (laid ++ [rec]) (ends ++ [(d.app rec).rooms.length]) ls := by
  have ag' := ag.app rec h0
  have hrm := ag'.ok.room
  have hsz : (d.app rec).size = (s.app rec).size := ag'.size
  have hfl : (d.app rec).rooms.flatten = ((laid ++ [rec]).map encR).flatten := by
    rw [d.app_flat rec, h.fl, List.map_append, List.flatten_append]
    simp
  have hpre : ∀ i, i < d.taken → (d.app rec).rooms[i]? = d.rooms[i]? := fun i hi => by
    have hle := ag.le
    show (d.rooms.take d.taken ++ _)[i]? = _
    rw [List.getElem?_append_left (by rw [List.length_take]; omega), List.getElem?_take, if_pos hi]
  have h65 : rec.length ≤ 65536 := by
    unfold JSt.appErr at h0
    by_cases g : 65536 < rec.length
    · rw [if_pos g] at h0
      cases h0
    · omega
  refine ⟨hfl, fun r hr => ?_, by simp [h.el], fun j m hm => ?_, h.sl, fun i b hb => ?_, fun x hx => ?_⟩
  · rcases List.mem_append.1 hr with e | e
    · exact h.ll r e
    · obtain rfl := List.mem_singleton.1 e
      exact h65
  · rcases Nat.lt_or_ge j ends.length with hl | hl
    · rw [List.getElem?_append_left hl] at hm
      rw [endOf_old _ _ _ (by rw [← h.el]; exact hl)]
      exact (h.qe j m hm).ext (d.ext_app rec)
    · rw [List.getElem?_append_right hl] at hm
      have hj : j - ends.length = 0 := by
        have := (List.getElem?_eq_some_iff.1 hm).1
        simpa using this
      rw [hj] at hm
      obtain rfl : (d.app rec).rooms.length = m := by simpa using hm
      have hE : endOf (laid ++ [rec]) (j + 1) = (d.app rec).rooms.flatten.length := by
        rw [hfl]
        unfold endOf
        rw [List.take_of_length_le (by simp; have := h.el; omega)]
      rw [hE]
      have hne : (d.app rec).cur ≠ [] := fun e => by
        have h1 := ag'.flat
        rw [e] at h1
        have h2 : (d.app rec).cur.flatten = d.cur.flatten ++ (be 4 rec.length ++ rec) := by
          rw [ag'.flat, ag.flat]
          unfold JSt.app
          rw [if_pos h0]
          first | rfl | simp [List.append_assoc]
        rw [e] at h2
        have h3 := congrArg List.length h2
        rw [List.length_append, List.length_append, be_length] at h3
        have h4 : ([] : List (List UInt8)).flatten.length = 0 := rfl
        omega
      have hcl : 0 < (d.app rec).cur.length := List.length_pos_iff.2 hne
      obtain ⟨x, hx⟩ : ∃ x, (d.app rec).cur[(d.app rec).cur.length - 1]? = some x := ⟨_, List.getElem?_eq_getElem (by omega)⟩
      have hx2 : (d.app rec).rooms[(d.app rec).rooms.length - 1]? = some x := by
        unfold DSt.cur at hx hcl
        rw [List.length_drop] at hx hcl
        rw [List.getElem?_drop] at hx
        rw [← hx]
        congr 1
        omega
      have hp := ag'.chk.pos x (List.mem_of_getElem? hx)
      exact QE.new hx2 (hp.elim id (fun e => by unfold JSt.room at hrm; omega))
  · have hi : i < d.taken := by rw [← h.sl]; exact (List.getElem?_eq_some_iff.1 hb).1
    obtain ⟨x, hx, e⟩ := h.se i b hb
    exact ⟨x, (hpre i hi).trans hx, e⟩
  · rcases List.mem_append.1 (show x ∈ d.rooms.take d.taken ++ _ from hx) with e | e
    · exact h.rl x (List.mem_of_mem_take e)
    · have hc : (d.app rec).cur = Go.Proofs.YtljbmpnpbjnbkaaDoor.pushL (d.size - 24) d.cur (be 4 rec.length ++ rec) := by
        have hl : (d.rooms.take d.taken).length = d.taken := by rw [List.length_take]; have := ag.le; omega
        show (d.rooms.take d.taken ++ _).drop d.taken = _
        rw [List.drop_append_of_le_length (Nat.le_of_eq hl.symm), List.drop_of_length_le (Nat.le_of_eq hl), List.nil_append]
      have := ag'.chk.le x (by rw [hc]; exact e)
      rw [← hsz] at this
      have h1 := ag'.ok.s0
      rw [← hsz] at h1
      omega
theorem JZ.take {d : DSt} {s : JSt} {laid ls : List (List UInt8)} {ends : List Nat} (h : JZ d laid ends ls) (ag : Ag d s) : JZ d.take laid ends (ls ++ s.secs s.many) := by
  have hln := ag.len
  have htk := ag.taken
  refine ⟨h.fl, h.ll, h.el, h.qe, ?_, fun i b hb => ?_, h.rl⟩
  · rw [List.length_append, JSt.secs_len, h.sl]
    show d.taken + s.many = d.rooms.length
    omega
  · rcases Nat.lt_or_ge i ls.length with hl | hl
    · rw [List.getElem?_append_left hl] at hb
      exact h.se i b hb
    · rw [List.getElem?_append_right hl] at hb
      have hkl := (List.getElem?_eq_some_iff.1 hb).1
      rw [JSt.secs_len] at hkl
      unfold JSt.secs at hb
      rw [List.getElem?_map, List.getElem?_range hkl] at hb
      have hb2 : s.sec (i - ls.length) = b := Option.some.inj hb
      have hcl := ag.many
      obtain ⟨x, hx⟩ : ∃ x, d.cur[i - ls.length]? = some x := ⟨_, List.getElem?_eq_getElem (by omega)⟩
      have h1 := ag.sec _ x hx
      unfold DSt.cur at hx
      rw [List.getElem?_drop, ← h.sl, show ls.length + (i - ls.length) = i by omega] at hx
      refine ⟨x, hx, ?_⟩
      rw [← hb2, ← h1, ← h.sl, show ls.length + (i - ls.length) = i by omega]
      rfl
/-- What a Scan of the first sectors finds. -/
theorem JZ.scan {d : DSt} {laid ls Bk : List (List UInt8)} {ends : List Nat} (h : JZ d laid ends ls) (ht : d.taken = d.rooms.length) (hsz : d.size ≤ 4096) (n w : Nat) (hn : n ≤ ls.length) (hnB : n ≤ Bk.length) (hB : ∀ x ∈ Bk, x.length = d.size)
    (h1 : ∀ i, i < n → Bk[i]? = ls[i]?) (h2 : ∀ (i : Nat) (b : List UInt8), n ≤ i → Bk[i]? = some b → rtJ d.size d.gen i b = none)
    (hw : w ≤ ends.length) (hw1 : ∀ (j m : Nat), j < w → ends[j]? = some m → m ≤ n) (hw2 : w = ends.length ∨ ∃ m, ends[w]? = some m ∧ n < m) :
    recs (roomsJ d.size d.gen Bk.flatten Bk.length 0).flatten = laid.take w := by
  have hR : n ≤ d.rooms.length := by have := h.sl; omega
  have hr := (roomsJ_pre d.size d.gen Bk d.rooms n hR hB (fun i x b hi hx hb => by
    have e := h1 i hi
    rw [hb] at e
    obtain ⟨x', hx', rfl⟩ := h.se i b e.symm
    rw [hx] at hx'
    cases hx'
    exact rtJ_sec _ _ _ _ (h.rl x (List.mem_of_getElem? hx)) hsz) h2 Bk.length 0 (by omega)).resolve_right (by omega)
  rw [hr, List.drop_zero]
  have hs : (d.rooms.take n).flatten = ((laid.map encR).flatten).take (d.rooms.take n).flatten.length := by
    rw [← h.fl]
    conv => rhs; rw [show d.rooms.flatten = (d.rooms.take n).flatten ++ (d.rooms.drop n).flatten by rw [← List.flatten_append, List.take_append_drop]]
    rw [List.take_append_of_le_length (Nat.le_refl _), List.take_of_length_le (Nat.le_refl _)]
  have hT : (d.rooms.take n).flatten.length ≤ (laid.map encR).flatten.length := by
    rw [← h.fl]
    conv => rhs; rw [← List.take_append_drop n d.rooms]
    rw [List.flatten_append, List.length_append]
    omega
  rw [hs]
  refine recs_pre laid h.ll _ w (by rw [← h.el]; exact hw) ?_ ?_ hT
  · cases w with
    | zero => simp [endOf]
    | succ j =>
      obtain ⟨m, hm⟩ : ∃ m, ends[j]? = some m := ⟨_, List.getElem?_eq_getElem (by omega)⟩
      exact ((h.qe j m hm).2 n).1 (hw1 j m (by omega) hm)
  · rcases hw2 with e | ⟨m, hm, hl⟩
    · exact .inl (by rw [← h.el]; exact e)
    · refine .inr ?_
      rcases Nat.lt_or_ge (d.rooms.take n).flatten.length (endOf laid (w + 1)) with g | g
      · exact g
      · have := ((h.qe w m hm).2 n).2 g
        omega
theorem JZ.all {d : DSt} {laid ls : List (List UInt8)} {ends : List Nat} (h : JZ d laid ends ls) (ht : d.taken = d.rooms.length) (w n : Nat) (hn : ls.length ≤ n) (hw : w ≤ ends.length) (hw2 : w = ends.length ∨ ∃ m, ends[w]? = some m ∧ n < m) : w = laid.length := by
  rcases hw2 with e | ⟨m, hm, hl⟩
  · rw [e, h.el]
  · have := (h.qe w m hm).1
    have := h.sl
    omega
end Go.Proofs.YtljbmpnpbjnbkaaDoor
namespace Go.Proofs.YtljbmpnpbjnbkaaDoor
open Go.RowKit
set_option linter.unusedVariables false
set_option linter.unusedSimpArgs false
theorem flat_rep (n : Nat) : ∀ k : Nat, (List.replicate k (List.replicate n (0 : UInt8))).flatten = List.replicate (k * n) 0
  | 0 => by simp
  | k + 1 => by
    rw [List.replicate_succ, List.flatten_cons, flat_rep n k, List.replicate_append_replicate]
    congr 1
    rw [Nat.add_mul]
    omega
theorem JQ.img {B gp gd q : Nat} {s : JSt} {d : DSt} {rv lv ev sv : Value} {us : List Value} {laid ls Bk : List (List UInt8)} {ends : List Nat} {Y : Nat → Prop} {w W1 : World} (h : JQ B gp gd q s d rv us lv laid ev ends sv ls Bk Y w) (k1 : Same w W1) (Bk' : List (List UInt8)) :
    JQ B gp gd q s d rv us lv laid ev ends sv ls Bk' Y (W1.setRow q (Bk'.flatten.map U8).toArray) ∧ Kept (fun k => B ≤ k) w (W1.setRow q (Bk'.flatten.map U8).toArray) := by
  obtain ⟨us9, u1, u2, u3⟩ := h.m.sr
  have hk : Kept (fun k => k = q) w (W1.setRow q (Bk'.flatten.map U8).toArray) := (k1.mono (fun _ _ h => h.elim)).trans (kept_setRow W1 q _)
  have h1 : ∀ i, bl gp gd rv us w i → ¬ (i = q) := fun i hi e => h.m.qb.2 (e ▸ hi)
  have hj := h.x.p.jkept hk (h1 gp (.inl (.inl rfl)))
  have hm : JM B q (bl gp gd rv us w) lv laid ev ends sv ls Bk' Y (W1.setRow q (Bk'.flatten.map U8).toArray) := by
    refine ⟨setRow_heap _ _ _ _ _ _ (blk_kept k1 (fun h => h) h.m.img), own_kept h.m.lr hk (fun i e1 e => own_apart h.m.lr h.m.img (by decide) (by rw [e1, e])), own_kept h.m.er hk (fun i e1 e => own_apart h.m.er h.m.img (by decide) (by rw [e1, e])), ⟨us9, u1, own_kept u2 hk (fun i e1 e => own_apart u2 h.m.img (by decide) (by rw [e1, e])), fun i b u hb hu => ?_⟩, h.m.qb, fun i hi => ?_, h.m.rn, fun i hi => Nat.lt_of_lt_of_le (h.m.nb i hi) hk.size⟩
    · obtain ⟨y, y1, y2, y3⟩ := u3 i b u hb hu
      exact ⟨y, y1, y2, blk_kept hk (h.m.yb y y1).2.2.1 y3⟩
    · obtain ⟨a, b, c, e⟩ := h.m.yb i hi
      exact ⟨a, Nat.lt_of_lt_of_le b hk.size, c, e⟩
  exact ⟨⟨h.x.kept hk (fun i hi => h1 i (.inl hi)) (fun i hi => h1 i (.inr hi)), hm.congr (fun i hi => hi.imp (hj i).1 id)⟩, hk.mono (fun i _ e => by rw [e]; exact h.m.qb.1)⟩
theorem JQ.new {B gp gd n c L : Nat} {s : JSt} {d : DSt} {w : World} (h : JX B gp gd s d (.slice none 0 0) [] w) (hL : L = c * n) :
    JQ B gp gd w.heap.size s d (.slice none 0 0) [] (.slice none 0 0) [] (.slice none 0 0) [] (.slice none 0 0) [] (List.replicate c (List.replicate n 0)) (fun _ => False) (w.alloc (.cells (List.replicate L (U8 0)).toArray 5)) := by
  have hs : (w.alloc (.cells (List.replicate L (U8 0)).toArray 5)).heap.size = w.heap.size + 1 := by simp
  have hj := h.p.jkept (same_alloc w (.cells (List.replicate L (U8 0)).toArray 5)) (fun h => h)
  have hb : ∀ i, bl gp gd (.slice none 0 0) [] (w.alloc (.cells (List.replicate L (U8 0)).toArray 5)) i → i < w.heap.size := fun i hi => by
    rcases hi with e | e
    · exact h.p.jlt ((hj i).1 e)
    · exact h.d.lt e
  refine ⟨h.same (same_alloc _ _), ⟨?_, World.ownsRow_nil _ _ _ _, World.ownsRow_nil _ _ _ _, ⟨[], rfl, World.ownsRow_nil _ _ _ _, fun i b u hb => by simp at hb⟩, ⟨h.low, fun e => by have := hb _ e; omega⟩, fun i hi => hi.elim, fun i hi => ?_, fun i hi => by have := hb i hi; omega⟩⟩
  · rw [flat_rep, List.map_replicate, ← hL]
    exact blk_new _ _
  · rcases hi with e | e | e <;> cases e
/-- Sectors that are none of a generation. -/
structure BK (sz st g : Nat) (Bk : List (List UInt8)) : Prop where
  n : Bk.length = st
  l : ∀ x ∈ Bk, x.length = sz
  r : ∀ (i : Nat) (b : List UInt8), Bk[i]? = some b → rtJ sz g i b = none
theorem BK.new (sz st g : Nat) : BK sz st g (List.replicate st (List.replicate sz 0)) := by
  refine ⟨by simp, fun x hx => ?_, fun i b hb => ?_⟩
  · obtain ⟨_, rfl⟩ := List.mem_replicate.1 hx
    simp
  · have := List.mem_of_getElem? hb
    obtain ⟨_, rfl⟩ := List.mem_replicate.1 this
    exact rtJ_zero _ _ _
theorem BK.set {sz st g : Nat} {Bk : List (List UInt8)} (h : BK sz st g Bk) (i : Nat) (b : List UInt8) (hb : b.length = sz) (hr : rtJ sz g i b = none) : BK sz st g (Bk.set i b) := by
  refine ⟨by rw [List.length_set]; exact h.n, fun x hx => ?_, fun j x hx => ?_⟩
  · rcases List.mem_or_eq_of_mem_set hx with e | e
    · exact h.l x e
    · rw [e]; exact hb
  · by_cases hj : j = i
    · subst hj
      have hl := (List.getElem?_eq_some_iff.1 hx).1
      rw [List.length_set] at hl
      rw [List.getElem?_set_self hl] at hx
      cases hx
      exact hr
    · rw [List.getElem?_set_ne (fun e => hj e.symm)] at hx
      exact h.r j x hx
end Go.Proofs.YtljbmpnpbjnbkaaDoor
namespace Go.Proofs.YtljbmpnpbjnbkaaDoor
open Go.RowKit
set_option linter.unusedVariables false
set_option linter.unusedSimpArgs false
theorem wpList_append_anyP {P : Program} (w : World) {ops : Array Oper} {rest : List Oper} {o : Oper} {a : Act} {Q : Exit → Act → World → Prop} (hgd : o.guard = none) (s x : Operand) (t : TypeId)
    (ho : o.op = .call { callee := .builtin .append, args := #[s, x], argTypes := #[t, t] })
    (base : Nat) (e : TypeId) (i : TypeInfo) (z : Value) (size bytes : Nat) (ht : P.underlying t = some (.slice e)) (hi : P.info? e = some i) (hz : i.zero = some z)
    (hsize : i.size = size) (hby : i.bytes = bytes) (hzs : z.cells.size = size) (hsz : 0 < size)
    (a0 : Option Addr) (n c0 : Nat) (xs : List Value) (hs : a.eval s = .slice a0 n c0) (hown : w.ownsRow base e size (.slice a0 n c0) n xs)
    (ao : Option Addr) (m c : Nat) (news : List Value) (hx : a.eval x = .slice ao m c) (hl : news.length = m * size) (hnews : Lies w ao m news) (h1 : ∀ u ∈ news, u.oneCell' = true)
    (h63 : n + m ≤ maxLen) (hbytes : (n + m) * bytes ≤ 140737488355328) (hbase : base ≤ w.heap.size)
    (h : ∀ v' w', w'.ownsRow base e size v' (n + m) (xs ++ news) → w.grownBy w' (Value.slice a0 n c0).ownBlock → (v'.ownBlock = (Value.slice a0 n c0).ownBlock ∨ v'.ownBlock = some w.heap.size) → wpList P ops Q rest (a.put o.dst v') w') : wpList P ops Q (o :: rest) a w := by
  rcases Nat.eq_zero_or_pos m with rfl | hm
  · have hn0 : news = [] := List.length_eq_zero_iff.1 (by simpa using hl)
    subst hn0
    refine wpList_plain hgd fun K hK => ?_
    have hr := run_append_none (P := P) w t o.type e i ht hi a0 n c0 ao c (own_room hown)
    unfold Oper.wp execOp
    simp only [ho, resolve, invoke, builtin, Sem.run_bind, Sem.run_pure, Result.andThen_ok, List.map_toArray, List.map_cons, List.map_nil, hs, hx, hr]
    exact hK _ _ (h _ _ (by simpa using hown) (grownBy_rfl _ _) (.inl rfl))
  · obtain ⟨ad, rfl, hc⟩ := hnews hm
    exact wpList_append_atP w hgd s x t ho base e i z size bytes ht hi hz hsize hby hzs hsz _ n xs hs hown ad m c news hx hl hc h1 h63 hbytes hbase h
theorem Secs.open {w : World} {ao : Option Addr} {cap t B m : Nat} {ls : List (List UInt8)} (h : Secs w (.slice ao m cap) t ls B) (hm : m = ls.length) :
    ∃ us : List Value, us.length = ls.length ∧ (secCells t us).length = m * 2 ∧ Lies w ao m (secCells t us) ∧ (∀ u ∈ secCells t us, u.oneCell' = true) ∧ ∀ i (h : i < ls.length) (h' : i < us.length), Own w us[i] ls[i] B := by
  obtain ⟨us, h1, h2, h3⟩ := h
  subst hm
  refine ⟨us, h1, by rw [secCells_len, h1], fun h0 => ?_, ?_, h3⟩
  · rcases h2.2 with ⟨e, h9⟩ | ⟨b, cap', cur, e, hB, hbl, _⟩
    · omega
    · cases e
      exact ⟨_, rfl, fun j u hu => by
        have := h2.cells (g := b) rfl _ _ hu
        rw [add_none, Nat.zero_add] at this
        rw [add_none, Nat.zero_add]
        exact this⟩
  · have hall : ∀ (us : List Value) (t : Nat), (∀ u ∈ us, u.oneCell' = true) → ∀ u ∈ secCells t us, u.oneCell' = true := fun us => by
      induction us with
      | nil => intro t _ u hu; cases hu
      | cons x us ih =>
        intro t hx u hu
        rcases List.mem_cons.1 hu with rfl | hu
        · rfl
        · rcases List.mem_cons.1 hu with rfl | hu
          · exact hx _ (List.mem_cons_self ..)
          · exact ih (t + 1) (fun y hy => hx y (List.mem_cons_of_mem _ hy)) u hu
    refine hall us t (fun u hu => ?_)
    obtain ⟨i, hi, rfl⟩ := List.getElem_of_mem hu
    obtain ⟨y, _, e, _⟩ := h3 i (by omega) hi
    rw [e]
    rfl
theorem rec_eta (rec : ByteArray) : (⟨rec.data.toList.toArray⟩ : ByteArray) = rec := by
  cases rec
  simp
theorem JX.bdt {B gp gd : Nat} {s1 : JSt} {d : DSt} {rv : Value} {us : List Value} {w : World} (h : JX B gp gd s1 d rv us w) {s : JSt} (ag : Ag d s) :
    Calls Tryd.prog 16 #[.pointer (some ⟨gd, 0, none⟩)] w fun e w' => ∃ v, e = .returned v ∧ BO B gp gd rv us w s1 d.take rv us w' := by
  refine (h.dt ag).mono ?_
  rintro e w' ⟨v, rfl, h1, x, k⟩
  have hj := h.p.jkept k (fun e => (h.db gd (.inl rfl)).2 (.inl e.symm))
  exact ⟨v, rfl, x, k.mono (fun i _ e => .inr (.inl e)), fun i hi hb => hb.imp (hj i).1 id⟩
theorem JX.take_low {B gp gd : Nat} {s s' : JSt} {d : DSt} {rv : Value} {us : List Value} {w w' : World} (h : JX B gp gd s d rv us w) (h' : JW gp s' w') (hr : rowOf w' gp 4 = none) : ∀ k, bl gp gd rv us w' k → k < w.heap.size := fun k hk => by
  rcases hk with (e | e) | e
  · rw [e]; exact h.p.lt
  · rw [hr] at e; cases e
  · exact h.d.lt e
end Go.Proofs.YtljbmpnpbjnbkaaDoor
namespace Go.Proofs.YtljbmpnpbjnbkaaDoor
open Go.RowKit
set_option linter.unusedVariables false
set_option linter.unusedSimpArgs false
theorem mayJ_of {sz st L : Nat} (h : JMay sz st) (hL : L = st * sz) : MayJ (sz : Int) L := by
  have h1 := h.1.1
  have h2 := h.2.1
  have h3 := h.2.2
  have e : (L : Int) = (st : Int) * (sz : Int) := by rw [hL]; exact Int.natCast_mul _ _
  refine ⟨h.1, ?_, ?_, ?_⟩
  · rw [e]
    exact Int.mul_emod_left _ _
  · have := Nat.mul_le_mul_right sz (show 1 ≤ st by omega)
    rw [Nat.one_mul] at this
    omega
  · have := Nat.mul_le_mul_right sz (show st ≤ 4096 by omega)
    rw [← hL] at this
    have e2 : ((4096 * sz : Nat) : Int) = 4096 * (sz : Int) := Int.natCast_mul _ _
    omega
set_option maxRecDepth 100000 in
theorem str_to {w : World} {B n lc wn : Nat} {la : Option Addr} {xs : List Value} (h : w.ownsRow B 9 1 (.slice la n lc) n xs) (hw : wn ≤ n) (W : World) :
    (Instr.sliceAt 47 (.slice la n lc) none (some (.int .i64 (wn : Int))) none).run Tryd.prog W = .ok (.slice la wn lc) W := by
  have hc := own_room h
  have hs : ∀ W, (sizeOf (Tryd.prog.elem 47)).run Tryd.prog W = .ok 1 W := fun W => by kernel_rfl
  rw [run_sliceAt_slice (h := Tryd.underlying47), run_slice_h (ht := Tryd.underlying47) (h0 := by omega) (h2 := by omega), hs]
  rcases h.2 with ⟨e, h0⟩ | ⟨g, cap, cur, e, _⟩
  · cases e
    simp [sliced]
  · cases e
    simp [sliced, add_none]
theorem JM.rowL {B q : Nat} {N : Nat → Prop} {lv ev sv : Value} {laid ls Bk : List (List UInt8)} {ends : List Nat} {Y : Nat → Prop} {w : World} (h : JM B q N lv laid ev ends sv ls Bk Y w) {la : Option Addr} {lc wn : Nat} (hv : lv = .slice la laid.length lc) (hw : wn ≤ laid.length) : RowS w (.slice la wn lc) (laid.take wn) := by
  subst hv
  have hl : (laid.take wn).length = wn := by rw [List.length_take]; omega
  refine ⟨la, lc, by rw [hl], fun i hi => ?_⟩
  rw [hl] at hi
  obtain ⟨x, hx⟩ : ∃ x, laid[i]? = some x := ⟨_, List.getElem?_eq_getElem (by omega)⟩
  obtain ⟨g, cap, e, hc⟩ := own_at h.lr (u := .string ⟨x.toArray⟩) (by unfold TJ; rw [List.getElem?_map, hx]; rfl)
  cases e
  refine ⟨g, rfl, ?_⟩
  have : (laid.take wn)[i]? = some x := by rw [List.getElem?_take, if_pos hi]; exact hx
  obtain ⟨_, e⟩ := List.getElem?_eq_some_iff.1 this
  rw [e]
  exact hc
theorem JM.secAt {B q : Nat} {N : Nat → Prop} {lv ev sv : Value} {laid ls Bk : List (List UInt8)} {ends : List Nat} {Y : Nat → Prop} {w : World} (h : JM B q N lv laid ev ends sv ls Bk Y w) {i : Nat} {b : List UInt8} (hi : ls[i]? = some b) :
    ∃ bs y cap, sv = .slice (some ⟨bs, 0, none⟩) ls.length cap ∧ w.cell? ⟨bs, i * 2, none⟩ = some (.int .i64 (i : Int)) ∧ w.cell? ⟨bs, i * 2 + 1, none⟩ = some (.slice (some ⟨y, 0, none⟩) b.length b.length) ∧ w.heap[y]? = some (.cells (b.map U8).toArray 5 (0, 0)) ∧ bs ≠ q := by
  obtain ⟨us, u1, u2, u3⟩ := h.sr
  have hil := (List.getElem?_eq_some_iff.1 hi).1
  obtain ⟨u, hu⟩ : ∃ u, us[i]? = some u := ⟨_, List.getElem?_eq_getElem (by omega)⟩
  obtain ⟨y, _, e, hy⟩ := u3 i b u hi hu
  subst e
  obtain ⟨z1, z2⟩ := secCells_at us 0 i _ hu
  rcases u2.2 with ⟨_, h0⟩ | ⟨bs, cap, cur, e, _⟩
  · omega
  · have c1 := u2.cells (g := bs) (by rw [e]; rfl) _ _ z1
    have c2 := u2.cells (g := bs) (by rw [e]; rfl) _ _ z2
    rw [add_none, Nat.zero_add] at c1 c2
    rw [Nat.mul_comm]
    rw [Nat.zero_add] at c1
    exact ⟨bs, y, cap, e, c1, c2, hy, fun e9 => own_apart u2 h.img (by decide) (by rw [e, e9]; rfl)⟩
theorem JM.endAt {B q : Nat} {N : Nat → Prop} {lv ev sv : Value} {laid ls Bk : List (List UInt8)} {ends : List Nat} {Y : Nat → Prop} {w : World} (h : JM B q N lv laid ev ends sv ls Bk Y w) {j m : Nat} (hj : ends[j]? = some m) :
    ∃ eb cap, ev = .slice (some ⟨eb, 0, none⟩) ends.length cap ∧ w.cell? ⟨eb, j, none⟩ = some (.int .i64 (m : Int)) :=
  own_at h.er (by rw [List.getElem?_map, hj]; rfl)
/-- The image while the first sectors are laid into it. -/
structure BQ (sz st g : Nat) (lsA : List (List UInt8)) (i : Nat) (Bk : List (List UInt8)) : Prop where
  n : Bk.length = st
  l : ∀ x ∈ Bk, x.length = sz
  p : ∀ t, t < i → Bk[t]? = lsA[t]?
  r : ∀ (t : Nat) (b : List UInt8), i ≤ t → Bk[t]? = some b → rtJ sz g t b = none
theorem BK.q {sz st g : Nat} {Bk : List (List UInt8)} (h : BK sz st g Bk) (lsA : List (List UInt8)) : BQ sz st g lsA 0 Bk :=
  ⟨h.n, h.l, fun t ht => absurd ht (Nat.not_lt_zero _), fun t b _ hb => h.r t b hb⟩
theorem BQ.set {sz st g i : Nat} {lsA Bk : List (List UInt8)} {b : List UInt8} (h : BQ sz st g lsA i Bk) (hi : i < st) (hb : lsA[i]? = some b) (hl : b.length = sz) : BQ sz st g lsA (i + 1) (Bk.set i b) := by
  have hn := h.n
  refine ⟨by rw [List.length_set]; exact h.n, fun x hx => ?_, fun t ht => ?_, fun t x ht hx => ?_⟩
  · rcases List.mem_or_eq_of_mem_set hx with e | e
    · exact h.l x e
    · rw [e]; exact hl
  · by_cases e : t = i
    · subst e
      rw [List.getElem?_set_self (by omega), hb]
    · rw [List.getElem?_set_ne (fun e1 => e e1.symm)]
      exact h.p t (by omega)
  · rw [List.getElem?_set_ne (by omega)] at hx
    exact h.r t x (by omega) hx
theorem BQ.rows {sz st g N wn L : Nat} {lsA Bk laid : List (List UInt8)} {ends : List Nat} {d : DSt} (h : BQ sz st g lsA N Bk) (hz : JZ d laid ends lsA) (ht : d.taken = d.rooms.length) (h1 : d.size = sz) (h2 : d.gen = g) (hm : JMay sz st) (hL : L = st * sz)
    (hN : N ≤ lsA.length) (hNs : N ≤ st) (hw : wn ≤ ends.length) (hw1 : ∀ (j m : Nat), j < wn → ends[j]? = some m → m ≤ N) (hw2 : wn = ends.length ∨ ∃ m, ends[wn]? = some m ∧ N < m) : rowsOf (sz : Int) g L Bk.flatten = laid.take wn ∧ errJ (sz : Int) L = 0 := by
  have hMJ := mayJ_of hm hL
  have h5 : 512 ≤ sz ∧ sz ≤ 4096 := ⟨by have := hm.1.1; omega, by have := hm.1.2.1; omega⟩
  subst h1
  subst h2
  unfold rowsOf errJ scanJ
  rw [if_pos hMJ, if_pos hMJ, Int.toNat_natCast, hL, Nat.mul_div_cancel _ (by omega), ← h.n]
  exact ⟨hz.scan ht h5.2 N wn hN (by rw [h.n]; exact hNs) h.l h.p h.r hw hw1 hw2, rfl⟩
theorem BQ.bt {sz st g N L q : Nat} {lsA Bk : List (List UInt8)} (h : BQ sz st g lsA N Bk) (hL : L = st * sz) {W : World} (hq : W.heap[q]? = some (.cells (Bk.flatten.map U8).toArray 5 (0, 0))) : Bt W (.slice (some ⟨q, 0, none⟩) L L) Bk.flatten :=
  bt_of_blk hq (by rw [flat_lenB sz Bk h.l, h.n, hL])
theorem JZ.blen {d : DSt} {laid ls : List (List UInt8)} {ends : List Nat} (h : JZ d laid ends ls) {i : Nat} {b : List UInt8} (hb : ls[i]? = some b) : b.length = d.size := by
  obtain ⟨x, hx, rfl⟩ := h.se i b hb
  exact jsec_len _ _ _ _ (h.rl x (List.mem_of_getElem? hx))
end Go.Proofs.YtljbmpnpbjnbkaaDoor
