/- seq's branches: at; a map in memory: NewMap, Get, Put, Len, At. -/
import Derived.Test.YtelngbkbdihdnaaM4
/- seq's branches: find, at; a map in memory: NewMap, Get, Put, Len, At. -/
namespace Go.Proofs.Ytelngbkbdihdnaa
open Go.RowKit
set_option linter.unusedVariables false
/-- Are two keys the same? -/
def eqK (a b : ByteArray) : Bool := !ltS a b && !ltS b a
def lk (k : ByteArray) (l : List Kv) : Option Int := (l.find? (fun a => eqK a.1 k)).map (·.2)
theorem lk_none {k : ByteArray} {l : List Kv} (h : ∀ a ∈ l, eqK a.1 k = false) : l.find? (fun a => eqK a.1 k) = none := by
  rw [List.find?_eq_none]
  intro a ha
  rw [h a ha]
  simp
theorem eqK_lt {a b : ByteArray} (h : ltS a b = true) : eqK a b = false := by unfold eqK; rw [h]; rfl
theorem eqK_gt {a b : ByteArray} (h : ltS b a = true) : eqK a b = false := by unfold eqK; rw [h]; simp
theorem lk_left {k bk : ByteArray} {bv : Int} {l r : List Kv} (h : Srt (l ++ (bk, bv) :: r)) (hk : ltS k bk = true) : lk k (l ++ (bk, bv) :: r) = lk k l := by
  obtain ⟨_, _, _, h4, _⟩ := srt_split h
  unfold lk
  rw [List.find?_append]
  have : ((bk, bv) :: r).find? (fun a => eqK a.1 k) = none := lk_none (fun a ha => by
    rcases List.mem_cons.1 ha with rfl | ha
    · exact eqK_gt hk
    · exact eqK_gt (ordS.lt_lt hk (h4 a ha)))
  rw [this, Option.or_none]
theorem lk_right {k bk : ByteArray} {bv : Int} {l r : List Kv} (h : Srt (l ++ (bk, bv) :: r)) (hk : ltS bk k = true) : lk k (l ++ (bk, bv) :: r) = lk k r := by
  obtain ⟨_, _, h3, _, _⟩ := srt_split h
  unfold lk
  rw [List.find?_append, lk_none (l := l) (fun a ha => eqK_lt (ordS.lt_lt (h3 a ha) hk)), Option.none_or, List.find?_cons_of_neg (by rw [eqK_lt hk]; simp)]
theorem lk_here {k bk : ByteArray} {bv : Int} {l r : List Kv} (h : Srt (l ++ (bk, bv) :: r)) (h1 : ltS k bk = false) (h2 : ltS bk k = false) : lk k (l ++ (bk, bv) :: r) = some bv := by
  obtain ⟨_, _, h3, _, _⟩ := srt_split h
  unfold lk
  rw [List.find?_append, lk_none (l := l) (fun a ha => eqK_lt (ordS.lt_le (h3 a ha) h1)), Option.none_or, List.find?_cons_of_pos (by unfold eqK; rw [h1, h2]; rfl)]
  rfl
/-- How many items a pointer's tree has, as its count says. -/
def sizeAt (w : World) : Value → Nat
  | .pointer (some ⟨g, _, _⟩) => (intOf ((w.cell? ⟨g, 4, none⟩).getD undef)).toNat
  | _ => 0
theorem BT.sizeAt {w : World} : ∀ {t : T} {v : Value}, BT w v t → sizeAt w v = t.size
  | .nil, v, h => by rw [show v = .pointer none from h]; rfl
  | .node k x l r, v, ⟨g, lo, hi, e, hb, h1, h2⟩ => by
    have c4 : w.cell? ⟨g, 4, none⟩ = some (.int .i64 ((T.node k x l r).size : Nat)) := blk_cell hb
    subst e
    unfold Go.Proofs.Ytelngbkbdihdnaa.sizeAt
    simp only [c4, Option.getD_some]
    rfl
/-- What find tells. -/
structure Found (k : ByteArray) (l : List Kv) (u : Value) (w : World) : Prop where
  ex : (lk k l = none ∧ u = .pointer none) ∨ ∃ g y, lk k l = some y ∧ u = .pointer (some ⟨g, 0, none⟩) ∧ w.cell? ⟨g, 1, none⟩ = some (.int .i64 y)
set_option maxHeartbeats 4000000 in
set_option maxRecDepth 100000 in
theorem find_any (k : ByteArray) {t : T} {v : Value} {w : World} (h : BT w v t) (hS : Srt t.list) :
    Calls Try.prog 60 #[v, .string k] w fun e w' => (∃ u, e = .returned u ∧ Found k t.list u w) ∧ w = w' := by
  have H := hidden h
  have HS := hidden hS
  obtain ⟨p0, rfl⟩ := h.ptr
  clear h hS
  go_enter Try.func60, Try.ntmps60
  go_wp2
  go_loop [0] (fun b => ∃ t', BT w b t' ∧ Srt t'.list ∧ lk k t'.list = lk k t.list) (fun b => sizeAt w b)
  case atStart => exact ⟨t, H.out, HS.out, rfl⟩
  case round =>
    obtain ⟨t', hb, hs, hl⟩ := hrel
    cases t' with
    | nil =>
      obtain rfl := (show _ = Value.pointer none from hb)
      have HL := hidden hl
      clear hl hb hs
      go_wp2
      go_returns
      exact ⟨⟨_, rfl, ⟨Or.inl ⟨by rw [← HL.out]; rfl, rfl⟩⟩⟩, rfl⟩
    | node bk bv l r =>
      have hsz0 := hb.sizeAt
      obtain ⟨g, lo, hi, rfl, hbk, h1, h2⟩ := hb
      obtain ⟨pl, rfl⟩ := h1.ptr
      obtain ⟨ph, rfl⟩ := h2.ptr
      obtain ⟨c0, c1, c2, c3⟩ := BT.cells hbk
      obtain ⟨s1, s2, _⟩ := srt_split hs
      have SZ : Hid (sizeAt w (.pointer (some ⟨g, 0, none⟩)) = l.size + 1 + r.size) := hsz0
      have HH := hidden (And.intro h1 h2)
      have HLS := hidden hs
      have HLL := hidden hl
      have S12 := hidden (And.intro s1 s2)
      clear hbk h1 h2 hs hl s1 s2 hsz0
      cases hlt : ltS k bk
      · cases hgt : ltS bk k
        · have HCMP : Hid (∀ W, Calls Try.prog 72 #[.string k, .string bk] W fun e w' => e = .returned (.int .i64 0) ∧ W = w') := fun W => by
            have := cmp_str k bk W
            simpa [hlt, hgt] using this
          go_wp2_with (go_at_call 72; go_must (refine (HCMP.out _).mono ?_; rintro e w1 ⟨rfl, rfl⟩))
          go_returns
          exact ⟨⟨_, rfl, ⟨Or.inr ⟨g, bv, by rw [← HLL.out]; exact lk_here HLS.out hlt hgt, rfl, c1⟩⟩⟩, rfl⟩
        · have HCMP : Hid (∀ W, Calls Try.prog 72 #[.string k, .string bk] W fun e w' => e = .returned (.int .i64 1) ∧ W = w') := fun W => by
            have := cmp_str k bk W
            simpa [hlt, hgt] using this
          go_wp2_with (go_at_call 72; go_must (refine (HCMP.out _).mono ?_; rintro e w1 ⟨rfl, rfl⟩))
          go_round
          case rel => exact ⟨r, HH.out.2, S12.out.2, by rw [← HLL.out]; exact (lk_right HLS.out hgt).symm⟩
          case measure => have e1 := HH.out.2.sizeAt; have e2 := SZ.out; simp [e1, e2] <;> omega
      · have HCMP : Hid (∀ W, Calls Try.prog 72 #[.string k, .string bk] W fun e w' => e = .returned (.int .i64 (-1)) ∧ W = w') := fun W => by
          have := cmp_str k bk W
          simpa [hlt] using this
        go_wp2_with (go_at_call 72; go_must (refine (HCMP.out _).mono ?_; rintro e w1 ⟨rfl, rfl⟩))
        go_round
        case rel => exact ⟨l, HH.out.1, S12.out.1, by rw [← HLL.out]; exact (lk_left HLS.out hlt).symm⟩
        case measure => have e1 := HH.out.1.sizeAt; have e2 := SZ.out; simp [e1, e2] <;> omega
end Go.Proofs.Ytelngbkbdihdnaa
namespace Go.Proofs.Ytelngbkbdihdnaa
open Go.RowKit
set_option linter.unusedVariables false
theorem list_at_l {l r : List Kv} {a : Kv} {i : Nat} (h : i < l.length) : (l ++ a :: r)[i]? = l[i]? := List.getElem?_append_left h
theorem list_at_m {l r : List Kv} {a : Kv} : (l ++ a :: r)[l.length]? = some a := by rw [List.getElem?_append_right (Nat.le_refl _)]; simp
theorem list_at_r {l r : List Kv} {a : Kv} {i : Nat} (h : l.length < i) : (l ++ a :: r)[i]? = r[i - (l.length + 1)]? := by
  rw [List.getElem?_append_right (by omega), show i - l.length = (i - (l.length + 1)) + 1 by omega, List.getElem?_cons_succ]
set_option maxHeartbeats 4000000 in
set_option maxRecDepth 100000 in
theorem at_any (i : Nat) (a : ByteArray) (y : Int) {t : T} {v : Value} {w : World} (h : BT w v t) (hi : t.list[i]? = some (a, y)) (hs : t.size ≤ 1125899906842624) :
    Calls Try.prog 59 #[v, .int .i64 i] w fun e w' => e = .returned (It a y) ∧ Same w w' := by
  have H := hidden h
  have HI := hidden hi
  obtain ⟨p0, rfl⟩ := h.ptr
  clear h hi
  go_enter Try.func59, Try.ntmps59
  go_wp2
  go_loop [0, 1] (fun b iv => ∃ (t' : T) (j : Nat), BT w b t' ∧ iv = .int .i64 j ∧ t'.list[j]? = some (a, y) ∧ t'.size ≤ 1125899906842624) (fun b iv => sizeAt w b)
  case atStart => exact ⟨t, i, H.out, rfl, HI.out, hs⟩
  case round =>
    obtain ⟨t', j, hb, rfl, hj, hs'⟩ := hrel
    cases t' with
    | nil => simp [T.list] at hj
    | node bk bv l r =>
      have hsz0 := hb.sizeAt
      obtain ⟨g, lo, hi, rfl, hbk, h1, h2⟩ := hb
      obtain ⟨pl, rfl⟩ := h1.ptr
      obtain ⟨ph, rfl⟩ := h2.ptr
      have hbk2 := blk_alloc hbk
      have hgl := blk_lt hbk
      have a0 : ∀ o, (w.alloc o).cell? ⟨g, 0, none⟩ = some (.string bk) := fun o => (BT.cells (hbk2 o)).1
      have a1 : ∀ o, (w.alloc o).cell? ⟨g, 1, none⟩ = some (.int .i64 bv) := fun o => (BT.cells (hbk2 o)).2.1
      have a2 : ∀ o, (w.alloc o).cell? ⟨g, 2, none⟩ = some (.pointer pl) := fun o => (BT.cells (hbk2 o)).2.2.1
      have a3 : ∀ o, (w.alloc o).cell? ⟨g, 3, none⟩ = some (.pointer ph) := fun o => (BT.cells (hbk2 o)).2.2.2
      have SZ : Hid (sizeAt w (.pointer (some ⟨g, 0, none⟩)) = l.size + 1 + r.size) := hsz0
      have hs2 : l.size + 1 + r.size ≤ 1125899906842624 := hs'
      have HH := hidden (And.intro h1 h2)
      have HL : Hid (∀ o, BT (w.alloc o) (.pointer pl) l) := fun o => h1.same (same_alloc w o)
      have HJ : Hid ((l.list ++ (bk, bv) :: r.list)[j]? = some (a, y)) := hj
      have ell := T.list_len l
      have hne1 : g ≠ w.heap.size := Nat.ne_of_lt hgl
      clear hbk hbk2 h1 h2 hj hs' hsz0
      by_cases hjl : j = l.size
      · have q1 : ((j : Int) == (l.size : Int)) = true := by rw [beq_iff_eq]; omega
        have q2 : (j : Int) = (l.size : Int) := by omega
        have hh := HJ.out
        rw [hjl, ← ell, list_at_m] at hh
        simp only [Option.some.injEq, Prod.mk.injEq] at hh
        obtain ⟨rfl, rfl⟩ := hh
        have HQ := hidden q2
        clear q2
        go_wp2_with (go_at_call 56; go_must (refine (size_any (HL.out _)).mono ?_; rintro e w1 ⟨rfl, rfl⟩))
        exact bodyPost_ret (v := It bk bv) (by simp [results, Try.results59, go_sem]) rfl ⟨rfl, same_alloc w _⟩
      · have q1 : ((j : Int) == (l.size : Int)) = false := by rw [beq_eq_false_iff_ne]; omega
        by_cases hlt : j < l.size
        · have q2 : (j : Int) < (l.size : Int) := by omega
          have hh := HJ.out
          rw [list_at_l (by omega)] at hh
          have HJ2 := hidden hh
          clear hh
          go_wp2_with (go_at_call 56; go_must (refine (size_any (HL.out _)).mono ?_; rintro e w1 ⟨rfl, rfl⟩))
          go_round
          case rel => exact ⟨l, j, HH.out.1, rfl, HJ2.out, by omega⟩
          case measure => have e1 := HH.out.1.sizeAt; have e2 := SZ.out; simp [e1, e2] <;> omega
        · have q2 : ¬ (j : Int) < (l.size : Int) := by omega
          have hh := HJ.out
          rw [list_at_r (by omega), ell] at hh
          have HJ2 := hidden hh
          have q3 : ((j : Int) - ((l.size : Int) + 1)) = ((j - (l.size + 1) : Nat) : Int) := by omega
          have hjb : j < l.size + 1 + r.size := by
            obtain ⟨hlt2, _⟩ := List.getElem?_eq_some_iff.1 HJ.out
            have := T.list_len r
            simp at hlt2
            omega
          clear hh
          go_wp2_with (go_at_call 56; go_must (refine (size_any (HL.out _)).mono ?_; rintro e w1 ⟨rfl, rfl⟩))
          go_round
          case rel => exact ⟨r, j - (l.size + 1), HH.out.2, by first | (rw [← q3]) | (rw [q3]) | go_num, HJ2.out, by omega⟩
          case measure => have e1 := HH.out.2.sizeAt; have e2 := SZ.out; simp [e1, e2] <;> omega
/-- A map in memory. -/
structure MP (B g : Nat) (l : List Kv) (w : World) : Prop where
  ex : ∃ v t, w.heap[g]? = some (.cells #[v] 86 (0, 0)) ∧ BT w v t ∧ t.list = l
  st : Srt l
  lg : B ≤ g
theorem MP.kept {B g : Nat} {l : List Kv} {w w' : World} {S : Nat → Prop} (h : MP B g l w) (k : Kept S w w') (hg : ¬ S g) (hb : ∀ i cs, w.heap[i]? = some (.cells cs 99 (0, 0)) → ¬ S i) : MP B g l w' := by
  obtain ⟨v, t, h1, h2, h3⟩ := h.ex
  exact ⟨⟨v, t, blk_kept k hg h1, h2.kept k hb, h3⟩, h.st, h.lg⟩
theorem MP.same {B g : Nat} {l : List Kv} {w w' : World} (h : MP B g l w) (k : Same w w') : MP B g l w' := h.kept k (fun h => h) (fun _ _ _ h => h)
theorem MP.lt {B g : Nat} {l : List Kv} {w : World} (h : MP B g l w) : g < w.heap.size := by
  obtain ⟨v, t, h1, _⟩ := h.ex
  exact blk_lt h1
/-- What is not of the map's types is not the map's. -/
theorem MP.ng {B g : Nat} {l : List Kv} {w : World} (h : MP B g l w) {i : Nat} {cs : Array Value} {e : TypeId} (hi : w.heap[i]? = some (.cells cs e (0, 0))) (he : e ≠ 86) : i ≠ g := by
  obtain ⟨v, t, h1, _⟩ := h.ex
  rintro rfl
  rw [h1] at hi
  simp at hi
  exact he hi.2.symm
set_option maxHeartbeats 1000000 in
set_option maxRecDepth 100000 in
theorem newM_any (w : World) : Calls Try.prog 22 #[] w fun e w' => ∃ g, e = .returned (.pointer (some ⟨g, 0, none⟩)) ∧ w.heap.size ≤ g ∧ MP w.heap.size g [] w' ∧ Same w w' := by
  go_enter Try.func22, Try.ntmps22
  go_wp2
  go_returns
  exact ⟨w.heap.size, rfl, Nat.le_refl _, ⟨⟨_, .nil, heap_alloc_new w _, rfl, rfl⟩, List.Pairwise.nil, Nat.le_refl _⟩, same_alloc _ _⟩
set_option maxHeartbeats 1000000 in
set_option maxRecDepth 100000 in
theorem items_any {g : Nat} {p : Option Addr} {w : World} (h : w.cell? ⟨g, 0, none⟩ = some (.pointer p)) : Calls Try.prog 55 #[.pointer (some ⟨g, 0, none⟩)] w fun e w' => e = .returned (.pointer p) ∧ w = w' := by
  go_enter Try.func55, Try.ntmps55
  go_wp2
  go_returns
  exact ⟨rfl, rfl⟩
set_option maxHeartbeats 1000000 in
set_option maxRecDepth 100000 in
theorem itemsNil (w : World) : Calls Try.prog 55 #[.pointer none] w fun e w' => e = .returned (.pointer none) ∧ w = w' := by
  go_enter Try.func55, Try.ntmps55
  go_wp2
  go_returns
  exact ⟨rfl, rfl⟩
set_option maxHeartbeats 1000000 in
set_option maxRecDepth 100000 in
theorem lenM_any {B g : Nat} {l : List Kv} {w : World} (h : MP B g l w) : Calls Try.prog 27 #[.pointer (some ⟨g, 0, none⟩)] w fun e w' => e = .returned (.int .i64 l.length) ∧ w = w' := by
  obtain ⟨v, t, h1, h2, rfl⟩ := h.ex
  obtain ⟨p, rfl⟩ := h2.ptr
  have HI := hidden (items_any (blk_cell h1 : w.cell? ⟨g, 0, none⟩ = some (.pointer p)))
  have HS := hidden (size_any h2)
  rw [← T.list_len] at HS
  clear h h1 h2
  go_enter Try.func27, Try.ntmps27
  go_wp2_with (first
    | (go_at_call 55; go_must (refine (HI.out).mono ?_; rintro e w1 ⟨rfl, rfl⟩))
    | (go_at_call 56; go_must (refine (HS.out).mono ?_; rintro e w1 ⟨rfl, rfl⟩)))
  go_returns
  exact ⟨rfl, rfl⟩
set_option maxHeartbeats 1000000 in
set_option maxRecDepth 100000 in
theorem lenNil (w : World) : Calls Try.prog 27 #[.pointer none] w fun e w' => e = .returned (.int .i64 0) ∧ w = w' := by
  have HS := hidden (size_any (show BT w (.pointer none) .nil from rfl))
  go_enter Try.func27, Try.ntmps27
  go_wp2_with (first
    | (go_at_call 55; go_must (refine (itemsNil _).mono ?_; rintro e w1 ⟨rfl, rfl⟩))
    | (go_at_call 56; go_must (refine (HS.out).mono ?_; rintro e w1 ⟨rfl, rfl⟩)))
  go_returns
  exact ⟨rfl, rfl⟩
set_option maxHeartbeats 1000000 in
set_option maxRecDepth 100000 in
theorem get_of {l : List Kv} {m p : Option Addr} {t : T} {w : World} (k : ByteArray) (HI : Hid (Calls Try.prog 55 #[.pointer m] w fun e w' => e = .returned (.pointer p) ∧ w = w')) (h2 : BT w (.pointer p) t) (hl : t.list = l) (hs : Srt l) : Calls Try.prog 30 #[.pointer m, .string k] w fun e w' => e = .returned (.tuple #[.int .i64 ((lk k l).getD 0), .bool (lk k l).isSome]) ∧ w = w' := by
  subst hl
  have HF := hidden (find_any k h2 hs)
  clear h2 hs
  go_enter Try.func30, Try.ntmps30
  go_wp2_with (go_at_call 55; go_must (refine (HI.out).mono ?_; rintro e w1 ⟨rfl, rfl⟩))
  go_at_call 60
  refine (HF.out).mono ?_
  rintro e w1 ⟨⟨u, rfl, ⟨hu⟩⟩, rfl⟩
  rcases hu with ⟨hn, rfl⟩ | ⟨g, y, hy, rfl, hc⟩
  · go_wp2
    go_returns
    exact ⟨by rw [hn]; rfl, rfl⟩
  · go_wp2
    go_returns
    exact ⟨by rw [hy]; rfl, rfl⟩
theorem get_any {B g : Nat} {l : List Kv} {w : World} (h : MP B g l w) (k : ByteArray) : Calls Try.prog 30 #[.pointer (some ⟨g, 0, none⟩), .string k] w fun e w' => e = .returned (.tuple #[.int .i64 ((lk k l).getD 0), .bool (lk k l).isSome]) ∧ w = w' := by
  obtain ⟨v, t, h1, h2, h3⟩ := h.ex
  obtain ⟨p, rfl⟩ := h2.ptr
  exact get_of k (hidden (items_any (blk_cell h1))) h2 h3 h.st
theorem getNil (k : ByteArray) (w : World) : Calls Try.prog 30 #[.pointer none, .string k] w fun e w' => e = .returned (.tuple #[.int .i64 0, .bool false]) ∧ w = w' :=
  get_of (l := []) (t := .nil) k (hidden (itemsNil w)) rfl rfl List.Pairwise.nil
end Go.Proofs.Ytelngbkbdihdnaa
