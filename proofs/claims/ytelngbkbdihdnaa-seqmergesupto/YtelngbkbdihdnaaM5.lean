/- seq's branches: find, at; a map in memory: NewMap, Get, Put, Len, At. -/
import Derived.Test.YtelngbkbdihdnaaM4
namespace Go.Proofs.Ytelngbkbdihdnaa
open Go.RowKit
set_option linter.unusedVariables false
/-- Are two keys the same? -/
def eqK (a b : ByteArray) : Bool := !ltS a b && !ltS b a
def lk (k : ByteArray) (l : List Kv) : Option Int := (l.find? (fun a => eqK a.1 k)).map (·.2)
theorem lk_none {k : ByteArray} {l : List Kv} (h : ∀ a ∈ l, eqK a.1 k = false) : l.find? (fun a => eqK a.1 k) = none := by
  rw [List.find?_eq_none]
  intro a ha
  rw [h a ha]
  simp
theorem eqK_lt {a b : ByteArray} (h : ltS a b = true) : eqK a b = false := by unfold eqK; rw [h]; rfl
theorem eqK_gt {a b : ByteArray} (h : ltS b a = true) : eqK a b = false := by unfold eqK; rw [h]; simp
theorem lk_left {k bk : ByteArray} {bv : Int} {l r : List Kv} (h : Srt (l ++ (bk, bv) :: r)) (hk : ltS k bk = true) : lk k (l ++ (bk, bv) :: r) = lk k l := by
  obtain ⟨_, _, _, h4, _⟩ := srt_split h
  unfold lk
  rw [List.find?_append]
  have : ((bk, bv) :: r).find? (fun a => eqK a.1 k) = none := lk_none (fun a ha => by
    rcases List.mem_cons.1 ha with rfl | ha
    · exact eqK_gt hk
    · exact eqK_gt (ordS.lt_lt hk (h4 a ha)))
  rw [this, Option.or_none]
theorem lk_right {k bk : ByteArray} {bv : Int} {l r : List Kv} (h : Srt (l ++ (bk, bv) :: r)) (hk : ltS bk k = true) : lk k (l ++ (bk, bv) :: r) = lk k r := by
  obtain ⟨_, _, h3, _, _⟩ := srt_split h
  unfold lk
  rw [List.find?_append, lk_none (l := l) (fun a ha => eqK_lt (ordS.lt_lt (h3 a ha) hk)), Option.none_or, List.find?_cons_of_neg (by rw [eqK_lt hk]; simp)]
theorem lk_here {k bk : ByteArray} {bv : Int} {l r : List Kv} (h : Srt (l ++ (bk, bv) :: r)) (h1 : ltS k bk = false) (h2 : ltS bk k = false) : lk k (l ++ (bk, bv) :: r) = some bv := by
  obtain ⟨_, _, h3, _, _⟩ := srt_split h
  unfold lk
  rw [List.find?_append, lk_none (l := l) (fun a ha => eqK_lt (ordS.lt_le (h3 a ha) h1)), Option.none_or, List.find?_cons_of_pos (by unfold eqK; rw [h1, h2]; rfl)]
  rfl
/-- How many items a pointer's tree has, as its count says. -/
def sizeAt (w : World) : Value → Nat
  | .pointer (some ⟨g, _, _⟩) => (intOf ((w.cell? ⟨g, 4, none⟩).getD undef)).toNat
  | _ => 0
theorem BT.sizeAt {w : World} : ∀ {t : T} {v : Value}, BT w v t → sizeAt w v = t.size
  | .nil, v, h => by rw [show v = .pointer none from h]; rfl
  | .node k x l r, v, ⟨g, lo, hi, e, hb, h1, h2⟩ => by
    have c4 : w.cell? ⟨g, 4, none⟩ = some (.int .i64 ((T.node k x l r).size : Nat)) := blk_cell hb
    subst e
    unfold Go.Proofs.Ytelngbkbdihdnaa.sizeAt
    simp only [c4, Option.getD_some]
    rfl
/-- What find tells. -/
structure Found (k : ByteArray) (l : List Kv) (u : Value) (w : World) : Prop where
  ex : (lk k l = none ∧ u = .pointer none) ∨ ∃ g y, lk k l = some y ∧ u = .pointer (some ⟨g, 0, none⟩) ∧ w.cell? ⟨g, 1, none⟩ = some (.int .i64 y)
set_option maxHeartbeats 4000000 in
set_option maxRecDepth 100000 in
theorem find_any (k : ByteArray) {t : T} {v : Value} {w : World} (h : BT w v t) (hS : Srt t.list) :
    Calls Try.prog 60 #[v, .string k] w fun e w' => (∃ u, e = .returned u ∧ Found k t.list u w) ∧ w = w' := by
  have H := hidden h
  have HS := hidden hS
  obtain ⟨p0, rfl⟩ := h.ptr
  clear h hS
  go_enter Try.func60, Try.ntmps60
  go_wp2
  go_loop [0] (fun b => ∃ t', BT w b t' ∧ Srt t'.list ∧ lk k t'.list = lk k t.list) (fun b => sizeAt w b)
  case atStart => exact ⟨t, H.out, HS.out, rfl⟩
  case round =>
    obtain ⟨t', hb, hs, hl⟩ := hrel
    cases t' with
    | nil =>
      obtain rfl := (show _ = Value.pointer none from hb)
      have HL := hidden hl
      clear hl hb hs
      go_wp2
      go_returns
      exact ⟨⟨_, rfl, ⟨Or.inl ⟨by rw [← HL.out]; rfl, rfl⟩⟩⟩, rfl⟩
    | node bk bv l r =>
      have hsz0 := hb.sizeAt
      obtain ⟨g, lo, hi, rfl, hbk, h1, h2⟩ := hb
      obtain ⟨pl, rfl⟩ := h1.ptr
      obtain ⟨ph, rfl⟩ := h2.ptr
      obtain ⟨c0, c1, c2, c3⟩ := BT.cells hbk
      obtain ⟨s1, s2, _⟩ := srt_split hs
      have SZ : Hid (sizeAt w (.pointer (some ⟨g, 0, none⟩)) = l.size + 1 + r.size) := hsz0
      have HH := hidden (And.intro h1 h2)
      have HLS := hidden hs
      have HLL := hidden hl
      have S12 := hidden (And.intro s1 s2)
      clear hbk h1 h2 hs hl s1 s2 hsz0
      cases hlt : ltS k bk
      · cases hgt : ltS bk k
        · have HCMP : Hid (∀ W, Calls Try.prog 72 #[.string k, .string bk] W fun e w' => e = .returned (.int .i64 0) ∧ W = w') := fun W => by
            have := cmp_str k bk W
            simpa [hlt, hgt] using this
          go_wp2_with (go_at_call 72; go_must (refine (HCMP.out _).mono ?_; rintro e w1 ⟨rfl, rfl⟩))
          go_returns
          exact ⟨⟨_, rfl, ⟨Or.inr ⟨g, bv, by rw [← HLL.out]; exact lk_here HLS.out hlt hgt, rfl, c1⟩⟩⟩, rfl⟩
        · have HCMP : Hid (∀ W, Calls Try.prog 72 #[.string k, .string bk] W fun e w' => e = .returned (.int .i64 1) ∧ W = w') := fun W => by
            have := cmp_str k bk W
            simpa [hlt, hgt] using this
          go_wp2_with (go_at_call 72; go_must (refine (HCMP.out _).mono ?_; rintro e w1 ⟨rfl, rfl⟩))
          go_round
          case rel => exact ⟨r, HH.out.2, S12.out.2, by rw [← HLL.out]; exact (lk_right HLS.out hgt).symm⟩
          case measure => have e1 := HH.out.2.sizeAt; have e2 := SZ.out; simp [e1, e2] <;> omega
      · have HCMP : Hid (∀ W, Calls Try.prog 72 #[.string k, .string bk] W fun e w' => e = .returned (.int .i64 (-1)) ∧ W = w') := fun W => by
          have := cmp_str k bk W
          simpa [hlt] using this
        go_wp2_with (go_at_call 72; go_must (refine (HCMP.out _).mono ?_; rintro e w1 ⟨rfl, rfl⟩))
        go_round
        case rel => exact ⟨l, HH.out.1, S12.out.1, by rw [← HLL.out]; exact (lk_left HLS.out hlt).symm⟩
        case measure => have e1 := HH.out.1.sizeAt; have e2 := SZ.out; simp [e1, e2] <;> omega
end Go.Proofs.Ytelngbkbdihdnaa
