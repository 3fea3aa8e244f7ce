/- pack: Collect, endOf, footOf. -/
import Derived.Test.YtafdkfieajdeiaaDoorPS2
namespace Go.Proofs.YtafdkfieajdeiaaDoor
open Go.RowKit
set_option linter.unusedVariables false
set_option linter.unusedSimpArgs false
/-- Slots in memory. -/
def SlM (W : World) (v : Value) (l : List (Nat × Nat)) : Prop := OwnM W 34 2 v l.length (slotCells l)
theorem SlM.same {W W' : World} {v : Value} {l : List (Nat × Nat)} (h : SlM W v l) (k : Same W W') : SlM W' v l := OwnM.same h k
theorem SlM.nil (W : World) : SlM W (.slice none 0 0) [] := OwnM.nil _ _ _
theorem SlM.own {W : World} {B : Nat} {v : Value} {l : List (Nat × Nat)} (h : W.ownsRow B 34 2 v l.length (slotCells l)) : SlM W v l := OwnM.of h
theorem SlM.form {W : World} {v : Value} {l : List (Nat × Nat)} (h : SlM W v l) : ∃ a cap, v = .slice a l.length cap ∧ l.length ≤ cap := OwnM.form h
theorem SlM.at {W : World} {a : Option Addr} {n cap : Nat} {l : List (Nat × Nat)} (h : SlM W (.slice a n cap) l) (hp : 0 < l.length) : ∃ g, a = some ⟨g, 0, none⟩ ∧ ∀ i (hi : i < l.length), W.cell? ⟨g, i * 2, none⟩ = some (.int .i64 (l[i].1 : Nat)) ∧ W.cell? ⟨g, i * 2 + 1, none⟩ = some (.int .i64 (l[i].2 : Nat)) := by
  rcases h.ex with ⟨e, h0⟩ | ⟨g, cap', cur, fz, e, _⟩
  · omega
  · cases e
    exact ⟨g, rfl, fun i hi => ⟨OwnM.cells h rfl _ _ (slot_cell hi).1, OwnM.cells h rfl _ _ (slot_cell hi).2⟩⟩
theorem collect_any (bb : Nat) (v : Value) (L : List UInt8) (w : World) (hT : Tab w) (hb : Bt w v L) (hbx : w.heap[bb]? = some (.cells #[v] 32 (0, 0))) (hlen : L.length ≤ 262144) (h16 : 16 ≤ L.length) :
    Calls Tryd.prog 55 #[.func (.func 74) #[] #[.pointer (some ⟨bb, 0, none⟩)]] w fun e w' => ∃ u, e = .returned u ∧ SlM w' u (slotsA L) ∧ Same w w' := by
  have HA := hidden (appendSlots bb v L w hT hb hbx hlen h16)
  clear hT hb hbx
  go_enter Tryd.func55, Tryd.ntmps55
  go_wp2_with (go_at_call 73; refine (HA.out).mono ?_; rintro e w1 ⟨u, rfl, h1, k1⟩; have H1 := hidden h1; have K1 := hidden k1; clear h1 k1)
  go_returns
  exact ⟨_, rfl, SlM.own H1.out, K1.out⟩
theorem slotsL_fit (L : List UInt8) : ∀ f a, ∀ s ∈ slotsL L f a, s.1 + s.2 ≤ L.length
  | 0, _ => fun s hs => by simp [slotsL] at hs
  | f + 1, a => by
    intro s hs
    unfold slotsL at hs
    split at hs
    · simp at hs
    · rename_i t ht
      rcases List.mem_cons.1 hs with rfl | hs
      · exact (slotOf_some ht).2.2
      · exact slotsL_fit L f _ s hs
theorem endL_snoc (l : List (Nat × Nat)) (h : 0 < l.length) : endL l = (l[l.length - 1]).1 + (l[l.length - 1]).2 := by
  unfold endL
  rw [List.getLast?_eq_getElem?, List.getElem?_eq_getElem (by omega)]
set_option maxRecDepth 100000 in
set_option maxHeartbeats 2000000 in
theorem endOf_any (v : Value) (l : List (Nat × Nat)) (w : World) (h : SlM w v l) (hl : l.length ≤ 262144) (hs : ∀ s ∈ l, s.1 + s.2 ≤ 262144) : Calls Tryd.prog 63 #[v] w fun e w' => e = .returned (.int .i64 (endL l : Nat)) ∧ Same w w' := by
  obtain ⟨a, cap, rfl, _⟩ := h.form
  by_cases h0 : l.length = 0
  · obtain rfl := List.eq_nil_of_length_eq_zero h0
    clear h hs
    go_enter Tryd.func63, Tryd.ntmps63
    go_wp2
    go_returns
    exact ⟨rfl, Kept.refl _ _⟩
  · obtain ⟨g, rfl, hc⟩ := h.at (by omega)
    obtain ⟨c1, c2⟩ := hc (l.length - 1) (by omega)
    have hE := endL_snoc l (by omega)
    have hb := hs _ (List.getElem_mem (show l.length - 1 < l.length by omega))
    obtain ⟨x, hx⟩ : ∃ x, l[l.length - 1] = x := ⟨_, rfl⟩
    rw [hx] at c1 c2 hE hb
    obtain ⟨x1, x2⟩ := x
    simp only at c1 c2 hE hb
    rw [hE]
    obtain ⟨m, hm⟩ : ∃ m, l.length = m + 1 := ⟨l.length - 1, by omega⟩
    rw [hm] at c1 c2 ⊢
    rw [Nat.add_sub_cancel] at c1 c2
    have q1 : IntKind.i64.wrap (((m + 1 : Nat) : Int) - 1) = (m : Int) := by rw [IntKind.wrap_i64]; omega
    have q2 : (0 : Int) ≤ (m : Int) := by omega
    have q3 : (m : Int) < ((m + 1 : Nat) : Int) := by omega
    have q4 : (((m + 1 : Nat) : Int) == 0) = false := by simp; omega
    have q5 : ¬ (((m + 1 : Nat) : Int) = 0) := by omega
    have q6 : IntKind.i64.wrap ((x1 : Int) + (x2 : Int)) = (x1 : Int) + (x2 : Int) := by rw [IntKind.wrap_i64]; omega
    have q7 : ((m + 1 : Nat) : Int) - 1 = (m : Int) := by omega
    have q8 : wrap64 (m : Int) = (m : Int) := IntWalk.wrap64_in _ ⟨by omega, by omega⟩
    obtain ⟨M, hM⟩ : ∃ M, ((m + 1 : Nat) : Int) = M := ⟨_, rfl⟩
    rw [hM] at q1 q3 q4 q5 q7
    clear h hs hc hE hb hx hl h0 hm
    go_enter Tryd.func63, Tryd.ntmps63
    go_wp2
    go_returns
    exact ⟨by simp, same_alloc _ _⟩
theorem footOf_any (v : Value) (l : List (Nat × Nat)) (w : World) (hT : Tab w) (h : SlM w v l) (hl : l.length ≤ 262144) (hs : ∀ s ∈ l, s.1 + s.2 ≤ 262144) : Calls Tryd.prog 48 #[v] w fun e w' => e = .returned (.string ⟨(edgeB dfot l.length (endL l)).toArray⟩) ∧ Same w w' := by
  have HE := hidden (endOf_any v l w h hl hs)
  obtain ⟨a, cap, rfl, _⟩ := h.form
  have hel : endL l ≤ 262144 := by
    by_cases h0 : l.length = 0
    · obtain rfl := List.eq_nil_of_length_eq_zero h0
      decide
    · rw [endL_snoc l (by omega)]
      exact hs _ (List.getElem_mem _)
  have q1 : IntKind.u32.wrap (l.length : Int) = (l.length : Int) := by rw [IntKind.wrap_u32']; omega
  have q2 : IntKind.u32.wrap (endL l : Int) = (endL l : Int) := by rw [IntKind.wrap_u32']; omega
  have g := fun W (k : Same w W) => edge_any dfot rfl l.length (endL l) (by omega) (by omega) W (hT.same k)
  have G : Hid (∀ W, Same w W → Calls Tryd.prog 64 #[.string ⟨#[68, 70, 79, 84]⟩, .int .u32 l.length, .int .u32 (endL l)] W fun e w' => e = .returned (.string ⟨(edgeB dfot l.length (endL l)).toArray⟩) ∧ Same W w') := hidden g
  clear g h hs hT
  generalize endL l = E at *
  generalize l.length = n at *
  go_enter Tryd.func48, Tryd.ntmps48
  go_wp2_with (first
    | (go_at_call 63; refine (HE.out).mono ?_; rintro e w1 ⟨rfl, k1⟩; have K1 := hidden k1; clear k1)
    | (go_at_call 64; refine (G.out _ K1.out).mono ?_; rintro e w2 ⟨rfl, k2⟩; have K2 := hidden (K1.out.trans k2); clear k2))
  go_returns
  exact ⟨rfl, K2.out⟩
/-- What Scan tells of some bytes. -/
def scId (b : List UInt8) : Nat := num ((b.drop 4).take 4)
def scL (b : List UInt8) : List (Nat × Nat) := slotsA (b.take (b.length - 16))
def scR (size count : Int) (b : List UInt8) : Nat × List (Nat × Nat) × Bool × Int :=
  if PMay size count ∧ (b.length : Int) = size * count then
    (if b.take 16 = headB (scId b) count.toNat then (scId b, scL b, decide (b.drop (b.length - 16) = edgeB dfot (scL b).length (endL (scL b))), 0) else (0, [], false, 130))
  else (0, [], false, 1)
structure ScQ (size count : Int) (b : List UInt8) (w : World) (u : Value) (W : World) : Prop where
  out : ∃ v, u = .tuple #[.int .u32 (scR size count b).1, v, .bool (scR size count b).2.2.1, .int .i64 (scR size count b).2.2.2] ∧ SlM W v (scR size count b).2.1 ∧ Same w W
theorem scL_few (b : List UInt8) (h : b.length ≤ 262144) : (scL b).length ≤ 262144 ∧ ∀ s ∈ scL b, s.1 + s.2 ≤ 262144 := by
  have hl : (b.take (b.length - 16)).length ≤ 262144 := by rw [List.length_take]; omega
  exact ⟨Nat.le_trans (slotsL_len _ _ _) hl, fun s hs => Nat.le_trans (slotsL_fit _ _ _ s hs) hl⟩
end Go.Proofs.YtafdkfieajdeiaaDoor
