/- pack: the document's sum and slot. -/
import Derived.Test.YtafdkfieajdeiaaDoorKR1
import Derived.Test.YtafdkfieajdeiaaDoorShS
namespace Go.Proofs.YtafdkfieajdeiaaDoor
open Go.RowKit
set_option linter.unusedVariables false

theorem Bt.drew {w : World} {v : Value} {l : List UInt8} (h : Bt w v l) : Bt w.drew v l := h.same ((Kept.refl _ _).drew)
theorem Bt.row {w : World} {g : Nat} {l : List UInt8} (h : w.heap[g]? = some (.cells (l.map U8).toArray 5 (0, 0))) : Bt w (.slice (some ⟨g, 0, none⟩) l.length l.length) l := by
  refine ⟨_, _, rfl, Nat.le_refl _, fun _ => ⟨g, 0, rfl, fun j hj => ?_⟩⟩
  rw [blk_cell h]
  simp [hj]
set_option maxHeartbeats 1000000 in
set_option maxRecDepth 100000 in
theorem sum_any (v : Value) (l : List UInt8) (w : World) (hb : Bt w v l) (hl : l.length ≤ 281474976710656) : Calls Tryd.prog 50 #[v] w fun e w' => ∃ g, e = .returned (.slice (some ⟨g, 0, none⟩) 4 4) ∧ Bt w' (.slice (some ⟨g, 0, none⟩) 4 4) (be 4 (crc l)) ∧ w.heap.size ≤ g ∧ w'.heap[g]? = some (.cells ((be 4 (crc l)).map U8).toArray 5 (0, 0)) ∧ Same w w' := by
  have hc := hb.text
  have g1 := refCrc_any ⟨l.toArray⟩ w (by rw [ba_size]; exact hl)
  rw [ba_list] at g1
  have hlt := crc_lt l
  have g2 := fun W => high_any (crc l) (by omega) W
  have hw : IntKind.u64.wrap ((crc l : Nat) : Int) = ((crc l : Nat) : Int) := by rw [IntKind.wrap_u64]; omega
  have G1 := hidden g1
  have G2 := hidden g2
  generalize crc l = c at *
  obtain ⟨ao, cap, rfl, _⟩ := hb.form
  clear hb g1 g2
  go_enter Tryd.func50, Tryd.ntmps50
  go_wp2_with (first
    | (go_at_call 71; refine (G1.out).mono ?_; rintro e w1 ⟨rfl, rfl⟩)
    | (go_at_call 49; refine (G2.out _).mono ?_; rintro e w2 ⟨rfl, hr, k2⟩))
  go_returns
  have := Bt.row hr
  rw [be_length] at this
  exact ⟨_, rfl, this, Nat.le_refl _, hr, k2⟩
theorem slot_eq (L : List UInt8) (a : Nat) (h : a + 8 ≤ L.length) (h1 : 1 ≤ num ((L.drop a).take 4)) (h2 : num ((L.drop a).take 4) ≤ L.length - (a + 8)) :
    slotOf L a = if (be 4 (crc ((L.drop a).take 4 ++ (L.drop (a + 8)).take (num ((L.drop a).take 4)))) == (L.drop (a + 4)).take 4) = true then some (a + 8, num ((L.drop a).take 4)) else none := by
  unfold slotOf
  have h4 : ((L.drop a).take 4).length = 4 := by simp; omega
  have hcl : ((L.drop (a + 8)).take (num ((L.drop a).take 4))).length = num ((L.drop a).take 4) := by simp; omega
  have e8 : (L.drop a).take 8 = (L.drop a).take 4 ++ (L.drop (a + 4)).take 4 := by
    rw [show (8 : Nat) = 4 + 4 from rfl, List.take_add, List.drop_drop]
  have eb : slotB ((L.drop (a + 8)).take (num ((L.drop a).take 4))) = (L.drop a).take 4 ++ be 4 (crc ((L.drop a).take 4 ++ (L.drop (a + 8)).take (num ((L.drop a).take 4)))) := by
    unfold slotB
    rw [hcl, be_num 4 _ h4]
  rw [eb, e8]
  simp only [h, h1, h2, true_and, List.append_cancel_left_eq, beq_iff_eq]
  by_cases e : be 4 (crc ((L.drop a).take 4 ++ (L.drop (a + 8)).take (num ((L.drop a).take 4)))) = (L.drop (a + 4)).take 4
  · rw [if_pos e, if_pos e.symm]
  · rw [if_neg e, if_neg (fun h => e h.symm)]
/-- What the document's slot tells. -/
structure SlotP (r : Option (Nat × Nat)) (w : World) (e : Ending) (w' : World) : Prop where
  ex : ∃ n : Nat, e = .returned (.tuple #[.int .i64 n, .bool r.isSome]) ∧ (∀ q, r = some q → q.2 = n) ∧ Same w w'
set_option maxHeartbeats 4000000 in
set_option maxRecDepth 100000 in
theorem slotR_any (v : Value) (l : List UInt8) (a E : Nat) (w : World) (hb : Bt w v l) (hl : l.length ≤ 140737488355328) (hE : E ≤ l.length) (ha : a ≤ 9223372036854775000) :
    Calls Tryd.prog 58 #[v, .int .i64 a, .int .i64 E] w fun e w' => SlotP (slotOf (l.take E) a) w e w' := by
  obtain ⟨ao, cap, rfl, hcap⟩ := hb.form
  obtain ⟨L, hL⟩ : ∃ L, L = l.take E := ⟨_, rfl⟩
  have hLl : L.length = E := by rw [hL, List.length_take]; omega
  rw [← hL]
  by_cases h8 : a + 8 ≤ E
  · have sub : ∀ i j, i ≤ j → j ≤ E → ∀ x y : Int, x = (i : Int) → y = (j : Int) → ∃ p, (∀ W, (Instr.sliceAt 32 (.slice ao l.length cap) (some (.int .i64 x)) (some (.int .i64 y)) none).run Tryd.prog W = .ok (.slice p (j - i) (cap - i)) W) ∧ ∀ W, Same w W → Bt W (.slice p (j - i) (cap - i)) ((L.drop i).take (j - i)) := fun i j hij hjE x y hx hy => by
      obtain ⟨p, h1, h2⟩ := hb.sub (i := i) (j := j) hij (by omega) x y hx hy
      refine ⟨p, h1, fun W k => ?_⟩
      have := h2 W k
      rw [show l.take j = L.take j by rw [hL, List.take_take, Nat.min_eq_left hjE], take_drop_sub L i j hij] at this
      exact this
    obtain ⟨p1, s1, b1⟩ := sub a (a + 4) (by omega) (by omega) (a : Int) ((a : Int) + 4) rfl (by omega)
    rw [show a + 4 - a = 4 by omega] at s1 b1
    have H4l : ((L.drop a).take 4).length = 4 := by simp; omega
    have gN := fun W (k : Same w W) => number_any _ _ W (b1 W k) (by rw [H4l]; decide)
    have hnlt := num_lt ((L.drop a).take 4)
    rw [H4l] at hnlt
    have hn32 : num ((L.drop a).take 4) < 4294967296 := hnlt
    have HN := hidden (gN w (Kept.refl _ _))
    by_cases hr : 1 ≤ num ((L.drop a).take 4) ∧ num ((L.drop a).take 4) ≤ E - (a + 8)
    · have hso := slot_eq L a (by omega) hr.1 (by rw [hLl]; exact hr.2)
      obtain ⟨hr1, hr2⟩ := hr
      obtain ⟨p2, s2, b2⟩ := sub (a + 8) (a + 8 + num ((L.drop a).take 4)) (by omega) (by omega) ((a : Int) + 8) ((a : Int) + 8 + (num ((L.drop a).take 4) : Nat)) (by omega) (by omega)
      rw [show a + 8 + num ((L.drop a).take 4) - (a + 8) = num ((L.drop a).take 4) by omega] at s2 b2
      obtain ⟨p3, s3, b3⟩ := sub (a + 4) (a + 8) (by omega) (by omega) ((a : Int) + 4) ((a : Int) + 8) (by omega) (by omega)
      rw [show a + 8 - (a + 4) = 4 by omega] at s3 b3
      have hcl : ((L.drop (a + 8)).take (num ((L.drop a).take 4))).length = num ((L.drop a).take 4) := by simp; omega
      rw [hso]
      generalize (L.drop (a + 8)).take (num ((L.drop a).take 4)) = C at *
      generalize hH4 : (L.drop a).take 4 = H4 at *
      generalize (L.drop (a + 4)).take 4 = H2 at *
      generalize num H4 = n at *
      have gS : ∀ W v, Bt W v (H4 ++ C) → Calls Tryd.prog 50 #[v] W fun e w' => ∃ g, e = .returned (.slice (some ⟨g, 0, none⟩) 4 4) ∧ Bt w' (.slice (some ⟨g, 0, none⟩) 4 4) (be 4 (crc (H4 ++ C))) ∧ Same W w' := fun W v h => (sum_any v _ W h (by rw [List.length_append, H4l, hcl]; omega)).mono fun e w' ⟨g, h1, h2, _, _, h3⟩ => ⟨g, h1, h2, h3⟩
      have GS := hidden gS
      generalize be 4 (crc (H4 ++ C)) = SM at *
      generalize hbo : (SM == H2) = bo at *
      have hR1 : Hid ((if bo = true then some (a + 8, n) else none : Option (Nat × Nat)).isSome = bo) := hidden (by cases bo <;> rfl)
      have hR2 : Hid (∀ q, (if bo = true then some (a + 8, n) else none : Option (Nat × Nat)) = some q → q.2 = n) := hidden (fun q hq => by
        cases bo
        · cases hq
        · simp at hq; rw [← hq])
      generalize (if bo = true then some (a + 8, n) else none : Option (Nat × Nat)) = R at *
      obtain ⟨i0, hi, hz0, hz1, hz2⟩ := info_parts info5
      have B1 : Hid (∀ W, Same w W → Lies W p1 4 (H4.map U8)) := hidden (fun W k => (b1 W k).lies)
      have B2 : Hid (∀ W, Same w W → Lies W p2 n (C.map U8)) := hidden (fun W k => (b2 W k).lies)
      have B3 := hidden b3
      have m1 : Hid (0 + 4 ≤ maxLen) := by rw [Hid]; unfold maxLen; omega
      have m2 : Hid (4 + n ≤ maxLen) := by rw [Hid]; unfold maxLen; omega
      have m3 : Hid ((4 + n) * 1 ≤ 140737488355328) := by rw [Hid]; omega
      have HH := hidden H4l
      have HC := hidden hcl
      have U4 := hidden (U8_all H4)
      have UC := hidden (U8_all C)
      have l4 : Hid ((H4.map U8).length = 4 * 1) := by rw [Hid, List.length_map, H4l]
      have lC : Hid ((C.map U8).length = n * 1) := by rw [Hid, List.length_map, hcl, Nat.mul_one]
      clear b1 b2 b3 gN gS sub hb H4l hcl hso hL hH4 hnlt
      have w4 : IntKind.i64.wrap ((a : Int) + 4) = (a : Int) + 4 := by rw [IntKind.wrap_i64]; omega
      have w8 : IntKind.i64.wrap ((a : Int) + 8) = (a : Int) + 8 := by rw [IntKind.wrap_i64]; omega
      have w9 : IntKind.i64.wrap ((a : Int) + 8 + (n : Int)) = (a : Int) + 8 + (n : Int) := by rw [IntKind.wrap_i64]; omega
      have tok : True := trivial
      go_enter Tryd.func58, Tryd.ntmps58
      go_wp2_with (go_at_call 57; refine (HN.out).mono ?_; rintro e w1 ⟨rfl, rfl⟩)
      go_region_law (first
        | (have _t := tok; refine step_append_any rfl _ _ 32 rfl w.heap.size 5 i0 (.int .u8 0) 1 1 Tryd.underlying32 hi hz0 hz1 hz2 rfl (by decide) _ 0 0 [] rfl (ownsRow_heap rfl (World.ownsRow_made w #[] 0 (Nat.le_refl _) (by decide) (by decide))) p1 4 _ (H4.map U8) rfl l4.out (B1.out _ ⟨rfl, rfl, rfl, by simp, fun k hk _ => Below.heap_alloc w.drew _ _ hk⟩) U4.out m1.out (by decide) (by simp) ?_; intro a1 c1 w1 ho1 hg1; rw [Nat.zero_add, List.nil_append] at ho1; clear tok; have k1 : Same w w1 := Kept.grown (show Kept (fun _ => False) w (w.drew.alloc (.cells #[] 5)) from ⟨rfl, rfl, rfl, by simp, fun k hk _ => Below.heap_alloc w.drew _ _ hk⟩) hg1 (fun k hk hl => by simp [Value.ownBlock] at hk; omega); have K1 := hidden k1; have O1 := hidden ho1; clear k1 ho1 hg1)
        | (go_must (refine step_append_any rfl _ _ 32 rfl w.heap.size 5 i0 (.int .u8 0) 1 1 Tryd.underlying32 hi hz0 hz1 hz2 rfl (by decide) _ _ _ _ rfl O1.out p2 n _ (C.map U8) rfl lC.out (B2.out _ K1.out) UC.out m2.out m3.out K1.out.size ?_); intro a2 c2 w2 ho2 hg2; have K2 := hidden (same_grown (m := 0) K1.out O1.out hg2); have O2 := hidden ho2; clear ho2 hg2))
      have BA : Hid (∀ W, Same w2 W → Bt W (.slice a2 (4 + n) c2) (H4 ++ C)) := hidden (fun W k => by
        have h1 : w2.ownsRow w.heap.size 5 1 (.slice a2 (4 + n) c2) (H4 ++ C).length ((H4 ++ C).map U8) := by
          rw [List.length_append, HH.out, HC.out, List.map_append]
          exact O2.out
        exact (Bt.own h1).same k)
      have hct2 := (B3.out w2.drew K2.out.drew).text
      have hct1 := (B3.out w2 K2.out).text
      go_wp2
      go_region_law (refine step_call rfl 50 #[.slice a2 (4 + n) c2] (fun u W => ∃ g, u = .slice (some ⟨g, 0, none⟩) 4 4 ∧ Bt W (.slice (some ⟨g, 0, none⟩) 4 4) SM ∧ Same w2 W) (by go_simp; try rfl) ((GS.out _ _ (BA.out _ ((Kept.refl _ _).drew))).mono (fun e w' ⟨g, h1, h2, h3⟩ => ⟨_, h1, g, rfl, h2, ⟨h3.os, h3.tape, h3.output, h3.size, h3.block⟩⟩)) ?_; rintro u w3 ⟨g, rfl, hu, k3⟩; have hus := hu.text; have K3 := hidden (Kept.trans K2.out k3); have hct3 := (B3.out w3 K3.out).text; clear hu k3)
      all_goals
        go_wp2
        go_returns
        exact ⟨n, by rw [hR1.out]; rfl, hR2.out, K3.out⟩
    · have hso : slotOf L a = none := by
        unfold slotOf
        rw [if_neg (fun h => hr ⟨h.2.1, by rw [← hLl]; exact h.2.2.1⟩)]
      rw [hso]
      generalize num ((L.drop a).take 4) = n at *
      have hd : (decide ((n : Int) < 1) || decide ((E : Int) - (a : Int) - 8 < (n : Int))) = true := by
        rw [Bool.or_eq_true, decide_eq_true_eq, decide_eq_true_eq]
        omega
      clear hr hso sub hb hL hLl b1 gN hnlt
      go_enter Tryd.func58, Tryd.ntmps58
      go_wp2_with (go_at_call 57; refine (HN.out).mono ?_; rintro e w1 ⟨rfl, rfl⟩)
      all_goals
        go_returns
        exact ⟨0, rfl, (fun q hq => by cases hq), Kept.refl _ _⟩
  · have hso : slotOf L a = none := by
      unfold slotOf
      rw [if_neg (fun h => by have := h.1; omega)]
    rw [hso]
    have hd : (E : Int) < (a : Int) + 8 := by omega
    clear hso hL hLl hb
    go_enter Tryd.func58, Tryd.ntmps58
    go_wp2
    go_returns
    exact ⟨0, rfl, (fun q hq => by cases hq), Kept.refl _ _⟩
end Go.Proofs.YtafdkfieajdeiaaDoor
