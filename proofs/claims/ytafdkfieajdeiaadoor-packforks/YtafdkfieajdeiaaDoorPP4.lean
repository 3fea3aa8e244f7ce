/- pack: Image of the program. -/
import Derived.Test.YtafdkfieajdeiaaDoorPS3
import Derived.Test.YtafdkfieajdeiaaDoorPS5
import Derived.Test.YtafdkfieajdeiaaDoorK10
import Derived.Deep.CutRange
/- pack: Back of the program. -/
/- pack: what Back leaves, purely. -/
/- pack: Seal, Slots; slices.Clone of slots. -/
namespace Go.Proofs.YtafdkfieajdeiaaDoor
open Go.RowKit
set_option linter.unusedVariables false
set_option linter.unusedSimpArgs false
theorem SlM.lies {w : World} {ao : Option Addr} {n cap : Nat} {l : List (Nat × Nat)} (h : SlM w (.slice ao n cap) l) : Lies w ao n (slotCells l) := by
  intro h0
  have hf := h.form
  obtain ⟨a, c, e, _⟩ := hf
  cases e
  obtain ⟨g, rfl, _⟩ := h.at (by omega)
  refine ⟨_, rfl, fun j u hu => ?_⟩
  rw [add_none, Nat.zero_add]
  exact OwnM.cells h rfl j u hu
theorem slotCells_one : ∀ (l : List (Nat × Nat)), ∀ u ∈ slotCells l, u.oneCell' = true := by
  intro l u hu
  obtain ⟨s, _, hs⟩ := List.mem_flatMap.1 hu
  simp at hs
  rcases hs with rfl | rfl <;> rfl
set_option maxHeartbeats 1000000 in
set_option maxRecDepth 100000 in
theorem cloneSl (v : Value) (l : List (Nat × Nat)) (w : World) (hb : SlM w v l) (hl : l.length ≤ 262144) :
    Calls Tryd.prog 40 #[v] w fun e w' => ∃ u, e = .returned u ∧ w'.ownsRow w.heap.size 34 2 u l.length (slotCells l) ∧ Same w w' := by
  obtain ⟨i0, hi, hz0, hz1, hz2⟩ := info_parts infoSlot
  obtain ⟨ao, cap, rfl, hcap⟩ := hb.form
  cases ao with
  | none =>
    have hl0 : l = [] := by
      rcases Nat.eq_zero_or_pos l.length with h | h
      · exact List.eq_nil_of_length_eq_zero h
      · obtain ⟨g, e, _⟩ := hb.at h
        cases e
    subst hl0
    have hnil : ∀ W : World, (binOp .eql 47 (.slice none 0 cap) (.slice none 0 0)).run Tryd.prog W = .ok (.bool true) W := fun W => by
      first | rfl | simp [binOp, go_sem]
    clear hb hcap
    go_enter Tryd.func40, Tryd.ntmps40
    go_wp2
    go_returns
    exact ⟨_, rfl, World.ownsRow_nil _ _ _ _, Kept.refl _ _⟩
  | some a =>
    have hnil : ∀ W : World, (binOp .eql 47 (.slice (some a) l.length cap) (.slice none 0 0)).run Tryd.prog W = .ok (.bool false) W := fun W => by
      first | rfl | simp [binOp, go_sem]
    have HB := hidden hb
    have m1 : Hid (0 + l.length ≤ maxLen) := by rw [Hid]; unfold maxLen; omega
    have m2 : Hid ((0 + l.length) * 16 ≤ 140737488355328) := by rw [Hid]; omega
    clear hb hcap
    go_enter Tryd.func40, Tryd.ntmps40
    go_wp2_with (refine wpList_append_any rfl _ _ 47 rfl w.heap.size 34 i0 (.agg #[.int .i64 0, .int .i64 0]) 2 16 Tryd.underlying47 hi hz0 hz1 hz2 rfl (by decide) _ 0 0 [] rfl (World.ownsRow_made w #[] 0 (Nat.le_refl _) (by decide) (by decide)) (some a) l.length cap (slotCells l) rfl (slotCells_len l) ((SlM.same HB.out (same_alloc _ _)).lies) (slotCells_one l) m1.out m2.out (by simp) ?_; intro a1 c1 w1 ho1 hg1)
    rw [Nat.zero_add, List.nil_append] at ho1
    go_returns
    exact ⟨_, rfl, by simpa using ho1, ((Kept.refl (fun _ => False) w).alloc _).grown hg1 (fun k hk hl => by simp [Value.ownBlock] at hk; omega)⟩
set_option maxHeartbeats 1000000 in
set_option maxRecDepth 100000 in
theorem p_slots {g : Nat} {s : PSt} {w : World} (h : PW g s w) : Calls Tryd.prog 21 #[.pointer (some ⟨g, 0, none⟩)] w fun e w' => ∃ u, e = .returned u ∧ SlM w' u s.slots ∧ Same w w' := by
  have A := hidden (p_made h)
  have hm := h.ok.many
  obtain ⟨⟨vb, vs, h1, h2, h3⟩, ok, _⟩ := h
  have hsl : s.slots.length ≤ 262144 := by rw [PSt.slots, slotsFrom_len]; omega
  have HC := hidden (fun W (k : Same w W) => cloneSl vs s.slots W (SlM.same h3 k) hsl)
  have c3 : w.cell? ⟨g, 3, none⟩ = some vs := blk_cell h1
  obtain ⟨va, vc, rfl, _⟩ := h3.form
  clear h1 h2 h3 ok hm hsl
  go_enter Tryd.func21, Tryd.ntmps21
  go_wp2_with (first
    | (go_at_call 38; refine (A.out).mono ?_; rintro e w1 ⟨rfl, rfl⟩)
    | (go_at_call 40; refine (HC.out _ (Kept.refl _ _)).mono ?_; rintro e w2 ⟨u, rfl, ho, hk⟩; have HO := hidden ho; have HK := hidden hk; clear ho hk))
  go_returns
  exact ⟨_, rfl, SlM.own HO.out, HK.out⟩
def PSt.seal (s : PSt) : PSt := { s with shut := true }
/-- A cell of its own that is no row is written. -/
theorem PW.put {g : Nat} {s t : PSt} {w : World} (h : PW g s w) (hc : t.chunks = s.chunks) (hz : t.size = s.size) (hs : t.sectors = s.sectors) (hi : t.id = s.id) (ht : t.tslots ≤ t.chunks.length) (j : Nat) (u : Value)
    (he : ∀ vb vs, (PCells s vb vs).setIfInBounds j u = PCells t vb vs) : PW g t (w.setCell ⟨g, j, none⟩ u) ∧ Turns g w (w.setCell ⟨g, j, none⟩ u) := by
  obtain ⟨⟨vb, vs, h1, h2, h3⟩, ok, nt⟩ := h
  have hb := blk_set (j := j) h1 u
  rw [he] at hb
  have e1 : t.bs = s.bs := by unfold PSt.bs; rw [hc, hs, hi]
  have e2 : t.slots = s.slots := by unfold PSt.slots; rw [hc]
  have k : Kept (fun k => k = g) w (w.setCell ⟨g, j, none⟩ u) := (Kept.refl (fun k => k = g) w).setCell (p := ⟨g, j, none⟩) rfl _
  have hp : ∀ i, pS g (w.setCell ⟨g, j, none⟩ u) i ↔ pS g w i := fun i => by rw [pS_of hb, pS_of h1]
  refine ⟨⟨⟨vb, vs, hb, ?_, ?_⟩, ⟨by rw [hz]; exact ok.s0, by rw [hz]; exact ok.s1, by rw [hs]; exact ok.c0, by rw [hs]; exact ok.c1, by rw [hi]; exact ok.i, by rw [e1, hz, hs]; exact ok.b1, by rw [hc]; exact ok.n, ht⟩, fun e => nt ((hp _).1 e)⟩, ⟨k.mono (fun i _ e => Or.inl e), fun i _ e => (hp i).1 e⟩⟩
  · rw [e1]
    exact h2.kept k (fun i hi' e => by subst e; exact h2.apart h1 (by decide) hi')
  · rw [e2]
    exact h3.kept k (fun i hi' e => by subst e; exact h3.apart h1 (by decide) hi')
set_option maxHeartbeats 1000000 in
set_option maxRecDepth 100000 in
theorem p_seal {g : Nat} {s : PSt} {w : World} (h : PW g s w) : Calls Tryd.prog 15 #[.pointer (some ⟨g, 0, none⟩)] w fun e w' => e = .returned (.int .i64 (if s.shut then 6 else 0)) ∧ PW g (if s.shut then s else s.seal) w' ∧ Turns g w w' := by
  have A := hidden (p_made h)
  have HH := hidden h
  have hp := h.put (t := s.seal) rfl rfl rfl rfl h.ok.t1 4 (.bool true) (fun vb vs => rfl)
  have HP := hidden hp
  obtain ⟨⟨vb, vs, h1, h2, h3⟩, ok, _⟩ := h
  have c4 : w.cell? ⟨g, 4, none⟩ = some (.bool s.shut) := blk_cell h1
  have hT := hidden (Turns.refl g w)
  have f4 : w.frozen? ⟨g, 4, none⟩ = false := blk_free h1
  clear h1 h2 h3 ok hp
  cases hs : s.shut with
  | true =>
    rw [hs] at c4
    clear hs
    go_enter Tryd.func15, Tryd.ntmps15
    go_wp2_with (go_at_call 38; refine (A.out).mono ?_; rintro e w1 ⟨rfl, rfl⟩)
    go_returns
    exact ⟨rfl, HH.out, hT.out⟩
  | false =>
    rw [hs] at c4
    clear hs
    go_enter Tryd.func15, Tryd.ntmps15
    go_wp2_with (go_at_call 38; refine (A.out).mono ?_; rintro e w1 ⟨rfl, rfl⟩)
    go_returns
    exact ⟨rfl, HP.out.1, HP.out.2⟩
end Go.Proofs.YtafdkfieajdeiaaDoor
namespace Go.Proofs.YtafdkfieajdeiaaDoor
open Go.RowKit
set_option linter.unusedVariables false
set_option linter.unusedSimpArgs false
theorem slotsFrom_take : ∀ (cs : List (List UInt8)) (a m : Nat), (slotsFrom a cs).take m = slotsFrom a (cs.take m)
  | [], a, m => by simp [slotsFrom]
  | c :: cs, a, 0 => by simp [slotsFrom]
  | c :: cs, a, m + 1 => by simp [slotsFrom, slotsFrom_take cs]
theorem slotsFrom_end : ∀ (cs : List (List UInt8)) (a : Nat), 0 < cs.length → ∃ h, (slotsFrom a cs)[(slotsFrom a cs).length - 1]'h = (slotsFrom a cs)[(slotsFrom a cs).length - 1]'h ∧ ((slotsFrom a cs)[(slotsFrom a cs).length - 1]'h).1 + ((slotsFrom a cs)[(slotsFrom a cs).length - 1]'h).2 = a + (bodyB cs).length
  | [], a, h => by simp at h
  | [c], a, _ => ⟨by simp [slotsFrom], rfl, by simp [slotsFrom, bodyB, slotB_len]; omega⟩
  | c :: d :: cs, a, _ => by
    obtain ⟨h, _, e⟩ := slotsFrom_end (d :: cs) (a + 8 + c.length) (by simp)
    have hl : (slotsFrom a (c :: d :: cs)).length = (slotsFrom (a + 8 + c.length) (d :: cs)).length + 1 := by simp [slotsFrom]
    have h0 : 0 < (slotsFrom (a + 8 + c.length) (d :: cs)).length := by simp [slotsFrom]
    refine ⟨by omega, rfl, ?_⟩
    have hg : ∀ (hh), (slotsFrom a (c :: d :: cs))[(slotsFrom a (c :: d :: cs)).length - 1]'hh = (slotsFrom (a + 8 + c.length) (d :: cs))[(slotsFrom (a + 8 + c.length) (d :: cs)).length - 1]'h := fun hh => by
      have e1 : slotsFrom a (c :: d :: cs) = (a + 8, c.length) :: slotsFrom (a + 8 + c.length) (d :: cs) := rfl
      simp only [e1, List.length_cons, Nat.add_sub_cancel]
      rw [List.getElem_cons]
      split
      · omega
      · rfl
    have e2 : (bodyB (c :: d :: cs)).length = 8 + c.length + (bodyB (d :: cs)).length := by rw [show bodyB (c :: d :: cs) = slotB c ++ c ++ bodyB (d :: cs) from rfl, List.length_append, List.length_append, slotB_len]
    rw [hg, e, e2]
    omega
theorem endL_slots (cs : List (List UInt8)) : endL (slotsFrom 16 cs) = 16 + (bodyB cs).length := by
  rcases Nat.eq_zero_or_pos cs.length with h | h
  · obtain rfl := List.eq_nil_of_length_eq_zero h
    rfl
  · obtain ⟨hh, _, e⟩ := slotsFrom_end cs 16 h
    rw [endL_snoc _ (by rw [slotsFrom_len]; exact h)]
    exact e
def PSt.back (s : PSt) (m : Nat) : PSt := { s with chunks := s.chunks.take m, shut := s.tshut }
theorem PSt.back_slots (s : PSt) (m : Nat) : (s.back m).slots = s.slots.take m := by unfold PSt.slots PSt.back; exact (slotsFrom_take _ _ _).symm
theorem PSt.back_bs (s : PSt) (m : Nat) : (s.back m).bs = s.bs.take (s.back m).bs.length := by
  have e : s.bs = (s.back m).bs ++ bodyB (s.chunks.drop m) := by
    unfold PSt.bs PSt.back
    simp only
    rw [List.append_assoc, ← bodyB_append, List.take_append_drop]
  conv => rhs; rw [e]
  simp
theorem PSt.back_len (s : PSt) (m : Nat) : (s.back m).bs.length ≤ s.bs.length := by
  have := congrArg List.length (s.back_bs m)
  rw [List.length_take] at this
  omega
theorem PSt.back_end (s : PSt) (m : Nat) : endL (s.slots.take m) = (s.back m).bs.length := by
  rw [← s.back_slots m]
  unfold PSt.slots
  rw [endL_slots, PSt.bs_len]
theorem PSt.back_ok {s : PSt} (h : s.Ok) (m : Nat) (h0 : s.tslots ≤ m) (h1 : m ≤ s.chunks.length) : (s.back m).Ok := by
  have := s.back_len m
  have hb := h.b1
  exact ⟨h.s0, h.s1, h.c0, h.c1, h.i, by show (s.back m).bs.length + 16 ≤ s.size * s.sectors; omega, fun c hc => h.n c (List.mem_of_mem_take hc), by show s.tslots ≤ (s.chunks.take m).length; rw [List.length_take]; omega⟩
theorem size_slot (W : World) : (sizeOf (Tryd.prog.elem 47)).run Tryd.prog W = .ok 2 W := by
  rw [show Tryd.prog.elem 47 = 34 by kernel_rfl]
  unfold sizeOf
  first | kernel_rfl | rfl
set_option maxRecDepth 100000 in
theorem lead_slots (g n c m : Nat) (h : m ≤ n) (hc : n ≤ c) (W : World) :
    (Instr.sliceAt 47 (.slice (some ⟨g, 0, none⟩) n c) none (some (.int .i64 (m : Nat))) none).run Tryd.prog W = .ok (.slice (some ⟨g, 0, none⟩) m c) W := by
  rw [run_sliceAt_slice (h := Tryd.underlying47), run_slice_h (ht := Tryd.underlying47) (h0 := by omega) (h2 := by omega), size_slot]
  simp [sliced, Addr.add]
set_option maxRecDepth 100000 in
theorem lead_none (W : World) :
    (Instr.sliceAt 47 (.slice none 0 0) none (some (.int .i64 0)) none).run Tryd.prog W = .ok (.slice none 0 0) W := by
  rw [run_sliceAt_slice (h := Tryd.underlying47), run_slice_h (ht := Tryd.underlying47) (h0 := by omega) (h2 := by omega), size_slot]
  simp [sliced]
set_option maxRecDepth 100000 in
theorem lead_bytes (g n c m : Nat) (h : m ≤ n) (hc : n ≤ c) (W : World) :
    (Instr.sliceAt 32 (.slice (some ⟨g, 0, none⟩) n c) none (some (.int .i64 (m : Nat))) none).run Tryd.prog W = .ok (.slice (some ⟨g, 0, none⟩) m c) W := by
  rw [run_sliceAt_slice (h := Tryd.underlying32), run_slice_h (ht := Tryd.underlying32) (h0 := by omega) (h2 := by omega), size_byte]
  simp [sliced, Addr.add]
end Go.Proofs.YtafdkfieajdeiaaDoor
namespace Go.Proofs.YtafdkfieajdeiaaDoor
open Go.RowKit
set_option linter.unusedVariables false
set_option linter.unusedSimpArgs false
theorem slotCells_take : ∀ (l : List (Nat × Nat)) (m : Nat), slotCells (l.take m) = (slotCells l).take (m * 2)
  | [], m => by simp [slotCells]
  | a :: l, 0 => by simp [slotCells]
  | a :: l, m + 1 => by
    have ih := slotCells_take l m
    have e : slotCells (a :: l) = .int .i64 (a.1 : Nat) :: .int .i64 (a.2 : Nat) :: slotCells l := rfl
    have e2 : slotCells (a :: l.take m) = .int .i64 (a.1 : Nat) :: .int .i64 (a.2 : Nat) :: slotCells (l.take m) := rfl
    rw [List.take_succ_cons, e, e2, ih, show (m + 1) * 2 = m * 2 + 1 + 1 by omega, List.take_succ_cons, List.take_succ_cons]
theorem slotsFrom_fit : ∀ (cs : List (List UInt8)) (a : Nat), ∀ x ∈ slotsFrom a cs, x.1 + x.2 ≤ a + (bodyB cs).length
  | [], a => fun x hx => by simp [slotsFrom] at hx
  | c :: cs, a => fun x hx => by
    have e2 : (bodyB (c :: cs)).length = 8 + c.length + (bodyB cs).length := by rw [show bodyB (c :: cs) = slotB c ++ c ++ bodyB cs from rfl, List.length_append, List.length_append, slotB_len]
    rcases List.mem_cons.1 hx with rfl | hx
    · simp only; omega
    · have := slotsFrom_fit cs _ x hx
      omega
theorem SlM.lead {w : World} {a : Option Addr} {c : Nat} {l : List (Nat × Nat)} (h : SlM w (.slice a l.length c) l) (m : Nat) (hm : m ≤ l.length) :
    (∀ W, (Instr.sliceAt 47 (.slice a l.length c) none (some (.int .i64 (m : Nat))) none).run Tryd.prog W = .ok (.slice a m c) W) ∧ OwnM w 34 2 (.slice a m c) m (slotCells (l.take m)) := by
  have hf := h
  rcases hf.ex with ⟨e, h0⟩ | ⟨g, cap', cur, fz, e, hg, _, hn, _⟩
  · have : l = [] := List.eq_nil_of_length_eq_zero (by omega)
    subst this
    cases e
    obtain rfl : m = 0 := by simp at hm; exact hm
    exact ⟨lead_none, OwnM.nil _ _ _⟩
  · cases e
    refine ⟨lead_slots g l.length c m hm hn, ?_⟩
    rw [slotCells_take]
    exact OwnM.take h hm
theorem OwnM.leadB {w : World} {a : Option Addr} {c : Nat} {l : List UInt8} (h : OwnM w 5 1 (.slice a l.length c) l.length (l.map U8)) (hl : 0 < l.length) (m : Nat) (hm : m ≤ l.length) :
    (∀ W, (Instr.sliceAt 32 (.slice a l.length c) none (some (.int .i64 (m : Nat))) none).run Tryd.prog W = .ok (.slice a m c) W) ∧ OwnM w 5 1 (.slice a m c) m ((l.take m).map U8) := by
  rcases h.ex with ⟨e, h0⟩ | ⟨g, cap', cur, fz, e, hg, _, hn, _⟩
  · omega
  · cases e
    refine ⟨lead_bytes g l.length c m hm hn, ?_⟩
    have := OwnM.take h hm
    rwa [Nat.mul_one, ← List.map_take] at this
set_option maxHeartbeats 2000000 in
set_option maxRecDepth 100000 in
theorem p_backNo {g : Nat} {s : PSt} {w : World} (h : PW g s w) (m : Int) (hm : ¬ ((s.tslots : Int) ≤ m ∧ m ≤ s.chunks.length)) : Calls Tryd.prog 31 #[.pointer (some ⟨g, 0, none⟩), .int .i64 m] w fun e w' => e = .returned (.int .i64 1) ∧ Same w w' := by
  have A := hidden (p_made h)
  obtain ⟨⟨vb, vs, h1, h2, h3⟩, ok, _⟩ := h
  have c3 : w.cell? ⟨g, 3, none⟩ = some vs := blk_cell h1
  have c5 : w.cell? ⟨g, 5, none⟩ = some (.int .i64 s.tslots) := blk_cell h1
  obtain ⟨va, vc, rfl, _⟩ := h3.form
  have e : s.slots.length = s.chunks.length := slotsFrom_len _ _
  rw [e] at c3
  clear h1 h2 h3 ok e
  by_cases hlt : m < (s.tslots : Int)
  · clear hm
    go_enter Tryd.func31, Tryd.ntmps31
    go_wp2_with (go_at_call 38; refine (A.out).mono ?_; rintro e w1 ⟨rfl, rfl⟩)
    go_returns
    exact ⟨rfl, Kept.refl _ _⟩
  · have hgt : (s.chunks.length : Int) < m := by omega
    clear hm
    go_enter Tryd.func31, Tryd.ntmps31
    go_wp2_with (go_at_call 38; refine (A.out).mono ?_; rintro e w1 ⟨rfl, rfl⟩)
    go_returns
    exact ⟨rfl, Kept.refl _ _⟩
theorem p_backEnd {g : Nat} {s : PSt} {w W : World} {m : Nat} {va ba : Option Addr} {vc bc : Nat} (h : PW g s w)
    (hB : W.heap[g]? = some (.cells (PCells (s.back m) (.slice ba (s.back m).bs.length bc) (.slice va m vc)) 70 (0, 0))) (k : Kept (fun k => k = g) w W) (ok : (s.back m).Ok)
    (o2 : OwnM W 5 1 (.slice ba (s.back m).bs.length bc) (s.back m).bs.length ((s.back m).bs.map U8)) (o3 : OwnM W 34 2 (.slice va m vc) m (slotCells (s.back m).slots))
    (hp : ∀ i, (i = g ∨ (Value.slice ba (s.back m).bs.length bc).ownBlock = some i ∨ (Value.slice va m vc).ownBlock = some i) → pS g w i) : PW g (s.back m) W ∧ Turns g w W := by
  have hq : ∀ i, pS g W i → pS g w i := fun i hi => hp i ((pS_of hB i).1 hi)
  have hl : (s.back m).slots.length = m := by
    have h1 := o3.len
    rw [slotCells_len] at h1
    omega
  refine ⟨⟨⟨_, _, hB, o2, by rw [hl]; exact o3⟩, ok, fun e => h.nt (hq _ e)⟩, ⟨k.mono (fun i _ e => Or.inl e), fun i _ e => hq i e⟩⟩
set_option maxHeartbeats 2000000 in
set_option maxRecDepth 100000 in
theorem p_backYes {g : Nat} {s : PSt} {w : World} (h : PW g s w) (m : Nat) (hm0 : s.tslots ≤ m) (hm1 : m ≤ s.chunks.length) : Calls Tryd.prog 31 #[.pointer (some ⟨g, 0, none⟩), .int .i64 (m : Nat)] w fun e w' => e = .returned (.int .i64 0) ∧ PW g (s.back m) w' ∧ Turns g w w' := by
  have A := hidden (p_made h)
  have HP := hidden h
  obtain ⟨⟨vb, vs, h1, h2, h3⟩, ok, nt⟩ := h
  have OK := hidden (PSt.back_ok ok m hm0 hm1)
  obtain ⟨va, vc, rfl, _⟩ := h3.form
  obtain ⟨ba, bc, rfl, _⟩ := h2.form
  have e0 : s.slots.length = s.chunks.length := slotsFrom_len _ _
  have hm2 : m ≤ s.slots.length := by omega
  obtain ⟨hl3, o3⟩ := SlM.lead h3 m hm2
  have hmany := ok.many
  have hroom := ok.room
  have hb1 := ok.b1
  have hbl := s.bs_len
  have hbk := s.back_len m
  obtain ⟨hl2, o2⟩ := OwnM.leadB h2 (by omega) (s.back m).bs.length hbk
  rw [← s.back_bs m] at o2
  rw [← s.back_slots m] at o3
  have hms : (s.back m).slots.length = m := by rw [s.back_slots, List.length_take]; omega
  have B1 := blk_set (j := 3) h1 (.slice va m vc)
  have K1 : Kept (fun k => k = g) w (w.setCell ⟨g, 3, none⟩ (.slice va m vc)) := (Kept.refl (fun k => k = g) w).setCell (p := ⟨g, 3, none⟩) rfl _
  have n3 : ∀ k, (Value.slice va m vc).ownBlock = some k → ¬ k = g := fun k hk e => by subst e; exact o3.apart h1 (by decide) hk
  have n2 : ∀ k, (Value.slice ba (s.back m).bs.length bc).ownBlock = some k → ¬ k = g := fun k hk e => by subst e; exact o2.apart h1 (by decide) hk
  have p3 := o3.kept K1 n3
  have p2 := o2.kept K1 n2
  have c3 : w.cell? ⟨g, 3, none⟩ = some (.slice va s.slots.length vc) := blk_cell h1
  have c5 : w.cell? ⟨g, 5, none⟩ = some (.int .i64 s.tslots) := blk_cell h1
  have f3 : w.frozen? ⟨g, 3, none⟩ = false := blk_free h1
  have q0 : ¬ (m : Int) < (s.tslots : Int) := by omega
  have q1 : ¬ (s.slots.length : Int) < (m : Int) := by omega
  have HE := hidden (fun W (k : Same (w.setCell ⟨g, 3, none⟩ (.slice va m vc)) W) => endOf_any (.slice va m vc) (s.back m).slots W (by unfold SlM; rw [hms]; exact p3.same k) (by omega) (by
    have := slotsFrom_fit (s.back m).chunks 16
    intro x hx
    have h5 := this x hx
    rw [← PSt.bs_len] at h5
    omega))
  rw [s.back_slots, s.back_end] at HE
  have nt2 : Hid (∀ i, (i = g ∨ (Value.slice ba (s.back m).bs.length bc).ownBlock = some i ∨ (Value.slice va m vc).ownBlock = some i) → pS g w i) := hidden (fun i hi => (pS_of h1 i).2 (by
    rcases hi with e | e | e
    · exact Or.inl e
    · exact Or.inr (Or.inl (by cases ba with | none => simp [Value.ownBlock] at e | some _ => exact e))
    · exact Or.inr (Or.inr (by cases va with | none => simp [Value.ownBlock] at e | some _ => exact e))))
  have H2 := hidden p2
  have H3 := hidden p3
  have HB1 := hidden B1
  have HK1 := hidden K1
  have HN2 := hidden n2
  have HN3 := hidden n3
  clear h1 h2 h3 ok nt o2 o3 e0 hm1 hm2 hm0 hmany hroom hb1 hbl hbk hms n2 n3 p2 p3 B1 K1
  have hw1 : ∀ X, (w.setCell ⟨g, 3, none⟩ (.slice va m vc)) = X → X.cell? ⟨g, 3, none⟩ = some (.slice va m vc) ∧ X.cell? ⟨g, 2, none⟩ = some (.slice ba s.bs.length bc) ∧ X.frozen? ⟨g, 2, none⟩ = false := fun X e => by
    rw [e] at HB1
    exact ⟨blk_cell HB1.out, blk_cell HB1.out, blk_free HB1.out⟩
  generalize hW1 : w.setCell ⟨g, 3, none⟩ (.slice va m vc) = W1 at *
  obtain ⟨x3, x2, xf⟩ := hw1 _ rfl
  have HW1 := hidden hW1
  clear hw1
  go_enter Tryd.func31, Tryd.ntmps31
  go_wp2_with (go_at_call 38; refine (A.out).mono ?_; rintro e w1 ⟨rfl, rfl⟩)
  go_region_law (refine step_call rfl 63 #[.slice va m vc] (fun u W => u = .int .i64 ((s.back m).bs.length : Nat) ∧ Same W1 W) (by go_simp <;> rfl) ((HE.out _ ((Kept.refl _ _).drew)).mono (fun e w' ⟨h1, h2⟩ => ⟨_, h1, rfl, ((Kept.refl (fun _ => False) W1).drew).trans h2⟩)) ?_; rintro u y3 ⟨rfl, k3⟩; have K3 := hidden k3; have y2 : y3.cell? ⟨g, 2, none⟩ = some (.slice ba s.bs.length bc) := blk_cell (blk_kept k3 (fun h => h) HB1.out); have yf : y3.frozen? ⟨g, 2, none⟩ = false := blk_free (blk_kept k3 (fun h => h) HB1.out); clear k3)
  all_goals
    have hB3 := blk_set (j := 2) (blk_kept K3.out (fun h => h) HB1.out) (.slice ba (s.back m).bs.length bc)
    have hK3 : Kept (fun k => k = g) W1 (y3.setCell ⟨g, 2, none⟩ (.slice ba (s.back m).bs.length bc)) := Kept.setCell (p := ⟨g, 2, none⟩) (Kept.mono K3.out (fun _ _ h => h.elim) : Kept (fun k => k = g) W1 y3) rfl _
    have HB3 := hidden hB3
    have HK3 := hidden hK3
    clear hB3 hK3 x3 x2 xf y2 yf
    generalize y3.setCell ⟨g, 2, none⟩ (.slice ba (s.back m).bs.length bc) = W3 at *
    have z7 : W3.cell? ⟨g, 7, none⟩ = some (.bool s.tshut) := blk_cell HB3.out
    have z4 : W3.cell? ⟨g, 4, none⟩ = some (.bool s.shut) := blk_cell HB3.out
    have zf : W3.frozen? ⟨g, 4, none⟩ = false := blk_free HB3.out
    go_wp2
    go_returns
    have B4 := blk_set (j := 4) HB3.out (.bool s.tshut)
    have K4 : Kept (fun k => k = g) w (W3.setCell ⟨g, 4, none⟩ (.bool s.tshut)) := (HK1.out.trans HK3.out).setCell (p := ⟨g, 4, none⟩) rfl _
    have K41 : Kept (fun k => k = g) W1 (W3.setCell ⟨g, 4, none⟩ (.bool s.tshut)) := HK3.out.setCell (p := ⟨g, 4, none⟩) rfl _
    have o2 := H2.out.kept K41 HN2.out
    have o3 := H3.out.kept K41 HN3.out
    generalize W3.setCell ⟨g, 4, none⟩ (.bool s.tshut) = W4 at *
    have hB : W4.heap[g]? = some (.cells (PCells (s.back m) (.slice ba (s.back m).bs.length bc) (.slice va m vc)) 70 (0, 0)) := by
      rw [B4]
      rfl
    exact ⟨rfl, p_backEnd HP.out hB K4 OK.out o2 o3 nt2.out⟩
end Go.Proofs.YtafdkfieajdeiaaDoor
namespace Go.Proofs.YtafdkfieajdeiaaDoor
open Go.RowKit
set_option linter.unusedVariables false
set_option linter.unusedSimpArgs false
set_option maxRecDepth 100000 in
theorem copy_zero (m : Nat) (ad : Addr) (cap : Nat) (us : List UInt8) (W : World) (hb : Bt W (.slice (some ad) us.length cap) us) (hu : us.length ≤ m) (g : Nat) (hg : W.heap[g]? = some (.cells (List.replicate m (U8 0)).toArray 5 (0, 0))) :
    (Builtin.copy_ #[32, 32] 3 #[.slice (some ⟨g, 0, none⟩) m m, .slice (some ad) us.length cap]).run Tryd.prog W = .ok (goInt us.length) (W.setRow g ((us ++ List.replicate (m - us.length) 0).map U8).toArray) := by
  obtain ⟨i0, hi, hz0, hz1, hz2⟩ := info_parts info5
  have hL := hb.lies
  have h := run_copy_row (P := Tryd.prog) W 32 32 3 5 g 0 m m ad us.length cap _ _ (us.map U8) Tryd.underlying32 (by rw [hi]; simp [hz1]) hg (by rw [List.length_map]; exact (Nat.min_eq_left (by omega)).symm)
    (fun j x hx => by
      have hp : 0 < us.length := by have := (List.getElem?_eq_some_iff.1 hx).1; simp at this; omega
      obtain ⟨ad', e, hc⟩ := hL hp
      cases e
      exact hc j x hx) (by simp; omega) (fun x hx => by
      rw [List.mem_map] at hx
      obtain ⟨b, _, rfl⟩ := hx
      exact U8_one b)
  rw [List.length_map] at h
  refine h.trans ?_
  have e : List.take 0 (List.replicate m (U8 0)).toArray.toList ++ us.map U8 ++ List.drop (0 + us.length) (List.replicate m (U8 0)).toArray.toList = (us ++ List.replicate (m - us.length) 0).map U8 := by
    rw [List.toList_toArray, List.take_zero, List.nil_append, Nat.zero_add, List.drop_replicate, List.map_append, List.map_replicate]
  rw [e]
/-- A text over the last bytes of a row. -/
theorem copy_last (n g k : Nat) (bs ft : List UInt8) (W : World) (h1 : bs.length = n) (h2 : ft.length = k) (h3 : k ≤ n) (hg : W.heap[g]? = some (.cells (bs.map U8).toArray 5 (0, 0))) :
    (Builtin.copy_ #[32, 9] 3 #[.slice (some ⟨g, n - k, none⟩) k k, .string ⟨ft.toArray⟩]).run Tryd.prog W = .ok (goInt k) (W.setRow g ((bs.take (n - k) ++ ft).map U8).toArray) := by
  obtain ⟨i0, hi, hz0, hz1, hz2⟩ := info_parts info5
  have hs : (⟨ft.toArray⟩ : ByteArray).size = k := by rw [ba_size, h2]
  have h := Lib.run_copy_row_string (P := Tryd.prog) W 32 9 3 5 g (n - k) k k ⟨ft.toArray⟩ _ 5 Tryd.underlying32 (by rw [hi]; simp [hz1]) hg (by omega) (by rw [hs]; simp; omega)
  rw [h, hs]
  have e : List.take (n - k) (bs.map U8).toArray.toList ++ Lib.byteCells (⟨ft.toArray⟩ : ByteArray).data.toList ++ List.drop (n - k + k) (bs.map U8).toArray.toList = (bs.take (n - k) ++ ft).map U8 := by
    rw [List.toList_toArray, ba_list, List.map_append, List.map_take, List.drop_of_length_le (by rw [List.length_map]; omega), List.append_nil]
    rfl
  rw [e]
def PSt.len (s : PSt) : Nat := s.size * s.sectors
/-- The bytes ahead of a footer, and zeros. -/
def PSt.bare (s : PSt) : List UInt8 := s.bs ++ List.replicate (s.len - s.bs.length) 0
def PSt.foot (s : PSt) : List UInt8 := edgeB dfot s.slots.length (endL s.slots)
/-- All bytes. -/
def PSt.img (s : PSt) : List UInt8 := if s.shut then s.bare.take (s.len - 16) ++ s.foot else s.bare
theorem PSt.bare_len {s : PSt} (h : s.Ok) : s.bare.length = s.len := by
  have := h.b1
  unfold PSt.bare PSt.len
  rw [List.length_append, List.length_replicate]
  omega
theorem PSt.foot_len (s : PSt) : s.foot.length = 16 := edgeB_len _ rfl _ _
theorem PSt.img_len {s : PSt} (h : s.Ok) : s.img.length = s.len := by
  have := h.b1
  have h1 := PSt.bare_len h
  have h2 := s.foot_len
  unfold PSt.img
  split
  · rw [List.length_append, List.length_take, h1, h2]
    have : 16 ≤ s.len := by unfold PSt.len; omega
    omega
  · exact h1
theorem PSt.end_bs (s : PSt) : endL s.slots = s.bs.length := by unfold PSt.slots; rw [endL_slots, PSt.bs_len]
set_option maxRecDepth 100000 in
theorem slice_last (g n : Nat) (h : 16 ≤ n) (W : World) :
    (Instr.sliceAt 32 (.slice (some ⟨g, 0, none⟩) n n) (some (.int .i64 ((n : Int) - 16))) none none).run Tryd.prog W = .ok (.slice (some ⟨g, n - 16, none⟩) 16 16) W := by
  rw [show (n : Int) - 16 = ((n - 16 : Nat) : Int) by omega]
  have e : n - (n - 16) = 16 := by omega
  rw [run_sliceAt_slice (h := Tryd.underlying32), run_slice_l (ht := Tryd.underlying32) (h0 := by omega) (h1 := by omega), size_byte]
  have hne : ¬ n = n - 16 := by omega
  simp [sliced, Addr.add, hne, e]
  exact fun h => h.symm
set_option maxHeartbeats 2000000 in
set_option maxRecDepth 100000 in
theorem p_image {g : Nat} {s : PSt} {w : World} (h : PW g s w) (hT : Tab w) : Calls Tryd.prog 18 #[.pointer (some ⟨g, 0, none⟩)] w fun e w' => e = .returned (.slice (some ⟨w.heap.size, 0, none⟩) s.len s.len) ∧ w'.heap[w.heap.size]? = some (.cells (s.img.map U8).toArray 5 (0, 0)) ∧ Same w w' := by
  have A := hidden (p_made h)
  have hm := h.ok.many
  have HP := hidden h
  obtain ⟨⟨vb, vs, h1, h2, h3⟩, ok, nt⟩ := h
  obtain ⟨va, vc, rfl, _⟩ := h3.form
  have hb := Bt.ownM h2
  obtain ⟨ba, bc, rfl, _⟩ := h2.form
  have hbl := s.bs_len
  cases ba with
  | none =>
    obtain ⟨_, _, e, _⟩ := hb.cell (by omega)
    cases e
  | some ad =>
  have c0 : w.cell? ⟨g, 0, none⟩ = some (.int .i64 s.size) := blk_cell h1
  have c1 : w.cell? ⟨g, 1, none⟩ = some (.int .i64 s.sectors) := blk_cell h1
  have d0 : w.drew.cell? ⟨g, 0, none⟩ = some (.int .i64 s.size) := blk_cell h1
  have d1 : w.drew.cell? ⟨g, 1, none⟩ = some (.int .i64 s.sectors) := blk_cell h1
  have hroom := ok.room
  have hX : (s.size : Int) * (s.sectors : Int) = (s.len : Int) := by unfold PSt.len; simp
  have hL : s.len ≤ 262144 := hroom
  have hb1 := ok.b1
  have hL1 : s.bs.length + 16 ≤ s.len := hb1
  have hw : IntKind.i64.wrap ((s.size : Int) * (s.sectors : Int)) = (s.len : Int) := by rw [hX, IntKind.wrap_i64]; omega
  have hmk := make_bytes s.len (by omega)
  have hsl : s.slots.length ≤ 262144 := by rw [PSt.slots, slotsFrom_len]; omega
  have hfit : ∀ x ∈ s.slots, x.1 + x.2 ≤ 262144 := fun x hx => by
    have h5 := slotsFrom_fit s.chunks 16 x hx
    rw [← PSt.bs_len] at h5
    omega
  have HF := hidden (fun W (k : Same w W) => footOf_any (.slice va s.slots.length vc) s.slots W (hT.same k) (SlM.same h3 k) hsl hfit)
  have HB := hidden hb
  have H1 := hidden h1
  have HOK := hidden ok
  have HL := hidden (show s.bs.length + 16 ≤ s.len ∧ s.len ≤ 262144 from ⟨hL1, hL⟩)
  clear h1 h2 h3 ok nt hb hbl hroom hX hb1 hL1 hL hsl hfit hm hT
  go_enter Tryd.func18, Tryd.ntmps18
  go_wp2_with (go_at_call 38; refine (A.out).mono ?_; rintro e w1 ⟨rfl, rfl⟩)
  go_cut [3] from 7 to 16 (fun x wx => x = .slice (some ⟨w.heap.size, 0, none⟩) s.len s.len ∧ wx.heap[w.heap.size]? = some (.cells (List.replicate s.len (U8 0)).toArray 5 (0, 0)) ∧ Same w wx)
  case first =>
    go_region_law fail
    all_goals
      go_wp2_with fail
      go_meet
      case rel => exact ⟨rfl, blk_kept ((Kept.refl (fun _ => False) _).drew) (fun h => h) (blk_new w (.cells (List.replicate s.len (U8 0)).toArray 5 (0, 0))), ((Kept.refl (fun _ => False) w).alloc _).drew⟩
  case rest =>
    obtain ⟨rfl, hg, hk⟩ := hcut
    have hg1 := blk_kept hk (fun h => h) H1.out
    have e2 : wc.cell? ⟨g, 2, none⟩ = some (.slice (some ad) s.bs.length bc) := blk_cell hg1
    have hcp := copy_zero s.len ad bc s.bs wc (HB.out.same hk) (by have := HL.out; omega) w.heap.size hg
    have hB : (s.bs ++ List.replicate (s.len - s.bs.length) 0) = s.bare := rfl
    rw [hB] at hcp
    have G2 := setRow_heap wc w.heap.size _ (s.bare.map U8).toArray 5 (0, 0) hg
    have K2 : Same w (wc.setRow w.heap.size (s.bare.map U8).toArray) := same_setRow hk (Nat.le_refl _) _
    have E2 := blk_kept K2 (fun h => h) H1.out
    generalize wc.setRow w.heap.size (s.bare.map U8).toArray = W2 at *
    have e3 : W2.cell? ⟨g, 3, none⟩ = some (.slice va s.slots.length vc) := blk_cell E2
    have e4 : W2.cell? ⟨g, 4, none⟩ = some (.bool s.shut) := blk_cell E2
    have hsl := slice_last w.heap.size s.len (by have := HL.out; omega)
    have hwr : IntKind.i64.wrap ((s.len : Int) - 16) = (s.len : Int) - 16 := by rw [IntKind.wrap_i64]; have := HL.out; omega
    have e3d : W2.drew.cell? ⟨g, 3, none⟩ = some (.slice va s.slots.length vc) := blk_cell E2
    have HG2 := hidden G2
    have HK2 := hidden K2
    have HIM : Hid (s.img = if s.shut then s.bare.take (s.len - 16) ++ s.foot else s.bare) := hidden rfl
    have hft : (edgeB dfot s.slots.length (endL s.slots)) = s.foot := rfl
    rw [hft] at HF
    have HLB := hidden (PSt.bare_len HOK.out)
    have HLF := hidden s.foot_len
    clear hB G2 K2 E2 hg hk hg1 hft c0 c1 d0 d1 hmk hw
    cases hs : s.shut with
    | false =>
      rw [hs] at HIM e4
      clear hs
      go_wp2
      go_returns
      refine ⟨rfl, ?_, HK2.out⟩
      rw [HIM.out]
      exact HG2.out
    | true =>
      rw [hs] at HIM e4
      clear hs
      go_wp2
      go_region_law (first
        | (refine step_call rfl 48 #[.slice va s.slots.length vc] (fun u W => u = .string ⟨s.foot.toArray⟩ ∧ Same W2 W ∧ Same w W) (by go_simp <;> rfl) ((HF.out _ (HK2.out.drew)).mono (fun e w' ⟨h1, h2⟩ => ⟨_, h1, rfl, ((Kept.refl (fun _ => False) W2).drew).trans h2, (HK2.out.drew).trans h2⟩)) ?_; rintro u y3 ⟨rfl, k3, kw3⟩; have hcl := copy_last s.len w.heap.size 16 s.bare s.foot y3 HLB.out HLF.out (by have := HL.out; omega) (blk_kept k3 (fun h => h) HG2.out); have HK3 := hidden kw3; have HG3 := hidden (blk_kept k3 (fun h => h) HG2.out); clear k3 kw3)
        | (refine step_copy rfl _ _ _ _ rfl (.slice (some ⟨w.heap.size, s.len - 16, none⟩) 16 16) (.string ⟨s.foot.toArray⟩) _ _ rfl rfl hcl ?_))
      all_goals
        go_wp2
        go_returns
        refine ⟨rfl, ?_, same_setRow HK3.out (Nat.le_refl _) _⟩
        rw [HIM.out, if_pos (by trivial), List.map_append, List.map_take]
        exact setRow_heap _ w.heap.size _ _ 5 (0, 0) HG3.out
end Go.Proofs.YtafdkfieajdeiaaDoor
