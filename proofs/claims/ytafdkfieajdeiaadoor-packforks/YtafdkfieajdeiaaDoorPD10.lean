/- pack: steps of drawn regions that make memory: a constant's conversion, high, append; the head of the document's Image. -/
import Derived.Test.YtafdkfieajdeiaaDoorPP5
import Derived.Test.YtafdkfieajdeiaaDoorPS5
import Derived.Deep.CutRange
import Derived.Test.YtafdkfieajdeiaaDoorQuietS
import Derived.Test.YtafdkfieajdeiaaDoorPS7
import Derived.Test.YtafdkfieajdeiaaDoorPT1
/- pack: Append of the document, of a chunk for which there is room. -/
/- pack: Read of the document. -/
/- pack: Append of the program refused. -/
namespace Go.Proofs.YtafdkfieajdeiaaDoor
open Go.RowKit
set_option linter.unusedVariables false
set_option linter.unusedSimpArgs false
set_option maxHeartbeats 1000000 in
set_option maxRecDepth 100000 in
theorem p_appNo {g : Nat} {s : PSt} {w : World} (h : PW g s w) (v : Value) (b : List UInt8) (hb : Bt w v b) (hl : b.length ≤ 140737488351232) (hno : s.appErr b.length ≠ 0) :
    Calls Tryd.prog 13 #[.pointer (some ⟨g, 0, none⟩), v] w fun e w' => e = .returned (.tuple #[.agg #[.int .i64 0, .int .i64 0], .int .i64 (s.appErr b.length)]) ∧ Same w w' := by
  obtain ⟨ao, cap, rfl, _⟩ := hb.form
  have HL := hidden (fun W (k : Same w W) => p_left (h.same k))
  have HM := hidden (fun W (k : Same w W) => p_made (h.same k))
  obtain ⟨vb, vs, hbox, _, _⟩ := h.lies
  have HN := hidden (blk_new w (.cells #[.int .i64 0, .int .i64 0] 34))
  have HS := hidden (same_alloc w (.cells #[.int .i64 0, .int .i64 0] 34))
  have c4 : (w.alloc (.cells #[.int .i64 0, .int .i64 0] 34)).cell? ⟨g, 4, none⟩ = some (.bool s.shut) := blk_cell (blk_kept HS.out (fun h => h) hbox)
  have r0 : (w.alloc (.cells #[.int .i64 0, .int .i64 0] 34)).cell? ⟨w.heap.size, 0, none⟩ = some (.int .i64 0) := blk_cell HN.out
  have r1 : (w.alloc (.cells #[.int .i64 0, .int .i64 0] 34)).cell? ⟨w.heap.size, 1, none⟩ = some (.int .i64 0) := blk_cell HN.out
  have f0 : (w.alloc (.cells #[.int .i64 0, .int .i64 0] 34)).frozen? ⟨w.heap.size, 0, none⟩ = false := blk_free HN.out
  have f1 : (w.alloc (.cells #[.int .i64 0, .int .i64 0] 34)).frozen? ⟨w.heap.size, 1, none⟩ = false := blk_free HN.out
  clear hb h hbox
  cases hs : s.shut with
  | true =>
    have he : s.appErr b.length = 6 := by unfold PSt.appErr; rw [hs]; rfl
    rw [he]
    rw [hs] at c4
    clear hs he hno
    go_enter Tryd.func13, Tryd.ntmps13
    go_wp2_with (go_at_call 38; refine (HM.out _ HS.out).mono ?_; rintro e wm ⟨rfl, rfl⟩)
    exact bodyPost_ret (v := .tuple #[.agg #[.int .i64 0, .int .i64 0], .int .i64 6]) (by simp [results, Tryd.results13, go_sem, r0, r1]; try rfl) rfl ⟨rfl, HS.out⟩
  | false =>
    rw [hs] at c4
    by_cases h0 : b.length = 0
    · have he : s.appErr b.length = 1 := by unfold PSt.appErr; rw [hs, h0]; rfl
      rw [he]
      rw [h0]
      clear hs he hno
      go_enter Tryd.func13, Tryd.ntmps13
      go_wp2_with (go_at_call 38; refine (HM.out _ HS.out).mono ?_; rintro e wm ⟨rfl, rfl⟩)
      exact bodyPost_ret (v := .tuple #[.agg #[.int .i64 0, .int .i64 0], .int .i64 1]) (by simp [results, Tryd.results13, go_sem, r0, r1]; try rfl) rfl ⟨rfl, HS.out⟩
    · have hlt : s.left < b.length := by
        rcases Nat.lt_or_ge s.left b.length with h | h
        · exact h
        · refine absurd ?_ hno
          unfold PSt.appErr
          rw [hs, if_neg (by simp), if_neg h0, if_neg (by omega)]
      have he : s.appErr b.length = 2 := by unfold PSt.appErr; rw [hs, if_neg (by simp), if_neg h0, if_pos hlt]
      rw [he]
      have q0 : ((b.length : Int) == 0) = false := by rw [beq_eq_false_iff_ne]; omega
      have q1 : ¬ (b.length : Int) = 0 := by omega
      have q2 : (s.left : Int) < (b.length : Int) := by omega
      clear hs he hno hlt h0
      go_enter Tryd.func13, Tryd.ntmps13
      go_wp2_with (first | (go_at_call 38; refine (HM.out _ HS.out).mono ?_; rintro e wm ⟨rfl, rfl⟩) | (go_at_call 32; refine (HL.out _ HS.out).mono ?_; rintro e w2 ⟨rfl, k2⟩; have b2 := blk_kept k2 (fun h => h) HN.out; have HB2 := hidden b2; have x0 : w2.cell? ⟨w.heap.size, 0, none⟩ = some (.int .i64 0) := blk_cell b2; have x1 : w2.cell? ⟨w.heap.size, 1, none⟩ = some (.int .i64 0) := blk_cell b2; have g0 : w2.frozen? ⟨w.heap.size, 0, none⟩ = false := blk_free b2; have g1 : w2.frozen? ⟨w.heap.size, 1, none⟩ = false := blk_free b2; have K2 := hidden (HS.out.trans k2); clear b2 k2))
      have C := blk_set (j := 1) (blk_set (j := 0) HB2.out (.int .i64 0)) (.int .i64 0)
      have y0 : ((w2.setCell ⟨w.heap.size, 0, none⟩ (.int .i64 0)).setCell ⟨w.heap.size, 1, none⟩ (.int .i64 0)).cell? ⟨w.heap.size, 0, none⟩ = some (.int .i64 0) := blk_cell C
      have y1 : ((w2.setCell ⟨w.heap.size, 0, none⟩ (.int .i64 0)).setCell ⟨w.heap.size, 1, none⟩ (.int .i64 0)).cell? ⟨w.heap.size, 1, none⟩ = some (.int .i64 0) := blk_cell C
      have KS : Same w ((w2.setCell ⟨w.heap.size, 0, none⟩ (.int .i64 0)).setCell ⟨w.heap.size, 1, none⟩ (.int .i64 0)) := Kept.setNew (Kept.setNew K2.out (p := ⟨w.heap.size, 0, none⟩) (Nat.le_refl _) _) (p := ⟨w.heap.size, 1, none⟩) (Nat.le_refl _) _
      exact bodyPost_ret (v := .tuple #[.agg #[.int .i64 0, .int .i64 0], .int .i64 2]) (by simp [results, Tryd.results13, go_sem, y0, y1]; try rfl) rfl ⟨rfl, KS⟩
end Go.Proofs.YtafdkfieajdeiaaDoor
/- pack: Append of the document refused. -/
/- pack: Fork of the document. -/
/- pack: Back of the document. -/
/- pack: New of the document. -/
/- pack: Slots of the document. -/
/- pack: the document's Scan. -/
namespace Go.Proofs.YtafdkfieajdeiaaDoor
open Go.RowKit
set_option linter.unusedVariables false
set_option linter.unusedSimpArgs false
theorem step_callw {P : Program} {ops : Array Oper} {o : Oper} {a : Act} {w : World} {K : Act → World → Prop} {Q : Exit → Act → World → Prop} {E : Prop}
    (hw : Region.wanted o (yielded ops a.tmps) = true) (f : FuncId) (vals : Array Value) (R : Value → World → Prop)
    (hrun : (execOp a.eval o).run P w = .ok (.enter f vals) w) (hc : Calls P f vals w fun e w' => ∃ v, e = .returned v ∧ R v w')
    (hK : ∀ v w', R v w' → K (a.put o.dst v) w') :
    if Region.wanted o (yielded ops a.tmps) = true then Oper.wp P o a w K Q else E := by
  rw [if_pos hw]
  unfold Oper.wp
  rw [hrun, Oper.upon_enter]
  refine hc.mono ?_
  rintro e w' ⟨v, rfl, hR⟩
  exact hK v w' hR
set_option maxHeartbeats 2000000 in
set_option maxRecDepth 100000 in
theorem refScan_arg (size count : Int) (b : List UInt8) (v : Value) (w : World) (hb : Bt w v b) (h : ¬ (PMay size count ∧ (b.length : Int) = size * count)) :
    Calls Tryd.prog 26 #[.int .i64 size, .int .i64 count, v] w fun e w' => ∃ u, e = .returned u ∧ ScQ size count b w u w' := by
  have he := scR_arg h
  have HR := hidden (show ∀ W, Same w W → ∃ u, Ending.returned (.tuple #[.int .u32 0, .slice none 0 0, .bool false, .int .i64 1]) = .returned u ∧ ScQ size count b w u W from fun W k => ⟨_, rfl, ⟨_, by rw [he]; rfl, by rw [he]; exact SlM.nil _, k⟩⟩)
  obtain ⟨ao, cap, rfl, _⟩ := hb.form
  have HM := hidden (fun W => power_any size W)
  by_cases hp : PSize size
  · rw [decide_eq_true hp] at HM
    by_cases h1 : count < 1
    · clear hb he h
      go_enter Tryd.func26, Tryd.ntmps26
      go_wp2_with (go_at_call 37; refine (HM.out _).mono ?_; rintro e w1' ⟨rfl, rfl⟩)
      go_returns
      exact HR.out _ (Kept.refl _ _)
    · by_cases h2 : 64 < count
      · clear hb he h
        go_enter Tryd.func26, Tryd.ntmps26
        go_wp2_with (go_at_call 37; refine (HM.out _).mono ?_; rintro e w1' ⟨rfl, rfl⟩)
        go_returns
        exact HR.out _ (Kept.refl _ _)
      · obtain ⟨h4, h5, h6⟩ := hp
        have hlen : (b.length : Int) ≠ size * count := fun e => h ⟨⟨⟨h4, h5, h6⟩, by omega, by omega⟩, e⟩
        have hp : size * count ≤ 4096 * 64 := Int.mul_le_mul h5 (by omega) (by omega) (by omega)
        have hp0 : 0 ≤ size * count := Int.mul_nonneg (by omega) (by omega)
        have hw : IntKind.i64.wrap (size * count) = size * count := by rw [IntKind.wrap_i64]; omega
        obtain ⟨M, hM⟩ : ∃ M, size * count = M := ⟨_, rfl⟩
        rw [hM] at hlen hw
        have q1 : ((b.length : Int) != M) = true := by simpa using hlen
        have q2 : ((b.length : Int) == M) = false := by simpa using hlen
        clear hb he h hp hp0
        go_enter Tryd.func26, Tryd.ntmps26
        go_wp2_with (go_at_call 37; refine (HM.out _).mono ?_; rintro e w1' ⟨rfl, rfl⟩)
        go_returns
        exact HR.out _ (Kept.refl _ _)
  · rw [decide_eq_false hp] at HM
    clear hb he h
    go_enter Tryd.func26, Tryd.ntmps26
    go_wp2_with (go_at_call 37; refine (HM.out _).mono ?_; rintro e w1' ⟨rfl, rfl⟩)
    go_returns
    exact HR.out _ (Kept.refl _ _)
/-- A head as the document looks at it. -/
theorem head_doc (b : List UInt8) (h : 16 ≤ b.length) (c : Nat) (hc : c < 4294967296) :
    b.take 16 = headB (scId b) c ↔ (b.take 4 = dpak ∧ num ((b.drop 8).take 4) = c ∧ be 4 (crc (b.take 12)) = (b.take 16).drop 12) := by
  obtain ⟨A, hA⟩ : ∃ A, b.take 4 = A := ⟨_, rfl⟩
  obtain ⟨I, hI⟩ : ∃ A, (b.drop 4).take 4 = A := ⟨_, rfl⟩
  obtain ⟨C, hC⟩ : ∃ A, (b.drop 8).take 4 = A := ⟨_, rfl⟩
  obtain ⟨S, hS⟩ : ∃ A, (b.take 16).drop 12 = A := ⟨_, rfl⟩
  have lA : A.length = 4 := by rw [← hA, List.length_take]; omega
  have lI : I.length = 4 := by rw [← hI, List.length_take, List.length_drop]; omega
  have lC : C.length = 4 := by rw [← hC, List.length_take, List.length_drop]; omega
  have e8 : b.take 8 = A ++ I := by
    rw [← hA, ← hI, ← List.take_append_drop 4 (b.take 8), List.take_take, List.drop_take]; rfl
  have e12 : b.take 12 = A ++ I ++ C := by
    rw [← e8, ← hC, ← List.take_append_drop 8 (b.take 12), List.take_take, List.drop_take]; rfl
  have e16 : b.take 16 = A ++ I ++ C ++ S := by
    rw [← e12, ← hS]
    conv => lhs; rw [← List.take_append_drop 12 (b.take 16), List.take_take]
    rfl
  have hId : be 4 (scId b) = I := by unfold scId; rw [hI]; exact be_num 4 I lI
  rw [hA, hC, hS, e16, e12]
  unfold headB edgeB edge0
  rw [hId]
  constructor
  · intro e
    rw [List.append_assoc, List.append_assoc, List.append_assoc, List.append_assoc] at e
    obtain ⟨g1, e⟩ := List.append_inj e (by rw [lA]; rfl)
    obtain ⟨_, e⟩ := List.append_inj e rfl
    obtain ⟨g3, g4⟩ := List.append_inj e (by rw [lC, be_length])
    refine ⟨g1, by rw [g3, num_be']; omega, ?_⟩
    rw [g4, g1, g3]
  · rintro ⟨g1, g2, g3⟩
    have hC4 : be 4 c = C := by rw [← g2]; exact be_num 4 C lC
    rw [hC4, ← g1, g3]
theorem ba_beq (l m : List UInt8) : ((⟨l.toArray⟩ : ByteArray).toList == (⟨m.toArray⟩ : ByteArray).toList) = decide (l = m) := by
  by_cases e : l = m
  · rw [decide_eq_true e, e]; simp
  · rw [decide_eq_false e]
    refine beqS_ne2 (fun e2 => e ?_)
    have := congrArg (fun x => x.data.toList) e2
    simpa using this
-- WALK
theorem two_lies (w : World) (x y : Value) : Lies (w.alloc (.cells #[x, y] 34)) (some ⟨w.heap.size, 0, none⟩) 1 [x, y] := fun _ => ⟨_, rfl, fun j u hj => by
  match j, hj with
  | 0, hj => cases hj; exact blk_cell (j := 0) (blk_new w _)
  | 1, hj => cases hj; exact blk_cell (j := 1) (blk_new w _)⟩
end Go.Proofs.YtafdkfieajdeiaaDoor
/- pack: Left of the document; its Back refused; Fork's cells. -/
/- pack: the document's Pack in memory; its end, Left, Seal. -/
namespace Go.Proofs.YtafdkfieajdeiaaDoor
open Go.RowKit
set_option linter.unusedVariables false
set_option linter.unusedSimpArgs false
def DCells (s : PSt) (vs vl : Value) : Array Value := #[.int .i64 s.size, .int .i64 s.sectors, .int .u32 s.id, vs, .bool s.shut, vl, .int .i64 s.tslots, .bool s.tshut]
/-- The document's Pack in block g: the row of its chunks vs with the chunks us, each in a row of its own that nobody writes, and the bytes at its last Take. -/
structure DL (g : Nat) (s : PSt) (last : List UInt8) (w : World) (vs vl : Value) (us : List Value) : Prop where
  box : w.heap[g]? = some (.cells (DCells s vs vl) 73 (0, 0))
  len : us.length = s.chunks.length
  row : OwnM w 32 1 vs us.length us
  chunks : ∀ (i : Nat) (c : List UInt8) (u : Value), s.chunks[i]? = some c → us[i]? = some u → OwnM w 5 1 u c.length (c.map U8)
  last : OwnM w 5 1 vl last.length (last.map U8)
  ok : s.Ok
/-- The blocks that it reads. -/
def dA (g : Nat) (vs vl : Value) (us : List Value) (k : Nat) : Prop := k = g ∨ vs.ownBlock = some k ∨ vl.ownBlock = some k ∨ ∃ u ∈ us, u.ownBlock = some k
theorem DL.kept {S : Nat → Prop} {g : Nat} {s : PSt} {last : List UInt8} {w w' : World} {vs vl : Value} {us : List Value} (h : DL g s last w vs vl us) (k : Kept S w w') (hs : ∀ i, dA g vs vl us i → ¬ S i) : DL g s last w' vs vl us :=
  ⟨blk_kept k (hs g (Or.inl rfl)) h.box, h.len, h.row.kept k (fun i hi => hs i (Or.inr (Or.inl hi))), fun i c u hc hu => (h.chunks i c u hc hu).kept k (fun j hj => hs j (Or.inr (Or.inr (Or.inr ⟨u, List.mem_of_getElem? hu, hj⟩)))), h.last.kept k (fun i hi => hs i (Or.inr (Or.inr (Or.inl hi)))), h.ok⟩
theorem DL.same {g : Nat} {s : PSt} {last : List UInt8} {w w' : World} {vs vl : Value} {us : List Value} (h : DL g s last w vs vl us) (k : Same w w') : DL g s last w' vs vl us := h.kept k (fun _ _ h => h)
/-- Its own cell is written. -/
theorem DL.put {g : Nat} {s t : PSt} {last : List UInt8} {w : World} {vs vl : Value} {us : List Value} (h : DL g s last w vs vl us) (hc : t.chunks = s.chunks) (ok : t.Ok) (j : Nat) (u : Value)
    (he : (DCells s vs vl).setIfInBounds j u = DCells t vs vl) : DL g t last (w.setCell ⟨g, j, none⟩ u) vs vl us ∧ Kept (fun k => k = g) w (w.setCell ⟨g, j, none⟩ u) := by
  have k : Kept (fun k => k = g) w (w.setCell ⟨g, j, none⟩ u) := (Kept.refl (fun k => k = g) w).setCell (p := ⟨g, j, none⟩) rfl _
  have hb := blk_set (j := j) h.box u
  rw [he] at hb
  refine ⟨⟨hb, by rw [hc]; exact h.len, h.row.kept k (fun i hi e => by subst e; exact h.row.apart h.box (by decide) hi), fun i c v hi hv => ?_, h.last.kept k (fun i hi e => by subst e; exact h.last.apart h.box (by decide) hi), ok⟩, k⟩
  rw [hc] at hi
  have := h.chunks i c v hi hv
  exact this.kept k (fun j hj e => by subst e; exact this.apart h.box (by decide) hj)
theorem PSt.seal_ok {s : PSt} (h : s.Ok) : s.seal.Ok := ⟨h.s0, h.s1, h.c0, h.c1, h.i, h.b1, h.n, h.t1⟩
set_option maxHeartbeats 1000000 in
set_option maxRecDepth 100000 in
theorem d_seal {g : Nat} {s : PSt} {last : List UInt8} {w : World} {vs vl : Value} {us : List Value} (h : DL g s last w vs vl us) :
    Calls Tryd.prog 46 #[.pointer (some ⟨g, 0, none⟩)] w fun e w' => e = .returned (.int .i64 (if s.shut then 6 else 0)) ∧ DL g (if s.shut then s else s.seal) last w' vs vl us ∧ Kept (fun k => k = g) w w' := by
  have HH := hidden h
  have hp := h.put (t := s.seal) rfl (PSt.seal_ok h.ok) 4 (.bool true) rfl
  have HP := hidden hp
  have c4 : w.cell? ⟨g, 4, none⟩ = some (.bool s.shut) := blk_cell h.box
  have f4 : w.frozen? ⟨g, 4, none⟩ = false := blk_free h.box
  clear h hp
  cases hs : s.shut with
  | true =>
    rw [hs] at c4
    clear hs
    go_enter Tryd.func46, Tryd.ntmps46
    go_wp2
    go_returns
    exact ⟨rfl, HH.out, Kept.refl _ _⟩
  | false =>
    rw [hs] at c4
    clear hs
    go_enter Tryd.func46, Tryd.ntmps46
    go_wp2
    go_returns
    exact ⟨rfl, HP.out.1, HP.out.2⟩
theorem body_take_succ (cs : List (List UInt8)) (k : Nat) (hk : k < cs.length) : (bodyB (cs.take (k + 1))).length = (bodyB (cs.take k)).length + 8 + (cs[k]).length := by
  rw [List.take_add_one, List.getElem?_eq_getElem hk, bodyB_append, List.length_append]
  show _ + (slotB cs[k] ++ cs[k] ++ bodyB []).length = _
  rw [List.length_append, List.length_append, slotB_len]
  simp [bodyB]
  omega
theorem body_take_le (cs : List (List UInt8)) (k : Nat) : (bodyB (cs.take k)).length ≤ (bodyB cs).length := by
  conv => rhs; rw [← List.take_append_drop k cs, bodyB_append, List.length_append]
  omega
set_option maxHeartbeats 1000000 in
set_option maxRecDepth 100000 in
theorem d_end {g : Nat} {s : PSt} {last : List UInt8} {w : World} {vs vl : Value} {us : List Value} (h : DL g s last w vs vl us) :
    Calls Tryd.prog 52 #[.pointer (some ⟨g, 0, none⟩)] w fun e w' => e = .returned (.int .i64 (s.bs.length : Nat)) ∧ w = w' := by
  have HH := hidden h
  have hbl := s.bs_len
  have hb1 := h.ok.b1
  have hroom := h.ok.room
  obtain ⟨va, vc, rfl, _⟩ := h.row.form
  have c3 : w.cell? ⟨g, 3, none⟩ = some (.slice va us.length vc) := blk_cell h.box
  have HLN := hidden h.len
  have HB := hidden (show s.bs.length = 16 + (bodyB s.chunks).length ∧ s.bs.length ≤ 262144 from ⟨hbl, by omega⟩)
  have hmany := h.ok.many
  have hn3 : us.length ≤ 32768 := by rw [h.len]; exact hmany
  clear h hbl hb1 hroom hmany
  obtain ⟨n, hn⟩ : ∃ n, us.length = n := ⟨_, rfl⟩
  rw [hn] at c3 hn3
  have HN := hidden hn
  clear hn
  go_enter Tryd.func52, Tryd.ntmps52
  go_wp2
  go_loopw [3, 4] (fun at_ i wr => ∃ k : Nat, k ≤ n ∧ i = .int .i64 k ∧ at_ = .int .i64 ((16 + (bodyB (s.chunks.take k)).length : Nat) : Int) ∧ w = wr) (fun _ i wr => n - (intOf i).toNat)
  case atStart => exact ⟨0, Nat.zero_le _, rfl, by simp [bodyB], rfl⟩
  case round =>
    obtain ⟨k, hk, rfl, rfl, rfl⟩ := hrel
    by_cases h1 : k < n
    · have hkc : k < s.chunks.length := by have := HLN.out; have := HN.out; omega
      have hku : k < us.length := by have := HN.out; omega
      have hq := HH.out.chunks k s.chunks[k] us[k] (List.getElem?_eq_getElem hkc) (List.getElem?_eq_getElem hku)
      obtain ⟨ca, cc, hcf, _⟩ := hq.form
      have hst := body_take_succ s.chunks k hkc
      have hle := body_take_le s.chunks (k + 1)
      have HST := hidden hst
      have hbb := HB.out
      rcases HH.out.row.ex with ⟨_, h0⟩ | ⟨vb, cap', cur, fz, hv, _⟩
      · omega
      · cases hv
        have c5 : w.cell? ⟨vb, k, none⟩ = some (us[k]) := OwnM.cells HH.out.row rfl k _ (List.getElem?_eq_getElem hku)
        rw [hcf] at c5
        obtain ⟨L, hL⟩ : ∃ L, (s.chunks[k]).length = L := ⟨_, rfl⟩
        obtain ⟨P, hP⟩ : ∃ P, (bodyB (s.chunks.take k)).length = P := ⟨_, rfl⟩
        rw [hL] at c5 hst HST
        rw [hP] at hst HST ⊢
        have q0 : (0 : Int) ≤ (k : Int) := Int.natCast_nonneg _
        have q1 : (k : Int) < (n : Int) := by omega
        have q2 : IntKind.i64.wrap (((16 + P : Nat) : Int) + 8) = ((16 + P + 8 : Nat) : Int) := by rw [IntKind.wrap_i64]; omega
        have q3 : IntKind.i64.wrap (((16 + P + 8 : Nat) : Int) + (L : Int)) = ((16 + P + 8 + L : Nat) : Int) := by rw [IntKind.wrap_i64]; omega
        have HBD := hidden (show 16 + P + 8 + L ≤ 262144 by omega)
        generalize hX : ((16 + P : Nat) : Int) = X at *
        clear hq hcf hst hle hbb hL hP
        go_wp2
        go_roundw
        case rel =>
          have hd := HBD.out
          have hwr : wrap64 (X + 8 + (L : Int)) = X + 8 + (L : Int) := IntWalk.wrap64_in _ ⟨by omega, by omega⟩
          refine ⟨k + 1, by omega, by go_num, ?_, trivial⟩
          rw [HST.out, hwr]
          congr 1
          omega
        case measure => simp [intOf]; omega
    · have q1 : ¬ (k : Int) < (n : Int) := by omega
      have he : k = s.chunks.length := by have := HLN.out; have := HN.out; omega
      have hb := HB.out
      rw [show s.chunks.take k = s.chunks by rw [he, List.take_length], ← hb.1]
      clear he hb
      go_wp2
      go_returns
      exact ⟨rfl, rfl⟩
end Go.Proofs.YtafdkfieajdeiaaDoor
namespace Go.Proofs.YtafdkfieajdeiaaDoor
open Go.RowKit
set_option linter.unusedVariables false
set_option linter.unusedSimpArgs false
set_option maxHeartbeats 1000000 in
set_option maxRecDepth 100000 in
theorem d_left {g : Nat} {s : PSt} {last : List UInt8} {w : World} {vs vl : Value} {us : List Value} (h : DL g s last w vs vl us) :
    Calls Tryd.prog 44 #[.pointer (some ⟨g, 0, none⟩)] w fun e w' => e = .returned (.int .i64 (s.left : Nat)) ∧ Same w w' := by
  have HE := hidden (fun (V : Later w) => later_calls (v := .int .i64 (s.bs.length : Nat)) V ((d_end (h.same V.kept)).mono (fun e w' ⟨h1, h2⟩ => ⟨h1, h2 ▸ Kept.refl _ _⟩)))
  have l0 : ∀ V : Later w, V.world.cell? ⟨g, 0, none⟩ = some (.int .i64 s.size) := fun V => blk_cell (h.same V.kept).box
  have l1 : ∀ V : Later w, V.world.cell? ⟨g, 1, none⟩ = some (.int .i64 s.sectors) := fun V => blk_cell (h.same V.kept).box
  have HB := hidden h.box
  have hb1 := h.ok.b1
  have hroom := h.ok.room
  have hl : s.left = if s.shut then 0 else s.size * s.sectors - 16 - s.bs.length - 8 := rfl
  have hX : (s.size : Int) * s.sectors = ((s.size * s.sectors : Nat) : Int) := (Int.natCast_mul _ _).symm
  obtain ⟨N, hN⟩ : ∃ N, s.size * s.sectors = N := ⟨_, rfl⟩
  obtain ⟨B, hB⟩ : ∃ B, s.bs.length = B := ⟨_, rfl⟩
  rw [hN, hB] at hl hb1
  rw [hN] at hX hroom
  rw [hB] at HE
  have hw : IntKind.i64.wrap ((s.size : Int) * s.sectors) = (N : Int) := by rw [hX, IntKind.wrap_i64]; omega
  have hw2 : IntKind.i64.wrap ((N : Int) - 16) = (N : Int) - 16 := by rw [IntKind.wrap_i64]; omega
  have hw3 : IntKind.i64.wrap ((N : Int) - 16 - (B : Int)) = (N : Int) - 16 - (B : Int) := by rw [IntKind.wrap_i64]; omega
  have hw4 : IntKind.i64.wrap ((N : Int) - 16 - (B : Int) - 8) = (N : Int) - 16 - (B : Int) - 8 := by rw [IntKind.wrap_i64]; omega
  obtain ⟨R, hR⟩ : ∃ R, (N : Int) - 16 - (B : Int) - 8 = R := ⟨_, rfl⟩
  have hw5 : wrap64 ((N : Int) - 16 - (B : Int) - 8) = R := by rw [← hR]; exact IntWalk.wrap64_in _ ⟨by omega, by omega⟩
  rw [hR] at hw4
  obtain ⟨Lf, hLf⟩ : ∃ x, s.left = x := ⟨_, rfl⟩
  rw [hLf] at hl ⊢
  have HW5 := hidden hw5
  have HL := hidden hl
  have hlR : R < 0 → N - 16 - B - 8 = 0 := fun _ => by omega
  have hlR2 : ¬ R < 0 → ((N - 16 - B - 8 : Nat) : Int) = R := fun _ => by omega
  have HR1 := hidden hlR
  have HR2 := hidden hlR2
  clear h hb1 hroom hX hN hB hR hl hlR hlR2 hLf hw5
  go_enter Tryd.func44, Tryd.ntmps44
  go_wp2
  refine region_later (by kernel_rfl) (by kernel_rfl) ?_
  repeat (go_big_quiet_step ((go_at_call 52; exact HE.out _)))
  refine wpQuiet_nil ?_
  rintro V ⟨LV, hE⟩
  have hV : Hid (Same w V) := hidden (by rw [hE]; exact LV.kept)
  clear hE LV l0 l1
  rw [HW5.out]
  have c4 : V.cell? ⟨g, 4, none⟩ = some (.bool s.shut) := blk_cell (blk_kept hV.out (fun h => h) HB.out)
  cases hs : s.shut with
  | true =>
    rw [hs] at c4 HL
    clear hs
    go_wp2
    go_returns
    exact ⟨by rw [HL.out]; rfl, hV.out⟩
  | false =>
    rw [hs] at c4 HL
    clear hs
    by_cases hlt : R < 0
    · go_wp2
      go_returns
      exact ⟨by rw [HL.out]; simp [HR1.out hlt], hV.out⟩
    · go_wp2
      go_returns
      exact ⟨by rw [HL.out]; simp [HR2.out hlt], hV.out⟩
end Go.Proofs.YtafdkfieajdeiaaDoor
namespace Go.Proofs.YtafdkfieajdeiaaDoor
open Go.RowKit
set_option linter.unusedVariables false
set_option linter.unusedSimpArgs false
theorem slots_take_succ (cs : List (List UInt8)) (k : Nat) (hk : k < cs.length) : slotCells (slotsFrom 16 (cs.take (k + 1))) = slotCells (slotsFrom 16 (cs.take k)) ++ [.int .i64 ((16 + (bodyB (cs.take k)).length : Nat) + 8 : Int), .int .i64 ((cs[k]).length : Nat)] := by
  rw [List.take_add_one, List.getElem?_eq_getElem hk, slotsFrom_append, slotCells_append]
  congr 1
set_option maxHeartbeats 2000000 in
set_option maxRecDepth 100000 in
theorem d_slots {g : Nat} {s : PSt} {last : List UInt8} {w : World} {vs vl : Value} {us : List Value} (h : DL g s last w vs vl us) :
    Calls Tryd.prog 22 #[.pointer (some ⟨g, 0, none⟩)] w fun e w' => ∃ u, e = .returned u ∧ SlM w' u s.slots ∧ Same w w' := by
  obtain ⟨i0, hi, hz0, hz1, hz2⟩ := info_parts infoSlot
  have HH := hidden h
  have hbl := s.bs_len
  have hb1 := h.ok.b1
  have hroom := h.ok.room
  obtain ⟨va, vc, rfl, _⟩ := h.row.form
  have HLN := hidden h.len
  have HB := hidden (show s.bs.length = 16 + (bodyB s.chunks).length ∧ s.bs.length ≤ 262144 from ⟨hbl, by omega⟩)
  have hmany := h.ok.many
  have hn3 : us.length ≤ 32768 := by rw [h.len]; exact hmany
  have HC3 : Hid (∀ W, Same w W → W.cell? ⟨g, 3, none⟩ = some (.slice va us.length vc)) := hidden (fun W k => blk_cell (h.same k).box)
  clear h hbl hb1 hroom hmany
  obtain ⟨n, hn⟩ : ∃ n, us.length = n := ⟨_, rfl⟩
  rw [hn] at HC3 hn3
  have HN := hidden hn
  clear hn
  go_enter Tryd.func22, Tryd.ntmps22
  go_wp2
  go_loopw [3, 4, 5] (fun lv at_ i wr => ∃ (k : Nat) (a0 : Option Addr) (c0 : Nat), k ≤ n ∧ i = .int .i64 k ∧ at_ = .int .i64 ((16 + (bodyB (s.chunks.take k)).length : Nat) : Int) ∧ lv = .slice a0 k c0 ∧ wr.ownsRow w.heap.size 34 2 (.slice a0 k c0) k (slotCells (slotsFrom 16 (s.chunks.take k))) ∧ Same w wr) (fun _ _ i wr => n - (intOf i).toNat)
  case atStart => exact ⟨0, none, 0, Nat.zero_le _, rfl, by simp [bodyB], rfl, by simpa [slotsFrom, slotCells] using World.ownsRow_nil _ _ _ _, Kept.refl _ _⟩
  case round =>
    obtain ⟨k, a0, c0, hk, rfl, rfl, rfl, ho, hs⟩ := hrel
    have HK := hidden hs
    have c3 := HC3.out wr hs
    by_cases h1 : k < n
    · have hkc : k < s.chunks.length := by have := HLN.out; have := HN.out; omega
      have hku : k < us.length := by have := HN.out; omega
      have hq := HH.out.chunks k s.chunks[k] us[k] (List.getElem?_eq_getElem hkc) (List.getElem?_eq_getElem hku)
      obtain ⟨ca, cc, hcf, _⟩ := hq.form
      have hst := body_take_succ s.chunks k hkc
      have hle := body_take_le s.chunks (k + 1)
      have hbb := HB.out
      have HSC := hidden (slots_take_succ s.chunks k hkc)
      have HO := hidden ho
      rcases HH.out.row.ex with ⟨_, h0⟩ | ⟨vb, cap', cur, fz, hv, _⟩
      · omega
      · cases hv
        have HC5 : Hid (∀ W, Same w W → W.cell? ⟨vb, k, none⟩ = some (us[k])) := hidden (fun W kk => OwnM.cells (HH.out.row.same kk) rfl k _ (List.getElem?_eq_getElem hku))
        rw [hcf] at HC5
        obtain ⟨L, hL⟩ : ∃ L, (s.chunks[k]).length = L := ⟨_, rfl⟩
        obtain ⟨P, hP⟩ : ∃ P, (bodyB (s.chunks.take k)).length = P := ⟨_, rfl⟩
        rw [hL] at HC5 hst HSC
        have HST := hidden hst
        rw [hP] at hst HST HSC ⊢
        obtain ⟨xs, hxs⟩ : ∃ xs, slotCells (slotsFrom 16 (s.chunks.take k)) = xs := ⟨_, rfl⟩
        rw [hxs] at HO HSC
        have q0 : (0 : Int) ≤ (k : Int) := Int.natCast_nonneg _
        have q1 : (k : Int) < (n : Int) := by omega
        have HBD := hidden (show 16 + P + 8 + L ≤ 262144 by omega)
        have hx0 : ((16 + P : Nat) : Int) = 16 + (P : Int) := by omega
        obtain ⟨X, hX⟩ : ∃ X, ((16 + P : Nat) : Int) = X := ⟨_, rfl⟩
        rw [hX] at HSC ⊢
        have hX2 : X = 16 + (P : Int) := by omega
        have q2 : IntKind.i64.wrap (X + 8) = X + 8 := by rw [IntKind.wrap_i64]; omega
        have q3 : IntKind.i64.wrap (X + 8 + (L : Int)) = X + 8 + (L : Int) := by rw [IntKind.wrap_i64]; omega
        have HX := hidden hX2
        have c5 := HC5.out wr HK.out
        have hpl : (k + 1) * 16 ≤ 140737488355328 := by omega
        have HSZ := hidden HK.out.size
        clear hq hcf hst hle hbb hL hP ho hs hX hX2 hx0 hxs
        go_wp2_with (at_builtin; refine wpList_append_where (P := Tryd.prog) rfl _ _ 47 rfl w.heap.size 34 i0 (.agg #[.int .i64 0, .int .i64 0]) 2 16 Tryd.underlying47 hi hz0 hz1 hz2 rfl (by decide) a0 k c0 xs rfl (HO.out.alloc _) (some ⟨wr.heap.size, 0, none⟩) 1 1 [.int .i64 (X + 8), .int .i64 (L : Nat)] rfl rfl (two_lies wr _ _) (fun u hu => by simp at hu; rcases hu with rfl | rfl <;> rfl) (by unfold maxLen; omega) (by omega) (by have := HSZ.out; simp; omega) ?_; intro a' cap' w3 hown hgrow _; have O3 := hidden hown; have k3 : Same w w3 := ((HK.out.alloc _).grown hgrow (fun q e hk => by have := (HO.out.lt q e).1; omega)); have K3 := hidden k3; have c3' := HC3.out w3 k3; have c5' := HC5.out w3 k3; clear hown hgrow k3)
        go_roundw
        case rel =>
          refine ⟨k + 1, a', cap', by omega, by go_num, ?_, rfl, ?_, K3.out⟩
          · rw [HST.out]
            have := HX.out
            congr 1
            omega
          · rw [HSC.out]
            exact O3.out
        case measure => simp [intOf]; omega
    · have q1 : ¬ (k : Int) < (n : Int) := by omega
      have he : k = s.chunks.length := by have := HLN.out; have := HN.out; omega
      have hsl : slotCells (slotsFrom 16 (s.chunks.take k)) = slotCells s.slots := by rw [he, List.take_length]; rfl
      have hlen : s.slots.length = k := by rw [he]; exact slotsFrom_len _ _
      rw [hsl] at ho
      have hsm : SlM wr (.slice a0 k c0) s.slots := SlM.own (by rw [hlen]; exact ho)
      have HO := hidden hsm
      clear he hsl hlen ho hsm
      go_wp2
      go_returns
      exact ⟨_, rfl, HO.out, HK.out⟩
end Go.Proofs.YtafdkfieajdeiaaDoor
namespace Go.Proofs.YtafdkfieajdeiaaDoor
open Go.RowKit
set_option linter.unusedVariables false
set_option linter.unusedSimpArgs false
/-- A row that was made whole. -/
theorem ownM_made (w : World) (l : List UInt8) (B : Nat) (hl : l.length ≤ maxLen) (h : w.heap[B]? = some (.cells (l.map U8).toArray 5 (0, 0))) : OwnM w 5 1 (.slice (some ⟨B, 0, none⟩) l.length l.length) l.length (l.map U8) :=
  ⟨by rw [List.length_map, Nat.mul_one], .inr ⟨B, l.length, _, (0, 0), rfl, h, .inl rfl, Nat.le_refl _, hl, by simp, by simp [List.take_of_length_le]⟩⟩
set_option maxHeartbeats 1000000 in
set_option maxRecDepth 100000 in
theorem d_newNo (size sectors : Int) (id : Nat) (w : World) (h : ¬ PMay size sectors) :
    Calls Tryd.prog 11 #[.int .i64 size, .int .i64 sectors, .int .u32 id] w fun e w' => e = .returned (.tuple #[.pointer none, .int .i64 1]) ∧ Same w w' := by
  have HM := hidden (fun W => power_any size W)
  by_cases hp : PSize size
  · rw [decide_eq_true hp] at HM
    by_cases h1 : sectors < 1
    · clear h
      go_enter Tryd.func11, Tryd.ntmps11
      go_wp2_with (go_at_call 37; refine (HM.out _).mono ?_; rintro e w1' ⟨rfl, rfl⟩)
      go_returns
      exact ⟨rfl, Kept.refl _ _⟩
    · have h2 : 64 < sectors := by
        rcases Int.lt_or_le 64 sectors with h2 | h2
        · exact h2
        · exact absurd ⟨hp, by omega, h2⟩ h
      clear h
      go_enter Tryd.func11, Tryd.ntmps11
      go_wp2_with (go_at_call 37; refine (HM.out _).mono ?_; rintro e w1' ⟨rfl, rfl⟩)
      go_returns
      exact ⟨rfl, Kept.refl _ _⟩
  · rw [decide_eq_false hp] at HM
    clear h
    go_enter Tryd.func11, Tryd.ntmps11
    go_wp2_with (go_at_call 37; refine (HM.out _).mono ?_; rintro e w1' ⟨rfl, rfl⟩)
    go_returns
    exact ⟨rfl, Kept.refl _ _⟩
set_option maxHeartbeats 1000000 in
set_option maxRecDepth 100000 in
theorem d_new (size sectors id : Nat) (w : World) (h : PMay size sectors) (hi : id < 4294967296) :
    Calls Tryd.prog 11 #[.int .i64 size, .int .i64 sectors, .int .u32 id] w fun e w' => ∃ g vs vl us, e = .returned (.tuple #[.pointer (some ⟨g, 0, none⟩), .int .i64 0]) ∧ DL g (PSt.new size sectors id) (List.replicate (size * sectors) 0) w' vs vl us ∧ Same w w' ∧ ∀ k, dA g vs vl us k → w.heap.size ≤ k := by
  have HM := hidden (fun W => power_any (size : Int) W)
  rw [decide_eq_true h.1] at HM
  have ok := PSt.new_ok size sectors id h hi
  have OK := hidden ok
  obtain ⟨⟨h4, h5, _⟩, h2, h3⟩ := h
  have hle : size * sectors ≤ 262144 := Nat.mul_le_mul (show size ≤ 4096 by omega) (show sectors ≤ 64 by omega)
  have hX : (size : Int) * (sectors : Int) = ((size * sectors : Nat) : Int) := by simp
  obtain ⟨N, hN⟩ : ∃ N, size * sectors = N := ⟨_, rfl⟩
  rw [hN] at hX hle ⊢
  have hw : IntKind.i64.wrap ((size : Int) * (sectors : Int)) = (N : Int) := by rw [hX, IntKind.wrap_i64]; omega
  have hmk := make_bytes N (by omega)
  have q1 : ¬ (sectors : Int) < 1 := by omega
  have q2 : ¬ (64 : Int) < (sectors : Int) := by omega
  have HLE := hidden hle
  clear h2 h3 h4 h5 ok hN hX hle
  go_enter Tryd.func11, Tryd.ntmps11
  go_wp2_with (go_at_call 37; refine (HM.out _).mono ?_; rintro e w1' ⟨rfl, rfl⟩)
  go_returns
  have hB0 := blk_new w (.cells (List.replicate N (U8 0)).toArray 5 (0, 0))
  have k0 : Same w (w.alloc (.cells (List.replicate N (U8 0)).toArray 5 (0, 0))) := same_alloc _ _
  have hsz : (w.alloc (.cells (List.replicate N (U8 0)).toArray 5 (0, 0))).heap.size = w.heap.size + 1 := by simp
  have ha : (List.replicate N (U8 0)).toArray = Array.replicate N (U8 0) := by simp
  rw [← ha]
  generalize w.alloc (.cells (List.replicate N (U8 0)).toArray 5 (0, 0)) = W1 at *
  have hB1 := blk_new W1 (.cells (DCells (PSt.new size sectors id) (.slice none 0 0) (.slice (some ⟨w.heap.size, 0, none⟩) N N)) 73 (0, 0))
  have k1 := same_alloc W1 (.cells (DCells (PSt.new size sectors id) (.slice none 0 0) (.slice (some ⟨w.heap.size, 0, none⟩) N N)) 73 (0, 0))
  rw [hsz] at hB1
  have hb2 := blk_kept k1 (fun h => h) hB0
  have hr : ((List.replicate N (0 : UInt8)).map U8) = List.replicate N (U8 0) := by simp
  have hlast := ownM_made _ (List.replicate N (0 : UInt8)) w.heap.size (by have := HLE.out; rw [List.length_replicate]; unfold maxLen; omega) (by rw [hr]; exact hb2)
  rw [List.length_replicate] at hlast
  refine ⟨_, _, _, [], rfl, ⟨hB1, by simp [PSt.new], OwnM.nil _ _ _, fun i c u hc hu => by simp at hu, by rw [List.length_replicate]; exact hlast, OK.out⟩, k0.trans k1, fun k hk => ?_⟩
  rcases hk with rfl | hk | hk | ⟨u, hu, _⟩
  · omega
  · simp [Value.ownBlock] at hk
  · simp [Value.ownBlock] at hk; omega
  · simp at hu
end Go.Proofs.YtafdkfieajdeiaaDoor
namespace Go.Proofs.YtafdkfieajdeiaaDoor
open Go.RowKit
set_option linter.unusedVariables false
set_option linter.unusedSimpArgs false
set_option maxHeartbeats 1000000 in
set_option maxRecDepth 100000 in
theorem d_backNo {g : Nat} {s : PSt} {last : List UInt8} {w : World} {vs vl : Value} {us : List Value} (h : DL g s last w vs vl us) (m : Int) (hm : ¬ ((s.tslots : Int) ≤ m ∧ m ≤ s.chunks.length)) :
    Calls Tryd.prog 47 #[.pointer (some ⟨g, 0, none⟩), .int .i64 m] w fun e w' => e = .returned (.int .i64 1) ∧ Same w w' := by
  obtain ⟨va, vc, rfl, _⟩ := h.row.form
  have c3 : w.cell? ⟨g, 3, none⟩ = some (.slice va us.length vc) := blk_cell h.box
  have c6 : w.cell? ⟨g, 6, none⟩ = some (.int .i64 s.tslots) := blk_cell h.box
  rw [h.len] at c3
  clear h
  by_cases hlt : m < (s.tslots : Int)
  · clear hm
    go_enter Tryd.func47, Tryd.ntmps47
    go_wp2
    go_returns
    exact ⟨rfl, Kept.refl _ _⟩
  · have hgt : (s.chunks.length : Int) < m := by omega
    clear hm
    go_enter Tryd.func47, Tryd.ntmps47
    go_wp2
    go_returns
    exact ⟨rfl, Kept.refl _ _⟩
theorem infoB : (Tryd.prog.info? 32).map (fun i => (i.zero, i.size, i.bytes)) = some (some (.slice none 0 0), 1, 24) := by kernel_rfl
theorem size_rowB (W : World) : (sizeOf (Tryd.prog.elem 57)).run Tryd.prog W = .ok 1 W := by
  obtain ⟨i0, hi, hz0, hz1, hz2⟩ := info_parts infoB
  rw [show Tryd.prog.elem 57 = 32 by kernel_rfl]
  simp [sizeOf, typeInfo, hi, hz1]
set_option maxRecDepth 100000 in
theorem lead_rows {w : World} {a : Option Addr} {c : Nat} {us : List Value} (h : OwnM w 32 1 (.slice a us.length c) us.length us) (m : Nat) (hm : m ≤ us.length) :
    (∀ W, (Instr.sliceAt 57 (.slice a us.length c) none (some (.int .i64 (m : Nat))) none).run Tryd.prog W = .ok (.slice a m c) W) ∧ OwnM w 32 1 (.slice a m c) m (us.take m) := by
  rcases h.ex with ⟨e, h0⟩ | ⟨g, cap', cur, fz, e, hg, _, hn, _⟩
  · have : us = [] := List.eq_nil_of_length_eq_zero (by omega)
    subst this
    cases e
    obtain rfl : m = 0 := by simp at hm; exact hm
    refine ⟨fun W => ?_, OwnM.nil _ _ _⟩
    rw [run_sliceAt_slice (h := Tryd.underlying57), run_slice_h (ht := Tryd.underlying57) (h0 := by omega) (h2 := by omega), size_rowB]
    simp [sliced]
  · cases e
    refine ⟨fun W => ?_, ?_⟩
    · rw [run_sliceAt_slice (h := Tryd.underlying57), run_slice_h (ht := Tryd.underlying57) (h0 := by omega) (h2 := by omega), size_rowB]
      simp [sliced, Addr.add]
    · have := OwnM.take h hm
      rwa [Nat.mul_one] at this
theorem rows_lies {w : World} {a : Option Addr} {c m : Nat} {us : List Value} (h : OwnM w 32 1 (.slice a m c) m us) : Lies w a m us := by
  intro h0
  rcases h.ex with ⟨_, e⟩ | ⟨g, cap', cur, fz, e, hg, _, hn, _⟩
  · omega
  · cases e
    refine ⟨_, rfl, fun j u hu => ?_⟩
    rw [add_none, Nat.zero_add]
    exact OwnM.cells h rfl j u hu
theorem DL.one {g : Nat} {s : PSt} {last : List UInt8} {w : World} {vs vl : Value} {us : List Value} (h : DL g s last w vs vl us) : ∀ u ∈ us, u.oneCell' = true := by
  intro u hu
  obtain ⟨i, hi, rfl⟩ := List.mem_iff_getElem.1 hu
  have hic : i < s.chunks.length := by have := h.len; omega
  obtain ⟨a, c, e, _⟩ := (h.chunks i s.chunks[i] us[i] (List.getElem?_eq_getElem (by have := h.len; omega)) (List.getElem?_eq_getElem hi)).form
  rw [e]
  rfl
set_option maxHeartbeats 1000000 in
set_option maxRecDepth 100000 in
theorem d_backYes {g : Nat} {s : PSt} {last : List UInt8} {w : World} {vs vl : Value} {us : List Value} (h : DL g s last w vs vl us) (m : Nat) (hm0 : s.tslots ≤ m) (hm1 : m ≤ s.chunks.length) :
    Calls Tryd.prog 47 #[.pointer (some ⟨g, 0, none⟩), .int .i64 (m : Nat)] w fun e w' => e = .returned (.int .i64 0) ∧ ∃ vs', DL g (s.back m) last w' vs' vl (us.take m) ∧ Kept (fun k => k = g) w w' ∧ ∀ k, vs'.ownBlock = some k → w.heap.size ≤ k := by
  obtain ⟨i0, hi, hz0, hz1, hz2⟩ := info_parts infoB
  have HH := hidden h
  have hmany := h.ok.many
  have hlen := h.len
  have hmu : m ≤ us.length := by omega
  obtain ⟨va, vc, rfl, _⟩ := h.row.form
  obtain ⟨hsl, orow⟩ := lead_rows h.row m hmu
  have HR := hidden orow
  have c3 : w.cell? ⟨g, 3, none⟩ = some (.slice va us.length vc) := blk_cell h.box
  have c6 : w.cell? ⟨g, 6, none⟩ = some (.int .i64 s.tslots) := blk_cell h.box
  have c3' : (w.alloc (.cells #[] 32)).cell? ⟨g, 3, none⟩ = some (.slice va us.length vc) := blk_cell (blk_alloc h.box _)
  have q0 : ¬ (m : Int) < (s.tslots : Int) := by omega
  have q1 : ¬ (us.length : Int) < (m : Int) := by omega
  have hone := hidden (fun u (hu : u ∈ us.take m) => h.one u (List.mem_of_mem_take hu))
  have m1 : Hid (0 + m ≤ maxLen) := by rw [Hid]; unfold maxLen; omega
  have m2 : Hid ((0 + m) * 24 ≤ 140737488355328) := by rw [Hid]; omega
  have hml : Hid ((us.take m).length = m * 1) := hidden (by rw [List.length_take]; omega)
  have OK := hidden (PSt.back_ok h.ok m hm0 hm1)
  clear h hmany hlen hmu orow
  go_enter Tryd.func47, Tryd.ntmps47
  go_wp2_with (refine wpList_append_any rfl _ _ 57 rfl w.heap.size 32 i0 (.slice none 0 0) 1 24 Tryd.underlying57 hi hz0 hz1 hz2 rfl (by decide) _ 0 0 [] rfl (World.ownsRow_made w #[] 0 (Nat.le_refl _) (by decide) (by decide)) va m vc (us.take m) rfl hml.out (rows_lies (HR.out.same (same_alloc _ _))) hone.out m1.out m2.out (by simp) ?_; intro a1 e1 w1 ho1 hg1; rw [Nat.zero_add, List.nil_append] at ho1; have k1 : Same w w1 := ((Kept.refl (fun _ => False) w).alloc _).grown hg1 (fun k hk hl => by simp [Value.ownBlock] at hk; omega); have hb1 := blk_kept k1 (fun h => h) HH.out.box; have HB1 := hidden hb1; have K1 := hidden k1; have HO1 := hidden ho1; have x3 : w1.cell? ⟨g, 3, none⟩ = some (.slice va us.length vc) := blk_cell hb1; have f3 : w1.frozen? ⟨g, 3, none⟩ = false := blk_free hb1; have hb2 := blk_set (j := 3) hb1 (.slice a1 m e1); have x7 : (w1.setCell ⟨g, 3, none⟩ (.slice a1 m e1)).cell? ⟨g, 7, none⟩ = some (.bool s.tshut) := blk_cell hb2; have x4 : (w1.setCell ⟨g, 3, none⟩ (.slice a1 m e1)).cell? ⟨g, 4, none⟩ = some (.bool s.shut) := blk_cell hb2; have f4 : (w1.setCell ⟨g, 3, none⟩ (.slice a1 m e1)).frozen? ⟨g, 4, none⟩ = false := blk_free hb2; have f4' : w1.frozen? ⟨g, 4, none⟩ = false := blk_free hb1; clear ho1 hg1 k1 hb1 hb2)
  go_returns
  have K : Kept (fun k => k = g) w1 ((w1.setCell ⟨g, 3, none⟩ (.slice a1 m e1)).setCell ⟨g, 4, none⟩ (.bool s.tshut)) := Kept.setCell (p := ⟨g, 4, none⟩) (Kept.setCell (p := ⟨g, 3, none⟩) (Kept.refl (fun k => k = g) w1) rfl _) rfl _
  have hB := blk_set (j := 4) (blk_set (j := 3) HB1.out (.slice a1 m e1)) (.bool s.tshut)
  have hfresh : ∀ k, (Value.slice a1 m e1).ownBlock = some k → w.heap.size ≤ k := fun k hk => (HO1.out.lt k hk).1
  have hl := hml.out
  refine ⟨rfl, _, ⟨hB, ?_, ?_, fun i c u hc hu => ?_, ?_, OK.out⟩, (K1.out.mono (fun _ _ h => h.elim) : Kept (fun k => k = g) w w1).trans K, hfresh⟩
  · have := HH.out.len
    show (us.take m).length = (s.chunks.take m).length
    rw [List.length_take, List.length_take, this]
  · rw [show (us.take m).length = m by omega]
    exact (OwnM.of HO1.out).kept K (fun k hk e => own_apart HO1.out HB1.out (by decide) (by rw [hk, e]))
  · have h1 : s.chunks[i]? = some c := by
      have hc' : (s.chunks.take m)[i]? = some c := hc
      rw [List.getElem?_take] at hc'
      split at hc'
      · exact hc'
      · cases hc'
    have h2 : us[i]? = some u := by
      rw [List.getElem?_take] at hu
      split at hu
      · exact hu
      · cases hu
    have h3 := (HH.out.chunks i c u h1 h2).same K1.out
    exact h3.kept K (fun k hk e => by subst e; exact h3.apart HB1.out (by decide) hk)
  · have h3 := HH.out.last.same K1.out
    exact h3.kept K (fun k hk e => by subst e; exact h3.apart HB1.out (by decide) hk)
end Go.Proofs.YtafdkfieajdeiaaDoor
namespace Go.Proofs.YtafdkfieajdeiaaDoor
open Go.RowKit
set_option linter.unusedVariables false
set_option linter.unusedSimpArgs false
set_option maxHeartbeats 1000000 in
set_option maxRecDepth 100000 in
theorem d_fork {g : Nat} {s : PSt} {last : List UInt8} {w : World} {vs vl : Value} {us : List Value} (h : DL g s last w vs vl us) (hl : last.length ≤ 262144) :
    Calls Tryd.prog 34 #[.pointer (some ⟨g, 0, none⟩)] w fun e w' => ∃ vs' vl', e = .returned (.pointer (some ⟨w.heap.size, 0, none⟩)) ∧ DL w.heap.size s last w' vs' vl' us ∧ Same w w' ∧ (∀ k, vs'.ownBlock = some k → w.heap.size ≤ k) ∧ ∀ k, vl'.ownBlock = some k → w.heap.size ≤ k := by
  obtain ⟨i0, hi, hz0, hz1, hz2⟩ := info_parts infoB
  obtain ⟨i1, hj, hy0, hy1, hy2⟩ := info_parts info5
  have HH := hidden h
  have hmany := h.ok.many
  have hlen := h.len
  obtain ⟨va, vc, rfl, _⟩ := h.row.form
  obtain ⟨la, lc, rfl, _⟩ := h.last.form
  have HR := hidden h.row
  have HLt := hidden (Bt.ownM h.last)
  have hone := hidden h.one
  have m1 : Hid (0 + us.length ≤ maxLen) := by rw [Hid]; unfold maxLen; omega
  have m2 : Hid ((0 + us.length) * 24 ≤ 140737488355328) := by rw [Hid]; omega
  have m3 : Hid (0 + last.length ≤ maxLen) := by rw [Hid]; unfold maxLen; omega
  have m4 : Hid ((0 + last.length) * 1 ≤ 140737488355328) := by rw [Hid]; omega
  have hml : Hid (us.length = us.length * 1) := hidden (by omega)
  have HLN := hidden hlen
  have c0 : w.cell? ⟨g, 0, none⟩ = some (.int .i64 s.size) := blk_cell h.box
  have c1 : w.cell? ⟨g, 1, none⟩ = some (.int .i64 s.sectors) := blk_cell h.box
  have c2 : w.cell? ⟨g, 2, none⟩ = some (.int .u32 s.id) := blk_cell h.box
  have c3 : w.cell? ⟨g, 3, none⟩ = some (.slice va us.length vc) := blk_cell h.box
  have c4 : w.cell? ⟨g, 4, none⟩ = some (.bool s.shut) := blk_cell h.box
  have c5 : w.cell? ⟨g, 5, none⟩ = some (.slice la last.length lc) := blk_cell h.box
  have c6 : w.cell? ⟨g, 6, none⟩ = some (.int .i64 s.tslots) := blk_cell h.box
  have c7 : w.cell? ⟨g, 7, none⟩ = some (.bool s.tshut) := blk_cell h.box
  have HN := hidden (blk_new w (.cells (DCells s (.slice va us.length vc) (.slice la last.length lc)) 73))
  have HS := hidden (same_alloc w (.cells (DCells s (.slice va us.length vc) (.slice la last.length lc)) 73))
  have d3 : ((w.alloc (.cells #[.int .i64 s.size, .int .i64 s.sectors, .int .u32 s.id, .slice va us.length vc, .bool s.shut, .slice la last.length lc, .int .i64 s.tslots, .bool s.tshut] 73)).alloc (.cells #[] 32)).cell? ⟨g, 3, none⟩ = some (.slice va us.length vc) := blk_cell (blk_alloc (blk_alloc h.box _) _)
  unfold DCells at HS
  have hmd := World.ownsRow_made (base := w.heap.size) (e := 32) (size := 1) (w.alloc (.cells #[.int .i64 s.size, .int .i64 s.sectors, .int .u32 s.id, .slice va us.length vc, .bool s.shut, .slice la last.length lc, .int .i64 s.tslots, .bool s.tshut] 73)) #[] 0 (by simp) (by decide) (by decide)
  rw [show (w.alloc (.cells #[.int .i64 s.size, .int .i64 s.sectors, .int .u32 s.id, .slice va us.length vc, .bool s.shut, .slice la last.length lc, .int .i64 s.tslots, .bool s.tshut] 73)).heap.size = w.heap.size + 1 by simp] at hmd
  have HMD := hidden hmd
  clear hmd
  clear h hmany hlen
  go_enter Tryd.func34, Tryd.ntmps34
  go_wp2_with (first
    | (refine wpList_append_any rfl _ _ 57 rfl w.heap.size 32 i0 (.slice none 0 0) 1 24 Tryd.underlying57 hi hz0 hz1 hz2 rfl (by decide) _ 0 0 [] rfl HMD.out va us.length vc us rfl hml.out (rows_lies (HR.out.same (HS.out.alloc _))) hone.out m1.out m2.out (by simp; omega) ?_; intro a1 e1 w2 ho1 hg1; rw [Nat.zero_add, List.nil_append] at ho1; have k01 : Same (w.alloc (.cells (DCells s (.slice va us.length vc) (.slice la last.length lc)) 73)) w2 := (same_alloc _ _).grown hg1 (fun k hk hl => by simp [Value.ownBlock] at hk; simp at hl; omega); have k1 : Same w w2 := HS.out.trans k01; have b2 := blk_kept k01 (fun h => h) HN.out; have HB2 := hidden b2; have K1 := hidden k1; have HO1 := hidden ho1; have x3 : w2.cell? ⟨w.heap.size, 3, none⟩ = some (.slice va us.length vc) := blk_cell b2; have f3 : w2.frozen? ⟨w.heap.size, 3, none⟩ = false := blk_free b2; have b3 := blk_set (j := 3) b2 (.slice a1 us.length e1); have HB3 := hidden b3; have kx : Same w (w2.setCell ⟨w.heap.size, 3, none⟩ (.slice a1 us.length e1)) := Kept.setNew k1 (p := ⟨w.heap.size, 3, none⟩) (Nat.le_refl _) _; have KX := hidden kx; have d5 : ((w2.setCell ⟨w.heap.size, 3, none⟩ (.slice a1 us.length e1)).alloc (.cells #[] 5)).cell? ⟨g, 5, none⟩ = some (.slice la last.length lc) := blk_cell (blk_alloc (blk_kept kx (fun h => h) HH.out.box) _); have hmd := World.ownsRow_made (base := w.heap.size) (e := 5) (size := 1) (w2.setCell ⟨w.heap.size, 3, none⟩ (.slice a1 us.length e1)) #[] 0 kx.size (by decide) (by decide); rw [show (w2.setCell ⟨w.heap.size, 3, none⟩ (.slice a1 us.length e1)).heap.size = w2.heap.size by simp] at hmd; have HMD2 := hidden hmd; clear ho1 hg1 k1 k01 b2 b3 kx hmd)
    | (refine wpList_append_any rfl _ _ 32 rfl w.heap.size 5 i1 (.int .u8 0) 1 1 Tryd.underlying32 hj hy0 hy1 hy2 rfl (by decide) _ 0 0 [] rfl HMD2.out la last.length lc (last.map U8) rfl (by rw [List.length_map, Nat.mul_one]) ((HLt.out.same (KX.out.alloc _)).lies) (U8_all last) m3.out m4.out (by have := KX.out.size; simp at this ⊢; omega) ?_; intro a2 e2 w3 ho2 hg2; rw [Nat.zero_add, List.nil_append] at ho2; have k03 : Same (w2.setCell ⟨w.heap.size, 3, none⟩ (.slice a1 us.length e1)) w3 := (same_alloc _ _).grown hg2 (fun k hk hl => by simp [Value.ownBlock] at hk; simp at hl; omega); have b4 := blk_kept k03 (fun h => h) HB3.out; have HB4 := hidden b4; have K03 := hidden k03; have HO2 := hidden ho2; have x5 : w3.cell? ⟨w.heap.size, 5, none⟩ = some (.slice la last.length lc) := blk_cell b4; have f5 : w3.frozen? ⟨w.heap.size, 5, none⟩ = false := blk_free b4; clear ho2 hg2 k03 b4))
  go_returns
  have hB := blk_set (j := 5) HB4.out (.slice a2 last.length e2)
  have K3 : Kept (fun k => k = w.heap.size) w3 (w3.setCell ⟨w.heap.size, 5, none⟩ (.slice a2 last.length e2)) := Kept.setCell (p := ⟨w.heap.size, 5, none⟩) (Kept.refl (fun k => k = w.heap.size) w3) rfl _
  have K2 : Kept (fun k => k = w.heap.size) w2 (w3.setCell ⟨w.heap.size, 5, none⟩ (.slice a2 last.length e2)) := ((Kept.setCell (p := ⟨w.heap.size, 3, none⟩) (Kept.refl (fun k => k = w.heap.size) w2) rfl (.slice a1 us.length e1)).trans (K03.out.mono (fun _ _ h => h.elim))).trans K3
  have KS : Same w (w3.setCell ⟨w.heap.size, 5, none⟩ (.slice a2 last.length e2)) := Kept.setNew (KX.out.trans K03.out) (p := ⟨w.heap.size, 5, none⟩) (Nat.le_refl _) _
  exact ⟨_, _, rfl, ⟨hB, HLN.out, (OwnM.of HO1.out).kept K2 (fun k hk e => own_apart HO1.out HB2.out (by decide) (by rw [hk, e])), fun i c u hc hu => (HH.out.chunks i c u hc hu).same KS, (OwnM.of HO2.out).kept K3 (fun k hk e => own_apart HO2.out HB4.out (by decide) (by rw [hk, e])), HH.out.ok⟩, KS, fun k hk => (HO1.out.lt k hk).1, fun k hk => (HO2.out.lt k hk).1⟩
end Go.Proofs.YtafdkfieajdeiaaDoor
namespace Go.Proofs.YtafdkfieajdeiaaDoor
open Go.RowKit
set_option linter.unusedVariables false
set_option linter.unusedSimpArgs false
set_option maxHeartbeats 1000000 in
set_option maxRecDepth 100000 in
theorem d_appNo {g : Nat} {s : PSt} {last : List UInt8} {w : World} {vs vl : Value} {us : List Value} (h : DL g s last w vs vl us) (v : Value) (b : List UInt8) (hb : Bt w v b) (hl : b.length ≤ 140737488351232) (hno : s.appErr b.length ≠ 0) :
    Calls Tryd.prog 43 #[.pointer (some ⟨g, 0, none⟩), v] w fun e w' => e = .returned (.tuple #[.agg #[.int .i64 0, .int .i64 0], .int .i64 (s.appErr b.length)]) ∧ Same w w' := by
  obtain ⟨ao, cap, rfl, _⟩ := hb.form
  have HL := hidden (fun W (k : Same w W) => d_left (h.same k))
  have HB := hidden h.box
  have HN := hidden (blk_new w (.cells #[.int .i64 0, .int .i64 0] 34))
  have HS := hidden (same_alloc w (.cells #[.int .i64 0, .int .i64 0] 34))
  have c4 : (w.alloc (.cells #[.int .i64 0, .int .i64 0] 34)).cell? ⟨g, 4, none⟩ = some (.bool s.shut) := blk_cell (blk_kept HS.out (fun h => h) h.box)
  have r0 : (w.alloc (.cells #[.int .i64 0, .int .i64 0] 34)).cell? ⟨w.heap.size, 0, none⟩ = some (.int .i64 0) := blk_cell HN.out
  have r1 : (w.alloc (.cells #[.int .i64 0, .int .i64 0] 34)).cell? ⟨w.heap.size, 1, none⟩ = some (.int .i64 0) := blk_cell HN.out
  have f0 : (w.alloc (.cells #[.int .i64 0, .int .i64 0] 34)).frozen? ⟨w.heap.size, 0, none⟩ = false := blk_free HN.out
  have f1 : (w.alloc (.cells #[.int .i64 0, .int .i64 0] 34)).frozen? ⟨w.heap.size, 1, none⟩ = false := blk_free HN.out
  clear hb h
  cases hs : s.shut with
  | true =>
    have he : s.appErr b.length = 6 := by unfold PSt.appErr; rw [hs]; rfl
    rw [he]
    rw [hs] at c4
    clear hs he hno
    go_enter Tryd.func43, Tryd.ntmps43
    go_wp2
    exact bodyPost_ret (v := .tuple #[.agg #[.int .i64 0, .int .i64 0], .int .i64 6]) (by simp [results, Tryd.results43, go_sem, r0, r1]; try rfl) rfl ⟨rfl, HS.out⟩
  | false =>
    rw [hs] at c4
    by_cases h0 : b.length = 0
    · have he : s.appErr b.length = 1 := by unfold PSt.appErr; rw [hs, h0]; rfl
      rw [he]
      rw [h0]
      clear hs he hno
      go_enter Tryd.func43, Tryd.ntmps43
      go_wp2
      exact bodyPost_ret (v := .tuple #[.agg #[.int .i64 0, .int .i64 0], .int .i64 1]) (by simp [results, Tryd.results43, go_sem, r0, r1]; try rfl) rfl ⟨rfl, HS.out⟩
    · have hlt : s.left < b.length := by
        rcases Nat.lt_or_ge s.left b.length with h | h
        · exact h
        · refine absurd ?_ hno
          unfold PSt.appErr
          rw [hs, if_neg (by simp), if_neg h0, if_neg (by omega)]
      have he : s.appErr b.length = 2 := by unfold PSt.appErr; rw [hs, if_neg (by simp), if_neg h0, if_pos hlt]
      rw [he]
      have q0 : ((b.length : Int) == 0) = false := by rw [beq_eq_false_iff_ne]; omega
      have q1 : ¬ (b.length : Int) = 0 := by omega
      have q2 : (s.left : Int) < (b.length : Int) := by omega
      clear hs he hno hlt h0
      go_enter Tryd.func43, Tryd.ntmps43
      go_wp2_with (go_at_call 44; refine (HL.out _ HS.out).mono ?_; rintro e w2 ⟨rfl, k2⟩; have b2 := blk_kept k2 (fun h => h) HN.out; have HB2 := hidden b2; have x0 : w2.cell? ⟨w.heap.size, 0, none⟩ = some (.int .i64 0) := blk_cell b2; have x1 : w2.cell? ⟨w.heap.size, 1, none⟩ = some (.int .i64 0) := blk_cell b2; have g0 : w2.frozen? ⟨w.heap.size, 0, none⟩ = false := blk_free b2; have g1 : w2.frozen? ⟨w.heap.size, 1, none⟩ = false := blk_free b2; have K2 := hidden (HS.out.trans k2); clear b2 k2)
      have C := blk_set (j := 1) (blk_set (j := 0) HB2.out (.int .i64 0)) (.int .i64 0)
      have y0 : ((w2.setCell ⟨w.heap.size, 0, none⟩ (.int .i64 0)).setCell ⟨w.heap.size, 1, none⟩ (.int .i64 0)).cell? ⟨w.heap.size, 0, none⟩ = some (.int .i64 0) := blk_cell C
      have y1 : ((w2.setCell ⟨w.heap.size, 0, none⟩ (.int .i64 0)).setCell ⟨w.heap.size, 1, none⟩ (.int .i64 0)).cell? ⟨w.heap.size, 1, none⟩ = some (.int .i64 0) := blk_cell C
      have KS : Same w ((w2.setCell ⟨w.heap.size, 0, none⟩ (.int .i64 0)).setCell ⟨w.heap.size, 1, none⟩ (.int .i64 0)) := Kept.setNew (Kept.setNew K2.out (p := ⟨w.heap.size, 0, none⟩) (Nat.le_refl _) _) (p := ⟨w.heap.size, 1, none⟩) (Nat.le_refl _) _
      exact bodyPost_ret (v := .tuple #[.agg #[.int .i64 0, .int .i64 0], .int .i64 2]) (by simp [results, Tryd.results43, go_sem, y0, y1]; try rfl) rfl ⟨rfl, KS⟩
end Go.Proofs.YtafdkfieajdeiaaDoor
namespace Go.Proofs.YtafdkfieajdeiaaDoor
open Go.RowKit
set_option linter.unusedVariables false
set_option linter.unusedSimpArgs false
theorem read_none_all {s : PSt} {o n : Int} (h : ∀ (i : Nat) (x : Nat × Nat), s.slots[i]? = some x → ¬ ((x.1 : Int) = o ∧ (x.2 : Int) = n)) : s.read o n = none := by
  unfold PSt.read
  rw [Option.map_eq_none_iff, List.find?_eq_none]
  intro x hx
  obtain ⟨i, h1, _⟩ := zip_at hx
  simpa using h i x.1 h1
set_option maxHeartbeats 2000000 in
set_option maxRecDepth 100000 in
theorem d_read {g : Nat} {s : PSt} {last : List UInt8} {w : World} {vs vl : Value} {us : List Value} (h : DL g s last w vs vl us) (o n : Int) :
    Calls Tryd.prog 45 #[.pointer (some ⟨g, 0, none⟩), .agg #[.int .i64 o, .int .i64 n]] w fun e w' => ∃ u, e = .returned (.tuple #[u, .int .i64 (if (s.read o n).isSome then 0 else 130)]) ∧ Bt w' u ((s.read o n).getD []) ∧ Same w w' := by
  obtain ⟨i1, hj, hy0, hy1, hy2⟩ := info_parts info5
  have HH := hidden h
  have hmany := h.ok.many
  have hsl0 : s.slots.length = s.chunks.length := slotsFrom_len _ _
  have hroom := h.ok.room
  have hb1 := h.ok.b1
  have hbl := s.bs_len
  have HLC : Hid (∀ (i : Nat) (c : List UInt8), s.chunks[i]? = some c → c.length ≤ 262144) := hidden (fun i c hc => by
    obtain ⟨hi, rfl⟩ := List.getElem?_eq_some_iff.1 hc
    have h1 := body_take_succ s.chunks i hi
    have h2 := body_take_le s.chunks (i + 1)
    omega)
  obtain ⟨va, vc, rfl, _⟩ := h.row.form
  have HSl := hidden (fun W (k : Same w W) => d_slots (h.same k))
  have HC3 : Hid (∀ W, Same w W → W.cell? ⟨g, 3, none⟩ = some (.slice va us.length vc)) := hidden (fun W k => blk_cell (h.same k).box)
  have HN := hidden (blk_new w (.cells #[.int .i64 o, .int .i64 n] 34))
  have HS := hidden (same_alloc w (.cells #[.int .i64 o, .int .i64 n] 34))
  have HLN := hidden h.len
  have HS0 := hidden hsl0
  have hn3 : s.slots.length ≤ 32768 := by rw [hsl0]; exact hmany
  clear h hmany hsl0 hroom hb1 hbl
  obtain ⟨N, hN⟩ : ∃ N, s.slots.length = N := ⟨_, rfl⟩
  rw [hN] at hn3
  have HNN := hidden hN
  clear hN
  obtain ⟨E, hE⟩ : ∃ E : Int, (if (s.read o n).isSome then 0 else 130) = E := ⟨_, rfl⟩
  obtain ⟨D, hD⟩ : ∃ D, (s.read o n).getD [] = D := ⟨_, rfl⟩
  rw [hE, hD]
  have HE := hidden hE
  have HD := hidden hD
  clear hE hD
  go_enter Tryd.func45, Tryd.ntmps45
  go_wp2_with (go_at_call 22; refine (HSl.out _ HS.out).mono ?_; rintro e w2 ⟨u, rfl, hu, k2⟩; obtain ⟨la, lc, rfl, _⟩ := hu.form; rw [HNN.out]; have HU := hidden hu; have hb2 := blk_kept k2 (fun h => h) HN.out; have HB2 := hidden hb2; have K2 := hidden (HS.out.trans k2); clear hu hb2 k2)
  go_loopw [7] (fun i wr => ∃ k : Nat, k ≤ N ∧ i = .int .i64 k ∧ (∀ j x, j < k → s.slots[j]? = some x → ¬ ((x.1 : Int) = o ∧ (x.2 : Int) = n)) ∧ Same w2 wr) (fun i wr => N - (intOf i).toNat)
  case atStart => exact ⟨0, Nat.zero_le _, rfl, fun j x hj => absurd hj (Nat.not_lt_zero j), Kept.refl _ _⟩
  case round =>
    obtain ⟨k, hk, rfl, hno, hs⟩ := hrel
    have HNo := hidden hno
    have HK := hidden hs
    by_cases h1 : k < N
    · have hks : k < s.slots.length := by rw [HNN.out]; exact h1
      have hkc : k < s.chunks.length := by have := HS0.out; omega
      have hku : k < us.length := by have := HLN.out; omega
      obtain ⟨g1, rfl, hc1⟩ := HU.out.at (by omega)
      obtain ⟨x1, x2⟩ := hc1 k hks
      have X1 := Kept.cell hs (fun h => h) x1
      have X2 := Kept.cell hs (fun h => h) x2
      have hb3 := blk_kept hs (fun h => h) HB2.out
      have Y1 : wr.cell? ⟨w.heap.size, 0, none⟩ = some (.int .i64 o) := blk_cell hb3
      have Y2 : wr.cell? ⟨w.heap.size, 1, none⟩ = some (.int .i64 n) := blk_cell hb3
      have HAt := hidden (List.getElem?_eq_getElem hks)
      obtain ⟨⟨A, B⟩, hx⟩ : ∃ x, s.slots[k] = x := ⟨_, rfl⟩
      rw [hx] at X1 X2 HAt
      have q0 : (0 : Int) ≤ (k : Int) := Int.natCast_nonneg _
      have q1 : (k : Int) < (N : Int) := by omega
      have HEq := fun W => slotI_eq W (A : Nat) (B : Nat) o n
      have HCk := hidden (List.getElem?_eq_getElem hkc)
      have HUk := hidden (List.getElem?_eq_getElem hku)
      clear hno hs hc1 x1 x2 hb3 hx
      by_cases hz : (A : Int) = o ∧ (B : Int) = n
      · rw [decide_eq_true hz] at HEq
        have hr : s.read o n = some s.chunks[k] := by rw [PSt.read_at HAt.out HCk.out hz.1, if_pos hz.2]
        have HR := hidden hr
        have hq := HH.out.chunks k s.chunks[k] us[k] HCk.out HUk.out
        obtain ⟨ca, cc, hcf, _⟩ := hq.form
        have hle := HLC.out k _ HCk.out
        rcases HH.out.row.ex with ⟨_, h0⟩ | ⟨vb, cap', cur, fz, hv, _⟩
        · omega
        · cases hv
          have hrow := HH.out.row
          have KA : Hid (∀ m, Same w ((wr.drewN m).alloc (.cells #[] 5))) := hidden (fun m => (((K2.out.trans HK.out).drewN m)).alloc _)
          have C3 : ∀ m, ((wr.drewN m).alloc (.cells #[] 5)).cell? ⟨g, 3, none⟩ = some (.slice (some ⟨vb, 0, none⟩) us.length vc) := fun m => HC3.out _ (KA.out m)
          have C5 : ∀ m, ((wr.drewN m).alloc (.cells #[] 5)).cell? ⟨vb, k, none⟩ = some (us[k]) := fun m => OwnM.cells (hrow.same (KA.out m)) rfl k _ HUk.out
          rw [hcf] at C5 hq
          have HQ := hidden (Bt.ownM hq)
          obtain ⟨c, hc⟩ : ∃ c, s.chunks[k] = c := ⟨_, rfl⟩
          rw [hc] at C5 HQ HR hle
          have HMD : Hid (∀ m, ((wr.drewN m).alloc (.cells #[] 5)).ownsRow w.heap.size 5 1 (.slice (some ⟨wr.heap.size, 0, none⟩) 0 0) 0 []) := hidden (fun m => by
            have := World.ownsRow_made (base := w.heap.size) (e := 5) (size := 1) (wr.drewN m) #[] 0 ((K2.out.trans HK.out).drewN m).size (by decide) (by decide)
            simpa using this)
          have m1 : Hid (0 + c.length ≤ maxLen) := by rw [Hid]; unfold maxLen; omega
          have m2 : Hid ((0 + c.length) * 1 ≤ 140737488355328) := by rw [Hid]; omega
          have q2 : (k : Int) < (us.length : Int) := by omega
          have HSW := hidden (K2.out.trans HK.out).size
          clear hr hq hcf hle hrow hz hc
          go_wp2
          go_quiet (fail)
          go_wp2_with (refine wpList_append_any rfl _ _ 32 rfl w.heap.size 5 i1 (.int .u8 0) 1 1 Tryd.underlying32 hj hy0 hy1 hy2 rfl (by decide) _ 0 0 [] rfl (HMD.out _) ca c.length cc (c.map U8) rfl (by rw [List.length_map, Nat.mul_one]) ((HQ.out.same (KA.out _)).lies) (U8_all c) m1.out m2.out (by have := HSW.out; simp; omega) ?_; intro a1 e1 w3 ho1 hg1; rw [Nat.zero_add, List.nil_append] at ho1; have k3 : Same w w3 := (KA.out _).grown hg1 (fun k hk hl => by have := HSW.out; simp [Value.ownBlock] at hk; omega); have K3 := hidden k3; have HO1 := hidden ho1; clear ho1 hg1 k3)
          go_returns
          exact ⟨_, by rw [← HE.out, HR.out]; rfl, by rw [← HD.out, HR.out]; exact Bt.own HO1.out, K3.out⟩
      · rw [decide_eq_false hz] at HEq
        have HZ := hidden hz
        clear hz
        go_wp2
        go_quiet (fail)
        go_wp2
        go_roundw
        case rel =>
          refine ⟨k + 1, by omega, by go_num, fun j x hj hx => ?_, HK.out.drewN _⟩
          rcases Nat.lt_or_ge j k with h | h
          · exact HNo.out j x h hx
          · obtain rfl : j = k := by omega
            rw [HAt.out] at hx
            cases hx
            exact HZ.out
        case measure => simp [intOf]; omega
    · have q1 : ¬ (k : Int) < (N : Int) := by omega
      have hr := read_none_all (s := s) (o := o) (n := n) (fun i x hx => hno i x (by
        obtain ⟨hi, _⟩ := List.getElem?_eq_some_iff.1 hx
        have := HNN.out
        omega) hx)
      have HR := hidden hr
      clear hno hr
      go_wp2
      go_returns
      exact ⟨_, by rw [← HE.out, HR.out]; rfl, by rw [← HD.out, HR.out]; exact Bt.nil _, K2.out.trans HK.out⟩
end Go.Proofs.YtafdkfieajdeiaaDoor
namespace Go.Proofs.YtafdkfieajdeiaaDoor
open Go.RowKit
set_option linter.unusedVariables false
set_option linter.unusedSimpArgs false
theorem infoBy : (Tryd.prog.info? 32).map (fun i => (i.zero, i.size, i.bytes)) = some (some (.slice none 0 0), 1, 24) := by kernel_rfl
theorem by_lies (w : World) (x : Value) (k : Nat) (hk : k = w.heap.size) : Lies (w.alloc (.cells #[x] 32)) (some ⟨k, 0, none⟩) 1 [x] := fun _ => ⟨_, rfl, fun j u hj => by
  subst hk
  match j, hj with
  | 0, hj => cases hj; exact blk_cell (j := 0) (blk_new w _)⟩
/-- A row whose chunk grew by one, and the store of it. -/
theorem DL.grown {g : Nat} {s t : PSt} {last c : List UInt8} {w w1 : World} {vs vl vs' u : Value} {us : List Value} (h : DL g s last w vs vl us) (hg : w.grownBy w1 vs.ownBlock) (hr : OwnM w1 32 1 vs' (us.length + 1) (us ++ [u])) (hu : OwnM w 5 1 u c.length (c.map U8)) (ht : t = { s with chunks := s.chunks ++ [c] }) (ok : t.Ok) :
    DL g t last (w1.setCell ⟨g, 3, none⟩ vs') vs' vl (us ++ [u]) ∧ Kept (fun k => k = g ∨ vs.ownBlock = some k) w (w1.setCell ⟨g, 3, none⟩ vs') := by
  have k1 : Kept (fun k => vs.ownBlock = some k) w w1 := (Kept.refl (fun k => vs.ownBlock = some k) w).grown hg (fun k hk _ => hk)
  have k2 : Kept (fun k => k = g) w1 (w1.setCell ⟨g, 3, none⟩ vs') := (Kept.refl (fun k => k = g) w1).setCell (p := ⟨g, 3, none⟩) rfl _
  have hb1 := blk_kept k1 (fun e => h.row.apart h.box (by decide) e) h.box
  have hb2 := blk_set (j := 3) hb1 vs'
  have K : Kept (fun k => k = g ∨ vs.ownBlock = some k) w (w1.setCell ⟨g, 3, none⟩ vs') := (k1.mono (fun _ _ e => Or.inr e)).trans (k2.mono (fun _ _ e => Or.inl e))
  have apart : ∀ {n : Nat} {v : Value} {l : List UInt8}, OwnM w 5 1 v n (l.map U8) → ∀ i, v.ownBlock = some i → ¬ (i = g ∨ vs.ownBlock = some i) := fun hv i hi e => by
    rcases e with rfl | e
    · exact hv.apart h.box (by decide) hi
    · rcases h.row.ex with ⟨rfl, _⟩ | ⟨q, cap, cur, fz, rfl, hq, _⟩
      · simp [Value.ownBlock] at e
      · simp [Value.ownBlock] at e
        subst e
        exact hv.apart hq (by decide) hi
  subst ht
  refine ⟨⟨by rw [hb2]; rfl, by rw [List.length_append, List.length_append, h.len]; rfl, ?_, fun i d x hd hx => ?_, h.last.kept K (apart h.last), ok⟩, K⟩
  · rw [List.length_append]
    exact hr.kept k2 (fun i hi e => hr.apart hb1 (by decide) (by rw [hi, e]))
  · have hd' : (s.chunks ++ [c])[i]? = some d := hd
    rw [List.getElem?_append] at hd' hx
    rw [h.len] at hx
    by_cases hl : i < s.chunks.length
    · rw [if_pos hl] at hd' hx
      have := h.chunks i d x hd' hx
      exact this.kept K (apart this)
    · rw [if_neg hl] at hd' hx
      have h3 : i - s.chunks.length = 0 := by
        have := (List.getElem?_eq_some_iff.1 hd').1
        simp at this
        omega
      rw [h3] at hd' hx
      simp at hd' hx
      subst hd'
      subst hx
      exact hu.kept K (apart hu)
theorem DL.grewBox {g : Nat} {s : PSt} {last : List UInt8} {w w1 : World} {vs vl : Value} {us : List Value} (h : DL g s last w vs vl us) (hg : w.grownBy w1 vs.ownBlock) : w1.heap[g]? = some (.cells (DCells s vs vl) 73 (0, 0)) :=
  blk_kept ((Kept.refl (fun k => vs.ownBlock = some k) w).grown hg (fun k hk _ => hk)) (fun e => h.row.apart h.box (by decide) e) h.box
set_option maxHeartbeats 4000000 in
set_option maxRecDepth 100000 in
theorem d_appYes {g : Nat} {s : PSt} {last : List UInt8} {w : World} {vs vl : Value} {us : List Value} (h : DL g s last w vs vl us) (v : Value) (c : List UInt8) (hb : Bt w v c) (he : s.appErr c.length = 0) :
    Calls Tryd.prog 43 #[.pointer (some ⟨g, 0, none⟩), v] w fun e w' => e = .returned (.tuple #[.agg #[.int .i64 (s.bs.length + 8 : Nat), .int .i64 (c.length : Nat)], .int .i64 0]) ∧ ∃ vs' u, DL g (s.app c) last w' vs' vl (us ++ [u]) ∧ Kept (fun k => k = g ∨ vs.ownBlock = some k) w w' ∧ (∀ k, vs'.ownBlock = some k → vs.ownBlock = some k ∨ w.heap.size ≤ k) ∧ ∀ k, u.ownBlock = some k → w.heap.size ≤ k := by
  obtain ⟨i0, hi, hz0, hz1, hz2⟩ := info_parts info5
  obtain ⟨i1, hj, hy0, hy1, hy2⟩ := info_parts infoBy
  obtain ⟨hap, hf⟩ := PSt.app_is he
  have hok := PSt.app_ok h.ok c
  have hc0 : c.length ≠ 0 := by
    intro e
    unfold PSt.appErr at he; rw [hf, e] at he; cases he
  have hl : c.length ≤ s.left := by
    refine Nat.le_of_not_lt fun e => ?_
    unfold PSt.appErr at he; rw [hf, if_neg (by simp), if_neg hc0, if_pos e] at he; cases he
  have hl2 : s.left ≤ 262144 := by
    unfold PSt.left
    have := h.ok.room
    split <;> omega
  have hbl : s.bs.length ≤ 262144 := by have := h.ok.room; have := h.ok.b1; omega
  have hch : us.length ≤ 32768 := by rw [h.len]; exact h.ok.many
  obtain ⟨ao, cap, rfl, _⟩ := hb.form
  have HL := hidden (fun W (k : Same w W) => d_left (h.same k))
  have HEn := hidden (fun W (k : Same w W) => d_end (h.same k))
  have HD := hidden h
  have HB := hidden hb
  obtain ⟨M, hM⟩ : ∃ M, c.length = M := ⟨_, rfl⟩
  rw [hM] at hc0 hl
  obtain ⟨O, hO⟩ : ∃ O, s.bs.length + 8 = O := ⟨_, rfl⟩
  obtain ⟨BL, hBL⟩ : ∃ BL, s.bs.length = BL := ⟨_, rfl⟩
  rw [hBL] at hbl HEn hO
  have q0 : ((M : Int) == 0) = false := by rw [beq_eq_false_iff_ne]; omega
  have q1 : ¬ (M : Int) = 0 := by omega
  have q2 : ¬ (s.left : Int) < (M : Int) := by omega
  have w1' : IntKind.i64.wrap ((BL : Int) + 8) = (O : Int) := by rw [← hO, IntKind.wrap_i64]; omega
  have HN := hidden (blk_new w (.cells #[.int .i64 0, .int .i64 0] 34))
  have HS := hidden (same_alloc w (.cells #[.int .i64 0, .int .i64 0] 34))
  have c4 : (w.alloc (.cells #[.int .i64 0, .int .i64 0] 34)).cell? ⟨g, 4, none⟩ = some (.bool false) := by rw [blk_cell (blk_kept HS.out (fun h => h) h.box)]; simp [DCells, hf]
  have HBX : Hid (∀ W, Same w W → W.heap[g]? = some (.cells (DCells s vs vl) 73 (0, 0))) := hidden (fun W k => (h.same k).box)
  have HAP := hidden hap
  have HOK := hidden hok
  have HMM := hidden hM
  rw [hBL, hO, hM]
  rw [hM] at HB
  have m1 : Hid (0 + M ≤ maxLen) := hidden (by unfold maxLen; omega)
  have m2 : Hid ((0 + M) * 1 ≤ 140737488355328) := hidden (by omega)
  have m3 : Hid (us.length + 1 ≤ maxLen) := hidden (by unfold maxLen; omega)
  have m4 : Hid ((us.length + 1) * 24 ≤ 140737488355328) := hidden (by omega)
  obtain ⟨va, vc, hvf, _⟩ := h.row.form
  have UC := hidden (U8_all c)
  clear h hb he hap hf hok hc0 hl hl2 hbl hch hM hO hBL
  go_enter Tryd.func43, Tryd.ntmps43
  go_wp2_with (first
    | (go_at_call 44; refine (HL.out _ HS.out).mono ?_; rintro e w2 ⟨rfl, k2⟩; have K2 := hidden (HS.out.trans k2); have R2 := hidden (blk_kept k2 (fun h => h) HN.out); clear k2)
    | (go_at_call 52; refine (HEn.out _ K2.out).mono ?_; rintro e w3 ⟨rfl, rfl⟩))
  have hB3 := HBX.out _ K2.out
  have HB3 := hidden hB3
  obtain ⟨W3, hW3⟩ : ∃ W3, w2.alloc (.cells #[.int .i64 O, .int .i64 M] 34) = W3 := ⟨_, rfl⟩
  have K3 : Hid (Same w W3) := hidden (by rw [← hW3]; exact K2.out.alloc _)
  have R3 := hidden (show W3.heap[w.heap.size]? = some (.cells #[.int .i64 0, .int .i64 0] 34 (0, 0)) by rw [← hW3]; exact blk_alloc R2.out _)
  have S3 := hidden (show W3.heap[w2.heap.size]? = some (.cells #[.int .i64 O, .int .i64 M] 34 (0, 0)) by rw [← hW3]; exact blk_new w2 _)
  have HLT : Hid (w2.heap.size ≠ w.heap.size) := hidden (by have := K2.out.size; have := blk_lt R2.out; omega)
  rw [hW3]
  clear hW3 hB3
  have e1 : W3.drew.cell? ⟨g, 3, none⟩ = some vs := blk_cell (HBX.out _ K3.out.drew)
  have e2 : ∀ q, (W3.drew.alloc q).cell? ⟨g, 3, none⟩ = some vs := fun q => blk_cell (HBX.out _ (K3.out.drew.alloc q))
  have e0 : W3.cell? ⟨g, 3, none⟩ = some vs := blk_cell (HBX.out _ K3.out)
  have e3 : ∀ q, (W3.alloc q).cell? ⟨g, 3, none⟩ = some vs := fun q => blk_cell (HBX.out _ (K3.out.alloc q))
  have f1 : W3.frozen? ⟨g, 3, none⟩ = false := blk_free (HBX.out _ K3.out)
  have HMD : Hid (OwnM (W3.drew.alloc (.cells #[] 5)) 5 1 (.slice (some ⟨W3.heap.size, 0, none⟩) 0 0) 0 []) := hidden (by
    have := World.ownsRow_made (base := 0) (e := 5) (size := 1) W3.drew #[] 0 (Nat.zero_le _) (by decide) (by decide)
    have h5 := OwnM.of this
    simpa using h5)
  subst hvf
  go_cut [5] from 28 to 39 (fun x wx => x = .int .i64 0 ∧ ∃ vs' u, DL g (s.app c) last wx vs' vl (us ++ [u]) ∧ Kept (fun k => k = g ∨ (Value.slice va us.length vc).ownBlock = some k) W3 wx ∧ (∀ k, vs'.ownBlock = some k → (Value.slice va us.length vc).ownBlock = some k ∨ w.heap.size ≤ k) ∧ ∀ k, u.ownBlock = some k → w.heap.size ≤ k)
  case first =>
    go_region_law (first
      | (refine step_append_slcM rfl _ _ 32 rfl 5 i0 (.int .u8 0) 1 1 Tryd.underlying32 hi hz0 hz1 hz2 rfl (by decide) _ 0 [] rfl HMD.out ao M cap (c.map U8) rfl (by rw [List.length_map, HMM.out, Nat.mul_one]) ((HB.out.same (K3.out.drew.alloc _)).lies) UC.out m1.out m2.out ?_; intro u w4 ho hg hk; rw [Nat.zero_add, List.nil_append] at ho; obtain ⟨ua, uc, rfl, _⟩ := ho.form; have U4 := hidden ho; have K34 : Hid (Same W3 w4) := hidden ((((Kept.refl (fun _ => False) W3).drew.alloc _)).grown hg (fun q e hl => by have e' : some W3.heap.size = some q := e; simp at e'; omega)); have N4 : Hid (∀ k, (Value.slice ua M uc).ownBlock = some k → w.heap.size ≤ k) := hidden (fun k hkk => by have h9 := K3.out.size; by_cases hl : k < W3.heap.size + 1; · { have e' : some W3.heap.size = some k := hk k (by simpa using hl) hkk; simp at e'; omega }; · omega); clear ho hg hk; have g1 : w4.cell? ⟨g, 3, none⟩ = some (.slice va us.length vc) := blk_cell (HBX.out _ (K3.out.trans K34.out)); have g2 : ∀ q, (w4.alloc q).cell? ⟨g, 3, none⟩ = some (.slice va us.length vc) := fun q => blk_cell (HBX.out _ ((K3.out.trans K34.out).alloc q)); have D4 : Hid (∀ q, DL g s last (w4.alloc q) (.slice va us.length vc) vl us) := hidden (fun q => HD.out.same ((K3.out.trans K34.out).alloc q)))
      | (refine step_append_slcM rfl _ _ 57 rfl 32 i1 _ 1 24 Tryd.underlying57 hj hy0 hy1 hy2 rfl (by decide) (.slice va us.length vc) us.length us rfl (D4.out _).row (some ⟨w4.heap.size, 0, none⟩) 1 1 [.slice ua M uc] rfl rfl (by_lies _ _ _ rfl) (fun u hu => by simp at hu; subst hu; rfl) m3.out m4.out ?_; intro vs' w5 ho hg hk; obtain ⟨xa, xc, rfl, _⟩ := ho.form; have HG := hidden (DL.grown (D4.out _) hg ho (by rw [HMM.out]; exact U4.out.same (same_alloc _ _)) HAP.out HOK.out); have HKK := hidden hk; have h0 := (D4.out _).grewBox hg; have h1 : w5.frozen? ⟨g, 3, none⟩ = false := blk_free h0; have h2 : w5.cell? ⟨g, 3, none⟩ = some (.slice va us.length vc) := blk_cell h0; clear ho hg hk h0))
    all_goals
      go_wp2_with fail
      go_meet
      case rel =>
        refine ⟨rfl, _, .slice ua M uc, HG.out.1, ?_, fun k hk => ?_, N4.out⟩
        · exact (Kept.mono (K34.out.alloc (.cells #[Value.slice ua M uc] 32)) (fun _ _ e => e.elim) : Kept (fun k => k = g ∨ (Value.slice va us.length vc).ownBlock = some k) W3 _).trans HG.out.2
        · have h9 := K3.out.size
          have h8 := K34.out.size
          by_cases hl : k < (w4.alloc (.cells #[Value.slice ua M uc] 32)).heap.size
          · exact Or.inl (HKK.out k hl hk)
          · exact Or.inr (by simp at hl; omega)
  case rest =>
    obtain ⟨rfl, vs', u, hd, hk, hn1, hn2⟩ := hcut
    have hbelow : ∀ i, w.heap.size ≤ i → ¬ (i = g ∨ (Value.slice va us.length vc).ownBlock = some i) := fun i hi e => by
      rcases e with rfl | e
      · have := blk_lt HD.out.box; omega
      · have := HD.out.row.lt e; omega
    have hS := blk_kept hk (hbelow _ (by have := K2.out.size; omega)) S3.out
    have hR := blk_kept hk (hbelow _ (Nat.le_refl _)) R3.out
    have y0 : wc.cell? ⟨w2.heap.size, 0, none⟩ = some (.int .i64 O) := blk_cell hS
    have y1 : wc.cell? ⟨w2.heap.size, 1, none⟩ = some (.int .i64 M) := blk_cell hS
    have r0 : wc.cell? ⟨w.heap.size, 0, none⟩ = some (.int .i64 0) := blk_cell hR
    have r1 : wc.cell? ⟨w.heap.size, 1, none⟩ = some (.int .i64 0) := blk_cell hR
    have rf0 : wc.frozen? ⟨w.heap.size, 0, none⟩ = false := blk_free hR
    have rf1 : wc.frozen? ⟨w.heap.size, 1, none⟩ = false := blk_free hR
    have C := blk_set (j := 1) (blk_set (j := 0) hR (.int .i64 O)) (.int .i64 M)
    have x0 : ((wc.setCell ⟨w.heap.size, 0, none⟩ (.int .i64 O)).setCell ⟨w.heap.size, 1, none⟩ (.int .i64 M)).cell? ⟨w.heap.size, 0, none⟩ = some (.int .i64 O) := blk_cell C
    have x1 : ((wc.setCell ⟨w.heap.size, 0, none⟩ (.int .i64 O)).setCell ⟨w.heap.size, 1, none⟩ (.int .i64 M)).cell? ⟨w.heap.size, 1, none⟩ = some (.int .i64 M) := blk_cell C
    have KF : Kept (fun k => k = w.heap.size) wc ((wc.setCell ⟨w.heap.size, 0, none⟩ (.int .i64 O)).setCell ⟨w.heap.size, 1, none⟩ (.int .i64 M)) := ((Kept.refl (fun k => k = w.heap.size) wc).setCell (p := ⟨w.heap.size, 0, none⟩) rfl _).setCell (p := ⟨w.heap.size, 1, none⟩) rfl _
    have hdk : DL g (s.app c) last ((wc.setCell ⟨w.heap.size, 0, none⟩ (.int .i64 O)).setCell ⟨w.heap.size, 1, none⟩ (.int .i64 M)) vs' vl (us ++ [u]) := by
      refine hd.kept KF (fun i hi e => ?_)
      subst e
      rcases hi with e | e | e | ⟨x, hx, e⟩
      · have := blk_lt HD.out.box; omega
      · exact hd.row.apart hR (by decide) e
      · exact hd.last.apart hR (by decide) e
      · obtain ⟨q, hq⟩ := List.mem_iff_getElem?.1 hx
        have hql : q < (s.app c).chunks.length := by rw [← hd.len]; exact (List.getElem?_eq_some_iff.1 hq).1
        exact (hd.chunks q _ x (List.getElem?_eq_getElem hql) hq).apart hR (by decide) e
    have KT : Kept (fun k => k = g ∨ (Value.slice va us.length vc).ownBlock = some k) w ((wc.setCell ⟨w.heap.size, 0, none⟩ (.int .i64 O)).setCell ⟨w.heap.size, 1, none⟩ (.int .i64 M)) :=
      ((Kept.mono K3.out (fun _ _ e => e.elim) : Kept (fun k => k = g ∨ (Value.slice va us.length vc).ownBlock = some k) w W3).trans hk).trans' KF (fun i hi e => by omega)
    have HFIN := hidden (And.intro hdk (And.intro KT (And.intro hn1 hn2)))
    clear hd hk hn1 hn2 hbelow hS hR C KF hdk KT
    go_wp2
    exact bodyPost_ret (v := .tuple #[.agg #[.int .i64 O, .int .i64 M], .int .i64 0]) (by simp [results, Tryd.results43, go_sem, x0, x1]; try rfl) rfl ⟨rfl, vs', u, HFIN.out.1, HFIN.out.2.1, HFIN.out.2.2.1, HFIN.out.2.2.2⟩
end Go.Proofs.YtafdkfieajdeiaaDoor
namespace Go.Proofs.YtafdkfieajdeiaaDoor
open Go.RowKit
set_option linter.unusedVariables false
set_option linter.unusedSimpArgs false
theorem Bt.cells {a c : World} {v : Value} {l : List UInt8} (h : Bt a v l) (hc : ∀ p, c.cell? p = a.cell? p) : Bt c v l := by
  obtain ⟨ao, cap, e, h1, h2⟩ := h
  refine ⟨ao, cap, e, h1, fun h0 => ?_⟩
  obtain ⟨b, off, e2, h3⟩ := h2 h0
  exact ⟨b, off, e2, fun j hj => by rw [hc]; exact h3 j hj⟩
theorem frz_at (W : World) (b n k : Nat) (C : Array Value) (h : W.heap[b]? = some (.cells C 5 (0, 0))) : (W.freeze ⟨b, n, none⟩ 1).heap[k]? = if k = b then some (.cells C 5 (n, n + 1)) else W.heap[k]? := by
  unfold World.freeze
  rw [if_neg (by decide)]
  show (W.heap.modify b _)[k]? = _
  rw [Array.getElem?_modify]
  by_cases hk : b = k
  · subst hk
    rw [if_pos rfl, if_pos rfl, h]
    rfl
  · rw [if_neg hk, if_neg (fun e => hk e.symm)]
theorem frz_cell (W : World) (b n : Nat) (p : Addr) : (W.freeze ⟨b, n, none⟩ 1).cell? p = W.cell? p := by
  unfold World.freeze
  rw [if_neg (by decide)]
  unfold World.cell?
  show (match (W.heap.modify b _)[p.block]? with | some (.cells c _ _) => _ | _ => _) = _
  rw [Array.getElem?_modify]
  by_cases hk : b = p.block
  · rw [if_pos hk]
    cases h : W.heap[p.block]? with
    | none => rfl
    | some o => cases o <;> rfl
  · rw [if_neg hk]
    cases h : W.heap[p.block]? with
    | none => rfl
    | some o => cases o <;> rfl
theorem frz_kept (W : World) (b n : Nat) : Kept (fun k => k = b) W (W.freeze ⟨b, n, none⟩ 1) := by
  unfold World.freeze
  rw [if_neg (by decide)]
  refine ⟨rfl, rfl, rfl, by simp, fun k hk hs => ?_⟩
  show (W.heap.modify b _)[k]? = _
  rw [Array.getElem?_modify, if_neg (fun e => hs e.symm)]
/-- A conversion of a row that was made: it is marked, and nothing else has turned. -/
theorem conv_run (W : World) (b n : Nat) (C : Array Value) (h : W.heap[b]? = some (.cells C 5 (0, 0))) (hn : C.size = n) :
    (convert 32 32 (.slice (some ⟨b, 0, none⟩) n n)).run Tryd.prog W = .ok (.slice (some ⟨b, 0, none⟩) n n) (W.freeze ⟨b, n, none⟩ 1) := by
  have hsh : W.shape? b = some (5, C.size) := by unfold World.shape?; rw [h]
  subst hn
  simp [convert, run_underlying Tryd.underlying32, run_underlying Tryd.underlying5, markStringish, hsh]
theorem Gr.frz {w0 w : World} {b : Nat} {cs : List UInt8} (k : Same w0 w) (hb : w.heap[b]? = some (.cells (cs.map U8).toArray 5 (0, 0))) (hn : w0.heap.size ≤ b) (hl : cs.length ≤ 4096) : Gr w0 (w.freeze ⟨b, cs.length, none⟩ 1) (.slice (some ⟨b, 0, none⟩) cs.length cs.length) cs :=
  ⟨⟨by simp, .inr ⟨b, cs.length, (cs.map U8).toArray, (cs.length, cs.length + 1), rfl, by rw [frz_at w b _ b _ hb, if_pos rfl], by simp [NoFz], Nat.le_refl _, by unfold maxLen; omega, by simp, by simp [List.take_of_length_le]⟩⟩, fun q hq => by simp [Value.ownBlock] at hq; omega, k.trans' (frz_kept w b _) (fun i hi e => by omega)⟩
theorem step_high {ops : Array Oper} {o : Oper} {a : Act} {w : World} {K : Act → World → Prop} {Q : Exit → Act → World → Prop} {E : Prop}
    (hg : o.guard = none) (x : Nat) (hx : x < 18446744073709551616) (hrun : (execOp a.eval o).run Tryd.prog w = .ok (.enter 49 #[.int .u64 x, .int .i64 4]) w)
    (hK : ∀ b w', Bt w' (.slice (some ⟨b, 0, none⟩) 4 4) (be 4 x) → Same w w' → K (a.put o.dst (.slice (some ⟨b, 0, none⟩) 4 4)) w') :
    if Region.wanted o (yielded ops a.tmps) = true then Oper.wp Tryd.prog o a w K Q else E :=
  step_call hg 49 _ (fun u W => ∃ b, u = .slice (some ⟨b, 0, none⟩) 4 4 ∧ Bt W u (be 4 x) ∧ Same w W) hrun ((high4_g x hx w).mono fun e w' ⟨g, h1, h2, h3⟩ => ⟨_, h1, g, rfl, h2, h3⟩) (fun v w' ⟨b, e, h2, h3⟩ => by subst e; exact hK b w' h2 h3)
theorem step_sum {ops : Array Oper} {o : Oper} {a : Act} {w : World} {K : Act → World → Prop} {Q : Exit → Act → World → Prop} {E : Prop}
    (hg : o.guard = none) (v : Value) (l : List UInt8) (hb : Bt w v l) (hl : l.length ≤ 281474976710656) (hrun : (execOp a.eval o).run Tryd.prog w = .ok (.enter 50 #[v]) w)
    (hK : ∀ b w', Bt w' (.slice (some ⟨b, 0, none⟩) 4 4) (be 4 (crc l)) → Same w w' → K (a.put o.dst (.slice (some ⟨b, 0, none⟩) 4 4)) w') :
    if Region.wanted o (yielded ops a.tmps) = true then Oper.wp Tryd.prog o a w K Q else E :=
  step_call hg 50 _ (fun u W => ∃ b, u = .slice (some ⟨b, 0, none⟩) 4 4 ∧ Bt W u (be 4 (crc l)) ∧ Same w W) hrun ((sum_any v l w hb hl).mono fun e w' ⟨g, h1, h2, _, _, h3⟩ => ⟨_, h1, g, rfl, h2, h3⟩) (fun v w' ⟨b, e, h2, h3⟩ => by subst e; exact hK b w' h2 h3)
/-- append to a row of one's own, as one step of such a region. -/
theorem step_app {w0 w : World} {ops : Array Oper} {o : Oper} {a : Act} {K : Act → World → Prop} {Q : Exit → Act → World → Prop} {E : Prop} (hgd : o.guard = none) (sl x : Operand)
    (ho : o.op = .call { callee := .builtin .append, args := #[sl, x], argTypes := #[32, 32] })
    (v u : Value) (l m : List UInt8) (n : Nat) (hn : n = l.length + m.length) (hs : a.eval sl = v) (hown : Gr w0 w v l) (hx : a.eval x = u) (hb : Bt w u m) (hl : n ≤ 1099511627776)
    (h : ∀ p c w', Gr w0 w' (.slice p n c) (l ++ m) → K (a.put o.dst (.slice p n c)) w') :
    if Region.wanted o (yielded ops a.tmps) = true then Oper.wp Tryd.prog o a w K Q else E := by
  obtain ⟨i0, hi0, hz0, hz1, hz2⟩ := info_parts info5
  obtain ⟨ao, cap, rfl, _⟩ := hb.form
  have hL := hb.lies
  refine step_append_slcM (P := Tryd.prog) hgd sl x 32 ho 5 i0 (.int .u8 0) 1 1 Tryd.underlying32 hi0 hz0 hz1 hz2 rfl (by decide) v l.length (l.map U8) hs hown.own ao m.length cap (m.map U8) hx (by simp) hL (fun y hy => by obtain ⟨b, _, rfl⟩ := List.mem_map.1 hy; exact U8_one b) (by unfold maxLen; omega) (by omega) ?_
  intro v' w' h1 h2 h3
  obtain ⟨p, c, rfl, _⟩ := h1.form
  subst hn
  refine h p c w' ⟨by rw [List.length_append, List.map_append]; exact h1, fun k hk => ?_, hown.same.grown h2 (fun r hr hlt => by have := hown.new r hr; omega)⟩
  by_cases hkw : k < w.heap.size
  · exact hown.new k (h3 k hkw hk)
  · have := hown.same.size
    omega
theorem bt_of4 {w : World} {g n : Nat} {l : List UInt8} (h : w.heap[g]? = some (.cells (l.map U8).toArray 5 (0, 0))) (hn : l.length = n) : Bt w (.slice (some ⟨g, 0, none⟩) n n) l := by
  subst hn
  refine ⟨_, _, rfl, Nat.le_refl _, fun _ => ⟨g, 0, rfl, fun j hj => ?_⟩⟩
  rw [blk_cell h]
  simp [hj]
/-- Bytes over the last bytes of a row. -/
theorem copy_lastB (n g k : Nat) (bs ft : List UInt8) (W : World) (fa : Option Addr) (fc : Nat) (h1 : bs.length = n) (h2 : ft.length = k) (h3 : k ≤ n) (hk : k ≠ 0) (hb : Bt W (.slice fa k fc) ft) (hg : W.heap[g]? = some (.cells (bs.map U8).toArray 5 (0, 0))) :
    (Builtin.copy_ #[32, 32] 3 #[.slice (some ⟨g, n - k, none⟩) k k, .slice fa k fc]).run Tryd.prog W = .ok (goInt k) (W.setRow g ((bs.take (n - k) ++ ft).map U8).toArray) := by
  obtain ⟨i0, hi, hz0, hz1, hz2⟩ := info_parts info5
  have hL := hb.lies
  obtain ⟨ad, rfl, hc⟩ := hL (by omega)
  have h := run_copy_row (P := Tryd.prog) W 32 32 3 5 g (n - k) k k ad k fc _ _ (ft.map U8) Tryd.underlying32 (by rw [hi]; simp [hz1]) hg (by rw [List.length_map, h2]; exact (Nat.min_self k).symm)
    hc (by simp; omega) (fun x hx => by
      rw [List.mem_map] at hx
      obtain ⟨b, _, rfl⟩ := hx
      exact U8_one b)
  rw [List.length_map, h2] at h
  refine h.trans ?_
  have e : List.take (n - k) (bs.map U8).toArray.toList ++ ft.map U8 ++ List.drop (n - k + k) (bs.map U8).toArray.toList = (bs.take (n - k) ++ ft).map U8 := by
    rw [List.toList_toArray, List.map_append, List.map_take, List.drop_of_length_le (by rw [List.length_map]; omega), List.append_nil]
  rw [e]
theorem body_snoc (cs : List (List UInt8)) (k : Nat) (hk : k < cs.length) : bodyB (cs.take (k + 1)) = bodyB (cs.take k) ++ (be 4 cs[k].length ++ be 4 (crc (be 4 cs[k].length ++ cs[k])) ++ cs[k]) := by
  rw [List.take_add_one, List.getElem?_eq_getElem hk, bodyB_append]
  simp [bodyB, slotB]
set_option maxHeartbeats 8000000 in
set_option maxRecDepth 100000 in
theorem d_image {g : Nat} {s : PSt} {last : List UInt8} {w : World} {vs vl : Value} {us : List Value} (h : DL g s last w vs vl us) :
    Calls Tryd.prog 19 #[.pointer (some ⟨g, 0, none⟩)] w fun e w' => ∃ b, e = .returned (.slice (some ⟨b, 0, none⟩) s.len s.len) ∧ w.heap.size ≤ b ∧ w'.heap[b]? = some (.cells (s.img.map U8).toArray 5 (0, 0)) ∧ Same w w' := by
  have HD := hidden h
  have HBX : Hid (∀ W, Same w W → W.heap[g]? = some (.cells (DCells s vs vl) 73 (0, 0))) := hidden (fun W k => (h.same k).box)
  obtain ⟨va, vc, rfl, _⟩ := h.row.form
  have hid := h.ok.i
  have hc1 := h.ok.c1
  have HX : Hid (∀ W, Same w W → W.cell? ⟨g, 1, none⟩ = some (.int .i64 s.sectors) ∧ W.cell? ⟨g, 2, none⟩ = some (.int .u32 s.id)) := hidden (fun W k => ⟨blk_cell (HBX.out W k), blk_cell (HBX.out W k)⟩)
  have e1 := (HX.out w (Kept.refl _ _)).1
  have e2 := (HX.out w (Kept.refl _ _)).2
  have a1 : ∀ q, (w.alloc q).cell? ⟨g, 1, none⟩ = some (.int .i64 s.sectors) := fun q => (HX.out _ (same_alloc w q)).1
  have a2 : ∀ q, (w.alloc q).cell? ⟨g, 2, none⟩ = some (.int .u32 s.id) := fun q => (HX.out _ (same_alloc w q)).2
  have wi : IntKind.u64.wrap (s.id : Int) = (s.id : Int) := by rw [IntKind.wrap_u64]; omega
  have wc' : IntKind.u64.wrap (s.sectors : Int) = (s.sectors : Int) := by rw [IntKind.wrap_u64]; omega
  have HI := hidden (show s.id < 18446744073709551616 by omega)
  have HC := hidden (show s.sectors < 18446744073709551616 by omega)
  have KC : Hid (Same w w.drew) := hidden ((Kept.refl _ _).drew)
  obtain ⟨frz, hfz⟩ : ∃ frz : World → Nat → World, ∀ W b, frz W b = W.freeze ⟨b, 4, none⟩ 1 := ⟨_, fun _ _ => rfl⟩
  have hcv : ∀ W b, W.heap[b]? = some (.cells #[Value.int .u8 68, .int .u8 80, .int .u8 65, .int .u8 75] 5 (0, 0)) → (convert 32 32 (.slice (some ⟨b, 0, none⟩) 4 4)).run Tryd.prog W = .ok (.slice (some ⟨b, 0, none⟩) 4 4) (frz W b) := fun W b hb => by rw [hfz]; exact conv_run W b 4 _ hb rfl
  have hfc : ∀ W b p, (frz W b).cell? p = W.cell? p := fun W b p => by rw [hfz]; exact frz_cell W b 4 p
  have hnew : ∀ (W : World) (C : Array Value), (W.alloc (.cells C 5 (0, 0))).heap[W.heap.size]? = some (.cells C 5 (0, 0)) := fun W C => blk_new W _
  have HFG : Hid (∀ W b, Same w W → W.heap[b]? = some (.cells #[Value.int .u8 68, .int .u8 80, .int .u8 65, .int .u8 75] 5 (0, 0)) → w.heap.size ≤ b → Gr w (frz W b) (.slice (some ⟨b, 0, none⟩) 4 4) dpak) := hidden (fun W b k hb hn => by rw [hfz]; exact Gr.frz (cs := dpak) k hb hn (by decide))
  have hcvA : (convert 32 32 (.slice (some ⟨w.heap.size, 0, none⟩) 4 4)).run Tryd.prog (w.alloc (.cells #[Value.int .u8 68, .int .u8 80, .int .u8 65, .int .u8 75] 5 (0, 0))).drew = .ok (.slice (some ⟨w.heap.size, 0, none⟩) 4 4) (frz (w.alloc (.cells #[Value.int .u8 68, .int .u8 80, .int .u8 65, .int .u8 75] 5 (0, 0))).drew w.heap.size) := hcv _ _ (blk_new w _)
  have HCV := hidden hcv
  have HCZ : Hid (∀ W : World, (convert 32 32 (.slice (some ⟨W.heap.size, 0, none⟩) 4 4)).run Tryd.prog (W.alloc (.cells #[Value.int .u8 68, .int .u8 80, .int .u8 65, .int .u8 75] 5 (0, 0))) = .ok (.slice (some ⟨W.heap.size, 0, none⟩) 4 4) (frz (W.alloc (.cells #[Value.int .u8 68, .int .u8 80, .int .u8 65, .int .u8 75] 5 (0, 0))) W.heap.size)) := hidden (fun W => hcv _ _ (blk_new W _))
  have HNY : Hid (∀ W : World, Same (w.alloc (.cells #[Value.int .u8 68, .int .u8 80, .int .u8 65, .int .u8 75] 5 (0, 0))).drew W → W.heap[w.heap.size]? = some (.cells #[Value.int .u8 68, .int .u8 80, .int .u8 65, .int .u8 75] 5 (0, 0))) := hidden (fun W k => blk_kept k (fun h => h) (blk_new w _))
  have KD0 : Hid (∀ W, Same w.drew W → Same w W) := hidden (fun W k => (KC.out).trans k)
  have KDA : Hid (∀ W, Same (w.alloc (.cells #[Value.int .u8 68, .int .u8 80, .int .u8 65, .int .u8 75] 5 (0, 0))).drew W → Same w W) := hidden (fun W k => ((same_alloc w _).drew).trans k)
  have KDB : Hid (Gr w (frz (w.alloc (.cells #[Value.int .u8 68, .int .u8 80, .int .u8 65, .int .u8 75] 5 (0, 0))).drew w.heap.size) (.slice (some ⟨w.heap.size, 0, none⟩) 4 4) dpak) := hidden (HFG.out _ _ ((same_alloc w _).drew) (blk_new w _) (Nat.le_refl _))
  have HL8 : Hid (8 = dpak.length + (be 4 s.id).length) := hidden (by rw [be_length]; rfl)
  have HL12 : Hid (12 = (dpak ++ be 4 s.id).length + (be 4 s.sectors).length) := hidden (by rw [List.length_append, be_length, be_length]; rfl)
  clear hfz hcv hnew
  clear h
  go_enter Tryd.func19, Tryd.ntmps19
  go_upto_region 1 with fail
  go_cut [3] from 7 to 22 (fun x wx => ∃ p c, x = .slice p 12 c ∧ Gr w wx (.slice p 12 c) (edge0 dpak s.id s.sectors))
  case first =>
    have tD : True := trivial
    go_region_law (first
      | (refine step_app (w0 := w) rfl _ _ rfl _ _ (dpak ++ be 4 s.id) (be 4 s.sectors) 12 HL12.out rfl G15.out rfl B21.out (by decide) ?_; intro p22 c22 w6 g22; have G22 := hidden g22; clear g22)
      | (refine step_app (w0 := w) rfl _ _ rfl _ _ dpak (be 4 s.id) 8 (HL8.out) rfl G8.out rfl B14.out (by decide) ?_; intro p15 c15 w4 g15; have G15 := hidden g15; have u1 := (HX.out _ G15.out.same).1; clear g15)
      | (refine step_app (w0 := w) rfl _ _ rfl _ _ dpak (be 4 s.id) 8 (HL8.out) rfl (HFG.out _ _ KB.out hy3 (Nat.le_refl _)) rfl (B14.out.cells (hfc _ _)) (by decide) ?_; intro p15 c15 w4 g15; have G15 := hidden g15; have u1 := (HX.out _ G15.out.same).1; clear g15)
      | (refine step_app (w0 := w) rfl _ _ rfl _ _ dpak (be 4 s.id) 8 (HL8.out) rfl (HFG.out _ _ (KB.out.alloc _) (blk_new _ _) KB.out.size) rfl ((B14.out.same (same_alloc _ _)).cells (hfc _ _)) (by decide) ?_; intro p15 c15 w4 g15; have G15 := hidden g15; have u1 := (HX.out _ G15.out.same).1; clear g15)
      | (have _t := tD; clear tD; refine step_high rfl s.id HI.out (by go_simp <;> rfl) ?_; intro b14 y3 hb3 k3; have B14 := hidden hb3; have KB : Hid (Same w y3) := hidden (KD0.out y3 k3); have hcz := HCZ.out y3; have x1 := (HX.out _ KB.out).1; have x1' : ∀ q, (y3.alloc q).cell? ⟨g, 1, none⟩ = some (.int .i64 s.sectors) := fun q => (HX.out _ (KB.out.alloc q)).1; clear hb3 k3)
      | (have _t := tD; clear tD; refine step_high rfl s.id HI.out (by go_simp <;> rfl) ?_; intro b14 y3 hb3 k3; have B14 := hidden hb3; have KB : Hid (Same w y3) := hidden (KDA.out y3 k3); have hy3 := HNY.out y3 k3; have hcy := HCV.out y3 w.heap.size hy3; have x1 := (HX.out _ KB.out).1; have x1' : ∀ q, (y3.alloc q).cell? ⟨g, 1, none⟩ = some (.int .i64 s.sectors) := fun q => (HX.out _ (KB.out.alloc q)).1; clear hb3 k3)
      | (have _t := tD; clear tD; refine step_high rfl s.id HI.out (by go_simp <;> rfl) ?_; intro b14 y3 hb3 k3; have B14 := hidden hb3; have G8 := hidden (KDB.out.on k3); have KB := hidden G8.out.same; have x1 := (HX.out _ KB.out).1; have x1' : ∀ q, (y3.alloc q).cell? ⟨g, 1, none⟩ = some (.int .i64 s.sectors) := fun q => (HX.out _ (KB.out.alloc q)).1; clear hb3 k3)
      | (refine step_high rfl s.sectors HC.out (by go_simp <;> rfl) ?_; intro b21 y5 hb5 k5; have B21 := hidden hb5; replace G15 := hidden (G15.out.on k5); clear hb5 k5)
      | fail "none")
    all_goals
      go_wp2_with fail
      go_meet
      case rel => exact ⟨_, _, rfl, G22.out⟩
  case rest =>
    obtain ⟨p0, c0, rfl, hg0⟩ := hcut
    have G0 := hidden hg0
    have HS := hidden (fun W v (h : Bt W v (edge0 dpak s.id s.sectors)) => sum_any v _ W h (by rw [edge0_len _ rfl]; decide))
    have HHB : Hid (edge0 dpak s.id s.sectors ++ be 4 (crc (edge0 dpak s.id s.sectors)) = headB s.id s.sectors) := hidden rfl
    obtain ⟨E0, hE0⟩ : ∃ E0, edge0 dpak s.id s.sectors = E0 := ⟨_, rfl⟩
    have hEl : E0.length = 12 := by rw [← hE0]; exact edge0_len _ rfl _ _
    rw [hE0] at G0 HS HHB
    have HEL := hidden hEl
    have L4 : Hid (∀ x, (be 4 x).length = 4) := hidden (fun x => be_length _ _)
    clear hg0 hE0 hEl KC KD0 KDA KDB HL8 HL12 HFG HNY HCZ HCV hcvA hfc e1 e2 a1 a2 wi wc'
    go_wp2_with (first
      | (go_at_call 50; refine (HS.out _ _ G0.out.bt).mono ?_; rintro e w1 ⟨b1, rfl, hb1, _, _, k1⟩; have B1 := hidden hb1; have G1 := hidden (G0.out.on k1); clear hb1 k1)
      | (at_builtin; refine wl_app (w0 := w) rfl _ _ rfl _ _ _ _ rfl G1.out rfl B1.out (by rw [L4.out, HEL.out]; decide) ?_; intro v2 w2 g2 _ _; rw [HHB.out] at g2; have G2 := hidden g2; obtain ⟨p2, c2, hv2, _⟩ := g2.own.form; rw [headB_len] at hv2; subst hv2; clear g2))
    have hnn : us.length = s.chunks.length := HD.out.len
    have hmany : us.length ≤ 32768 := by rw [hnn]; exact HD.out.ok.many
    have HLB := hidden (show s.bs.length ≤ 262144 ∧ s.bs.length = 16 + (bodyB s.chunks).length from ⟨by have := HD.out.ok.room; have := HD.out.ok.b1; omega, s.bs_len⟩)
    obtain ⟨n, hn⟩ : ∃ n, us.length = n := ⟨_, rfl⟩
    have HN := hidden (show us.length = n ∧ s.chunks.length = n from ⟨hn, by omega⟩)
    have HC3 : Hid (∀ W, Same w W → W.cell? ⟨g, 3, none⟩ = some (.slice va n vc)) := hidden (fun W k => by rw [← hn]; exact blk_cell (HBX.out W k))
    clear hnn hn
    go_loopw [3, 4, 5] (fun hv iv nv wr => ∃ (k : Nat) (p : Option Addr) (c : Nat), k ≤ n ∧ iv = .int .i64 k ∧ hv = .slice p (16 + (bodyB (s.chunks.take k)).length) c ∧ Gr w wr (.slice p (16 + (bodyB (s.chunks.take k)).length) c) (headB s.id s.sectors ++ bodyB (s.chunks.take k))) (fun _ iv _ wr => n - (intOf iv).toNat)
    case atStart => exact ⟨0, p2, c2, Nat.zero_le _, rfl, rfl, by simpa [bodyB] using G2.out⟩
    case round =>
      obtain ⟨k, p, c, hk, rfl, rfl, hG⟩ := hrel
      obtain ⟨wo, rfl⟩ : ∃ x, x = wr := ⟨_, rfl⟩
      have G3 := hidden hG
      have c3 := HC3.out wo hG.same
      by_cases h1 : k < n
      · have hkc : k < s.chunks.length := by have := HN.out.2; omega
        have hku : k < us.length := by have := HN.out.1; omega
        have hq := HD.out.chunks k s.chunks[k] us[k] (List.getElem?_eq_getElem hkc) (List.getElem?_eq_getElem hku)
        obtain ⟨ca, cc, hcf, _⟩ := hq.form
        have hst := body_take_succ s.chunks k hkc
        have hle := body_take_le s.chunks (k + 1)
        have hlb := HLB.out
        have HBS := hidden (body_snoc s.chunks k hkc)
        obtain ⟨vb, rfl⟩ : ∃ vb, va = some ⟨vb, 0, none⟩ := by
          rcases HD.out.row.ex with ⟨_, h0⟩ | ⟨vb, cap', cur, fz, hv, _⟩
          · omega
          · cases hv
            exact ⟨_, rfl⟩
        have HC5 : Hid (∀ W, Same w W → W.cell? ⟨vb, k, none⟩ = some (us[k])) := hidden (fun W kk => OwnM.cells (HD.out.row.same kk) rfl k _ (List.getElem?_eq_getElem hku))
        rw [hcf] at HC5 hq
        have HQ := hidden (Bt.ownM hq)
        have HLX : Hid ((headB s.id s.sectors ++ bodyB (s.chunks.take k)).length = 16 + (bodyB (s.chunks.take k)).length) := hidden (by rw [List.length_append, headB_len])
        obtain ⟨X, hX⟩ : ∃ X, headB s.id s.sectors ++ bodyB (s.chunks.take k) = X := ⟨_, rfl⟩
        obtain ⟨P, hP⟩ : ∃ P, 16 + (bodyB (s.chunks.take k)).length = P := ⟨_, rfl⟩
        obtain ⟨ch, hch⟩ : ∃ ch, s.chunks[k] = ch := ⟨_, rfl⟩
        rw [hch] at HBS HC5 HQ hst
        obtain ⟨M, hM⟩ : ∃ M, ch.length = M := ⟨_, rfl⟩
        rw [hM] at HBS HC5 HQ hst
        rw [hX, hP] at HLX
        rw [hX, hP] at G3
        rw [hP]
        have HFINL : Hid (16 + (bodyB (s.chunks.take (k + 1))).length = P + 8 + M) := hidden (by omega)
        have HFIN : Hid (headB s.id s.sectors ++ bodyB (s.chunks.take (k + 1)) = X ++ be 4 M ++ be 4 (crc (be 4 M ++ ch)) ++ ch) := hidden (by rw [HBS.out, ← hX]; simp only [List.append_assoc])
        have hPM : P + 8 + M ≤ 262144 := by omega
        have HPM := hidden hPM
        have HMM := hidden hM
        have q0 : (0 : Int) ≤ (k : Int) := Int.natCast_nonneg _
        have q1 : (k : Int) < (n : Int) := by omega
        have wM : IntKind.u64.wrap (M : Int) = (M : Int) := by rw [IntKind.wrap_u64]; omega
        have HHI : Hid (∀ W : World, Calls Tryd.prog 49 #[.int .u64 M, .int .i64 4] W fun e w' => e = .returned (.slice (some ⟨W.heap.size, 0, none⟩) 4 4) ∧ Bt w' (.slice (some ⟨W.heap.size, 0, none⟩) 4 4) (be 4 M) ∧ Same W w') := hidden (fun W => (high_any M (by omega) W).mono fun e w' ⟨h1, h2, h3⟩ => ⟨h1, bt_of4 h2 (be_length _ _), h3⟩)
        have c5 := HC5.out wo G3.out.same
        have L1 : Hid (P + 4 = X.length + (be 4 M).length) := hidden (by rw [HLX.out, be_length])
        have HMx : Hid (M < 18446744073709551616) := hidden (by omega)
        clear hG hq hcf hst hle hlb hX hP hch hM hPM
        go_upto_region 8 with (first
          | (go_at_call 49; refine (HHI.out _).mono ?_; rintro e w3 ⟨rfl, hb5, k3⟩; have B5 := hidden hb5; have G4 := hidden (G3.out.on k3); clear hb5 k3)
          | (at_builtin; refine wl_app (w0 := w) rfl _ _ rfl _ _ _ _ rfl G4.out rfl B5.out (by rw [← L1.out]; have := HPM.out; omega) ?_; intro v4 w4 g4 hgr4 _; have B6 := hidden (B5.out.kept ((Kept.refl (fun i => (Value.slice p P c).ownBlock = some i) w3).grown hgr4 (fun i e _ => e)) (fun i hi e => by have h8 := G3.out.own.lt e; simp [Value.ownBlock] at hi; omega)); obtain ⟨p4, c4, hv4, _⟩ := g4.own.form; rw [List.length_append, ← L1.out] at hv4; subst hv4; have G5 := hidden g4; clear g4 hgr4))
        have S4 := hidden G5.out.same
        have d3 : ∀ W, Same w W → W.cell? ⟨g, 3, none⟩ = some (.slice (some ⟨vb, 0, none⟩) n vc) := fun W kk => HC3.out W kk
        have f3 : w4.cell? ⟨g, 3, none⟩ = some (.slice (some ⟨vb, 0, none⟩) n vc) := HC3.out w4 S4.out
        have f3a : ∀ q, (w4.alloc q).cell? ⟨g, 3, none⟩ = some (.slice (some ⟨vb, 0, none⟩) n vc) := fun q => HC3.out _ (S4.out.alloc q)
        have f5 : w4.cell? ⟨vb, k, none⟩ = some (.slice ca M cc) := HC5.out w4 S4.out
        have f5a : ∀ q, (w4.alloc q).cell? ⟨vb, k, none⟩ = some (.slice ca M cc) := fun q => HC5.out _ (S4.out.alloc q)
        have G50 : Hid (Gr w4 (w4.alloc (.cells #[] 5)).drew (.slice (some ⟨w4.heap.size, 0, none⟩) 0 0) []) := hidden (Gr.fresh ((Kept.refl (fun _ => False) w4).drew) [] (0, 0) (.inl rfl) (by decide))
        have B50 := hidden (B6.out.same (((Kept.refl (fun _ => False) w4).alloc (.cells #[] 5)).drew))
        have N52 : Hid (4 = ([] : List UInt8).length + (be 4 M).length) := hidden (by rw [be_length]; rfl)
        have N60 : Hid (4 + M = (be 4 M).length + ch.length) := hidden (by rw [be_length, HMM.out])
        have N62 : Hid (P + 8 = (X ++ be 4 M).length + (be 4 (crc (be 4 M ++ ch))).length) := hidden (by rw [List.length_append, be_length, be_length, HLX.out])
        have N9 : Hid (P + 8 + M = (X ++ be 4 M ++ be 4 (crc (be 4 M ++ ch))).length + ch.length) := hidden (by rw [List.length_append, ← N62.out, HMM.out])
        have Z60 : Hid (4 + M ≤ 1099511627776) := hidden (by have := HPM.out; omega)
        have Z61 : Hid ((be 4 M ++ ch).length ≤ 281474976710656) := hidden (by rw [List.length_append, ← N60.out]; have := HPM.out; omega)
        have Z62 : Hid (P + 8 ≤ 1099511627776) := hidden (by have := HPM.out; omega)
        clear d3 c3 c5
        go_cut [3] from 27 to 71 (fun x wx => ∃ p c, x = .slice p (P + 8) c ∧ Gr w wx (.slice p (P + 8) c) (X ++ be 4 M ++ be 4 (crc (be 4 M ++ ch))))
        case first =>
          go_region_law (first
            | (refine step_app (w0 := w4) rfl _ _ rfl _ _ [] (be 4 M) 4 N52.out rfl G50.out rfl B50.out (by decide) ?_; intro p52 c52 w5 g52; rw [List.nil_append] at g52; have G52 := hidden g52; have S5 := hidden (S4.out.trans g52.same); have u3 := HC3.out w5 S5.out; have u5 := HC5.out w5 S5.out; have B59 := hidden (HQ.out.same S5.out); clear g52)
            | (refine step_app (w0 := w4) rfl _ _ rfl _ _ (be 4 M) ch (4 + M) N60.out rfl G52.out rfl B59.out Z60.out ?_; intro p60 c60 w6 g60; have G60 := hidden g60; clear g60)
            | (refine step_sum rfl (.slice p60 (4 + M) c60) (be 4 M ++ ch) G60.out.bt Z61.out (by go_simp <;> rfl) ?_; intro b61 w7 hb7 k7; have B61 := hidden hb7; have G61 := hidden (G5.out.on (G60.out.same.trans k7)); clear hb7 k7)
            | (refine step_app (w0 := w) rfl _ _ rfl _ _ (X ++ be 4 M) (be 4 (crc (be 4 M ++ ch))) (P + 8) N62.out rfl G61.out rfl B61.out Z62.out ?_; intro p62 c62 w8 g62; have G62 := hidden g62; clear g62)
            | fail "none")
          all_goals
            go_wp2_with fail
            go_meet
            case rel => exact ⟨_, _, rfl, G62.out⟩
        case rest =>
          obtain ⟨p8, c8, rfl, hg8⟩ := hcut
          have G8 := hidden hg8
          have x3 := HC3.out wc hg8.same
          have x5 := HC5.out wc hg8.same
          have BQ := hidden (HQ.out.same hg8.same)
          clear hg8 f3 f3a f5 f5a
          go_wp2_with (at_builtin; refine wl_app (w0 := w) rfl _ _ rfl _ _ _ _ rfl G8.out rfl BQ.out (by rw [← N9.out]; have := HPM.out; omega) ?_; intro v9 w9 g9 _ _; obtain ⟨p9, c9, hv9, _⟩ := g9.own.form; rw [List.length_append, ← N9.out] at hv9; subst hv9; have G9 := hidden g9; clear g9)
          go_roundw
          case rel =>
            exact ⟨k + 1, p9, c9, by omega, by go_num, by rw [HFINL.out], by rw [HFINL.out, HFIN.out]; exact G9.out⟩
          case measure => simp [intOf]; omega
      · have he : k = n := by omega
        subst he
        have q1 : ¬ (k : Int) < (k : Int) := by omega
        have hall : s.chunks.take k = s.chunks := by rw [← HN.out.2, List.take_length]
        rw [hall] at G3 ⊢
        have hbs : headB s.id s.sectors ++ bodyB s.chunks = s.bs := rfl
        rw [hbs, ← HLB.out.2] at G3
        rw [← HLB.out.2]
        have ok := HD.out.ok
        have hroom := ok.room
        have hL : s.len ≤ 262144 := hroom
        have hb1 := ok.b1
        have hL1 : s.bs.length + 16 ≤ s.len := hb1
        have hX : (s.size : Int) * (s.sectors : Int) = (s.len : Int) := by unfold PSt.len; simp
        have hw : IntKind.i64.wrap ((s.size : Int) * (s.sectors : Int)) = (s.len : Int) := by rw [hX, IntKind.wrap_i64]; omega
        have hmk := make_bytes s.len (by omega)
        have HLX := hidden (show s.bs.length + 16 ≤ s.len ∧ s.len ≤ 262144 from ⟨hL1, hL⟩)
        have S3 := hidden G3.out.same
        have Bx := HBX.out wo G3.out.same
        have x0 : wo.cell? ⟨g, 0, none⟩ = some (.int .i64 s.size) := blk_cell Bx
        have x1 : wo.cell? ⟨g, 1, none⟩ = some (.int .i64 s.sectors) := blk_cell Bx
        have y0 : wo.drew.cell? ⟨g, 0, none⟩ = some (.int .i64 s.size) := blk_cell Bx
        have y1 : wo.drew.cell? ⟨g, 1, none⟩ = some (.int .i64 s.sectors) := blk_cell Bx
        have BBS := hidden G3.out.bt
        have hmn := ok.many
        have HFt := hidden (fun W => foot_any s.chunks.length s.bs.length (by omega) (by omega) W)
        have HEn := hidden (fun W (kk : Same w W) => d_end (HD.out.same kk))
        have hnk : k = s.chunks.length := HN.out.2.symm
        have hft : edgeB dfot s.chunks.length s.bs.length = s.foot := by
          unfold PSt.foot
          rw [s.end_bs, PSt.slots, slotsFrom_len]
        rw [hft] at HFt
        have HLB2 := hidden (PSt.bare_len ok)
        have HLF := hidden s.foot_len
        have HNK := hidden hnk
        clear hG hbs hroom hb1 hX hL1 hL Bx ok hmn hft hnk hall
        go_wp2
        go_cut [6] from 72 to 81 (fun x wx => x = .slice (some ⟨wo.heap.size, 0, none⟩) s.len s.len ∧ wx.heap[wo.heap.size]? = some (.cells (List.replicate s.len (U8 0)).toArray 5 (0, 0)) ∧ Same wo wx)
        case first =>
          go_region_law fail
          all_goals
            go_wp2_with fail
            go_meet
            case rel => exact ⟨rfl, blk_kept ((Kept.refl (fun _ => False) _).drew) (fun h => h) (blk_new wo (.cells (List.replicate s.len (U8 0)).toArray 5 (0, 0))), ((Kept.refl (fun _ => False) wo).alloc _).drew⟩
        case rest =>
          obtain ⟨rfl, hg, hkk⟩ := hcut
          have hbx := BBS.out
          obtain ⟨pa, pc, hpf, _⟩ := hbx.form
          simp only [Value.slice.injEq] at hpf
          obtain ⟨rfl, _, rfl⟩ := hpf
          obtain ⟨ad, rfl⟩ : ∃ ad, p = some ad := by
            obtain ⟨b, off, e, _⟩ := hbx.cell (by rw [s.bs_len]; omega)
            exact ⟨_, e⟩
          have hcp := copy_zero s.len ad c s.bs wc (BBS.out.same hkk) (by have := HLX.out; omega) wo.heap.size hg
          have hB : (s.bs ++ List.replicate (s.len - s.bs.length) 0) = s.bare := rfl
          rw [hB] at hcp
          have G2' := setRow_heap wc wo.heap.size _ (s.bare.map U8).toArray 5 (0, 0) hg
          have K2 : Same w (wc.setRow wo.heap.size (s.bare.map U8).toArray) := same_setRow (S3.out.trans hkk) (S3.out.size) _
          generalize wc.setRow wo.heap.size (s.bare.map U8).toArray = W2 at *
          have E2 := HBX.out W2 K2
          have e3 : W2.cell? ⟨g, 3, none⟩ = some (.slice va k vc) := HC3.out W2 K2
          have e3d : W2.drew.cell? ⟨g, 3, none⟩ = some (.slice va k vc) := HC3.out W2 K2
          have e4 : W2.cell? ⟨g, 4, none⟩ = some (.bool s.shut) := blk_cell E2
          have hsl := slice_last wo.heap.size s.len (by have := HLX.out; omega)
          have hwr : IntKind.i64.wrap ((s.len : Int) - 16) = (s.len : Int) - 16 := by rw [IntKind.wrap_i64]; have := HLX.out; omega
          have HG2 := hidden G2'
          have HK2 := hidden K2
          have HIM : Hid (s.img = if s.shut then s.bare.take (s.len - 16) ++ s.foot else s.bare) := hidden rfl
          have HS3 := hidden S3.out.size
          clear hB G2' K2 E2 hg hkk x0 x1 y0 y1 hmk hw hbx
          cases hs : s.shut with
          | false =>
            rw [hs] at HIM e4
            clear hs
            go_wp2
            go_returns
            refine ⟨_, rfl, HS3.out, ?_, HK2.out⟩
            rw [HIM.out]
            exact HG2.out
          | true =>
            rw [hs] at HIM e4
            clear hs
            rw [← HNK.out] at HFt
            go_wp2
            have tE : True := trivial
            go_region_law (first
              | (refine step_copy rfl _ _ _ _ rfl (.slice (some ⟨wo.heap.size, s.len - 16, none⟩) 16 16) (.slice fa 16 fc) _ _ rfl rfl hcl ?_)
              | (have _t := tE; clear tE; refine step_call rfl 52 #[.pointer (some ⟨g, 0, none⟩)] (fun u W => u = .int .i64 (s.bs.length : Nat) ∧ W2.drew = W) (by go_simp <;> rfl) ((HEn.out _ (HK2.out.drew)).mono (fun e w' ⟨h1, h2⟩ => ⟨_, h1, rfl, h2⟩)) ?_; rintro u y3 ⟨rfl, rfl⟩)
              | (refine step_call rfl 51 #[.int .i64 (k : Nat), .int .i64 (s.bs.length : Nat)] (fun u W => ∃ a c, u = .slice a 16 c ∧ Bt W u s.foot ∧ Same W2 W) (by go_simp <;> rfl) ((HFt.out _).mono (fun e w' ⟨v, h1, h2, h3⟩ => ⟨v, h1, by obtain ⟨a, c, e, _⟩ := h2.form; rw [HLF.out] at e; exact ⟨a, c, e, h2, ((Kept.refl (fun _ => False) W2).drew).trans h3⟩⟩)) ?_; rintro u y4 ⟨fa, fc, rfl, hbf, k4⟩; have hcl := copy_lastB s.len wo.heap.size 16 s.bare s.foot y4 fa fc HLB2.out HLF.out (by have := HLX.out; omega) (by decide) hbf (blk_kept k4 (fun h => h) HG2.out); have HK3 := hidden (HK2.out.trans k4); have HG3 := hidden (blk_kept k4 (fun h => h) HG2.out); clear k4 hbf)
              | fail "none")
            all_goals
              go_wp2
              go_returns
              refine ⟨_, rfl, HS3.out, ?_, same_setRow HK3.out HS3.out _⟩
              rw [HIM.out, if_pos (by trivial), List.map_append, List.map_take]
              exact setRow_heap _ wo.heap.size _ _ 5 (0, 0) HG3.out
end Go.Proofs.YtafdkfieajdeiaaDoor
