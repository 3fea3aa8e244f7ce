/- pack: the document's Scan. -/
import Derived.Test.YtafdkfieajdeiaaDoorPS5
import Derived.Deep.CutRange
namespace Go.Proofs.YtafdkfieajdeiaaDoor
open Go.RowKit
set_option linter.unusedVariables false
set_option linter.unusedSimpArgs false
theorem step_callw {P : Program} {ops : Array Oper} {o : Oper} {a : Act} {w : World} {K : Act → World → Prop} {Q : Exit → Act → World → Prop} {E : Prop}
    (hw : Region.wanted o (yielded ops a.tmps) = true) (f : FuncId) (vals : Array Value) (R : Value → World → Prop)
    (hrun : (execOp a.eval o).run P w = .ok (.enter f vals) w) (hc : Calls P f vals w fun e w' => ∃ v, e = .returned v ∧ R v w')
    (hK : ∀ v w', R v w' → K (a.put o.dst v) w') :
    if Region.wanted o (yielded ops a.tmps) = true then Oper.wp P o a w K Q else E := by
  rw [if_pos hw]
  unfold Oper.wp
  rw [hrun, Oper.upon_enter]
  refine hc.mono ?_
  rintro e w' ⟨v, rfl, hR⟩
  exact hK v w' hR
set_option maxHeartbeats 2000000 in
set_option maxRecDepth 100000 in
theorem refScan_arg (size count : Int) (b : List UInt8) (v : Value) (w : World) (hb : Bt w v b) (h : ¬ (PMay size count ∧ (b.length : Int) = size * count)) :
    Calls Tryd.prog 26 #[.int .i64 size, .int .i64 count, v] w fun e w' => ∃ u, e = .returned u ∧ ScQ size count b w u w' := by
  have he := scR_arg h
  have HR := hidden (show ∀ W, Same w W → ∃ u, Ending.returned (.tuple #[.int .u32 0, .slice none 0 0, .bool false, .int .i64 1]) = .returned u ∧ ScQ size count b w u W from fun W k => ⟨_, rfl, ⟨_, by rw [he]; rfl, by rw [he]; exact SlM.nil _, k⟩⟩)
  obtain ⟨ao, cap, rfl, _⟩ := hb.form
  have HM := hidden (fun W => power_any size W)
  by_cases hp : PSize size
  · rw [decide_eq_true hp] at HM
    by_cases h1 : count < 1
    · clear hb he h
      go_enter Tryd.func26, Tryd.ntmps26
      go_wp2_with (go_at_call 37; refine (HM.out _).mono ?_; rintro e w1' ⟨rfl, rfl⟩)
      go_returns
      exact HR.out _ (Kept.refl _ _)
    · by_cases h2 : 64 < count
      · clear hb he h
        go_enter Tryd.func26, Tryd.ntmps26
        go_wp2_with (go_at_call 37; refine (HM.out _).mono ?_; rintro e w1' ⟨rfl, rfl⟩)
        go_returns
        exact HR.out _ (Kept.refl _ _)
      · obtain ⟨h4, h5, h6⟩ := hp
        have hlen : (b.length : Int) ≠ size * count := fun e => h ⟨⟨⟨h4, h5, h6⟩, by omega, by omega⟩, e⟩
        have hp : size * count ≤ 4096 * 64 := Int.mul_le_mul h5 (by omega) (by omega) (by omega)
        have hp0 : 0 ≤ size * count := Int.mul_nonneg (by omega) (by omega)
        have hw : IntKind.i64.wrap (size * count) = size * count := by rw [IntKind.wrap_i64]; omega
        obtain ⟨M, hM⟩ : ∃ M, size * count = M := ⟨_, rfl⟩
        rw [hM] at hlen hw
        have q1 : ((b.length : Int) != M) = true := by simpa using hlen
        have q2 : ((b.length : Int) == M) = false := by simpa using hlen
        clear hb he h hp hp0
        go_enter Tryd.func26, Tryd.ntmps26
        go_wp2_with (go_at_call 37; refine (HM.out _).mono ?_; rintro e w1' ⟨rfl, rfl⟩)
        go_returns
        exact HR.out _ (Kept.refl _ _)
  · rw [decide_eq_false hp] at HM
    clear hb he h
    go_enter Tryd.func26, Tryd.ntmps26
    go_wp2_with (go_at_call 37; refine (HM.out _).mono ?_; rintro e w1' ⟨rfl, rfl⟩)
    go_returns
    exact HR.out _ (Kept.refl _ _)
/-- A head as the document looks at it. -/
theorem head_doc (b : List UInt8) (h : 16 ≤ b.length) (c : Nat) (hc : c < 4294967296) :
    b.take 16 = headB (scId b) c ↔ (b.take 4 = dpak ∧ num ((b.drop 8).take 4) = c ∧ be 4 (crc (b.take 12)) = (b.take 16).drop 12) := by
  obtain ⟨A, hA⟩ : ∃ A, b.take 4 = A := ⟨_, rfl⟩
  obtain ⟨I, hI⟩ : ∃ A, (b.drop 4).take 4 = A := ⟨_, rfl⟩
  obtain ⟨C, hC⟩ : ∃ A, (b.drop 8).take 4 = A := ⟨_, rfl⟩
  obtain ⟨S, hS⟩ : ∃ A, (b.take 16).drop 12 = A := ⟨_, rfl⟩
  have lA : A.length = 4 := by rw [← hA, List.length_take]; omega
  have lI : I.length = 4 := by rw [← hI, List.length_take, List.length_drop]; omega
  have lC : C.length = 4 := by rw [← hC, List.length_take, List.length_drop]; omega
  have e8 : b.take 8 = A ++ I := by
    rw [← hA, ← hI, ← List.take_append_drop 4 (b.take 8), List.take_take, List.drop_take]; rfl
  have e12 : b.take 12 = A ++ I ++ C := by
    rw [← e8, ← hC, ← List.take_append_drop 8 (b.take 12), List.take_take, List.drop_take]; rfl
  have e16 : b.take 16 = A ++ I ++ C ++ S := by
    rw [← e12, ← hS]
    conv => lhs; rw [← List.take_append_drop 12 (b.take 16), List.take_take]
    rfl
  have hId : be 4 (scId b) = I := by unfold scId; rw [hI]; exact be_num 4 I lI
  rw [hA, hC, hS, e16, e12]
  unfold headB edgeB edge0
  rw [hId]
  constructor
  · intro e
    rw [List.append_assoc, List.append_assoc, List.append_assoc, List.append_assoc] at e
    obtain ⟨g1, e⟩ := List.append_inj e (by rw [lA]; rfl)
    obtain ⟨_, e⟩ := List.append_inj e rfl
    obtain ⟨g3, g4⟩ := List.append_inj e (by rw [lC, be_length])
    refine ⟨g1, by rw [g3, num_be']; omega, ?_⟩
    rw [g4, g1, g3]
  · rintro ⟨g1, g2, g3⟩
    have hC4 : be 4 c = C := by rw [← g2]; exact be_num 4 C lC
    rw [hC4, ← g1, g3]
theorem ba_beq (l m : List UInt8) : ((⟨l.toArray⟩ : ByteArray).toList == (⟨m.toArray⟩ : ByteArray).toList) = decide (l = m) := by
  by_cases e : l = m
  · rw [decide_eq_true e, e]; simp
  · rw [decide_eq_false e]
    refine beqS_ne2 (fun e2 => e ?_)
    have := congrArg (fun x => x.data.toList) e2
    simpa using this
-- WALK
theorem two_lies (w : World) (x y : Value) : Lies (w.alloc (.cells #[x, y] 34)) (some ⟨w.heap.size, 0, none⟩) 1 [x, y] := fun _ => ⟨_, rfl, fun j u hj => by
  match j, hj with
  | 0, hj => cases hj; exact blk_cell (j := 0) (blk_new w _)
  | 1, hj => cases hj; exact blk_cell (j := 1) (blk_new w _)⟩
end Go.Proofs.YtafdkfieajdeiaaDoor
