/- pack: slotsOf's iterator. -/
import Derived.Test.YtafdkfieajdeiaaDoorPS0
namespace Go.Proofs.YtafdkfieajdeiaaDoor
open Go.RowKit Go.Shelf
set_option linter.unusedVariables false
set_option linter.unusedSimpArgs false
attribute [local go_sem] Oper.semAt_some
abbrev encSl (x : Nat × Nat) : Array Value := #[.agg #[.int .i64 (x.1 : Nat), .int .i64 (x.2 : Nat)]]
theorem cell_cells {w : World} {p : Addr} {v : Value} (h : w.cell? p = some v) : ∃ cs t fz, w.heap[p.block]? = some (.cells cs t fz) := by
  unfold World.cell? at h
  cases e : w.heap[p.block]? with
  | none => simp [e] at h
  | some o =>
    rw [e] at h
    cases o <;> first | exact ⟨_, _, _, rfl⟩ | (simp at h)
theorem KR.cell {H X : Nat} {a b : World} (k : KR H X a b) {p : Addr} {v : Value} (h : a.cell? p = some v) (hn : p.block ≠ H) (hr : rowOf a H 0 ≠ some p.block) : b.cell? p = some v := by
  obtain ⟨cs, t, fz, ho⟩ := cell_cells h
  exact (World.cell?_of_block ((k.cells _ _ _ _ ho hn hr).trans ho.symm)).trans h
theorem slotsOf_fn (a : Option Addr) (m c : Nat) (w : World) : Calls Tryd.prog 56 #[.slice a m c] w fun e w' => e = .returned (.func (.func 74) #[] #[.pointer (some ⟨w.heap.size, 0, none⟩)]) ∧ w.alloc (.cells #[.slice a m c] 32) = w' := by
  go_enter Tryd.func56, Tryd.ntmps56
  go_wp2
  go_returns
  exact ⟨rfl, rfl⟩
theorem slotV_some (s : Nat × Nat) : slotV (some s) = .tuple #[.agg #[.int .i64 (s.1 : Nat), .int .i64 (s.2 : Nat)], .bool true] := rfl
theorem slotV_none : slotV none = .tuple #[.agg #[.int .i64 0, .int .i64 0], .bool false] := rfl
set_option maxRecDepth 100000 in
set_option maxHeartbeats 4000000 in
/-- The bytes lie where no row of H is; H leads to nothing yet. -/
theorem slots_at (H X : Nat) (W : World) (bb : Nat) (v : Value) (L : List UInt8) (hlen : L.length ≤ 262144) (h16 : 16 ≤ L.length) (hBx : W.heap[bb]? = some (.cells #[v] 32 (0, 0))) (hbH : bb ≠ H) (hr0 : rowOf W H 0 = none) (hKW : ∀ V, KR H X W V → Tab V ∧ Bt V v L) :
    SeqAtR Fence.wide 6 Tryd.prog 74 #[.pointer (some ⟨bb, 0, none⟩)] encSl (KR H X) (LkH H) (fun ys => ys = slotsA L) (fun pre => pre <+: slotsA L) (slotsA L).length W := fun lp J Jx hJ hJx hLk hY h0 => by
  have HJ := hidden hJ
  have HJx := hidden hJx
  have HLk := hidden hLk
  have HY := hidden hY
  have HKW := hidden hKW
  have HBx := hidden hBx
  have HR0 := hidden hr0
  have HST := hidden (SlI.start h16)
  have HLen := hidden hlen
  obtain ⟨va, vn, vc, rfl⟩ : ∃ a n c, v = .slice a n c := by
    obtain ⟨ao, cap, e, _⟩ := (hKW W (KR.refl _ _ _)).2.form
    exact ⟨_, _, _, e⟩
  clear hJ hJx hLk hY hKW hBx hr0 hlen h16
  refine callsIn_of_wp Tryd.func74 rfl trivial ?_ rfl
  simp only [Tryd.ntmps74, List.size_toArray, List.length_cons, List.length_nil, Nat.reduceAdd, Nat.reduceSub, Array.replicate_succ, Array.replicate_zero, List.push_toArray, List.append_toArray, List.nil_append, List.cons_append]
  gi_wp2
  gi_loopw [3] (fun p wr => ∃ (i : Nat) (pre : List (Nat × Nat)), p = .int .i64 i ∧ SlI L pre i ∧ J pre wr ∧ KR H X W wr) (fun p _ => L.length - (intOf p).toNat)
  case atStart => exact ⟨16, [], rfl, HST.out, h0, KR.refl _ _ _⟩
  case round =>
    obtain ⟨i, pre, rfl, hi, hJs, hB⟩ := hrel
    have HI := hidden hi
    have HJs := hidden hJs
    have HB := hidden hB
    have hbx := hB.cells _ _ _ _ HBx.out hbH (by rw [HR0.out]; simp)
    have y0 : wr.cell? ⟨bb, 0, none⟩ = some (.slice va vn vc) := blk_cell hbx
    have HSl := hidden ((callsIn_wide (n := 5)).2 (slotAt_any (.slice va vn vc) L (i : Int) wr (HKW.out wr hB).1 (HKW.out wr hB).2 (by have := HLen.out; omega) (by omega) (by have := hi.fit; have := HLen.out; omega)))
    rw [if_neg (show ¬ (i : Int) < 0 by omega), Int.toNat_natCast] at HSl
    clear hi hJs hB hbx h0
    cases hs : slotOf L i with
    | none =>
      rw [hs, slotV_none] at HSl
      have HNo := hidden (HI.out.none hs)
      gi_wp2_with (refine ⟨trivial, ?_⟩; gi_at_call 59; refine (HSl.out).mono ?_; rintro e w2 ⟨rfl, k2⟩; have K2 := hidden k2; clear k2)
      refine ⟨(fun f h => by cases h), ?_⟩
      gi_wp2
      refine bodyPost_ret (results_none rfl _ _ _) rfl ?_
      exact ⟨⟨_, rfl⟩, .inl ⟨pre, HNo.out.symm, HJ.out.alloc _ (HJ.out pre wr w2 none HJs.out (grown_same K2.out) (fun r e => by cases e))⟩⟩
    | some s =>
      rw [hs, slotV_some] at HSl
      have HNx := hidden (HI.out.some hs)
      obtain ⟨es1, es2, es3⟩ := slotOf_some hs
      have hpl : pre.length < (slotsA L).length := by
        have := HNx.out.pre.length_le
        rw [List.length_append, List.length_singleton] at this
        omega
      have hlk := HLk.out pre wr HJs.out
      have hlen := HLen.out
      have hfi := HI.out.fit
      obtain ⟨s1, s2⟩ := s
      simp only at es1 es2 es3 HSl HNx
      have ws : IntKind.i64.wrap ((s1 : Int) + (s2 : Int)) = (s1 : Int) + (s2 : Int) := by rw [IntKind.wrap_i64]; omega
      have HS12 := hidden (show i < s1 + s2 ∧ i ≤ L.length ∧ s1 + s2 ≤ L.length from ⟨by omega, hfi, es3⟩)
      clear hs es1 es2 es3 hfi hlen
      gi_wp2_with (refine ⟨trivial, ?_⟩; gi_at_call 59; refine (HSl.out).mono ?_; rintro e w2 ⟨rfl, k2⟩; have K2 := hidden k2; clear k2; obtain ⟨fn, tmps, asg, bd, hy, hR⟩ := HY.out pre (s1, s2) (w2.alloc (.cells #[.int .i64 (s1 : Nat), .int .i64 (s2 : Nat)] 34)) (HJ.out.alloc _ (HJ.out pre wr w2 none HJs.out (grown_same K2.out) (fun r e => by cases e))) hpl; dsimp only [encSl] at hy)
      refine hR.mono ?_
      have K12 : Same wr (w2.alloc (.cells #[.int .i64 (s1 : Nat), .int .i64 (s2 : Nat)] 34)) := K2.out.alloc _
      have hsz := K2.out.size
      rintro e W3 (⟨rfl, hJ3, hk3⟩ | ⟨rfl, hJx3, hk3⟩)
      · have hb3 := hk3.cells _ _ _ _ (blk_new w2 (.cells #[.int .i64 (s1 : Nat), .int .i64 (s2 : Nat)] 34)) (by have := hlk.lt; omega) (by
          rw [rowOf_same hlk.lt K12]
          intro e
          have := hlk.row _ e
          omega)
        have z1 : W3.cell? ⟨w2.heap.size, 0, none⟩ = some (.int .i64 (s1 : Nat)) := blk_cell hb3
        have z2 : W3.cell? ⟨w2.heap.size, 1, none⟩ = some (.int .i64 (s2 : Nat)) := blk_cell hb3
        have HJ3 := hidden hJ3
        have HK3 := hidden (HB.out.trans ((KR.of hlk.lt K12).trans hk3))
        clear hJ3 hk3 hR hy K12 hb3 hlk hsz
        gi_wp2
        go_roundw
        case rel => exact ⟨s1 + s2, pre ++ [(s1, s2)], by go_num, HNx.out, HJ3.out, HK3.out⟩
        case measure => have := HS12.out; simp [intOf]; omega
      · have HJ3 := hidden hJx3
        clear hJx3 hk3 hR hy K12 hlk hsz
        gi_wp2
        refine bodyPost_ret (results_none rfl _ _ _) rfl ?_
        exact ⟨⟨_, rfl⟩, .inr ⟨pre ++ [(s1, s2)], HNx.out.pre, HJ3.out⟩⟩
end Go.Proofs.YtafdkfieajdeiaaDoor
