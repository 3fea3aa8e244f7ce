/- The law's does at every call; its same; HandleDoes walked. -/
import Derived.Test.YtiffkcffcjembaaH16
import Derived.Test.YtiffkcffcjembaaStepC
namespace Go.Proofs.Ytiffkcffcjembaa
open Go.RowKit Go.Maps
set_option linter.unusedVariables false
set_option linter.unusedSimpArgs false
theorem d_any (g bm gr : Nat) (f : FT) (n : Nat) (kd x fl : Int) (w : World) (h : PR w g bm gr f n) (hx : I64 x) (hf : I64 fl) (hn : n < 17592186044416) :
    Calls Try.prog 9 #[P0 g, P0 gr, .agg #[.int .i64 kd, .int .i64 x, .int .i64 fl]] w fun e w' => e = .returned (.bool true) ∧ DOut g bm gr n w w' := by
  by_cases hk : kd < 0 ∨ 6 < kd
  · exact d_none g bm gr f n kd x fl w h hk
  · obtain rfl | rfl | rfl | rfl | rfl | rfl | rfl : kd = 0 ∨ kd = 1 ∨ kd = 2 ∨ kd = 3 ∨ kd = 4 ∨ kd = 5 ∨ kd = 6 := by omega
    · exact d_open g bm gr f n x fl w h hx hf hn
    · exact d_close g bm gr f n x fl w h hx hf hn
    · exact d_get g bm gr f n x fl w h hx hf hn
    · exact d_count g bm gr f n x fl w h hx hf hn
    · exact d_all g bm gr f n x fl w h hx hf hn
    · exact d_inodes g bm gr f n x fl w h hx hf hn
    · exact d_clear g bm gr f n x fl w h hx hf hn
/-- A call that is wanted, guarded or not. -/
theorem step_callw {P : Program} {ops : Array Oper} {o : Oper} {a : Act} {w : World} {K : Act → World → Prop} {Q : Exit → Act → World → Prop} {E : Prop}
    (hw : Region.wanted o (yielded ops a.tmps) = true) (f : FuncId) (vals : Array Value) (R : Value → World → Prop)
    (hrun : (execOp a.eval o).run P w = .ok (.enter f vals) w) (hc : Calls P f vals w fun e w' => ∃ v, e = .returned v ∧ R v w')
    (hK : ∀ v w', R v w' → K (a.put o.dst v) w') :
    if Region.wanted o (yielded ops a.tmps) = true then Oper.wp P o a w K Q else E := by
  rw [if_pos hw]
  unfold Oper.wp
  rw [hrun, Oper.upon_enter]
  refine hc.mono ?_
  rintro e w' ⟨v, rfl, hR⟩
  exact hK v w' hR
structure AllR (f : FT) (w : World) (u : Value) (W : World) : Prop where
  ex : ∃ va vc, u = .slice va (ol f).length vc ∧ W.ownsRow w.heap.size 44 3 (.slice va (ol f).length vc) (ol f).length (c3 (ol f)) ∧ Same w W
structure InoR (f : FT) (w : World) (u : Value) (W : World) : Prop where
  ex : ∃ l, InoL f l ∧ l.length ≤ 64 ∧ W.ownsRow w.heap.size 3 1 u l.length (l.map (Value.int .i64)) ∧ Same w W
theorem all_r (g bm gr : Nat) (f : FT) (n : Nat) (w W : World) (h : PR w g bm gr f n) (k : Same w W) : Calls Try.prog 16 #[P0 g] W fun e w' => ∃ v, e = .returned v ∧ AllR f W v w' := by
  refine (h_all g bm f n W (h.same k).t).mono ?_
  rintro e w' ⟨v, rfl, ho, k1⟩
  obtain ⟨va, vc, rfl⟩ := own_form ho
  exact ⟨_, rfl, ⟨va, vc, rfl, ho, k1⟩⟩
theorem inol_le {f : FT} {l : List Int} (h : InoL f l) {o : List Int} (ho : Ris (ol f) (ol f).length o) : l.length ≤ 64 := by
  have := h.unique ho.ino
  subst this
  exact Nat.le_trans ho.few (ol_le f)
theorem ino_r (g bm gr : Nat) (f : FT) (n : Nat) (w W : World) (h : PR w g bm gr f n) (k : Same w W) (hn : n ≤ 17592186044416) : Calls Try.prog 17 #[P0 g] W fun e w' => ∃ v, e = .returned v ∧ ∃ l, InoL f l ∧ w'.ownsRow W.heap.size 3 1 v l.length (l.map (Value.int .i64)) ∧ Same W w' := by
  refine (h_inodes g bm f n W (h.same k).t hn).mono ?_
  rintro e w' ⟨v, l, rfl, hl, ho, k1⟩
  exact ⟨_, rfl, l, hl, ho, k1⟩
set_option maxHeartbeats 4000000 in
set_option maxRecDepth 100000 in
theorem same_any (g bm gr : Nat) (f : FT) (n : Nat) (w : World) (h : PR w g bm gr f n) (hn : n ≤ 17592186044416) :
    Calls Try.prog 10 #[P0 g, P0 gr] w fun e w' => e = .returned (.bool true) ∧ Same w w' := by
  have H := hidden h
  obtain ⟨u, hbu, hou⟩ := h.r.ex
  obtain ⟨ua, uc, rfl⟩ := own_form hou
  have cu : w.cell? ⟨gr, 0, none⟩ = some (.slice ua (ol f).length uc) := (blk_cell hbu).trans rfl
  have hol := ol_le f
  have OU := hidden hou
  clear h hbu hou
  go_enter Try.func10, Try.ntmps10
  go_wp2
  go_region_law (first
    | (refine step_callw (by rfl) 16 #[P0 g] (fun u W => AllR f w.drew u W) (by go_simp; try rfl) (all_r g bm gr f n w _ H.out ((Kept.refl _ w).drew)) ?_; rintro u2 w2 hu; obtain ⟨va, vc, rfl, ho, k2⟩ := hu.ex; clear hu; have k2w : Same w w2 := ((Kept.refl (fun _ => False) w).drew).trans k2; have cu2 := k2w.cell (fun h => h) cu; have R2 := hidden ho; have K2 := hidden k2w; clear ho k2 k2w)
    | (refine step_callw (by rfl) 23 #[.slice va (ol f).length vc, .slice ua (ol f).length uc] (fun u W => u = .bool true ∧ Same w2 W) (by go_simp; try rfl) ((sameHandles_eq _ _ (ol f) _ _ _ R2.out (own_kept OU.out K2.out (fun _ _ h => h)) (by omega)).mono (fun e w' ⟨a, b⟩ => ⟨_, a, rfl, b⟩)) ?_; rintro u3 w3 ⟨rfl, k3⟩; have K3 := hidden (K2.out.trans k3); clear k3)
    | (refine step_callw (by rfl) 17 #[P0 g] (fun u W => ∃ l, InoL f l ∧ W.ownsRow w3.heap.size 3 1 u l.length (l.map (Value.int .i64)) ∧ Same w3 W) (by go_simp; try rfl) (ino_r g bm gr f n w _ H.out K3.out hn) ?_; rintro u4 w4 ⟨l, hl, ho4, k4⟩; have IL := hidden hl; have R4 := hidden ho4; have K4 := hidden (K3.out.trans k4); clear hl ho4 k4)
    | (refine step_callw (by rfl) 25 #[P0 gr] (fun u W => ∃ o, Ris (ol f) (ol f).length o ∧ W.ownsRow w4.heap.size 3 1 u o.length (iv o) ∧ Same w4 W) (by go_simp; try rfl) ((r_inodes gr _ _ (H.out.same K4.out).r hol).mono (fun e w' ⟨v, o, a, b, c, d⟩ => ⟨v, a, o, b, c, d⟩)) ?_; rintro u5 w5 ⟨o, ho, hr5, k5⟩; have hlo := ho.ino.unique IL.out; subst hlo; have hfe := ho.few; have R5 := hidden hr5; have R45 := hidden (own_kept R4.out k5 (fun _ _ h => h)); have K5 := hidden (K4.out.trans k5); clear ho hr5 k5)
    | (refine step_callw (by rfl) 24 #[u4, u5] (fun u W => u = .bool true ∧ Same w5 W) (by go_simp; try rfl) ((sameInts_eq _ _ o _ _ _ R45.out R5.out (by omega)).mono (fun e w' ⟨a, b⟩ => ⟨_, a, rfl, b⟩)) ?_; rintro u6 w6 ⟨rfl, k6⟩; have K6 := hidden (K5.out.trans k6); clear k6))
  all_goals
    go_wp2
    go_ret
    exact ⟨rfl, K6.out⟩
end Go.Proofs.Ytiffkcffcjembaa
