/- dir: what its calls tell of no tree; lives. -/
import Derived.Test.YtmlibjohhgpniaaGreatDoorRgT
import Derived.Test.YtmlibjohhgpniaaGreatDoorDi3
/- dir: List of a directory of one name. -/
/- dir: the entries of a directory of one name, gone over. -/
/- A drawn region inside a round is walked as outside of it; where a key stands in a sorted list. -/
namespace Go.Proofs.YtmlibjohhgpniaaGreatDoor
open Go.RowKit Go.Shelf
theorem op_inRound {F : Fence} {l n : Nat} {P : Program} {o : Oper} {a : Act} {w : World} {next : Act → World → Prop} {Q : Exit → Act → World → Prop} (hro : F.round = none) (hs : o.semAt (some l) a.eval = o.semAt none a.eval) (h : Oper.wpIn F n P o a w next Q) : Oper.wpIn (F.inRound l) n P o a w next Q := by
  unfold Oper.wpIn at *
  refine ⟨h.1, ?_⟩
  have h2 := h.2
  rw [hro] at h2
  rw [Fence.inRound_round, hs]
  generalize (o.semAt none a.eval).run P w = r at *
  cases r with
  | ok x w' => cases x <;> exact h2
  | halt x w' => cases x <;> exact h2
theorem wpAnyIn_inRound {F : Fence} {l n : Nat} {P : Program} {md : Region.Mode} {ops : Array Oper} {Q : Exit → Act → World → Prop} (hro : F.round = none) (hs : ∀ (i : Nat) (o : Oper), ops[i]? = some o → ∀ e, o.semAt (some l) e = o.semAt none e) : ∀ (fuel : Nat) (listed : Array Bool) (a : Act) (w : World), wpAnyIn F n P md ops Q fuel listed a w → wpAnyIn (F.inRound l) n P md ops Q fuel listed a w
  | 0, _, _, _, h => h
  | fuel + 1, listed, a, w, h => ⟨h.1, fun i hi => by
      have hh := h.2 i hi
      unfold wpOpIn at *
      split
      · rename_i e
        simp only [e] at hh
        exact wpAnyIn_inRound hro hs fuel _ _ _ hh
      · rename_i o ho
        simp only [ho] at hh
        split
        · rename_i hw
          simp only [hw, if_true] at hh
          exact op_inRound hro (hs i o ho _) (Oper.wpIn_mono (fun a w h => wpAnyIn_inRound hro hs fuel _ a w h) hh)
        · rename_i hw
          simp only [hw] at hh
          exact ⟨hh.1, wpAnyIn_inRound hro hs fuel _ _ _ hh.2⟩⟩
def isDefer : Op → Bool
  | .defer _ => true
  | _ => false
theorem semAt_same {ops : List Oper} {l : Nat} (h : (ops.all fun o => !isDefer o.op) = true) (i : Nat) (o : Oper) (ho : ops.toArray[i]? = some o) (e : Operand → Value) : o.semAt (some l) e = o.semAt none e := by
  have hm : o ∈ ops := by
    rw [List.getElem?_toArray] at ho
    exact List.mem_of_getElem? ho
  have := List.all_eq_true.1 h o hm
  rw [Oper.semAt_some _ _ _ (fun c hc => by rw [hc] at this; simp [isDefer] at this)]
  rfl
end Go.Proofs.YtmlibjohhgpniaaGreatDoor
namespace Go.Proofs.YtmlibjohhgpniaaGreatDoor
open Go.RowKit Go.Shelf
set_option linter.unusedVariables false
set_option linter.unusedSimpArgs false
attribute [local go_sem] Oper.semAt_some
def itD : KV := (kD 1 ⟨#[98]⟩, tV 5)
theorem rg_D : ndD.rg (kD 1 ⟨#[]⟩) (kD 2 ⟨#[]⟩) = [itD] := by
  have h : inR (kD 1 ⟨#[]⟩) (kD 2 ⟨#[]⟩) itD = true := by
    unfold inR
    rw [ltS_D, ltS_D, Lib.toList_data]
    decide +kernel
  have e : ndD.keys.zip ndD.vals = [itD] := rfl
  unfold Nd.rg
  rw [e]
  simp [h]
/-- What the entries' iterator must find again. -/
structure EnW (V : World) (B g p : Nat) (z1 z2 z3 : Option Addr) (d1 d2 d3 : Nat) : Prop where
  tr : LT V g p ndD z1 z2 z3 1 d1 1 d2 0 d3
  b0 : V.heap[B]? = some (.cells #[.pointer (some ⟨g, 0, none⟩)] 22 (0, 0))
  b1 : V.heap[B + 1]? = some (.cells #[.string (kD 1 ⟨#[]⟩)] 9 (0, 0))
  b2 : V.heap[B + 2]? = some (.cells #[.string (kD 2 ⟨#[]⟩)] 9 (0, 0))
/-- Boxes of these types, if they are young, may not turn. -/
structure Young (E : Nat → TypeId → Prop) (M : Nat) : Prop where
  a : ∀ k, M ≤ k → ¬ E k 96
  b : ∀ k, M ≤ k → ¬ E k 43
  c : ∀ k, M ≤ k → ¬ E k 22
  d : ∀ k, M ≤ k → ¬ E k 9
  e : ∀ k, M ≤ k → ¬ E k 273
set_option maxHeartbeats 4000000 in
set_option maxRecDepth 100000 in
theorem entries_at (E : Nat → TypeId → Prop) (X : Nat) (W : World) (B g p : Nat) (z1 z2 z3 : Option Addr) (d1 d2 d3 : Nat) (hX : X ≤ W.heap.size) (hW : ∀ V, KE E W V → EnW V B g p z1 z2 z3 d1 d2 d3) (hE : Young E W.heap.size) :
    SeqAt Fence.wide 8 Tryz.prog 181 #[.pointer (some ⟨B, 0, none⟩), .pointer (some ⟨B + 1, 0, none⟩), .pointer (some ⟨B + 2, 0, none⟩)] (fun (_ : Unit) => #[.agg #[.string ⟨#[98]⟩, .int .i64 5, .bool false], .bool true]) (KX E X) (fun ys => ys = [()]) (fun pre => pre = [()]) 1 W := fun lp J Jx hJ hJx hY h0 => by
  have HW := hidden hW
  have HWW := hidden (hW W (KE.refl _ _))
  have HSc := hidden (fun W' => (callsIn_wide (n := 7)).2 (scan_fn (some ⟨g, 0, none⟩) (kD 1 ⟨#[]⟩) (kD 2 ⟨#[]⟩) W'))
  have HAs := hidden (fun W' => (callsIn_wide (n := 5)).2 (asEntry_b W'))
  have hrg := rg_D
  have K0 := hidden (same_alloc W (.cells #[.func (.yield lp) #[] #[]] 273))
  have c0 : (W.alloc (.cells #[.func (.yield lp) #[] #[]] 273)).cell? ⟨B, 0, none⟩ = some (.pointer (some ⟨g, 0, none⟩)) := blk_cell (blk_alloc HWW.out.b0 _)
  have c1 : (W.alloc (.cells #[.func (.yield lp) #[] #[]] 273)).cell? ⟨B + 1, 0, none⟩ = some (.string (kD 1 ⟨#[]⟩)) := blk_cell (blk_alloc HWW.out.b1 _)
  have c2 : (W.alloc (.cells #[.func (.yield lp) #[] #[]] 273)).cell? ⟨B + 2, 0, none⟩ = some (.string (kD 2 ⟨#[]⟩)) := blk_cell (blk_alloc HWW.out.b2 _)
  have GL := hidden (blk_new W (.cells #[.func (.yield lp) #[] #[]] 273))
  have HJ := hidden hJ
  have HJx := hidden hJx
  have HY := hidden hY
  have H0 := hidden h0
  have HX := hidden hX
  have HE := hidden hE
  have HRG := hidden hrg
  clear hY hJ hJx h0 hX hW hE hrg
  refine callsIn_of_wp_marks Tryz.func181 rfl trivial ?_ rfl
  simp only [Tryz.ntmps181, List.size_toArray, List.length_cons, List.length_nil, Nat.reduceAdd, Nat.reduceSub, Array.replicate_succ, Array.replicate_zero, List.push_toArray, List.append_toArray, List.nil_append, List.cons_append]
  gi_wp2_with (refine ⟨trivial, ?_⟩; gi_at_call 14; refine (HSc.out _).mono ?_; rintro e w2 ⟨u, rfl, ⟨B', rfl, hB0, hB1, hB2, hB3, q2⟩⟩; have K2 := hidden (K0.out.trans q2); have G1 := hidden hB1; have G2 := hidden hB2; have G3 := hidden hB3; have L2 := hidden (blk_kept q2 (fun h => h) GL.out); clear q2 hB1 hB2 hB3)
  have hsz := K2.out.size
  have hlo : W.heap.size ≤ B' := Nat.le_trans K0.out.size hB0
  have KW2 : Hid (KE E W w2) := hidden (KE.of K2.out)
  refine range_own rfl (by decide) (gf := 64) (lb := #[.pointer (some ⟨B', 0, none⟩), .pointer (some ⟨B' + 1, 0, none⟩), .pointer (some ⟨B' + 2, 0, none⟩)]) rfl trivial (enters_of Tryz.func64 (by kernel_rfl) rfl) (T := E)
    (fun W1 kk hs => scan_leaf ndD z1 z2 z3 1 d1 1 d2 0 d3 E (w2.heap.size + 2) W1 B' g p (kD 1 ⟨#[]⟩) (kD 2 ⟨#[]⟩) (by omega) (fun V kV => ⟨(HW.out V ((KE.of (K2.out.trans kk)).trans kV)).tr, kV.cells _ _ _ _ (blk_kept kk (fun h => h) G1.out) (HE.out.c _ hlo), kV.cells _ _ _ _ (blk_kept kk (fun h => h) G2.out) (HE.out.d _ (by omega)), kV.cells _ _ _ _ (blk_kept kk (fun h => h) G3.out) (HE.out.d _ (by omega))⟩) (fun k hk => ⟨HE.out.a k (by omega), HE.out.b k (by omega)⟩) rfl rfl (by decide) (fun q => q = itD) (fun q hq => List.mem_singleton.1 hq)) (fun _ => rfl)
    (fun pre V => J (if pre = [] then [] else [()]) V ∧ KE E W V ∧ V.heap[W.heap.size]? = some (.cells #[.func (.yield lp) #[] #[]] 273 (0, 0)))
    (fun c _ V => c = .ret ∧ Jx [()] V)
    (fun s A C row hs hg hr => ⟨HJ.out _ A C row hs.1 hg (fun r e => ⟨Nat.le_trans hsz (hr r e).1, (hr r e).2⟩), hs.2.1.grown hg hr, (hg.block _ (blk_lt hs.2.2) (fun e => by obtain ⟨_, o, ho, hc⟩ := hr _ e.symm; rw [hs.2.2] at ho; cases ho; cases hc)).trans hs.2.2⟩)
    (fun c s A C row hs hg hr => ⟨hs.1, HJx.out _ A C row hs.2 hg (fun r e => ⟨Nat.le_trans hsz (hr r e).1, (hr r e).2⟩)⟩)
    ⟨HJ.out [] W w2 none H0.out (grown_same K2.out) (fun r e => by cases e), KW2.out, L2.out⟩
    (fun q a' V => a' = { tmps := #[.func (.yield lp) #[] #[], .pointer (some ⟨B, 0, none⟩), .pointer (some ⟨B + 1, 0, none⟩), .pointer (some ⟨B + 2, 0, none⟩), .pointer (some ⟨W.heap.size, 0, none⟩), .string (kD 1 ⟨#[98]⟩), .string (tV 5), .pointer (some ⟨g, 0, none⟩), .string (kD 1 ⟨#[]⟩), .string (kD 2 ⟨#[]⟩), .func (.func 64) #[] #[.pointer (some ⟨B', 0, none⟩), .pointer (some ⟨B' + 1, 0, none⟩), .pointer (some ⟨B' + 2, 0, none⟩)], .string (kD 1 ⟨#[98]⟩), .string (tV 5), undef, undef, undef, undef, undef, undef, undef, undef], defers := [] }) (fun _ _ _ _ _ _ hs _ _ => hs) ?assign ?body ?done ?stop
  case assign =>
    rintro l pre ⟨q, rfl⟩ V K hI hK
    dsimp only [encK, itD]
    gi_wp2
    exact hK _ _ (KX.refl _ _ _) hI rfl
  case body =>
    rintro l pre q a' V hI rfl hlt
    have hpre : pre = [] := List.eq_nil_of_length_eq_zero (by rw [HRG.out] at hlt; simpa using hlt)
    subst hpre
    have HJ0 : Hid (J [] V) := hidden hI.1
    have HV := hidden hI.2.1
    have HYb := hidden hI.2.2
    have y0 : V.cell? ⟨W.heap.size, 0, none⟩ = some (.func (.yield lp) #[] #[]) := blk_cell hI.2.2
    have KD : Hid (Same V V.drew) := hidden ((Kept.refl _ _).drew)
    clear hI hlt
    have hmx : Tryz.prog.follows .mixedOrders = true := by kernel_rfl
    gi_wp2
    refine wpIn_region_any hmx ?_
    change wpAnyIn _ _ _ _ _ _ _ _ _ (World.drew _)
    refine wpAnyIn_inRound rfl (semAt_same (by kernel_rfl)) _ _ _ _ ?_
    refine wpAnyIn_take (i := 1) (v := .string (kD 1 ⟨#[98]⟩)) rfl rfl (by kernel_rfl) (by kernel_rfl) (by kernel_rfl) (fun _ _ _ h => h) ⟨Or.inl ⟨by rfl, (by intro w; go_simp; try rfl)⟩, fun _ => rfl⟩ ?_; (try go_simp)
    refine wpAnyIn_take (i := 2) (v := .string (tV 5)) rfl rfl (by kernel_rfl) (by kernel_rfl) (by kernel_rfl) (fun _ _ _ h => h) ⟨Or.inl ⟨by rfl, (by intro w; go_simp; try rfl)⟩, fun _ => rfl⟩ ?_; (try go_simp)
    refine wpAnyIn_ready (rs := [0, 3]) (by kernel_rfl) (by simp) ?_
    refine AllReadyIn.cons rfl (fun K hK => ?_) (AllReadyIn.cons rfl (fun K hK => ?_) AllReadyIn.nil)
    · go_simp
      refine hK _ _ ?_; clear hK K
      refine wpAnyIn_ready (rs := [3]) (by kernel_rfl) (by simp) ?_; refine AllReadyIn.cons rfl (fun K hK => ?_) AllReadyIn.nil; go_simp
      refine ⟨trivial, ?_⟩
      refine (HAs.out _).mono ?_
      rintro e w4 ⟨rfl, q4⟩
      have K4 := hidden (KD.out.trans q4)
      have y4 : w4.cell? ⟨W.heap.size, 0, none⟩ = some (.func (.yield lp) #[] #[]) := q4.cell (fun h => h) y0
      obtain ⟨fn, tmps, asg, bd, hy, hR⟩ := yield_any 5 (HY.out [] () w4 (HJ.out [] V w4 none HJ0.out (grown_same K4.out) (fun r e => by cases e)) (by decide))
      clear q4
      refine hK _ _ ?_; clear hK K
      refine wpAnyIn_take (i := 4) (v := .agg #[.string ⟨#[98]⟩, .int .i64 5, .bool false]) rfl rfl (by kernel_rfl) (by kernel_rfl) (by kernel_rfl) (fun _ _ _ h => h) ⟨Or.inl ⟨by rfl, (by intro w; go_simp; try rfl)⟩, fun _ => rfl⟩ ?_; (try go_simp)
      refine wpAnyIn_take (i := 5) (v := .bool true) rfl rfl (by kernel_rfl) (by kernel_rfl) (by kernel_rfl) (fun _ _ _ h => h) ⟨Or.inl ⟨by rfl, (by intro w; go_simp; try rfl)⟩, fun _ => rfl⟩ ?_; (try go_simp)
      refine wpAnyIn_ready (rs := [6]) (by kernel_rfl) (by simp) ?_; refine AllReadyIn.cons rfl (fun K hK => ?_) AllReadyIn.nil; go_simp
      refine hR.mono ?_
      rintro e W3 (⟨rfl, hJ3, hk3⟩ | ⟨rfl, hJx3, hk3⟩)
      · have HJ3 := hidden hJ3
        have HK3 := hidden hk3
        clear hJ3 hk3 hR hy
        refine hK _ _ ?_; clear hK K
        refine wpAnyIn_take (i := 7) (v := .bool false) rfl rfl (by kernel_rfl) (by kernel_rfl) (by kernel_rfl) (fun _ _ _ h => h) ⟨Or.inl ⟨by rfl, (by intro w; go_simp; try rfl)⟩, fun _ => rfl⟩ ?_; (try go_simp)
        refine wpAnyIn_done (by kernel_rfl) ?_ _
        gi_wp2
        exact ⟨(KX.of K4.out).trans (HK3.out.le (Nat.le_trans HX.out hsz) (fun _ _ h => h)), HJ3.out, HV.out.trans ((KE.of K4.out).trans HK3.out.ke), HK3.out.cells _ _ _ _ (blk_kept K4.out (fun h => h) HYb.out) (HE.out.e _ (Nat.le_refl _))⟩
      · have HJ3 := hidden hJx3
        have HK3 := hidden hk3
        clear hJx3 hk3 hR hy
        refine hK _ _ ?_; clear hK K
        refine wpAnyIn_take (i := 7) (v := .bool true) rfl rfl (by kernel_rfl) (by kernel_rfl) (by kernel_rfl) (fun _ _ _ h => h) ⟨Or.inl ⟨by rfl, (by intro w; go_simp; try rfl)⟩, fun _ => rfl⟩ ?_; (try go_simp)
        refine wpAnyIn_done (by kernel_rfl) ?_ _
        gi_wp2
        exact ⟨(KX.of K4.out).trans (HK3.out.le (Nat.le_trans HX.out hsz) (fun _ _ h => h)), rfl, HJ3.out⟩
    · go_simp
      refine ⟨trivial, ?_⟩
      refine (HAs.out _).mono ?_
      rintro e w4 ⟨rfl, q4⟩
      have K4 := hidden (KD.out.trans q4)
      have y4 : w4.cell? ⟨W.heap.size, 0, none⟩ = some (.func (.yield lp) #[] #[]) := q4.cell (fun h => h) y0
      obtain ⟨fn, tmps, asg, bd, hy, hR⟩ := yield_any 5 (HY.out [] () w4 (HJ.out [] V w4 none HJ0.out (grown_same K4.out) (fun r e => by cases e)) (by decide))
      clear q4
      refine hK _ _ ?_; clear hK K
      refine wpAnyIn_take (i := 4) (v := .agg #[.string ⟨#[98]⟩, .int .i64 5, .bool false]) rfl rfl (by kernel_rfl) (by kernel_rfl) (by kernel_rfl) (fun _ _ _ h => h) ⟨Or.inl ⟨by rfl, (by intro w; go_simp; try rfl)⟩, fun _ => rfl⟩ ?_; (try go_simp)
      refine wpAnyIn_take (i := 5) (v := .bool true) rfl rfl (by kernel_rfl) (by kernel_rfl) (by kernel_rfl) (fun _ _ _ h => h) ⟨Or.inl ⟨by rfl, (by intro w; go_simp; try rfl)⟩, fun _ => rfl⟩ ?_; (try go_simp)
      refine wpAnyIn_ready (rs := [0]) (by kernel_rfl) (by simp) ?_; refine AllReadyIn.cons rfl (fun K hK => ?_) AllReadyIn.nil; go_simp
      refine hK _ _ ?_; clear hK K
      refine wpAnyIn_ready (rs := [6]) (by kernel_rfl) (by simp) ?_; refine AllReadyIn.cons rfl (fun K hK => ?_) AllReadyIn.nil; go_simp
      refine hR.mono ?_
      rintro e W3 (⟨rfl, hJ3, hk3⟩ | ⟨rfl, hJx3, hk3⟩)
      · have HJ3 := hidden hJ3
        have HK3 := hidden hk3
        clear hJ3 hk3 hR hy
        refine hK _ _ ?_; clear hK K
        refine wpAnyIn_take (i := 7) (v := .bool false) rfl rfl (by kernel_rfl) (by kernel_rfl) (by kernel_rfl) (fun _ _ _ h => h) ⟨Or.inl ⟨by rfl, (by intro w; go_simp; try rfl)⟩, fun _ => rfl⟩ ?_; (try go_simp)
        refine wpAnyIn_done (by kernel_rfl) ?_ _
        gi_wp2
        exact ⟨(KX.of K4.out).trans (HK3.out.le (Nat.le_trans HX.out hsz) (fun _ _ h => h)), HJ3.out, HV.out.trans ((KE.of K4.out).trans HK3.out.ke), HK3.out.cells _ _ _ _ (blk_kept K4.out (fun h => h) HYb.out) (HE.out.e _ (Nat.le_refl _))⟩
      · have HJ3 := hidden hJx3
        have HK3 := hidden hk3
        clear hJx3 hk3 hR hy
        refine hK _ _ ?_; clear hK K
        refine wpAnyIn_take (i := 7) (v := .bool true) rfl rfl (by kernel_rfl) (by kernel_rfl) (by kernel_rfl) (fun _ _ _ h => h) ⟨Or.inl ⟨by rfl, (by intro w; go_simp; try rfl)⟩, fun _ => rfl⟩ ?_; (try go_simp)
        refine wpAnyIn_done (by kernel_rfl) ?_ _
        gi_wp2
        exact ⟨(KX.of K4.out).trans (HK3.out.le (Nat.le_trans HX.out hsz) (fun _ _ h => h)), rfl, HJ3.out⟩
  case done =>
    rintro D ys V hD hS hI hK
    have hne : ys ≠ [] := fun e => by rw [e, HRG.out] at hS; cases hS
    have hJd : J [()] (V.putObj D (.deferred none)) := HJ.out _ V _ (some D) (by have := hI.1; rw [if_neg hne] at this; exact this) (grownBy_putObj' V D _) (fun r e => by cases e; exact ⟨Nat.le_trans hsz hD, _, hK, rfl⟩)
    have HJD := hidden hJd
    clear hJd hI
    gi_wp2
    refine ⟨by simp, .inl ⟨_, _, rfl, run_takeDeferred hK, ?_⟩⟩
    refine ⟨.tuple #[], ?_, ⟨_, rfl⟩, .inl ⟨_, rfl, HJD.out⟩⟩
    simp [results, Tryz.f181, go_sem]
  case stop =>
    rintro D c pre V hD hS ⟨rfl, hj⟩ hK
    have hJd : Jx [()] (V.putObj D (.deferred none)) := HJx.out _ V _ (some D) hj (grownBy_putObj' V D _) (fun r e => by cases e; exact ⟨Nat.le_trans hsz hD, _, hK, rfl⟩)
    have HJD := hidden hJd
    clear hJd hj
    gi_wp2
    refine ⟨by simp, .inl ⟨_, _, rfl, run_takeDeferred hK, ?_⟩⟩
    refine ⟨.tuple #[], ?_, ⟨_, rfl⟩, .inr ⟨_, rfl, HJD.out⟩⟩
    simp [results, Tryz.f181, go_sem]
end Go.Proofs.YtmlibjohhgpniaaGreatDoor
namespace Go.Proofs.YtmlibjohhgpniaaGreatDoor
open Go.RowKit Go.Shelf
set_option linter.unusedVariables false
set_option linter.unusedSimpArgs false
attribute [local go_sem] Oper.semAt_some
structure EeP (w : World) (o : Option Addr) (u : Value) (W : World) : Prop where
  out : ∃ B, u = .func (.func 181) #[] #[.pointer (some ⟨B, 0, none⟩), .pointer (some ⟨B + 1, 0, none⟩), .pointer (some ⟨B + 2, 0, none⟩)] ∧ w.heap.size ≤ B ∧ W.heap[B]? = some (.cells #[.pointer o] 22 (0, 0)) ∧ W.heap[B + 1]? = some (.cells #[.string (kD 1 ⟨#[]⟩)] 9 (0, 0)) ∧ W.heap[B + 2]? = some (.cells #[.string (kD 2 ⟨#[]⟩)] 9 (0, 0)) ∧ Same w W
set_option maxHeartbeats 400000 in
theorem entries_fn (o : Option Addr) (x y : ByteArray) (w : World) : Calls Tryz.prog 151 #[.pointer o, .string x, .string y] w fun e w' => ∃ B, e = .returned (.func (.func 181) #[] #[.pointer (some ⟨B, 0, none⟩), .pointer (some ⟨B + 1, 0, none⟩), .pointer (some ⟨B + 2, 0, none⟩)]) ∧ w.heap.size ≤ B ∧ w'.heap[B]? = some (.cells #[.pointer o] 22 (0, 0)) ∧ w'.heap[B + 1]? = some (.cells #[.string x] 9 (0, 0)) ∧ w'.heap[B + 2]? = some (.cells #[.string y] 9 (0, 0)) ∧ Same w w' := by
  go_enter Tryz.func151, Tryz.ntmps151
  go_wp2
  go_returns
  refine ⟨w.heap.size, by simp, by simp, blk_alloc (blk_alloc (blk_new _ _) _) _, blk_alloc ?_ _, ?_, (((Kept.refl _ w).alloc _).alloc _).alloc _⟩
  · have := blk_new (w.alloc (.cells #[.pointer o] 22)) (.cells #[.string x] 9); simpa using this
  · have := blk_new ((w.alloc (.cells #[.pointer o] 22)).alloc (.cells #[.string x] 9)) (.cells #[.string y] 9); simpa using this
set_option maxHeartbeats 400000 in
theorem entriesOf_fn (o : Option Addr) (w : World) : Calls Tryz.prog 104 #[.pointer o, .int .i64 1] w fun e w' => ∃ u, e = .returned u ∧ EeP w o u w' := by
  have H1 : Hid (∀ W, Calls Tryz.prog 152 #[.int .i64 1] W fun e w' => e = .returned (.string (kD 1 ⟨#[]⟩)) ∧ Same W w') := hidden (fun W => dirKey_any 1 (by decide) W)
  have H2 : Hid (∀ W, Calls Tryz.prog 152 #[.int .i64 2] W fun e w' => e = .returned (.string (kD 2 ⟨#[]⟩)) ∧ Same W w') := hidden (fun W => dirKey_any 2 (by decide) W)
  have HS := hidden (fun W => entries_fn o (kD 1 ⟨#[]⟩) (kD 2 ⟨#[]⟩) W)
  have t1 : True := trivial
  go_enter Tryz.func104, Tryz.ntmps104
  go_wp2_with (first
    | (go_at_call 152; have _t := t1; refine (H1.out _).mono ?_; rintro e w1 ⟨rfl, q1⟩; have K1 := hidden q1; clear q1 t1 _t)
    | (go_at_call 152; refine (H2.out _).mono ?_; rintro e w2 ⟨rfl, q2⟩; have K2 := hidden (K1.out.trans q2); clear q2)
    | (go_at_call 151; refine (HS.out _).mono ?_; rintro e w3 ⟨B, rfl, h0, h1, h2, h3, q3⟩; have K3 := hidden (K2.out.trans q3); have H3 := hidden (And.intro h1 (And.intro h2 h3)); have hz := Nat.le_trans K2.out.size h0; clear q3 h1 h2 h3))
  go_returns
  exact ⟨_, rfl, ⟨⟨B, rfl, hz, H3.out.1, H3.out.2.1, H3.out.2.2, K3.out⟩⟩⟩
theorem cell_cells {w : World} {p : Addr} {v : Value} (h : w.cell? p = some v) : ∃ cs t fz, w.heap[p.block]? = some (.cells cs t fz) := by
  unfold World.cell? at h
  cases e : w.heap[p.block]? with
  | none => simp [e] at h
  | some o =>
    rw [e] at h
    cases o <;> first | exact ⟨_, _, _, rfl⟩ | (simp at h)
theorem Row.old {w w' : World} {v : Value} {xs : List Value} (h : Row w v xs) (k : ∀ (i : Nat) (cs : Array Value) (t : TypeId) (fz : Nat × Nat), w.heap[i]? = some (.cells cs t fz) → w'.heap[i]? = some (.cells cs t fz)) : Row w' v xs := by
  obtain ⟨a, cap, h1, h2, h3, h4⟩ := h
  refine ⟨a, cap, h1, h2, h3, fun hp => ?_⟩
  obtain ⟨b, off, e, hc⟩ := h4 hp
  refine ⟨b, off, e, fun j x hj => ?_⟩
  have hx := hc j x hj
  obtain ⟨cs, t, fz, ho⟩ := cell_cells hx
  exact (World.cell?_of_block ((k _ _ _ _ ho).trans ho.symm)).trans hx
theorem LT.old {w w' : World} {g p : Nat} {n : Nd} {a1 a2 a3 : Option Addr} {k1 c1 k2 c2 k3 c3 : Nat} (h : LT w g p n a1 a2 a3 k1 c1 k2 c2 k3 c3) (k : ∀ (i : Nat) (cs : Array Value) (t : TypeId) (fz : Nat × Nat), w.heap[i]? = some (.cells cs t fz) → w'.heap[i]? = some (.cells cs t fz)) : LT w' g p n a1 a2 a3 k1 c1 k2 c2 k3 c3 :=
  ⟨k _ _ _ _ h.tr, ⟨k _ _ _ _ h.pg.box, h.pg.r1.old k, h.pg.r2.old k, h.pg.r3.old k⟩⟩
theorem KX.set {T : Nat → TypeId → Prop} {X l : Nat} {a b : World} (h : KX T X a b) (ht : ∀ t, T l t) (hl : l < X) (v : Value) : KX T X a (b.setCell ⟨l, 0, none⟩ v) :=
  ⟨by have := h.size; simp [World.setCell]; omega, fun i cs t fz hi hn => by
    have hne : i ≠ l := fun e => hn (e ▸ ht t)
    exact (Below.heap_setCell _ _ _ _ hne).trans (h.cells i cs t fz hi hn), fun i o hx hi ho => by
    have hne : i ≠ l := by omega
    exact (Below.heap_setCell _ _ _ _ hne).trans (h.walks i o hx hi ho)⟩
theorem infoE : (Tryz.prog.info? 188).map (fun i => (i.zero, i.size, i.bytes)) = some (some (.agg #[.string ⟨#[]⟩, .int .i64 0, .bool false]), 3, 32) := by kernel_rfl
structure LsP (w : World) (u : Value) (W : World) : Prop where
  out : ∃ B, u = .func (.func 106) #[] #[.pointer (some ⟨B, 0, none⟩)] ∧ Same w W
set_option maxHeartbeats 4000000 in
set_option maxRecDepth 100000 in
theorem dlist (w : World) (g p : Nat) (z1 z2 z3 : Option Addr) (d1 d2 d3 : Nat) (ht : LT w g p ndD z1 z2 z3 1 d1 1 d2 0 d3) : Calls Tryz.prog 47 #[.pointer (some ⟨g, 0, none⟩), .int .i64 1] w fun e w' => ∃ u, e = .returned u ∧ LsP w u w' := by
  obtain ⟨i0, hi, hz0, hz1, hz2⟩ := info_parts infoE
  have HL := hidden ht
  have HA := hidden (fun W => (callsIn_wide (n := 8)).2 (dasked g W))
  have HF := hidden (fun W => (callsIn_wide (n := 8)).2 (entriesOf_fn (some ⟨g, 0, none⟩) W))
  have G0 := hidden (blk_new w (.cells #[.slice none 0 0] 190))
  have K0 := hidden (same_alloc w (.cells #[.slice none 0 0] 190))
  clear ht
  refine (callsIn_wide (n := 9)).1 ?_
  refine callsIn_of_wp_marks Tryz.func47 rfl trivial ?_ rfl
  simp only [Tryz.ntmps47, List.size_toArray, List.length_cons, List.length_nil, Nat.reduceAdd, Nat.reduceSub, Array.replicate_succ, Array.replicate_zero, List.push_toArray, List.append_toArray, List.nil_append, List.cons_append]
  gi_wp2_with (first
    | (refine ⟨trivial, ?_⟩; gi_at_call 102; refine (HA.out _).mono ?_; rintro e w1 ⟨rfl, rfl⟩)
    | (refine ⟨trivial, ?_⟩; gi_at_call 104; refine (HF.out _).mono ?_; rintro e w2 ⟨u, rfl, ⟨B, rfl, hB0, hB1, hB2, hB3, q2⟩⟩; have K2 := hidden (K0.out.trans q2); have G1 := hidden hB1; have G2 := hidden hB2; have G3 := hidden hB3; have L2 := hidden (blk_kept q2 (fun h => h) G0.out); clear q2 hB1 hB2 hB3))
  have hsz := K2.out.size
  have hlt2 := blk_lt L2.out
  have hB0' : w.heap.size + 1 ≤ B := by simpa using hB0
  obtain ⟨E, hE⟩ : ∃ E : Nat → TypeId → Prop, E = fun k t => k = w.heap.size ∨ (w.heap.size ≤ k ∧ t = 188) := ⟨_, rfl⟩
  have HEn : Hid (∀ k t, t ≠ 188 → k ≠ w.heap.size → ¬ E k t) := hidden (fun k t h1 h2 h => by rw [hE] at h; rcases h with h | h; exact h2 h; exact h1 h.2)
  have HEo : Hid (∀ k t, k < w.heap.size → ¬ E k t) := hidden (fun k t h1 h => by rw [hE] at h; rcases h with h | h <;> omega)
  have HEl : Hid (∀ t, E w.heap.size t) := hidden (fun t => by rw [hE]; exact .inl rfl)
  clear hE
  refine range_own rfl (by decide) (gf := 181) (lb := #[.pointer (some ⟨B, 0, none⟩), .pointer (some ⟨B + 1, 0, none⟩), .pointer (some ⟨B + 2, 0, none⟩)]) rfl trivial (enters_of Tryz.func181 (by kernel_rfl) rfl) (T := E)
    (fun W1 kk hs => entries_at E (w2.heap.size + 2) W1 B g p z1 z2 z3 d1 d2 d3 (by omega) (fun V kV => ⟨HL.out.old (fun i cs t fz h => kV.cells i cs t fz (blk_kept (K2.out.trans kk) (fun h => h) h) (HEo.out i t (blk_lt h))), kV.cells _ _ _ _ (blk_kept kk (fun h => h) G1.out) (HEn.out _ _ (by decide) (by omega)), kV.cells _ _ _ _ (blk_kept kk (fun h => h) G2.out) (HEn.out _ _ (by decide) (by omega)), kV.cells _ _ _ _ (blk_kept kk (fun h => h) G3.out) (HEn.out _ _ (by decide) (by omega))⟩) ⟨fun k hk => HEn.out _ _ (by decide) (by omega), fun k hk => HEn.out _ _ (by decide) (by omega), fun k hk => HEn.out _ _ (by decide) (by omega), fun k hk => HEn.out _ _ (by decide) (by omega), fun k hk => HEn.out _ _ (by decide) (by omega)⟩) (fun _ => rfl)
    (fun (pre : List Unit) V => Below w.heap.size w V ∧ (pre = [] → Boxed V w.heap.size 190 (.slice none 0 0)))
    (fun _ _ _ => False)
    (OwnFrom.and (ownFrom_below (Nat.le_refl _) (by omega)) (fun s A C row hs hg hr he => (hs he).kept hg (fun e => by obtain ⟨_, o, ho, hc⟩ := hr _ e.symm; rw [show A.heap[w.heap.size]? = _ from hs he] at ho; cases ho; cases hc)))
    (fun _ _ _ _ _ hs _ _ => hs)
    ⟨K2.out.below (Nat.le_refl _) fun _ h => h.elim, fun _ => L2.out⟩
    (fun _ a' V => ∃ Bx, a' = { tmps := #[.pointer (some ⟨g, 0, none⟩), .int .i64 1, undef, undef, .nilFunc, .pointer (some ⟨w.heap.size, 0, none⟩), .pointer (some ⟨Bx, 0, none⟩), .bool true, .pointer (some ⟨g, 0, none⟩), .int .i64 1, .int .i64 0, .bool true, .pointer (some ⟨g, 0, none⟩), .int .i64 1, .func (.func 181) #[] #[.pointer (some ⟨B, 0, none⟩), .pointer (some ⟨B + 1, 0, none⟩), .pointer (some ⟨B + 2, 0, none⟩)], .agg #[.string ⟨#[98]⟩, .int .i64 5, .bool false], .bool true, undef, undef, undef, undef, undef, undef], defers := [] } ∧ V.heap[Bx]? = some (.cells #[.string ⟨#[98]⟩, .int .i64 5, .bool false] 188 (0, 0)))
    (fun _ a' _ A C row hs hg hr => by
      obtain ⟨Bx, e, hb⟩ := hs
      exact ⟨Bx, e, (hg.block Bx (blk_lt hb) (fun e' => by obtain ⟨_, o, ho, hc⟩ := hr Bx e'.symm; rw [hb] at ho; cases ho; cases hc)).trans hb⟩) ?assign ?body ?done ?stop
  case assign =>
    intro l pre x' V K hI hK
    gi_wp2
    exact hK _ _ (KX.of (same_alloc _ _)) ⟨hI.1.alloc hI.1.size _, fun e => (hI.2 e).alloc _⟩ ⟨_, rfl, blk_new _ _⟩
  case body =>
    intro l pre x' a' V hI hA hlt
    obtain ⟨Bx, rfl, hb⟩ := hA
    have hpre : pre = [] := List.eq_nil_of_length_eq_zero (by omega)
    subst hpre
    have hbx := hI.2 rfl
    have HB := hidden hI.1
    have HBx := hidden hbx
    have v0 := hbx.cell
    have x0 : V.cell? ⟨Bx, 0, none⟩ = some (.string ⟨#[98]⟩) := blk_cell hb
    have x1 : V.cell? ⟨Bx, 1, none⟩ = some (.int .i64 5) := blk_cell hb
    have x2 : V.cell? ⟨Bx, 2, none⟩ = some (.bool false) := blk_cell hb
    have hvl := hbx.lt
    clear hI hb hbx hlt
    gi_wp2_with (gi_at_builtin; refine wpListIn_append_own _ rfl _ _ 190 rfl w.heap.size 188 i0 (.agg #[.string ⟨#[]⟩, .int .i64 0, .bool false]) 3 32 Tryz.underlying190 hi hz0 hz1 hz2 rfl (by decide) (.slice none 0 0) 0 [] rfl (World.ownsRow_nil _ _ _ _) ⟨V.heap.size, 0, none⟩ 1 1 [.string ⟨#[98]⟩, .int .i64 5, .bool false] rfl rfl (fun j u hj => by rw [add_none, Nat.zero_add, blk_cell (blk_new V (.cells #[.string ⟨#[98]⟩, .int .i64 5, .bool false] 188))]; simpa using hj) (by simp [Value.oneCell']) (by unfold maxLen; omega) (by omega) (by simp; omega) ?_; intro v' w1' hown' hgrow _; obtain ⟨va, vc, rfl⟩ := own_form hown'; have s1 : Same (V.alloc (.cells #[.string ⟨#[98]⟩, .int .i64 5, .bool false] 188)) w1' := (Kept.refl _ _).grown hgrow (fun k e _ => by simp [Value.ownBlock] at e); have S1 := hidden ((same_alloc V (.cells #[.string ⟨#[98]⟩, .int .i64 5, .bool false] 188)).trans s1); have bx1 : Boxed w1' w.heap.size 190 (.slice none 0 0) := blk_kept S1.out (fun h => h) HBx.out; have c1 := bx1.cell; have f1 := bx1.frozen; clear s1 hown' hgrow)
    exact ⟨(KX.of S1.out).set HEl.out (by omega) _, ((HB.out.trans (S1.out.below (Nat.le_of_lt hvl) fun _ h => h.elim)).setCell (p := ⟨w.heap.size, 0, none⟩) (Nat.le_refl _) _), fun e => by cases e⟩
  case done =>
    rintro D ys V hD hS hI hK
    have hS5 : Same w (V.putObj D (.deferred none)) := (same_of_below hI.1).grown (grownBy_putObj' _ D _) (fun k e hk => by cases e; omega)
    clear hI hS
    gi_wp2
    refine ⟨by simp, .inl ⟨_, _, rfl, run_takeDeferred hK, ?_⟩⟩
    refine ⟨.func (.func 106) #[] #[.pointer (some ⟨w.heap.size, 0, none⟩)], ?_, _, rfl, ⟨⟨_, rfl, hS5⟩⟩⟩
    simp [results, Tryz.f47, go_sem]
  case stop =>
    rintro D c pre V _ _ h _
    exact h.elim
end Go.Proofs.YtmlibjohhgpniaaGreatDoor
namespace Go.Proofs.YtmlibjohhgpniaaGreatDoor
open Go.RowKit
set_option linter.unusedVariables false
set_option linter.unusedSimpArgs false
theorem asked_same (d : Int) (w : World) : Calls Tryz.prog 102 #[.pointer none, .int .i64 d] w fun e w' => e = .returned (.int .i64 6) ∧ Same w w' := (dasked_nil d w).mono (fun _ _ ⟨h1, h2⟩ => ⟨h1, by rw [← h2]; exact Kept.refl _ _⟩)
theorem askedName_same (d : Int) (s : ByteArray) (w : World) : Calls Tryz.prog 98 #[.pointer none, .int .i64 d, .string s] w fun e w' => e = .returned (.int .i64 6) ∧ Same w w' := (daskedName_nil d s w).mono (fun _ _ ⟨h1, h2⟩ => ⟨h1, by rw [← h2]; exact Kept.refl _ _⟩)
set_option maxHeartbeats 400000 in
theorem dn_readable (w : World) : Calls Tryz.prog 103 #[.pointer none] w fun e w' => e = .returned (.int .i64 6) ∧ Same w w' := by
  have HV := hidden (fun W => nil_Count W)
  go_enter Tryz.func103, Tryz.ntmps103
  go_wp2_with (go_at_call 11; refine (HV.out _).mono ?_; rintro e w1 ⟨rfl, q1⟩; have K1 := hidden q1; clear q1)
  go_returns
  exact ⟨rfl, K1.out⟩
set_option maxHeartbeats 400000 in
theorem dn_valueOf (d : Int) (s : ByteArray) (w : World) : Calls Tryz.prog 96 #[.pointer none, .int .i64 d, .string s] w fun e w' => e = .returned (.tuple #[.string ⟨#[]⟩, .int .i64 6]) ∧ Same w w' := by
  have HV := hidden (fun W => askedName_same d s W)
  go_enter Tryz.func96, Tryz.ntmps96
  go_wp2_with (go_at_call 98; refine (HV.out _).mono ?_; rintro e w1 ⟨rfl, q1⟩; have K1 := hidden q1; clear q1)
  go_returns
  exact ⟨rfl, K1.out⟩
set_option maxHeartbeats 400000 in
theorem dn_Get (d : Int) (s : ByteArray) (w : World) : Calls Tryz.prog 41 #[.pointer none, .int .i64 d, .string s] w fun e w' => e = .returned (.tuple #[.int .i64 0, .bool false, .int .i64 6]) ∧ Same w w' := by
  have HV := hidden (fun W => dn_valueOf d s W)
  go_enter Tryz.func41, Tryz.ntmps41
  go_wp2_with (go_at_call 96; refine (HV.out _).mono ?_; rintro e w1 ⟨rfl, q1⟩; have K1 := hidden q1; clear q1)
  go_returns
  exact ⟨rfl, K1.out⟩
set_option maxHeartbeats 400000 in
theorem dn_Remove (d : Int) (s : ByteArray) (w : World) : Calls Tryz.prog 43 #[.pointer none, .int .i64 d, .string s] w fun e w' => e = .returned (.tuple #[.pointer none, .int .i64 6]) ∧ Same w w' := by
  have HV := hidden (fun W => dn_valueOf d s W)
  go_enter Tryz.func43, Tryz.ntmps43
  go_wp2_with (go_at_call 96; refine (HV.out _).mono ?_; rintro e w1 ⟨rfl, q1⟩; have K1 := hidden q1; clear q1)
  go_returns
  exact ⟨rfl, K1.out⟩
set_option maxHeartbeats 400000 in
theorem dn_Put (d : Int) (s : ByteArray) (k : Int) (w : World) : Calls Tryz.prog 42 #[.pointer none, .int .i64 d, .string s, .int .i64 k, .bool false] w fun e w' => e = .returned (.tuple #[.pointer none, .int .i64 6]) ∧ Same w w' := by
  have HV := hidden (fun W => askedName_same d s W)
  go_enter Tryz.func42, Tryz.ntmps42
  go_wp2_with (go_at_call 98; refine (HV.out _).mono ?_; rintro e w1 ⟨rfl, q1⟩; have K1 := hidden q1; clear q1)
  go_returns
  exact ⟨rfl, K1.out⟩
set_option maxHeartbeats 1000000 in
set_option maxRecDepth 100000 in
theorem dn_Names (d : Int) (w : World) : Calls Tryz.prog 44 #[.pointer none, .int .i64 d] w fun e w' => e = .returned (.tuple #[.slice none 0 0, .int .i64 6]) ∧ Same w w' := by
  have HV := hidden (fun W => asked_same d W)
  have K0 : Hid (Same w ((w.alloc (.cells #[.slice none 0 0] 84)).alloc (.cells #[.int .i64 0] 24))) := hidden (((Kept.refl _ w).alloc _).alloc _)
  have A0 : Hid (((w.alloc (.cells #[.slice none 0 0] 84)).alloc (.cells #[.int .i64 0] 24)).heap[w.heap.size]? = some (.cells #[.slice none 0 0] 84 (0, 0))) := hidden (blk_alloc (blk_new _ _) _)
  have B0 : Hid (((w.alloc (.cells #[.slice none 0 0] 84)).alloc (.cells #[.int .i64 0] 24)).heap[w.heap.size + 1]? = some (.cells #[.int .i64 0] 24 (0, 0))) := hidden (by have := blk_new (w.alloc (.cells #[.slice none 0 0] 84)) (.cells #[.int .i64 0] 24); simpa using this)
  go_enter Tryz.func44, Tryz.ntmps44
  go_wp2_with (go_at_call 102; refine (HV.out _).mono ?_; rintro e w1 ⟨rfl, q1⟩; have K1 := hidden (K0.out.trans q1); have A1 := hidden (blk_kept q1 (fun h => h) A0.out); have B1 := hidden (blk_kept q1 (fun h => h) B0.out); have a0 := blk_cell (j := 0) A1.out; have a1 := blk_free (j := 0) A1.out; have b0 := blk_cell (j := 0) B1.out; have b1 := blk_free (j := 0) B1.out; clear q1)
  have s1 := blk_set (j := 0) A1.out (.slice none 0 0)
  have s2 : ((w1.setCell ⟨w.heap.size, 0, none⟩ (.slice none 0 0)).setCell ⟨w.heap.size + 1, 0, none⟩ (.int .i64 6)).heap[w.heap.size]? = some (.cells #[.slice none 0 0] 84 (0, 0)) := blk_kept ((Kept.refl (only (w.heap.size + 1)) _).setCell (p := ⟨w.heap.size + 1, 0, none⟩) rfl _) (fun (e : w.heap.size = w.heap.size + 1) => by omega) s1
  have s3 : ((w1.setCell ⟨w.heap.size, 0, none⟩ (.slice none 0 0)).setCell ⟨w.heap.size + 1, 0, none⟩ (.int .i64 6)).heap[w.heap.size + 1]? = some (.cells #[.int .i64 6] 24 (0, 0)) := blk_set (blk_kept ((Kept.refl (only w.heap.size) _).setCell (p := ⟨w.heap.size, 0, none⟩) rfl _) (fun (e : w.heap.size + 1 = w.heap.size) => by omega) B1.out) _
  have sf : Same w ((w1.setCell ⟨w.heap.size, 0, none⟩ (.slice none 0 0)).setCell ⟨w.heap.size + 1, 0, none⟩ (.int .i64 6)) := (K1.out.setNew (p := ⟨w.heap.size, 0, none⟩) (Nat.le_refl _) _).setNew (p := ⟨w.heap.size + 1, 0, none⟩) (Nat.le_succ _) _
  generalize ((w1.setCell ⟨w.heap.size, 0, none⟩ (.slice none 0 0)).setCell ⟨w.heap.size + 1, 0, none⟩ (.int .i64 6)) = WF at s2 s3 sf ⊢
  have q0 := blk_cell (j := 0) s2
  have q1 := blk_cell (j := 0) s3
  refine bodyPost_ret (v := .tuple #[.slice none 0 0, .int .i64 6]) (by simp [results, Tryz.results44, go_sem, q0, q1]) rfl ⟨rfl, sf⟩
set_option maxHeartbeats 400000 in
theorem dn_Empty (d : Int) (w : World) : Calls Tryz.prog 45 #[.pointer none, .int .i64 d] w fun e w' => e = .returned (.tuple #[.bool false, .int .i64 6]) ∧ Same w w' := by
  have HV := hidden (fun W => dn_Names d W)
  go_enter Tryz.func45, Tryz.ntmps45
  go_wp2_with (go_at_call 44; refine (HV.out _).mono ?_; rintro e w1 ⟨rfl, q1⟩; have K1 := hidden q1; clear q1)
  go_returns
  exact ⟨rfl, K1.out⟩
set_option maxHeartbeats 1000000 in
set_option maxRecDepth 100000 in
theorem dn_Refs (w : World) : Calls Tryz.prog 46 #[.pointer none] w fun e w' => e = .returned (.tuple #[.slice none 0 0, .int .i64 6]) ∧ Same w w' := by
  have HV := hidden (fun W => dn_readable W)
  have K0 : Hid (Same w ((w.alloc (.cells #[.slice none 0 0] 53)).alloc (.cells #[.int .i64 0] 24))) := hidden (((Kept.refl _ w).alloc _).alloc _)
  have A0 : Hid (((w.alloc (.cells #[.slice none 0 0] 53)).alloc (.cells #[.int .i64 0] 24)).heap[w.heap.size]? = some (.cells #[.slice none 0 0] 53 (0, 0))) := hidden (blk_alloc (blk_new _ _) _)
  have B0 : Hid (((w.alloc (.cells #[.slice none 0 0] 53)).alloc (.cells #[.int .i64 0] 24)).heap[w.heap.size + 1]? = some (.cells #[.int .i64 0] 24 (0, 0))) := hidden (by have := blk_new (w.alloc (.cells #[.slice none 0 0] 53)) (.cells #[.int .i64 0] 24); simpa using this)
  go_enter Tryz.func46, Tryz.ntmps46
  go_wp2_with (go_at_call 103; refine (HV.out _).mono ?_; rintro e w1 ⟨rfl, q1⟩; have K1 := hidden (K0.out.trans q1); have A1 := hidden (blk_kept q1 (fun h => h) A0.out); have B1 := hidden (blk_kept q1 (fun h => h) B0.out); have a0 := blk_cell (j := 0) A1.out; have a1 := blk_free (j := 0) A1.out; have b0 := blk_cell (j := 0) B1.out; have b1 := blk_free (j := 0) B1.out; clear q1)
  have s1 := blk_set (j := 0) A1.out (.slice none 0 0)
  have s2 : ((w1.setCell ⟨w.heap.size, 0, none⟩ (.slice none 0 0)).setCell ⟨w.heap.size + 1, 0, none⟩ (.int .i64 6)).heap[w.heap.size]? = some (.cells #[.slice none 0 0] 53 (0, 0)) := blk_kept ((Kept.refl (only (w.heap.size + 1)) _).setCell (p := ⟨w.heap.size + 1, 0, none⟩) rfl _) (fun (e : w.heap.size = w.heap.size + 1) => by omega) s1
  have s3 : ((w1.setCell ⟨w.heap.size, 0, none⟩ (.slice none 0 0)).setCell ⟨w.heap.size + 1, 0, none⟩ (.int .i64 6)).heap[w.heap.size + 1]? = some (.cells #[.int .i64 6] 24 (0, 0)) := blk_set (blk_kept ((Kept.refl (only w.heap.size) _).setCell (p := ⟨w.heap.size, 0, none⟩) rfl _) (fun (e : w.heap.size + 1 = w.heap.size) => by omega) B1.out) _
  have sf : Same w ((w1.setCell ⟨w.heap.size, 0, none⟩ (.slice none 0 0)).setCell ⟨w.heap.size + 1, 0, none⟩ (.int .i64 6)) := (K1.out.setNew (p := ⟨w.heap.size, 0, none⟩) (Nat.le_refl _) _).setNew (p := ⟨w.heap.size + 1, 0, none⟩) (Nat.le_succ _) _
  generalize ((w1.setCell ⟨w.heap.size, 0, none⟩ (.slice none 0 0)).setCell ⟨w.heap.size + 1, 0, none⟩ (.int .i64 6)) = WF at s2 s3 sf ⊢
  have q0 := blk_cell (j := 0) s2
  have q1 := blk_cell (j := 0) s3
  refine bodyPost_ret (v := .tuple #[.slice none 0 0, .int .i64 6]) (by simp [results, Tryz.results46, go_sem, q0, q1]) rfl ⟨rfl, sf⟩
structure LnP (w : World) (u : Value) (W : World) : Prop where
  out : ∃ B, u = .func (.func 106) #[] #[.pointer (some ⟨B, 0, none⟩)] ∧ W.heap[B]? = some (.cells #[.slice none 0 0] 190 (0, 0)) ∧ Same w W
set_option maxHeartbeats 400000 in
theorem dn_List (d : Int) (w : World) : Calls Tryz.prog 47 #[.pointer none, .int .i64 d] w fun e w' => ∃ u, e = .returned u ∧ LnP w u w' := by
  have HV := hidden (fun W => dasked_nil d W)
  go_enter Tryz.func47, Tryz.ntmps47
  go_wp2_with (go_at_call 102; refine (HV.out _).mono ?_; rintro e w1 ⟨rfl, rfl⟩)
  go_returns
  exact ⟨_, rfl, ⟨⟨w.heap.size, rfl, blk_new _ _, same_alloc _ _⟩⟩⟩
set_option maxRecDepth 100000 in
theorem neq_nil1 : ∀ (W : World) (n : FuncId) (b : Array Value), (binOp .neq 90 (.func (.func n) #[] b) Value.nilFunc).run Tryz.prog W = .ok (.bool true) W := fun W n b => by
  first | kernel_rfl | (simp [binOp, Op.equal, Op.maxDepth, go_sem]; rw [show (10000 : Nat) = 9999 + 1 from rfl]; simp [Op.equalIn, go_sem])
set_option maxRecDepth 100000 in
theorem neq_nil2 : ∀ (W : World) (n : FuncId) (b : Array Value), (binOp .neq 39 (.func (.func n) #[] b) Value.nilFunc).run Tryz.prog W = .ok (.bool true) W := fun W n b => by
  first | kernel_rfl | (simp [binOp, Op.equal, Op.maxDepth, go_sem]; rw [show (10000 : Nat) = 9999 + 1 from rfl]; simp [Op.equalIn, go_sem])
set_option maxHeartbeats 1000000 in
set_option maxRecDepth 100000 in
theorem dlives (w : World) : Calls Tryz.prog 40 #[] w fun e w' => e = .returned (.bool true) ∧ Same w w' := by
  have hf1 := neq_nil1
  have hf2 := neq_nil2
  have HT := hidden new_any
  have HP := hidden (fun W g p h => dput W g p h)
  have HG := hidden (fun W g p z1 z2 z3 d1 d2 d3 h => dget_b W g p z1 z2 z3 d1 d2 d3 h)
  have HD := hidden (fun W g => dget_dd W g)
  have HL := hidden (fun W g p z1 z2 z3 d1 d2 d3 h => dlist W g p z1 z2 z3 d1 d2 d3 h)
  have HS := hidden (fun o W => scan_fn o ⟨#[]⟩ ⟨#[]⟩ W)
  have tk : True := trivial
  go_enter Tryz.func40, Tryz.ntmps40
  go_wp2_with (first
    | (go_at_call 48; refine (HT.out _).mono ?_; rintro e w1 ⟨u, rfl, ⟨g, p, rfl, hl, q1⟩⟩; have L1 := hidden hl; have K1 := hidden q1; clear hl q1)
    | (go_at_call 42; refine (HP.out _ _ _ L1.out).mono ?_; rintro e w2 ⟨u, rfl, ⟨g2, p2, z1, z2, z3, d1, d2, d3, rfl, hl, q2⟩⟩; have L2 := hidden hl; have K2 := hidden (K1.out.trans q2); clear hl q2)
    | (go_at_call 41; have _t := tk; refine (HG.out _ _ _ _ _ _ _ _ _ L2.out).mono ?_; rintro e w3 ⟨rfl, q3⟩; have L3 := hidden (L2.out.same q3); have K3 := hidden (K2.out.trans q3); clear q3 tk _t)
    | (go_at_call 41; refine (HD.out _ _).mono ?_; rintro e w4 ⟨rfl, rfl⟩)
    | (go_at_call 47; refine (HL.out _ _ _ _ _ _ _ _ _ L3.out).mono ?_; rintro e w5 ⟨u, rfl, ⟨B5, rfl, q5⟩⟩; have K5 := hidden (K3.out.trans q5); clear q5)
    | (go_at_call 14; refine (HS.out _ _).mono ?_; rintro e w6 ⟨u, rfl, ⟨B6, rfl, _, _, _, _, q6⟩⟩; have K6 := hidden (K5.out.trans q6); clear q6))
  go_returns
  exact ⟨rfl, K6.out⟩
end Go.Proofs.YtmlibjohhgpniaaGreatDoor
