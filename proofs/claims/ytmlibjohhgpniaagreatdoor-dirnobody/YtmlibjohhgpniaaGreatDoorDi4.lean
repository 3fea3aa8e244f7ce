/- dir: the entries of a directory of one name, gone over. -/
import Derived.Test.YtmlibjohhgpniaaGreatDoorDi3
import Derived.Test.YtmlibjohhgpniaaGreatDoorRndD
namespace Go.Proofs.YtmlibjohhgpniaaGreatDoor
open Go.RowKit Go.Shelf
set_option linter.unusedVariables false
set_option linter.unusedSimpArgs false
attribute [local go_sem] Oper.semAt_some
def itD : KV := (kD 1 ⟨#[98]⟩, tV 5)
theorem rg_D : ndD.rg (kD 1 ⟨#[]⟩) (kD 2 ⟨#[]⟩) = [itD] := by
  have h : inR (kD 1 ⟨#[]⟩) (kD 2 ⟨#[]⟩) itD = true := by
    unfold inR
    rw [ltS_D, ltS_D, Lib.toList_data]
    decide +kernel
  have e : ndD.keys.zip ndD.vals = [itD] := rfl
  unfold Nd.rg
  rw [e]
  simp [h]
/-- What the entries' iterator must find again. -/
structure EnW (V : World) (B g p : Nat) (z1 z2 z3 : Option Addr) (d1 d2 d3 : Nat) : Prop where
  tr : LT V g p ndD z1 z2 z3 1 d1 1 d2 0 d3
  b0 : V.heap[B]? = some (.cells #[.pointer (some ⟨g, 0, none⟩)] 22 (0, 0))
  b1 : V.heap[B + 1]? = some (.cells #[.string (kD 1 ⟨#[]⟩)] 9 (0, 0))
  b2 : V.heap[B + 2]? = some (.cells #[.string (kD 2 ⟨#[]⟩)] 9 (0, 0))
/-- Boxes of these types, if they are young, may not turn. -/
structure Young (E : Nat → TypeId → Prop) (M : Nat) : Prop where
  a : ∀ k, M ≤ k → ¬ E k 96
  b : ∀ k, M ≤ k → ¬ E k 43
  c : ∀ k, M ≤ k → ¬ E k 22
  d : ∀ k, M ≤ k → ¬ E k 9
  e : ∀ k, M ≤ k → ¬ E k 273
set_option maxHeartbeats 4000000 in
set_option maxRecDepth 100000 in
theorem entries_at (E : Nat → TypeId → Prop) (X : Nat) (W : World) (B g p : Nat) (z1 z2 z3 : Option Addr) (d1 d2 d3 : Nat) (hX : X ≤ W.heap.size) (hW : ∀ V, KE E W V → EnW V B g p z1 z2 z3 d1 d2 d3) (hE : Young E W.heap.size) :
    SeqAt Fence.wide 8 Tryz.prog 181 #[.pointer (some ⟨B, 0, none⟩), .pointer (some ⟨B + 1, 0, none⟩), .pointer (some ⟨B + 2, 0, none⟩)] (fun (_ : Unit) => #[.agg #[.string ⟨#[98]⟩, .int .i64 5, .bool false], .bool true]) (KX E X) (fun ys => ys = [()]) (fun pre => pre = [()]) 1 W := fun lp J Jx hJ hJx hY h0 => by
  have HW := hidden hW
  have HWW := hidden (hW W (KE.refl _ _))
  have HSc := hidden (fun W' => (callsIn_wide (n := 7)).2 (scan_fn (some ⟨g, 0, none⟩) (kD 1 ⟨#[]⟩) (kD 2 ⟨#[]⟩) W'))
  have HAs := hidden (fun W' => (callsIn_wide (n := 5)).2 (asEntry_b W'))
  have hrg := rg_D
  have K0 := hidden (same_alloc W (.cells #[.func (.yield lp) #[] #[]] 273))
  have c0 : (W.alloc (.cells #[.func (.yield lp) #[] #[]] 273)).cell? ⟨B, 0, none⟩ = some (.pointer (some ⟨g, 0, none⟩)) := blk_cell (blk_alloc HWW.out.b0 _)
  have c1 : (W.alloc (.cells #[.func (.yield lp) #[] #[]] 273)).cell? ⟨B + 1, 0, none⟩ = some (.string (kD 1 ⟨#[]⟩)) := blk_cell (blk_alloc HWW.out.b1 _)
  have c2 : (W.alloc (.cells #[.func (.yield lp) #[] #[]] 273)).cell? ⟨B + 2, 0, none⟩ = some (.string (kD 2 ⟨#[]⟩)) := blk_cell (blk_alloc HWW.out.b2 _)
  have GL := hidden (blk_new W (.cells #[.func (.yield lp) #[] #[]] 273))
  have HJ := hidden hJ
  have HJx := hidden hJx
  have HY := hidden hY
  have H0 := hidden h0
  have HX := hidden hX
  have HE := hidden hE
  have HRG := hidden hrg
  clear hY hJ hJx h0 hX hW hE hrg
  refine callsIn_of_wp_marks Tryz.func181 rfl trivial ?_ rfl
  simp only [Tryz.ntmps181, List.size_toArray, List.length_cons, List.length_nil, Nat.reduceAdd, Nat.reduceSub, Array.replicate_succ, Array.replicate_zero, List.push_toArray, List.append_toArray, List.nil_append, List.cons_append]
  gi_wp2_with (refine ⟨trivial, ?_⟩; gi_at_call 14; refine (HSc.out _).mono ?_; rintro e w2 ⟨u, rfl, ⟨B', rfl, hB0, hB1, hB2, hB3, q2⟩⟩; have K2 := hidden (K0.out.trans q2); have G1 := hidden hB1; have G2 := hidden hB2; have G3 := hidden hB3; have L2 := hidden (blk_kept q2 (fun h => h) GL.out); clear q2 hB1 hB2 hB3)
  have hsz := K2.out.size
  have hlo : W.heap.size ≤ B' := Nat.le_trans K0.out.size hB0
  have KW2 : Hid (KE E W w2) := hidden (KE.of K2.out)
  refine range_own rfl (by decide) (gf := 64) (lb := #[.pointer (some ⟨B', 0, none⟩), .pointer (some ⟨B' + 1, 0, none⟩), .pointer (some ⟨B' + 2, 0, none⟩)]) rfl trivial (enters_of Tryz.func64 (by kernel_rfl) rfl) (T := E)
    (fun W1 kk hs => scan_leaf ndD z1 z2 z3 1 d1 1 d2 0 d3 E (w2.heap.size + 2) W1 B' g p (kD 1 ⟨#[]⟩) (kD 2 ⟨#[]⟩) (by omega) (fun V kV => ⟨(HW.out V ((KE.of (K2.out.trans kk)).trans kV)).tr, kV.cells _ _ _ _ (blk_kept kk (fun h => h) G1.out) (HE.out.c _ hlo), kV.cells _ _ _ _ (blk_kept kk (fun h => h) G2.out) (HE.out.d _ (by omega)), kV.cells _ _ _ _ (blk_kept kk (fun h => h) G3.out) (HE.out.d _ (by omega))⟩) (fun k hk => ⟨HE.out.a k (by omega), HE.out.b k (by omega)⟩) rfl rfl (by decide) (fun q => q = itD) (fun q hq => List.mem_singleton.1 hq)) (fun _ => rfl)
    (fun pre V => J (if pre = [] then [] else [()]) V ∧ KE E W V ∧ V.heap[W.heap.size]? = some (.cells #[.func (.yield lp) #[] #[]] 273 (0, 0)))
    (fun c _ V => c = .ret ∧ Jx [()] V)
    (fun s A C row hs hg hr => ⟨HJ.out _ A C row hs.1 hg (fun r e => ⟨Nat.le_trans hsz (hr r e).1, (hr r e).2⟩), hs.2.1.grown hg hr, (hg.block _ (blk_lt hs.2.2) (fun e => by obtain ⟨_, o, ho, hc⟩ := hr _ e.symm; rw [hs.2.2] at ho; cases ho; cases hc)).trans hs.2.2⟩)
    (fun c s A C row hs hg hr => ⟨hs.1, HJx.out _ A C row hs.2 hg (fun r e => ⟨Nat.le_trans hsz (hr r e).1, (hr r e).2⟩)⟩)
    ⟨HJ.out [] W w2 none H0.out (grown_same K2.out) (fun r e => by cases e), KW2.out, L2.out⟩
    (fun q a' V => a' = { tmps := #[.func (.yield lp) #[] #[], .pointer (some ⟨B, 0, none⟩), .pointer (some ⟨B + 1, 0, none⟩), .pointer (some ⟨B + 2, 0, none⟩), .pointer (some ⟨W.heap.size, 0, none⟩), .string (kD 1 ⟨#[98]⟩), .string (tV 5), .pointer (some ⟨g, 0, none⟩), .string (kD 1 ⟨#[]⟩), .string (kD 2 ⟨#[]⟩), .func (.func 64) #[] #[.pointer (some ⟨B', 0, none⟩), .pointer (some ⟨B' + 1, 0, none⟩), .pointer (some ⟨B' + 2, 0, none⟩)], .string (kD 1 ⟨#[98]⟩), .string (tV 5), undef, undef, undef, undef, undef, undef, undef, undef], defers := [] }) (fun _ _ _ _ _ _ hs _ _ => hs) ?assign ?body ?done ?stop
  case assign =>
    rintro l pre ⟨q, rfl⟩ V K hI hK
    dsimp only [encK, itD]
    gi_wp2
    exact hK _ _ (KX.refl _ _ _) hI rfl
  case body =>
    rintro l pre q a' V hI rfl hlt
    have hpre : pre = [] := List.eq_nil_of_length_eq_zero (by rw [HRG.out] at hlt; simpa using hlt)
    subst hpre
    have HJ0 : Hid (J [] V) := hidden hI.1
    have HV := hidden hI.2.1
    have HYb := hidden hI.2.2
    have y0 : V.cell? ⟨W.heap.size, 0, none⟩ = some (.func (.yield lp) #[] #[]) := blk_cell hI.2.2
    have KD : Hid (Same V V.drew) := hidden ((Kept.refl _ _).drew)
    clear hI hlt
    have hmx : Tryz.prog.follows .mixedOrders = true := by kernel_rfl
    gi_wp2
    refine wpIn_region_any hmx ?_
    change wpAnyIn _ _ _ _ _ _ _ _ _ (World.drew _)
    refine wpAnyIn_inRound rfl (semAt_same (by kernel_rfl)) _ _ _ _ ?_
    refine wpAnyIn_take (i := 1) (v := .string (kD 1 ⟨#[98]⟩)) rfl rfl (by kernel_rfl) (by kernel_rfl) (by kernel_rfl) (fun _ _ _ h => h) ⟨Or.inl ⟨by rfl, (by intro w; go_simp; try rfl)⟩, fun _ => rfl⟩ ?_; (try go_simp)
    refine wpAnyIn_take (i := 2) (v := .string (tV 5)) rfl rfl (by kernel_rfl) (by kernel_rfl) (by kernel_rfl) (fun _ _ _ h => h) ⟨Or.inl ⟨by rfl, (by intro w; go_simp; try rfl)⟩, fun _ => rfl⟩ ?_; (try go_simp)
    refine wpAnyIn_ready (rs := [0, 3]) (by kernel_rfl) (by simp) ?_
    refine AllReadyIn.cons rfl (fun K hK => ?_) (AllReadyIn.cons rfl (fun K hK => ?_) AllReadyIn.nil)
    · go_simp
      refine hK _ _ ?_; clear hK K
      refine wpAnyIn_ready (rs := [3]) (by kernel_rfl) (by simp) ?_; refine AllReadyIn.cons rfl (fun K hK => ?_) AllReadyIn.nil; go_simp
      refine ⟨trivial, ?_⟩
      refine (HAs.out _).mono ?_
      rintro e w4 ⟨rfl, q4⟩
      have K4 := hidden (KD.out.trans q4)
      have y4 : w4.cell? ⟨W.heap.size, 0, none⟩ = some (.func (.yield lp) #[] #[]) := q4.cell (fun h => h) y0
      obtain ⟨fn, tmps, asg, bd, hy, hR⟩ := yield_any 5 (HY.out [] () w4 (HJ.out [] V w4 none HJ0.out (grown_same K4.out) (fun r e => by cases e)) (by decide))
      clear q4
      refine hK _ _ ?_; clear hK K
      refine wpAnyIn_take (i := 4) (v := .agg #[.string ⟨#[98]⟩, .int .i64 5, .bool false]) rfl rfl (by kernel_rfl) (by kernel_rfl) (by kernel_rfl) (fun _ _ _ h => h) ⟨Or.inl ⟨by rfl, (by intro w; go_simp; try rfl)⟩, fun _ => rfl⟩ ?_; (try go_simp)
      refine wpAnyIn_take (i := 5) (v := .bool true) rfl rfl (by kernel_rfl) (by kernel_rfl) (by kernel_rfl) (fun _ _ _ h => h) ⟨Or.inl ⟨by rfl, (by intro w; go_simp; try rfl)⟩, fun _ => rfl⟩ ?_; (try go_simp)
      refine wpAnyIn_ready (rs := [6]) (by kernel_rfl) (by simp) ?_; refine AllReadyIn.cons rfl (fun K hK => ?_) AllReadyIn.nil; go_simp
      refine hR.mono ?_
      rintro e W3 (⟨rfl, hJ3, hk3⟩ | ⟨rfl, hJx3, hk3⟩)
      · have HJ3 := hidden hJ3
        have HK3 := hidden hk3
        clear hJ3 hk3 hR hy
        refine hK _ _ ?_; clear hK K
        refine wpAnyIn_take (i := 7) (v := .bool false) rfl rfl (by kernel_rfl) (by kernel_rfl) (by kernel_rfl) (fun _ _ _ h => h) ⟨Or.inl ⟨by rfl, (by intro w; go_simp; try rfl)⟩, fun _ => rfl⟩ ?_; (try go_simp)
        refine wpAnyIn_done (by kernel_rfl) ?_ _
        gi_wp2
        exact ⟨(KX.of K4.out).trans (HK3.out.le (Nat.le_trans HX.out hsz) (fun _ _ h => h)), HJ3.out, HV.out.trans ((KE.of K4.out).trans HK3.out.ke), HK3.out.cells _ _ _ _ (blk_kept K4.out (fun h => h) HYb.out) (HE.out.e _ (Nat.le_refl _))⟩
      · have HJ3 := hidden hJx3
        have HK3 := hidden hk3
        clear hJx3 hk3 hR hy
        refine hK _ _ ?_; clear hK K
        refine wpAnyIn_take (i := 7) (v := .bool true) rfl rfl (by kernel_rfl) (by kernel_rfl) (by kernel_rfl) (fun _ _ _ h => h) ⟨Or.inl ⟨by rfl, (by intro w; go_simp; try rfl)⟩, fun _ => rfl⟩ ?_; (try go_simp)
        refine wpAnyIn_done (by kernel_rfl) ?_ _
        gi_wp2
        exact ⟨(KX.of K4.out).trans (HK3.out.le (Nat.le_trans HX.out hsz) (fun _ _ h => h)), rfl, HJ3.out⟩
    · go_simp
      refine ⟨trivial, ?_⟩
      refine (HAs.out _).mono ?_
      rintro e w4 ⟨rfl, q4⟩
      have K4 := hidden (KD.out.trans q4)
      have y4 : w4.cell? ⟨W.heap.size, 0, none⟩ = some (.func (.yield lp) #[] #[]) := q4.cell (fun h => h) y0
      obtain ⟨fn, tmps, asg, bd, hy, hR⟩ := yield_any 5 (HY.out [] () w4 (HJ.out [] V w4 none HJ0.out (grown_same K4.out) (fun r e => by cases e)) (by decide))
      clear q4
      refine hK _ _ ?_; clear hK K
      refine wpAnyIn_take (i := 4) (v := .agg #[.string ⟨#[98]⟩, .int .i64 5, .bool false]) rfl rfl (by kernel_rfl) (by kernel_rfl) (by kernel_rfl) (fun _ _ _ h => h) ⟨Or.inl ⟨by rfl, (by intro w; go_simp; try rfl)⟩, fun _ => rfl⟩ ?_; (try go_simp)
      refine wpAnyIn_take (i := 5) (v := .bool true) rfl rfl (by kernel_rfl) (by kernel_rfl) (by kernel_rfl) (fun _ _ _ h => h) ⟨Or.inl ⟨by rfl, (by intro w; go_simp; try rfl)⟩, fun _ => rfl⟩ ?_; (try go_simp)
      refine wpAnyIn_ready (rs := [0]) (by kernel_rfl) (by simp) ?_; refine AllReadyIn.cons rfl (fun K hK => ?_) AllReadyIn.nil; go_simp
      refine hK _ _ ?_; clear hK K
      refine wpAnyIn_ready (rs := [6]) (by kernel_rfl) (by simp) ?_; refine AllReadyIn.cons rfl (fun K hK => ?_) AllReadyIn.nil; go_simp
      refine hR.mono ?_
      rintro e W3 (⟨rfl, hJ3, hk3⟩ | ⟨rfl, hJx3, hk3⟩)
      · have HJ3 := hidden hJ3
        have HK3 := hidden hk3
        clear hJ3 hk3 hR hy
        refine hK _ _ ?_; clear hK K
        refine wpAnyIn_take (i := 7) (v := .bool false) rfl rfl (by kernel_rfl) (by kernel_rfl) (by kernel_rfl) (fun _ _ _ h => h) ⟨Or.inl ⟨by rfl, (by intro w; go_simp; try rfl)⟩, fun _ => rfl⟩ ?_; (try go_simp)
        refine wpAnyIn_done (by kernel_rfl) ?_ _
        gi_wp2
        exact ⟨(KX.of K4.out).trans (HK3.out.le (Nat.le_trans HX.out hsz) (fun _ _ h => h)), HJ3.out, HV.out.trans ((KE.of K4.out).trans HK3.out.ke), HK3.out.cells _ _ _ _ (blk_kept K4.out (fun h => h) HYb.out) (HE.out.e _ (Nat.le_refl _))⟩
      · have HJ3 := hidden hJx3
        have HK3 := hidden hk3
        clear hJx3 hk3 hR hy
        refine hK _ _ ?_; clear hK K
        refine wpAnyIn_take (i := 7) (v := .bool true) rfl rfl (by kernel_rfl) (by kernel_rfl) (by kernel_rfl) (fun _ _ _ h => h) ⟨Or.inl ⟨by rfl, (by intro w; go_simp; try rfl)⟩, fun _ => rfl⟩ ?_; (try go_simp)
        refine wpAnyIn_done (by kernel_rfl) ?_ _
        gi_wp2
        exact ⟨(KX.of K4.out).trans (HK3.out.le (Nat.le_trans HX.out hsz) (fun _ _ h => h)), rfl, HJ3.out⟩
  case done =>
    rintro D ys V hD hS hI hK
    have hne : ys ≠ [] := fun e => by rw [e, HRG.out] at hS; cases hS
    have hJd : J [()] (V.putObj D (.deferred none)) := HJ.out _ V _ (some D) (by have := hI.1; rw [if_neg hne] at this; exact this) (grownBy_putObj' V D _) (fun r e => by cases e; exact ⟨Nat.le_trans hsz hD, _, hK, rfl⟩)
    have HJD := hidden hJd
    clear hJd hI
    gi_wp2
    refine ⟨by simp, .inl ⟨_, _, rfl, run_takeDeferred hK, ?_⟩⟩
    refine ⟨.tuple #[], ?_, ⟨_, rfl⟩, .inl ⟨_, rfl, HJD.out⟩⟩
    simp [results, Tryz.f181, go_sem]
  case stop =>
    rintro D c pre V hD hS ⟨rfl, hj⟩ hK
    have hJd : Jx [()] (V.putObj D (.deferred none)) := HJx.out _ V _ (some D) hj (grownBy_putObj' V D _) (fun r e => by cases e; exact ⟨Nat.le_trans hsz hD, _, hK, rfl⟩)
    have HJD := hidden hJd
    clear hJd hj
    gi_wp2
    refine ⟨by simp, .inl ⟨_, _, rfl, run_takeDeferred hK, ?_⟩⟩
    refine ⟨.tuple #[], ?_, ⟨_, rfl⟩, .inr ⟨_, rfl, HJD.out⟩⟩
    simp [results, Tryz.f181, go_sem]
end Go.Proofs.YtmlibjohhgpniaaGreatDoor
