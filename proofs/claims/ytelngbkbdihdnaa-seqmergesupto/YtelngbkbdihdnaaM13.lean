/- All over a tree: the recursive walk that hands yield on. -/
import Derived.Test.YtelngbkbdihdnaaM11
import Derived.Test.YtelngbkbdihdnaaM9
/- A map in memory: Delete, Rank, Fork. -/
namespace Go.Proofs.Ytelngbkbdihdnaa
open Go.RowKit
set_option linter.unusedVariables false
theorem lk_none_del {k : ByteArray} {l : List Kv} (h : (lk k l).isSome = false) : delL k l = l := by
  refine delL_none (fun a ha => ?_)
  cases e : eqK a.1 k
  · rfl
  · exfalso
    have : (l.find? (fun a => eqK a.1 k)).isSome = true := List.find?_isSome.2 ⟨a, ha, e⟩
    unfold lk at h
    rw [Option.isSome_map, this] at h
    cases h
set_option maxHeartbeats 2000000 in
set_option maxRecDepth 100000 in
theorem delete_any {B g : Nat} {l : List Kv} {w : World} (h : MP B g l w) (k : ByteArray) (hl : l.length ≤ 562949953421312) :
    Calls Try.prog 25 #[.pointer (some ⟨g, 0, none⟩), .string k] w fun e w' => e = .returned (.tuple #[.int .i64 ((lk k l).getD 0), .bool (lk k l).isSome]) ∧ MP B g (delL k l) w' ∧ Kept (fun i => i = g) w w' := by
  have HG := hidden (get_any h k)
  have HM := hidden h
  obtain ⟨v, t, h1, h2, h3⟩ := h.ex
  obtain ⟨p, rfl⟩ := h2.ptr
  have HW := hidden (without_any k h2 (by rw [h3]; exact h.st) (by rw [← T.list_len, h3]; exact hl))
  have c0 : w.cell? ⟨g, 0, none⟩ = some (.pointer p) := blk_cell h1
  have H1 := hidden h1
  have H3 := hidden h3
  have HST := hidden h.st
  have HN := hidden (fun e => lk_none_del (k := k) (l := l) e)
  have hlg := h.lg
  clear h h1 h2 h3
  generalize (lk k l).getD 0 = y at *
  generalize (lk k l).isSome = b at *
  have HN : Hid (b = false → delL k l = l) := HN.out
  cases b
  · go_enter Try.func25, Try.ntmps25
    go_wp2_with (go_at_call 30; go_must (refine (HG.out).mono ?_; rintro e w1 ⟨rfl, rfl⟩))
    go_returns
    have e := HN.out trivial
    exact ⟨rfl, by rw [e]; exact HM.out, Kept.refl _ _⟩
  · go_enter Try.func25, Try.ntmps25
    go_wp2_with (first
      | (go_at_call 30; go_must (refine (HG.out).mono ?_; rintro e w1 ⟨rfl, rfl⟩))
      | (go_at_call 50; go_must (refine (HW.out).mono ?_; rintro e w1 ⟨v1, t1, rfl, hv1, hl1, k1⟩; obtain ⟨p1, rfl⟩ := hv1.ptr; have b1 := blk_kept k1 (fun h => h) H1.out; have x0 : w1.cell? ⟨g, 0, none⟩ = some (.pointer p) := blk_cell b1; have y0 : w1.frozen? ⟨g, 0, none⟩ = false := blk_free b1; have V1 := hidden hv1; have L1 := hidden hl1; have K1 := hidden k1; have B1 := hidden b1; clear hv1 hl1 k1 b1)))
    go_returns
    have kk : Kept (fun i => i = g) w1 (w1.setCell ⟨g, 0, none⟩ (.pointer p1)) := (Kept.refl (fun i => i = g) w1).setCell (p := ⟨g, 0, none⟩) rfl _
    refine ⟨rfl, ⟨⟨.pointer p1, t1, blk_set (j := 0) B1.out _, V1.out.kept kk (fun i cs hi e => ?_), by rw [L1.out, H3.out]⟩, HST.out.del k, hlg⟩, (K1.out.mono (fun _ _ h => h.elim)).trans kk⟩
    rw [e, B1.out] at hi
    simp at hi
set_option maxHeartbeats 2000000 in
set_option maxRecDepth 100000 in
theorem rankM_any {B g : Nat} {l : List Kv} {w : World} (h : MP B g l w) (k : ByteArray) (hl : l.length ≤ 562949953421312) :
    Calls Try.prog 31 #[.pointer (some ⟨g, 0, none⟩), .string k] w fun e w' => e = .returned (.int .i64 (rkL k l)) ∧ w = w' := by
  obtain ⟨v, t, h1, h2, h3⟩ := h.ex
  obtain ⟨p, rfl⟩ := h2.ptr
  have HI := hidden (items_any (g := g) (p := p) (w := w) (blk_cell h1))
  have HR := hidden (rank_any k h2 (by rw [h3]; exact h.st) (by rw [← T.list_len, h3]; omega))
  rw [h3] at HR
  clear h h1 h2 h3
  generalize rkL k l = n at *
  go_enter Try.func31, Try.ntmps31
  go_wp2_with (first
    | (go_at_call 55; go_must (refine (HI.out).mono ?_; rintro e w1 ⟨rfl, rfl⟩))
    | (go_at_call 61; go_must (refine (HR.out).mono ?_; rintro e w1 ⟨rfl, rfl⟩)))
  go_returns
  exact ⟨rfl, rfl⟩
end Go.Proofs.Ytelngbkbdihdnaa
namespace Go.Proofs.Ytelngbkbdihdnaa
open Go.RowKit Go.Shelf
set_option linter.unusedVariables false
attribute [local go_sem] Oper.semAt_some
/-- The tree lies at v, its blocks not among S. -/
def BTo (S : Nat → Prop) (w : World) : Value → T → Prop
  | v, .nil => v = .pointer none
  | v, .node k x l r => ∃ g lo hi, v = .pointer (some ⟨g, 0, none⟩) ∧ ¬ S g ∧ w.heap[g]? = some (.cells (BC k x lo hi (l.size + 1 + r.size)) 99 (0, 0)) ∧ BTo S w lo l ∧ BTo S w hi r
theorem BTo.kept {S : Nat → Prop} {w w' : World} (k : Kept S w w') : ∀ {v : Value} {t : T}, BTo S w v t → BTo S w' v t
  | _, .nil, h => h
  | _, .node _ _ _ _, ⟨g, lo, hi, e, hg, hb, h1, h2⟩ => ⟨g, lo, hi, e, hg, blk_kept k hg hb, h1.kept k, h2.kept k⟩
theorem BTo.same {S : Nat → Prop} {w w' : World} (k : Same w w') : ∀ {v : Value} {t : T}, BTo S w v t → BTo S w' v t := fun h => h.kept (k.mono (fun _ _ h => h.elim))
theorem BTo.of {S : Nat → Prop} {w : World} (hS : ∀ i cs, w.heap[i]? = some (.cells cs 99 (0, 0)) → ¬ S i) : ∀ {v : Value} {t : T}, BT w v t → BTo S w v t
  | _, .nil, h => h
  | _, .node _ _ _ _, ⟨g, lo, hi, e, hb, h1, h2⟩ => ⟨g, lo, hi, e, hS g _ hb, hb, BTo.of hS h1, BTo.of hS h2⟩
theorem BTo.ptr {S : Nat → Prop} {w : World} {v : Value} {t : T} (h : BTo S w v t) : ∃ p, v = .pointer p := by
  cases t with
  | nil => exact ⟨none, h⟩
  | node k x l r => obtain ⟨g, _, _, e, _⟩ := h; exact ⟨_, e⟩
theorem room_wide (k : Nat) : Fence.wide.room k := fun d h => by cases h
theorem yield_any {m : Nat} (m' : Nat) {P : Program} {l : Nat} {args : Array Value} {W : World} {R : Ending → World → Prop} (h : YieldAt Fence.wide m P l args W R) : YieldAt Fence.wide m' P l args W R := by
  obtain ⟨fn, tmps, assign, body, hy, hR⟩ := h
  exact ⟨fn, tmps, assign, body, hy, hR.1, fun c cs _ => hR.2 c cs (room_wide _)⟩
theorem all_bool {n f : Nat} {args : Array Value} {W : World} {A B : World → Prop} (h : CallsIn Fence.wide n Try.prog f args W fun e W' => (e = .returned (.bool true) ∧ A W') ∨ (e = .returned (.bool false) ∧ B W')) :
    CallsIn Fence.wide n Try.prog f args W fun e W' => ∃ b, e = .returned (.bool b) ∧ Hid ((b = true ∧ A W') ∨ (b = false ∧ B W')) :=
  h.mono fun e W' h => h.elim (fun ⟨a, b⟩ => ⟨true, a, .inl ⟨rfl, b⟩⟩) (fun ⟨a, b⟩ => ⟨false, a, .inr ⟨rfl, b⟩⟩)
set_option maxRecDepth 100000 in
set_option maxHeartbeats 4000000 in
theorem all_in (S : Nat → Prop) (l N q : Nat) (J Jx : List Kv → World → Prop) (hJ : AbidesFrom q J)
    (hY : ∀ m pre x W, J pre W → pre.length < N → YieldAt Fence.wide m Try.prog l (encKV x) W fun e W' =>
      (e = .returned (.bool true) ∧ J (pre ++ [x]) W' ∧ Kept S W W') ∨ (e = .returned (.bool false) ∧ Jx (pre ++ [x]) W')) (t : T) :
    ∀ (n : Nat) (v : Value) (pre : List Kv) (W : World), BTo S W v t → J pre W → pre.length + t.list.length ≤ N →
      CallsIn Fence.wide n Try.prog 58 #[v, .func (.yield l) #[] #[]] W fun e W' =>
        (e = .returned (.bool true) ∧ J (pre ++ t.list) W' ∧ Kept S W W') ∨ (e = .returned (.bool false) ∧ ∃ q, q <+: t.list ∧ Jx (pre ++ q) W') := by
  have hmx : Try.prog.follows .mixedOrders = true := by kernel_rfl
  induction t with
  | nil =>
    intro n v pre W ht h0 _
    obtain rfl : v = .pointer none := ht
    refine ((callsIn_wide (n := n)).2 (allB_nil _ W)).mono ?_
    rintro e W1 ⟨rfl, k1⟩
    exact .inl ⟨rfl, by simpa [T.list] using hJ _ _ _ none h0 (grownBy_same k1) (fun r e => by cases e), k1.mono (fun _ _ h => h.elim)⟩
  | node bk bv tl tr ihl ihr =>
    intro n v pre W ht h0 hN
    obtain ⟨g, lo, hi, rfl, hg, hb, hl, hr⟩ := ht
    obtain ⟨pl, rfl⟩ := hl.ptr
    obtain ⟨ph, rfl⟩ := hr.ptr
    obtain ⟨c0, c1, c2, c3⟩ := BT.cells hb
    simp only [T.list, List.length_append, List.length_cons] at hN
    have hdd : ∀ k : Nat, (Fence.wide.depth.isSome = true → 1 ≤ k) := fun k h => by cases h
    have kd : Same W W.drew := (Kept.refl _ W).drew
    have hy2 : Hid (∀ W1, J (pre ++ tl.list) W1 → Kept S W W1 → YieldAt Fence.wide (n - 1) Try.prog l #[.string bk, .int .i64 bv] W1 fun e W2 =>
        (e = .returned (.bool true) ∧ J (pre ++ tl.list ++ [(bk, bv)]) W2 ∧ Kept S W W2 ∧ W2.cell? ⟨g, 3, none⟩ = some (.pointer ph) ∧ BTo S W2 (.pointer ph) tr) ∨ (e = .returned (.bool false) ∧ Jx (pre ++ tl.list ++ [(bk, bv)]) W2)) := fun W1 hJ1 hb1 =>
      YieldAt.mono (hY (n - 1) _ (bk, bv) W1 hJ1 (by simp; omega)) fun e W2 h => h.elim
        (fun ⟨he, hj, hb2⟩ => .inl ⟨he, hj, hb1.trans hb2, (hb1.trans hb2).cell hg c3, hr.kept (hb1.trans hb2)⟩) .inr
    have ih1 := hidden ((ihl (n - 1) (.pointer pl) pre W.drew (hl.same kd) (hJ _ _ _ none h0 (grownBy_same kd) (fun r e => by cases e)) (by omega)).mono (R' := fun e W1 =>
        (e = .returned (.bool true) ∧ W1.cell? ⟨g, 0, none⟩ = some (.string bk) ∧ W1.cell? ⟨g, 1, none⟩ = some (.int .i64 bv) ∧ YieldAt Fence.wide (n - 1) Try.prog l #[.string bk, .int .i64 bv] W1 fun e W2 =>
          (e = .returned (.bool true) ∧ J (pre ++ tl.list ++ [(bk, bv)]) W2 ∧ Kept S W W2 ∧ W2.cell? ⟨g, 3, none⟩ = some (.pointer ph) ∧ BTo S W2 (.pointer ph) tr) ∨ (e = .returned (.bool false) ∧ Jx (pre ++ tl.list ++ [(bk, bv)]) W2)) ∨
        (e = .returned (.bool false) ∧ ∃ q, q <+: tl.list ∧ Jx (pre ++ q) W1))
      (fun e W1 h => h.elim (fun ⟨he, hj, hb1⟩ => by
        have kw : Kept S W W1 := (kd.mono (fun _ _ h => h.elim)).trans hb1
        exact .inl ⟨he, kw.cell hg c0, kw.cell hg c1, hy2.out W1 hj kw⟩) .inr))
    have ihr' := hidden (fun pre W h hJ hn => ihr (n - 1) (.pointer ph) pre W h hJ hn)
    clear hy2 ihl ihr hY h0 hl hr hb hJ
    refine callsIn_of_wp Try.func58 rfl trivial ?_ rfl
    simp only [Try.ntmps58, List.size_toArray, List.length_cons, List.length_nil, Nat.reduceAdd, Nat.reduceSub, Array.replicate_succ, Array.replicate_zero, List.push_toArray, List.append_toArray, List.nil_append, List.cons_append]
    gi_wp2
    refine wpIn_region_any hmx ?_
    change wpAnyIn _ _ _ _ _ _ _ _ _ (World.drew _)
    refine wpAnyIn_take (i := 0) (v := (.pointer (some ⟨g, 0, none⟩))) rfl rfl (by kernel_rfl) (by kernel_rfl) (by kernel_rfl) (fun _ _ _ h => h) ⟨Or.inl ⟨by rfl, (by intro w; go_simp; try rfl)⟩, fun _ => rfl⟩ ?_; (try go_simp)
    refine wpAnyIn_take (i := 1) (v := .bool false) rfl rfl (by kernel_rfl) (by kernel_rfl) (by kernel_rfl) (fun _ _ _ h => h) ⟨Or.inl ⟨by rfl, (by intro w; go_simp; try rfl)⟩, fun _ => rfl⟩ ?_; (try go_simp)
    refine wpAnyIn_take (i := 2) (v := .bool false) rfl rfl (by kernel_rfl) (by kernel_rfl) (by kernel_rfl) (fun _ _ _ h => h) ⟨Or.inl ⟨by rfl, (by intro w; go_simp; try rfl)⟩, fun _ => rfl⟩ ?_; (try go_simp)
    refine wpAnyIn_take (i := 3) (v := (.pointer (some ⟨g, 0, none⟩))) rfl rfl (by kernel_rfl) (by kernel_rfl) (by kernel_rfl) (fun _ _ _ h => h) ⟨Or.inl ⟨by rfl, (by intro w; go_simp; try rfl)⟩, fun _ => rfl⟩ ?_; (try go_simp)
    refine wpAnyIn_take (i := 4) (v := (.pointer (some ⟨g, 0, none⟩))) rfl rfl (by kernel_rfl) (by kernel_rfl) (by kernel_rfl) (fun _ _ _ h => h) ⟨Or.inl ⟨by rfl, (by intro w; go_simp; try rfl)⟩, fun _ => rfl⟩ ?_; (try go_simp)
    refine wpAnyIn_take (i := 5) (v := (.pointer (some ⟨g, 2, none⟩))) rfl rfl (by kernel_rfl) (by kernel_rfl) (by kernel_rfl) (fun _ _ _ h => h) ⟨Or.inl ⟨by rfl, (by intro w; go_simp; try rfl)⟩, fun _ => rfl⟩ ?_; (try go_simp)
    refine wpAnyIn_take (i := 7) (v := (.func (.yield l) #[] #[])) rfl rfl (by kernel_rfl) (by kernel_rfl) (by kernel_rfl) (fun _ _ _ h => h) ⟨Or.inl ⟨by rfl, (by intro w; go_simp; try rfl)⟩, fun _ => rfl⟩ ?_; (try go_simp)
    refine wpAnyIn_ready (rs := [6]) (by kernel_rfl) (by simp) ?_; refine AllReadyIn.cons rfl (fun K hK => ?_) AllReadyIn.nil; go_simp
    refine hK _ _ ?_; clear hK K
    refine wpAnyIn_ready (rs := [8]) (by kernel_rfl) (by simp) ?_; refine AllReadyIn.cons rfl (fun K hK => ?_) AllReadyIn.nil; go_simp
    refine ⟨trivial, hdd _, ?_⟩
    refine ih1.out.mono ?_
    rintro e W1 (⟨rfl, c0', c1', fn, tmps, assign, body, hy, hR⟩ | ⟨rfl, q, hq, hx1⟩)
    · skip
      refine hK _ _ ?_; clear hK K
      refine wpAnyIn_take (i := 9) (v := .bool true) rfl rfl (by kernel_rfl) (by kernel_rfl) (by kernel_rfl) (fun _ _ _ h => h) ⟨Or.inl ⟨by rfl, (by intro w; go_simp; try rfl)⟩, fun _ => rfl⟩ ?_; (try go_simp)
      refine wpAnyIn_take (i := 10) (v := (.func (.yield l) #[] #[])) rfl rfl (by kernel_rfl) (by kernel_rfl) (by kernel_rfl) (fun _ _ _ h => h) ⟨Or.inl ⟨by rfl, (by intro w; go_simp; try rfl)⟩, fun _ => rfl⟩ ?_; (try go_simp)
      refine wpAnyIn_take (i := 11) (v := (.pointer (some ⟨g, 0, none⟩))) rfl rfl (by kernel_rfl) (by kernel_rfl) (by kernel_rfl) (fun _ _ _ h => h) ⟨Or.inl ⟨by rfl, (by intro w; go_simp; try rfl)⟩, fun _ => rfl⟩ ?_; (try go_simp)
      refine wpAnyIn_take (i := 12) (v := (.pointer (some ⟨g, 0, none⟩))) rfl rfl (by kernel_rfl) (by kernel_rfl) (by kernel_rfl) (fun _ _ _ h => h) ⟨Or.inl ⟨by rfl, (by intro w; go_simp; try rfl)⟩, fun _ => rfl⟩ ?_; (try go_simp)
      refine wpAnyIn_take (i := 13) (v := (.pointer (some ⟨g, 0, none⟩))) rfl rfl (by kernel_rfl) (by kernel_rfl) (by kernel_rfl) (fun _ _ _ h => h) ⟨Or.inl ⟨by rfl, (by intro w; go_simp; try rfl)⟩, fun _ => rfl⟩ ?_; (try go_simp)
      refine wpAnyIn_take (i := 14) (v := (.pointer (some ⟨g, 0, none⟩))) rfl rfl (by kernel_rfl) (by kernel_rfl) (by kernel_rfl) (fun _ _ _ h => h) ⟨Or.inl ⟨by rfl, (by intro w; go_simp; try rfl)⟩, fun _ => rfl⟩ ?_; (try go_simp)
      refine wpAnyIn_take (i := 16) (v := (.pointer (some ⟨g, 0, none⟩))) rfl rfl (by kernel_rfl) (by kernel_rfl) (by kernel_rfl) (fun _ _ _ h => h) ⟨Or.inl ⟨by rfl, (by intro w; go_simp; try rfl)⟩, fun _ => rfl⟩ ?_; (try go_simp)
      refine wpAnyIn_take (i := 17) (v := (.pointer (some ⟨g, 0, none⟩))) rfl rfl (by kernel_rfl) (by kernel_rfl) (by kernel_rfl) (fun _ _ _ h => h) ⟨Or.inl ⟨by rfl, (by intro w; go_simp; try rfl)⟩, fun _ => rfl⟩ ?_; (try go_simp)
      refine wpAnyIn_take (i := 18) (v := (.pointer (some ⟨g, 0, none⟩))) rfl rfl (by kernel_rfl) (by kernel_rfl) (by kernel_rfl) (fun _ _ _ h => h) ⟨Or.inl ⟨by rfl, (by intro w; go_simp; try rfl)⟩, fun _ => rfl⟩ ?_; (try go_simp)
      refine wpAnyIn_take (i := 19) (v := (.pointer (some ⟨g, 1, none⟩))) rfl rfl (by kernel_rfl) (by kernel_rfl) (by kernel_rfl) (fun _ _ _ h => h) ⟨Or.inl ⟨by rfl, (by intro w; go_simp; try rfl)⟩, fun _ => rfl⟩ ?_; (try go_simp)
      refine wpAnyIn_ready (rs := [15, 20]) (by kernel_rfl) (by simp) ?_
      refine AllReadyIn.cons rfl (fun K hK => ?_) (AllReadyIn.cons rfl (fun K hK => ?_) AllReadyIn.nil)
      · skip
        go_simp
        refine hK _ _ ?_; clear hK K
        refine wpAnyIn_ready (rs := [20]) (by kernel_rfl) (by simp) ?_; refine AllReadyIn.cons rfl (fun K hK => ?_) AllReadyIn.nil; go_simp
        refine hK _ _ ?_; clear hK K
        refine wpAnyIn_ready (rs := [21]) (by kernel_rfl) (by simp) ?_; refine AllReadyIn.cons rfl (fun K hK => ?_) AllReadyIn.nil; go_simp
        refine ⟨hdd _, ?_⟩
        refine hR.mono ?_
        rintro e W2 (⟨rfl, hJ2, hb2, c3', hr2⟩ | ⟨rfl, hx2⟩)
        · skip
          refine hK _ _ ?_; clear hK K
          refine wpAnyIn_take (i := 22) (v := .bool true) rfl rfl (by kernel_rfl) (by kernel_rfl) (by kernel_rfl) (fun _ _ _ h => h) ⟨Or.inl ⟨by rfl, (by intro w; go_simp; try rfl)⟩, fun _ => rfl⟩ ?_; (try go_simp)
          refine wpAnyIn_take (i := 23) (v := .bool true) rfl rfl (by kernel_rfl) (by kernel_rfl) (by kernel_rfl) (fun _ _ _ h => h) ⟨Or.inl ⟨by rfl, (by intro w; go_simp; try rfl)⟩, fun _ => rfl⟩ ?_; (try go_simp)
          refine wpAnyIn_take (i := 24) (v := (.pointer (some ⟨g, 0, none⟩))) rfl rfl (by kernel_rfl) (by kernel_rfl) (by kernel_rfl) (fun _ _ _ h => h) ⟨Or.inl ⟨by rfl, (by intro w; go_simp; try rfl)⟩, fun _ => rfl⟩ ?_; (try go_simp)
          refine wpAnyIn_take (i := 25) (v := (.pointer (some ⟨g, 0, none⟩))) rfl rfl (by kernel_rfl) (by kernel_rfl) (by kernel_rfl) (fun _ _ _ h => h) ⟨Or.inl ⟨by rfl, (by intro w; go_simp; try rfl)⟩, fun _ => rfl⟩ ?_; (try go_simp)
          refine wpAnyIn_take (i := 26) (v := (.pointer (some ⟨g, 3, none⟩))) rfl rfl (by kernel_rfl) (by kernel_rfl) (by kernel_rfl) (fun _ _ _ h => h) ⟨Or.inl ⟨by rfl, (by intro w; go_simp; try rfl)⟩, fun _ => rfl⟩ ?_; (try go_simp)
          refine wpAnyIn_take (i := 28) (v := (.func (.yield l) #[] #[])) rfl rfl (by kernel_rfl) (by kernel_rfl) (by kernel_rfl) (fun _ _ _ h => h) ⟨Or.inl ⟨by rfl, (by intro w; go_simp; try rfl)⟩, fun _ => rfl⟩ ?_; (try go_simp)
          refine wpAnyIn_ready (rs := [27]) (by kernel_rfl) (by simp) ?_; refine AllReadyIn.cons rfl (fun K hK => ?_) AllReadyIn.nil; go_simp
          refine hK _ _ ?_; clear hK K
          refine wpAnyIn_ready (rs := [29]) (by kernel_rfl) (by simp) ?_; refine AllReadyIn.cons rfl (fun K hK => ?_) AllReadyIn.nil; go_simp
          refine ⟨trivial, hdd _, ?_⟩
          refine (all_bool (ihr'.out _ _ hr2 hJ2 (by simp; omega))).mono ?_
          rintro e W3 ⟨b3, rfl, hE3⟩
          refine hK _ _ ?_; clear hK K
          refine wpAnyIn_take (i := 30) (v := .bool b3) rfl rfl (by kernel_rfl) (by kernel_rfl) (by kernel_rfl) (fun _ _ _ h => h) ⟨Or.inl ⟨by rfl, (by intro w; go_simp; try rfl)⟩, fun _ => rfl⟩ ?_; (try go_simp)
          refine wpAnyIn_take (i := 31) (v := .bool b3) rfl rfl (by kernel_rfl) (by kernel_rfl) (by kernel_rfl) (fun _ _ _ h => h) ⟨Or.inl ⟨by rfl, (by intro w; go_simp; try rfl)⟩, fun _ => rfl⟩ ?_; (try go_simp)
          refine wpAnyIn_take (i := 32) (v := .bool b3) rfl rfl (by kernel_rfl) (by kernel_rfl) (by kernel_rfl) (fun _ _ _ h => h) ⟨Or.inl ⟨by rfl, (by intro w; go_simp; try rfl)⟩, fun _ => rfl⟩ ?_; (try go_simp)
          refine wpAnyIn_done (by kernel_rfl) ?_ _
          gi_wp2
          go_ret
          rcases hE3.out with ⟨rfl, hJ3, hb3⟩ | ⟨rfl, q, hq, hx3⟩
          · exact .inl ⟨rfl, by simpa [T.list, List.append_assoc] using hJ3, hb2.trans hb3⟩
          · obtain ⟨r, hr'⟩ := hq
            exact .inr ⟨rfl, tl.list ++ (bk, bv) :: q, ⟨r, by simp [T.list, ← hr']⟩, by simpa [List.append_assoc] using hx3⟩
        · skip
          refine hK _ _ ?_; clear hK K
          refine wpAnyIn_take (i := 22) (v := .bool false) rfl rfl (by kernel_rfl) (by kernel_rfl) (by kernel_rfl) (fun _ _ _ h => h) ⟨Or.inl ⟨by rfl, (by intro w; go_simp; try rfl)⟩, fun _ => rfl⟩ ?_; (try go_simp)
          refine wpAnyIn_take (i := 23) (v := .bool false) rfl rfl (by kernel_rfl) (by kernel_rfl) (by kernel_rfl) (fun _ _ _ h => h) ⟨Or.inl ⟨by rfl, (by intro w; go_simp; try rfl)⟩, fun _ => rfl⟩ ?_; (try go_simp)
          refine wpAnyIn_take (i := 24) (v := undef) rfl rfl (by kernel_rfl) (by kernel_rfl) (by kernel_rfl) (fun _ _ _ h => h) ⟨Or.inr ⟨by rfl, rfl⟩, fun _ => rfl⟩ ?_; (try go_simp)
          refine wpAnyIn_take (i := 25) (v := undef) rfl rfl (by kernel_rfl) (by kernel_rfl) (by kernel_rfl) (fun _ _ _ h => h) ⟨Or.inr ⟨by rfl, rfl⟩, fun _ => rfl⟩ ?_; (try go_simp)
          refine wpAnyIn_take (i := 26) (v := undef) rfl rfl (by kernel_rfl) (by kernel_rfl) (by kernel_rfl) (fun _ _ _ h => h) ⟨Or.inr ⟨by rfl, rfl⟩, fun _ => rfl⟩ ?_; (try go_simp)
          refine wpAnyIn_take (i := 27) (v := undef) rfl rfl (by kernel_rfl) (by kernel_rfl) (by kernel_rfl) (fun _ _ _ h => h) ⟨Or.inr ⟨by rfl, rfl⟩, fun _ => rfl⟩ ?_; (try go_simp)
          refine wpAnyIn_take (i := 28) (v := undef) rfl rfl (by kernel_rfl) (by kernel_rfl) (by kernel_rfl) (fun _ _ _ h => h) ⟨Or.inr ⟨by rfl, rfl⟩, fun _ => rfl⟩ ?_; (try go_simp)
          refine wpAnyIn_ready (rs := [29]) (by kernel_rfl) (by simp) ?_; refine AllReadyIn.cons rfl (fun K hK => ?_) AllReadyIn.nil; go_simp; (first | refine ⟨fun _ _ => trivial, ?_⟩ | refine ⟨trivial, ?_⟩ | skip); refine hK _ _ ?_; clear hK K
          refine wpAnyIn_take (i := 30) (v := .bool false) rfl rfl (by kernel_rfl) (by kernel_rfl) (by kernel_rfl) (fun _ _ _ h => h) ⟨Or.inl ⟨by rfl, (by intro w; go_simp; try rfl)⟩, fun _ => rfl⟩ ?_; (try go_simp)
          refine wpAnyIn_take (i := 31) (v := .bool false) rfl rfl (by kernel_rfl) (by kernel_rfl) (by kernel_rfl) (fun _ _ _ h => h) ⟨Or.inl ⟨by rfl, (by intro w; go_simp; try rfl)⟩, fun _ => rfl⟩ ?_; (try go_simp)
          refine wpAnyIn_take (i := 32) (v := .bool false) rfl rfl (by kernel_rfl) (by kernel_rfl) (by kernel_rfl) (fun _ _ _ h => h) ⟨Or.inl ⟨by rfl, (by intro w; go_simp; try rfl)⟩, fun _ => rfl⟩ ?_; (try go_simp)
          refine wpAnyIn_done (by kernel_rfl) ?_ _
          gi_wp2
          go_ret
          exact .inr ⟨rfl, tl.list ++ [(bk, bv)], ⟨tr.list, by simp [T.list]⟩, by simpa [List.append_assoc] using hx2⟩
      · skip
        go_simp
        refine hK _ _ ?_; clear hK K
        refine wpAnyIn_ready (rs := [15]) (by kernel_rfl) (by simp) ?_; refine AllReadyIn.cons rfl (fun K hK => ?_) AllReadyIn.nil; go_simp
        refine hK _ _ ?_; clear hK K
        refine wpAnyIn_ready (rs := [21]) (by kernel_rfl) (by simp) ?_; refine AllReadyIn.cons rfl (fun K hK => ?_) AllReadyIn.nil; go_simp
        refine ⟨hdd _, ?_⟩
        refine hR.mono ?_
        rintro e W2 (⟨rfl, hJ2, hb2, c3', hr2⟩ | ⟨rfl, hx2⟩)
        · skip
          refine hK _ _ ?_; clear hK K
          refine wpAnyIn_take (i := 22) (v := .bool true) rfl rfl (by kernel_rfl) (by kernel_rfl) (by kernel_rfl) (fun _ _ _ h => h) ⟨Or.inl ⟨by rfl, (by intro w; go_simp; try rfl)⟩, fun _ => rfl⟩ ?_; (try go_simp)
          refine wpAnyIn_take (i := 23) (v := .bool true) rfl rfl (by kernel_rfl) (by kernel_rfl) (by kernel_rfl) (fun _ _ _ h => h) ⟨Or.inl ⟨by rfl, (by intro w; go_simp; try rfl)⟩, fun _ => rfl⟩ ?_; (try go_simp)
          refine wpAnyIn_take (i := 24) (v := (.pointer (some ⟨g, 0, none⟩))) rfl rfl (by kernel_rfl) (by kernel_rfl) (by kernel_rfl) (fun _ _ _ h => h) ⟨Or.inl ⟨by rfl, (by intro w; go_simp; try rfl)⟩, fun _ => rfl⟩ ?_; (try go_simp)
          refine wpAnyIn_take (i := 25) (v := (.pointer (some ⟨g, 0, none⟩))) rfl rfl (by kernel_rfl) (by kernel_rfl) (by kernel_rfl) (fun _ _ _ h => h) ⟨Or.inl ⟨by rfl, (by intro w; go_simp; try rfl)⟩, fun _ => rfl⟩ ?_; (try go_simp)
          refine wpAnyIn_take (i := 26) (v := (.pointer (some ⟨g, 3, none⟩))) rfl rfl (by kernel_rfl) (by kernel_rfl) (by kernel_rfl) (fun _ _ _ h => h) ⟨Or.inl ⟨by rfl, (by intro w; go_simp; try rfl)⟩, fun _ => rfl⟩ ?_; (try go_simp)
          refine wpAnyIn_take (i := 28) (v := (.func (.yield l) #[] #[])) rfl rfl (by kernel_rfl) (by kernel_rfl) (by kernel_rfl) (fun _ _ _ h => h) ⟨Or.inl ⟨by rfl, (by intro w; go_simp; try rfl)⟩, fun _ => rfl⟩ ?_; (try go_simp)
          refine wpAnyIn_ready (rs := [27]) (by kernel_rfl) (by simp) ?_; refine AllReadyIn.cons rfl (fun K hK => ?_) AllReadyIn.nil; go_simp
          refine hK _ _ ?_; clear hK K
          refine wpAnyIn_ready (rs := [29]) (by kernel_rfl) (by simp) ?_; refine AllReadyIn.cons rfl (fun K hK => ?_) AllReadyIn.nil; go_simp
          refine ⟨trivial, hdd _, ?_⟩
          refine (all_bool (ihr'.out _ _ hr2 hJ2 (by simp; omega))).mono ?_
          rintro e W3 ⟨b3, rfl, hE3⟩
          refine hK _ _ ?_; clear hK K
          refine wpAnyIn_take (i := 30) (v := .bool b3) rfl rfl (by kernel_rfl) (by kernel_rfl) (by kernel_rfl) (fun _ _ _ h => h) ⟨Or.inl ⟨by rfl, (by intro w; go_simp; try rfl)⟩, fun _ => rfl⟩ ?_; (try go_simp)
          refine wpAnyIn_take (i := 31) (v := .bool b3) rfl rfl (by kernel_rfl) (by kernel_rfl) (by kernel_rfl) (fun _ _ _ h => h) ⟨Or.inl ⟨by rfl, (by intro w; go_simp; try rfl)⟩, fun _ => rfl⟩ ?_; (try go_simp)
          refine wpAnyIn_take (i := 32) (v := .bool b3) rfl rfl (by kernel_rfl) (by kernel_rfl) (by kernel_rfl) (fun _ _ _ h => h) ⟨Or.inl ⟨by rfl, (by intro w; go_simp; try rfl)⟩, fun _ => rfl⟩ ?_; (try go_simp)
          refine wpAnyIn_done (by kernel_rfl) ?_ _
          gi_wp2
          go_ret
          rcases hE3.out with ⟨rfl, hJ3, hb3⟩ | ⟨rfl, q, hq, hx3⟩
          · exact .inl ⟨rfl, by simpa [T.list, List.append_assoc] using hJ3, hb2.trans hb3⟩
          · obtain ⟨r, hr'⟩ := hq
            exact .inr ⟨rfl, tl.list ++ (bk, bv) :: q, ⟨r, by simp [T.list, ← hr']⟩, by simpa [List.append_assoc] using hx3⟩
        · skip
          refine hK _ _ ?_; clear hK K
          refine wpAnyIn_take (i := 22) (v := .bool false) rfl rfl (by kernel_rfl) (by kernel_rfl) (by kernel_rfl) (fun _ _ _ h => h) ⟨Or.inl ⟨by rfl, (by intro w; go_simp; try rfl)⟩, fun _ => rfl⟩ ?_; (try go_simp)
          refine wpAnyIn_take (i := 23) (v := .bool false) rfl rfl (by kernel_rfl) (by kernel_rfl) (by kernel_rfl) (fun _ _ _ h => h) ⟨Or.inl ⟨by rfl, (by intro w; go_simp; try rfl)⟩, fun _ => rfl⟩ ?_; (try go_simp)
          refine wpAnyIn_take (i := 24) (v := undef) rfl rfl (by kernel_rfl) (by kernel_rfl) (by kernel_rfl) (fun _ _ _ h => h) ⟨Or.inr ⟨by rfl, rfl⟩, fun _ => rfl⟩ ?_; (try go_simp)
          refine wpAnyIn_take (i := 25) (v := undef) rfl rfl (by kernel_rfl) (by kernel_rfl) (by kernel_rfl) (fun _ _ _ h => h) ⟨Or.inr ⟨by rfl, rfl⟩, fun _ => rfl⟩ ?_; (try go_simp)
          refine wpAnyIn_take (i := 26) (v := undef) rfl rfl (by kernel_rfl) (by kernel_rfl) (by kernel_rfl) (fun _ _ _ h => h) ⟨Or.inr ⟨by rfl, rfl⟩, fun _ => rfl⟩ ?_; (try go_simp)
          refine wpAnyIn_take (i := 27) (v := undef) rfl rfl (by kernel_rfl) (by kernel_rfl) (by kernel_rfl) (fun _ _ _ h => h) ⟨Or.inr ⟨by rfl, rfl⟩, fun _ => rfl⟩ ?_; (try go_simp)
          refine wpAnyIn_take (i := 28) (v := undef) rfl rfl (by kernel_rfl) (by kernel_rfl) (by kernel_rfl) (fun _ _ _ h => h) ⟨Or.inr ⟨by rfl, rfl⟩, fun _ => rfl⟩ ?_; (try go_simp)
          refine wpAnyIn_ready (rs := [29]) (by kernel_rfl) (by simp) ?_; refine AllReadyIn.cons rfl (fun K hK => ?_) AllReadyIn.nil; go_simp; (first | refine ⟨fun _ _ => trivial, ?_⟩ | refine ⟨trivial, ?_⟩ | skip); refine hK _ _ ?_; clear hK K
          refine wpAnyIn_take (i := 30) (v := .bool false) rfl rfl (by kernel_rfl) (by kernel_rfl) (by kernel_rfl) (fun _ _ _ h => h) ⟨Or.inl ⟨by rfl, (by intro w; go_simp; try rfl)⟩, fun _ => rfl⟩ ?_; (try go_simp)
          refine wpAnyIn_take (i := 31) (v := .bool false) rfl rfl (by kernel_rfl) (by kernel_rfl) (by kernel_rfl) (fun _ _ _ h => h) ⟨Or.inl ⟨by rfl, (by intro w; go_simp; try rfl)⟩, fun _ => rfl⟩ ?_; (try go_simp)
          refine wpAnyIn_take (i := 32) (v := .bool false) rfl rfl (by kernel_rfl) (by kernel_rfl) (by kernel_rfl) (fun _ _ _ h => h) ⟨Or.inl ⟨by rfl, (by intro w; go_simp; try rfl)⟩, fun _ => rfl⟩ ?_; (try go_simp)
          refine wpAnyIn_done (by kernel_rfl) ?_ _
          gi_wp2
          go_ret
          exact .inr ⟨rfl, tl.list ++ [(bk, bv)], ⟨tr.list, by simp [T.list]⟩, by simpa [List.append_assoc] using hx2⟩
    · skip
      refine hK _ _ ?_; clear hK K
      refine wpAnyIn_take (i := 9) (v := .bool false) rfl rfl (by kernel_rfl) (by kernel_rfl) (by kernel_rfl) (fun _ _ _ h => h) ⟨Or.inl ⟨by rfl, (by intro w; go_simp; try rfl)⟩, fun _ => rfl⟩ ?_; (try go_simp)
      refine wpAnyIn_take (i := 10) (v := undef) rfl rfl (by kernel_rfl) (by kernel_rfl) (by kernel_rfl) (fun _ _ _ h => h) ⟨Or.inr ⟨by rfl, rfl⟩, fun _ => rfl⟩ ?_; (try go_simp)
      refine wpAnyIn_take (i := 11) (v := undef) rfl rfl (by kernel_rfl) (by kernel_rfl) (by kernel_rfl) (fun _ _ _ h => h) ⟨Or.inr ⟨by rfl, rfl⟩, fun _ => rfl⟩ ?_; (try go_simp)
      refine wpAnyIn_take (i := 12) (v := undef) rfl rfl (by kernel_rfl) (by kernel_rfl) (by kernel_rfl) (fun _ _ _ h => h) ⟨Or.inr ⟨by rfl, rfl⟩, fun _ => rfl⟩ ?_; (try go_simp)
      refine wpAnyIn_take (i := 13) (v := undef) rfl rfl (by kernel_rfl) (by kernel_rfl) (by kernel_rfl) (fun _ _ _ h => h) ⟨Or.inr ⟨by rfl, rfl⟩, fun _ => rfl⟩ ?_; (try go_simp)
      refine wpAnyIn_take (i := 14) (v := undef) rfl rfl (by kernel_rfl) (by kernel_rfl) (by kernel_rfl) (fun _ _ _ h => h) ⟨Or.inr ⟨by rfl, rfl⟩, fun _ => rfl⟩ ?_; (try go_simp)
      refine wpAnyIn_take (i := 15) (v := undef) rfl rfl (by kernel_rfl) (by kernel_rfl) (by kernel_rfl) (fun _ _ _ h => h) ⟨Or.inr ⟨by rfl, rfl⟩, fun _ => rfl⟩ ?_; (try go_simp)
      refine wpAnyIn_take (i := 16) (v := undef) rfl rfl (by kernel_rfl) (by kernel_rfl) (by kernel_rfl) (fun _ _ _ h => h) ⟨Or.inr ⟨by rfl, rfl⟩, fun _ => rfl⟩ ?_; (try go_simp)
      refine wpAnyIn_take (i := 17) (v := undef) rfl rfl (by kernel_rfl) (by kernel_rfl) (by kernel_rfl) (fun _ _ _ h => h) ⟨Or.inr ⟨by rfl, rfl⟩, fun _ => rfl⟩ ?_; (try go_simp)
      refine wpAnyIn_take (i := 18) (v := undef) rfl rfl (by kernel_rfl) (by kernel_rfl) (by kernel_rfl) (fun _ _ _ h => h) ⟨Or.inr ⟨by rfl, rfl⟩, fun _ => rfl⟩ ?_; (try go_simp)
      refine wpAnyIn_take (i := 19) (v := undef) rfl rfl (by kernel_rfl) (by kernel_rfl) (by kernel_rfl) (fun _ _ _ h => h) ⟨Or.inr ⟨by rfl, rfl⟩, fun _ => rfl⟩ ?_; (try go_simp)
      refine wpAnyIn_take (i := 20) (v := undef) rfl rfl (by kernel_rfl) (by kernel_rfl) (by kernel_rfl) (fun _ _ _ h => h) ⟨Or.inr ⟨by rfl, rfl⟩, fun _ => rfl⟩ ?_; (try go_simp)
      refine wpAnyIn_ready (rs := [21]) (by kernel_rfl) (by simp) ?_; refine AllReadyIn.cons rfl (fun K hK => ?_) AllReadyIn.nil; go_simp; (first | refine ⟨fun _ _ => trivial, ?_⟩ | refine ⟨trivial, ?_⟩ | skip); refine hK _ _ ?_; clear hK K
      refine wpAnyIn_take (i := 22) (v := .bool false) rfl rfl (by kernel_rfl) (by kernel_rfl) (by kernel_rfl) (fun _ _ _ h => h) ⟨Or.inl ⟨by rfl, (by intro w; go_simp; try rfl)⟩, fun _ => rfl⟩ ?_; (try go_simp)
      refine wpAnyIn_take (i := 23) (v := .bool false) rfl rfl (by kernel_rfl) (by kernel_rfl) (by kernel_rfl) (fun _ _ _ h => h) ⟨Or.inl ⟨by rfl, (by intro w; go_simp; try rfl)⟩, fun _ => rfl⟩ ?_; (try go_simp)
      refine wpAnyIn_take (i := 24) (v := undef) rfl rfl (by kernel_rfl) (by kernel_rfl) (by kernel_rfl) (fun _ _ _ h => h) ⟨Or.inr ⟨by rfl, rfl⟩, fun _ => rfl⟩ ?_; (try go_simp)
      refine wpAnyIn_take (i := 25) (v := undef) rfl rfl (by kernel_rfl) (by kernel_rfl) (by kernel_rfl) (fun _ _ _ h => h) ⟨Or.inr ⟨by rfl, rfl⟩, fun _ => rfl⟩ ?_; (try go_simp)
      refine wpAnyIn_take (i := 26) (v := undef) rfl rfl (by kernel_rfl) (by kernel_rfl) (by kernel_rfl) (fun _ _ _ h => h) ⟨Or.inr ⟨by rfl, rfl⟩, fun _ => rfl⟩ ?_; (try go_simp)
      refine wpAnyIn_take (i := 27) (v := undef) rfl rfl (by kernel_rfl) (by kernel_rfl) (by kernel_rfl) (fun _ _ _ h => h) ⟨Or.inr ⟨by rfl, rfl⟩, fun _ => rfl⟩ ?_; (try go_simp)
      refine wpAnyIn_take (i := 28) (v := undef) rfl rfl (by kernel_rfl) (by kernel_rfl) (by kernel_rfl) (fun _ _ _ h => h) ⟨Or.inr ⟨by rfl, rfl⟩, fun _ => rfl⟩ ?_; (try go_simp)
      refine wpAnyIn_ready (rs := [29]) (by kernel_rfl) (by simp) ?_; refine AllReadyIn.cons rfl (fun K hK => ?_) AllReadyIn.nil; go_simp; (first | refine ⟨fun _ _ => trivial, ?_⟩ | refine ⟨trivial, ?_⟩ | skip); refine hK _ _ ?_; clear hK K
      refine wpAnyIn_take (i := 30) (v := .bool false) rfl rfl (by kernel_rfl) (by kernel_rfl) (by kernel_rfl) (fun _ _ _ h => h) ⟨Or.inl ⟨by rfl, (by intro w; go_simp; try rfl)⟩, fun _ => rfl⟩ ?_; (try go_simp)
      refine wpAnyIn_take (i := 31) (v := .bool false) rfl rfl (by kernel_rfl) (by kernel_rfl) (by kernel_rfl) (fun _ _ _ h => h) ⟨Or.inl ⟨by rfl, (by intro w; go_simp; try rfl)⟩, fun _ => rfl⟩ ?_; (try go_simp)
      refine wpAnyIn_take (i := 32) (v := .bool false) rfl rfl (by kernel_rfl) (by kernel_rfl) (by kernel_rfl) (fun _ _ _ h => h) ⟨Or.inl ⟨by rfl, (by intro w; go_simp; try rfl)⟩, fun _ => rfl⟩ ?_; (try go_simp)
      refine wpAnyIn_done (by kernel_rfl) ?_ _
      gi_wp2
      go_ret
      exact .inr ⟨rfl, q, hq.trans (by simp [T.list]), hx1⟩
end Go.Proofs.Ytelngbkbdihdnaa
