/- tree: the spots of a tree of one leaf, gone over, for rounds that hand on. (Made by mkspa.py.) -/
import Derived.Test.YtmlibjohhgpniaaGreatDoorRgT
namespace Go.Proofs.YtmlibjohhgpniaaGreatDoor
open Go.RowKit Go.Shelf
set_option linter.unusedVariables false
set_option linter.unusedSimpArgs false
attribute [local go_sem] Oper.semAt_some
attribute [local go_sem] run_store_fn
set_option maxHeartbeats 2000000 in
set_option maxRecDepth 100000 in
theorem over_at (n : Nd) (a1 a2 a3 : Option Addr) (k1 c1 k2 c2 k3 c3 : Nat) (W : World) (B Y Fb Tb Ob g p lp : Nat) (R1 R2 : World → Prop) (Kq : World → World → Prop) (hs : ∀ W1 W2 k, Kq W1 W2 → W.heap.size ≤ k → W1.heap[k]? = some (.cells #[.pointer (some ⟨p, 0, none⟩), .string ⟨#[]⟩, .string ⟨#[]⟩, .int .i64 1] 96 (0, 0)) → W2.heap[k]? = some (.cells #[.pointer (some ⟨p, 0, none⟩), .string ⟨#[]⟩, .string ⟨#[]⟩, .int .i64 1] 96 (0, 0))) (hp6 : ∀ W1 W2, Same W W1 → Kq W1 W2 → W2.cell? ⟨p, 6, none⟩ = some (.slice none 0 0)) (h : LT W g p n a1 a2 a3 k1 c1 k2 c2 k3 c3) (hl : n.leaf = true) (hb1 : n.keys.length ≤ 17592186044416) (hB : W.heap[B]? = some (.cells #[.pointer (some ⟨g, 0, none⟩)] 22 (0, 0))) (hYb : W.heap[Y]? = some (.cells #[.func (.yield lp) #[] #[]] 204 (0, 0)))
    (hY : ∀ W1, Same W W1 → YieldAt Fence.wide 4 Tryz.prog lp #[.agg #[.pointer (some ⟨p, 0, none⟩), .string ⟨#[]⟩, .string ⟨#[]⟩, .int .i64 1], .int .i64 0] W1 fun e W' => (e = .returned (.bool true) ∧ R1 W' ∧ Kq W1 W') ∨ (e = .returned (.bool false) ∧ R2 W')) :
    CallsIn Fence.wide 5 Tryz.prog 122 #[.agg #[.pointer (some ⟨p, 0, none⟩), .string ⟨#[]⟩, .string ⟨#[]⟩, .int .i64 1], .pointer (some ⟨B, 0, none⟩), .pointer (some ⟨Y, 0, none⟩), .pointer (some ⟨Fb, 0, none⟩), .pointer (some ⟨Tb, 0, none⟩), .pointer (some ⟨Ob, 0, none⟩)] W fun e W' => (∃ v, e = .returned v) ∧ (R1 W' ∨ R2 W') := by
  have HLk := hidden (fun W1 (k : Same W W1) => (callsIn_wide (n := 4)).2 (tlook n a1 a2 a3 k1 c1 k2 c2 k3 c3 W1 g p (h.same k) hl hb1))
  have K0 := hidden (same_alloc W (.cells #[.pointer (some ⟨p, 0, none⟩), .string ⟨#[]⟩, .string ⟨#[]⟩, .int .i64 1] 96))
  have GS := hidden (blk_new W (.cells #[.pointer (some ⟨p, 0, none⟩), .string ⟨#[]⟩, .string ⟨#[]⟩, .int .i64 1] 96))
  have HS := hidden hs
  have HP6 := hidden hp6
  have GB := hidden hB
  have GY := hidden hYb
  have GP := hidden h.pg.box
  have HY := hidden hY
  have b0 : (W.alloc (.cells #[.pointer (some ⟨p, 0, none⟩), .string ⟨#[]⟩, .string ⟨#[]⟩, .int .i64 1] 96)).cell? ⟨B, 0, none⟩ = some (.pointer (some ⟨g, 0, none⟩)) := blk_cell (blk_alloc hB _)
  clear h hB hYb hY hs hp6
  refine callsIn_of_wp Tryz.func122 rfl trivial ?_ rfl
  simp only [Tryz.ntmps122, List.size_toArray, List.length_cons, List.length_nil, Nat.reduceAdd, Nat.reduceSub, Array.replicate_succ, Array.replicate_zero, List.push_toArray, List.append_toArray, List.nil_append, List.cons_append]
  gi_wp2_with (refine ⟨trivial, ?_⟩; gi_at_call 51; refine (HLk.out _ K0.out).mono ?_; rintro e w1 ⟨rfl, q1⟩; have K1 := hidden (K0.out.trans q1); have S1 := hidden (blk_kept q1 (fun h => h) GS.out); have y0 : w1.cell? ⟨Y, 0, none⟩ = some (.func (.yield lp) #[] #[]) := blk_cell (blk_kept K1.out (fun h => h) GY.out); have s0 := blk_cell (j := 0) S1.out; have s1 := blk_cell (j := 1) S1.out; have s2 := blk_cell (j := 2) S1.out; have s3 := blk_cell (j := 3) S1.out; obtain ⟨fn, tmps, assign, body, hy, hR⟩ := HY.out w1 K1.out; clear q1)
  refine hR.mono ?_
  rintro e W3 (⟨rfl, hJ3, hk3⟩ | ⟨rfl, hJx3⟩)
  · have HJ3 := hidden hJ3
    have g1 := HS.out _ _ _ hk3 (Nat.le_refl _) S1.out
    have u0 : W3.cell? ⟨W.heap.size, 0, none⟩ = some (.pointer (some ⟨p, 0, none⟩)) := blk_cell g1
    have u6 : W3.cell? ⟨p, 6, none⟩ = some (.slice none 0 0) := HP6.out _ _ K1.out hk3
    clear hJ3 hk3 g1 hR hy y0 s0 s1 s2 s3 b0
    gi_wp2
    refine wpIn_loop_once ?_
    gi_wp2
    refine bodyPost_ret (v := .bool true) (by simp [results, Tryz.results122, go_sem]) rfl ⟨⟨_, rfl⟩, .inl HJ3.out⟩
  · have HJx := hidden hJx3
    clear hJx3 hR hy y0 s0 s1 s2 s3 b0
    gi_wp2
    refine bodyPost_ret (v := .bool false) (by simp [results, Tryz.results122, go_sem]) rfl ⟨⟨_, rfl⟩, .inr HJx.out⟩
set_option maxHeartbeats 2000000 in
set_option maxRecDepth 100000 in
theorem spots_at (n : Nd) (a1 a2 a3 : Option Addr) (k1 c1 k2 c2 k3 c3 : Nat) (W : World) (B g p : Nat) (Kq : World → World → Prop) (hs : ∀ W1 W2 k, Kq W1 W2 → W.heap.size ≤ k → W1.heap[k]? = some (.cells #[.pointer (some ⟨p, 0, none⟩), .string ⟨#[]⟩, .string ⟨#[]⟩, .int .i64 1] 96 (0, 0)) → W2.heap[k]? = some (.cells #[.pointer (some ⟨p, 0, none⟩), .string ⟨#[]⟩, .string ⟨#[]⟩, .int .i64 1] 96 (0, 0))) (hp6 : ∀ W1 W2, Same W W1 → Kq W1 W2 → W2.cell? ⟨p, 6, none⟩ = some (.slice none 0 0)) (hB1 : W.heap[B]? = some (.cells #[.pointer (some ⟨g, 0, none⟩)] 22 (0, 0))) (hL1 : LT W g p n a1 a2 a3 k1 c1 k2 c2 k3 c3) (hl : n.leaf = true) (hb1 : n.keys.length ≤ 17592186044416) :
    SeqAt Fence.wide 6 Tryz.prog 121 #[.pointer (some ⟨B, 0, none⟩), .pointer (some ⟨B + 1, 0, none⟩), .pointer (some ⟨B + 2, 0, none⟩)] (fun (_ : Unit) => #[.agg #[.pointer (some ⟨p, 0, none⟩), .string ⟨#[]⟩, .string ⟨#[]⟩, .int .i64 1], .int .i64 0]) Kq (fun ys => ys = [()]) (fun pre => pre = [()]) 1 W := fun lp J Jx hJ hJx hY h0 => by
  have HY : Hid (∀ W1, Same W W1 → YieldAt Fence.wide 4 Tryz.prog lp #[.agg #[.pointer (some ⟨p, 0, none⟩), .string ⟨#[]⟩, .string ⟨#[]⟩, .int .i64 1], .int .i64 0] W1 fun e W' => (e = .returned (.bool true) ∧ J [()] W' ∧ Kq W1 W') ∨ (e = .returned (.bool false) ∧ Jx [()] W')) := hidden (fun W1 k => by
    obtain ⟨fn, tmps, asg, bd, hy, hr⟩ := yield_any 4 (hY [] () W1 (hJ [] W W1 none h0 (grown_same k) (fun r e => by cases e)) (by decide))
    exact ⟨fn, tmps, asg, bd, hy, hr.mono fun e W' hw => hw.elim .inl (fun ⟨a, b, _⟩ => .inr ⟨a, b⟩)⟩)
  have HTp := hidden (fun W1 (k : Same W W1) => (callsIn_wide (n := 5)).2 (ttop n a1 a2 a3 k1 c1 k2 c2 k3 c3 W1 g p (hL1.same k)))
  have HOv := hidden (fun W1 (kk : Same W W1) Y Fb Tb Ob hYb => over_at n a1 a2 a3 k1 c1 k2 c2 k3 c3 W1 B Y Fb Tb Ob g p lp (J [()]) (Jx [()]) Kq (fun A C k hq hk hc => hs A C k hq (Nat.le_trans kk.size hk) hc) (fun A C ka hq => hp6 A C (kk.trans ka) hq) (hL1.same kk) hl hb1 (blk_kept kk (fun h => h) hB1) hYb (fun W2 k2 => HY.out W2 (kk.trans k2)))
  have g3 : ((W.alloc (.cells #[.func (.yield lp) #[] #[]] 204)).alloc (.cells #[(.func (.func 122) #[] #[.pointer (some ⟨B, 0, none⟩), .pointer (some ⟨W.heap.size, 0, none⟩), .pointer (some ⟨B + 1, 0, none⟩), .pointer (some ⟨B + 2, 0, none⟩), .pointer (some ⟨W.heap.size + 1, 0, none⟩)])] 205)).heap[W.heap.size + 1]? = some (.cells #[(.func (.func 122) #[] #[.pointer (some ⟨B, 0, none⟩), .pointer (some ⟨W.heap.size, 0, none⟩), .pointer (some ⟨B + 1, 0, none⟩), .pointer (some ⟨B + 2, 0, none⟩), .pointer (some ⟨W.heap.size + 1, 0, none⟩)])] 205 (0, 0)) := by have := blk_new (W.alloc (.cells #[.func (.yield lp) #[] #[]] 204)) (.cells #[(.func (.func 122) #[] #[.pointer (some ⟨B, 0, none⟩), .pointer (some ⟨W.heap.size, 0, none⟩), .pointer (some ⟨B + 1, 0, none⟩), .pointer (some ⟨B + 2, 0, none⟩), .pointer (some ⟨W.heap.size + 1, 0, none⟩)])] 205); simpa using this
  have k3 : Same W ((W.alloc (.cells #[.func (.yield lp) #[] #[]] 204)).alloc (.cells #[(.func (.func 122) #[] #[.pointer (some ⟨B, 0, none⟩), .pointer (some ⟨W.heap.size, 0, none⟩), .pointer (some ⟨B + 1, 0, none⟩), .pointer (some ⟨B + 2, 0, none⟩), .pointer (some ⟨W.heap.size + 1, 0, none⟩)])] 205)) := ((Kept.refl _ W).alloc _).alloc _
  have g4 : ((W.alloc (.cells #[.func (.yield lp) #[] #[]] 204)).alloc (.cells #[(.func (.func 122) #[] #[.pointer (some ⟨B, 0, none⟩), .pointer (some ⟨W.heap.size, 0, none⟩), .pointer (some ⟨B + 1, 0, none⟩), .pointer (some ⟨B + 2, 0, none⟩), .pointer (some ⟨W.heap.size + 1, 0, none⟩)])] 205)).heap[W.heap.size]? = some (.cells #[.func (.yield lp) #[] #[]] 204 (0, 0)) := blk_alloc (blk_new W _) _
  have G3 := hidden g3
  have G4 := hidden g4
  have K3 := hidden k3
  clear g3 g4 k3
  clear hY hJ hJx h0
  have HBW := hidden hB1
  clear hB1 hL1
  refine callsIn_of_wp Tryz.func121 rfl trivial ?_ rfl
  simp only [Tryz.ntmps121, List.size_toArray, List.length_cons, List.length_nil, Nat.reduceAdd, Nat.reduceSub, Array.replicate_succ, Array.replicate_zero, List.push_toArray, List.append_toArray, List.nil_append, List.cons_append]
  gi_wp2
  generalize (W.alloc (.cells #[.func (.yield lp) #[] #[]] 204)).alloc (.cells #[(.func (.func 122) #[] #[.pointer (some ⟨B, 0, none⟩), .pointer (some ⟨W.heap.size, 0, none⟩), .pointer (some ⟨B + 1, 0, none⟩), .pointer (some ⟨B + 2, 0, none⟩), .pointer (some ⟨W.heap.size + 1, 0, none⟩)])] 205) = WS at G3 G4 K3 ⊢
  have o1 : WS.cell? ⟨W.heap.size + 1, 0, none⟩ = some (.func (.func 122) #[] #[.pointer (some ⟨B, 0, none⟩), .pointer (some ⟨W.heap.size, 0, none⟩), .pointer (some ⟨B + 1, 0, none⟩), .pointer (some ⟨B + 2, 0, none⟩), .pointer (some ⟨W.heap.size + 1, 0, none⟩)]) := blk_cell G3.out
  have o2 : WS.cell? ⟨B, 0, none⟩ = some (.pointer (some ⟨g, 0, none⟩)) := blk_cell (blk_kept K3.out (fun h => h) HBW.out)
  have hmx : Tryz.prog.follows .mixedOrders = true := by kernel_rfl
  have hdd : ∀ k : Nat, (Fence.wide.depth.isSome = true → 1 ≤ k) := fun k h => by cases h
  refine wpIn_region_any hmx ?_
  change wpAnyIn _ _ _ _ _ _ _ _ _ (World.drew _)
  refine wpAnyIn_ready (rs := [0, 1]) (by kernel_rfl) (by simp) ?_
  refine AllReadyIn.cons rfl (fun K hK => ?_) (AllReadyIn.cons rfl (fun K hK => ?_) AllReadyIn.nil)
  · go_simp
    refine hK _ _ ?_; clear hK K
    refine wpAnyIn_ready (rs := [1]) (by kernel_rfl) (by simp) ?_; refine AllReadyIn.cons rfl (fun K hK => ?_) AllReadyIn.nil; go_simp
    refine hK _ _ ?_; clear hK K
    refine wpAnyIn_ready (rs := [2]) (by kernel_rfl) (by simp) ?_; refine AllReadyIn.cons rfl (fun K hK => ?_) AllReadyIn.nil; go_simp
    refine ⟨trivial, ?_⟩
    refine (HTp.out _ K3.out.drew).mono ?_
    rintro e w4 ⟨rfl, q4⟩
    have K4 := hidden (K3.out.drew.trans q4)
    have o3 : w4.cell? ⟨W.heap.size + 1, 0, none⟩ = some (.func (.func 122) #[] #[.pointer (some ⟨B, 0, none⟩), .pointer (some ⟨W.heap.size, 0, none⟩), .pointer (some ⟨B + 1, 0, none⟩), .pointer (some ⟨B + 2, 0, none⟩), .pointer (some ⟨W.heap.size + 1, 0, none⟩)]) := q4.cell (fun h => h) o1
    have G5 := hidden (blk_kept q4 (fun h => h) (blk_kept ((Kept.refl (fun _ => False) WS).drew) (fun h => h) G4.out))
    clear q4
    refine hK _ _ ?_; clear hK K
    refine wpAnyIn_ready (rs := [3]) (by kernel_rfl) (by simp) ?_; refine AllReadyIn.cons rfl (fun K hK => ?_) AllReadyIn.nil; go_simp
    refine ⟨trivial, ?_⟩
    refine (HOv.out _ K4.out _ _ _ _ G5.out).mono ?_
    rintro e w5 ⟨⟨v, rfl⟩, h5⟩
    have H5 := hidden h5
    clear h5
    refine hK _ _ ?_; clear hK K
    refine wpAnyIn_done (by kernel_rfl) ?_ _
    gi_wp2
    go_end0
    refine ⟨⟨_, rfl⟩, ?_⟩
    rcases H5.out with h | h
    · exact .inl ⟨_, rfl, h⟩
    · exact .inr ⟨_, rfl, h⟩
  · go_simp
    refine hK _ _ ?_; clear hK K
    refine wpAnyIn_ready (rs := [0, 2]) (by kernel_rfl) (by simp) ?_
    refine AllReadyIn.cons rfl (fun K hK => ?_) (AllReadyIn.cons rfl (fun K hK => ?_) AllReadyIn.nil)
    · go_simp
      refine hK _ _ ?_; clear hK K
      refine wpAnyIn_ready (rs := [2]) (by kernel_rfl) (by simp) ?_; refine AllReadyIn.cons rfl (fun K hK => ?_) AllReadyIn.nil; go_simp
      refine ⟨trivial, ?_⟩
      refine (HTp.out _ K3.out.drew).mono ?_
      rintro e w4 ⟨rfl, q4⟩
      have K4 := hidden (K3.out.drew.trans q4)
      have o3 : w4.cell? ⟨W.heap.size + 1, 0, none⟩ = some (.func (.func 122) #[] #[.pointer (some ⟨B, 0, none⟩), .pointer (some ⟨W.heap.size, 0, none⟩), .pointer (some ⟨B + 1, 0, none⟩), .pointer (some ⟨B + 2, 0, none⟩), .pointer (some ⟨W.heap.size + 1, 0, none⟩)]) := q4.cell (fun h => h) o1
      have G5 := hidden (blk_kept q4 (fun h => h) (blk_kept ((Kept.refl (fun _ => False) WS).drew) (fun h => h) G4.out))
      clear q4
      refine hK _ _ ?_; clear hK K
      refine wpAnyIn_ready (rs := [3]) (by kernel_rfl) (by simp) ?_; refine AllReadyIn.cons rfl (fun K hK => ?_) AllReadyIn.nil; go_simp
      refine ⟨trivial, ?_⟩
      refine (HOv.out _ K4.out _ _ _ _ G5.out).mono ?_
      rintro e w5 ⟨⟨v, rfl⟩, h5⟩
      have H5 := hidden h5
      clear h5
      refine hK _ _ ?_; clear hK K
      refine wpAnyIn_done (by kernel_rfl) ?_ _
      gi_wp2
      go_end0
      refine ⟨⟨_, rfl⟩, ?_⟩
      rcases H5.out with h | h
      · exact .inl ⟨_, rfl, h⟩
      · exact .inr ⟨_, rfl, h⟩
    · go_simp
      refine ⟨trivial, ?_⟩
      refine (HTp.out _ K3.out.drew).mono ?_
      rintro e w4 ⟨rfl, q4⟩
      have K4 := hidden (K3.out.drew.trans q4)
      have o3 : w4.cell? ⟨W.heap.size + 1, 0, none⟩ = some (.func (.func 122) #[] #[.pointer (some ⟨B, 0, none⟩), .pointer (some ⟨W.heap.size, 0, none⟩), .pointer (some ⟨B + 1, 0, none⟩), .pointer (some ⟨B + 2, 0, none⟩), .pointer (some ⟨W.heap.size + 1, 0, none⟩)]) := q4.cell (fun h => h) o1
      have G5 := hidden (blk_kept q4 (fun h => h) (blk_kept ((Kept.refl (fun _ => False) WS).drew) (fun h => h) G4.out))
      clear q4
      refine hK _ _ ?_; clear hK K
      refine wpAnyIn_ready (rs := [0]) (by kernel_rfl) (by simp) ?_; refine AllReadyIn.cons rfl (fun K hK => ?_) AllReadyIn.nil; go_simp
      refine hK _ _ ?_; clear hK K
      refine wpAnyIn_ready (rs := [3]) (by kernel_rfl) (by simp) ?_; refine AllReadyIn.cons rfl (fun K hK => ?_) AllReadyIn.nil; go_simp
      refine ⟨trivial, ?_⟩
      refine (HOv.out _ K4.out _ _ _ _ G5.out).mono ?_
      rintro e w5 ⟨⟨v, rfl⟩, h5⟩
      have H5 := hidden h5
      clear h5
      refine hK _ _ ?_; clear hK K
      refine wpAnyIn_done (by kernel_rfl) ?_ _
      gi_wp2
      go_end0
      refine ⟨⟨_, rfl⟩, ?_⟩
      rcases H5.out with h | h
      · exact .inl ⟨_, rfl, h⟩
      · exact .inr ⟨_, rfl, h⟩
end Go.Proofs.YtmlibjohhgpniaaGreatDoor
