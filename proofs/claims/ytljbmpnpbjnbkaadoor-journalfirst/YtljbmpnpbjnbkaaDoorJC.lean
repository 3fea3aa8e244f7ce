/- slices.Chunk of bytes, gone over: whole chunks, in a loop whose rounds hand on. (Made by mkjc.py.) -/
import Derived.Test.YtljbmpnpbjnbkaaDoorJRg
namespace Go.Proofs.YtljbmpnpbjnbkaaDoor
open Go.RowKit Go.Shelf
set_option linter.unusedVariables false
attribute [local go_sem] Oper.semAt_some
set_option maxHeartbeats 1000000 in
set_option maxRecDepth 100000 in
theorem chunk_fn (a : Option Addr) (m c : Nat) (n : Nat) (hn : 1 ≤ n) (w : World) : Calls Tryd.prog 53 #[.slice a m c, .int .i64 n] w fun e w' => e = .returned (.func (.func 63) #[] #[.pointer (some ⟨w.heap.size, 0, none⟩), .pointer (some ⟨w.heap.size + 1, 0, none⟩)]) ∧ (w.alloc (.cells #[.slice a m c] 39)).alloc (.cells #[.int .i64 n] 3) = w' := by
  have q : ¬ (n : Int) < 1 := by omega
  go_enter Tryd.func53, Tryd.ntmps53
  go_wp2
  go_returns
  exact ⟨by first | rfl | simp, rfl⟩
abbrev encC (b off n : Nat) {c : Nat} (x : Fin c) : Array Value := #[.slice (some ⟨b, off + x.val * n, none⟩) n n]
/-- The first i of c numbers. -/
def fl (c i : Nat) : List (Fin c) := (List.finRange c).take i
theorem fl_len {c i : Nat} (h : i ≤ c) : (fl c i).length = i := by simp [fl]; omega
theorem fl_succ {c i : Nat} (h : i < c) : fl c (i + 1) = fl c i ++ [⟨i, h⟩] := by
  unfold fl
  rw [List.take_succ_eq_append_getElem (by simpa using h)]
  simp
theorem fl_all (c : Nat) : fl c c = List.finRange c := List.take_of_length_le (by simp)
theorem fl_pre (c i : Nat) : fl c i <+: List.finRange c := List.take_prefix _ _
set_option maxRecDepth 100000 in
set_option maxHeartbeats 1000000 in
theorem chunk_at (k B1 B2 : Nat) (hk : 1 ≤ k) (E : Nat → TypeId → Prop) (X : Nat) (W : World) (b off n c L cap : Nat) (hn : 1 ≤ n) (hL : L = n * c) (hLb : L ≤ 16777216) (hcap : L ≤ cap) (hcb : cap ≤ 9223372036854775807) (hW : ∀ V, KE E W V → V.heap[B1]? = some (.cells #[.slice (some ⟨b, off, none⟩) L cap] 39 (0, 0)) ∧ V.heap[B2]? = some (.cells #[.int .i64 n] 3 (0, 0))) :
    SeqAt Fence.wide k Tryd.prog 63 #[.pointer (some ⟨B1, 0, none⟩), .pointer (some ⟨B2, 0, none⟩)] (encC b off n (c := c)) (KX E X) (fun ys => ys = List.finRange c) (fun pre => pre <+: List.finRange c) c W := fun lp J Jx hJ _ hY h0 => by
  have HC : Hid (∀ W1, KX E X W W1 → W1.cell? ⟨B1, 0, none⟩ = some (.slice (some ⟨b, off, none⟩) L cap) ∧ W1.cell? ⟨B2, 0, none⟩ = some (.int .i64 n)) := fun W1 kk => ⟨blk_cell (hW W1 kk.ke).1, blk_cell (hW W1 kk.ke).2⟩
  have HY := hidden hY
  have HJ := hidden hJ
  clear hW hY hJ
  refine callsIn_of_wp Tryd.func63 rfl trivial ?_ rfl
  simp only [Tryd.ntmps63, List.size_toArray, List.length_cons, List.length_nil, Nat.reduceAdd, Nat.reduceSub, Array.replicate_succ, Array.replicate_zero, List.push_toArray, List.append_toArray, List.nil_append, List.cons_append]
  gi_wp2
  gi_loopw [4] (fun p wr => ∃ i : Nat, p = .int .i64 ((i * n : Nat) : Int) ∧ i ≤ c ∧ J (fl c i) wr ∧ KX E X W wr) (fun p _ => L - (intOf p).toNat)
  case atStart => exact ⟨0, by simp, Nat.zero_le _, h0, KX.refl _ _ _⟩
  case round =>
    obtain ⟨i, rfl, hi, hJs, hB⟩ := hrel
    have HJr := hidden hJs
    have HB := hidden hB
    obtain ⟨y1, y2⟩ := HC.out wr hB
    clear hJs hB
    obtain ⟨p, hp⟩ : ∃ p, i * n = p := ⟨_, rfl⟩
    rw [hp]
    have HP := hidden hp
    by_cases h1 : i < c
    · have hpl : p + n ≤ L := by
        rw [hL, ← hp, ← Nat.succ_mul, Nat.mul_comm]
        exact Nat.mul_le_mul_left _ h1
      have q1 : (p : Int) < (L : Int) := by omega
      have q0 : (0 : Int) ≤ (p : Int) := Int.natCast_nonneg _
      have q2 : (p : Int) ≤ (L : Int) := by omega
      have q3 : (p : Int) ≤ (p : Int) + (n : Int) := by omega
      have q4 : (p : Int) + (n : Int) ≤ (cap : Int) := by omega
      have q5 : (n : Int) ≤ (L : Int) - (p : Int) := by omega
      have hne : ¬ p + n = p := by omega
      have HR : Hid (fl c (i + 1) = fl c i ++ [⟨i, h1⟩]) := fl_succ h1
      clear hp hL
      gi_wp2
      have hmx : Tryd.prog.follows .mixedOrders = true := by kernel_rfl
      have hne2 : ¬ cap = p := by omega
      have hmin : min (n : Int) ((L - p : Nat) : Int) = (n : Int) := by omega
      refine wpIn_region_any hmx ?_
      change wpAnyIn _ _ _ _ _ _ _ _ _ (World.drew _)
      refine wpAnyIn_take (i := 2) (v := .int .i64 (p : Int)) rfl rfl (by kernel_rfl) (by kernel_rfl) (by kernel_rfl) (fun _ _ _ h => h) ⟨Or.inl ⟨by rfl, (by intro w; go_simp; try rfl)⟩, fun _ => rfl⟩ ?_; (try go_simp)
      refine wpAnyIn_ready (rs := [0, 1]) (by kernel_rfl) (by simp) ?_
      refine AllReadyIn.cons rfl (fun K hK => ?_) (AllReadyIn.cons rfl (fun K hK => ?_) AllReadyIn.nil)
      · go_simp
        refine hK _ _ ?_; clear hK K
        refine wpAnyIn_ready (rs := [1]) (by kernel_rfl) (by simp) ?_; refine AllReadyIn.cons rfl (fun K hK => ?_) AllReadyIn.nil; go_simp
        refine hK _ _ ?_; clear hK K
        refine wpAnyIn_take (i := 3) (v := .slice (some ⟨b, off + p, none⟩) (L - p) (cap - p)) rfl rfl (by kernel_rfl) (by kernel_rfl) (by kernel_rfl) (fun _ _ _ h => h) ⟨Or.inl ⟨by rfl, (by intro w; go_simp; try rfl)⟩, fun _ => rfl⟩ ?_; (try go_simp)
        refine wpAnyIn_take (i := 4) (v := .int .i64 ((L - p : Nat) : Int)) rfl rfl (by kernel_rfl) (by kernel_rfl) (by kernel_rfl) (fun _ _ _ h => h) ⟨Or.inl ⟨by rfl, (by intro w; go_simp; try rfl)⟩, fun _ => rfl⟩ ?_; (try go_simp)
        refine wpAnyIn_take (i := 5) (v := .int .i64 (n : Int)) rfl rfl (by kernel_rfl) (by kernel_rfl) (by kernel_rfl) (fun _ _ _ h => h) ⟨Or.inl ⟨by rfl, (by intro w; go_simp; try (first | rfl | omega | (intro h; omega)))⟩, fun _ => rfl⟩ ?_; (try go_simp)
        refine wpAnyIn_take (i := 6) (v := .int .i64 (n : Int)) rfl rfl (by kernel_rfl) (by kernel_rfl) (by kernel_rfl) (fun _ _ _ h => h) ⟨Or.inl ⟨by rfl, (by intro w; go_simp; try rfl)⟩, fun _ => rfl⟩ ?_; (try go_simp)
        refine wpAnyIn_done (by kernel_rfl) ?_ _
        have hJ2 := HJ.out _ _ _ none HJr.out (grown_same (Kept.refl (fun _ => False) wr).drew) (fun r e => by cases e)
        obtain ⟨fn, tmps, assign, body, hy, hR⟩ := HY.out (fl c i) ⟨i, h1⟩ wr.drew hJ2 (by rw [fl_len hi]; exact h1)
        dsimp only [encC] at hy
        rw [HP.out] at hy
        gi_wp2
        refine hR.mono ?_
        rintro e W3 (⟨rfl, hJ3, hk3⟩ | ⟨rfl, hJx3, _⟩)
        · have HJ3 := hidden hJ3
          have HK3 := hidden ((HB.out.trans (KX.of (Kept.refl (fun _ => False) wr).drew)).trans hk3)
          obtain ⟨z1, z2⟩ := HC.out W3 HK3.out
          clear hJ3 hk3 hR hy
          gi_wp2
          go_roundw
          case rel => exact ⟨i + 1, by rw [Nat.succ_mul, HP.out]; go_num, by omega, by rw [HR.out]; exact HJ3.out, HK3.out⟩
          case measure => simp [intOf]; omega
        · gi_wp2
          refine bodyPost_ret (results_none rfl _ _ _) rfl ?_
          exact ⟨⟨_, rfl⟩, .inr ⟨fl c i ++ [⟨i, h1⟩], (by rw [← HR.out]; exact fl_pre c (i + 1)), hJx3⟩⟩
      · go_simp
        refine hK _ _ ?_; clear hK K
        refine wpAnyIn_take (i := 3) (v := .slice (some ⟨b, off + p, none⟩) (L - p) (cap - p)) rfl rfl (by kernel_rfl) (by kernel_rfl) (by kernel_rfl) (fun _ _ _ h => h) ⟨Or.inl ⟨by rfl, (by intro w; go_simp; try rfl)⟩, fun _ => rfl⟩ ?_; (try go_simp)
        refine wpAnyIn_take (i := 4) (v := .int .i64 ((L - p : Nat) : Int)) rfl rfl (by kernel_rfl) (by kernel_rfl) (by kernel_rfl) (fun _ _ _ h => h) ⟨Or.inl ⟨by rfl, (by intro w; go_simp; try rfl)⟩, fun _ => rfl⟩ ?_; (try go_simp)
        refine wpAnyIn_ready (rs := [0]) (by kernel_rfl) (by simp) ?_; refine AllReadyIn.cons rfl (fun K hK => ?_) AllReadyIn.nil; go_simp
        refine hK _ _ ?_; clear hK K
        refine wpAnyIn_take (i := 5) (v := .int .i64 (n : Int)) rfl rfl (by kernel_rfl) (by kernel_rfl) (by kernel_rfl) (fun _ _ _ h => h) ⟨Or.inl ⟨by rfl, (by intro w; go_simp; try (first | rfl | omega | (intro h; omega)))⟩, fun _ => rfl⟩ ?_; (try go_simp)
        refine wpAnyIn_take (i := 6) (v := .int .i64 (n : Int)) rfl rfl (by kernel_rfl) (by kernel_rfl) (by kernel_rfl) (fun _ _ _ h => h) ⟨Or.inl ⟨by rfl, (by intro w; go_simp; try rfl)⟩, fun _ => rfl⟩ ?_; (try go_simp)
        refine wpAnyIn_done (by kernel_rfl) ?_ _
        have hJ2 := HJ.out _ _ _ none HJr.out (grown_same (Kept.refl (fun _ => False) wr).drew) (fun r e => by cases e)
        obtain ⟨fn, tmps, assign, body, hy, hR⟩ := HY.out (fl c i) ⟨i, h1⟩ wr.drew hJ2 (by rw [fl_len hi]; exact h1)
        dsimp only [encC] at hy
        rw [HP.out] at hy
        gi_wp2
        refine hR.mono ?_
        rintro e W3 (⟨rfl, hJ3, hk3⟩ | ⟨rfl, hJx3, _⟩)
        · have HJ3 := hidden hJ3
          have HK3 := hidden ((HB.out.trans (KX.of (Kept.refl (fun _ => False) wr).drew)).trans hk3)
          obtain ⟨z1, z2⟩ := HC.out W3 HK3.out
          clear hJ3 hk3 hR hy
          gi_wp2
          go_roundw
          case rel => exact ⟨i + 1, by rw [Nat.succ_mul, HP.out]; go_num, by omega, by rw [HR.out]; exact HJ3.out, HK3.out⟩
          case measure => simp [intOf]; omega
        · gi_wp2
          refine bodyPost_ret (results_none rfl _ _ _) rfl ?_
          exact ⟨⟨_, rfl⟩, .inr ⟨fl c i ++ [⟨i, h1⟩], (by rw [← HR.out]; exact fl_pre c (i + 1)), hJx3⟩⟩
    · obtain rfl : i = c := by omega
      have q1 : ¬ (p : Int) < (L : Int) := by rw [hL, ← hp, Nat.mul_comm]; omega
      gi_wp2
      go_end0
      have h9 := HJr.out
      rw [fl_all] at h9
      first | exact ⟨⟨_, rfl⟩, .inl ⟨_, rfl, h9⟩⟩ | exact ⟨⟨_, rfl⟩, .inl h9⟩
end Go.Proofs.YtljbmpnpbjnbkaaDoor
