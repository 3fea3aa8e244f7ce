/- The document's Space: set, all. -/
import Derived.Test.YtbmbdidmbdanmaaDoorSpR2
namespace Go.Proofs.YtbmbdidmbdanmaaDoor
open Go.RowKit Go.Shelf
set_option linter.unusedVariables false
set_option linter.unusedSimpArgs false
variable {zp : Spare}
/-- The document's Space with whatever row. -/
structure RgAt (zp : Spare) (q r first count : Nat) (o : Nat → Int) (res : Nat) (w : World) : Prop where
  box : w.heap[q]? = some (.cells #[.int .i64 first, .slice (some ⟨r, 0, none⟩) count zp.cap, .int .i64 res] 66 (0, 0))
  row : w.heap[r]? = some (.cells (rwA zp count o) 3 (0, 0))
theorem RgAt.kept {q r first count : Nat} {o : Nat → Int} {res : Nat} {w w' : World} {S : Nat → Prop} (h : RgAt zp q r first count o res w) (k : Kept S w w') (hq : ¬ S q) (hr : ¬ S r) : RgAt zp q r first count o res w' :=
  ⟨blk_kept k hq h.box, blk_kept k hr h.row⟩
theorem RgAt.ne {q r first count : Nat} {o : Nat → Int} {res : Nat} {w : World} (h : RgAt zp q r first count o res w) : q ≠ r := fun e => by
  have h1 := h.box
  have h2 := h.row
  rw [e, h2] at h1
  have := Option.some.inj h1
  injection this with _ ht
  revert ht
  decide
theorem RfAt.gen {q r first count : Nat} {u v : Nat → Bool} {res : Nat} {w : World} (h : RfAt zp q r first count u v res w) : RgAt zp q r first count (wh u v) res w := ⟨h.box, h.rowA⟩
theorem pt_stepN {o : Nat → Int} {p k : Nat} {x : Int} (h : p ≤ k) : (fun j => if j = k then x else pt o p k x j) = pt o p (k + 1) x := by
  obtain ⟨j, rfl⟩ : ∃ j, k = p + j := ⟨k - p, by omega⟩
  exact pt_more o p j x
set_option maxHeartbeats 2000000 in
set_option maxRecDepth 100000 in
theorem rf_set (q r first count p m : Nat) (o : Nat → Int) (res : Nat) (x : Int) (w : World) (h : RgAt zp q r first count o res w) (hp : p + m ≤ count) (hf : first + count ≤ 4096) :
    Calls Tryd.prog 55 #[.pointer (some ⟨q, 0, none⟩), .agg #[.int .i64 ((first + p : Nat) : Int), .int .i64 (m : Int)], .int .i64 x] w fun e w' => e = .returned (.tuple #[]) ∧ RgAt zp q r first count (pt o p (p + m) x) res w' ∧ Kept (fun b => b = r) w w' := by
  have HH := hidden h
  have lq := blk_lt h.box
  have lr := blk_lt h.row
  have hne := h.ne
  obtain ⟨lo, hlo⟩ : ∃ lo, lo = first + p := ⟨_, rfl⟩
  rw [← hlo]
  have m1 : IntKind.i64.wrap ((lo : Int) - (first : Int)) = (p : Int) := by rw [IntKind.wrap_i64]; omega
  clear h hlo
  go_enter Tryd.func55, Tryd.ntmps55
  go_wp2
  go_loopw [6] (fun a wr => ∃ j k : Nat, j ≤ m ∧ a = .int .i64 j ∧ k = p + j ∧ RgAt zp q r first count (pt o p k x) res wr ∧ wr.heap[w.heap.size]? = some (.cells #[.int .i64 (lo : Int), .int .i64 (m : Int)] 30 (0, 0)) ∧ Kept (fun b => b = r) w wr) (fun a _ => m - (intOf a).toNat)
  case atStart => exact ⟨0, p, Nat.zero_le _, rfl, rfl, by rw [pt_none]; exact HH.out.kept (same_alloc _ _) (fun h => h) (fun h => h), blk_new _ _, (Kept.refl _ _).alloc _⟩
  case round =>
    obtain ⟨j, k, hj, rfl, hk, hR, hB, hK⟩ := hrel
    have c1 : wr.cell? ⟨q, 1, none⟩ = some (.slice (some ⟨r, 0, none⟩) count zp.cap) := blk_cell hR.box
    have c0 : wr.cell? ⟨q, 0, none⟩ = some (.int .i64 first) := blk_cell hR.box
    have d0 : wr.cell? ⟨w.heap.size, 0, none⟩ = some (.int .i64 (lo : Int)) := blk_cell hB
    have d1 : wr.cell? ⟨w.heap.size, 1, none⟩ = some (.int .i64 (m : Int)) := blk_cell hB
    have HR := hidden hR
    have HB := hidden hB
    have HK := hidden hK
    have m2 : IntKind.i64.wrap ((p : Int) + (j : Int)) = (k : Int) := by rw [IntKind.wrap_i64]; omega
    have Hk := hidden hk
    have lk : p ≤ k ∧ (j < m → k < count) := by omega
    clear hR hB hK hk
    by_cases hlt : j < m
    · have kc := lk.2 hlt
      have rr : wr.cell? ⟨r, k, none⟩ = some (.int .i64 (pt o p k x k)) := by rw [blk_cell HR.out.row, rwA_at _ _ kc]
      have fz : wr.frozen? ⟨r, k, none⟩ = false := blk_free HR.out.row
      have y1 : (j : Int) < (m : Int) := by omega
      have y4 : (0 : Int) ≤ (k : Int) := Int.natCast_nonneg _
      have y5 : (k : Int) < (count : Int) := by omega
      have w4 : IntKind.i64.wrap ((j : Int) + 1) = (j : Int) + 1 := by rw [IntKind.wrap_i64]; omega
      go_wp2
      refine wp_region_still_tail 15 (by kernel_rfl) (by kernel_rfl) ?_
      change wpStill Tryd.prog _ wr.drew (fun a' => wpList Tryd.prog _ _ _ a' wr.drew) _ _
      simp only [List.take_succ_cons, List.take_zero, List.drop_succ_cons, List.drop_zero]
      repeat still_step
      refine wpStill_nil ?_
      go_wp2
      go_roundw
      case rel =>
        have kd := (Kept.refl (fun b => b = r) wr).drew.setCell (p := ⟨r, k, none⟩) rfl (.int .i64 x)
        refine ⟨j + 1, k + 1, by omega, by go_num, by have := Hk.out; omega, ⟨blk_kept kd hne HR.out.box, ?_⟩, blk_kept kd (by omega) HB.out, HK.out.trans kd⟩
        rw [← pt_stepN lk.1, ← rwA_set _ _ _ _ kc]
        exact blk_set (w := wr.drew) HR.out.row _
      case measure => simp [intOf]; omega
    · have he : j = m := by omega
      subst he
      have y1 : ¬ (j : Int) < (j : Int) := by omega
      go_wp2
      go_returns
      exact ⟨rfl, by rw [← Hk.out]; exact HR.out, HK.out⟩
set_option maxHeartbeats 2000000 in
set_option maxRecDepth 100000 in
theorem rf_allOut (q r first count : Nat) (o : Nat → Int) (res : Nat) (af ac x : Int) (w : World) (h : RgAt zp q r first count o res w) (hf : first + count ≤ 4096) (ha : af ≤ 9223372036854775807) (hn : ¬ Wi first count af ac) :
    Calls Tryd.prog 56 #[.pointer (some ⟨q, 0, none⟩), .agg #[.int .i64 af, .int .i64 ac], .int .i64 x] w fun e w' => e = .returned (.bool false) ∧ Same w w' := by
  have c1 : ∀ ob, (w.alloc ob).cell? ⟨q, 1, none⟩ = some (.slice (some ⟨r, 0, none⟩) count zp.cap) := fun ob => (same_alloc w ob).cell (fun h => h) (blk_cell h.box)
  have c0 : ∀ ob, (w.alloc ob).cell? ⟨q, 0, none⟩ = some (.int .i64 first) := fun ob => (same_alloc w ob).cell (fun h => h) (blk_cell h.box)
  unfold Wi at hn
  clear h
  by_cases h1 : ac < 1
  · have h1d : decide (ac < 1) = true := by simp; omega
    clear hn
    go_enter Tryd.func56, Tryd.ntmps56
    go_wp2
    go_quiet (fail)
    go_wp2
    go_returns
    exact ⟨rfl, (same_alloc _ _).trans ((Kept.refl _ _).drewN _)⟩
  have h1d : decide (ac < 1) = false := by simp; omega
  by_cases h2 : (count : Int) < ac
  · have h2d : decide ((count : Int) < ac) = true := by simp; omega
    clear hn
    go_enter Tryd.func56, Tryd.ntmps56
    go_wp2
    go_quiet (fail)
    go_wp2
    go_returns
    exact ⟨rfl, (same_alloc _ _).trans ((Kept.refl _ _).drewN _)⟩
  have h2d : decide ((count : Int) < ac) = false := by simp; omega
  by_cases h3 : af < (first : Int)
  · have h3d : decide (af < (first : Int)) = true := by simp; omega
    clear hn
    go_enter Tryd.func56, Tryd.ntmps56
    go_wp2
    go_quiet (fail)
    go_wp2
    go_returns
    exact ⟨rfl, (same_alloc _ _).trans ((Kept.refl _ _).drewN _)⟩
  have h3d : decide (af < (first : Int)) = false := by simp; omega
  have m1 : IntKind.i64.wrap (af - (first : Int)) = af - (first : Int) := by rw [IntKind.wrap_i64]; omega
  have m2 : IntKind.i64.wrap ((count : Int) - ac) = (count : Int) - ac := by rw [IntKind.wrap_i64]; omega
  have h4 : (count : Int) - ac < af - (first : Int) := by omega
  have h4d : decide ((count : Int) - ac < af - (first : Int)) = true := by simp; omega
  clear hn
  go_enter Tryd.func56, Tryd.ntmps56
  go_wp2
  go_quiet (fail)
  go_wp2
  go_returns
  exact ⟨rfl, (same_alloc _ _).trans ((Kept.refl _ _).drewN _)⟩
end Go.Proofs.YtbmbdidmbdanmaaDoor
