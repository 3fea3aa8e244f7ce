/- The law's 'step' of Raw, and its look. -/
import Derived.Test.YtlilgfcacoooaaaDoorStp
namespace Go.Proofs.YtlilgfcacoooaaaDoor
open Go.RowKit
set_option linter.unusedVariables false
attribute [local go_sem ↓] Go.wp_at_zero Go.wp_at_succ

set_option maxHeartbeats 2000000 in
set_option maxRecDepth 100000 in
theorem step_6 {g h : Nat} {st : RSt} {w : World} (b : Both g h st w) (N : Nat) (S : ByteArray) :
    Calls Tryd.prog 43 #[.pointer (some ⟨g, 0, none⟩), .pointer (some ⟨h, 0, none⟩), .agg #[.int .i64 6, .int .u64 N, .string S]] w fun e w' => e = .returned (.bool true) ∧ ∃ st', Both g h st' w' ∧ Kept (two g h) w w' := by
  obtain ⟨m, hm⟩ : ∃ m : Int, IntKind.i64.wrap (N : Int) = m := ⟨_, rfl⟩
  have hml : m ≤ 9223372036854775807 := by rw [← hm, IntKind.wrap_i64]; omega
  have hr := fun (w : World) (b : Rd g st w) => rRaw b m hml
  have hx := fun (w : World) (b : Xr h st w) => xraw b m
  obtain ⟨T, st', hst⟩ : ∃ T st', rraw st m = (T, st') := ⟨_, _, rfl⟩
  rw [hst] at hr hx
  simp only at hr hx
  have HR := hidden hr
  have HX := hidden hx
  have hgw : g < w.heap.size := blk_lt b.r.blk
  have hhw : h < w.heap.size := blk_lt b.x.blk
  have kb := b.same (alloc_same w (.cells #[.int .i64 6, .int .u64 N, .string S] 57))
  have RD : Hid (Rd g st (w.alloc (.cells #[.int .i64 6, .int .u64 N, .string S] 57)).drew) := hidden (kb.r.same rfl)
  have XD : Hid (Xr h st (w.alloc (.cells #[.int .i64 6, .int .u64 N, .string S] 57)).drew) := hidden ⟨kb.x.blk, kb.x.sz⟩
  have NE := hidden b.ne
  have K0 : Hid (Kept (two g h) w (w.alloc (.cells #[.int .i64 6, .int .u64 N, .string S] 57)).drew) := hidden ((Kept.refl (two g h) w).alloc _).drew
  have hbx : Hid ((w.alloc (.cells #[.int .i64 6, .int .u64 N, .string S] 57)).drew.heap[w.heap.size]? = some (.cells #[.int .i64 6, .int .u64 N, .string S] 57 (0, 0))) := hidden (blk_new w _)
  clear hr hx hst b hml kb
  have tokA : True := trivial
  go_enter Tryd.func43, Tryd.ntmps43
  go_wp2
  go_region_with (first
    | (go_at_call 50; have _t := tokA; refine (HR.out _ RD.out).mono ?_; rintro e w1 ⟨rfl, r1, k1⟩; have x1 := XD.out.kept k1 (fun e => NE.out (show h = g from e).symm); have n1 : w1.cell? ⟨w.heap.size, 1, none⟩ = some (.int .u64 N) := blk_cell (blk_kept k1 (fun e => absurd (show w.heap.size = g from e) (by omega)) hbx.out); have tokR : True := trivial; clear tokA)
    | (go_at_call 76; have _t := tokA; refine (HX.out _ XD.out).mono ?_; rintro e w1 ⟨rfl, x1, k1⟩; have r1 := RD.out.kept k1 (fun e => NE.out e); have n1 : w1.cell? ⟨w.heap.size, 1, none⟩ = some (.int .u64 N) := blk_cell (blk_kept k1 (fun e => absurd (show w.heap.size = h from e) (by omega)) hbx.out); have tokX : True := trivial; clear tokA)
    | (go_at_call 76; have _t := tokR; refine (HX.out _ x1).mono ?_; rintro e w2 ⟨rfl, x2, k2⟩; have r2 := r1.kept k2 (fun e => NE.out e))
    | (go_at_call 50; have _t := tokX; refine (HR.out _ r1).mono ?_; rintro e w2 ⟨rfl, r2, k2⟩; have x2 := x1.kept k2 (fun e => NE.out (show h = g from e).symm)))
  all_goals
    go_wp2
    go_returns
    first
      | exact ⟨rfl, st', ⟨NE.out, r2, x2⟩, Kept.trans (Kept.trans K0.out (two_l k1)) (two_r k2)⟩
      | exact ⟨rfl, st', ⟨NE.out, r2, x2⟩, Kept.trans (Kept.trans K0.out (two_r k1)) (two_l k2)⟩
set_option maxHeartbeats 2000000 in
set_option maxRecDepth 100000 in
theorem step_look {g h : Nat} {st : RSt} {w : World} (b : Both g h st w) (kind : Int) (N : Nat) (S : ByteArray) (hk : kind < 0 ∨ 6 < kind) :
    Calls Tryd.prog 43 #[.pointer (some ⟨g, 0, none⟩), .pointer (some ⟨h, 0, none⟩), .agg #[.int .i64 kind, .int .u64 N, .string S]] w fun e w' => e = .returned (.bool true) ∧ ∃ st', Both g h st' w' ∧ Kept (two g h) w w' := by
  have q0 : (kind == 0) = false := by simp; omega
  have q1 : (kind == 1) = false := by simp; omega
  have q2 : (kind == 2) = false := by simp; omega
  have q3 : (kind == 3) = false := by simp; omega
  have q4 : (kind == 4) = false := by simp; omega
  have q5 : (kind == 5) = false := by simp; omega
  have q6 : (kind == 6) = false := by simp; omega
  obtain ⟨s, f⟩ := st
  have HB := hidden b
  have x0 : ∀ o, (w.alloc o).cell? ⟨h, 0, none⟩ = some (.string s) := fun o => blk_cell (blk_alloc b.x.blk o)
  have x1 : ∀ o, (w.alloc o).cell? ⟨h, 1, none⟩ = some (.int .i64 f) := fun o => blk_cell (blk_alloc b.x.blk o)
  have hs : s.size ≤ 281474976710656 := b.x.sz
  have hrb : ∀ o n, Rd g (s, f) ((w.alloc o).drewN n) := fun o n => (b.same (alloc_same w o)).r.kept ((Kept.refl (fun _ => False) _).drewN n) (fun h => h)
  have HL := hidden fun o n => rLeft (hrb o n)
  have HE := hidden fun o n => rErr (hrb o n)
  have hd := fun o n => rDone (hrb o n)
  have ed : rdone (s, f) = if f = 0 then (if 0 < s.size then 22 else 0) else f := rfl
  rw [ed] at hd
  clear b hk hrb ed
  have hcs : f ≠ 0 ∨ f = 0 ∧ s = ⟨#[]⟩ ∨ f = 0 ∧ 0 < s.size := by
    by_cases hf : f = 0
    · by_cases hz : s.size = 0
      · exact Or.inr (Or.inl ⟨hf, empty_of_size s hz⟩)
      · exact Or.inr (Or.inr ⟨hf, by omega⟩)
    · exact Or.inl hf
  rcases hcs with hf | ⟨rfl, rfl⟩ | ⟨rfl, hz⟩
  · rw [if_neg hf] at hd
    have hfb : (f == 0) = false := by simpa using hf
    have HD := hidden hd
    clear hd hf
    go_enter Tryd.func43, Tryd.ntmps43
    go_wp2
    go_quiet ((first | (go_at_call 51; exact Calls.quiet_of_same ((HL.out _ _).mono fun _ _ ⟨a, b⟩ => ⟨a, b.symm⟩)) | (go_at_call 79; exact Calls.quiet_of_same ((HE.out _ _).mono fun _ _ ⟨a, b⟩ => ⟨a, b.symm⟩)) | (go_at_call 52; exact Calls.quiet_of_same ((HD.out _ _).mono fun _ _ ⟨a, b⟩ => ⟨a, b.symm⟩))))
    go_wp2
    go_returns
    exact ⟨rfl, (s, f), HB.out.same ((alloc_same _ _).drewN _), ((Kept.refl (two g h) w).alloc _).drewN _⟩
  · rw [if_pos rfl, if_neg (by decide)] at hd
    have HD := hidden hd
    clear hd
    go_enter Tryd.func43, Tryd.ntmps43
    go_wp2
    go_quiet ((first | (go_at_call 51; exact Calls.quiet_of_same ((HL.out _ _).mono fun _ _ ⟨a, b⟩ => ⟨a, b.symm⟩)) | (go_at_call 79; exact Calls.quiet_of_same ((HE.out _ _).mono fun _ _ ⟨a, b⟩ => ⟨a, b.symm⟩)) | (go_at_call 52; exact Calls.quiet_of_same ((HD.out _ _).mono fun _ _ ⟨a, b⟩ => ⟨a, b.symm⟩))))
    go_wp2
    go_returns
    exact ⟨rfl, _, HB.out.same ((alloc_same _ _).drewN _), ((Kept.refl (two g h) w).alloc _).drewN _⟩
  · rw [if_pos rfl, if_pos hz] at hd
    have HD := hidden hd
    clear hd
    have hne : ¬ s = ByteArray.empty := fun hh => by rw [hh] at hz; simp at hz
    have hnl : (s.toList == []) = false := by
      rw [Lib.toList_data]
      cases hl : s.data.toList with
      | nil => rw [← size_list, hl] at hz; simp at hz
      | cons a l => rfl
    go_enter Tryd.func43, Tryd.ntmps43
    go_wp2
    go_quiet ((first | (go_at_call 51; exact Calls.quiet_of_same ((HL.out _ _).mono fun _ _ ⟨a, b⟩ => ⟨a, b.symm⟩)) | (go_at_call 79; exact Calls.quiet_of_same ((HE.out _ _).mono fun _ _ ⟨a, b⟩ => ⟨a, b.symm⟩)) | (go_at_call 52; exact Calls.quiet_of_same ((HD.out _ _).mono fun _ _ ⟨a, b⟩ => ⟨a, b.symm⟩))))
    go_wp2
    go_returns
    exact ⟨rfl, _, HB.out.same ((alloc_same _ _).drewN _), ((Kept.refl (two g h) w).alloc _).drewN _⟩
end Go.Proofs.YtlilgfcacoooaaaDoor
