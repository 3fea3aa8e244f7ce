/- The law's 'step', walked: Reader and reading stay alike. -/
import Derived.Test.YtlilgfcacoooaaaDoorRdg
import Derived.Test.YtlilgfcacoooaaaDoorSplit2
import Derived.Deep.RegionWith
import Derived.BigQuiet
import Derived.Deep.QuietTactic
namespace Go.Proofs.YtlilgfcacoooaaaDoor
open Go.RowKit
set_option linter.unusedVariables false
attribute [local go_sem ↓] Go.wp_at_zero Go.wp_at_succ

/-- Reader and reading hold the same. -/
structure Both (g h : Nat) (st : RSt) (w : World) : Prop where
  ne : g ≠ h
  r : Rd g st w
  x : Xr h st w
theorem Both.same {g h : Nat} {st : RSt} {w w' : World} (b : Both g h st w) (k : Same w w') : Both g h st w' := ⟨b.ne, b.r.kept k (fun h => h), b.x.kept k (fun h => h)⟩
theorem alloc_same (w : World) (o : Obj) : Same w (w.alloc o) := (Kept.refl _ _).alloc _
abbrev two (g h : Nat) : Nat → Prop := fun k => k = g ∨ k = h
theorem two_l {g h : Nat} {w w' : World} (k : Kept (only g) w w') : Kept (two g h) w w' := k.mono fun _ _ e => Or.inl e
theorem two_r {g h : Nat} {w w' : World} (k : Kept (only h) w w') : Kept (two g h) w w' := k.mono fun _ _ e => Or.inr e
theorem rraw_nat (st : RSt) (n : Nat) : rraw st (n : Int) = rtake st n := by unfold rraw; rw [if_neg (by omega), Int.toNat_natCast]
set_option maxHeartbeats 1000000 in
set_option maxRecDepth 100000 in
theorem step_0 {g h : Nat} {st : RSt} {w : World} (b : Both g h st w) (N : Nat) (S : ByteArray) :
    Calls Tryd.prog 43 #[.pointer (some ⟨g, 0, none⟩), .pointer (some ⟨h, 0, none⟩), .agg #[.int .i64 0, .int .u64 N, .string S]] w fun e w' => e = .returned (.bool true) ∧ ∃ st', Both g h st' w' ∧ Kept (two g h) w w' := by
  have hr := fun (w : World) (b : Rd g st w) => rU8 b
  have hx := fun (w : World) (b : Xr h st w) => xraw b 1
  rw [show rraw st 1 = rtake st 1 from rraw_nat st 1] at hx
  have hsz : (rtake st 1).1.size ≤ 8 := by rcases rtake_size st 1 with h | h <;> omega
  have hrd := fun w => refRead (rtake st 1).1 w hsz
  have hlt : rnum st 1 < 256 := num_small (rtake st 1).1 1 (by rcases rtake_size st 1 with h | h <;> omega)
  have en : num (rtake st 1).1.data.toList = rnum st 1 := rfl
  rw [en] at hrd
  clear en hsz
  generalize rnum st 1 = n at *
  have hw : IntKind.u64.wrap (n : Int) = (n : Int) := by rw [IntKind.wrap_u64]; omega
  obtain ⟨T, st', hst⟩ : ∃ T st', rtake st 1 = (T, st') := ⟨_, _, rfl⟩
  rw [hst] at hr hx hrd
  simp only at hr hx hrd
  have HR := hidden hr
  have HX := hidden hx
  have HD := hidden hrd
  have HB := hidden b
  have KB := hidden (b.same (alloc_same w (.cells #[.int .i64 0, .int .u64 N, .string S] 57)))
  clear hr hx hrd hst b
  go_enter Tryd.func43, Tryd.ntmps43
  go_wp2_with (first
    | (go_at_call 44; refine (HR.out _ KB.out.r).mono ?_; rintro e w1 ⟨rfl, r1, k1⟩; have x1 := KB.out.x.kept k1 (fun e => HB.out.ne (show h = g from e).symm))
    | (go_at_call 76; refine (HX.out _ x1).mono ?_; rintro e w2 ⟨rfl, x2, k2⟩; have r2 := r1.kept k2 (fun e => HB.out.ne e))
    | (go_at_call 65; refine (HD.out _).mono ?_; rintro e w3 ⟨rfl, rfl⟩))
  go_returns
  exact ⟨rfl, st', ⟨HB.out.ne, r2, x2⟩, Kept.trans (Kept.trans ((Kept.refl (two g h) w).alloc _) (two_l k1)) (two_r k2)⟩
set_option maxHeartbeats 1000000 in
set_option maxRecDepth 100000 in
theorem step_1 {g h : Nat} {st : RSt} {w : World} (b : Both g h st w) (N : Nat) (S : ByteArray) :
    Calls Tryd.prog 43 #[.pointer (some ⟨g, 0, none⟩), .pointer (some ⟨h, 0, none⟩), .agg #[.int .i64 1, .int .u64 N, .string S]] w fun e w' => e = .returned (.bool true) ∧ ∃ st', Both g h st' w' ∧ Kept (two g h) w w' := by
  have hr := fun (w : World) (b : Rd g st w) => rU16 b
  have hx := fun (w : World) (b : Xr h st w) => xraw b 2
  rw [show rraw st 2 = rtake st 2 from rraw_nat st 2] at hx
  have hsz : (rtake st 2).1.size ≤ 8 := by rcases rtake_size st 2 with h | h <;> omega
  have hrd := fun w => refRead (rtake st 2).1 w hsz
  have hlt : rnum st 2 < 65536 := num_small (rtake st 2).1 2 (by rcases rtake_size st 2 with h | h <;> omega)
  have en : num (rtake st 2).1.data.toList = rnum st 2 := rfl
  rw [en] at hrd
  clear en hsz
  generalize rnum st 2 = n at *
  have hw : IntKind.u64.wrap (n : Int) = (n : Int) := by rw [IntKind.wrap_u64]; omega
  obtain ⟨T, st', hst⟩ : ∃ T st', rtake st 2 = (T, st') := ⟨_, _, rfl⟩
  rw [hst] at hr hx hrd
  simp only at hr hx hrd
  have HR := hidden hr
  have HX := hidden hx
  have HD := hidden hrd
  have HB := hidden b
  have KB := hidden (b.same (alloc_same w (.cells #[.int .i64 1, .int .u64 N, .string S] 57)))
  clear hr hx hrd hst b
  go_enter Tryd.func43, Tryd.ntmps43
  go_wp2_with (first
    | (go_at_call 45; refine (HR.out _ KB.out.r).mono ?_; rintro e w1 ⟨rfl, r1, k1⟩; have x1 := KB.out.x.kept k1 (fun e => HB.out.ne (show h = g from e).symm))
    | (go_at_call 76; refine (HX.out _ x1).mono ?_; rintro e w2 ⟨rfl, x2, k2⟩; have r2 := r1.kept k2 (fun e => HB.out.ne e))
    | (go_at_call 65; refine (HD.out _).mono ?_; rintro e w3 ⟨rfl, rfl⟩))
  go_returns
  exact ⟨rfl, st', ⟨HB.out.ne, r2, x2⟩, Kept.trans (Kept.trans ((Kept.refl (two g h) w).alloc _) (two_l k1)) (two_r k2)⟩
set_option maxHeartbeats 1000000 in
set_option maxRecDepth 100000 in
theorem step_2 {g h : Nat} {st : RSt} {w : World} (b : Both g h st w) (N : Nat) (S : ByteArray) :
    Calls Tryd.prog 43 #[.pointer (some ⟨g, 0, none⟩), .pointer (some ⟨h, 0, none⟩), .agg #[.int .i64 2, .int .u64 N, .string S]] w fun e w' => e = .returned (.bool true) ∧ ∃ st', Both g h st' w' ∧ Kept (two g h) w w' := by
  have hr := fun (w : World) (b : Rd g st w) => rU32 b
  have hx := fun (w : World) (b : Xr h st w) => xraw b 4
  rw [show rraw st 4 = rtake st 4 from rraw_nat st 4] at hx
  have hsz : (rtake st 4).1.size ≤ 8 := by rcases rtake_size st 4 with h | h <;> omega
  have hrd := fun w => refRead (rtake st 4).1 w hsz
  have hlt : rnum st 4 < 4294967296 := num_small (rtake st 4).1 4 (by rcases rtake_size st 4 with h | h <;> omega)
  have en : num (rtake st 4).1.data.toList = rnum st 4 := rfl
  rw [en] at hrd
  clear en hsz
  generalize rnum st 4 = n at *
  have hw : IntKind.u64.wrap (n : Int) = (n : Int) := by rw [IntKind.wrap_u64]; omega
  obtain ⟨T, st', hst⟩ : ∃ T st', rtake st 4 = (T, st') := ⟨_, _, rfl⟩
  rw [hst] at hr hx hrd
  simp only at hr hx hrd
  have HR := hidden hr
  have HX := hidden hx
  have HD := hidden hrd
  have HB := hidden b
  have KB := hidden (b.same (alloc_same w (.cells #[.int .i64 2, .int .u64 N, .string S] 57)))
  clear hr hx hrd hst b
  go_enter Tryd.func43, Tryd.ntmps43
  go_wp2_with (first
    | (go_at_call 46; refine (HR.out _ KB.out.r).mono ?_; rintro e w1 ⟨rfl, r1, k1⟩; have x1 := KB.out.x.kept k1 (fun e => HB.out.ne (show h = g from e).symm))
    | (go_at_call 76; refine (HX.out _ x1).mono ?_; rintro e w2 ⟨rfl, x2, k2⟩; have r2 := r1.kept k2 (fun e => HB.out.ne e))
    | (go_at_call 65; refine (HD.out _).mono ?_; rintro e w3 ⟨rfl, rfl⟩))
  go_returns
  exact ⟨rfl, st', ⟨HB.out.ne, r2, x2⟩, Kept.trans (Kept.trans ((Kept.refl (two g h) w).alloc _) (two_l k1)) (two_r k2)⟩
set_option maxHeartbeats 1000000 in
set_option maxRecDepth 100000 in
theorem step_3 {g h : Nat} {st : RSt} {w : World} (b : Both g h st w) (N : Nat) (S : ByteArray) :
    Calls Tryd.prog 43 #[.pointer (some ⟨g, 0, none⟩), .pointer (some ⟨h, 0, none⟩), .agg #[.int .i64 3, .int .u64 N, .string S]] w fun e w' => e = .returned (.bool true) ∧ ∃ st', Both g h st' w' ∧ Kept (two g h) w w' := by
  have hr := fun (w : World) (b : Rd g st w) => rU64 b
  have hx := fun (w : World) (b : Xr h st w) => xraw b 8
  rw [show rraw st 8 = rtake st 8 from rraw_nat st 8] at hx
  have hsz : (rtake st 8).1.size ≤ 8 := by rcases rtake_size st 8 with h | h <;> omega
  have hrd := fun w => refRead (rtake st 8).1 w hsz
  have hlt : rnum st 8 < 18446744073709551616 := num_small (rtake st 8).1 8 (by rcases rtake_size st 8 with h | h <;> omega)
  have en : num (rtake st 8).1.data.toList = rnum st 8 := rfl
  rw [en] at hrd
  clear en hsz
  generalize rnum st 8 = n at *
  have hw : IntKind.u64.wrap (n : Int) = (n : Int) := by rw [IntKind.wrap_u64]; omega
  obtain ⟨T, st', hst⟩ : ∃ T st', rtake st 8 = (T, st') := ⟨_, _, rfl⟩
  rw [hst] at hr hx hrd
  simp only at hr hx hrd
  have HR := hidden hr
  have HX := hidden hx
  have HD := hidden hrd
  have HB := hidden b
  have KB := hidden (b.same (alloc_same w (.cells #[.int .i64 3, .int .u64 N, .string S] 57)))
  clear hr hx hrd hst b
  go_enter Tryd.func43, Tryd.ntmps43
  go_wp2_with (first
    | (go_at_call 47; refine (HR.out _ KB.out.r).mono ?_; rintro e w1 ⟨rfl, r1, k1⟩; have x1 := KB.out.x.kept k1 (fun e => HB.out.ne (show h = g from e).symm))
    | (go_at_call 76; refine (HX.out _ x1).mono ?_; rintro e w2 ⟨rfl, x2, k2⟩; have r2 := r1.kept k2 (fun e => HB.out.ne e))
    | (go_at_call 65; refine (HD.out _).mono ?_; rintro e w3 ⟨rfl, rfl⟩))
  go_returns
  exact ⟨rfl, st', ⟨HB.out.ne, r2, x2⟩, Kept.trans (Kept.trans ((Kept.refl (two g h) w).alloc _) (two_l k1)) (two_r k2)⟩
set_option maxHeartbeats 1000000 in
set_option maxRecDepth 100000 in
theorem step_4 {g h : Nat} {st : RSt} {w : World} (b : Both g h st w) (N : Nat) (S : ByteArray) :
    Calls Tryd.prog 43 #[.pointer (some ⟨g, 0, none⟩), .pointer (some ⟨h, 0, none⟩), .agg #[.int .i64 4, .int .u64 N, .string S]] w fun e w' => e = .returned (.bool true) ∧ ∃ st', Both g h st' w' ∧ Kept (two g h) w w' := by
  have hr := fun (w : World) (b : Rd g st w) => rVar b
  have hx := fun (w : World) (b : Xr h st w) => xvarint b
  obtain ⟨T, st', hst⟩ : ∃ T st', rvar st = (T, st') := ⟨_, _, rfl⟩
  rw [hst] at hr hx
  simp only at hr hx
  have HR := hidden hr
  have HX := hidden hx
  have HB := hidden b
  have KB := hidden (b.same (alloc_same w (.cells #[.int .i64 4, .int .u64 N, .string S] 57)))
  clear hr hx hst b
  go_enter Tryd.func43, Tryd.ntmps43
  go_wp2_with (first
    | (go_at_call 48; refine (HR.out _ KB.out.r).mono ?_; rintro e w1 ⟨rfl, r1, k1⟩; have x1 := KB.out.x.kept k1 (fun e => HB.out.ne (show h = g from e).symm))
    | (go_at_call 77; refine (HX.out _ x1).mono ?_; rintro e w2 ⟨rfl, x2, k2⟩; have r2 := r1.kept k2 (fun e => HB.out.ne e)))
  go_returns
  exact ⟨rfl, st', ⟨HB.out.ne, r2, x2⟩, Kept.trans (Kept.trans ((Kept.refl (two g h) w).alloc _) (two_l k1)) (two_r k2)⟩
set_option maxHeartbeats 1000000 in
set_option maxRecDepth 100000 in
theorem step_5 {g h : Nat} {st : RSt} {w : World} (b : Both g h st w) (N : Nat) (S : ByteArray) :
    Calls Tryd.prog 43 #[.pointer (some ⟨g, 0, none⟩), .pointer (some ⟨h, 0, none⟩), .agg #[.int .i64 5, .int .u64 N, .string S]] w fun e w' => e = .returned (.bool true) ∧ ∃ st', Both g h st' w' ∧ Kept (two g h) w w' := by
  have hr := fun (w : World) (b : Rd g st w) => rText b
  have hx := fun (w : World) (b : Xr h st w) => xtext b
  obtain ⟨T, st', hst⟩ : ∃ T st', rtext st = (T, st') := ⟨_, _, rfl⟩
  rw [hst] at hr hx
  simp only at hr hx
  have HR := hidden hr
  have HX := hidden hx
  have HB := hidden b
  have KB := hidden (b.same (alloc_same w (.cells #[.int .i64 5, .int .u64 N, .string S] 57)))
  clear hr hx hst b
  go_enter Tryd.func43, Tryd.ntmps43
  go_wp2_with (first
    | (go_at_call 49; refine (HR.out _ KB.out.r).mono ?_; rintro e w1 ⟨rfl, r1, k1⟩; have x1 := KB.out.x.kept k1 (fun e => HB.out.ne (show h = g from e).symm))
    | (go_at_call 78; refine (HX.out _ x1).mono ?_; rintro e w2 ⟨rfl, x2, k2⟩; have r2 := r1.kept k2 (fun e => HB.out.ne e)))
  go_returns
  exact ⟨rfl, st', ⟨HB.out.ne, r2, x2⟩, Kept.trans (Kept.trans ((Kept.refl (two g h) w).alloc _) (two_l k1)) (two_r k2)⟩
end Go.Proofs.YtlilgfcacoooaaaDoor
