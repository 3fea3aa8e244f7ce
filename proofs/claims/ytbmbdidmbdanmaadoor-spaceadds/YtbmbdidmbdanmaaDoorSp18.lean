/- The law's awake. -/
import Derived.Test.YtbmbdidmbdanmaaDoorSp17
namespace Go.Proofs.YtbmbdidmbdanmaaDoor
open Go.RowKit Go.Shelf
set_option linter.unusedVariables false
set_option linter.unusedSimpArgs false
theorem func_nil : ∀ (W : World) (n : FuncId) (b : Array Value), (binOp .eql 47 (.func (.func n) #[] b) Value.nilFunc).run Tryd.prog W = .ok (.bool false) W := fun W n b => by
  first | rfl | simp [binOp, Op.equal, Op.maxDepth, go_sem]
theorem cnt_none (f : Nat → Bool) : ∀ n, (∀ j, j < n → f j = false) → cnt f n = 0
  | 0, _ => rfl
  | n + 1, h => by simp only [cnt]; rw [cnt_none f n (fun j hj => h j (by omega)), h n (by omega)]; rfl
theorem cnt_cut (f : Nat → Bool) (k m : Nat) (h : ∀ j, k ≤ j → f j = false) : cnt f (k + m) = cnt f k := by
  rw [cnt_add, cnt_none _ m (fun j _ => h (k + j) (by omega)), Nat.add_zero]
def u0 : Nat → Bool := fun _ => false
def u1 : Nat → Bool := fSet u0 0 (0 + (3 : Int).toNat)
def u2 : Nat → Bool := fSet u1 3 (3 + (2 : Int).toNat)
def u3 : Nat → Bool := fUnset u2 0 (0 + 3)
def v3 : Nat → Bool := fSet u0 0 (0 + 3)
theorem c_u0 : cnt u0 4096 = 0 := cnt_none _ _ (fun _ _ => rfl)
theorem c_u1 : cnt u1 4096 = 3 := by
  rw [show 4096 = 5 + 4091 by rfl, cnt_cut u1 5 4091 (fun j hj => by simp [u1, fSet, u0]; omega)]; rfl
theorem c_u3 : cnt u3 4096 = 2 := by
  rw [show 4096 = 5 + 4091 by rfl, cnt_cut u3 5 4091 (fun j hj => by simp [u3, u2, u1, fSet, fUnset, u0]; omega)]; rfl
theorem c_v3 : cnt v3 4096 = 3 := by
  rw [show 4096 = 5 + 4091 by rfl, cnt_cut v3 5 4091 (fun j hj => by simp [v3, fSet, u0]; omega)]; rfl
structure AwS (w : World) (g : Nat) (u v : Nat → Bool) (W : World) : Prop where
  sp : SpAt g 8 10 u v 0 W
  same : Same w W
  tab : Tab W
  far : w.heap.size ≤ g
  low : 0 < w.heap.size
theorem AwS.next {w : World} {g : Nat} {u v u' v' : Nat → Bool} {W W' : World} (h : AwS w g u v W) (s : SpAt g 8 10 u' v' 0 W') (k : Kept (fun b => b = g) W W') : AwS w g u' v' W' :=
  ⟨s, Kept.trans' h.same k (fun i hi e => by have := h.far; omega), h.tab.kept k (fun e => by have := h.far; have := h.low; omega), h.far, h.low⟩
theorem AwS.keep {w : World} {g : Nat} {u v : Nat → Bool} {W W' : World} (h : AwS w g u v W) (k : Same W W') : AwS w g u v W' :=
  ⟨h.sp.kept k (fun h => h), h.same.trans k, h.tab.same k, h.far, h.low⟩
theorem aw_new (w : World) (hT : Tab w) : Calls Tryd.prog 30 #[.int .i64 8, .int .i64 10] w fun r w' => ∃ g, r = .returned (.tuple #[.pointer (some ⟨g, 0, none⟩), .int .i64 0]) ∧ AwS w g u0 u0 w' :=
  (sp_new 8 10 w (by omega) (by omega)).mono fun r w' ⟨g, h1, h2, h3, h4⟩ => ⟨g, h1, h4, h3, hT.same h3, h2, hT.lt⟩
theorem aw_t1 {w : World} {g : Nat} {W : World} (h : AwS w g u0 u0 W) : Calls Tryd.prog 15 #[.pointer (some ⟨g, 0, none⟩), .int .i64 3] W fun r w' => r = .returned (.tuple #[.int .i64 8, .int .i64 0]) ∧ AwS w g u1 u0 w' :=
  (sp_takeRun g 8 10 u0 u0 0 3 W h.sp h.tab (by omega) (by unfold leftZ; rw [c_u0]; omega)).mono fun r w' p => by
    obtain ⟨e, s, k⟩ := p.yes 0 10 (by decide)
    exact ⟨e, h.next s k⟩
theorem aw_t2 {w : World} {g : Nat} {W : World} (h : AwS w g u1 u0 W) : Calls Tryd.prog 15 #[.pointer (some ⟨g, 0, none⟩), .int .i64 2] W fun r w' => r = .returned (.tuple #[.int .i64 11, .int .i64 0]) ∧ AwS w g u2 u0 w' :=
  (sp_takeRun g 8 10 u1 u0 0 2 W h.sp h.tab (by omega) (by unfold leftZ; rw [c_u0, c_u1]; omega)).mono fun r w' p => by
    obtain ⟨e, s, k⟩ := p.yes 3 7 (by decide)
    exact ⟨e, h.next s k⟩
theorem aw_l {w : World} {g : Nat} {W : World} (h : AwS w g u2 u0 W) : Calls Tryd.prog 17 #[.pointer (some ⟨g, 0, none⟩), .agg #[.int .i64 8, .int .i64 3]] W fun r w' => r = .returned (.int .i64 0) ∧ AwS w g u3 v3 w' :=
  (sp_laterOk g 8 10 u2 u0 0 0 3 W h.sp (by omega) (by omega) h.tab (fun i _ h2 => by
    have : i = 0 ∨ i = 1 ∨ i = 2 := by omega
    rcases this with rfl | rfl | rfl <;> rfl)).mono fun r w' p => ⟨p.1, h.next p.2.1 p.2.2⟩
theorem aw_t3 {w : World} {g : Nat} {W : World} (h : AwS w g u3 v3 W) : Calls Tryd.prog 15 #[.pointer (some ⟨g, 0, none⟩), .int .i64 6] W fun r w' => r = .returned (.tuple #[.int .i64 0, .int .i64 2]) ∧ AwS w g u3 v3 w' :=
  (sp_takeFull g 8 10 u3 v3 0 6 W h.sp (by omega) (by unfold leftZ; rw [c_u3, c_v3]; omega)).mono fun r w' p => ⟨p.1, h.keep p.2⟩
theorem aw_left {w : World} {g : Nat} {W : World} (h : AwS w g u3 v3 W) : Calls Tryd.prog 25 #[.pointer (some ⟨g, 0, none⟩)] W fun r w' => r = .returned (.int .i64 5) ∧ AwS w g u3 v3 w' :=
  (sp_left g 8 10 u3 v3 0 W h.sp).mono fun r w' p => ⟨by have e := p.1; rw [c_u3, c_v3] at e; exact e, h.keep p.2⟩
theorem aw_set {w : World} {g : Nat} {W : World} (h : AwS w g u3 v3 W) : Calls Tryd.prog 18 #[.pointer (some ⟨g, 0, none⟩)] W fun r w' => r = .returned (.int .i64 3) ∧ AwS w g u3 u0 w' :=
  (sp_settle g 8 10 u3 v3 0 W h.sp).mono fun r w' p => ⟨by have e := p.1; rw [c_v3] at e; exact e, h.next p.2.1 p.2.2⟩
set_option maxHeartbeats 4000000 in
set_option maxRecDepth 100000 in
theorem aw_any (w : World) (hT : Tab w) : Calls Tryd.prog 27 #[] w fun r w' => r = .returned (.bool true) ∧ Same w w' := by
  have N := hidden (aw_new w hT)
  have HF := func_nil
  clear hT
  go_enter Tryd.func27, Tryd.ntmps27
  go_wp2_with (first
    | (go_at_call 30; refine N.out.mono ?_; rintro e w1 ⟨g, rfl, h1⟩; have S1 := hidden h1; clear h1)
    | (go_at_call 22; refine (runs_fn _ _).mono ?_; rintro e w2 ⟨rfl, hw2⟩; have S2 : Hid (AwS w g u0 u0 w2) := by { rw [← hw2]; exact S1.out.keep (same_alloc _ _) }; clear hw2)
    | (go_at_call 15; refine (aw_t1 S2.out).mono ?_; rintro e w3 ⟨rfl, h3⟩; have S3 := hidden h3; clear h3 S2)
    | (go_at_call 15; refine (aw_t2 S3.out).mono ?_; rintro e w4 ⟨rfl, h4⟩; have S4 := hidden h4; clear h4 S3)
    | (go_at_call 17; refine (aw_l S4.out).mono ?_; rintro e w5 ⟨rfl, h5⟩; have S5 := hidden h5; clear h5 S4)
    | (go_at_call 15; refine (aw_t3 S5.out).mono ?_; rintro e w6 ⟨rfl, h6⟩; have S6 := hidden h6; clear h6)
    | (go_at_call 25; refine (aw_left S6.out).mono ?_; rintro e w7 ⟨rfl, h7⟩; have S7 := hidden h7; clear h7)
    | (go_at_call 18; refine (aw_set S7.out).mono ?_; rintro e w8 ⟨rfl, h8⟩; have S8 := hidden h8; clear h8))
  go_returns
  exact ⟨rfl, S8.out.same⟩
end Go.Proofs.YtbmbdidmbdanmaaDoor
