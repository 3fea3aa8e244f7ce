/- 'x, y := f(v), g(v)' with x and y in memory: a region of eight operations that draws its order (two loads, two calls, two allocs, two stores), by an invariant over what has been done: each operation is looked at once. Of no program. -/
import Derived.Test.YtilkpboegpfijaaDoorBase
import Derived.RegionTactic
namespace Go.Proofs.YtilkpboegpfijaaDoor
open Go.RowKit
set_option linter.unusedVariables false

def allB (p : Bool → Bool) : Bool := p false && p true
theorem allB_at {p : Bool → Bool} (h : allB p = true) (b : Bool) : p b = true := by
  unfold allB at h
  cases b <;> simp_all
/-- Which of the eight may come up, and what has then been done. -/
def okReady (b0 b1 b2 b3 b4 b5 b6 b7 : Bool) : Nat → Bool
  | 0 => !b0
  | 1 => !b1 && b0
  | 2 => !b2
  | 3 => !b3 && b1 && b2
  | 4 => !b4
  | 5 => !b5
  | 6 => !b6 && b1 && b3 && b4 && b5
  | 7 => !b7 && b6 && b1 && b3 && b4 && b5
  | _ => false
def left8 (b0 b1 b2 b3 b4 b5 b6 b7 : Bool) : Nat := (!b0).toNat + (!b1).toNat + (!b2).toNat + (!b3).toNat + (!b4).toNat + (!b5).toNat + (!b6).toNat + (!b7).toNat
theorem left8_none {b0 b1 b2 b3 b4 b5 b6 b7 : Bool} (h : left8 b0 b1 b2 b3 b4 b5 b6 b7 = 0) : b0 = true ∧ b1 = true ∧ b2 = true ∧ b3 = true ∧ b4 = true ∧ b5 = true ∧ b6 = true ∧ b7 = true := by
  unfold left8 at h
  cases b0 <;> cases b1 <;> cases b2 <;> cases b3 <;> cases b4 <;> cases b5 <;> cases b6 <;> cases b7 <;> simp_all
section
variable {P : Program} {ops : Array Oper} {Q : Exit → Act → World → Prop} {I : Bool → Bool → Bool → Bool → Bool → Bool → Bool → Bool → Act → World → Prop}
theorem wpAny_eight
    (hr : (allB fun b0 => allB fun b1 => allB fun b2 => allB fun b3 => allB fun b4 => allB fun b5 => allB fun b6 => allB fun b7 => (Region.ready .any ops #[b0, b1, b2, b3, b4, b5, b6, b7]).all (okReady b0 b1 b2 b3 b4 b5 b6 b7)) = true)
    (he : (allB fun b0 => allB fun b1 => allB fun b2 => allB fun b3 => allB fun b4 => allB fun b5 => allB fun b6 => allB fun b7 => !(Region.ready .any ops #[b0, b1, b2, b3, b4, b5, b6, b7]).isEmpty || (b0 && b1 && b2 && b3 && b4 && b5 && b6 && b7)) = true)
    (h1 : Region.ready .any ops #[true, true, true, true, true, true, true, true] = [])
    (hend : ∀ a w, I true true true true true true true true a w → Q .normal a w)
    (s0 : ∀ b1 b2 b3 b4 b5 b6 b7 a w, I false b1 b2 b3 b4 b5 b6 b7 a w → wpOp P ops Q 0 (I true b1 b2 b3 b4 b5 b6 b7) a w)
    (s1 : ∀ b2 b3 b4 b5 b6 b7 a w, I true false b2 b3 b4 b5 b6 b7 a w → wpOp P ops Q 1 (I true true b2 b3 b4 b5 b6 b7) a w)
    (s2 : ∀ b0 b1 b3 b4 b5 b6 b7 a w, I b0 b1 false b3 b4 b5 b6 b7 a w → wpOp P ops Q 2 (I b0 b1 true b3 b4 b5 b6 b7) a w)
    (s3 : ∀ b0 b4 b5 b6 b7 a w, I b0 true true false b4 b5 b6 b7 a w → wpOp P ops Q 3 (I b0 true true true b4 b5 b6 b7) a w)
    (s4 : ∀ b0 b1 b2 b3 b5 b6 b7 a w, I b0 b1 b2 b3 false b5 b6 b7 a w → wpOp P ops Q 4 (I b0 b1 b2 b3 true b5 b6 b7) a w)
    (s5 : ∀ b0 b1 b2 b3 b4 b6 b7 a w, I b0 b1 b2 b3 b4 false b6 b7 a w → wpOp P ops Q 5 (I b0 b1 b2 b3 b4 true b6 b7) a w)
    (s6 : ∀ b0 b2 b7 a w, I b0 true b2 true true true false b7 a w → wpOp P ops Q 6 (I b0 true b2 true true true true b7) a w)
    (s7 : ∀ b0 b2 a w, I b0 true b2 true true true true false a w → wpOp P ops Q 7 (I b0 true b2 true true true true true) a w) :
    ∀ (fuel : Nat) (b0 b1 b2 b3 b4 b5 b6 b7 : Bool) (a : Act) (w : World), left8 b0 b1 b2 b3 b4 b5 b6 b7 ≤ fuel → I b0 b1 b2 b3 b4 b5 b6 b7 a w → wpAny P .any ops Q fuel #[b0, b1, b2, b3, b4, b5, b6, b7] a w := by
  intro fuel
  induction fuel with
  | zero =>
    intro b0 b1 b2 b3 b4 b5 b6 b7 a w hl hI
    obtain ⟨rfl, rfl, rfl, rfl, rfl, rfl, rfl, rfl⟩ := left8_none (Nat.le_zero.1 hl)
    exact ⟨h1, hend a w hI⟩
  | succ n ih =>
    intro b0 b1 b2 b3 b4 b5 b6 b7 a w hl hI
    refine ⟨fun hn => ?_, fun i hi => ?_⟩
    · have := allB_at (allB_at (allB_at (allB_at (allB_at (allB_at (allB_at (allB_at he b0) b1) b2) b3) b4) b5) b6) b7
      rw [hn] at this
      simp only [List.isEmpty_nil, Bool.not_true, Bool.false_or, Bool.and_eq_true] at this
      obtain ⟨⟨⟨⟨⟨⟨⟨rfl, rfl⟩, rfl⟩, rfl⟩, rfl⟩, rfl⟩, rfl⟩, rfl⟩ := this
      exact hend a w hI
    · have := List.all_eq_true.1 (allB_at (allB_at (allB_at (allB_at (allB_at (allB_at (allB_at (allB_at hr b0) b1) b2) b3) b4) b5) b6) b7) i hi
      clear hr he hi
      match i, this with
      | 0, h =>
        simp only [okReady, Bool.not_eq_true'] at h
        subst h
        exact wpOp_mono (fun a w h => ih true b1 b2 b3 b4 b5 b6 b7 a w (by simp [left8] at hl ⊢; omega) h) (s0 _ _ _ _ _ _ _ a w hI)
      | 1, h =>
        simp only [okReady, Bool.and_eq_true, Bool.not_eq_true'] at h
        obtain ⟨rfl, rfl⟩ := h
        exact wpOp_mono (fun a w h => ih true true b2 b3 b4 b5 b6 b7 a w (by simp [left8] at hl ⊢; omega) h) (s1 _ _ _ _ _ _ a w hI)
      | 2, h =>
        simp only [okReady, Bool.not_eq_true'] at h
        subst h
        exact wpOp_mono (fun a w h => ih b0 b1 true b3 b4 b5 b6 b7 a w (by simp [left8] at hl ⊢; omega) h) (s2 _ _ _ _ _ _ _ a w hI)
      | 3, h =>
        simp only [okReady, Bool.and_eq_true, Bool.not_eq_true'] at h
        obtain ⟨⟨rfl, rfl⟩, rfl⟩ := h
        exact wpOp_mono (fun a w h => ih b0 true true true b4 b5 b6 b7 a w (by simp [left8] at hl ⊢; omega) h) (s3 _ _ _ _ _ a w hI)
      | 4, h =>
        simp only [okReady, Bool.not_eq_true'] at h
        subst h
        exact wpOp_mono (fun a w h => ih b0 b1 b2 b3 true b5 b6 b7 a w (by simp [left8] at hl ⊢; omega) h) (s4 _ _ _ _ _ _ _ a w hI)
      | 5, h =>
        simp only [okReady, Bool.not_eq_true'] at h
        subst h
        exact wpOp_mono (fun a w h => ih b0 b1 b2 b3 b4 true b6 b7 a w (by simp [left8] at hl ⊢; omega) h) (s5 _ _ _ _ _ _ _ a w hI)
      | 6, h =>
        simp only [okReady, Bool.and_eq_true, Bool.not_eq_true'] at h
        obtain ⟨⟨⟨⟨rfl, rfl⟩, rfl⟩, rfl⟩, rfl⟩ := h
        exact wpOp_mono (fun a w h => ih b0 true b2 true true true true b7 a w (by simp [left8] at hl ⊢; omega) h) (s6 _ _ _ a w hI)
      | 7, h =>
        simp only [okReady, Bool.and_eq_true, Bool.not_eq_true'] at h
        obtain ⟨⟨⟨⟨⟨rfl, rfl⟩, rfl⟩, rfl⟩, rfl⟩, rfl⟩ := h
        exact wpOp_mono (fun a w h => ih b0 true b2 true true true true true a w (by simp [left8] at hl ⊢; omega) h) (s7 _ _ a w hI)
      | n + 8, h => simp [okReady] at h
theorem wp_region_eight {id : Nat} {a : Act} {w : World} (hm : P.follows .mixedOrders = true) (hsz : ops.size = 8)
    (hr : (allB fun b0 => allB fun b1 => allB fun b2 => allB fun b3 => allB fun b4 => allB fun b5 => allB fun b6 => allB fun b7 => (Region.ready .any ops #[b0, b1, b2, b3, b4, b5, b6, b7]).all (okReady b0 b1 b2 b3 b4 b5 b6 b7)) = true)
    (he : (allB fun b0 => allB fun b1 => allB fun b2 => allB fun b3 => allB fun b4 => allB fun b5 => allB fun b6 => allB fun b7 => !(Region.ready .any ops #[b0, b1, b2, b3, b4, b5, b6, b7]).isEmpty || (b0 && b1 && b2 && b3 && b4 && b5 && b6 && b7)) = true)
    (h1 : Region.ready .any ops #[true, true, true, true, true, true, true, true] = [])
    (h0 : I false false false false false false false false a w.drew)
    (hend : ∀ a w, I true true true true true true true true a w → Q .normal a w)
    (s0 : ∀ b1 b2 b3 b4 b5 b6 b7 a w, I false b1 b2 b3 b4 b5 b6 b7 a w → wpOp P ops Q 0 (I true b1 b2 b3 b4 b5 b6 b7) a w)
    (s1 : ∀ b2 b3 b4 b5 b6 b7 a w, I true false b2 b3 b4 b5 b6 b7 a w → wpOp P ops Q 1 (I true true b2 b3 b4 b5 b6 b7) a w)
    (s2 : ∀ b0 b1 b3 b4 b5 b6 b7 a w, I b0 b1 false b3 b4 b5 b6 b7 a w → wpOp P ops Q 2 (I b0 b1 true b3 b4 b5 b6 b7) a w)
    (s3 : ∀ b0 b4 b5 b6 b7 a w, I b0 true true false b4 b5 b6 b7 a w → wpOp P ops Q 3 (I b0 true true true b4 b5 b6 b7) a w)
    (s4 : ∀ b0 b1 b2 b3 b5 b6 b7 a w, I b0 b1 b2 b3 false b5 b6 b7 a w → wpOp P ops Q 4 (I b0 b1 b2 b3 true b5 b6 b7) a w)
    (s5 : ∀ b0 b1 b2 b3 b4 b6 b7 a w, I b0 b1 b2 b3 b4 false b6 b7 a w → wpOp P ops Q 5 (I b0 b1 b2 b3 b4 true b6 b7) a w)
    (s6 : ∀ b0 b2 b7 a w, I b0 true b2 true true true false b7 a w → wpOp P ops Q 6 (I b0 true b2 true true true true b7) a w)
    (s7 : ∀ b0 b2 a w, I b0 true b2 true true true true false a w → wpOp P ops Q 7 (I b0 true b2 true true true true true) a w) : (Code.region id ops true).wp P Q a w := by
  refine wp_region_any hm ?_
  rw [hsz]
  exact wpAny_eight hr he h1 hend s0 s1 s2 s3 s4 s5 s6 s7 8 false false false false false false false false a _ (by decide) h0
end

/-- What has been done of the eight, and what has come of it. -/
structure PI (F : Value → Value → Value → Value → Value → Value → Act) (wb : World) (V J D : Value) (Jc Dc Z : Array Value) (t : TypeId) (b0 b1 b2 b3 b4 b5 b6 b7 : Bool) (a : Act) (W : World) (x21 x22 x23 x24 x3 x4 : Value) (k3 k4 : Nat) : Prop where
  frame : a = F x21 x22 x23 x24 x3 x4
  kept : Kept (fun _ => False) wb W
  v21 : b0 = true → x21 = V
  v22 : b1 = true → x22 = J
  v23 : b2 = true → x23 = V
  v24 : b3 = true → x24 = D
  p3 : b4 = true → x3 = .pointer (some ⟨k3, 0, none⟩) ∧ wb.heap.size ≤ k3 ∧ W.heap[k3]? = some (.cells (if b6 then Jc else Z) t (0, 0))
  p4 : b5 = true → x4 = .pointer (some ⟨k4, 0, none⟩) ∧ wb.heap.size ≤ k4 ∧ W.heap[k4]? = some (.cells (if b7 then Dc else Z) t (0, 0))
  n6 : b6 = true → b4 = true
  n7 : b7 = true → b5 = true
  two : b4 = true → b5 = true → k3 ≠ k4
section
variable {F : Value → Value → Value → Value → Value → Value → Act} {wb : World} {V J D : Value} {Jc Dc Z : Array Value} {t : TypeId} {b0 b1 b2 b3 b4 b5 b6 b7 : Bool} {a : Act} {W W' : World} {x21 x22 x23 x24 x3 x4 : Value} {k3 k4 : Nat}
theorem PI.first (a0 : F undef undef undef undef undef undef = a) (hk : Kept (fun _ => False) wb W) : PI F wb V J D Jc Dc Z t false false false false false false false false a W undef undef undef undef undef undef 0 0 :=
  ⟨a0.symm, hk, nofun, nofun, nofun, nofun, nofun, nofun, nofun, nofun, nofun⟩
theorem PI.r0 (h : PI F wb V J D Jc Dc Z t false b1 b2 b3 b4 b5 b6 b7 a W x21 x22 x23 x24 x3 x4 k3 k4) : PI F wb V J D Jc Dc Z t true b1 b2 b3 b4 b5 b6 b7 (F V x22 x23 x24 x3 x4) W V x22 x23 x24 x3 x4 k3 k4 :=
  ⟨rfl, h.kept, fun _ => rfl, h.v22, h.v23, h.v24, h.p3, h.p4, h.n6, h.n7, h.two⟩
theorem PI.r2 (h : PI F wb V J D Jc Dc Z t b0 b1 false b3 b4 b5 b6 b7 a W x21 x22 x23 x24 x3 x4 k3 k4) : PI F wb V J D Jc Dc Z t b0 b1 true b3 b4 b5 b6 b7 (F x21 x22 V x24 x3 x4) W x21 x22 V x24 x3 x4 k3 k4 :=
  ⟨rfl, h.kept, h.v21, h.v22, fun _ => rfl, h.v24, h.p3, h.p4, h.n6, h.n7, h.two⟩
theorem PI.r1 (h : PI F wb V J D Jc Dc Z t b0 false b2 b3 b4 b5 b6 b7 a W x21 x22 x23 x24 x3 x4 k3 k4) (hk : Kept (fun _ => False) W W') : PI F wb V J D Jc Dc Z t b0 true b2 b3 b4 b5 b6 b7 (F x21 J x23 x24 x3 x4) W' x21 J x23 x24 x3 x4 k3 k4 :=
  ⟨rfl, h.kept.trans hk, h.v21, fun _ => rfl, h.v23, h.v24, fun e => ⟨(h.p3 e).1, (h.p3 e).2.1, blk_kept hk id (h.p3 e).2.2⟩, fun e => ⟨(h.p4 e).1, (h.p4 e).2.1, blk_kept hk id (h.p4 e).2.2⟩, h.n6, h.n7, h.two⟩
theorem PI.r3 (h : PI F wb V J D Jc Dc Z t b0 b1 b2 false b4 b5 b6 b7 a W x21 x22 x23 x24 x3 x4 k3 k4) (hk : Kept (fun _ => False) W W') : PI F wb V J D Jc Dc Z t b0 b1 b2 true b4 b5 b6 b7 (F x21 x22 x23 D x3 x4) W' x21 x22 x23 D x3 x4 k3 k4 :=
  ⟨rfl, h.kept.trans hk, h.v21, h.v22, h.v23, fun _ => rfl, fun e => ⟨(h.p3 e).1, (h.p3 e).2.1, blk_kept hk id (h.p3 e).2.2⟩, fun e => ⟨(h.p4 e).1, (h.p4 e).2.1, blk_kept hk id (h.p4 e).2.2⟩, h.n6, h.n7, h.two⟩
theorem PI.r4 (h : PI F wb V J D Jc Dc Z t b0 b1 b2 b3 false b5 b6 b7 a W x21 x22 x23 x24 x3 x4 k3 k4) : PI F wb V J D Jc Dc Z t b0 b1 b2 b3 true b5 b6 b7 (F x21 x22 x23 x24 (.pointer (some ⟨W.heap.size, 0, none⟩)) x4) (W.alloc (.cells Z t)) x21 x22 x23 x24 (.pointer (some ⟨W.heap.size, 0, none⟩)) x4 W.heap.size k4 := by
  have e6 : b6 = false := by cases b6; rfl; exact absurd (h.n6 rfl) (by simp)
  subst e6
  exact ⟨rfl, h.kept.alloc _, h.v21, h.v22, h.v23, h.v24, fun _ => ⟨rfl, h.kept.size, blk_new _ _⟩, fun e => ⟨(h.p4 e).1, (h.p4 e).2.1, blk_alloc (h.p4 e).2.2 _⟩, nofun, h.n7, fun _ e => Ne.symm (Nat.ne_of_lt (blk_lt (h.p4 e).2.2))⟩
theorem PI.r5 (h : PI F wb V J D Jc Dc Z t b0 b1 b2 b3 b4 false b6 b7 a W x21 x22 x23 x24 x3 x4 k3 k4) : PI F wb V J D Jc Dc Z t b0 b1 b2 b3 b4 true b6 b7 (F x21 x22 x23 x24 x3 (.pointer (some ⟨W.heap.size, 0, none⟩))) (W.alloc (.cells Z t)) x21 x22 x23 x24 x3 (.pointer (some ⟨W.heap.size, 0, none⟩)) k3 W.heap.size := by
  have e7 : b7 = false := by cases b7; rfl; exact absurd (h.n7 rfl) (by simp)
  subst e7
  exact ⟨rfl, h.kept.alloc _, h.v21, h.v22, h.v23, h.v24, fun e => ⟨(h.p3 e).1, (h.p3 e).2.1, blk_alloc (h.p3 e).2.2 _⟩, fun _ => ⟨rfl, h.kept.size, blk_new _ _⟩, h.n6, nofun, fun e _ => Nat.ne_of_lt (blk_lt (h.p3 e).2.2)⟩
theorem heap_set2 {W : World} {k g : Nat} {u v : Value} {o : Obj} (hne : k ≠ g) (h : W.heap[g]? = some o) : ((W.setCell ⟨k, 0, none⟩ u).setCell ⟨k, 1, none⟩ v).heap[g]? = some o :=
  (Below.heap_setCell _ _ _ _ hne.symm).trans ((Below.heap_setCell _ _ _ _ hne.symm).trans h)
theorem PI.r6 {u v : Value} (h : PI F wb V J D Jc Dc Z t b0 b1 b2 b3 true true false b7 a W x21 x22 x23 x24 x3 x4 k3 k4) (hZ : (Z.setIfInBounds 0 u).setIfInBounds 1 v = Jc) :
    PI F wb V J D Jc Dc Z t b0 b1 b2 b3 true true true b7 (F x21 x22 x23 x24 x3 x4) ((W.setCell ⟨k3, 0, none⟩ u).setCell ⟨k3, 1, none⟩ v) x21 x22 x23 x24 x3 x4 k3 k4 := by
  have p := h.p3 rfl
  exact ⟨rfl, (h.kept.setNew p.2.1 _).setNew p.2.1 _, h.v21, h.v22, h.v23, h.v24, fun _ => ⟨p.1, p.2.1, by rw [← hZ]; exact blk_set (blk_set p.2.2 u) v⟩, fun e => ⟨(h.p4 e).1, (h.p4 e).2.1, heap_set2 (h.two rfl rfl) (h.p4 e).2.2⟩, fun _ => rfl, fun _ => rfl, fun _ _ => h.two rfl rfl⟩
theorem PI.r7 {u v : Value} (h : PI F wb V J D Jc Dc Z t b0 b1 b2 b3 true true b6 false a W x21 x22 x23 x24 x3 x4 k3 k4) (hZ : (Z.setIfInBounds 0 u).setIfInBounds 1 v = Dc) :
    PI F wb V J D Jc Dc Z t b0 b1 b2 b3 true true b6 true (F x21 x22 x23 x24 x3 x4) ((W.setCell ⟨k4, 0, none⟩ u).setCell ⟨k4, 1, none⟩ v) x21 x22 x23 x24 x3 x4 k3 k4 := by
  have p := h.p4 rfl
  exact ⟨rfl, (h.kept.setNew p.2.1 _).setNew p.2.1 _, h.v21, h.v22, h.v23, h.v24, fun e => ⟨(h.p3 e).1, (h.p3 e).2.1, heap_set2 (Ne.symm (h.two rfl rfl)) (h.p3 e).2.2⟩, fun _ => ⟨p.1, p.2.1, by rw [← hZ]; exact blk_set (blk_set p.2.2 u) v⟩, fun _ => rfl, fun _ => rfl, fun _ _ => h.two rfl rfl⟩
end
end Go.Proofs.YtilkpboegpfijaaDoor
