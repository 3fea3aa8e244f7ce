/- A Space's Runs, gone over. -/
import Derived.Test.YtbmbdidmbdanmaaDoorSp12
import Derived.Test.YtbmbdidmbdanmaaDoorSpP
import Derived.RangeFuncBox
import Derived.RangeFuncLeaves
import Derived.RangeFuncBound
import Derived.RangeFuncCalls
import Derived.RangeFuncWrites
import Derived.RangeFuncNested
import Derived.Shelf.Abstract
import Derived.Shelf.RegionOpen
import Derived.OwnWalkIn
import Derived.TacticsInMore
import Derived.LoopIn
import Derived.LoopNIn
namespace Go.Proofs.YtbmbdidmbdanmaaDoor
open Go.RowKit Go.Shelf
set_option linter.unusedVariables false
set_option linter.unusedSimpArgs false
attribute [local go_sem] Oper.semAt_some
/-- All blocks of cells but those in X are as they were. -/
structure KC (X : Nat → Prop) (w w' : World) : Prop where
  size : w.heap.size ≤ w'.heap.size
  block : ∀ k o, w.heap[k]? = some o → o.isCells = true → ¬ X k → w'.heap[k]? = some o
theorem KC.refl (X : Nat → Prop) (w : World) : KC X w w := ⟨Nat.le_refl _, fun _ _ h _ _ => h⟩
theorem KC.trans {X : Nat → Prop} {a b c : World} (h : KC X a b) (k : KC X b c) : KC X a c := ⟨Nat.le_trans h.size k.size, fun i o hi ho hx => k.block i o (h.block i o hi ho hx) ho hx⟩
theorem KC.of {X S : Nat → Prop} {a b : World} (k : Kept S a b) (h : ∀ i, S i → X i) : KC X a b := ⟨k.size, fun i o hi ho hx => (k.block i (blk_lt hi) (fun hs => hx (h i hs))).trans hi⟩
theorem KC.putObj (X : Nat → Prop) (W : World) (l : Nat) (o o' : Obj) (hl : W.heap[l]? = some o) (ho : o.isCells = false) : KC X W (W.putObj l o') := ⟨by simp, fun i p hi hp _ => by
  have hne : i ≠ l := fun e => by
    rw [e, hl] at hi
    have := Option.some.inj hi
    rw [this] at ho
    rw [hp] at ho
    cases ho
  rw [World.putObj_heap_other hne]
  exact hi⟩
theorem KC.cells {X : Nat → Prop} {w w' : World} (k : KC X w w') {g : Nat} {cs : Array Value} {t : TypeId} {fz : Nat × Nat} (h : w.heap[g]? = some (.cells cs t fz)) (hx : ¬ X g) : w'.heap[g]? = some (.cells cs t fz) := k.block g _ h rfl hx
theorem KC.cell {X : Nat → Prop} {w w' : World} (k : KC X w w') {p : Addr} {v : Value} (h : w.cell? p = some v) (hc : ∃ o, w.heap[p.block]? = some o ∧ o.isCells = true) (hx : ¬ X p.block) : w'.cell? p = some v := by
  obtain ⟨o, ho, hi⟩ := hc
  exact (World.cell?_of_block ((k.block _ _ ho hi hx).trans ho.symm)).trans h
theorem SpAt.kc {g first count : Nat} {u v : Nat → Bool} {res : Nat} {w w' : World} {X : Nat → Prop} (h : SpAt g first count u v res w) (k : KC X w w') (hx : ¬ X g) : SpAt g first count u v res w' :=
  ⟨let ⟨cs, a, b⟩ := h.box; ⟨cs, k.cells a hx, b⟩, h.fits, h.inU, h.inV⟩
/-- The table lies in a block of cells. -/
structure TabB (w : World) : Prop where
  ex : ∃ cs t fz, w.heap[0]? = some (.cells cs t fz)
  tab : Tab w
theorem TabB.kc {X : Nat → Prop} {w w' : World} (h : TabB w) (k : KC X w w') (hx : ¬ X 0) : TabB w' := by
  obtain ⟨cs, t, fz, hb⟩ := h.ex
  exact ⟨⟨cs, t, fz, k.cells hb hx⟩, fun j hj => k.cell (p := ⟨0, j, none⟩) (h.tab j hj) ⟨_, hb, rfl⟩ hx⟩
theorem TabB.of {w : World} (h : Tab w) : TabB w := by
  refine ⟨?_, h⟩
  have h0 := h 0 (by decide)
  unfold World.cell? at h0
  split at h0
  · rename_i cs t fz hb
    exact ⟨cs, t, fz, hb⟩
  all_goals simp_all
theorem TabB.same {w w' : World} (h : TabB w) (k : Same w w') : TabB w' := h.kc (KC.of k (X := fun _ => False) (fun _ h => h)) (fun h => h)
theorem wlIn_store {F : Fence} {n : Nat} {P : Program} {ops : Array Oper} {rest : List Oper} {op : Oper} {a : Act} {w w' : World} {Q : Exit → Act → World → Prop} (ty : TypeId) (x y : Operand) (ho : op.op = .store ty x y) (hgd : op.guard = none) (hds : op.dst = none)
    (p : Value) (hx : a.eval x = p) (cs : Array Value) (hy : a.eval y = .agg cs) (hrun : (Instr.storeAt ty p (.agg cs)).run P w = .ok () w')
    (h : wpListIn F n P ops Q rest a w') : wpListIn F n P ops Q (op :: rest) a w := by
  refine wpListIn_plain hgd fun K hK' => ?_
  unfold Oper.wpIn
  refine ⟨by simp [Oper.about, ho], ?_⟩
  rw [Oper.semAt_plain F _ _ (by rw [ho]; intro c hc'; cases hc')]
  simp only [execOp, ho, hx, hy, hrun, Sem.run_bind, Sem.run_pure, Result.andThen_ok]
  refine hK' _ _ ?_
  rw [hds]
  exact h
/-- A run that ends within. -/
abbrev Rn (count : Nat) := { r : Nat × Nat // r.1 + r.2 ≤ count }
abbrev encR (first : Nat) {count : Nat} (r : Rn count) : Array Value := #[.agg #[.int .i64 ((first : Int) + (r.1.1 : Int)), .int .i64 (r.1.2 : Int)]]
def lf (count : Nat) (l : List (Nat × Nat)) : List (Rn count) := l.filterMap fun r => if h : r.1 + r.2 ≤ count then some ⟨r, h⟩ else none
theorem lf_app (count : Nat) (a b : List (Nat × Nat)) : lf count (a ++ b) = lf count a ++ lf count b := List.filterMap_append
theorem lf_one (count : Nat) (r : Nat × Nat) (h : r.1 + r.2 ≤ count) : lf count [r] = [⟨r, h⟩] := by simp [lf, h]
theorem lf_pre (count : Nat) {a b : List (Nat × Nat)} (h : a <+: b) : lf count a <+: lf count b := by
  obtain ⟨c, rfl⟩ := h
  rw [lf_app]
  exact List.prefix_append _ _
theorem lf_map (count : Nat) : ∀ (l : List (Nat × Nat)), (∀ r ∈ l, r.1 + r.2 ≤ count) → (lf count l).map (·.1) = l
  | [], _ => rfl
  | r :: l, h => by
    have e : lf count (r :: l) = lf count [r] ++ lf count l := lf_app count [r] l
    rw [e, lf_one count r (h r (by simp)), List.map_append, lf_map count l (fun x hx => h x (by simp [hx]))]
    rfl
end Go.Proofs.YtbmbdidmbdanmaaDoor
