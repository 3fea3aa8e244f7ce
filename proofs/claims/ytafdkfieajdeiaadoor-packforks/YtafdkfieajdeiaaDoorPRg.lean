/- A loop over an iterator, whose rounds turn a box and the row that it leads to. (JRg turned; made by mkprg.py.) -/
import Derived.Test.YtafdkfieajdeiaaDoorKR3
import Derived.Test.YtafdkfieajdeiaaDoorK4
import Derived.RangeFuncBox
import Derived.RangeFuncLeaves
import Derived.RangeFuncBound
import Derived.RangeFuncFrom
import Derived.Shelf.Abstract
import Derived.Shelf.RegionOpen
import Derived.OwnWalkIn
import Derived.TacticsInMore
import Derived.LoopIn
import Derived.Maps.AppendAt
namespace Go.Proofs.YtafdkfieajdeiaaDoor
open Go.RowKit Go.Shelf
set_option linter.unusedVariables false
/-- An iterator's contract at one world; what is known of the caller's state besides: Lk. -/
def SeqAtR {α : Type} (F : Fence) (n : Nat) (P : Program) (g : Nat) (lb : Array Value) (encs : α → Array Value) (Kp : World → World → Prop) (Lk : World → Prop) (S Sp : List α → Prop) (N : Nat) (W : World) : Prop :=
  ∀ (l : Nat) (J Jx : List α → World → Prop), OwnFrom W.heap.size J → OwnFrom W.heap.size Jx → (∀ pre W1, J pre W1 → Lk W1) →
    (∀ pre x W1, J pre W1 → pre.length < N → YieldAt F (n - 1) P l (encs x) W1 fun e W' => (e = .returned (.bool true) ∧ J (pre ++ [x]) W' ∧ Kp W1 W') ∨ (e = .returned (.bool false) ∧ Jx (pre ++ [x]) W' ∧ Kp W1 W')) →
    J [] W → CallsIn F n P g (#[.func (.yield l) #[] #[]] ++ lb) W fun e W' => (∃ v, e = .returned v) ∧ ((∃ xs, S xs ∧ J xs W') ∨ (∃ pre, Sp pre ∧ Jx pre W'))
/-- Such relations, by where what is no cells is kept from. -/
structure KFam (KP : Nat → World → World → Prop) : Prop where
  walks : ∀ {X : Nat} {a b : World}, KP X a b → ∀ (k : Nat) (o : Obj), X ≤ k → a.heap[k]? = some o → o.isCells = false → b.heap[k]? = some o
  le : ∀ {X Y : Nat} {a b : World}, KP X a b → X ≤ Y → KP Y a b
  trans : ∀ {X : Nat} {a b c : World}, KP X a b → KP X b c → KP X a c
  put : ∀ {X l : Nat} (W : World) (o o' : Obj), W.heap[l]? = some o → o.isCells = false → o'.isCells = false → l < X → KP X W (W.putObj l o')
def postR {α : Type} (KP : Nat → World → World → Prop) (B : Nat) (I : List α → World → Prop) (Ix : Code → List α → World → Prop) (xs : List α) (W : World) : Exit → Act → World → Prop
  | .normal, _, W' => KP B W W' ∧ I xs W'
  | .ret, _, W' => KP B W W' ∧ Ix .ret xs W'
  | .exit id, _, W' => KP B W W' ∧ Ix (.exit id) xs W'
  | .goto t, _, W' => KP B W W' ∧ Ix (.goto t) xs W'
  | .panic _, _, _ => False
  | .outgrown, _, _ => False
set_option maxHeartbeats 1000000 in
theorem range_ownR {α : Type} {F : Fence} {n : Nat} {P : Program} {g : Operand} {ps : Array Tmp} {assign body : Code} {Q : Exit → Act → World → Prop} {a : Act} {w : World}
    (hro : F.round = none) (h1 : 1 ≤ n) {gf : Nat} {lb : Array Value} (hg : a.eval g = .func (.func gf) #[] lb) (hFg : F.fn gf) (eg : ∀ args w, (callFunc gf args).run P w = .ok (.enter gf args) w)
    {encs : α → Array Value} {S Sp : List α → Prop} {N : Nat} {KP : Nat → World → World → Prop} (hKP : KFam KP) {Lk : World → Prop} (hseq : ∀ W1, Same w W1 → W1.heap.size = w.heap.size + 2 → SeqAtR F (n - 1) P gf lb encs (KP (w.heap.size + 2)) Lk S Sp N W1) (hps : ∀ x, (encs x).size = ps.size)
    (I : List α → World → Prop) (Ix : Code → List α → World → Prop) (hI : OwnFrom w.heap.size I) (hIx : ∀ c, OwnFrom w.heap.size (Ix c)) (h0 : I [] w) (hLk : ∀ pre W, I pre W → Lk W) (Ax : α → Act → World → Prop) (hAx : ∀ x a', OwnFrom w.heap.size (fun (_ : Unit) W => Ax x a' W))
    (hassign : ∀ (l : Nat) (pre : List α) (x : α) (W : World) (K : Act → World → Prop), I pre W → (∀ a' W', KP w.heap.size W W' → I pre W' → Ax x a' W' → K a' W') →
      assign.wpIn (F.inRound l) (n - 1 - 1) P (Exit.then K (fun _ _ _ => False)) { tmps := (ps.zip (encs x)).foldl (fun t (p, v) => t.setIfInBounds p v) a.tmps, defers := [] } W)
    (hbody : ∀ (l : Nat) (pre : List α) (x : α) (a' : Act) (W : World), I pre W → Ax x a' W → pre.length < N → body.wpIn (F.inRound l) (n - 1 - 1) P (postR KP w.heap.size I Ix (pre ++ [x]) W) a' W)
    (hdone : ∀ (D : Nat) (xs : List α) (W : World), w.heap.size ≤ D → S xs → I xs W → W.heap[D]? = some (.deferred (some [])) → Q .normal { a with defers := { target := .collected D, args := #[] } :: a.defers } W)
    (hstop : ∀ (D : Nat) (c : Code) (pre : List α) (W : World), w.heap.size ≤ D → Sp pre → Ix c pre W → W.heap[D]? = some (.deferred (some [])) → c.wpIn F n P Q { a with defers := { target := .collected D, args := #[] } :: a.defers } W) :
    (Code.rangeFunc g ps assign body).wpIn F n P Q a w := by
  refine wpIn_rangeFunc (fun fn hfn => ?_)
  rw [hro]
  -- the record of this loop, in whatever state
  obtain ⟨R, hR⟩ : ∃ R : LoopState → Option Code → Obj, ∀ st pe, R st pe = .loop { state := st, pending := pe, fn, tmps := a.tmps, params := ps, assign, body, defers := w.heap.size } := ⟨_, fun _ _ => rfl⟩
  obtain ⟨V, hV⟩ : ∃ V, V = (w.alloc (.deferred (some []))).alloc (R .ready none) := ⟨_, rfl⟩
  have vL : V.heap[w.heap.size + 1]? = some (R .ready none) := by
    have := World.alloc_heap_new (w.alloc (.deferred (some []))) (R .ready none)
    rw [World.size_alloc] at this
    rw [hV]
    exact this
  have vD : V.heap[w.heap.size]? = some (.deferred (some [])) := by rw [hV]; exact blk_alloc (blk_new _ _) _
  have vI : I [] V := by rw [hV]; exact hI.alloc _ (hI.alloc _ h0)
  have vS : Same w V := by rw [hV]; exact ((Kept.refl _ w).alloc _).alloc _
  have vN : V.heap.size = w.heap.size + 2 := by rw [hV]; simp
  have nc : ∀ st pe, (R st pe).isCells = false := fun st pe => by rw [hR]; rfl
  have nw : ∀ st pe, (R st pe).isWalk = false := fun st pe => by rw [hR]; rfl
  refine ⟨w.heap.size + 1, [{ target := .collected w.heap.size, args := #[] }], V, { target := .fn (.func gf) lb, args := #[.func (.yield (w.heap.size + 1)) #[] #[]] }, V, gf, #[.func (.yield (w.heap.size + 1)) #[] #[]] ++ lb, V, ?_, ?_, ?_, ?_, fun _ => h1, ?_⟩
  · rw [hV, hR]
    exact run_enterLoop_outer _ _ _ _ _
  · simp only [resolve, hg]
    simp [go_sem]
  · intro f' hf'
    simp [Target.leads] at hf'
    subst hf'
    exact hFg
  · simp [invoke, go_sem, eg]
  · have abide : ∀ {A B : World} {row : Option Nat}, (∀ r, row = some r → V.heap.size ≤ r ∧ ∃ o : Obj, A.heap[r]? = some o ∧ o.isCells = false) → ∀ r, row = some r → w.heap.size ≤ r ∧ ∃ o : Obj, A.heap[r]? = some o ∧ o.isCells = false := fun h r e => by
      obtain ⟨h2, o, ho, hw⟩ := h r e
      exact ⟨by omega, o, ho, hw⟩
    have stay : ∀ {A B : World} {row : Option Nat} {k : Nat} {o : Obj}, A.grownBy B row → (∀ r, row = some r → V.heap.size ≤ r ∧ ∃ o : Obj, A.heap[r]? = some o ∧ o.isCells = false) → k < w.heap.size + 2 → A.heap[k]? = some o → B.heap[k]? = some o := fun hg hr hk ho =>
      (hg.block _ (blk_lt ho) (fun e => by have := (hr _ e.symm).1; omega)).trans ho
    refine (hseq V vS vN (w.heap.size + 1)
      (fun pre W => I pre W ∧ W.heap[w.heap.size + 1]? = some (R .ready none) ∧ W.heap[w.heap.size]? = some (.deferred (some [])))
      (fun pre W => ∃ c, Ix c pre W ∧ W.heap[w.heap.size + 1]? = some (R .done (some c)) ∧ W.heap[w.heap.size]? = some (.deferred (some [])))
      (fun s A B row hs hg' hr => ⟨hI s A B row hs.1 hg' (abide (B := B) hr), stay hg' hr (by omega) hs.2.1, stay hg' hr (by omega) hs.2.2⟩)
      (fun s A B row hs hg' hr => by
        obtain ⟨c, hc, hl, hd⟩ := hs
        exact ⟨c, hIx c s A B row hc hg' (abide (B := B) hr), stay hg' hr (by omega) hl, stay hg' hr (by omega) hd⟩)
      (fun pre W h => hLk pre W h.1) ?_ ⟨vI, vL, vD⟩).mono ?_
    · rintro pre x W ⟨hi, hl, hd⟩ hlen
      have hl' := hl
      rw [hR] at hl'
      refine ⟨fn, _, assign, body, run_yield (P := P) (args := encs x) hl' (hps x), roundIn_of_wpIn hfn (hassign _ pre x W _ hi (fun a' Wa hk hia hax => ?_))⟩
      have la : Wa.heap[w.heap.size + 1]? = some (R .ready none) := hKP.walks hk _ _ (by omega) hl (nc _ _)
      have da : Wa.heap[w.heap.size]? = some (.deferred (some [])) := hKP.walks hk _ _ (Nat.le_refl _) hd rfl
      have la' := la
      rw [hR] at la'
      refine ⟨_, run_beginRound la' rfl, ?_⟩
      obtain ⟨Wb, hWb⟩ : ∃ Wb, Wb = Wa.putObj (w.heap.size + 1) (R .busy none) := ⟨_, rfl⟩
      have lb' : Wb.heap[w.heap.size + 1]? = some (R .busy none) := by rw [hWb]; exact World.putObj_heap_same (blk_lt la)
      have db : Wb.heap[w.heap.size]? = some (.deferred (some [])) := by rw [hWb]; exact (World.putObj_heap_other (by omega)).trans da
      have kb : KP (w.heap.size + 2) Wa Wb := by rw [hWb]; exact hKP.put Wa _ _ la (nc _ _) (nc _ _) (by omega)
      have ib : I pre Wb := by rw [hWb]; exact hI.putObj _ hia (by omega) la (nc _ _)
      have ab : Ax x a' Wb := by rw [hWb]; exact (hAx x a').putObj (s := ()) _ hax (by omega) la (nc _ _)
      rw [hR] at hWb
      rw [← hWb]
      refine wpIn_mono (hbody _ pre x a' Wb ib ab hlen) ?_
      have leave : ∀ (jump : Option Code) (W3 : World), KP w.heap.size Wb W3 →
          (Instr.endRound (w.heap.size + 1) jump).run P W3 = .ok (.bool jump.isNone) (W3.putObj (w.heap.size + 1) (R (if jump.isNone then .ready else .done) jump)) ∧ W3.heap[w.heap.size + 1]? = some (R .busy none) ∧ W3.heap[w.heap.size]? = some (.deferred (some [])) := fun jump W3 h3 => by
        have l3 := hKP.walks h3 _ _ (by omega) lb' (nc _ _)
        have l3' := l3
        rw [hR] at l3'
        have := run_endRound (P := P) jump l3'
        rw [hR]
        exact ⟨this, l3, hKP.walks h3 _ _ (Nat.le_refl _) db rfl⟩
      have back : ∀ (o : Obj) (W3 : World), W3.heap[w.heap.size + 1]? = some (R .busy none) → W3.heap[w.heap.size]? = some (.deferred (some [])) → (W3.putObj (w.heap.size + 1) o).heap[w.heap.size + 1]? = some o ∧ (W3.putObj (w.heap.size + 1) o).heap[w.heap.size]? = some (.deferred (some [])) := fun o W3 l3 d3 =>
        ⟨World.putObj_heap_same (blk_lt l3), (World.putObj_heap_other (by omega)).trans d3⟩
      have kept : ∀ (o : Obj) (W3 : World), o.isCells = false → KP w.heap.size Wb W3 → W3.heap[w.heap.size + 1]? = some (R .busy none) → KP (w.heap.size + 2) W (W3.putObj (w.heap.size + 1) o) := fun o W3 ho3 h3 l3 =>
        hKP.trans (hKP.le hk (by omega)) (hKP.trans (hKP.trans kb (hKP.le h3 (by omega))) (hKP.put W3 _ _ l3 (nc _ _) ho3 (by omega)))
      have gone : ∀ (c : Code) (W3 : World), KP w.heap.size Wb W3 → Ix c (pre ++ [x]) W3 → (∃ c', Ix c' (pre ++ [x]) (W3.putObj (w.heap.size + 1) (R .done (some c))) ∧ (W3.putObj (w.heap.size + 1) (R .done (some c))).heap[w.heap.size + 1]? = some (R .done (some c')) ∧ (W3.putObj (w.heap.size + 1) (R .done (some c))).heap[w.heap.size]? = some (.deferred (some []))) ∧ KP (w.heap.size + 2) W (W3.putObj (w.heap.size + 1) (R .done (some c))) := fun c W3 h3 hx => by
        obtain ⟨_, l3, d3⟩ := leave (some c) W3 h3
        obtain ⟨b1, b2⟩ := back (R .done (some c)) W3 l3 d3
        exact ⟨⟨c, (hIx c).putObj _ hx (by omega) l3 (nc _ _), b1, b2⟩, kept _ W3 (nc _ _) h3 l3⟩
      rintro e a3 W3 hp
      cases e with
      | normal =>
        obtain ⟨h3, i3⟩ := hp
        obtain ⟨hr, l3, d3⟩ := leave none W3 h3
        obtain ⟨b1, b2⟩ := back (R .ready none) W3 l3 d3
        exact ⟨_, _, hr, .inl ⟨rfl, ⟨hI.putObj _ i3 (by omega) l3 (nc _ _), b1, b2⟩, kept _ W3 (nc _ _) h3 l3⟩⟩
      | ret => exact ⟨_, _, (leave (some .ret) W3 hp.1).1, .inr ⟨rfl, gone .ret W3 hp.1 hp.2⟩⟩
      | exit id => exact ⟨_, _, (leave (some (.exit id)) W3 hp.1).1, .inr ⟨rfl, gone (.exit id) W3 hp.1 hp.2⟩⟩
      | goto t => exact ⟨_, _, (leave (some (.goto t)) W3 hp.1).1, .inr ⟨rfl, gone (.goto t) W3 hp.1 hp.2⟩⟩
      | panic ch => exact hp.elim
      | outgrown => exact hp.elim
    · rintro e W2 ⟨⟨v, rfl⟩, ⟨xs, hS, hi, hl, hd⟩ | ⟨pre, hSp, c, hi, hl, hd⟩⟩
      · have hl' := hl
        rw [hR] at hl'
        exact ⟨none, _, run_endLoop (P := P) hl' (by simp), hdone _ xs _ (Nat.le_refl _) hS (hI.putObj _ hi (by omega) hl (nc _ _)) ((World.putObj_heap_other (by omega)).trans hd)⟩
      · have hl' := hl
        rw [hR] at hl'
        exact ⟨some c, _, run_endLoop (P := P) hl' (by simp), hstop _ c pre _ (Nat.le_refl _) hSp ((hIx c).putObj _ hi (by omega) hl (nc _ _)) ((World.putObj_heap_other (by omega)).trans hd)⟩
/-- All cells are kept but the box H's, and those of the row that it leads to; its row is as it was, or new. -/
structure KR (H X : Nat) (w w' : World) : Prop where
  size : w.heap.size ≤ w'.heap.size
  cells : ∀ (k : Nat) (cs : Array Value) (t : TypeId) (fz : Nat × Nat), w.heap[k]? = some (.cells cs t fz) → k ≠ H → rowOf w H 0 ≠ some k → w'.heap[k]? = some (.cells cs t fz)
  row : ∀ r, rowOf w' H 0 = some r → rowOf w H 0 = some r ∨ w.heap.size ≤ r
  walks : ∀ (k : Nat) (o : Obj), X ≤ k → w.heap[k]? = some o → o.isCells = false → w'.heap[k]? = some o
theorem KR.refl (H X : Nat) (w : World) : KR H X w w := ⟨Nat.le_refl _, fun _ _ _ _ h _ _ => h, fun _ h => .inl h, fun _ _ _ h _ => h⟩
theorem KR.trans {H X : Nat} {a b c : World} (h : KR H X a b) (k : KR H X b c) : KR H X a c :=
  ⟨Nat.le_trans h.size k.size, fun i cs t fz hi hH hr => k.cells i cs t fz (h.cells i cs t fz hi hH hr) hH (fun e => by
    rcases h.row i e with g | g
    · exact hr g
    · have := blk_lt hi; omega), fun r hr => by
    rcases k.row r hr with g | g
    · exact h.row r g
    · exact .inr (Nat.le_trans h.size g), fun i o hx hi ho => k.walks i o hx (h.walks i o hx hi ho) ho⟩
theorem KR.of {H X : Nat} {a b : World} (hH : H < a.heap.size) (k : Same a b) : KR H X a b :=
  ⟨k.size, fun i cs t fz hi _ _ => (k.block i (blk_lt hi) (fun h => h)).trans hi, fun r hr => .inl (by rw [rowOf_same hH k] at hr; exact hr), fun i o _ hi _ => (k.block i (blk_lt hi) (fun h => h)).trans hi⟩
theorem rowOf_put {W : World} {l H j : Nat} {o o' : Obj} (hl : W.heap[l]? = some o) (ho : o.isCells = false) (ho' : o'.isCells = false) : rowOf (W.putObj l o') H j = rowOf W H j := by
  unfold rowOf
  by_cases e : H = l
  · subst e
    have h1 : (W.putObj H o').heap[H]? = some o' := World.putObj_heap_same (blk_lt hl)
    have n : ∀ {V : World} {q : Obj}, V.heap[H]? = some q → q.isCells = false → V.cell? ⟨H, j, none⟩ = none := fun {V q} h hq => by
      unfold World.cell?
      rw [h]
      cases q <;> first | rfl | (simp [Obj.isCells] at hq)
    rw [n h1 ho', n hl ho]
  · rw [World.cell?_of_block (show (W.putObj l o').heap[(⟨H, j, none⟩ : Addr).block]? = W.heap[(⟨H, j, none⟩ : Addr).block]? from World.putObj_heap_other e)]
theorem kfam (H : Nat) : KFam (KR H) where
  walks h := h.walks
  le h hxy := ⟨h.size, h.cells, h.row, fun i o hy hi ho => h.walks i o (Nat.le_trans hxy hy) hi ho⟩
  trans h k := h.trans k
  put W o o' hl ho ho' hx := ⟨by simp, fun i cs t fz hi _ _ => by
    have hne : i ≠ _ := fun e => by rw [e, hl] at hi; cases hi; cases ho
    rw [World.putObj_heap_other hne]
    exact hi, fun r hr => .inl (by rw [rowOf_put hl ho ho'] at hr; exact hr), fun i p hi hp _ => by rw [World.putObj_heap_other (by omega)]; exact hp⟩
/-- What is known of the box H all along. -/
structure LkH (H : Nat) (W : World) : Prop where
  lt : H < W.heap.size
  row : ∀ r, rowOf W H 0 = some r → r < W.heap.size
theorem grown_same {a b : World} (k : Same a b) : a.grownBy b none := ⟨k.os, k.tape, k.output, k.size, fun i hi _ => k.block i hi (fun h => h)⟩
theorem same_of_below {w W : World} (h : Below w.heap.size w W) : Same w W := ⟨h.os, h.tape, h.output, h.size, fun k hk _ => h.block k hk⟩
end Go.Proofs.YtafdkfieajdeiaaDoor
