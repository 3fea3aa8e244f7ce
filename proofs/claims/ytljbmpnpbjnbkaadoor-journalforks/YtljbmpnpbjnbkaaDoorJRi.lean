/- A loop over an iterator that turns boxes of its own between its rounds: boxes of one type. (RgT turned; made by mkjri.py.) Of no program. -/
import Derived.Test.YtljbmpnpbjnbkaaDoorJC
namespace Go.Proofs.YtljbmpnpbjnbkaaDoor
open Go.RowKit Go.Shelf
set_option linter.unusedVariables false
/-- What such an iterator may turn: no cells, or a box of its type. -/
def Tn (ti : TypeId) (o : Obj) : Prop := o.isCells = false ∨ ∃ cs fz, o = .cells cs ti fz
def OwnI {β : Type} (ti : TypeId) (B : Nat) (I : β → World → Prop) : Prop :=
  ∀ s W W' row, I s W → W.grownBy W' row → (∀ r, row = some r → B ≤ r ∧ ∃ o : Obj, W.heap[r]? = some o ∧ Tn ti o) → I s W'
theorem OwnI.from {β : Type} {ti : TypeId} {B : Nat} {I : β → World → Prop} (h : OwnI ti B I) : OwnFrom B I := fun s W W' row hs hg hr => h s W W' row hs hg (fun r e => by obtain ⟨h1, o, h2, h3⟩ := hr r e; exact ⟨h1, o, h2, .inl h3⟩)
theorem OwnI.putObj {β : Type} {ti : TypeId} {B : Nat} {I : β → World → Prop} (h : OwnI ti B I) {s : β} {W : World} {l : Nat} {o : Obj} (o' : Obj) (hs : I s W) (hB : B ≤ l) (hl : W.heap[l]? = some o) (ho : o.isCells = false) : I s (W.putObj l o') := OwnFrom.putObj h.from o' hs hB hl ho
theorem OwnI.alloc {β : Type} {ti : TypeId} {B : Nat} {I : β → World → Prop} (h : OwnI ti B I) {s : β} {W : World} (o : Obj) (hs : I s W) : I s (W.alloc o) := OwnFrom.alloc h.from o hs
theorem grown_set (W : World) (g j : Nat) (v : Value) : W.grownBy (W.setCell ⟨g, j, none⟩ v) (some g) :=
  ⟨rfl, rfl, rfl, by simp [World.setCell], fun k _ hk => Below.heap_setCell _ _ _ _ (fun e => hk (by rw [e]))⟩
/-- An iterator's contract at one world: as 'SeqAt', its boxes' type given, its entry's world given. -/
def SeqAtI (ti : TypeId) {α : Type} (F : Fence) (n : Nat) (P : Program) (g : Nat) (lb : Array Value) (encs : α → Array Value) (Kp : World → World → Prop) (S Sp : List α → Prop) (N : Nat) (W : World) : Prop :=
  ∀ (l : Nat) (J Jx : List α → World → Prop), OwnI ti W.heap.size J → OwnI ti W.heap.size Jx →
    (∀ pre x W1, J pre W1 → pre.length < N → YieldAt F (n - 1) P l (encs x) W1 fun e W' => (e = .returned (.bool true) ∧ J (pre ++ [x]) W' ∧ Kp W1 W') ∨ (e = .returned (.bool false) ∧ Jx (pre ++ [x]) W' ∧ Kp W1 W')) →
    J [] W → CallsIn F n P g (#[.func (.yield l) #[] #[]] ++ lb) W fun e W' => (∃ v, e = .returned v) ∧ ((∃ xs, S xs ∧ J xs W') ∨ (∃ pre, Sp pre ∧ Jx pre W'))
set_option maxHeartbeats 1000000 in
theorem range_ownI {ti : TypeId} {α : Type} {F : Fence} {n : Nat} {P : Program} {g : Operand} {ps : Array Tmp} {assign body : Code} {Q : Exit → Act → World → Prop} {a : Act} {w : World}
    (hro : F.round = none) (h1 : 1 ≤ n) {gf : Nat} {lb : Array Value} (hg : a.eval g = .func (.func gf) #[] lb) (hFg : F.fn gf) (eg : ∀ args w, (callFunc gf args).run P w = .ok (.enter gf args) w)
    {encs : α → Array Value} {S Sp : List α → Prop} {N : Nat} {T : Nat → TypeId → Prop} (hseq : ∀ W1, Same w W1 → W1.heap.size = w.heap.size + 2 → SeqAtI ti F (n - 1) P gf lb encs (KX T (w.heap.size + 2)) S Sp N W1) (hps : ∀ x, (encs x).size = ps.size)
    (I : List α → World → Prop) (Ix : Code → List α → World → Prop) (hI : OwnI ti w.heap.size I) (hIx : ∀ c, OwnI ti w.heap.size (Ix c)) (h0 : I [] w) (Ax : α → Act → World → Prop) (hAx : ∀ x a', OwnFrom w.heap.size (fun (_ : Unit) W => Ax x a' W))
    (hassign : ∀ (l : Nat) (pre : List α) (x : α) (W : World) (K : Act → World → Prop), I pre W → (∀ a' W', KX T w.heap.size W W' → I pre W' → Ax x a' W' → K a' W') →
      assign.wpIn (F.inRound l) (n - 1 - 1) P (Exit.then K (fun _ _ _ => False)) { tmps := (ps.zip (encs x)).foldl (fun t (p, v) => t.setIfInBounds p v) a.tmps, defers := [] } W)
    (hbody : ∀ (l : Nat) (pre : List α) (x : α) (a' : Act) (W : World), I pre W → Ax x a' W → pre.length < N → body.wpIn (F.inRound l) (n - 1 - 1) P (postX T w.heap.size I Ix (pre ++ [x]) W) a' W)
    (hdone : ∀ (D : Nat) (xs : List α) (W : World), w.heap.size ≤ D → S xs → I xs W → W.heap[D]? = some (.deferred (some [])) → Q .normal { a with defers := { target := .collected D, args := #[] } :: a.defers } W)
    (hstop : ∀ (D : Nat) (c : Code) (pre : List α) (W : World), w.heap.size ≤ D → Sp pre → Ix c pre W → W.heap[D]? = some (.deferred (some [])) → c.wpIn F n P Q { a with defers := { target := .collected D, args := #[] } :: a.defers } W) :
    (Code.rangeFunc g ps assign body).wpIn F n P Q a w := by
  refine wpIn_rangeFunc (fun fn hfn => ?_)
  rw [hro]
  -- the record of this loop, in whatever state
  obtain ⟨R, hR⟩ : ∃ R : LoopState → Option Code → Obj, ∀ st pe, R st pe = .loop { state := st, pending := pe, fn, tmps := a.tmps, params := ps, assign, body, defers := w.heap.size } := ⟨_, fun _ _ => rfl⟩
  obtain ⟨V, hV⟩ : ∃ V, V = (w.alloc (.deferred (some []))).alloc (R .ready none) := ⟨_, rfl⟩
  have vL : V.heap[w.heap.size + 1]? = some (R .ready none) := by
    have := World.alloc_heap_new (w.alloc (.deferred (some []))) (R .ready none)
    rw [World.size_alloc] at this
    rw [hV]
    exact this
  have vD : V.heap[w.heap.size]? = some (.deferred (some [])) := by rw [hV]; exact blk_alloc (blk_new _ _) _
  have vI : I [] V := by rw [hV]; exact hI.alloc _ (hI.alloc _ h0)
  have vS : Same w V := by rw [hV]; exact ((Kept.refl _ w).alloc _).alloc _
  have vN : V.heap.size = w.heap.size + 2 := by rw [hV]; simp
  have nc : ∀ st pe, (R st pe).isCells = false := fun st pe => by rw [hR]; rfl
  have nw : ∀ st pe, (R st pe).isWalk = false := fun st pe => by rw [hR]; rfl
  refine ⟨w.heap.size + 1, [{ target := .collected w.heap.size, args := #[] }], V, { target := .fn (.func gf) lb, args := #[.func (.yield (w.heap.size + 1)) #[] #[]] }, V, gf, #[.func (.yield (w.heap.size + 1)) #[] #[]] ++ lb, V, ?_, ?_, ?_, ?_, fun _ => h1, ?_⟩
  · rw [hV, hR]
    exact run_enterLoop_outer _ _ _ _ _
  · simp only [resolve, hg]
    simp [go_sem]
  · intro f' hf'
    simp [Target.leads] at hf'
    subst hf'
    exact hFg
  · simp [invoke, go_sem, eg]
  · have abide : ∀ {A B : World} {row : Option Nat}, (∀ r, row = some r → V.heap.size ≤ r ∧ ∃ o : Obj, A.heap[r]? = some o ∧ Tn ti o) → ∀ r, row = some r → w.heap.size ≤ r ∧ ∃ o : Obj, A.heap[r]? = some o ∧ Tn ti o := fun h r e => by
      obtain ⟨h2, o, ho, hw⟩ := h r e
      exact ⟨by omega, o, ho, hw⟩
    have stay : ∀ {A B : World} {row : Option Nat} {k : Nat} {o : Obj}, A.grownBy B row → (∀ r, row = some r → V.heap.size ≤ r ∧ ∃ o : Obj, A.heap[r]? = some o ∧ Tn ti o) → k < w.heap.size + 2 → A.heap[k]? = some o → B.heap[k]? = some o := fun hg hr hk ho =>
      (hg.block _ (blk_lt ho) (fun e => by have := (hr _ e.symm).1; omega)).trans ho
    refine (hseq V vS vN (w.heap.size + 1)
      (fun pre W => I pre W ∧ W.heap[w.heap.size + 1]? = some (R .ready none) ∧ W.heap[w.heap.size]? = some (.deferred (some [])))
      (fun pre W => ∃ c, Ix c pre W ∧ W.heap[w.heap.size + 1]? = some (R .done (some c)) ∧ W.heap[w.heap.size]? = some (.deferred (some [])))
      (fun s A B row hs hg' hr => ⟨hI s A B row hs.1 hg' (abide (B := B) hr), stay hg' hr (by omega) hs.2.1, stay hg' hr (by omega) hs.2.2⟩)
      (fun s A B row hs hg' hr => by
        obtain ⟨c, hc, hl, hd⟩ := hs
        exact ⟨c, hIx c s A B row hc hg' (abide (B := B) hr), stay hg' hr (by omega) hl, stay hg' hr (by omega) hd⟩)
      ?_ ⟨vI, vL, vD⟩).mono ?_
    · rintro pre x W ⟨hi, hl, hd⟩ hlen
      have hl' := hl
      rw [hR] at hl'
      refine ⟨fn, _, assign, body, run_yield (P := P) (args := encs x) hl' (hps x), roundIn_of_wpIn hfn (hassign _ pre x W _ hi (fun a' Wa hk hia hax => ?_))⟩
      have la : Wa.heap[w.heap.size + 1]? = some (R .ready none) := hk.walks _ _ (by omega) hl (nc _ _)
      have da : Wa.heap[w.heap.size]? = some (.deferred (some [])) := hk.walks _ _ (Nat.le_refl _) hd rfl
      have la' := la
      rw [hR] at la'
      refine ⟨_, run_beginRound la' rfl, ?_⟩
      obtain ⟨Wb, hWb⟩ : ∃ Wb, Wb = Wa.putObj (w.heap.size + 1) (R .busy none) := ⟨_, rfl⟩
      have lb' : Wb.heap[w.heap.size + 1]? = some (R .busy none) := by rw [hWb]; exact World.putObj_heap_same (blk_lt la)
      have db : Wb.heap[w.heap.size]? = some (.deferred (some [])) := by rw [hWb]; exact (World.putObj_heap_other (by omega)).trans da
      have kb : KX T (w.heap.size + 2) Wa Wb := by rw [hWb]; exact KX.put Wa _ _ la (nc _ _) (by omega)
      have ib : I pre Wb := by rw [hWb]; exact hI.putObj _ hia (by omega) la (nc _ _)
      have ab : Ax x a' Wb := by rw [hWb]; exact (hAx x a').putObj (s := ()) _ hax (by omega) la (nc _ _)
      rw [hR] at hWb
      rw [← hWb]
      refine wpIn_mono (hbody _ pre x a' Wb ib ab hlen) ?_
      have leave : ∀ (jump : Option Code) (W3 : World), KX T w.heap.size Wb W3 →
          (Instr.endRound (w.heap.size + 1) jump).run P W3 = .ok (.bool jump.isNone) (W3.putObj (w.heap.size + 1) (R (if jump.isNone then .ready else .done) jump)) ∧ W3.heap[w.heap.size + 1]? = some (R .busy none) ∧ W3.heap[w.heap.size]? = some (.deferred (some [])) := fun jump W3 h3 => by
        have l3 := h3.walks _ _ (by omega) lb' (nc _ _)
        have l3' := l3
        rw [hR] at l3'
        have := run_endRound (P := P) jump l3'
        rw [hR]
        exact ⟨this, l3, h3.walks _ _ (Nat.le_refl _) db rfl⟩
      have back : ∀ (o : Obj) (W3 : World), W3.heap[w.heap.size + 1]? = some (R .busy none) → W3.heap[w.heap.size]? = some (.deferred (some [])) → (W3.putObj (w.heap.size + 1) o).heap[w.heap.size + 1]? = some o ∧ (W3.putObj (w.heap.size + 1) o).heap[w.heap.size]? = some (.deferred (some [])) := fun o W3 l3 d3 =>
        ⟨World.putObj_heap_same (blk_lt l3), (World.putObj_heap_other (by omega)).trans d3⟩
      have kept : ∀ (o : Obj) (W3 : World), KX T w.heap.size Wb W3 → W3.heap[w.heap.size + 1]? = some (R .busy none) → KX T (w.heap.size + 2) W (W3.putObj (w.heap.size + 1) o) := fun o W3 h3 l3 =>
        (hk.le (by omega) (fun _ _ h => h)).trans ((kb.trans (h3.le (by omega) (fun _ _ h => h))).trans (KX.put W3 _ _ l3 (nc _ _) (by omega)))
      have gone : ∀ (c : Code) (W3 : World), KX T w.heap.size Wb W3 → Ix c (pre ++ [x]) W3 → (∃ c', Ix c' (pre ++ [x]) (W3.putObj (w.heap.size + 1) (R .done (some c))) ∧ (W3.putObj (w.heap.size + 1) (R .done (some c))).heap[w.heap.size + 1]? = some (R .done (some c')) ∧ (W3.putObj (w.heap.size + 1) (R .done (some c))).heap[w.heap.size]? = some (.deferred (some []))) ∧ KX T (w.heap.size + 2) W (W3.putObj (w.heap.size + 1) (R .done (some c))) := fun c W3 h3 hx => by
        obtain ⟨_, l3, d3⟩ := leave (some c) W3 h3
        obtain ⟨b1, b2⟩ := back (R .done (some c)) W3 l3 d3
        exact ⟨⟨c, (hIx c).putObj _ hx (by omega) l3 (nc _ _), b1, b2⟩, kept _ W3 h3 l3⟩
      rintro e a3 W3 hp
      cases e with
      | normal =>
        obtain ⟨h3, i3⟩ := hp
        obtain ⟨hr, l3, d3⟩ := leave none W3 h3
        obtain ⟨b1, b2⟩ := back (R .ready none) W3 l3 d3
        exact ⟨_, _, hr, .inl ⟨rfl, ⟨hI.putObj _ i3 (by omega) l3 (nc _ _), b1, b2⟩, kept _ W3 h3 l3⟩⟩
      | ret => exact ⟨_, _, (leave (some .ret) W3 hp.1).1, .inr ⟨rfl, gone .ret W3 hp.1 hp.2⟩⟩
      | exit id => exact ⟨_, _, (leave (some (.exit id)) W3 hp.1).1, .inr ⟨rfl, gone (.exit id) W3 hp.1 hp.2⟩⟩
      | goto t => exact ⟨_, _, (leave (some (.goto t)) W3 hp.1).1, .inr ⟨rfl, gone (.goto t) W3 hp.1 hp.2⟩⟩
      | panic ch => exact hp.elim
      | outgrown => exact hp.elim
    · rintro e W2 ⟨⟨v, rfl⟩, ⟨xs, hS, hi, hl, hd⟩ | ⟨pre, hSp, c, hi, hl, hd⟩⟩
      · have hl' := hl
        rw [hR] at hl'
        exact ⟨none, _, run_endLoop (P := P) hl' (by simp), hdone _ xs _ (Nat.le_refl _) hS (hI.putObj _ hi (by omega) hl (nc _ _)) ((World.putObj_heap_other (by omega)).trans hd)⟩
      · have hl' := hl
        rw [hR] at hl'
        exact ⟨some c, _, run_endLoop (P := P) hl' (by simp), hstop _ c pre _ (Nat.le_refl _) hSp ((hIx c).putObj _ hi (by omega) hl (nc _ _)) ((World.putObj_heap_other (by omega)).trans hd)⟩
end Go.Proofs.YtljbmpnpbjnbkaaDoor
