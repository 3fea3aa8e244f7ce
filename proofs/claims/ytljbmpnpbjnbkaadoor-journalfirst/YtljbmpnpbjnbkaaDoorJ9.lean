/- journal's right, gone over: the rooms ahead of the first sector that is not right. -/
import Derived.Test.YtljbmpnpbjnbkaaDoorJC
/- journal's right, gone over: the rooms ahead of the first sector that is not right. -/
namespace Go.Proofs.YtljbmpnpbjnbkaaDoor
open Go.RowKit Go.Shelf
set_option linter.unusedVariables false
set_option linter.unusedSimpArgs false
attribute [local go_sem] Oper.semAt_some
/-- Where a room lies in its image. -/
abbrev encU (n : Nat) (img : List UInt8) (b off : Nat) {m : Nat} (x : Fin m) : Array Value := #[.slice (some ⟨b, off + x.val * n + 24, none⟩) (usedJ (secP n x.val img)) (n - 24)]
set_option maxHeartbeats 1000000 in
set_option maxRecDepth 100000 in
theorem right_fn (n gen : Nat) (ao : Option Addr) (L cap : Nat) (w : World) : Calls Tryd.prog 42 #[.int .i64 n, .int .u64 gen, .slice ao L cap] w fun e w' => ∃ B, e = .returned (.func (.func 52) #[] #[.pointer (some ⟨B + 2, 0, none⟩), .pointer (some ⟨B, 0, none⟩), .pointer (some ⟨B + 1, 0, none⟩)]) ∧ w.heap.size ≤ B ∧ w'.heap[B]? = some (.cells #[.int .i64 n] 3 (0, 0)) ∧ w'.heap[B + 1]? = some (.cells #[.int .u64 gen] 22 (0, 0)) ∧ w'.heap[B + 2]? = some (.cells #[.slice ao L cap] 39 (0, 0)) ∧ Same w w' := by
  go_enter Tryd.func42, Tryd.ntmps42
  go_wp2
  go_returns
  refine ⟨w.heap.size, by simp, by simp, blk_alloc (blk_alloc (blk_new _ _) _) _, blk_alloc ?_ _, ?_, (((Kept.refl _ w).alloc _).alloc _).alloc _⟩
  · have := blk_new (w.alloc (.cells #[.int .i64 n] 3)) (.cells #[.int .u64 gen] 22); simpa using this
  · have := blk_new ((w.alloc (.cells #[.int .i64 n] 3)).alloc (.cells #[.int .u64 gen] 22)) (.cells #[.slice ao L cap] 39); simpa using this
end Go.Proofs.YtljbmpnpbjnbkaaDoor
/- A loop over an iterator that turns boxes of its own between its rounds: boxes of one type. (RgT turned; made by mkjri.py.) Of no program. -/
namespace Go.Proofs.YtljbmpnpbjnbkaaDoor
open Go.RowKit Go.Shelf
set_option linter.unusedVariables false
/-- What such an iterator may turn: no cells, or a box of its type. -/
def Tn (ti : TypeId) (o : Obj) : Prop := o.isCells = false ∨ ∃ cs fz, o = .cells cs ti fz
def OwnI {β : Type} (ti : TypeId) (B : Nat) (I : β → World → Prop) : Prop :=
  ∀ s W W' row, I s W → W.grownBy W' row → (∀ r, row = some r → B ≤ r ∧ ∃ o : Obj, W.heap[r]? = some o ∧ Tn ti o) → I s W'
theorem OwnI.from {β : Type} {ti : TypeId} {B : Nat} {I : β → World → Prop} (h : OwnI ti B I) : OwnFrom B I := fun s W W' row hs hg hr => h s W W' row hs hg (fun r e => by obtain ⟨h1, o, h2, h3⟩ := hr r e; exact ⟨h1, o, h2, .inl h3⟩)
theorem OwnI.putObj {β : Type} {ti : TypeId} {B : Nat} {I : β → World → Prop} (h : OwnI ti B I) {s : β} {W : World} {l : Nat} {o : Obj} (o' : Obj) (hs : I s W) (hB : B ≤ l) (hl : W.heap[l]? = some o) (ho : o.isCells = false) : I s (W.putObj l o') := OwnFrom.putObj h.from o' hs hB hl ho
theorem OwnI.alloc {β : Type} {ti : TypeId} {B : Nat} {I : β → World → Prop} (h : OwnI ti B I) {s : β} {W : World} (o : Obj) (hs : I s W) : I s (W.alloc o) := OwnFrom.alloc h.from o hs
theorem grown_set (W : World) (g j : Nat) (v : Value) : W.grownBy (W.setCell ⟨g, j, none⟩ v) (some g) :=
  ⟨rfl, rfl, rfl, by simp [World.setCell], fun k _ hk => Below.heap_setCell _ _ _ _ (fun e => hk (by rw [e]))⟩
/-- An iterator's contract at one world: as 'SeqAt', its boxes' type given, its entry's world given. -/
def SeqAtI (ti : TypeId) {α : Type} (F : Fence) (n : Nat) (P : Program) (g : Nat) (lb : Array Value) (encs : α → Array Value) (Kp : World → World → Prop) (S Sp : List α → Prop) (N : Nat) (W : World) : Prop :=
  ∀ (l : Nat) (J Jx : List α → World → Prop), OwnI ti W.heap.size J → OwnI ti W.heap.size Jx →
    (∀ pre x W1, J pre W1 → pre.length < N → YieldAt F (n - 1) P l (encs x) W1 fun e W' => (e = .returned (.bool true) ∧ J (pre ++ [x]) W' ∧ Kp W1 W') ∨ (e = .returned (.bool false) ∧ Jx (pre ++ [x]) W' ∧ Kp W1 W')) →
    J [] W → CallsIn F n P g (#[.func (.yield l) #[] #[]] ++ lb) W fun e W' => (∃ v, e = .returned v) ∧ ((∃ xs, S xs ∧ J xs W') ∨ (∃ pre, Sp pre ∧ Jx pre W'))
set_option maxHeartbeats 1000000 in
theorem range_ownI {ti : TypeId} {α : Type} {F : Fence} {n : Nat} {P : Program} {g : Operand} {ps : Array Tmp} {assign body : Code} {Q : Exit → Act → World → Prop} {a : Act} {w : World}
    (hro : F.round = none) (h1 : 1 ≤ n) {gf : Nat} {lb : Array Value} (hg : a.eval g = .func (.func gf) #[] lb) (hFg : F.fn gf) (eg : ∀ args w, (callFunc gf args).run P w = .ok (.enter gf args) w)
    {encs : α → Array Value} {S Sp : List α → Prop} {N : Nat} {T : Nat → TypeId → Prop} (hseq : ∀ W1, Same w W1 → W1.heap.size = w.heap.size + 2 → SeqAtI ti F (n - 1) P gf lb encs (KX T (w.heap.size + 2)) S Sp N W1) (hps : ∀ x, (encs x).size = ps.size)
    (I : List α → World → Prop) (Ix : Code → List α → World → Prop) (hI : OwnI ti w.heap.size I) (hIx : ∀ c, OwnI ti w.heap.size (Ix c)) (h0 : I [] w) (Ax : α → Act → World → Prop) (hAx : ∀ x a', OwnFrom w.heap.size (fun (_ : Unit) W => Ax x a' W))
    (hassign : ∀ (l : Nat) (pre : List α) (x : α) (W : World) (K : Act → World → Prop), I pre W → (∀ a' W', KX T w.heap.size W W' → I pre W' → Ax x a' W' → K a' W') →
      assign.wpIn (F.inRound l) (n - 1 - 1) P (Exit.then K (fun _ _ _ => False)) { tmps := (ps.zip (encs x)).foldl (fun t (p, v) => t.setIfInBounds p v) a.tmps, defers := [] } W)
    (hbody : ∀ (l : Nat) (pre : List α) (x : α) (a' : Act) (W : World), I pre W → Ax x a' W → pre.length < N → body.wpIn (F.inRound l) (n - 1 - 1) P (postX T w.heap.size I Ix (pre ++ [x]) W) a' W)
    (hdone : ∀ (D : Nat) (xs : List α) (W : World), w.heap.size ≤ D → S xs → I xs W → W.heap[D]? = some (.deferred (some [])) → Q .normal { a with defers := { target := .collected D, args := #[] } :: a.defers } W)
    (hstop : ∀ (D : Nat) (c : Code) (pre : List α) (W : World), w.heap.size ≤ D → Sp pre → Ix c pre W → W.heap[D]? = some (.deferred (some [])) → c.wpIn F n P Q { a with defers := { target := .collected D, args := #[] } :: a.defers } W) :
    (Code.rangeFunc g ps assign body).wpIn F n P Q a w := by
  refine wpIn_rangeFunc (fun fn hfn => ?_)
  rw [hro]
  -- the record of this loop, in whatever state
  obtain ⟨R, hR⟩ : ∃ R : LoopState → Option Code → Obj, ∀ st pe, R st pe = .loop { state := st, pending := pe, fn, tmps := a.tmps, params := ps, assign, body, defers := w.heap.size } := ⟨_, fun _ _ => rfl⟩
  obtain ⟨V, hV⟩ : ∃ V, V = (w.alloc (.deferred (some []))).alloc (R .ready none) := ⟨_, rfl⟩
  have vL : V.heap[w.heap.size + 1]? = some (R .ready none) := by
    have := World.alloc_heap_new (w.alloc (.deferred (some []))) (R .ready none)
    rw [World.size_alloc] at this
    rw [hV]
    exact this
  have vD : V.heap[w.heap.size]? = some (.deferred (some [])) := by rw [hV]; exact blk_alloc (blk_new _ _) _
  have vI : I [] V := by rw [hV]; exact hI.alloc _ (hI.alloc _ h0)
  have vS : Same w V := by rw [hV]; exact ((Kept.refl _ w).alloc _).alloc _
  have vN : V.heap.size = w.heap.size + 2 := by rw [hV]; simp
  have nc : ∀ st pe, (R st pe).isCells = false := fun st pe => by rw [hR]; rfl
  have nw : ∀ st pe, (R st pe).isWalk = false := fun st pe => by rw [hR]; rfl
  refine ⟨w.heap.size + 1, [{ target := .collected w.heap.size, args := #[] }], V, { target := .fn (.func gf) lb, args := #[.func (.yield (w.heap.size + 1)) #[] #[]] }, V, gf, #[.func (.yield (w.heap.size + 1)) #[] #[]] ++ lb, V, ?_, ?_, ?_, ?_, fun _ => h1, ?_⟩
  · rw [hV, hR]
    exact run_enterLoop_outer _ _ _ _ _
  · simp only [resolve, hg]
    simp [go_sem]
  · intro f' hf'
    simp [Target.leads] at hf'
    subst hf'
    exact hFg
  · simp [invoke, go_sem, eg]
  · have abide : ∀ {A B : World} {row : Option Nat}, (∀ r, row = some r → V.heap.size ≤ r ∧ ∃ o : Obj, A.heap[r]? = some o ∧ Tn ti o) → ∀ r, row = some r → w.heap.size ≤ r ∧ ∃ o : Obj, A.heap[r]? = some o ∧ Tn ti o := fun h r e => by
      obtain ⟨h2, o, ho, hw⟩ := h r e
      exact ⟨by omega, o, ho, hw⟩
    have stay : ∀ {A B : World} {row : Option Nat} {k : Nat} {o : Obj}, A.grownBy B row → (∀ r, row = some r → V.heap.size ≤ r ∧ ∃ o : Obj, A.heap[r]? = some o ∧ Tn ti o) → k < w.heap.size + 2 → A.heap[k]? = some o → B.heap[k]? = some o := fun hg hr hk ho =>
      (hg.block _ (blk_lt ho) (fun e => by have := (hr _ e.symm).1; omega)).trans ho
    refine (hseq V vS vN (w.heap.size + 1)
      (fun pre W => I pre W ∧ W.heap[w.heap.size + 1]? = some (R .ready none) ∧ W.heap[w.heap.size]? = some (.deferred (some [])))
      (fun pre W => ∃ c, Ix c pre W ∧ W.heap[w.heap.size + 1]? = some (R .done (some c)) ∧ W.heap[w.heap.size]? = some (.deferred (some [])))
      (fun s A B row hs hg' hr => ⟨hI s A B row hs.1 hg' (abide (B := B) hr), stay hg' hr (by omega) hs.2.1, stay hg' hr (by omega) hs.2.2⟩)
      (fun s A B row hs hg' hr => by
        obtain ⟨c, hc, hl, hd⟩ := hs
        exact ⟨c, hIx c s A B row hc hg' (abide (B := B) hr), stay hg' hr (by omega) hl, stay hg' hr (by omega) hd⟩)
      ?_ ⟨vI, vL, vD⟩).mono ?_
    · rintro pre x W ⟨hi, hl, hd⟩ hlen
      have hl' := hl
      rw [hR] at hl'
      refine ⟨fn, _, assign, body, run_yield (P := P) (args := encs x) hl' (hps x), roundIn_of_wpIn hfn (hassign _ pre x W _ hi (fun a' Wa hk hia hax => ?_))⟩
      have la : Wa.heap[w.heap.size + 1]? = some (R .ready none) := hk.walks _ _ (by omega) hl (nc _ _)
      have da : Wa.heap[w.heap.size]? = some (.deferred (some [])) := hk.walks _ _ (Nat.le_refl _) hd rfl
      have la' := la
      rw [hR] at la'
      refine ⟨_, run_beginRound la' rfl, ?_⟩
      obtain ⟨Wb, hWb⟩ : ∃ Wb, Wb = Wa.putObj (w.heap.size + 1) (R .busy none) := ⟨_, rfl⟩
      have lb' : Wb.heap[w.heap.size + 1]? = some (R .busy none) := by rw [hWb]; exact World.putObj_heap_same (blk_lt la)
      have db : Wb.heap[w.heap.size]? = some (.deferred (some [])) := by rw [hWb]; exact (World.putObj_heap_other (by omega)).trans da
      have kb : KX T (w.heap.size + 2) Wa Wb := by rw [hWb]; exact KX.put Wa _ _ la (nc _ _) (by omega)
      have ib : I pre Wb := by rw [hWb]; exact hI.putObj _ hia (by omega) la (nc _ _)
      have ab : Ax x a' Wb := by rw [hWb]; exact (hAx x a').putObj (s := ()) _ hax (by omega) la (nc _ _)
      rw [hR] at hWb
      rw [← hWb]
      refine wpIn_mono (hbody _ pre x a' Wb ib ab hlen) ?_
      have leave : ∀ (jump : Option Code) (W3 : World), KX T w.heap.size Wb W3 →
          (Instr.endRound (w.heap.size + 1) jump).run P W3 = .ok (.bool jump.isNone) (W3.putObj (w.heap.size + 1) (R (if jump.isNone then .ready else .done) jump)) ∧ W3.heap[w.heap.size + 1]? = some (R .busy none) ∧ W3.heap[w.heap.size]? = some (.deferred (some [])) := fun jump W3 h3 => by
        have l3 := h3.walks _ _ (by omega) lb' (nc _ _)
        have l3' := l3
        rw [hR] at l3'
        have := run_endRound (P := P) jump l3'
        rw [hR]
        exact ⟨this, l3, h3.walks _ _ (Nat.le_refl _) db rfl⟩
      have back : ∀ (o : Obj) (W3 : World), W3.heap[w.heap.size + 1]? = some (R .busy none) → W3.heap[w.heap.size]? = some (.deferred (some [])) → (W3.putObj (w.heap.size + 1) o).heap[w.heap.size + 1]? = some o ∧ (W3.putObj (w.heap.size + 1) o).heap[w.heap.size]? = some (.deferred (some [])) := fun o W3 l3 d3 =>
        ⟨World.putObj_heap_same (blk_lt l3), (World.putObj_heap_other (by omega)).trans d3⟩
      have kept : ∀ (o : Obj) (W3 : World), KX T w.heap.size Wb W3 → W3.heap[w.heap.size + 1]? = some (R .busy none) → KX T (w.heap.size + 2) W (W3.putObj (w.heap.size + 1) o) := fun o W3 h3 l3 =>
        (hk.le (by omega) (fun _ _ h => h)).trans ((kb.trans (h3.le (by omega) (fun _ _ h => h))).trans (KX.put W3 _ _ l3 (nc _ _) (by omega)))
      have gone : ∀ (c : Code) (W3 : World), KX T w.heap.size Wb W3 → Ix c (pre ++ [x]) W3 → (∃ c', Ix c' (pre ++ [x]) (W3.putObj (w.heap.size + 1) (R .done (some c))) ∧ (W3.putObj (w.heap.size + 1) (R .done (some c))).heap[w.heap.size + 1]? = some (R .done (some c')) ∧ (W3.putObj (w.heap.size + 1) (R .done (some c))).heap[w.heap.size]? = some (.deferred (some []))) ∧ KX T (w.heap.size + 2) W (W3.putObj (w.heap.size + 1) (R .done (some c))) := fun c W3 h3 hx => by
        obtain ⟨_, l3, d3⟩ := leave (some c) W3 h3
        obtain ⟨b1, b2⟩ := back (R .done (some c)) W3 l3 d3
        exact ⟨⟨c, (hIx c).putObj _ hx (by omega) l3 (nc _ _), b1, b2⟩, kept _ W3 h3 l3⟩
      rintro e a3 W3 hp
      cases e with
      | normal =>
        obtain ⟨h3, i3⟩ := hp
        obtain ⟨hr, l3, d3⟩ := leave none W3 h3
        obtain ⟨b1, b2⟩ := back (R .ready none) W3 l3 d3
        exact ⟨_, _, hr, .inl ⟨rfl, ⟨hI.putObj _ i3 (by omega) l3 (nc _ _), b1, b2⟩, kept _ W3 h3 l3⟩⟩
      | ret => exact ⟨_, _, (leave (some .ret) W3 hp.1).1, .inr ⟨rfl, gone .ret W3 hp.1 hp.2⟩⟩
      | exit id => exact ⟨_, _, (leave (some (.exit id)) W3 hp.1).1, .inr ⟨rfl, gone (.exit id) W3 hp.1 hp.2⟩⟩
      | goto t => exact ⟨_, _, (leave (some (.goto t)) W3 hp.1).1, .inr ⟨rfl, gone (.goto t) W3 hp.1 hp.2⟩⟩
      | panic ch => exact hp.elim
      | outgrown => exact hp.elim
    · rintro e W2 ⟨⟨v, rfl⟩, ⟨xs, hS, hi, hl, hd⟩ | ⟨pre, hSp, c, hi, hl, hd⟩⟩
      · have hl' := hl
        rw [hR] at hl'
        exact ⟨none, _, run_endLoop (P := P) hl' (by simp), hdone _ xs _ (Nat.le_refl _) hS (hI.putObj _ hi (by omega) hl (nc _ _)) ((World.putObj_heap_other (by omega)).trans hd)⟩
      · have hl' := hl
        rw [hR] at hl'
        exact ⟨some c, _, run_endLoop (P := P) hl' (by simp), hstop _ c pre _ (Nat.le_refl _) hSp ((hIx c).putObj _ hi (by omega) hl (nc _ _)) ((World.putObj_heap_other (by omega)).trans hd)⟩
end Go.Proofs.YtljbmpnpbjnbkaaDoor
namespace Go.Proofs.YtljbmpnpbjnbkaaDoor
open Go.RowKit Go.Shelf
set_option linter.unusedVariables false
set_option linter.unusedSimpArgs false
attribute [local go_sem] Oper.semAt_some
theorem rooms_ge (n gen : Nat) (img : List UInt8) : ∀ (f i q : Nat), q ≤ f → (∀ k, k < q → rtJ n gen (i + k) (secP n (i + k) img) ≠ none) → q ≤ (roomsJ n gen img f i).length
  | f, i, 0, _, _ => Nat.zero_le _
  | 0, _, q + 1, h, _ => absurd h (by omega)
  | f + 1, i, q + 1, h, ha => by
    have h0 := ha 0 (by omega)
    rw [Nat.add_zero] at h0
    unfold roomsJ
    split
    · have := rooms_ge n gen img f (i + 1) q (by omega) (fun k hk => by have := ha (k + 1) (by omega); rwa [show i + (k + 1) = i + 1 + k by omega] at this)
      simp only [List.length_cons]
      omega
    · rename_i e
      exact absurd e h0
theorem rooms_stop (n gen : Nat) (img : List UInt8) (c q : Nat) (hq : q < c) (ha : ∀ k, k < q → rtJ n gen k (secP n k img) ≠ none) (h0 : rtJ n gen q (secP n q img) = none) : (roomsJ n gen img c 0).length = q := by
  have h1 := rooms_ge n gen img c 0 q (by omega) (fun k hk => by rw [Nat.zero_add]; exact ha k hk)
  rcases Nat.lt_or_ge q (roomsJ n gen img c 0).length with h | h
  · obtain ⟨r, hr⟩ : ∃ r, (roomsJ n gen img c 0)[q]? = some r := ⟨_, List.getElem?_eq_getElem h⟩
    have := roomsJ_at n gen img c 0 q r hr
    rw [Nat.zero_add, h0] at this
    cases this
  · omega
/-- What right's iterator must find again. -/
structure RtW (V : World) (B b off L cap n gen : Nat) (img : List UInt8) : Prop where
  tab : Tab V
  bt : Bt V (.slice (some ⟨b, off, none⟩) L cap) img
  b0 : V.heap[B]? = some (.cells #[.int .i64 n] 3 (0, 0))
  b1 : V.heap[B + 1]? = some (.cells #[.int .u64 gen] 22 (0, 0))
  b2 : V.heap[B + 2]? = some (.cells #[.slice (some ⟨b, off, none⟩) L cap] 39 (0, 0))
abbrev ItJ (n c : Nat) (img : List UInt8) := { x : Fin c // usedJ (secP n x.val img) ≤ n - 24 }
theorem KE.drop {E : Nat → TypeId → Prop} {P : Nat} {W V : World} (h : KE (fun k t => E k t ∨ k = P) W V) (hP : W.heap.size ≤ P) : KE E W V :=
  ⟨h.size, fun k cs t fz hk he => h.cells k cs t fz hk (fun e => e.elim he (fun e => by have := blk_lt hk; omega))⟩
theorem bt_chunk {V : World} {b off L cap n i c : Nat} {img : List UInt8} (h : Bt V (.slice (some ⟨b, off, none⟩) L cap) img) (hL : L = n * c) (hi : i < c) : Bt V (.slice (some ⟨b, off + i * n, none⟩) n n) (secP n i img) := by
  have hl := h.len.1
  have hp : i * n + n ≤ L := by rw [hL, ← Nat.succ_mul, Nat.mul_comm]; exact Nat.mul_le_mul_left _ hi
  have e : (i + 1) * n = i * n + n := Nat.succ_mul i n
  have hs : (secP n i img).length = n := by
    unfold secP
    rw [List.length_drop, List.length_take, e]
    omega
  refine ⟨some ⟨b, off + i * n, none⟩, n, by rw [hs], by rw [hs]; exact Nat.le_refl _, fun h0 => ⟨b, off + i * n, rfl, fun j hj => ?_⟩⟩
  rw [hs] at hj
  obtain ⟨b', o', e', hc⟩ := h.cell (by omega)
  cases e'
  have := hc (i * n + j) (by omega)
  rw [Nat.add_assoc, this]
  simp only [secP, List.getElem_drop, List.getElem_take]
theorem chunk_fnH (ao : Option Addr) (m c : Nat) (n : Nat) (hn : 1 ≤ n) (w : World) : Calls Tryd.prog 53 #[.slice ao m c, .int .i64 n] w fun e w' => ∃ H, e = .returned (.func (.func 63) #[] #[.pointer (some ⟨H, 0, none⟩), .pointer (some ⟨H + 1, 0, none⟩)]) ∧ w.heap.size ≤ H ∧ w'.heap[H]? = some (.cells #[.slice ao m c] 39 (0, 0)) ∧ w'.heap[H + 1]? = some (.cells #[.int .i64 n] 3 (0, 0)) ∧ Same w w' :=
  (chunk_fn ao m c n hn w).mono fun e w' ⟨h1, h2⟩ => ⟨w.heap.size, h1, Nat.le_refl _, by rw [← h2]; exact blk_alloc (blk_new _ _) _, by
    rw [← h2]
    have := blk_new (w.alloc (.cells #[.slice ao m c] 39)) (.cells #[.int .i64 n] 3)
    simpa using this, by rw [← h2]; exact ((Kept.refl _ w).alloc _).alloc _⟩
theorem blk_own {A C : World} {row : Option Nat} {B g : Nat} {cs : Array Value} {t : TypeId} {fz : Nat × Nat} (hg : A.grownBy C row) (hr : ∀ r, row = some r → B ≤ r ∧ ∃ o : Obj, A.heap[r]? = some o ∧ o.isCells = false) (h : A.heap[g]? = some (.cells cs t fz)) : C.heap[g]? = some (.cells cs t fz) :=
  (hg.block _ (blk_lt h) (fun e => by obtain ⟨_, o, ho, hc⟩ := hr _ e.symm; rw [h] at ho; cases ho; cases hc)).trans h
/-- All sectors of some chunks, one behind the other, are right. -/
def AR (n gen c : Nat) (img : List UInt8) (pre : List (Fin c)) : Prop := ∀ k x, pre[k]? = some x → rtJ n gen k (secP n x.val img) ≠ none
theorem AR.nil (n gen c : Nat) (img : List UInt8) : AR n gen c img [] := fun k x h => by simp at h
theorem AR.snoc {n gen c : Nat} {img : List UInt8} {pre : List (Fin c)} {x : Fin c} (h : AR n gen c img pre) (hx : rtJ n gen pre.length (secP n x.val img) ≠ none) : AR n gen c img (pre ++ [x]) := fun k y hk => by
  rcases Nat.lt_or_ge k pre.length with g | g
  · rw [List.getElem?_append_left g] at hk; exact h k y hk
  · rw [List.getElem?_append_right g] at hk
    have h0 : k - pre.length = 0 := by
      have := (List.getElem?_eq_some_iff.1 hk).1
      simp at this
      omega
    rw [h0] at hk
    obtain rfl : x = y := by simpa using hk
    rwa [show k = pre.length by omega]
theorem fl_at {c q k : Nat} (hk : k < q) (hc : k < c) : (fl c q)[k]? = some ⟨k, hc⟩ := by
  unfold fl
  rw [List.getElem?_take, if_pos hk, List.getElem?_eq_getElem (by simpa using hc)]
  simp
theorem AR.le {n gen c : Nat} {img : List UInt8} {q : Nat} (h : AR n gen c img (fl c q)) (hq : q ≤ c) : q ≤ (roomsJ n gen img c 0).length :=
  rooms_ge n gen img c 0 q hq (fun k hk => by
    rw [Nat.zero_add]
    exact h k _ (fl_at hk (by omega)))
theorem rtJ_le {n gen i : Nat} {b r : List UInt8} (h : rtJ n gen i b = some r) : usedJ b ≤ n - 24 ∧ roomJ b = r := by
  unfold rtJ at h
  split at h
  · rename_i g
    exact ⟨g.1, Option.some.inj h⟩
  · cases h
theorem KX.set {T : Nat → TypeId → Prop} {X l : Nat} {a b : World} (h : KX T X a b) (ht : ∀ t, T l t) (hl : l < X) (v : Value) : KX T X a (b.setCell ⟨l, 0, none⟩ v) :=
  ⟨by have := h.size; simp [World.setCell]; omega, fun i cs t fz hi hn => by
    have hne : i ≠ l := fun e => hn (e ▸ ht t)
    exact (Below.heap_setCell _ _ _ _ hne).trans (h.cells i cs t fz hi hn), fun i o hx hi ho => by
    have hne : i ≠ l := by omega
    exact (Below.heap_setCell _ _ _ _ hne).trans (h.walks i o hx hi ho)⟩
theorem pre_fl {c : Nat} {pre : List (Fin c)} (h : pre <+: List.finRange c) : pre = fl c pre.length := by
  unfold fl
  exact (List.prefix_iff_eq_take.1 h)
set_option maxHeartbeats 4000000 in
set_option maxRecDepth 100000 in
theorem right_at (E : Nat → TypeId → Prop) (X : Nat) (W : World) (B b off L cap n gen c : Nat) (img : List UInt8) (h1 : 512 ≤ n) (h2 : n ≤ 4096) (hL : L = n * c) (hc : c ≤ 4096) (hc1 : 1 ≤ c) (hcap : L ≤ cap) (hcb : cap ≤ 9223372036854775807) (hg : gen < 18446744073709551616) (hX : X ≤ W.heap.size) (hB : B + 2 < W.heap.size) (hW : ∀ V, KE E W V → RtW V B b off L cap n gen img) (hE : ∀ k, W.heap.size ≤ k → ¬ E k 3 ∧ ¬ E k 39 ∧ ¬ E k 88) :
    SeqAtI 3 (α := ItJ n c img) Fence.wide 8 Tryd.prog 52 #[.pointer (some ⟨B + 2, 0, none⟩), .pointer (some ⟨B, 0, none⟩), .pointer (some ⟨B + 1, 0, none⟩)] (fun q => encU n img b off q.1) (KX E X) (fun ys => ys.map (·.1) = fl c (roomsJ n gen img c 0).length) (fun pre => pre.map (·.1) <+: fl c (roomsJ n gen img c 0).length) c W := fun lp J Jx hJ hJx hY h0 => by
  have hLb : L ≤ 16777216 := by rw [hL]; exact Nat.mul_le_mul h2 hc
  have HW := hidden hW
  have HWW := hidden (hW W (KE.refl _ _))
  have HCf := hidden (fun W' => (callsIn_wide (n := 7)).2 (chunk_fnH (some ⟨b, off, none⟩) L cap n (by omega) W'))
  have HL := hidden hL
  have HUs := hidden (fun place o' V (T : Tab V) x hb hp => (callsIn_wide (n := 5)).2 (usedOf_any n gen place b o' (x : List UInt8) V T hb h1 h2 hg hp))
  have K0 := hidden ((same_alloc W (.cells #[.func (.yield lp) #[] #[]] 88)).alloc (.cells #[.int .i64 0] 3))
  have c0 : ((W.alloc (.cells #[.func (.yield lp) #[] #[]] 88)).alloc (.cells #[.int .i64 0] 3)).cell? ⟨B, 0, none⟩ = some (.int .i64 n) := blk_cell (blk_alloc (blk_alloc HWW.out.b0 _) _)
  have c2 : ((W.alloc (.cells #[.func (.yield lp) #[] #[]] 88)).alloc (.cells #[.int .i64 0] 3)).cell? ⟨B + 2, 0, none⟩ = some (.slice (some ⟨b, off, none⟩) L cap) := blk_cell (blk_alloc (blk_alloc HWW.out.b2 _) _)
  have GY := hidden (blk_alloc (blk_new W (.cells #[.func (.yield lp) #[] #[]] 88)) (.cells #[.int .i64 0] 3))
  have GP : Hid (((W.alloc (.cells #[.func (.yield lp) #[] #[]] 88)).alloc (.cells #[.int .i64 0] 3)).heap[W.heap.size + 1]? = some (.cells #[.int .i64 0] 3 (0, 0))) := hidden (by
    have h := blk_new (W.alloc (.cells #[.func (.yield lp) #[] #[]] 88)) (.cells #[.int .i64 0] 3)
    rw [show (W.alloc (.cells #[.func (.yield lp) #[] #[]] 88)).heap.size = W.heap.size + 1 by simp] at h
    exact h)
  have HJ := hidden hJ
  have HJx := hidden hJx
  have HY := hidden hY
  have H0 := hidden h0
  have HX := hidden hX
  have HE := hidden hE
  clear hY hJ hJx h0 hX hW hE hL
  refine callsIn_of_wp_marks Tryd.func52 rfl trivial ?_ rfl
  simp only [Tryd.ntmps52, List.size_toArray, List.length_cons, List.length_nil, Nat.reduceAdd, Nat.reduceSub, Array.replicate_succ, Array.replicate_zero, List.push_toArray, List.append_toArray, List.nil_append, List.cons_append]
  gi_wp2_with (refine ⟨trivial, ?_⟩; gi_at_call 53; refine (HCf.out _).mono ?_; rintro e w2 ⟨H, rfl, hH0, hH1, hH2, q2⟩; have K2 := hidden (K0.out.trans q2); have G1 := hidden hH1; have G2 := hidden hH2; have Y2 := hidden (blk_kept q2 (fun h => h) GY.out); have P2 := hidden (blk_kept q2 (fun h => h) GP.out); clear q2 hH1 hH2)
  have hsz := K2.out.size
  have hH : W.heap.size + 2 ≤ H := by simpa using hH0
  have hPs := blk_lt P2.out
  clear hH0 GY GP K0 c0 c2
  obtain ⟨E2, hE2⟩ : ∃ E2 : Nat → TypeId → Prop, E2 = fun k t => E k t ∨ k = W.heap.size + 1 := ⟨_, rfl⟩
  have KW2 : Hid (KE E2 W w2) := hidden (KE.of K2.out)
  have HD : Hid (∀ V, KE E2 W V → KE E W V) := hidden (fun V h => by rw [hE2] at h; exact h.drop (by omega))
  have HN2 : Hid (∀ k t, ¬ E k t → k ≠ W.heap.size + 1 → ¬ E2 k t) := hidden (fun k t h1 h2 h => by rw [hE2] at h; exact h.elim h1 h2)
  have HEl : Hid (∀ k t, E k t → E2 k t) := hidden (fun k t h => by rw [hE2]; exact .inl h)
  have HEp : Hid (∀ t, E2 (W.heap.size + 1) t) := hidden (fun t => by rw [hE2]; exact .inr rfl)
  clear hE2
  refine range_own rfl (by decide) (gf := 63) (lb := #[.pointer (some ⟨H, 0, none⟩), .pointer (some ⟨H + 1, 0, none⟩)]) rfl trivial (enters_of Tryd.func63 (by kernel_rfl) rfl) (T := E2)
    (fun W1 kk _ => chunk_at 7 H (H + 1) (by decide) E2 (w2.heap.size + 2) W1 b off n c L cap (by omega) HL.out hLb hcap hcb (fun V kV => ⟨kV.cells _ _ _ _ (blk_kept kk (fun h => h) G1.out) (HN2.out _ _ (HE.out _ (by omega)).2.1 (by omega)), kV.cells _ _ _ _ (blk_kept kk (fun h => h) G2.out) (HN2.out _ _ (HE.out _ (by omega)).1 (by omega))⟩)) (fun _ => rfl)
    (fun (pre : List (Fin c)) V => (∃ l : List (ItJ n c img), l.map (·.1) = pre ∧ J l V) ∧ AR n gen c img pre ∧ KE E2 W V ∧ V.heap[W.heap.size]? = some (.cells #[.func (.yield lp) #[] #[]] 88 (0, 0)) ∧ V.heap[W.heap.size + 1]? = some (.cells #[.int .i64 (pre.length : Nat)] 3 (0, 0)))
    (fun cd pre V => cd = .ret ∧ ((∃ p0 x, pre = p0 ++ [x] ∧ (∃ l : List (ItJ n c img), l.map (·.1) = p0 ∧ J l V) ∧ AR n gen c img p0 ∧ rtJ n gen p0.length (secP n x.val img) = none) ∨ (∃ l : List (ItJ n c img), l.map (·.1) = pre ∧ AR n gen c img pre ∧ Jx l V)))
    (fun s A C row hs hg hr => ⟨by obtain ⟨l, e1, hj⟩ := hs.1; exact ⟨l, e1, HJ.out.from _ A C row hj hg (fun r e => ⟨Nat.le_trans hsz (hr r e).1, (hr r e).2⟩)⟩, hs.2.1, hs.2.2.1.grown hg hr, blk_own hg hr hs.2.2.2.1, blk_own hg hr hs.2.2.2.2⟩)
    (fun cd s A C row hs hg hr => ⟨hs.1, by
      rcases hs.2 with ⟨p0, x, e0, ⟨l, e1, hj⟩, h3⟩ | ⟨l, e1, h2, hj⟩
      · exact .inl ⟨p0, x, e0, ⟨l, e1, HJ.out.from _ A C row hj hg (fun r e => ⟨Nat.le_trans hsz (hr r e).1, (hr r e).2⟩)⟩, h3⟩
      · exact .inr ⟨l, e1, h2, HJx.out.from _ A C row hj hg (fun r e => ⟨Nat.le_trans hsz (hr r e).1, (hr r e).2⟩)⟩⟩)
    ⟨⟨[], rfl, HJ.out.from [] W w2 none H0.out (grown_same K2.out) (fun r e => by cases e)⟩, AR.nil _ _ _ _, KW2.out, Y2.out, P2.out⟩
    (fun x a' V => a' = { tmps := #[.func (.yield lp) #[] #[], .pointer (some ⟨B + 2, 0, none⟩), .pointer (some ⟨B, 0, none⟩), .pointer (some ⟨B + 1, 0, none⟩), .pointer (some ⟨W.heap.size, 0, none⟩), .pointer (some ⟨W.heap.size + 1, 0, none⟩), .slice (some ⟨b, off + x.val * n, none⟩) n n, undef, undef, .slice (some ⟨b, off, none⟩) L cap, .int .i64 n, .func (.func 63) #[] #[.pointer (some ⟨H, 0, none⟩), .pointer (some ⟨H + 1, 0, none⟩)], .slice (some ⟨b, off + x.val * n, none⟩) n n, undef, undef, undef, undef, undef, undef, undef, undef, undef, undef, undef, undef, undef, undef, undef, undef, undef], defers := [] })
    (fun x a' _ A C row hs hg hr => hs) ?assign ?body ?done ?stop
  case assign =>
    intro l pre x V K hI hK
    dsimp only [encC]
    gi_wp2
    exact hK _ _ (KX.refl _ _ _) hI rfl
  case body =>
    intro l pre x a' V hI hA hlt
    subst hA
    have hRt := HW.out V (HD.out V hI.2.2.1)
    have hbt := bt_chunk hRt.bt HL.out x.isLt
    have y0 : V.cell? ⟨W.heap.size, 0, none⟩ = some (.func (.yield lp) #[] #[]) := blk_cell hI.2.2.2.1
    have y1 : V.cell? ⟨W.heap.size + 1, 0, none⟩ = some (.int .i64 (pre.length : Nat)) := blk_cell hI.2.2.2.2
    have y2 : V.cell? ⟨B + 1, 0, none⟩ = some (.int .u64 gen) := blk_cell hRt.b1
    have HUx := hidden (HUs.out pre.length (off + x.val * n) V hRt.tab (secP n x.val img) hbt (by omega))
    have HI := hidden hI
    obtain ⟨pl, hpl⟩ : ∃ pl, pl = pre.length := ⟨_, rfl⟩
    rw [← hpl] at y1 HUx hlt
    have HPl := hidden hpl
    obtain ⟨xn, hxn⟩ : ∃ xn, xn = off + x.val * n := ⟨_, rfl⟩
    rw [← hxn] at HUx ⊢
    have HXn := hidden hxn
    clear hI hRt hbt hpl hxn
    cases hr : rtJ n gen pl (secP n x.val img) with
    | none =>
      rw [hr] at HUx
      have HR := hidden hr
      gi_wp2_with (refine ⟨trivial, ?_⟩; gi_at_call 54; refine (HUx.out).mono ?_; rintro e w4 ⟨⟨u, rfl, _⟩, k4⟩; have K4 := hidden k4; clear k4)
      refine ⟨(fun f h => by cases h), ?_⟩
      gi_wp2
      refine ⟨KX.of K4.out, rfl, .inl ⟨pre, x, rfl, ?_, HI.out.2.1, by rw [← HPl.out]; exact HR.out⟩⟩
      obtain ⟨l0, e1, hj⟩ := HI.out.1
      exact ⟨l0, e1, HJ.out.from _ V _ none hj (grown_same K4.out) (fun r e => by cases e)⟩
    | some r =>
      rw [hr] at HUx
      have HR := hidden hr
      obtain ⟨hle, _⟩ := rtJ_le hr
      obtain ⟨l0, e1, hj⟩ := HI.out.1
      have hl0 : l0.length = pl := by rw [HPl.out, ← e1, List.length_map]
      have HJ0 := hidden hj
      have HE1 := hidden e1
      have HL0 := hidden hl0
      have a1 : IntKind.i64.wrap ((pl : Int) + 1) = (pl : Int) + 1 := by rw [IntKind.wrap_i64]; omega
      clear hj e1 hl0 hr
      gi_wp2_with (refine ⟨trivial, ?_⟩; gi_at_call 54; refine (HUx.out).mono ?_; rintro e w4 ⟨⟨u, rfl, hu⟩, k4⟩; obtain ⟨_, rfl⟩ := hu r rfl; have K4 := hidden k4; have y4 : w4.cell? ⟨W.heap.size, 0, none⟩ = some (.func (.yield lp) #[] #[]) := k4.cell (fun h => h) y0; clear hu; obtain ⟨fn, tmps, asg, bd, hy, hR⟩ := yield_any 5 (HY.out l0 ⟨x, hle⟩ w4 (HJ.out.from _ V _ none HJ0.out (grown_same K4.out) (fun r e => by cases e)) (by rw [HL0.out]; exact hlt)); dsimp only [encU] at hy; rw [← HXn.out] at hy; clear k4)
      refine hR.mono ?_
      rintro e W3 (⟨rfl, hJ3, hk3⟩ | ⟨rfl, hJx3, hk3⟩)
      · have HJ3 := hidden hJ3
        have HK3 := hidden hk3
        have hP3 := hk3.cells _ _ _ _ (blk_kept K4.out (fun h => h) HI.out.2.2.2.2) (HE.out _ (by omega)).1
        have hY3 := hk3.cells _ _ _ _ (blk_kept K4.out (fun h => h) HI.out.2.2.2.1) (HE.out _ (Nat.le_refl _)).2.2
        rw [← HPl.out] at hP3
        have z1 : W3.cell? ⟨W.heap.size + 1, 0, none⟩ = some (.int .i64 (pl : Nat)) := blk_cell hP3
        have z2 : W3.frozen? ⟨W.heap.size + 1, 0, none⟩ = false := blk_free hP3
        have HP3 := hidden hP3
        have HY3 := hidden hY3
        clear hJ3 hk3 hP3 hY3 hR hy
        gi_wp2
        have hKX : KX E2 w2.heap.size V (W3.setCell ⟨W.heap.size + 1, 0, none⟩ (.int .i64 ((pl : Int) + 1))) := ((KX.of K4.out).trans (HK3.out.le (Nat.le_trans HX.out hsz) HEl.out)).set HEp.out hPs _
        refine ⟨hKX, ⟨l0 ++ [⟨x, hle⟩], by rw [List.map_append, HE1.out]; rfl, HJ.out _ W3 _ (some (W.heap.size + 1)) HJ3.out (grown_set _ _ _ _) (fun q e => by cases e; exact ⟨by omega, _, HP3.out, .inr ⟨_, _, rfl⟩⟩)⟩, HI.out.2.1.snoc (by rw [← HPl.out, HR.out]; simp), HI.out.2.2.1.trans hKX.ke, (Below.heap_setCell _ _ _ _ (by show W.heap.size ≠ W.heap.size + 1; omega)).trans HY3.out, ?_⟩
        have hb := blk_set (j := 0) HP3.out (.int .i64 ((pl : Int) + 1))
        rw [List.length_append, ← HPl.out]
        exact hb
      · have HJ3 := hidden hJx3
        have HK3 := hidden hk3
        clear hJx3 hk3 hR hy
        gi_wp2
        exact ⟨(KX.of K4.out).trans (HK3.out.le (Nat.le_trans HX.out hsz) HEl.out), rfl, .inr ⟨l0 ++ [⟨x, hle⟩], by rw [List.map_append, HE1.out]; rfl, HI.out.2.1.snoc (by rw [← HPl.out, HR.out]; simp), HJ3.out⟩⟩
  case done =>
    rintro D ys V hD hS hI hK
    subst hS
    obtain ⟨l, hlm, hjl⟩ := hI.1
    have har := hI.2.1
    rw [← fl_all] at har
    have hm : (roomsJ n gen img c 0).length = c := Nat.le_antisymm (roomsJ_len n gen img c 0) (har.le (Nat.le_refl _))
    have hlm' : l.map (·.1) = fl c (roomsJ n gen img c 0).length := by rw [hlm, hm, fl_all]
    have hJd : J l (V.putObj D (.deferred none)) := HJ.out.from _ V _ (some D) hjl (grownBy_putObj' V D _) (fun r e => by cases e; exact ⟨Nat.le_trans hsz hD, _, hK, rfl⟩)
    have HJD := hidden hJd
    clear hJd hI hjl hlm har hm
    gi_wp2
    refine ⟨by simp, .inl ⟨_, _, rfl, run_takeDeferred hK, ?_⟩⟩
    refine ⟨.tuple #[], ?_, ⟨_, rfl⟩, .inl ⟨_, hlm', HJD.out⟩⟩
    simp [results, Tryd.f52, go_sem]
  case stop =>
    rintro D cd pre V hD hS ⟨rfl, hj⟩ hK
    have hpf := pre_fl hS
    have hplc : pre.length ≤ c := by have := hS.length_le; simpa using this
    rcases hj with ⟨p0, x, e0, ⟨l, e1, hjl⟩, har, hno⟩ | ⟨l, e1, har, hjl⟩
    · have hp0 : p0 <+: List.finRange c := List.IsPrefix.trans ⟨[x], e0.symm⟩ hS
      have hp0f := pre_fl hp0
      have hlen : pre.length = p0.length + 1 := by rw [e0]; simp
      have hx : x.val = p0.length := by
        have h1 : (fl c pre.length)[p0.length]? = some x := by rw [← hpf, e0]; simp
        rw [fl_at (by omega) (by omega)] at h1
        have h2 := Option.some.inj h1
        rw [← h2]
      have hm : (roomsJ n gen img c 0).length = p0.length := rooms_stop n gen img c p0.length (by omega) (fun k hk => by
        have h9 : (fl c p0.length)[k]? = some ⟨k, by omega⟩ := fl_at hk (by omega)
        rw [← hp0f] at h9
        exact har k _ h9) (by rw [hx] at hno; exact hno)
      have hlm' : l.map (·.1) = fl c (roomsJ n gen img c 0).length := by rw [e1, hm]; exact hp0f
      have hJd : J l (V.putObj D (.deferred none)) := HJ.out.from _ V _ (some D) hjl (grownBy_putObj' V D _) (fun r e => by cases e; exact ⟨Nat.le_trans hsz hD, _, hK, rfl⟩)
      have HJD := hidden hJd
      clear hJd hjl hm hx hlen hp0f hno har
      gi_wp2
      refine ⟨by simp, .inl ⟨_, _, rfl, run_takeDeferred hK, ?_⟩⟩
      refine ⟨.tuple #[], ?_, ⟨_, rfl⟩, .inl ⟨_, hlm', HJD.out⟩⟩
      simp [results, Tryd.f52, go_sem]
    · rw [hpf] at har
      have hle2 := har.le hplc
      have hlm' : l.map (·.1) <+: fl c (roomsJ n gen img c 0).length := by
        rw [e1, hpf]
        unfold fl
        exact List.take_prefix_take_left hle2
      have hJd : Jx l (V.putObj D (.deferred none)) := HJx.out.from _ V _ (some D) hjl (grownBy_putObj' V D _) (fun r e => by cases e; exact ⟨Nat.le_trans hsz hD, _, hK, rfl⟩)
      have HJD := hidden hJd
      clear hJd hjl har
      gi_wp2
      refine ⟨by simp, .inl ⟨_, _, rfl, run_takeDeferred hK, ?_⟩⟩
      refine ⟨.tuple #[], ?_, ⟨_, rfl⟩, .inr ⟨_, hlm', HJD.out⟩⟩
      simp [results, Tryd.f52, go_sem]
end Go.Proofs.YtljbmpnpbjnbkaaDoor
