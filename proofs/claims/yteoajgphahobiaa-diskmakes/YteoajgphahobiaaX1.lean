/- A Disk whose power lasts, told exactly: the platter's bytes, the reading's, the pending writes; Write, Read. -/
import Derived.Test.YteoajgphahobiaaE5
namespace Go.Proofs.Yteoajgphahobiaa
open Go.RowKit
set_option linter.unusedVariables false

/-- The row that a cell of a block holds. -/
def rowOf (w : World) (g j : Nat) : Option Nat := (w.cell? ⟨g, j, none⟩).bind Value.ownBlock
/-- The blocks that a call of a Disk may write: its own, the platter's, the reading's, the pending writes'. -/
def dS (g pb rb : Nat) (w : World) : Nat → Prop := fun k => k = g ∨ k = pb ∨ k = rb ∨ rowOf w g 3 = some k
structure DF (g pb rb : Nat) (w w' : World) : Prop where
  kept : Kept (dS g pb rb w) w w'
  row : ∀ k, k < w.heap.size → rowOf w' g 3 = some k → rowOf w g 3 = some k
theorem DF.refl (g pb rb : Nat) (w : World) : DF g pb rb w w := ⟨Kept.refl _ _, fun _ _ h => h⟩
theorem DF.back {g pb rb : Nat} {w w' : World} (h : DF g pb rb w w') {k : Nat} (hk : k < w.heap.size) (hs : dS g pb rb w' k) : dS g pb rb w k := by
  rcases hs with hs | hs | hs | hs
  · exact Or.inl hs
  · exact Or.inr (Or.inl hs)
  · exact Or.inr (Or.inr (Or.inl hs))
  · exact Or.inr (Or.inr (Or.inr (h.row k hk hs)))
theorem DF.trans {g pb rb : Nat} {a b c : World} (h : DF g pb rb a b) (k : DF g pb rb b c) : DF g pb rb a c :=
  ⟨h.kept.trans' k.kept (fun i hi hs => h.back hi hs), fun i hi hr => h.row i hi (k.row i (Nat.lt_of_lt_of_le hi h.kept.size) hr)⟩
theorem rowOf_same {w w' : World} {g j : Nat} (hg : g < w.heap.size) (k : Same w w') : rowOf w' g j = rowOf w g j := by
  unfold rowOf
  rw [World.cell?_of_block (k.block g hg (fun h => h))]
theorem DF.same {g pb rb : Nat} {w w' : World} (hg : g < w.heap.size) (k : Same w w') : DF g pb rb w w' :=
  ⟨k.mono (fun _ _ h => h.elim), fun i hi hr => by rw [← hr, rowOf_same hg k]⟩
theorem rowOf_dc {w : World} {g n pb c pc rb rc r wn f : Nat} {qv : Value} (h : w.heap[g]? = some (.cells (DC n pb c pc rb rc qv r wn f) 74 (0, 0))) : rowOf w g 3 = qv.ownBlock := by
  unfold rowOf
  rw [blk_cell h]
  rfl
/-- Values of these bytes. -/
def LL (w : World) (vs : List Value) (ls : List (List UInt8)) : Prop := vs.length = ls.length ∧ ∀ i (h : i < vs.length) (h' : i < ls.length), Own w vs[i] ls[i] 0
theorem LL.kept {w w' : World} {vs : List Value} {ls : List (List UInt8)} (h : LL w vs ls) (k : ∀ u l, Own w u l 0 → Own w' u l 0) : LL w' vs ls := ⟨h.1, fun i a b => k _ _ (h.2 i a b)⟩
theorem LL.set {w : World} {vs : List Value} {ls : List (List UInt8)} (h : LL w vs ls) {u : Value} {l : List UInt8} (hu : Own w u l 0) (i : Nat) : LL w (vs.set i u) (ls.set i l) := by
  refine ⟨by simp [h.1], fun j a b => ?_⟩
  rw [List.getElem_set, List.getElem_set]
  by_cases hj : i = j
  · rw [if_pos hj, if_pos hj]; exact hu
  · rw [if_neg hj, if_neg hj]
    exact h.2 j (by simpa using a) (by simpa using b)
/-- The pending writes. -/
def QL (w : World) (c n : Nat) (qs : List Value) (pend : List (Nat × List UInt8)) : Prop :=
  ∀ k (h : k < pend.length), ∃ u, qs[k * 2]? = some (.int .i64 (pend[k].1 : Nat)) ∧ qs[k * 2 + 1]? = some u ∧ Own w u pend[k].2 0 ∧ pend[k].1 < c ∧ pend[k].2.length = n
theorem QL.kept {w w' : World} {c n : Nat} {qs : List Value} {pend : List (Nat × List UInt8)} (h : QL w c n qs pend) (k : ∀ u l, Own w u l 0 → Own w' u l 0) : QL w' c n qs pend :=
  fun j hj => let ⟨u, a, b, d, e, f⟩ := h j hj; ⟨u, a, b, k _ _ d, e, f⟩
structure XD (B n c g pb pc rb rc M : Nat) (pl rl : List (List UInt8)) (pend : List (Nat × List UInt8)) (w : World) : Prop where
  ex : ∃ (qv : Value) (qs ps rs : List Value) (r wn f : Nat), w.heap[g]? = some (.cells (DC n pb c pc rb rc qv r wn f) 74 (0, 0)) ∧ r ≤ M ∧ wn ≤ M ∧ f ≤ M ∧
    w.ownsRow 0 22 1 (.slice (some ⟨pb, 0, none⟩) c pc) c ps ∧ LL w ps pl ∧ w.ownsRow 0 22 1 (.slice (some ⟨rb, 0, none⟩) c rc) c rs ∧ LL w rs rl ∧
    w.ownsRow 0 58 2 qv pend.length qs ∧ QL w c n qs pend ∧ (∀ k, qv.ownBlock = some k → B ≤ k)
  pn : ∀ l ∈ pl, l.length = n
  rn : ∀ l ∈ rl, l.length = n
  ne : pb ≠ rb
  lg : B ≤ g
  lp : B ≤ pb
  lr : B ≤ rb
  mM : pend.length ≤ M
  hn : n ≤ 4096
  hc : c ≤ 4096
theorem XD.same {B n c g pb pc rb rc M : Nat} {pl rl : List (List UInt8)} {pend : List (Nat × List UInt8)} {w w' : World} (h : XD B n c g pb pc rb rc M pl rl pend w) (k : Same w w') : XD B n c g pb pc rb rc M pl rl pend w' := by
  obtain ⟨qv, qs, ps, rs, r, wn, f, h1, h2, h3, h4, h5, h6, h7, h8, h9, h10, h11⟩ := h.ex
  have kk : ∀ u l, Own w u l 0 → Own w' u l 0 := fun u l o => o.same k
  exact ⟨⟨qv, qs, ps, rs, r, wn, f, blk_kept k (fun h => h) h1, h2, h3, h4, own_kept h5 k (fun _ _ h => h), h6.kept kk, own_kept h7 k (fun _ _ h => h), h8.kept kk, own_kept h9 k (fun _ _ h => h), h10.kept kk, h11⟩, h.pn, h.rn, h.ne, h.lg, h.lp, h.lr, h.mM, h.hn, h.hc⟩
/-- Write of a sector that is there. -/
theorem xd_write {B n c g pb pc rb rc M : Nat} {pl rl : List (List UInt8)} {pend : List (Nat × List UInt8)} {w : World} (h : XD B n c g pb pc rb rc M pl rl pend w) (hM : M ≤ 4398046511102) (hB : B ≤ w.heap.size) (i : Nat) (hi : i < c) (v : Value) (l : List UInt8) (hv : Byt w v l) (hl : l.length = n) :
    Calls Try.prog 23 #[.pointer (some ⟨g, 0, none⟩), .int .i64 i, v] w fun e w' => e = .returned (.int .i64 0) ∧ XD B n c g pb pc rb rc (M + 1) pl (rl.set i l) (pend ++ [(i, l)]) w' ∧ KT B w w' ∧ DF g pb rb w w' := by
  obtain ⟨qv, qs, ps, rs, r, wn, f, h1, h2, h3, h4, h5, h6, h7, h8, h9, h10, h11⟩ := h.ex
  have hmM := h.mM
  refine (d_write n pb c pc rb rc g i pend.length qv qs rs r wn f v l w h1 h7 h9 hv hl hi h.hn (by omega) (by omega)).mono ?_
  rintro e w' ⟨rfl, ⟨u, gq, qc, o1, o2, o3, o4, o5, o6⟩⟩
  have kk : KT B w w' := KT.of o5 fun k hk hs => by
    rcases hs with rfl | rfl | hs
    · exact kt_of h1 h.lg (by decide)
    · exact kt_row h7 rfl h.lr (by decide)
    · exact kt_row h9 hs (h11 _ hs) (by decide)
  have ko : ∀ u l, Own w u l 0 → Own w' u l 0 := fun u l o => o.kt kk
  have hpg : pb ≠ g := fun e => own_apart h5 h1 (by decide) (by rw [← e]; rfl)
  have hql : qs.length = pend.length * 2 := h9.1
  have hu : Own w' u l 0 := o1.weak (Nat.zero_le _)
  refine ⟨rfl, ⟨⟨_, _, ps, rs.set i u, r, wn + 1, f, o2, by omega, by omega, by omega, own_kept h5 o5 ?_, h6.kept ko, o3, (h8.kept ko).set hu i, by rw [List.length_append]; exact o4, ?_, ?_⟩, h.pn, ?_, h.ne, h.lg, h.lp, h.lr, by rw [List.length_append]; simp; omega, h.hn, h.hc⟩, kk, ?df⟩
  case df =>
    refine ⟨o5.mono (fun k _ hs => ?_), fun k hk hr => ?_⟩
    · rcases hs with hs | hs | hs
      · exact Or.inl hs
      · exact Or.inr (Or.inr (Or.inl hs))
      · exact Or.inr (Or.inr (Or.inr (by rw [rowOf_dc h1]; exact hs)))
    · rw [rowOf_dc o2] at hr
      rw [rowOf_dc h1]
      simp [Value.ownBlock] at hr
      subst hr
      rcases o6 with h | h
      · exact h
      · omega
  · intro k hk hs
    simp [Value.ownBlock] at hk
    subst hk
    rcases hs with hs | hs | hs
    · exact hpg hs
    · exact h.ne hs
    · rcases own_rows h5 h9 (by decide) with hx | hx
      · cases hx
      · exact hx (by rw [hs]; rfl)
  · intro k hk
    by_cases hkm : k < pend.length
    · obtain ⟨y, a, b, d, e', f'⟩ := h10 k hkm
      refine ⟨y, ?_, ?_, ?_, ?_, ?_⟩
      · rw [List.getElem?_append_left (by omega), List.getElem_append_left hkm]; exact a
      · rw [List.getElem?_append_left (by omega)]; exact b
      · rw [List.getElem_append_left hkm]; exact ko _ _ d
      · rw [List.getElem_append_left hkm]; exact e'
      · rw [List.getElem_append_left hkm]; exact f'
    · obtain rfl : k = pend.length := by rw [List.length_append] at hk; simp at hk; omega
      refine ⟨u, ?_, ?_, ?_, ?_, ?_⟩
      · rw [List.getElem?_append_right (by omega), hql, Nat.sub_self]; simp
      · rw [List.getElem?_append_right (by omega), hql, Nat.add_sub_cancel_left]; rfl
      · simpa using hu
      · simpa using hi
      · simpa using hl
  · intro k hk
    simp [Value.ownBlock] at hk
    subst hk
    rcases o6 with h | h
    · exact h11 _ h
    · omega
  · intro x hx
    rcases List.mem_or_eq_of_mem_set hx with hx | rfl
    · exact h.rn x hx
    · exact hl
theorem xd_read {B n c g pb pc rb rc M : Nat} {pl rl : List (List UInt8)} {pend : List (Nat × List UInt8)} {w : World} (h : XD B n c g pb pc rb rc M pl rl pend w) (hM : M ≤ 4398046511102) (i : Nat) (hi : i < c) (hir : i < rl.length) :
    Calls Try.prog 29 #[.pointer (some ⟨g, 0, none⟩), .int .i64 i] w fun e w' => ∃ u, e = .returned (.tuple #[u, .int .i64 0]) ∧ Own w' u rl[i] w.heap.size ∧ XD B n c g pb pc rb rc (M + 1) pl rl pend w' ∧ KT B w w' ∧ DF g pb rb w w' := by
  obtain ⟨qv, qs, ps, rs, r, wn, f, h1, h2, h3, h4, h5, h6, h7, h8, h9, h10, h11⟩ := h.ex
  have hrl : rs.length = c := by simpa using h7.1
  have hmM := h.mM
  have ho := h8.2 i (by omega) hir
  refine (d_read n pb c pc rb rc g i qv rs r wn f rs[i] rl[i] w h1 h7 hi (List.getElem?_eq_getElem (by omega)) ho.byt (ho.apart h1) (by rw [h.rn _ (List.getElem_mem hir)]; exact h.hn) (by omega)).mono ?_
  rintro e w' ⟨u, rfl, o1, o2, o3⟩
  have kk : KT B w w' := KT.of o3 fun k hk hs => by subst hs; exact kt_of h1 h.lg (by decide)
  have ko : ∀ u l, Own w u l 0 → Own w' u l 0 := fun u l o => o.kt kk
  have hpg : pb ≠ g := fun e => own_apart h5 h1 (by decide) (by rw [← e]; rfl)
  have hrg : rb ≠ g := fun e => own_apart h7 h1 (by decide) (by rw [← e]; rfl)
  have hqg := own_apart h9 h1 (by decide)
  exact ⟨u, rfl, o1, ⟨⟨qv, qs, ps, rs, r + 1, wn, f, o2, by omega, by omega, by omega, own_kept h5 o3 (fun k hk hs => by simp [Value.ownBlock] at hk; omega), h6.kept ko, own_kept h7 o3 (fun k hk hs => by simp [Value.ownBlock] at hk; omega), h8.kept ko, own_kept h9 o3 (fun k hk hs => hqg (by rw [hk, hs])), h10.kept ko, h11⟩, h.pn, h.rn, h.ne, h.lg, h.lp, h.lr, by omega, h.hn, h.hc⟩, kk, ⟨o3.mono (fun k _ hs => Or.inl hs), fun k hk hr => by rw [rowOf_dc o2] at hr; rw [rowOf_dc h1]; exact hr⟩⟩
end Go.Proofs.Yteoajgphahobiaa
