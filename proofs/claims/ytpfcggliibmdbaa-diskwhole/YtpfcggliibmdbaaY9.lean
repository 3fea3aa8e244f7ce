/- What DiskWhole holds while it plays: one Disk, the law's list of what it wrote; three Forks apart. -/
import Derived.Test.YtpfcggliibmdbaaY8
namespace Go.Proofs.Ytpfcggliibmdbaa
open Go.RowKit
set_option linter.unusedVariables false
theorem app_at (sel : List (Nat × List UInt8)) (j : Nat) : ∀ pl : List (List UInt8), j < pl.length → (app sel pl)[j]? = pl[j]? ∨ ∃ x ∈ sel, x.1 = j ∧ (app sel pl)[j]? = some x.2 := by
  unfold app
  induction sel with
  | nil => intro pl _; exact Or.inl rfl
  | cons x t ih =>
    intro pl hj
    rw [List.foldl_cons]
    rcases ih (pl.set x.1 x.2) (by simpa using hj) with h | ⟨y, hy, h1, h2⟩
    · by_cases hx : x.1 = j
      · refine Or.inr ⟨x, List.mem_cons_self .., hx, ?_⟩
        rw [h, hx, List.getElem?_set_self hj]
      · rw [List.getElem?_set_ne hx] at h
        exact Or.inl h
    · exact Or.inr ⟨y, List.mem_cons_of_mem _ hy, h1, h2⟩
/-- Numbers from 0 on. -/
def upTo (m : Nat) : List Int := (List.range m).map fun i : Nat => (i : Int)
theorem upTo_len (m : Nat) : (upTo m).length = m := by simp [upTo]
theorem upTo_succ (m : Nat) : upTo (m + 1) = upTo m ++ [(m : Int)] := by simp [upTo, List.range_succ]
theorem mayB_from (m : Nat) : ∀ (k y : Nat), y + k ≤ m → mayB m (y : Int) ((List.range' y k).map fun i : Nat => (i : Int)) = true
  | 0, y, _ => by simp [mayB]
  | k + 1, y, h => by
    rw [List.range'_succ, List.map_cons]
    unfold mayB
    rw [if_neg (by omega)]
    exact mayB_from m k (y + 1) (by omega)
theorem mayB_upTo (m : Nat) : mayB m 0 (upTo m) = true := by
  have := mayB_from m m 0 (by omega)
  unfold upTo
  rw [List.range_eq_range']
  exact this
theorem selOf_upTo (pend : List (Nat × List UInt8)) : selOf pend (upTo pend.length) = pend := by
  apply List.ext_getElem
  · simp [selOf, upTo]
  · intro i h1 h2
    simp [selOf, upTo, h2]
theorem flat_at {n : Nat} {pl : List (List UInt8)} (hn : ∀ l ∈ pl, l.length = n) (j : Nat) (hj : j < pl.length) : ∀ i (hi : i < pl[j].length), pl.flatten[j * n + i]? = some pl[j][i] := by
  intro i hi
  have hl : (pl.take j).flatten.length = j * n := by rw [flat_len (n := n) (fun l h => hn l (List.mem_of_mem_take h)), List.length_take, Nat.min_eq_left (by omega)]
  have hs : pl.flatten = (pl.take j).flatten ++ (pl[j] ++ (pl.drop (j + 1)).flatten) := by
    rw [← List.flatten_cons, ← List.flatten_append, ← List.drop_eq_getElem_cons hj, List.take_append_drop]
  rw [hs, List.getElem?_append_right (by omega), hl, Nat.add_sub_cancel_left, List.getElem?_append_left hi, List.getElem?_eq_getElem hi]
/-- A piece of an image. -/
theorem Own.piece {w : World} {gb n j : Nat} {pl : List (List UInt8)} {B L C : Nat} (h : Own w (.slice (some ⟨gb, 0, none⟩) L C) pl.flatten B) (hn : ∀ l ∈ pl, l.length = n) (hj : j < pl.length) (cap : Nat) : Byt w (.slice (some ⟨gb, j * n, none⟩) n cap) pl[j] := by
  obtain ⟨g', _, e, hb⟩ := h
  obtain ⟨rfl⟩ : gb = g' := by simpa using (Value.slice.inj e).1
  have hl : pl[j].length = n := hn _ (List.getElem_mem _)
  refine Or.inr ⟨⟨gb, j * n, none⟩, cap, by rw [hl], fun i hi => ?_⟩
  rw [add_none, blk_cell hb]
  rw [List.getElem?_toArray, List.getElem?_map, flat_at hn j hj i hi]
  rfl
/-- The Disk, and the law's list of writes. -/
structure WI (B n c g pb pc rb rc : Nat) (wv : Value) (ws : List Value) (p : List (Nat × List UInt8)) (s : St) (w : World) : Prop where
  y : YD B n c g pb pc rb rc s w
  row : w.ownsRow 0 58 2 wv p.length ws
  ql : QL w c n ws p
  ap : ∀ k, wv.ownBlock = some k → rowOf w g 3 ≠ some k
  ge : ∀ k, wv.ownBlock = some k → B ≤ k
theorem WI.same {B n c g pb pc rb rc : Nat} {wv : Value} {ws : List Value} {p : List (Nat × List UInt8)} {s : St} {w w' : World} (h : WI B n c g pb pc rb rc wv ws p s w) (k : Same w w') : WI B n c g pb pc rb rc wv ws p s w' :=
  ⟨h.y.same k, own_kept h.row k (fun _ _ h => h), h.ql.kept (fun u l o => o.same k), (fun i hi => by rw [rowOf_same h.y.lt.1 k]; exact h.ap i hi), h.ge⟩
/-- A call of the Disk leaves the law's list. -/
theorem WI.step {B n c g pb pc rb rc : Nat} {wv : Value} {ws : List Value} {p : List (Nat × List UInt8)} {s s' : St} {w w' : World} (h : WI B n c g pb pc rb rc wv ws p s w) (y : YD B n c g pb pc rb rc s' w') (k : KT B w w') (d : DF g pb rb w w') : WI B n c g pb pc rb rc wv ws p s' w' := by
  obtain ⟨qv, qs, ps, rs, h1, h5, h6, h7, h8, h9, _⟩ := h.y.ex
  refine ⟨y, own_kept h.row d.kept (fun i hi hs => ?_), h.ql.kept (fun u l o => o.kt k), fun i hi hr => ?_, h.ge⟩
  · rcases hs with e | e | e | e
    · exact own_apart h.row h1 (by decide) (by rw [hi, e])
    · rcases own_rows h.row h5 (by decide) with hx | hx
      · rw [hi] at hx; cases hx
      · exact hx (by rw [hi, e]; rfl)
    · rcases own_rows h.row h7 (by decide) with hx | hx
      · rw [hi] at hx; cases hx
      · exact hx (by rw [hi, e]; rfl)
    · exact h.ap i hi e
  · exact h.ap i hi (d.row i (h.row.lt i hi).2 hr)
/-- The law adds one to its list. -/
theorem WI.more {B n c g pb pc rb rc i gw cw : Nat} {wv : Value} {ws : List Value} {p : List (Nat × List UInt8)} {s : St} {w w' : World} {u : Value} {l : List UInt8} (h : WI B n c g pb pc rb rc wv ws p s w) (k : Kept (fun x => wv.ownBlock = some x) w w') (ho : w'.ownsRow 0 58 2 (.slice (some ⟨gw, 0, none⟩) (p.length + 1) cw) (p.length + 1) (ws ++ [.int .i64 i, u])) (hat : wv.ownBlock = some gw ∨ w.heap.size ≤ gw) (hu : Own w' u l 0) (hi : i < c) (hl : l.length = n) (hB : B ≤ w.heap.size) :
    WI B n c g pb pc rb rc (.slice (some ⟨gw, 0, none⟩) (p.length + 1) cw) (ws ++ [.int .i64 i, u]) (p ++ [(i, l)]) s w' := by
  obtain ⟨qv, qs, ps, rs, h1, h5, h6, h7, h8, h9, h10, h11, h12, h13⟩ := h.y.ex
  have kt : KT B w w' := KT.of k fun x hx hs => kt_row h.row hs (h.ge x hs) (by decide)
  have ko : ∀ u l, Own w u l 0 → Own w' u l 0 := fun u l o => o.kt kt
  have ng : wv.ownBlock ≠ some g := own_apart h.row h1 (by decide)
  have np : wv.ownBlock ≠ some pb := fun e => by
    rcases own_rows h.row h5 (by decide) with hx | hx
    · rw [e] at hx; cases hx
    · exact hx (by rw [e]; rfl)
  have nr : wv.ownBlock ≠ some rb := fun e => by
    rcases own_rows h.row h7 (by decide) with hx | hx
    · rw [e] at hx; cases hx
    · exact hx (by rw [e]; rfl)
  have hy := h.y.kept k kt ng np nr (fun x hx hs => h.ap x hs hx)
  have er : rowOf w' g 3 = rowOf w g 3 := by
    unfold rowOf
    rw [World.cell?_of_block (k.block g (blk_lt h1) ng)]
  have hwl : ws.length = p.length * 2 := h.row.1
  refine ⟨hy, by rw [List.length_append]; exact ho, ?_, ?_, ?_⟩
  · intro q hq
    by_cases hkm : q < p.length
    · obtain ⟨y, a, b, d, e', f'⟩ := h.ql q hkm
      refine ⟨y, ?_, ?_, ?_, ?_, ?_⟩
      · rw [List.getElem?_append_left (by omega), List.getElem_append_left hkm]; exact a
      · rw [List.getElem?_append_left (by omega)]; exact b
      · rw [List.getElem_append_left hkm]; exact ko _ _ d
      · rw [List.getElem_append_left hkm]; exact e'
      · rw [List.getElem_append_left hkm]; exact f'
    · obtain rfl : q = p.length := by rw [List.length_append] at hq; simp at hq; omega
      refine ⟨u, ?_, ?_, ?_, ?_, ?_⟩
      · rw [List.getElem?_append_right (by omega), hwl, Nat.sub_self]; simp
      · rw [List.getElem?_append_right (by omega), hwl, Nat.add_sub_cancel_left]; rfl
      · simpa using hu
      · simpa using hi
      · simpa using hl
  · intro x hx hr
    simp [Value.ownBlock] at hx
    subst hx
    rw [er] at hr
    rcases hat with ha | ha
    · exact h.ap _ ha hr
    · have := h.y.lt.2.2.2 _ hr; omega
  · intro x hx
    simp [Value.ownBlock] at hx
    subst hx
    rcases hat with ha | ha
    · exact h.ge _ ha
    · omega
theorem WI.nil {B n c g pb pc rb rc : Nat} {s : St} {w : World} (h : YD B n c g pb pc rb rc s w) : WI B n c g pb pc rb rc (.slice none 0 0) [] [] s w :=
  ⟨h, World.ownsRow_nil _ _ _ _, (fun k hk => absurd hk (by simp)), (fun k hk => by cases hk), (fun k hk => by cases hk)⟩
theorem Ap.third {B1 B2 B3 n c g1 pb1 pc1 rb1 rc1 g2 pb2 pc2 rb2 rc2 g3 pb3 pc3 rb3 rc3 : Nat} {s1 s2 s3 : St} {w w' : World} (h : Ap g2 pb2 rb2 g3 pb3 rb3 w) (a : YD B1 n c g1 pb1 pc1 rb1 rc1 s1 w) (b : YD B2 n c g2 pb2 pc2 rb2 rc2 s2 w) (e : YD B3 n c g3 pb3 pc3 rb3 rc3 s3 w) (h2 : Ap g1 pb1 rb1 g2 pb2 rb2 w) (h3 : Ap g1 pb1 rb1 g3 pb3 rb3 w) (d : DF g1 pb1 rb1 w w') : Ap g2 pb2 rb2 g3 pb3 rb3 w' := by
  have e2 : rowOf w' g2 3 = rowOf w g2 3 := by
    unfold rowOf
    rw [World.cell?_of_block (d.kept.block g2 b.lt.1 (h2.out a b).1)]
  have e3 : rowOf w' g3 3 = rowOf w g3 3 := by
    unfold rowOf
    rw [World.cell?_of_block (d.kept.block g3 e.lt.1 (h3.out a e).1)]
  exact ⟨h.gg, h.pp, h.pr, h.rp, h.rr, fun k x y => h.qq k (by rw [← e2]; exact x) (by rw [← e3]; exact y)⟩
/-- Three Disks, apart. -/
structure Tri (B n c g1 pb1 pc1 rb1 rc1 g2 pb2 pc2 rb2 rc2 g3 pb3 pc3 rb3 rc3 : Nat) (s1 s2 s3 : St) (w : World) : Prop where
  a : YD B n c g1 pb1 pc1 rb1 rc1 s1 w
  b : YD B n c g2 pb2 pc2 rb2 rc2 s2 w
  c : YD B n c g3 pb3 pc3 rb3 rc3 s3 w
  ab : Ap g1 pb1 rb1 g2 pb2 rb2 w
  ac : Ap g1 pb1 rb1 g3 pb3 rb3 w
  bc : Ap g2 pb2 rb2 g3 pb3 rb3 w
theorem Ap.same {B1 B2 n1 c1 n2 c2 g1 pb1 pc1 rb1 rc1 g2 pb2 pc2 rb2 rc2 : Nat} {s1 s2 : St} {w w' : World} (h : Ap g1 pb1 rb1 g2 pb2 rb2 w) (a : YD B1 n1 c1 g1 pb1 pc1 rb1 rc1 s1 w) (b : YD B2 n2 c2 g2 pb2 pc2 rb2 rc2 s2 w) (k : Same w w') : Ap g1 pb1 rb1 g2 pb2 rb2 w' :=
  ⟨h.gg, h.pp, h.pr, h.rp, h.rr, fun i h1 h2 => by
    rw [rowOf_same a.lt.1 k] at h1
    rw [rowOf_same b.lt.1 k] at h2
    exact h.qq i h1 h2⟩
theorem Tri.same {B n c g1 pb1 pc1 rb1 rc1 g2 pb2 pc2 rb2 rc2 g3 pb3 pc3 rb3 rc3 : Nat} {s1 s2 s3 : St} {w w' : World} (h : Tri B n c g1 pb1 pc1 rb1 rc1 g2 pb2 pc2 rb2 rc2 g3 pb3 pc3 rb3 rc3 s1 s2 s3 w) (k : Same w w') : Tri B n c g1 pb1 pc1 rb1 rc1 g2 pb2 pc2 rb2 rc2 g3 pb3 pc3 rb3 rc3 s1 s2 s3 w' :=
  ⟨h.a.same k, h.b.same k, h.c.same k, h.ab.same h.a h.b k, h.ac.same h.a h.c k, h.bc.same h.b h.c k⟩
theorem Tri.stepA {B n c g1 pb1 pc1 rb1 rc1 g2 pb2 pc2 rb2 rc2 g3 pb3 pc3 rb3 rc3 : Nat} {s1 s2 s3 s' : St} {w w' : World} (h : Tri B n c g1 pb1 pc1 rb1 rc1 g2 pb2 pc2 rb2 rc2 g3 pb3 pc3 rb3 rc3 s1 s2 s3 w) (y : YD B n c g1 pb1 pc1 rb1 rc1 s' w') (k : KT B w w') (d : DF g1 pb1 rb1 w w') : Tri B n c g1 pb1 pc1 rb1 rc1 g2 pb2 pc2 rb2 rc2 g3 pb3 pc3 rb3 rc3 s' s2 s3 w' :=
  let ⟨b, ab⟩ := h.b.other h.a h.ab k d
  let ⟨e, ac⟩ := h.c.other h.a h.ac k d
  ⟨y, b, e, ab, ac, h.bc.third h.a h.b h.c h.ab h.ac d⟩
theorem Tri.stepB {B n c g1 pb1 pc1 rb1 rc1 g2 pb2 pc2 rb2 rc2 g3 pb3 pc3 rb3 rc3 : Nat} {s1 s2 s3 s' : St} {w w' : World} (h : Tri B n c g1 pb1 pc1 rb1 rc1 g2 pb2 pc2 rb2 rc2 g3 pb3 pc3 rb3 rc3 s1 s2 s3 w) (y : YD B n c g2 pb2 pc2 rb2 rc2 s' w') (k : KT B w w') (d : DF g2 pb2 rb2 w w') : Tri B n c g1 pb1 pc1 rb1 rc1 g2 pb2 pc2 rb2 rc2 g3 pb3 pc3 rb3 rc3 s1 s' s3 w' :=
  let ⟨a, ab⟩ := h.a.other h.b h.ab.symm k d
  let ⟨e, bc⟩ := h.c.other h.b h.bc k d
  ⟨a, y, e, ab.symm, h.ac.third h.b h.a h.c h.ab.symm h.bc d, bc⟩
theorem Tri.stepC {B n c g1 pb1 pc1 rb1 rc1 g2 pb2 pc2 rb2 rc2 g3 pb3 pc3 rb3 rc3 : Nat} {s1 s2 s3 s' : St} {w w' : World} (h : Tri B n c g1 pb1 pc1 rb1 rc1 g2 pb2 pc2 rb2 rc2 g3 pb3 pc3 rb3 rc3 s1 s2 s3 w) (y : YD B n c g3 pb3 pc3 rb3 rc3 s' w') (k : KT B w w') (d : DF g3 pb3 rb3 w w') : Tri B n c g1 pb1 pc1 rb1 rc1 g2 pb2 pc2 rb2 rc2 g3 pb3 pc3 rb3 rc3 s1 s2 s' w' :=
  let ⟨a, ac⟩ := h.a.other h.c h.ac.symm k d
  let ⟨b, bc⟩ := h.b.other h.c h.bc.symm k d
  ⟨a, b, y, h.ab.third h.c h.a h.b h.ac.symm h.bc.symm d, ac.symm, bc.symm⟩
theorem Tri.of {n c g1 pb1 pc1 rb1 rc1 g2 pb2 pc2 rb2 rc2 g3 pb3 pc3 rb3 rc3 : Nat} {s1 s2 s3 : St} {w0 w1 w2 w3 : World} (a : YD w0.heap.size n c g1 pb1 pc1 rb1 rc1 s1 w1) (k1 : Same w0 w1) (b : YD w1.heap.size n c g2 pb2 pc2 rb2 rc2 s2 w2) (k2 : Same w1 w2) (e : YD w2.heap.size n c g3 pb3 pc3 rb3 rc3 s3 w3) (k3 : Same w2 w3) : Tri w0.heap.size n c g1 pb1 pc1 rb1 rc1 g2 pb2 pc2 rb2 rc2 g3 pb3 pc3 rb3 rc3 s1 s2 s3 w3 := by
  have a2 := a.same k2
  have a3 := a2.same k3
  have b3 := b.same k3
  obtain ⟨x1, x2, x3, x4⟩ := a.lt
  obtain ⟨y1, y2, y3, y4⟩ := a2.lt
  obtain ⟨z1, z2, z3, z4⟩ := b.lt
  have s1 := k1.size
  have s2 := k2.size
  exact ⟨a3, b3.weak s1, e.weak (by omega), (Ap.of a2 b x1 x2 x3 (fun k hk => x4 k (by rw [rowOf_same x1 k2] at hk; exact hk))).same a2 b k3, Ap.of a3 e y1 y2 y3 (fun k hk => y4 k (by rw [rowOf_same y1 k3] at hk; exact hk)), Ap.of b3 e z1 z2 z3 (fun k hk => z4 k (by rw [rowOf_same z1 k3] at hk; exact hk))⟩
end Go.Proofs.Ytpfcggliibmdbaa
