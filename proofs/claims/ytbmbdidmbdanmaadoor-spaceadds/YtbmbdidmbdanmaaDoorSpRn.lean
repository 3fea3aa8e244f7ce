/- The law's runs: a Space's runs, gone over up to one of them, then whole, are those that the document tells. (Made by mksprn.py.) -/
import Derived.Test.YtbmbdidmbdanmaaDoorSpD1
namespace Go.Proofs.YtbmbdidmbdanmaaDoor
open Go.RowKit Go.Shelf
set_option linter.unusedVariables false
set_option linter.unusedSimpArgs false
variable {zp : Spare}
attribute [local go_sem] Oper.semAt_some
theorem blk_off {w : World} {g b j : Nat} {o : Obj} {v : Value} (h : w.heap[g]? = some o) (hne : b ≠ g) : (w.setCell ⟨b, j, none⟩ v).heap[g]? = some o :=
  blk_kept ((Kept.refl (fun k => k = b) w).setCell (p := ⟨b, j, none⟩) rfl v) (Ne.symm hne) h
/-- The law's boxes: the wanted items, the stop, the result. -/
structure GB (w : World) (q bW bS bR : Nat) (vw : Value) (st : Int) (W : World) : Prop where
  same : Same w W
  want : W.heap[bW]? = some (.cells #[vw] 77 (0, 0))
  stop : W.heap[bS]? = some (.cells #[.int .i64 st] 3 (0, 0))
  res : W.heap[bR]? = some (.cells #[.bool false] 4 (0, 0))
  l1 : bW < q
  l2 : bS < q
  l3 : bR < q
  l4 : w.heap.size ≤ bR
theorem GB.kept {w W W' : World} {q bW bS bR : Nat} {vw : Value} {st : Int} (h : GB w q bW bS bR vw st W) (k : Kept (fun j => q ≤ j) W W') : GB w q bW bS bR vw st W' :=
  ⟨h.same.trans' k (fun i hi e => by have := h.l3; have := h.l4; omega), blk_kept k (by have := h.l1; omega) h.want, blk_kept k (by have := h.l2; omega) h.stop, blk_kept k (by have := h.l3; omega) h.res, h.l1, h.l2, h.l3, h.l4⟩
/-- What stands in a round over the iterator. -/
structure GI {count : Nat} (W0 : World) (q bi br : Nat) (r : Int) (L : List (Rn count)) (Ds : List Nat) (N0 : Nat) (pre : List (Rn count)) (X : World) : Prop where
  kept : Kept (fun j => q ≤ j) W0 X
  ib : X.heap[bi]? = some (.cells #[.int .i64 (pre.length : Nat)] 3 (0, 0))
  rb : X.heap[br]? = some (.cells #[.int .i64 r] 3 (0, 0))
  pf : pre <+: L
  ds : ∀ D ∈ Ds, X.heap[D]? = some (.deferred (some []))
  big : N0 ≤ X.heap.size
theorem GI.own {count : Nat} {W0 : World} {q bi br : Nat} {r : Int} {L : List (Rn count)} {Ds : List Nat} {N0 N : Nat} (h1 : bi < N) (h2 : br < N) (hq : q ≤ N) (hD : ∀ D ∈ Ds, D < N) : OwnFrom N (GI W0 q bi br r L Ds N0) := fun pre A B row hs hg hr =>
  ⟨hs.kept.grown hg (fun k e _ => by have := (hr k e).1; omega), (hg.block bi (blk_lt hs.ib) (fun e => by have := (hr bi e.symm).1; omega)).trans hs.ib, (hg.block br (blk_lt hs.rb) (fun e => by have := (hr br e.symm).1; omega)).trans hs.rb, hs.pf,
    fun D hd => (hg.block D (blk_lt (hs.ds D hd)) (fun e => by have := (hr D e.symm).1; have := hD D hd; omega)).trans (hs.ds D hd), Nat.le_trans hs.big hg.size⟩
theorem GI.same {count : Nat} {W0 : World} {q bi br : Nat} {r : Int} {L : List (Rn count)} {Ds : List Nat} {N0 : Nat} {pre : List (Rn count)} {X X' : World} (h : GI W0 q bi br r L Ds N0 pre X) (k : Same X X') : GI W0 q bi br r L Ds N0 pre X' :=
  ⟨h.kept.trans (k.mono (fun _ _ h => h.elim)), blk_kept k (fun h => h) h.ib, blk_kept k (fun h => h) h.rb, h.pf, fun D hd => blk_kept k (fun h => h) (h.ds D hd), Nat.le_trans h.big k.size⟩
theorem pf_iffA {α : Type} {pre l : List α} {i : Nat} {x e : α} (hp : pre <+: l) (hl : pre.length = i) (he : l[i]? = some e) : (pre ++ [x]) <+: l ↔ x = e := by
  obtain ⟨q, rfl⟩ := hp
  rw [List.prefix_append_right_inj]
  rw [List.getElem?_append_right (by omega)] at he
  have e0 : i - pre.length = 0 := by omega
  rw [e0] at he
  rcases q with _ | ⟨c, q⟩
  · simp at he
  · simp at he
    subst he
    simp [List.cons_prefix_cons]
theorem keepsFrom_one {B b : Nat} {W W' : World} (k : Kept (fun j => j = b) W W') (hb : b < B) : KeepsFrom B W W' :=
  ⟨k.size, fun i o hB hi _ => (k.block i (Array.getElem?_eq_some_iff.1 hi).1 (by omega)).trans hi⟩
theorem two_defers_cell {W : World} {bR D E : Nat} (c : W.cell? ⟨bR, 0, none⟩ = some (.bool true)) (h1 : bR ≠ D) (h2 : bR ≠ E) : ((W.putObj D (.deferred none)).putObj E (.deferred none)).cell? ⟨bR, 0, none⟩ = some (.bool true) :=
  Kept.cell ((kept_putObj (S := fun k => k = D ∨ k = E) _ D _ (Or.inl rfl)).trans (kept_putObj _ E _ (Or.inr rfl))) (by simp; omega) c
/-- A round over areas, each in a box of its own. -/
theorem range_areas {F : Fence} {n : Nat} {P : Program} {first count : Nat} {g : Operand} {ps : Array Tmp} {assign body : Code} {Q : Exit → Act → World → Prop} {a : Act} {w : World} (s1 s2 : Nat)
    (hro : F.round = none) (h1 : 1 ≤ n) {gf : Nat} {lb : Array Value} (hg : a.eval g = .func (.func gf) #[] lb) (hFg : F.fn gf) (eg : ∀ args w, (callFunc gf args).run P w = .ok (.enter gf args) w)
    {Kp : World → World → Prop} {S Sp : List (Rn count) → Prop} {N : Nat} {w0 : World} (hseq : SeqStopsK F (n - 1) P gf lb (encR first (count := count)) Kp S Sp N w0)
    (hKt : ∀ {A B C : World}, Kp A B → Kp B C → Kp A C) (hKb : ∀ (W : World) (l : Nat) (o o' : Obj), w.heap.size ≤ l → W.heap[l]? = some o → o.isCells = false → o.isWalk = false → Kp W (W.putObj l o')) (hb0 : Below w0.heap.size w0 w) (hps : 1 = ps.size)
    (I : List (Rn count) → World → Prop) (Ix : Code → List (Rn count) → World → Prop) (hI : OwnFrom w.heap.size I) (hIx : ∀ c, OwnFrom w.heap.size (Ix c)) (h0 : I [] w)
    (hassign : ∀ (l : Nat) (pre : List (Rn count)) (x : Rn count) (W : World) (K : Act → World → Prop), I pre W → (∀ a' W', KeepsFrom w.heap.size W W' → Kp W W' → I pre W' → (∃ Bx, w.heap.size ≤ Bx ∧ W'.heap[Bx]? = some (.cells #[.int .i64 ((first : Int) + (x.1.1 : Int)), .int .i64 (x.1.2 : Int)] 30 (0, 0)) ∧ a' = { tmps := (a.tmps.setIfInBounds s1 (.agg #[.int .i64 ((first : Int) + (x.1.1 : Int)), .int .i64 (x.1.2 : Int)])).setIfInBounds s2 (.pointer (some ⟨Bx, 0, none⟩)), defers := [] }) → K a' W') →
      assign.wpIn (F.inRound l) (n - 1 - 1) P (Exit.then K (fun _ _ _ => False)) { tmps := (ps.zip (encR first x)).foldl (fun t (p, v) => t.setIfInBounds p v) a.tmps, defers := [] } W)
    (hbody : ∀ (l : Nat) (pre : List (Rn count)) (x : Rn count) (Bx : Nat) (W : World), I pre W → w.heap.size ≤ Bx → W.heap[Bx]? = some (.cells #[.int .i64 ((first : Int) + (x.1.1 : Int)), .int .i64 (x.1.2 : Int)] 30 (0, 0)) → pre.length < N → body.wpIn (F.inRound l) (n - 1 - 1) P (ownPostG w.heap.size Kp I Ix (pre ++ [x]) W) { tmps := (a.tmps.setIfInBounds s1 (.agg #[.int .i64 ((first : Int) + (x.1.1 : Int)), .int .i64 (x.1.2 : Int)])).setIfInBounds s2 (.pointer (some ⟨Bx, 0, none⟩)), defers := [] } W)
    (hdone : ∀ (D : Nat) (xs : List (Rn count)) (W : World), w.heap.size ≤ D → S xs → I xs W → W.heap[D]? = some (.deferred (some [])) → Q .normal { a with defers := { target := .collected D, args := #[] } :: a.defers } W)
    (hstop : ∀ (D : Nat) (c : Code) (pre : List (Rn count)) (W : World), w.heap.size ≤ D → Sp pre → Ix c pre W → W.heap[D]? = some (.deferred (some [])) → c.wpIn F n P Q { a with defers := { target := .collected D, args := #[] } :: a.defers } W) :
    (Code.rangeFunc g ps assign body).wpIn F n P Q a w :=
  wpIn_rangeFunc_ownH hro h1 hg hFg eg hseq hKt hKb hb0 (fun _ => hps) I Ix hI hIx h0
    (fun x a' W => ∃ Bx, w.heap.size ≤ Bx ∧ W.heap[Bx]? = some (.cells #[.int .i64 ((first : Int) + (x.1.1 : Int)), .int .i64 (x.1.2 : Int)] 30 (0, 0)) ∧ a' = { tmps := (a.tmps.setIfInBounds s1 (.agg #[.int .i64 ((first : Int) + (x.1.1 : Int)), .int .i64 (x.1.2 : Int)])).setIfInBounds s2 (.pointer (some ⟨Bx, 0, none⟩)), defers := [] })
    (fun x a' _ A B row hs hg hr => by
      obtain ⟨Bx, h1, h2, h3⟩ := hs
      refine ⟨Bx, h1, ?_, h3⟩
      refine (hg.block Bx (blk_lt h2) (fun e => ?_)).trans h2
      obtain ⟨_, o, ho, hc⟩ := hr Bx e.symm
      rw [h2] at ho
      rw [← Option.some.inj ho] at hc
      cases hc)
    hassign (fun l pre x a' W _ _ hi hx hl => by
      obtain ⟨Bx, h1, h2, h3⟩ := hx
      rw [h3]
      exact hbody l pre x Bx W hi h1 h2 hl) hdone hstop
theorem rf_items {w w2 W : World} {first count q : Nat} {l : List (Nat × Nat)} {a : Option Addr} {n c i : Nat} (hb : ∀ r ∈ l, r.1 + r.2 ≤ count) (hn : n = l.length) (ho : w2.ownsRow w.heap.size 30 2 (.slice a n c) n (flA first l)) (k : Kept (fun j => q ≤ j) w2 W) (hq : w2.heap.size ≤ q) (hi : i < n) :
    ∃ (bb : Nat) (y : Rn count), a = some ⟨bb, 0, none⟩ ∧ (lf count l)[i]? = some y ∧ W.cell? ⟨bb, i * 2, none⟩ = some (.int .i64 ((first : Int) + (y.1.1 : Int))) ∧ W.cell? ⟨bb, i * 2 + 1, none⟩ = some (.int .i64 (y.1.2 : Int)) := by
  obtain ⟨bb, rfl, hbb⟩ := own_formR ho (by omega)
  have hil : i < l.length := by omega
  obtain ⟨e1, e2⟩ := flA_at first l i hil
  have c1 := own_cellN ho _ e1
  have c2 := own_cellN ho _ e2
  have hlt := World.block_lt_of_cell? w2 _ c1
  have hm := lf_map count l hb
  have hil2 : i < (lf count l).length := by rw [← hm, List.length_map] at hil; exact hil
  refine ⟨bb, (lf count l)[i], rfl, List.getElem?_eq_getElem hil2, ?_, ?_⟩
  · have e : ((lf count l)[i]).1 = l[i] := by
      have := List.getElem_map (f := fun r : Rn count => r.1) (l := lf count l) (i := i) (h := by rw [List.length_map]; exact hil2)
      rw [← this]
      congr 1
    rw [e]
    exact k.cell (p := ⟨bb, i * 2, none⟩) (by show ¬ q ≤ bb; simp at hlt; omega) c1
  · have e : ((lf count l)[i]).1 = l[i] := by
      have := List.getElem_map (f := fun r : Rn count => r.1) (l := lf count l) (i := i) (h := by rw [List.length_map]; exact hil2)
      rw [← this]
      congr 1
    rw [e]
    exact k.cell (p := ⟨bb, i * 2 + 1, none⟩) (by show ¬ q ≤ bb; simp at hlt; omega) c2
set_option maxRecDepth 100000 in
set_option maxHeartbeats 1000000 in
theorem runs_walk {g qr rr first count : Nat} {u v : Nat → Bool} {res : Nat} (st : Int) (w : World) (h : Pr zp g qr rr first count u v res w) (hst1 : -9223372036854775808 ≤ st) (hst2 : st ≤ 9223372036854775807) :
    Calls Tryd.prog 41 #[.pointer (some ⟨g, 0, none⟩), .pointer (some ⟨qr, 0, none⟩), .int .i64 st] w fun e w' => e = .returned (.bool true) ∧ Same w w' := by
  have l3 := h.pl.fits
  have hgl : g < w.heap.size := by obtain ⟨cs, hb, _⟩ := h.sp.box; exact blk_lt hb
  have hTb := TabB.of h.tab
  have htl : 0 < w.heap.size := by obtain ⟨cs, t, fz, hb⟩ := hTb.ex; exact blk_lt hb
  have HH := hidden (fun W (k : Same w W) => h.keep k)
  have HTB := hidden (fun W (k : Same w W) => hTb.same k)
  have CS := hidden (fun W (k : Same w W) => (callsIn_wide (n := 5)).2 (rf_runs qr rr first count u v res W (h.keep k).rf (by omega)))
  have CP := hidden (fun x W => (callsIn_wide (n := 5)).2 (runs_fn x W))
  have HE := hidden (rp_ends (fun i => u i || v i) count)
  have hll : (rp (fun i => u i || v i) count).length ≤ 4096 := by have := rp_len (fun i => u i || v i) count; omega
  clear h hTb
  refine (callsIn_wide (n := 6)).1 ?_
  refine callsIn_of_wp_marks Tryd.func41 rfl trivial ?_ rfl
  simp only [Tryd.ntmps41, List.size_toArray, List.length_cons, List.length_nil, Nat.reduceAdd, Nat.reduceSub, Array.replicate_succ, Array.replicate_zero, List.push_toArray, List.append_toArray, List.nil_append, List.cons_append]
  gi_wp2_with (first
    | (refine ⟨trivial, ?_⟩; gi_at_call 54; refine (CS.out _ (((Kept.refl _ w).alloc _).alloc _)).mono ?_; rintro e w2 ⟨a0, n, c0, rfl, hn, r2, k2⟩; have K2 := hidden k2; have R2 := hidden r2; have HN0 := hidden hn; clear k2 r2 hn)
    | (refine ⟨trivial, ?_⟩; gi_at_call 22; refine (CP.out _ _).mono ?_; rintro e w3 ⟨rfl, hw3⟩; have HW3 := hidden hw3; clear hw3))
  obtain ⟨W0, hW0⟩ : ∃ X, X = w3.alloc (.cells #[.int .i64 0] 3) := ⟨_, rfl⟩
  rw [← hW0]
  have s2 : w.heap.size + 2 ≤ w2.heap.size := by have := K2.out.size; simp at this; omega
  have hs3 : w3.heap.size = w2.heap.size + 2 := by rw [← HW3.out]; simp
  have hs0 : W0.heap.size = w3.heap.size + 1 := by rw [hW0]; simp
  have k23 : Same w2 w3 := by rw [← HW3.out]; exact ((Kept.refl _ w2).alloc _).alloc _
  have kA : Same w2 W0 := by rw [hW0]; exact k23.alloc _
  have kB : Same w3 W0 := by rw [hW0]; exact same_alloc _ _
  have kw0 : Same w W0 := ((Kept.refl _ w).alloc _).alloc _ |>.trans (K2.out.trans kA)
  have f1 : W0.heap[w.heap.size]? = some (.cells #[.int .i64 st] 3 (0, 0)) := blk_kept (K2.out.trans kA) (fun h => h) (blk_alloc (blk_new w _) _)
  have f2 : W0.heap[w.heap.size + 1]? = some (.cells #[.bool false] 4 (0, 0)) := blk_kept (K2.out.trans kA) (fun h => h) (by
    have z := blk_new (w.alloc (.cells #[.int .i64 st] 3)) (.cells #[.bool false] 4)
    rw [World.size_alloc] at z
    exact z)
  have f0 : W0.heap[w2.heap.size]? = some (.cells #[.slice a0 n c0] 77 (0, 0)) := by rw [hW0, ← HW3.out]; exact blk_alloc (blk_alloc (blk_new w2 _) _) _
  have fi : W0.heap[w2.heap.size + 1]? = some (.cells #[.pointer (some ⟨g, 0, none⟩)] 25 (0, 0)) := by
    rw [hW0, ← HW3.out]
    have z := blk_new (w2.alloc (.cells #[.slice a0 n c0] 77)) (.cells #[.pointer (some ⟨g, 0, none⟩)] 25)
    rw [World.size_alloc] at z
    exact blk_alloc z _
  have fr : W0.heap[w3.heap.size]? = some (.cells #[.int .i64 0] 3 (0, 0)) := by rw [hW0]; exact blk_new w3 _
  obtain ⟨q, hq⟩ : ∃ q, q = w3.heap.size := ⟨_, rfl⟩
  obtain ⟨L, hL⟩ : ∃ L, L = lf count (rp (fun i => u i || v i) count) := ⟨_, rfl⟩
  have HN : Hid (L.length = n) := by
    have z := congrArg List.length (lf_map count (rp (fun i => u i || v i) count) (fun r hr => (HE.out r hr).1))
    rw [List.length_map] at z
    rw [HN0.out, hL]
    exact z
  have hn5 : n ≤ 4096 := by rw [HN0.out]; exact hll
  have HAt : Hid (∀ W, Kept (fun j => q ≤ j) W0 W → ∀ i, i < n → ∃ (bb : Nat) (y : Rn count), a0 = some ⟨bb, 0, none⟩ ∧ L[i]? = some y ∧ W.cell? ⟨bb, i * 2, none⟩ = some (.int .i64 ((first : Int) + (y.1.1 : Int))) ∧ W.cell? ⟨bb, i * 2 + 1, none⟩ = some (.int .i64 (y.1.2 : Int))) := fun W kW i hi => by
    rw [hL]
    exact rf_items (fun r hr => (HE.out r hr).1) HN0.out R2.out ((kA.mono (fun k _ h => h.elim)).trans kW) (by omega) hi
  have G0 : Hid (GB w q w2.heap.size w.heap.size (w.heap.size + 1) (.slice a0 n c0) st W0) := ⟨kw0, f0, f1, f2, by omega, by omega, by omega, by omega⟩
  obtain ⟨bA, hbA⟩ : ∃ b, b = w2.heap.size + 1 := ⟨_, rfl⟩
  rw [← hbA] at fi ⊢
  have FI := hidden fi
  have hAq : bA < q := by omega
  have hgq : g < q := by omega
  have htq : 0 < q := by omega
  have PW : Hid (∀ W, Kept (fun j => q ≤ j) W0 W → SpAt g first count u v res W ∧ TabB W) := fun W kW => ⟨(HH.out _ kw0).sp.kept kW (by omega), (HTB.out _ kw0).kc (X := fun j => q ≤ j) (KC.of kW (fun _ h => h)) (by show ¬ q ≤ _; omega)⟩
  have HIT : Hid (∀ W b, Kept (fun j => q ≤ j) W0 W → q ≤ b → b < W.heap.size → SeqStopsK Fence.wide 5 Tryd.prog 51 #[.pointer (some ⟨bA, 0, none⟩)] (encR first (count := count)) (KC (fun j => j = b)) (fun ys => ys = L) (fun pre => pre <+: L) L.length W) := fun W b kW hb1 hb2 => by
    rw [hL]
    exact runs_stops (fun j => j = b) W bA g first count u v res (blk_kept kW (by show ¬ q ≤ bA; omega) FI.out) (PW.out W kW).1 (PW.out W kW).2 (by omega) (by omega) (by omega) (fun j hj => by omega)
  obtain ⟨br, hbr⟩ : ∃ b, b = w3.heap.size := ⟨_, rfl⟩
  have F0 : Hid (W0.heap[br]? = some (.cells #[.int .i64 0] 3 (0, 0))) := by rw [hbr]; exact fr
  have hq0 : q ≤ br := by omega
  have hbrl : br < W0.heap.size := by omega
  obtain ⟨bR, hbR⟩ : ∃ b, b = w.heap.size + 1 := ⟨_, rfl⟩
  obtain ⟨bS, hbS⟩ : ∃ b, b = w.heap.size := ⟨_, rfl⟩
  obtain ⟨bW, hbW⟩ : ∃ b, b = w2.heap.size := ⟨_, rfl⟩
  have G1 : Hid (GB w q bW bS bR (.slice a0 n c0) st W0) := by rw [hbW, hbS, hbR]; exact G0.out
  rw [← hbr, ← hbW, ← hbR, ← hbS]
  have hwq : w.heap.size ≤ q := by omega
  have hwS : w.heap.size = bS := hbS.symm
  have HwS := hidden hwS
  clear hW0 f0 f1 f2 fi fr kw0 hs0 G0 hbr hbR hbS hbW hq s2 hs3 k23 kA kB hL FI hwS hbA HW3 K2 R2 HN0 CS CP HH HTB HE PW hgl htl hgq htq hll
  refine wpIn_loop_rounds 3 ?_
  rw [roundsIn_succ]
  have k00 : Kept (fun j => q ≤ j) W0 W0 := Kept.refl _ _
  have rcA0 : W0.cell? ⟨br, 0, none⟩ = some (.int .i64 0) := blk_cell F0.out
  gi_wp2
  obtain ⟨bA0, hbiA0⟩ : ∃ b, b = W0.heap.size := ⟨_, rfl⟩
  obtain ⟨WBA0, hWB⟩ : ∃ X, X = W0.alloc (.cells #[.int .i64 0] 3) := ⟨_, rfl⟩
  rw [← hWB]
  have kWB : Kept (fun j => q ≤ j) W0 WBA0 := by rw [hWB]; exact Kept.alloc k00 _
  have bI : WBA0.heap[bA0]? = some (.cells #[.int .i64 0] 3 (0, 0)) := by rw [hWB, hbiA0]; exact heap_alloc_new W0 _
  have sBA0 : bA0 < WBA0.heap.size := by rw [hWB, hbiA0]; simp
  have bRr : WBA0.heap[br]? = some (.cells #[.int .i64 0] 3 (0, 0)) := by rw [hWB]; exact blk_alloc F0.out _
  have qiA0 : q ≤ bA0 := by omega
  have bneA0 : br < bA0 := by rw [hbiA0]; exact hbrl
  have GIA0 : Hid (GI W0 q bA0 br 0 L [] WBA0.heap.size [] WBA0) := ⟨kWB, bI, bRr, List.nil_prefix, (fun D hD => by cases hD), Nat.le_refl _⟩
  have hrunA0 := HIT.out WBA0 bA0 kWB qiA0 sBA0
  have dslA0 : ∀ D ∈ ([] : List Nat), D < WBA0.heap.size := fun D hD => blk_lt (GIA0.out.ds D hD)
  rw [← hbiA0]
  have hbxA0 := hidden hbiA0
  clear hWB kWB bI bRr hbiA0
  refine range_areas (first := first) (count := count) 21 11 rfl (by decide) (gf := 51) (lb := #[.pointer (some ⟨bA, 0, none⟩)]) rfl trivial (enters_of (Tryd.func51) (by kernel_rfl) rfl)
    hrunA0 (fun h k => h.trans k) (fun W l o o' _ hl ho _ => KC.putObj _ W l o o' hl ho) (Below.refl _ _) rfl
    (GI W0 q bA0 br 0 L [] WBA0.heap.size) (fun c pre X => ¬ pre <+: L ∨ (c = .exit 2 ∧ (pre.length : Int) = st ∧ GI W0 q bA0 br 0 L [] WBA0.heap.size pre X))
    (GI.own (by omega) (by omega) (by omega) dslA0) (fun c pre A B row hs hg hr => hs.imp id (fun ⟨e, f, i⟩ => ⟨e, f, GI.own (by omega) (by omega) (by omega) dslA0 pre A B row i hg hr⟩)) GIA0.out
    ?assignA0 ?bodyA0 ?doneA0 ?stopA0
  case assignA0 =>
    intro lp pre x W K hi hK
    gi_wp2
    have hbg : WBA0.heap.size ≤ W.heap.size := hi.big
    have nb := blk_new W (.cells #[.int .i64 ((first : Int) + (x.1.1 : Int)), .int .i64 (x.1.2 : Int)] 30)
    have kk : Same W (W.alloc (.cells #[.int .i64 ((first : Int) + (x.1.1 : Int)), .int .i64 (x.1.2 : Int)] 30)) := same_alloc _ _
    have ko := (KeepsOthers.alloc W (.cells #[.int .i64 ((first : Int) + (x.1.1 : Int)), .int .i64 (x.1.2 : Int)] 30)).from WBA0.heap.size
    generalize W.heap.size = Bx at *
    exact hK _ _ ko (KC.of kk (fun _ h => h.elim)) (hi.same kk) ⟨Bx, hbg, nb, by simp⟩
  case bodyA0 =>
    intro lp pre x Bx W hG hBx hbx hlt
    simp only [List.setIfInBounds_toArray, List.set_cons_succ, List.set_cons_zero]
    obtain ⟨⟨xa, xn⟩, hx⟩ := x
    dsimp only at hbx
    have GK : Hid (Kept (fun j => q ≤ j) W0 W) := hG.kept
    obtain ⟨i, hi⟩ : ∃ i, pre.length = i := ⟨_, rfl⟩
    have HI := hidden hi
    have hin : i < n := by rw [← hi, ← HN.out]; exact hlt
    have gib := hG.ib
    rw [hi] at gib
    obtain ⟨bb, y, rfl, hay, u0, u1⟩ := HAt.out W GK.out i hin
    have gb := G1.out.kept GK.out
    have PFX : Hid ((pre ++ [⟨(xa, xn), hx⟩]) <+: L ↔ (⟨(xa, xn), hx⟩ : Rn count) = y) := pf_iffA hG.pf hi hay
    obtain ⟨⟨ya, yn⟩, hy⟩ := y
    dsimp only at u0 u1
    have z0 : W.cell? ⟨bW, 0, none⟩ = some (.slice (some ⟨bb, 0, none⟩) n c0) := blk_cell gb.want
    have z4 : W.cell? ⟨bA0, 0, none⟩ = some (.int .i64 i) := blk_cell gib
    have x0 : W.cell? ⟨Bx, 0, none⟩ = some (.int .i64 ((first : Int) + (xa : Int))) := blk_cell hbx
    have x1 : W.cell? ⟨Bx, 1, none⟩ = some (.int .i64 (xn : Int)) := blk_cell hbx
    have q1 : ¬ (n : Int) ≤ (i : Int) := by omega
    have q1d : decide ((n : Int) ≤ (i : Int)) = false := by simp; omega
    have q1e : decide (n ≤ i) = false := by simp; omega
    have q2 : (i : Int) < (n : Int) := by omega
    have q3 : (0 : Int) ≤ (i : Int) := Int.natCast_nonneg _
    have HG := hidden hG
    have hlR : bR < WBA0.heap.size := by have := gb.l3; omega
    have hb3 : bR ≠ br := by have := gb.l3; omega
    clear hi hay gib hG hlt gb hbx
    generalize hA : (first : Int) + (xa : Int) = A at *
    generalize hB : (first : Int) + (ya : Int) = B at *
    have HA := hidden hA
    have HB := hidden hB
    clear hA hB
    by_cases hv : A = B ∧ xn = yn
    · obtain ⟨rfl, rfl⟩ := hv
      have PF : Hid ((pre ++ [⟨(xa, xn), hx⟩]) <+: L) := PFX.out.2 (by have e1 := HA.out; have e2 := HB.out; have e3 : xa = ya := (by omega); subst e3; rfl)
      gi_wp2
      refine wpIn_region_quiet_rd rfl (by kernel_rfl) (by kernel_rfl) (by kernel_rfl) ?_
      repeat (refine wpQuietIn_step (by first | (go_simp; done) | (go_simp; intros; trivial) | (intros; trivial)) (fun K hK => ?_); go_simp; first | (refine hK _ ?_; clear hK K) | (apply Exists.intro; refine ⟨fun _ => ?_, hK _ ?_⟩; (fail); clear hK K))
      refine wpQuietIn_nil ?_
      intro _ hw'
      obtain ⟨nq, hw''⟩ := hw'
      subst hw''
      have kq : Same W (W.drewN nq) := (Kept.refl (fun _ => False) W).drewN nq
      have HG2 := hidden (HG.out.same kq)
      have KF0 : Hid (KeepsFrom WBA0.heap.size W (W.drewN nq)) := keepsFrom_all kq (fun j h => h.elim)
      have KC0 : Hid (KC (fun j => j = bA0) W (W.drewN nq)) := KC.of kq (fun _ h => h.elim)
      clear kq z0 z4 x0 x1 u0 u1 HG GK q1d q1e
      generalize W.drewN nq = W2 at *
      have GIB : Hid (W2.heap[bA0]? = some (.cells #[.int .i64 i] 3 (0, 0))) := by have := HG2.out.ib; rw [HI.out] at this; exact this
      have z4 : W2.cell? ⟨bA0, 0, none⟩ = some (.int .i64 i) := blk_cell GIB.out
      have z5 : W2.frozen? ⟨bA0, 0, none⟩ = false := blk_free GIB.out
      have KI : Hid (Kept (fun j => j = bA0) W2 (W2.setCell ⟨bA0, 0, none⟩ (.int .i64 ((i : Int) + 1)))) := (Kept.refl (fun k => k = bA0) W2).setCell (p := ⟨bA0, 0, none⟩) rfl _
      have zz : (W2.setCell ⟨bA0, 0, none⟩ (.int .i64 ((i : Int) + 1))).cell? ⟨br, 0, none⟩ = some (.int .i64 0) := Kept.cell KI.out (by show ¬ br = bA0; omega) (blk_cell HG2.out.rb)
      have NG : Hid (GI W0 q bA0 br 0 L [] WBA0.heap.size (pre ++ [⟨(xa, xn), hx⟩]) (W2.setCell ⟨bA0, 0, none⟩ (.int .i64 ((i : Int) + 1)))) := ⟨HG2.out.kept.trans (KI.out.mono (fun j _ e => by omega)), by have := blk_set (j := 0) GIB.out (.int .i64 ((i : Int) + 1)); rw [List.length_append, HI.out]; exact this, blk_kept KI.out (by omega) HG2.out.rb, PF.out, fun D hD => blk_kept KI.out (fun e => by have h1 := HG2.out.ds D hD; rw [e, GIB.out] at h1; cases h1) (HG2.out.ds D hD), Nat.le_trans HG2.out.big KI.out.size⟩
      have zs : (W2.setCell ⟨bA0, 0, none⟩ (.int .i64 ((i : Int) + 1))).cell? ⟨bS, 0, none⟩ = some (.int .i64 st) := blk_cell ((G1.out.kept NG.out.kept).stop)
      by_cases hs : (i : Int) + 1 = st
      · have HS := hidden hs
        have hs2 : ((i : Int) + 1 == st) = true := by rw [beq_iff_eq]; exact hs
        clear hs
        gi_wp2
        exact ⟨KF0.out.trans (keepsFrom_one KI.out (by omega)), .inr ⟨rfl, by rw [List.length_append, HI.out]; have := HS.out; simp; omega, NG.out⟩⟩
      · have hs2 : ((i : Int) + 1 == st) = false := by rw [beq_eq_false_iff_ne]; exact hs
        gi_wp2
        exact ⟨KF0.out.trans (keepsFrom_one KI.out (by omega)), KC0.out.trans (KC.of KI.out (fun _ h => h)), NG.out⟩
    · have NPF : Hid (¬ (pre ++ [⟨(xa, xn), hx⟩]) <+: L) := fun h => hv (by have e := PFX.out.1 h; have e1 := congrArg (fun z : Rn count => z.1.1) e; have e2 := congrArg (fun z : Rn count => z.1.2) e; dsimp only at e1 e2; exact ⟨by rw [← HA.out, ← HB.out, e1], e2⟩)
      have hv1 : A = B → ¬ xn = yn := fun e1 e2 => hv ⟨e1, e2⟩
      clear hv
      by_cases hAB : A = B
      · have hne := hv1 hAB
        have hne2 : ¬ (xn : Int) = (yn : Int) := by omega
        have hned : decide ((xn : Int) = (yn : Int)) = false := by simp; omega
        have hnee : decide (xn = yn) = false := by simp; omega
        subst hAB
        clear hv1
        gi_wp2
        refine wpIn_region_quiet_rd rfl (by kernel_rfl) (by kernel_rfl) (by kernel_rfl) ?_
        repeat (refine wpQuietIn_step (by first | (go_simp; done) | (go_simp; intros; trivial) | (intros; trivial)) (fun K hK => ?_); go_simp; first | (refine hK _ ?_; clear hK K) | (apply Exists.intro; refine ⟨fun _ => ?_, hK _ ?_⟩; (fail); clear hK K))
        refine wpQuietIn_nil ?_
        intro _ hw'
        obtain ⟨nq, hw''⟩ := hw'
        subst hw''
        have kq : Same W (W.drewN nq) := (Kept.refl (fun _ => False) W).drewN nq
        have gz := (G1.out.kept GK.out).kept (kq.mono (fun _ _ h => h.elim))
        have z2 : (W.drewN nq).cell? ⟨bR, 0, none⟩ = some (.bool false) := blk_cell gz.res
        have z3 : (W.drewN nq).frozen? ⟨bR, 0, none⟩ = false := blk_free gz.res
        have KF0 : Hid (KeepsFrom WBA0.heap.size W (W.drewN nq)) := keepsFrom_all kq (fun j h => h.elim)
        clear kq gz z0 z4 x0 x1 u0 u1
        generalize W.drewN nq = W2 at *
        gi_wp2
        exact ⟨KF0.out.trans (keepsFrom_one ((Kept.refl (fun k => k = bR) W2).setCell (p := ⟨bR, 0, none⟩) rfl _) hlR), .inl NPF.out⟩
      · have hned : decide (A = B) = false := by simp; exact hAB
        clear hv1
        gi_wp2
        refine wpIn_region_quiet_rd rfl (by kernel_rfl) (by kernel_rfl) (by kernel_rfl) ?_
        repeat (refine wpQuietIn_step (by first | (go_simp; done) | (go_simp; intros; trivial) | (intros; trivial)) (fun K hK => ?_); go_simp; first | (refine hK _ ?_; clear hK K) | (apply Exists.intro; refine ⟨fun _ => ?_, hK _ ?_⟩; (fail); clear hK K))
        refine wpQuietIn_nil ?_
        intro _ hw'
        obtain ⟨nq, hw''⟩ := hw'
        subst hw''
        have kq : Same W (W.drewN nq) := (Kept.refl (fun _ => False) W).drewN nq
        have gz := (G1.out.kept GK.out).kept (kq.mono (fun _ _ h => h.elim))
        have z2 : (W.drewN nq).cell? ⟨bR, 0, none⟩ = some (.bool false) := blk_cell gz.res
        have z3 : (W.drewN nq).frozen? ⟨bR, 0, none⟩ = false := blk_free gz.res
        have KF0 : Hid (KeepsFrom WBA0.heap.size W (W.drewN nq)) := keepsFrom_all kq (fun j h => h.elim)
        clear kq gz z0 z4 x0 x1 u0 u1
        generalize W.drewN nq = W2 at *
        gi_wp2
        exact ⟨KF0.out.trans (keepsFrom_one ((Kept.refl (fun k => k = bR) W2).setCell (p := ⟨bR, 0, none⟩) rfl _) hlR), .inl NPF.out⟩
  case doneA0 =>
    rintro DA0 ys XA0 hDlA0 hys hG hD
    rw [hys] at hG
    clear hys
    have GK : Hid (Kept (fun j => q ≤ j) W0 XA0) := hG.kept
    have HKD := hidden hD
    have gb := G1.out.kept GK.out
    have z0 : XA0.cell? ⟨bW, 0, none⟩ = some (.slice a0 n c0) := blk_cell gb.want
    have z1 : XA0.cell? ⟨bS, 0, none⟩ = some (.int .i64 st) := blk_cell gb.stop
    have gib := hG.ib
    rw [HN.out] at gib
    have z4 : XA0.cell? ⟨bA0, 0, none⟩ = some (.int .i64 n) := blk_cell gib
    have z6 : XA0.cell? ⟨br, 0, none⟩ = some (.int .i64 0) := blk_cell hG.rb
    have DSL := hidden hG.ds
    have hXBA0 : WBA0.heap.size ≤ XA0.heap.size := hG.big
    clear gb gib hG hD
    gi_wp2
    rw [roundsIn_succ]
    obtain ⟨cAd, hcAd⟩ : ∃ b, b = XA0.heap.size := ⟨_, rfl⟩
    obtain ⟨WAd, hW1⟩ : ∃ Z, Z = XA0.alloc (.cells #[.int .i64 1] 3) := ⟨_, rfl⟩
    rw [← hW1, ← hcAd]
    have KAd1 : Hid (Kept (fun j => q ≤ j) W0 WAd) := by rw [hW1]; exact Kept.alloc GK.out _
    have FAd1 : Hid (WAd.heap[cAd]? = some (.cells #[.int .i64 1] 3 (0, 0))) := by rw [hW1, hcAd]; exact heap_alloc_new XA0 _
    have hlAd1 : cAd < WAd.heap.size := by rw [hW1, hcAd]; simp
    have DSAd1 : Hid (∀ d ∈ (DA0 :: [] : List Nat), WAd.heap[d]? = some (.deferred (some []))) := fun d hd => by
      rw [hW1]
      rcases List.mem_cons.1 hd with rfl | hd
      · exact blk_alloc HKD.out _
      · exact blk_alloc (DSL.out d hd) _
    have hDxAd : DA0 < cAd := by rw [hcAd]; exact blk_lt HKD.out
    have hsxAd : WBA0.heap.size ≤ cAd := by rw [hcAd]; exact hXBA0
    clear hW1 z0 z1 z4 z6 GK HKD DSL hcAd
    (try clear hs3)

    have rcAd1 : WAd.cell? ⟨cAd, 0, none⟩ = some (.int .i64 1) := blk_cell FAd1.out
    gi_wp2
    obtain ⟨bAd1, hbiAd1⟩ : ∃ b, b = WAd.heap.size := ⟨_, rfl⟩
    obtain ⟨WBAd1, hWB⟩ : ∃ X, X = WAd.alloc (.cells #[.int .i64 0] 3) := ⟨_, rfl⟩
    rw [← hWB]
    have kWB : Kept (fun j => q ≤ j) W0 WBAd1 := by rw [hWB]; exact Kept.alloc KAd1.out _
    have bI : WBAd1.heap[bAd1]? = some (.cells #[.int .i64 0] 3 (0, 0)) := by rw [hWB, hbiAd1]; exact heap_alloc_new WAd _
    have sBAd1 : bAd1 < WBAd1.heap.size := by rw [hWB, hbiAd1]; simp
    have bRr : WBAd1.heap[cAd]? = some (.cells #[.int .i64 1] 3 (0, 0)) := by rw [hWB]; exact blk_alloc FAd1.out _
    have qiAd1 : q ≤ bAd1 := by omega
    have bneAd1 : cAd < bAd1 := by rw [hbiAd1]; exact hlAd1
    have GIAd1 : Hid (GI W0 q bAd1 cAd 1 L (DA0 :: []) WBAd1.heap.size [] WBAd1) := ⟨kWB, bI, bRr, List.nil_prefix, (fun D hD => by rw [hWB]; exact blk_alloc (DSAd1.out D hD) _), Nat.le_refl _⟩
    have hrunAd1 := HIT.out WBAd1 bAd1 kWB qiAd1 sBAd1
    have dslAd1 : ∀ D ∈ ((DA0 :: []) : List Nat), D < WBAd1.heap.size := fun D hD => blk_lt (GIAd1.out.ds D hD)
    rw [← hbiAd1]
    have hbxAd1 := hidden hbiAd1
    clear hWB kWB bI bRr hbiAd1
    refine range_areas (first := first) (count := count) 21 11 rfl (by decide) (gf := 51) (lb := #[.pointer (some ⟨bA, 0, none⟩)]) rfl trivial (enters_of (Tryd.func51) (by kernel_rfl) rfl)
      hrunAd1 (fun h k => h.trans k) (fun W l o o' _ hl ho _ => KC.putObj _ W l o o' hl ho) (Below.refl _ _) rfl
      (GI W0 q bAd1 cAd 1 L (DA0 :: []) WBAd1.heap.size) (fun _ pre _ => ¬ pre <+: L)
      (GI.own (by omega) (by omega) (by omega) dslAd1) (fun _ _ _ _ _ hs _ _ => hs) GIAd1.out
      ?assignAd1 ?bodyAd1 ?doneAd1 ?stopAd1
    case assignAd1 =>
      intro lp pre x W K hi hK
      gi_wp2
      have hbg : WBAd1.heap.size ≤ W.heap.size := hi.big
      have nb := blk_new W (.cells #[.int .i64 ((first : Int) + (x.1.1 : Int)), .int .i64 (x.1.2 : Int)] 30)
      have kk : Same W (W.alloc (.cells #[.int .i64 ((first : Int) + (x.1.1 : Int)), .int .i64 (x.1.2 : Int)] 30)) := same_alloc _ _
      have ko := (KeepsOthers.alloc W (.cells #[.int .i64 ((first : Int) + (x.1.1 : Int)), .int .i64 (x.1.2 : Int)] 30)).from WBAd1.heap.size
      generalize W.heap.size = Bx at *
      exact hK _ _ ko (KC.of kk (fun _ h => h.elim)) (hi.same kk) ⟨Bx, hbg, nb, by simp⟩
    case bodyAd1 =>
      intro lp pre x Bx W hG hBx hbx hlt
      simp only [List.setIfInBounds_toArray, List.set_cons_succ, List.set_cons_zero]
      obtain ⟨⟨xa, xn⟩, hx⟩ := x
      dsimp only at hbx
      have GK : Hid (Kept (fun j => q ≤ j) W0 W) := hG.kept
      obtain ⟨i, hi⟩ : ∃ i, pre.length = i := ⟨_, rfl⟩
      have HI := hidden hi
      have hin : i < n := by rw [← hi, ← HN.out]; exact hlt
      have gib := hG.ib
      rw [hi] at gib
      obtain ⟨bb, y, rfl, hay, u0, u1⟩ := HAt.out W GK.out i hin
      have gb := G1.out.kept GK.out
      have PFX : Hid ((pre ++ [⟨(xa, xn), hx⟩]) <+: L ↔ (⟨(xa, xn), hx⟩ : Rn count) = y) := pf_iffA hG.pf hi hay
      obtain ⟨⟨ya, yn⟩, hy⟩ := y
      dsimp only at u0 u1
      have z0 : W.cell? ⟨bW, 0, none⟩ = some (.slice (some ⟨bb, 0, none⟩) n c0) := blk_cell gb.want
      have z4 : W.cell? ⟨bAd1, 0, none⟩ = some (.int .i64 i) := blk_cell gib
      have x0 : W.cell? ⟨Bx, 0, none⟩ = some (.int .i64 ((first : Int) + (xa : Int))) := blk_cell hbx
      have x1 : W.cell? ⟨Bx, 1, none⟩ = some (.int .i64 (xn : Int)) := blk_cell hbx
      have q1 : ¬ (n : Int) ≤ (i : Int) := by omega
      have q1d : decide ((n : Int) ≤ (i : Int)) = false := by simp; omega
      have q1e : decide (n ≤ i) = false := by simp; omega
      have q2 : (i : Int) < (n : Int) := by omega
      have q3 : (0 : Int) ≤ (i : Int) := Int.natCast_nonneg _
      have HG := hidden hG
      have hlR : bR < WBAd1.heap.size := by have := gb.l3; omega
      have hb3 : bR ≠ cAd := by have := gb.l3; omega
      clear hi hay gib hG hlt gb hbx
      generalize hA : (first : Int) + (xa : Int) = A at *
      generalize hB : (first : Int) + (ya : Int) = B at *
      have HA := hidden hA
      have HB := hidden hB
      clear hA hB
      by_cases hv : A = B ∧ xn = yn
      · obtain ⟨rfl, rfl⟩ := hv
        have PF : Hid ((pre ++ [⟨(xa, xn), hx⟩]) <+: L) := PFX.out.2 (by have e1 := HA.out; have e2 := HB.out; have e3 : xa = ya := (by omega); subst e3; rfl)
        gi_wp2
        refine wpIn_region_quiet_rd rfl (by kernel_rfl) (by kernel_rfl) (by kernel_rfl) ?_
        repeat (refine wpQuietIn_step (by first | (go_simp; done) | (go_simp; intros; trivial) | (intros; trivial)) (fun K hK => ?_); go_simp; first | (refine hK _ ?_; clear hK K) | (apply Exists.intro; refine ⟨fun _ => ?_, hK _ ?_⟩; (fail); clear hK K))
        refine wpQuietIn_nil ?_
        intro _ hw'
        obtain ⟨nq, hw''⟩ := hw'
        subst hw''
        have kq : Same W (W.drewN nq) := (Kept.refl (fun _ => False) W).drewN nq
        have HG2 := hidden (HG.out.same kq)
        have KF0 : Hid (KeepsFrom WBAd1.heap.size W (W.drewN nq)) := keepsFrom_all kq (fun j h => h.elim)
        have KC0 : Hid (KC (fun j => j = bAd1) W (W.drewN nq)) := KC.of kq (fun _ h => h.elim)
        clear kq z0 z4 x0 x1 u0 u1 HG GK q1d q1e
        generalize W.drewN nq = W2 at *
        have GIB : Hid (W2.heap[bAd1]? = some (.cells #[.int .i64 i] 3 (0, 0))) := by have := HG2.out.ib; rw [HI.out] at this; exact this
        have z4 : W2.cell? ⟨bAd1, 0, none⟩ = some (.int .i64 i) := blk_cell GIB.out
        have z5 : W2.frozen? ⟨bAd1, 0, none⟩ = false := blk_free GIB.out
        have KI : Hid (Kept (fun j => j = bAd1) W2 (W2.setCell ⟨bAd1, 0, none⟩ (.int .i64 ((i : Int) + 1)))) := (Kept.refl (fun k => k = bAd1) W2).setCell (p := ⟨bAd1, 0, none⟩) rfl _
        have zz : (W2.setCell ⟨bAd1, 0, none⟩ (.int .i64 ((i : Int) + 1))).cell? ⟨cAd, 0, none⟩ = some (.int .i64 1) := Kept.cell KI.out (by show ¬ cAd = bAd1; omega) (blk_cell HG2.out.rb)
        have NG : Hid (GI W0 q bAd1 cAd 1 L (DA0 :: []) WBAd1.heap.size (pre ++ [⟨(xa, xn), hx⟩]) (W2.setCell ⟨bAd1, 0, none⟩ (.int .i64 ((i : Int) + 1)))) := ⟨HG2.out.kept.trans (KI.out.mono (fun j _ e => by omega)), by have := blk_set (j := 0) GIB.out (.int .i64 ((i : Int) + 1)); rw [List.length_append, HI.out]; exact this, blk_kept KI.out (by omega) HG2.out.rb, PF.out, fun D hD => blk_kept KI.out (fun e => by have h1 := HG2.out.ds D hD; rw [e, GIB.out] at h1; cases h1) (HG2.out.ds D hD), Nat.le_trans HG2.out.big KI.out.size⟩
        gi_wp2
        exact ⟨KF0.out.trans (keepsFrom_one KI.out (by omega)), KC0.out.trans (KC.of KI.out (fun _ h => h)), NG.out⟩
      · have NPF : Hid (¬ (pre ++ [⟨(xa, xn), hx⟩]) <+: L) := fun h => hv (by have e := PFX.out.1 h; have e1 := congrArg (fun z : Rn count => z.1.1) e; have e2 := congrArg (fun z : Rn count => z.1.2) e; dsimp only at e1 e2; exact ⟨by rw [← HA.out, ← HB.out, e1], e2⟩)
        have hv1 : A = B → ¬ xn = yn := fun e1 e2 => hv ⟨e1, e2⟩
        clear hv
        by_cases hAB : A = B
        · have hne := hv1 hAB
          have hne2 : ¬ (xn : Int) = (yn : Int) := by omega
          have hned : decide ((xn : Int) = (yn : Int)) = false := by simp; omega
          have hnee : decide (xn = yn) = false := by simp; omega
          subst hAB
          clear hv1
          gi_wp2
          refine wpIn_region_quiet_rd rfl (by kernel_rfl) (by kernel_rfl) (by kernel_rfl) ?_
          repeat (refine wpQuietIn_step (by first | (go_simp; done) | (go_simp; intros; trivial) | (intros; trivial)) (fun K hK => ?_); go_simp; first | (refine hK _ ?_; clear hK K) | (apply Exists.intro; refine ⟨fun _ => ?_, hK _ ?_⟩; (fail); clear hK K))
          refine wpQuietIn_nil ?_
          intro _ hw'
          obtain ⟨nq, hw''⟩ := hw'
          subst hw''
          have kq : Same W (W.drewN nq) := (Kept.refl (fun _ => False) W).drewN nq
          have gz := (G1.out.kept GK.out).kept (kq.mono (fun _ _ h => h.elim))
          have z2 : (W.drewN nq).cell? ⟨bR, 0, none⟩ = some (.bool false) := blk_cell gz.res
          have z3 : (W.drewN nq).frozen? ⟨bR, 0, none⟩ = false := blk_free gz.res
          have KF0 : Hid (KeepsFrom WBAd1.heap.size W (W.drewN nq)) := keepsFrom_all kq (fun j h => h.elim)
          clear kq gz z0 z4 x0 x1 u0 u1
          generalize W.drewN nq = W2 at *
          gi_wp2
          exact ⟨KF0.out.trans (keepsFrom_one ((Kept.refl (fun k => k = bR) W2).setCell (p := ⟨bR, 0, none⟩) rfl _) hlR), NPF.out⟩
        · have hned : decide (A = B) = false := by simp; exact hAB
          clear hv1
          gi_wp2
          refine wpIn_region_quiet_rd rfl (by kernel_rfl) (by kernel_rfl) (by kernel_rfl) ?_
          repeat (refine wpQuietIn_step (by first | (go_simp; done) | (go_simp; intros; trivial) | (intros; trivial)) (fun K hK => ?_); go_simp; first | (refine hK _ ?_; clear hK K) | (apply Exists.intro; refine ⟨fun _ => ?_, hK _ ?_⟩; (fail); clear hK K))
          refine wpQuietIn_nil ?_
          intro _ hw'
          obtain ⟨nq, hw''⟩ := hw'
          subst hw''
          have kq : Same W (W.drewN nq) := (Kept.refl (fun _ => False) W).drewN nq
          have gz := (G1.out.kept GK.out).kept (kq.mono (fun _ _ h => h.elim))
          have z2 : (W.drewN nq).cell? ⟨bR, 0, none⟩ = some (.bool false) := blk_cell gz.res
          have z3 : (W.drewN nq).frozen? ⟨bR, 0, none⟩ = false := blk_free gz.res
          have KF0 : Hid (KeepsFrom WBAd1.heap.size W (W.drewN nq)) := keepsFrom_all kq (fun j h => h.elim)
          clear kq gz z0 z4 x0 x1 u0 u1
          generalize W.drewN nq = W2 at *
          gi_wp2
          exact ⟨KF0.out.trans (keepsFrom_one ((Kept.refl (fun k => k = bR) W2).setCell (p := ⟨bR, 0, none⟩) rfl _) hlR), NPF.out⟩
    case doneAd1 =>
      rintro DAd1 ys XAd1 hDlAd1 hys hG hD
      rw [hys] at hG
      clear hys
      have GK : Hid (Kept (fun j => q ≤ j) W0 XAd1) := hG.kept
      have HKD := hidden hD
      have gb := G1.out.kept GK.out
      have z0 : XAd1.cell? ⟨bW, 0, none⟩ = some (.slice a0 n c0) := blk_cell gb.want
      have z1 : XAd1.cell? ⟨bS, 0, none⟩ = some (.int .i64 st) := blk_cell gb.stop
      have gib := hG.ib
      rw [HN.out] at gib
      have z4 : XAd1.cell? ⟨bAd1, 0, none⟩ = some (.int .i64 n) := blk_cell gib
      have z6 : XAd1.cell? ⟨cAd, 0, none⟩ = some (.int .i64 1) := blk_cell hG.rb
      have DSL := hidden hG.ds
      have hXBAd1 : WBAd1.heap.size ≤ XAd1.heap.size := hG.big
      clear gb gib hG hD
      gi_wp2
      rw [roundsIn_succ]
      obtain ⟨cAdd, hcAdd⟩ : ∃ b, b = XAd1.heap.size := ⟨_, rfl⟩
      obtain ⟨WAdd, hW1⟩ : ∃ Z, Z = XAd1.alloc (.cells #[.int .i64 2] 3) := ⟨_, rfl⟩
      rw [← hW1, ← hcAdd]
      have KAdd2 : Hid (Kept (fun j => q ≤ j) W0 WAdd) := by rw [hW1]; exact Kept.alloc GK.out _
      have FAdd2 : Hid (WAdd.heap[cAdd]? = some (.cells #[.int .i64 2] 3 (0, 0))) := by rw [hW1, hcAdd]; exact heap_alloc_new XAd1 _
      have hlAdd2 : cAdd < WAdd.heap.size := by rw [hW1, hcAdd]; simp
      have DSAdd2 : Hid (∀ d ∈ (DAd1 :: (DA0 :: []) : List Nat), WAdd.heap[d]? = some (.deferred (some []))) := fun d hd => by
        rw [hW1]
        rcases List.mem_cons.1 hd with rfl | hd
        · exact blk_alloc HKD.out _
        · exact blk_alloc (DSL.out d hd) _
      have hDxAdd : DAd1 < cAdd := by rw [hcAdd]; exact blk_lt HKD.out
      have hsxAdd : WBAd1.heap.size ≤ cAdd := by rw [hcAdd]; exact hXBAd1
      clear hW1 z0 z1 z4 z6 GK HKD DSL hcAdd
      (try clear hs3)
      have gz := G1.out.kept KAdd2.out
      have rc : WAdd.cell? ⟨cAdd, 0, none⟩ = some (.int .i64 2) := blk_cell FAdd2.out
      have z2 : WAdd.cell? ⟨bR, 0, none⟩ = some (.bool false) := blk_cell gz.res
      have z3 : WAdd.frozen? ⟨bR, 0, none⟩ = false := blk_free gz.res
      have GZ := hidden gz
      clear gz
      gi_wp2
      have e1 := DSAdd2.out DAd1 (by simp)
      have e2 := DSAdd2.out DA0 (by simp)
      have dne : DA0 ≠ DAd1 := by omega
      have c3 : (WAdd.setCell ⟨bR, 0, none⟩ (.bool true)).cell? ⟨bR, 0, none⟩ = some (.bool true) := World.cell?_setCell_same' _ _ _ (by rw [z2]; rfl)
      have l3 := G1.out.l3
      have e3 : (WAdd.setCell ⟨bR, 0, none⟩ (.bool true)).heap[DAd1]? = some (.deferred (some [])) := blk_off e1 (by omega)
      have e4 : ((WAdd.setCell ⟨bR, 0, none⟩ (.bool true)).putObj DAd1 (.deferred none)).heap[DA0]? = some (.deferred (some [])) := blk_kept (kept_putObj (S := fun k => k = DAd1) _ DAd1 _ rfl) dne (blk_off e2 (by omega))
      have c4 := two_defers_cell (D := DAd1) (E := DA0) c3 (by omega) (by omega)
      refine ⟨by simp, .inl ⟨_, _, rfl, run_takeDeferred e3, ?_⟩⟩
      refine ⟨by simp, .inl ⟨_, _, rfl, run_takeDeferred e4, ?_⟩⟩
      refine ⟨_, by simp [results, Tryd.results41, go_sem, c4], rfl, ?_⟩
      exact Kept.trans' GZ.out.same (((Kept.refl (fun k => w.heap.size ≤ k) WAdd).setCell (p := ⟨bR, 0, none⟩) GZ.out.l4 _).trans ((kept_putObj _ DAd1 _ (by omega)).trans (kept_putObj _ DA0 _ (by omega)))) (fun k hk h => by omega)
    case stopAd1 =>
      rintro D c pre W _ hp h _
      exact absurd hp h
  case stopA0 =>
    rintro DA0 c pre XA0 hDlA0 hp h hD
    rcases h with h | ⟨rfl, hst, hG⟩
    · exact absurd hp h
    obtain ⟨i, hi⟩ : ∃ i, pre.length = i := ⟨_, rfl⟩
    have HST2 := hidden hst
    have hs2 : ((i : Int) == st) = true := by rw [beq_iff_eq, ← hi]; exact hst
    clear hp
    by_cases hin : i = n
    · clear hs2
      have GK : Hid (Kept (fun j => q ≤ j) W0 XA0) := hG.kept
      have HKD := hidden hD
      have gb := G1.out.kept GK.out
      have z0 : XA0.cell? ⟨bW, 0, none⟩ = some (.slice a0 n c0) := blk_cell gb.want
      have z1 : XA0.cell? ⟨bS, 0, none⟩ = some (.int .i64 st) := blk_cell gb.stop
      have gib := hG.ib
      rw [hi, hin] at gib; clear hi hst hin
      have z4 : XA0.cell? ⟨bA0, 0, none⟩ = some (.int .i64 n) := blk_cell gib
      have z6 : XA0.cell? ⟨br, 0, none⟩ = some (.int .i64 0) := blk_cell hG.rb
      have DSL := hidden hG.ds
      have hXBA0 : WBA0.heap.size ≤ XA0.heap.size := hG.big
      clear gb gib hG hD
      gi_wp2
      rw [roundsIn_succ]
      obtain ⟨cAs, hcAs⟩ : ∃ b, b = XA0.heap.size := ⟨_, rfl⟩
      obtain ⟨WAs, hW1⟩ : ∃ Z, Z = XA0.alloc (.cells #[.int .i64 1] 3) := ⟨_, rfl⟩
      rw [← hW1, ← hcAs]
      have KAs1 : Hid (Kept (fun j => q ≤ j) W0 WAs) := by rw [hW1]; exact Kept.alloc GK.out _
      have FAs1 : Hid (WAs.heap[cAs]? = some (.cells #[.int .i64 1] 3 (0, 0))) := by rw [hW1, hcAs]; exact heap_alloc_new XA0 _
      have hlAs1 : cAs < WAs.heap.size := by rw [hW1, hcAs]; simp
      have DSAs1 : Hid (∀ d ∈ (DA0 :: [] : List Nat), WAs.heap[d]? = some (.deferred (some []))) := fun d hd => by
        rw [hW1]
        rcases List.mem_cons.1 hd with rfl | hd
        · exact blk_alloc HKD.out _
        · exact blk_alloc (DSL.out d hd) _
      have hDxAs : DA0 < cAs := by rw [hcAs]; exact blk_lt HKD.out
      have hsxAs : WBA0.heap.size ≤ cAs := by rw [hcAs]; exact hXBA0
      clear hW1 z0 z1 z4 z6 GK HKD DSL hcAs
      (try clear hs3)

      have rcAs1 : WAs.cell? ⟨cAs, 0, none⟩ = some (.int .i64 1) := blk_cell FAs1.out
      gi_wp2
      obtain ⟨bAs1, hbiAs1⟩ : ∃ b, b = WAs.heap.size := ⟨_, rfl⟩
      obtain ⟨WBAs1, hWB⟩ : ∃ X, X = WAs.alloc (.cells #[.int .i64 0] 3) := ⟨_, rfl⟩
      rw [← hWB]
      have kWB : Kept (fun j => q ≤ j) W0 WBAs1 := by rw [hWB]; exact Kept.alloc KAs1.out _
      have bI : WBAs1.heap[bAs1]? = some (.cells #[.int .i64 0] 3 (0, 0)) := by rw [hWB, hbiAs1]; exact heap_alloc_new WAs _
      have sBAs1 : bAs1 < WBAs1.heap.size := by rw [hWB, hbiAs1]; simp
      have bRr : WBAs1.heap[cAs]? = some (.cells #[.int .i64 1] 3 (0, 0)) := by rw [hWB]; exact blk_alloc FAs1.out _
      have qiAs1 : q ≤ bAs1 := by omega
      have bneAs1 : cAs < bAs1 := by rw [hbiAs1]; exact hlAs1
      have GIAs1 : Hid (GI W0 q bAs1 cAs 1 L (DA0 :: []) WBAs1.heap.size [] WBAs1) := ⟨kWB, bI, bRr, List.nil_prefix, (fun D hD => by rw [hWB]; exact blk_alloc (DSAs1.out D hD) _), Nat.le_refl _⟩
      have hrunAs1 := HIT.out WBAs1 bAs1 kWB qiAs1 sBAs1
      have dslAs1 : ∀ D ∈ ((DA0 :: []) : List Nat), D < WBAs1.heap.size := fun D hD => blk_lt (GIAs1.out.ds D hD)
      rw [← hbiAs1]
      have hbxAs1 := hidden hbiAs1
      clear hWB kWB bI bRr hbiAs1
      refine range_areas (first := first) (count := count) 21 11 rfl (by decide) (gf := 51) (lb := #[.pointer (some ⟨bA, 0, none⟩)]) rfl trivial (enters_of (Tryd.func51) (by kernel_rfl) rfl)
        hrunAs1 (fun h k => h.trans k) (fun W l o o' _ hl ho _ => KC.putObj _ W l o o' hl ho) (Below.refl _ _) rfl
        (GI W0 q bAs1 cAs 1 L (DA0 :: []) WBAs1.heap.size) (fun _ pre _ => ¬ pre <+: L)
        (GI.own (by omega) (by omega) (by omega) dslAs1) (fun _ _ _ _ _ hs _ _ => hs) GIAs1.out
        ?assignAs1 ?bodyAs1 ?doneAs1 ?stopAs1
      case assignAs1 =>
        intro lp pre x W K hi hK
        gi_wp2
        have hbg : WBAs1.heap.size ≤ W.heap.size := hi.big
        have nb := blk_new W (.cells #[.int .i64 ((first : Int) + (x.1.1 : Int)), .int .i64 (x.1.2 : Int)] 30)
        have kk : Same W (W.alloc (.cells #[.int .i64 ((first : Int) + (x.1.1 : Int)), .int .i64 (x.1.2 : Int)] 30)) := same_alloc _ _
        have ko := (KeepsOthers.alloc W (.cells #[.int .i64 ((first : Int) + (x.1.1 : Int)), .int .i64 (x.1.2 : Int)] 30)).from WBAs1.heap.size
        generalize W.heap.size = Bx at *
        exact hK _ _ ko (KC.of kk (fun _ h => h.elim)) (hi.same kk) ⟨Bx, hbg, nb, by simp⟩
      case bodyAs1 =>
        intro lp pre x Bx W hG hBx hbx hlt
        simp only [List.setIfInBounds_toArray, List.set_cons_succ, List.set_cons_zero]
        obtain ⟨⟨xa, xn⟩, hx⟩ := x
        dsimp only at hbx
        have GK : Hid (Kept (fun j => q ≤ j) W0 W) := hG.kept
        obtain ⟨i, hi⟩ : ∃ i, pre.length = i := ⟨_, rfl⟩
        have HI := hidden hi
        have hin : i < n := by rw [← hi, ← HN.out]; exact hlt
        have gib := hG.ib
        rw [hi] at gib
        obtain ⟨bb, y, rfl, hay, u0, u1⟩ := HAt.out W GK.out i hin
        have gb := G1.out.kept GK.out
        have PFX : Hid ((pre ++ [⟨(xa, xn), hx⟩]) <+: L ↔ (⟨(xa, xn), hx⟩ : Rn count) = y) := pf_iffA hG.pf hi hay
        obtain ⟨⟨ya, yn⟩, hy⟩ := y
        dsimp only at u0 u1
        have z0 : W.cell? ⟨bW, 0, none⟩ = some (.slice (some ⟨bb, 0, none⟩) n c0) := blk_cell gb.want
        have z4 : W.cell? ⟨bAs1, 0, none⟩ = some (.int .i64 i) := blk_cell gib
        have x0 : W.cell? ⟨Bx, 0, none⟩ = some (.int .i64 ((first : Int) + (xa : Int))) := blk_cell hbx
        have x1 : W.cell? ⟨Bx, 1, none⟩ = some (.int .i64 (xn : Int)) := blk_cell hbx
        have q1 : ¬ (n : Int) ≤ (i : Int) := by omega
        have q1d : decide ((n : Int) ≤ (i : Int)) = false := by simp; omega
        have q1e : decide (n ≤ i) = false := by simp; omega
        have q2 : (i : Int) < (n : Int) := by omega
        have q3 : (0 : Int) ≤ (i : Int) := Int.natCast_nonneg _
        have HG := hidden hG
        have hlR : bR < WBAs1.heap.size := by have := gb.l3; omega
        have hb3 : bR ≠ cAs := by have := gb.l3; omega
        clear hi hay gib hG hlt gb hbx
        generalize hA : (first : Int) + (xa : Int) = A at *
        generalize hB : (first : Int) + (ya : Int) = B at *
        have HA := hidden hA
        have HB := hidden hB
        clear hA hB
        by_cases hv : A = B ∧ xn = yn
        · obtain ⟨rfl, rfl⟩ := hv
          have PF : Hid ((pre ++ [⟨(xa, xn), hx⟩]) <+: L) := PFX.out.2 (by have e1 := HA.out; have e2 := HB.out; have e3 : xa = ya := (by omega); subst e3; rfl)
          gi_wp2
          refine wpIn_region_quiet_rd rfl (by kernel_rfl) (by kernel_rfl) (by kernel_rfl) ?_
          repeat (refine wpQuietIn_step (by first | (go_simp; done) | (go_simp; intros; trivial) | (intros; trivial)) (fun K hK => ?_); go_simp; first | (refine hK _ ?_; clear hK K) | (apply Exists.intro; refine ⟨fun _ => ?_, hK _ ?_⟩; (fail); clear hK K))
          refine wpQuietIn_nil ?_
          intro _ hw'
          obtain ⟨nq, hw''⟩ := hw'
          subst hw''
          have kq : Same W (W.drewN nq) := (Kept.refl (fun _ => False) W).drewN nq
          have HG2 := hidden (HG.out.same kq)
          have KF0 : Hid (KeepsFrom WBAs1.heap.size W (W.drewN nq)) := keepsFrom_all kq (fun j h => h.elim)
          have KC0 : Hid (KC (fun j => j = bAs1) W (W.drewN nq)) := KC.of kq (fun _ h => h.elim)
          clear kq z0 z4 x0 x1 u0 u1 HG GK q1d q1e
          generalize W.drewN nq = W2 at *
          have GIB : Hid (W2.heap[bAs1]? = some (.cells #[.int .i64 i] 3 (0, 0))) := by have := HG2.out.ib; rw [HI.out] at this; exact this
          have z4 : W2.cell? ⟨bAs1, 0, none⟩ = some (.int .i64 i) := blk_cell GIB.out
          have z5 : W2.frozen? ⟨bAs1, 0, none⟩ = false := blk_free GIB.out
          have KI : Hid (Kept (fun j => j = bAs1) W2 (W2.setCell ⟨bAs1, 0, none⟩ (.int .i64 ((i : Int) + 1)))) := (Kept.refl (fun k => k = bAs1) W2).setCell (p := ⟨bAs1, 0, none⟩) rfl _
          have zz : (W2.setCell ⟨bAs1, 0, none⟩ (.int .i64 ((i : Int) + 1))).cell? ⟨cAs, 0, none⟩ = some (.int .i64 1) := Kept.cell KI.out (by show ¬ cAs = bAs1; omega) (blk_cell HG2.out.rb)
          have NG : Hid (GI W0 q bAs1 cAs 1 L (DA0 :: []) WBAs1.heap.size (pre ++ [⟨(xa, xn), hx⟩]) (W2.setCell ⟨bAs1, 0, none⟩ (.int .i64 ((i : Int) + 1)))) := ⟨HG2.out.kept.trans (KI.out.mono (fun j _ e => by omega)), by have := blk_set (j := 0) GIB.out (.int .i64 ((i : Int) + 1)); rw [List.length_append, HI.out]; exact this, blk_kept KI.out (by omega) HG2.out.rb, PF.out, fun D hD => blk_kept KI.out (fun e => by have h1 := HG2.out.ds D hD; rw [e, GIB.out] at h1; cases h1) (HG2.out.ds D hD), Nat.le_trans HG2.out.big KI.out.size⟩
          gi_wp2
          exact ⟨KF0.out.trans (keepsFrom_one KI.out (by omega)), KC0.out.trans (KC.of KI.out (fun _ h => h)), NG.out⟩
        · have NPF : Hid (¬ (pre ++ [⟨(xa, xn), hx⟩]) <+: L) := fun h => hv (by have e := PFX.out.1 h; have e1 := congrArg (fun z : Rn count => z.1.1) e; have e2 := congrArg (fun z : Rn count => z.1.2) e; dsimp only at e1 e2; exact ⟨by rw [← HA.out, ← HB.out, e1], e2⟩)
          have hv1 : A = B → ¬ xn = yn := fun e1 e2 => hv ⟨e1, e2⟩
          clear hv
          by_cases hAB : A = B
          · have hne := hv1 hAB
            have hne2 : ¬ (xn : Int) = (yn : Int) := by omega
            have hned : decide ((xn : Int) = (yn : Int)) = false := by simp; omega
            have hnee : decide (xn = yn) = false := by simp; omega
            subst hAB
            clear hv1
            gi_wp2
            refine wpIn_region_quiet_rd rfl (by kernel_rfl) (by kernel_rfl) (by kernel_rfl) ?_
            repeat (refine wpQuietIn_step (by first | (go_simp; done) | (go_simp; intros; trivial) | (intros; trivial)) (fun K hK => ?_); go_simp; first | (refine hK _ ?_; clear hK K) | (apply Exists.intro; refine ⟨fun _ => ?_, hK _ ?_⟩; (fail); clear hK K))
            refine wpQuietIn_nil ?_
            intro _ hw'
            obtain ⟨nq, hw''⟩ := hw'
            subst hw''
            have kq : Same W (W.drewN nq) := (Kept.refl (fun _ => False) W).drewN nq
            have gz := (G1.out.kept GK.out).kept (kq.mono (fun _ _ h => h.elim))
            have z2 : (W.drewN nq).cell? ⟨bR, 0, none⟩ = some (.bool false) := blk_cell gz.res
            have z3 : (W.drewN nq).frozen? ⟨bR, 0, none⟩ = false := blk_free gz.res
            have KF0 : Hid (KeepsFrom WBAs1.heap.size W (W.drewN nq)) := keepsFrom_all kq (fun j h => h.elim)
            clear kq gz z0 z4 x0 x1 u0 u1
            generalize W.drewN nq = W2 at *
            gi_wp2
            exact ⟨KF0.out.trans (keepsFrom_one ((Kept.refl (fun k => k = bR) W2).setCell (p := ⟨bR, 0, none⟩) rfl _) hlR), NPF.out⟩
          · have hned : decide (A = B) = false := by simp; exact hAB
            clear hv1
            gi_wp2
            refine wpIn_region_quiet_rd rfl (by kernel_rfl) (by kernel_rfl) (by kernel_rfl) ?_
            repeat (refine wpQuietIn_step (by first | (go_simp; done) | (go_simp; intros; trivial) | (intros; trivial)) (fun K hK => ?_); go_simp; first | (refine hK _ ?_; clear hK K) | (apply Exists.intro; refine ⟨fun _ => ?_, hK _ ?_⟩; (fail); clear hK K))
            refine wpQuietIn_nil ?_
            intro _ hw'
            obtain ⟨nq, hw''⟩ := hw'
            subst hw''
            have kq : Same W (W.drewN nq) := (Kept.refl (fun _ => False) W).drewN nq
            have gz := (G1.out.kept GK.out).kept (kq.mono (fun _ _ h => h.elim))
            have z2 : (W.drewN nq).cell? ⟨bR, 0, none⟩ = some (.bool false) := blk_cell gz.res
            have z3 : (W.drewN nq).frozen? ⟨bR, 0, none⟩ = false := blk_free gz.res
            have KF0 : Hid (KeepsFrom WBAs1.heap.size W (W.drewN nq)) := keepsFrom_all kq (fun j h => h.elim)
            clear kq gz z0 z4 x0 x1 u0 u1
            generalize W.drewN nq = W2 at *
            gi_wp2
            exact ⟨KF0.out.trans (keepsFrom_one ((Kept.refl (fun k => k = bR) W2).setCell (p := ⟨bR, 0, none⟩) rfl _) hlR), NPF.out⟩
      case doneAs1 =>
        rintro DAs1 ys XAs1 hDlAs1 hys hG hD
        rw [hys] at hG
        clear hys
        have GK : Hid (Kept (fun j => q ≤ j) W0 XAs1) := hG.kept
        have HKD := hidden hD
        have gb := G1.out.kept GK.out
        have z0 : XAs1.cell? ⟨bW, 0, none⟩ = some (.slice a0 n c0) := blk_cell gb.want
        have z1 : XAs1.cell? ⟨bS, 0, none⟩ = some (.int .i64 st) := blk_cell gb.stop
        have gib := hG.ib
        rw [HN.out] at gib
        have z4 : XAs1.cell? ⟨bAs1, 0, none⟩ = some (.int .i64 n) := blk_cell gib
        have z6 : XAs1.cell? ⟨cAs, 0, none⟩ = some (.int .i64 1) := blk_cell hG.rb
        have DSL := hidden hG.ds
        have hXBAs1 : WBAs1.heap.size ≤ XAs1.heap.size := hG.big
        clear gb gib hG hD
        gi_wp2
        rw [roundsIn_succ]
        obtain ⟨cAsd, hcAsd⟩ : ∃ b, b = XAs1.heap.size := ⟨_, rfl⟩
        obtain ⟨WAsd, hW1⟩ : ∃ Z, Z = XAs1.alloc (.cells #[.int .i64 2] 3) := ⟨_, rfl⟩
        rw [← hW1, ← hcAsd]
        have KAsd2 : Hid (Kept (fun j => q ≤ j) W0 WAsd) := by rw [hW1]; exact Kept.alloc GK.out _
        have FAsd2 : Hid (WAsd.heap[cAsd]? = some (.cells #[.int .i64 2] 3 (0, 0))) := by rw [hW1, hcAsd]; exact heap_alloc_new XAs1 _
        have hlAsd2 : cAsd < WAsd.heap.size := by rw [hW1, hcAsd]; simp
        have DSAsd2 : Hid (∀ d ∈ (DAs1 :: (DA0 :: []) : List Nat), WAsd.heap[d]? = some (.deferred (some []))) := fun d hd => by
          rw [hW1]
          rcases List.mem_cons.1 hd with rfl | hd
          · exact blk_alloc HKD.out _
          · exact blk_alloc (DSL.out d hd) _
        have hDxAsd : DAs1 < cAsd := by rw [hcAsd]; exact blk_lt HKD.out
        have hsxAsd : WBAs1.heap.size ≤ cAsd := by rw [hcAsd]; exact hXBAs1
        clear hW1 z0 z1 z4 z6 GK HKD DSL hcAsd
        (try clear hs3)
        have gz := G1.out.kept KAsd2.out
        have rc : WAsd.cell? ⟨cAsd, 0, none⟩ = some (.int .i64 2) := blk_cell FAsd2.out
        have z2 : WAsd.cell? ⟨bR, 0, none⟩ = some (.bool false) := blk_cell gz.res
        have z3 : WAsd.frozen? ⟨bR, 0, none⟩ = false := blk_free gz.res
        have GZ := hidden gz
        clear gz
        gi_wp2
        have e1 := DSAsd2.out DAs1 (by simp)
        have e2 := DSAsd2.out DA0 (by simp)
        have dne : DA0 ≠ DAs1 := by omega
        have c3 : (WAsd.setCell ⟨bR, 0, none⟩ (.bool true)).cell? ⟨bR, 0, none⟩ = some (.bool true) := World.cell?_setCell_same' _ _ _ (by rw [z2]; rfl)
        have l3 := G1.out.l3
        have e3 : (WAsd.setCell ⟨bR, 0, none⟩ (.bool true)).heap[DAs1]? = some (.deferred (some [])) := blk_off e1 (by omega)
        have e4 : ((WAsd.setCell ⟨bR, 0, none⟩ (.bool true)).putObj DAs1 (.deferred none)).heap[DA0]? = some (.deferred (some [])) := blk_kept (kept_putObj (S := fun k => k = DAs1) _ DAs1 _ rfl) dne (blk_off e2 (by omega))
        have c4 := two_defers_cell (D := DAs1) (E := DA0) c3 (by omega) (by omega)
        refine ⟨by simp, .inl ⟨_, _, rfl, run_takeDeferred e3, ?_⟩⟩
        refine ⟨by simp, .inl ⟨_, _, rfl, run_takeDeferred e4, ?_⟩⟩
        refine ⟨_, by simp [results, Tryd.results41, go_sem, c4], rfl, ?_⟩
        exact Kept.trans' GZ.out.same (((Kept.refl (fun k => w.heap.size ≤ k) WAsd).setCell (p := ⟨bR, 0, none⟩) GZ.out.l4 _).trans ((kept_putObj _ DAs1 _ (by omega)).trans (kept_putObj _ DA0 _ (by omega)))) (fun k hk h => by omega)
      case stopAs1 =>
        rintro D c pre W _ hp h _
        exact absurd hp h
    · have hs3 : ¬ (i : Int) = (n : Int) := by omega
      clear hin hs2
      have GK : Hid (Kept (fun j => q ≤ j) W0 XA0) := hG.kept
      have HKD := hidden hD
      have gb := G1.out.kept GK.out
      have z0 : XA0.cell? ⟨bW, 0, none⟩ = some (.slice a0 n c0) := blk_cell gb.want
      have z1 : XA0.cell? ⟨bS, 0, none⟩ = some (.int .i64 (i : Int)) := by rw [show (i : Int) = st from by rw [← hi]; exact hst]; exact blk_cell gb.stop
      have gib := hG.ib
      rw [hi] at gib; clear hi hst
      have z4 : XA0.cell? ⟨bA0, 0, none⟩ = some (.int .i64 i) := blk_cell gib
      have z6 : XA0.cell? ⟨br, 0, none⟩ = some (.int .i64 0) := blk_cell hG.rb
      have DSL := hidden hG.ds
      have hXBA0 : WBA0.heap.size ≤ XA0.heap.size := hG.big
      clear gb gib hG hD
      gi_wp2
      rw [roundsIn_succ]
      obtain ⟨cAt, hcAt⟩ : ∃ b, b = XA0.heap.size := ⟨_, rfl⟩
      obtain ⟨WAt, hW1⟩ : ∃ Z, Z = XA0.alloc (.cells #[.int .i64 1] 3) := ⟨_, rfl⟩
      rw [← hW1, ← hcAt]
      have KAt1 : Hid (Kept (fun j => q ≤ j) W0 WAt) := by rw [hW1]; exact Kept.alloc GK.out _
      have FAt1 : Hid (WAt.heap[cAt]? = some (.cells #[.int .i64 1] 3 (0, 0))) := by rw [hW1, hcAt]; exact heap_alloc_new XA0 _
      have hlAt1 : cAt < WAt.heap.size := by rw [hW1, hcAt]; simp
      have DSAt1 : Hid (∀ d ∈ (DA0 :: [] : List Nat), WAt.heap[d]? = some (.deferred (some []))) := fun d hd => by
        rw [hW1]
        rcases List.mem_cons.1 hd with rfl | hd
        · exact blk_alloc HKD.out _
        · exact blk_alloc (DSL.out d hd) _
      have hDxAt : DA0 < cAt := by rw [hcAt]; exact blk_lt HKD.out
      have hsxAt : WBA0.heap.size ≤ cAt := by rw [hcAt]; exact hXBA0
      clear hW1 z0 z1 z4 z6 GK HKD DSL hcAt
      (try clear hs3)

      have rcAt1 : WAt.cell? ⟨cAt, 0, none⟩ = some (.int .i64 1) := blk_cell FAt1.out
      gi_wp2
      obtain ⟨bAt1, hbiAt1⟩ : ∃ b, b = WAt.heap.size := ⟨_, rfl⟩
      obtain ⟨WBAt1, hWB⟩ : ∃ X, X = WAt.alloc (.cells #[.int .i64 0] 3) := ⟨_, rfl⟩
      rw [← hWB]
      have kWB : Kept (fun j => q ≤ j) W0 WBAt1 := by rw [hWB]; exact Kept.alloc KAt1.out _
      have bI : WBAt1.heap[bAt1]? = some (.cells #[.int .i64 0] 3 (0, 0)) := by rw [hWB, hbiAt1]; exact heap_alloc_new WAt _
      have sBAt1 : bAt1 < WBAt1.heap.size := by rw [hWB, hbiAt1]; simp
      have bRr : WBAt1.heap[cAt]? = some (.cells #[.int .i64 1] 3 (0, 0)) := by rw [hWB]; exact blk_alloc FAt1.out _
      have qiAt1 : q ≤ bAt1 := by omega
      have bneAt1 : cAt < bAt1 := by rw [hbiAt1]; exact hlAt1
      have GIAt1 : Hid (GI W0 q bAt1 cAt 1 L (DA0 :: []) WBAt1.heap.size [] WBAt1) := ⟨kWB, bI, bRr, List.nil_prefix, (fun D hD => by rw [hWB]; exact blk_alloc (DSAt1.out D hD) _), Nat.le_refl _⟩
      have hrunAt1 := HIT.out WBAt1 bAt1 kWB qiAt1 sBAt1
      have dslAt1 : ∀ D ∈ ((DA0 :: []) : List Nat), D < WBAt1.heap.size := fun D hD => blk_lt (GIAt1.out.ds D hD)
      rw [← hbiAt1]
      have hbxAt1 := hidden hbiAt1
      clear hWB kWB bI bRr hbiAt1
      refine range_areas (first := first) (count := count) 21 11 rfl (by decide) (gf := 51) (lb := #[.pointer (some ⟨bA, 0, none⟩)]) rfl trivial (enters_of (Tryd.func51) (by kernel_rfl) rfl)
        hrunAt1 (fun h k => h.trans k) (fun W l o o' _ hl ho _ => KC.putObj _ W l o o' hl ho) (Below.refl _ _) rfl
        (GI W0 q bAt1 cAt 1 L (DA0 :: []) WBAt1.heap.size) (fun _ pre _ => ¬ pre <+: L)
        (GI.own (by omega) (by omega) (by omega) dslAt1) (fun _ _ _ _ _ hs _ _ => hs) GIAt1.out
        ?assignAt1 ?bodyAt1 ?doneAt1 ?stopAt1
      case assignAt1 =>
        intro lp pre x W K hi hK
        gi_wp2
        have hbg : WBAt1.heap.size ≤ W.heap.size := hi.big
        have nb := blk_new W (.cells #[.int .i64 ((first : Int) + (x.1.1 : Int)), .int .i64 (x.1.2 : Int)] 30)
        have kk : Same W (W.alloc (.cells #[.int .i64 ((first : Int) + (x.1.1 : Int)), .int .i64 (x.1.2 : Int)] 30)) := same_alloc _ _
        have ko := (KeepsOthers.alloc W (.cells #[.int .i64 ((first : Int) + (x.1.1 : Int)), .int .i64 (x.1.2 : Int)] 30)).from WBAt1.heap.size
        generalize W.heap.size = Bx at *
        exact hK _ _ ko (KC.of kk (fun _ h => h.elim)) (hi.same kk) ⟨Bx, hbg, nb, by simp⟩
      case bodyAt1 =>
        intro lp pre x Bx W hG hBx hbx hlt
        simp only [List.setIfInBounds_toArray, List.set_cons_succ, List.set_cons_zero]
        obtain ⟨⟨xa, xn⟩, hx⟩ := x
        dsimp only at hbx
        have GK : Hid (Kept (fun j => q ≤ j) W0 W) := hG.kept
        obtain ⟨i, hi⟩ : ∃ i, pre.length = i := ⟨_, rfl⟩
        have HI := hidden hi
        have hin : i < n := by rw [← hi, ← HN.out]; exact hlt
        have gib := hG.ib
        rw [hi] at gib
        obtain ⟨bb, y, rfl, hay, u0, u1⟩ := HAt.out W GK.out i hin
        have gb := G1.out.kept GK.out
        have PFX : Hid ((pre ++ [⟨(xa, xn), hx⟩]) <+: L ↔ (⟨(xa, xn), hx⟩ : Rn count) = y) := pf_iffA hG.pf hi hay
        obtain ⟨⟨ya, yn⟩, hy⟩ := y
        dsimp only at u0 u1
        have z0 : W.cell? ⟨bW, 0, none⟩ = some (.slice (some ⟨bb, 0, none⟩) n c0) := blk_cell gb.want
        have z4 : W.cell? ⟨bAt1, 0, none⟩ = some (.int .i64 i) := blk_cell gib
        have x0 : W.cell? ⟨Bx, 0, none⟩ = some (.int .i64 ((first : Int) + (xa : Int))) := blk_cell hbx
        have x1 : W.cell? ⟨Bx, 1, none⟩ = some (.int .i64 (xn : Int)) := blk_cell hbx
        have q1 : ¬ (n : Int) ≤ (i : Int) := by omega
        have q1d : decide ((n : Int) ≤ (i : Int)) = false := by simp; omega
        have q1e : decide (n ≤ i) = false := by simp; omega
        have q2 : (i : Int) < (n : Int) := by omega
        have q3 : (0 : Int) ≤ (i : Int) := Int.natCast_nonneg _
        have HG := hidden hG
        have hlR : bR < WBAt1.heap.size := by have := gb.l3; omega
        have hb3 : bR ≠ cAt := by have := gb.l3; omega
        clear hi hay gib hG hlt gb hbx
        generalize hA : (first : Int) + (xa : Int) = A at *
        generalize hB : (first : Int) + (ya : Int) = B at *
        have HA := hidden hA
        have HB := hidden hB
        clear hA hB
        by_cases hv : A = B ∧ xn = yn
        · obtain ⟨rfl, rfl⟩ := hv
          have PF : Hid ((pre ++ [⟨(xa, xn), hx⟩]) <+: L) := PFX.out.2 (by have e1 := HA.out; have e2 := HB.out; have e3 : xa = ya := (by omega); subst e3; rfl)
          gi_wp2
          refine wpIn_region_quiet_rd rfl (by kernel_rfl) (by kernel_rfl) (by kernel_rfl) ?_
          repeat (refine wpQuietIn_step (by first | (go_simp; done) | (go_simp; intros; trivial) | (intros; trivial)) (fun K hK => ?_); go_simp; first | (refine hK _ ?_; clear hK K) | (apply Exists.intro; refine ⟨fun _ => ?_, hK _ ?_⟩; (fail); clear hK K))
          refine wpQuietIn_nil ?_
          intro _ hw'
          obtain ⟨nq, hw''⟩ := hw'
          subst hw''
          have kq : Same W (W.drewN nq) := (Kept.refl (fun _ => False) W).drewN nq
          have HG2 := hidden (HG.out.same kq)
          have KF0 : Hid (KeepsFrom WBAt1.heap.size W (W.drewN nq)) := keepsFrom_all kq (fun j h => h.elim)
          have KC0 : Hid (KC (fun j => j = bAt1) W (W.drewN nq)) := KC.of kq (fun _ h => h.elim)
          clear kq z0 z4 x0 x1 u0 u1 HG GK q1d q1e
          generalize W.drewN nq = W2 at *
          have GIB : Hid (W2.heap[bAt1]? = some (.cells #[.int .i64 i] 3 (0, 0))) := by have := HG2.out.ib; rw [HI.out] at this; exact this
          have z4 : W2.cell? ⟨bAt1, 0, none⟩ = some (.int .i64 i) := blk_cell GIB.out
          have z5 : W2.frozen? ⟨bAt1, 0, none⟩ = false := blk_free GIB.out
          have KI : Hid (Kept (fun j => j = bAt1) W2 (W2.setCell ⟨bAt1, 0, none⟩ (.int .i64 ((i : Int) + 1)))) := (Kept.refl (fun k => k = bAt1) W2).setCell (p := ⟨bAt1, 0, none⟩) rfl _
          have zz : (W2.setCell ⟨bAt1, 0, none⟩ (.int .i64 ((i : Int) + 1))).cell? ⟨cAt, 0, none⟩ = some (.int .i64 1) := Kept.cell KI.out (by show ¬ cAt = bAt1; omega) (blk_cell HG2.out.rb)
          have NG : Hid (GI W0 q bAt1 cAt 1 L (DA0 :: []) WBAt1.heap.size (pre ++ [⟨(xa, xn), hx⟩]) (W2.setCell ⟨bAt1, 0, none⟩ (.int .i64 ((i : Int) + 1)))) := ⟨HG2.out.kept.trans (KI.out.mono (fun j _ e => by omega)), by have := blk_set (j := 0) GIB.out (.int .i64 ((i : Int) + 1)); rw [List.length_append, HI.out]; exact this, blk_kept KI.out (by omega) HG2.out.rb, PF.out, fun D hD => blk_kept KI.out (fun e => by have h1 := HG2.out.ds D hD; rw [e, GIB.out] at h1; cases h1) (HG2.out.ds D hD), Nat.le_trans HG2.out.big KI.out.size⟩
          gi_wp2
          exact ⟨KF0.out.trans (keepsFrom_one KI.out (by omega)), KC0.out.trans (KC.of KI.out (fun _ h => h)), NG.out⟩
        · have NPF : Hid (¬ (pre ++ [⟨(xa, xn), hx⟩]) <+: L) := fun h => hv (by have e := PFX.out.1 h; have e1 := congrArg (fun z : Rn count => z.1.1) e; have e2 := congrArg (fun z : Rn count => z.1.2) e; dsimp only at e1 e2; exact ⟨by rw [← HA.out, ← HB.out, e1], e2⟩)
          have hv1 : A = B → ¬ xn = yn := fun e1 e2 => hv ⟨e1, e2⟩
          clear hv
          by_cases hAB : A = B
          · have hne := hv1 hAB
            have hne2 : ¬ (xn : Int) = (yn : Int) := by omega
            have hned : decide ((xn : Int) = (yn : Int)) = false := by simp; omega
            have hnee : decide (xn = yn) = false := by simp; omega
            subst hAB
            clear hv1
            gi_wp2
            refine wpIn_region_quiet_rd rfl (by kernel_rfl) (by kernel_rfl) (by kernel_rfl) ?_
            repeat (refine wpQuietIn_step (by first | (go_simp; done) | (go_simp; intros; trivial) | (intros; trivial)) (fun K hK => ?_); go_simp; first | (refine hK _ ?_; clear hK K) | (apply Exists.intro; refine ⟨fun _ => ?_, hK _ ?_⟩; (fail); clear hK K))
            refine wpQuietIn_nil ?_
            intro _ hw'
            obtain ⟨nq, hw''⟩ := hw'
            subst hw''
            have kq : Same W (W.drewN nq) := (Kept.refl (fun _ => False) W).drewN nq
            have gz := (G1.out.kept GK.out).kept (kq.mono (fun _ _ h => h.elim))
            have z2 : (W.drewN nq).cell? ⟨bR, 0, none⟩ = some (.bool false) := blk_cell gz.res
            have z3 : (W.drewN nq).frozen? ⟨bR, 0, none⟩ = false := blk_free gz.res
            have KF0 : Hid (KeepsFrom WBAt1.heap.size W (W.drewN nq)) := keepsFrom_all kq (fun j h => h.elim)
            clear kq gz z0 z4 x0 x1 u0 u1
            generalize W.drewN nq = W2 at *
            gi_wp2
            exact ⟨KF0.out.trans (keepsFrom_one ((Kept.refl (fun k => k = bR) W2).setCell (p := ⟨bR, 0, none⟩) rfl _) hlR), NPF.out⟩
          · have hned : decide (A = B) = false := by simp; exact hAB
            clear hv1
            gi_wp2
            refine wpIn_region_quiet_rd rfl (by kernel_rfl) (by kernel_rfl) (by kernel_rfl) ?_
            repeat (refine wpQuietIn_step (by first | (go_simp; done) | (go_simp; intros; trivial) | (intros; trivial)) (fun K hK => ?_); go_simp; first | (refine hK _ ?_; clear hK K) | (apply Exists.intro; refine ⟨fun _ => ?_, hK _ ?_⟩; (fail); clear hK K))
            refine wpQuietIn_nil ?_
            intro _ hw'
            obtain ⟨nq, hw''⟩ := hw'
            subst hw''
            have kq : Same W (W.drewN nq) := (Kept.refl (fun _ => False) W).drewN nq
            have gz := (G1.out.kept GK.out).kept (kq.mono (fun _ _ h => h.elim))
            have z2 : (W.drewN nq).cell? ⟨bR, 0, none⟩ = some (.bool false) := blk_cell gz.res
            have z3 : (W.drewN nq).frozen? ⟨bR, 0, none⟩ = false := blk_free gz.res
            have KF0 : Hid (KeepsFrom WBAt1.heap.size W (W.drewN nq)) := keepsFrom_all kq (fun j h => h.elim)
            clear kq gz z0 z4 x0 x1 u0 u1
            generalize W.drewN nq = W2 at *
            gi_wp2
            exact ⟨KF0.out.trans (keepsFrom_one ((Kept.refl (fun k => k = bR) W2).setCell (p := ⟨bR, 0, none⟩) rfl _) hlR), NPF.out⟩
      case doneAt1 =>
        rintro DAt1 ys XAt1 hDlAt1 hys hG hD
        rw [hys] at hG
        clear hys
        have GK : Hid (Kept (fun j => q ≤ j) W0 XAt1) := hG.kept
        have HKD := hidden hD
        have gb := G1.out.kept GK.out
        have z0 : XAt1.cell? ⟨bW, 0, none⟩ = some (.slice a0 n c0) := blk_cell gb.want
        have z1 : XAt1.cell? ⟨bS, 0, none⟩ = some (.int .i64 st) := blk_cell gb.stop
        have gib := hG.ib
        rw [HN.out] at gib
        have z4 : XAt1.cell? ⟨bAt1, 0, none⟩ = some (.int .i64 n) := blk_cell gib
        have z6 : XAt1.cell? ⟨cAt, 0, none⟩ = some (.int .i64 1) := blk_cell hG.rb
        have DSL := hidden hG.ds
        have hXBAt1 : WBAt1.heap.size ≤ XAt1.heap.size := hG.big
        clear gb gib hG hD
        gi_wp2
        rw [roundsIn_succ]
        obtain ⟨cAtd, hcAtd⟩ : ∃ b, b = XAt1.heap.size := ⟨_, rfl⟩
        obtain ⟨WAtd, hW1⟩ : ∃ Z, Z = XAt1.alloc (.cells #[.int .i64 2] 3) := ⟨_, rfl⟩
        rw [← hW1, ← hcAtd]
        have KAtd2 : Hid (Kept (fun j => q ≤ j) W0 WAtd) := by rw [hW1]; exact Kept.alloc GK.out _
        have FAtd2 : Hid (WAtd.heap[cAtd]? = some (.cells #[.int .i64 2] 3 (0, 0))) := by rw [hW1, hcAtd]; exact heap_alloc_new XAt1 _
        have hlAtd2 : cAtd < WAtd.heap.size := by rw [hW1, hcAtd]; simp
        have DSAtd2 : Hid (∀ d ∈ (DAt1 :: (DA0 :: []) : List Nat), WAtd.heap[d]? = some (.deferred (some []))) := fun d hd => by
          rw [hW1]
          rcases List.mem_cons.1 hd with rfl | hd
          · exact blk_alloc HKD.out _
          · exact blk_alloc (DSL.out d hd) _
        have hDxAtd : DAt1 < cAtd := by rw [hcAtd]; exact blk_lt HKD.out
        have hsxAtd : WBAt1.heap.size ≤ cAtd := by rw [hcAtd]; exact hXBAt1
        clear hW1 z0 z1 z4 z6 GK HKD DSL hcAtd
        (try clear hs3)
        have gz := G1.out.kept KAtd2.out
        have rc : WAtd.cell? ⟨cAtd, 0, none⟩ = some (.int .i64 2) := blk_cell FAtd2.out
        have z2 : WAtd.cell? ⟨bR, 0, none⟩ = some (.bool false) := blk_cell gz.res
        have z3 : WAtd.frozen? ⟨bR, 0, none⟩ = false := blk_free gz.res
        have GZ := hidden gz
        clear gz
        gi_wp2
        have e1 := DSAtd2.out DAt1 (by simp)
        have e2 := DSAtd2.out DA0 (by simp)
        have dne : DA0 ≠ DAt1 := by omega
        have c3 : (WAtd.setCell ⟨bR, 0, none⟩ (.bool true)).cell? ⟨bR, 0, none⟩ = some (.bool true) := World.cell?_setCell_same' _ _ _ (by rw [z2]; rfl)
        have l3 := G1.out.l3
        have e3 : (WAtd.setCell ⟨bR, 0, none⟩ (.bool true)).heap[DAt1]? = some (.deferred (some [])) := blk_off e1 (by omega)
        have e4 : ((WAtd.setCell ⟨bR, 0, none⟩ (.bool true)).putObj DAt1 (.deferred none)).heap[DA0]? = some (.deferred (some [])) := blk_kept (kept_putObj (S := fun k => k = DAt1) _ DAt1 _ rfl) dne (blk_off e2 (by omega))
        have c4 := two_defers_cell (D := DAt1) (E := DA0) c3 (by omega) (by omega)
        refine ⟨by simp, .inl ⟨_, _, rfl, run_takeDeferred e3, ?_⟩⟩
        refine ⟨by simp, .inl ⟨_, _, rfl, run_takeDeferred e4, ?_⟩⟩
        refine ⟨_, by simp [results, Tryd.results41, go_sem, c4], rfl, ?_⟩
        exact Kept.trans' GZ.out.same (((Kept.refl (fun k => w.heap.size ≤ k) WAtd).setCell (p := ⟨bR, 0, none⟩) GZ.out.l4 _).trans ((kept_putObj _ DAt1 _ (by omega)).trans (kept_putObj _ DA0 _ (by omega)))) (fun k hk h => by omega)
      case stopAt1 =>
        rintro D c pre W _ hp h _
        exact absurd hp h
end Go.Proofs.YtbmbdidmbdanmaaDoor
