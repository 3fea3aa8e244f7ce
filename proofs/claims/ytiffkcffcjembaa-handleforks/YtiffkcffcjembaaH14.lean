/- A table and the document's one, alike: what the law's does tells of each call. -/
import Derived.Test.YtiffkcffcjembaaH13
import Derived.Test.YtiffkcffcjembaaQuietS
namespace Go.Proofs.Ytiffkcffcjembaa
open Go.RowKit Go.Maps
set_option linter.unusedVariables false
set_option linter.unusedSimpArgs false
structure PR (w : World) (g bm gr : Nat) (f : FT) (n : Nat) : Prop where
  t : TB w g bm f n
  r : RT w gr (ol f)
theorem PR.same {w w' : World} {g bm gr n : Nat} {f : FT} (h : PR w g bm gr f n) (k : Same w w') : PR w' g bm gr f n := ⟨h.t.same k, h.r.same k⟩
theorem RT.blk {w : World} {gr : Nat} {l : List HT} (h : RT w gr l) : ∃ v, w.heap[gr]? = some (.cells #[v] 29 (0, 0)) := by
  obtain ⟨v, hb, _⟩ := h.ex
  exact ⟨v, hb⟩
theorem TB.mapblk {w : World} {g bm n : Nat} {f : FT} (h : TB w g bm f n) : ∃ es c, w.heap[bm]? = some (.map es c) := by
  obtain ⟨D, ⟨es, c, hb, _⟩, _⟩ := h.ex
  exact ⟨es, c, hb⟩
theorem PR.ne {w : World} {g bm gr n : Nat} {f : FT} (h : PR w g bm gr f n) : gr ≠ g ∧ gr ≠ bm := by
  obtain ⟨v, hv⟩ := h.r.blk
  obtain ⟨es, c, hm⟩ := h.t.mapblk
  have hg := h.t.blk
  refine ⟨fun e => ?_, fun e => ?_⟩
  · subst e
    rw [hv] at hg
    simp at hg
  · subst e
    rw [hv] at hm
    cases hm
/-- The document's table stays while the program's one turns. -/
theorem PR.keepR {w w' : World} {g bm gr n : Nat} {f : FT} (h : PR w g bm gr f n) (k : Kept (TS g bm) w w') : RT w' gr (ol f) := by
  have hne := h.ne
  obtain ⟨es, c, hm⟩ := h.t.mapblk
  have hg := h.t.blk
  refine h.r.kept k (fun e => by rcases e with e | e; exact hne.1 e; exact hne.2 e) (fun b cs hb e => ?_)
  rcases e with rfl | rfl
  · rw [hb] at hg; simp at hg
  · rw [hb] at hm; cases hm
theorem TB.mono {w : World} {g bm n m : Nat} {f : FT} (h : TB w g bm f n) (hm : n ≤ m) : TB w g bm f m := by
  obtain ⟨D, ho, hc⟩ := h.ex
  exact ⟨h.blk, ⟨D, ho.mono hm, hc⟩, h.goo⟩
abbrev DS (g bm gr : Nat) : Nat → Prop := fun k => k = g ∨ k = bm ∨ k = gr
/-- What a step of both leaves. -/
structure DOut (g bm gr n : Nat) (w w' : World) : Prop where
  ex : ∃ bm' f', PR w' g bm' gr f' (n + 1) ∧ (bm' = bm ∨ w.heap.size ≤ bm') ∧ Kept (DS g bm gr) w w'
theorem DOut.quiet {w w' : World} {g bm gr n : Nat} {f : FT} (h : PR w g bm gr f n) (k : Same w w') : DOut g bm gr n w w' :=
  ⟨bm, f, ⟨(h.t.same k).mono (by omega), h.r.same k⟩, .inl rfl, k.mono (fun _ _ h => h.elim)⟩
/-- The program's one, then the document's. -/
theorem DOut.both {w w0 w1 w2 : World} {g bm gr n : Nat} {f f' : FT} (h : PR w g bm gr f n) (k0 : Same w w0) (t1 : TB w1 g bm f' (n + 1)) (k1 : Kept (TS g bm) w0 w1) (r2 : RT w2 gr (ol f')) (k2 : Kept (fun k => k = gr) w1 w2) : DOut g bm gr n w w2 := by
  have hne := h.ne
  refine ⟨bm, f', ⟨t1.kept k2 (fun e => hne.1 e.symm) (fun e => hne.2 e.symm), r2⟩, .inl rfl, ?_⟩
  have a1 : Kept (DS g bm gr) w w0 := k0.mono (fun _ _ h => h.elim)
  have a2 : Kept (DS g bm gr) w0 w1 := k1.mono (fun k _ h => by rcases h with h | h; exact .inl h; exact .inr (.inl h))
  have a3 : Kept (DS g bm gr) w1 w2 := k2.mono (fun k _ h => .inr (.inr h))
  exact (a1.trans a2).trans a3
theorem least_free (f : FT) : (∃ m, m < 64 ∧ (∀ i, i < m → (f i).1 ≠ 0) ∧ (f m).1 = 0) ∨ ∀ i, i < 64 → (f i).1 ≠ 0 := by
  have : ∀ k, k ≤ 64 → (∃ m, m < k ∧ (∀ i, i < m → (f i).1 ≠ 0) ∧ (f m).1 = 0) ∨ ∀ i, i < k → (f i).1 ≠ 0 := by
    intro k
    induction k with
    | zero => intro _; exact .inr (fun i hi => by omega)
    | succ k ih =>
      intro hk
      rcases ih (by omega) with ⟨m, h1, h2⟩ | h
      · exact .inl ⟨m, by omega, h2⟩
      · by_cases e : (f k).1 = 0
        · exact .inl ⟨k, by omega, h, e⟩
        · exact .inr (fun i hi => by by_cases ei : i = k; subst ei; exact e; exact h i (by omega))
  exact this 64 (Nat.le_refl _)
theorem full_of {w : World} {g bm gr n : Nat} {f : FT} (h : ∀ i, i < 64 → (f i).1 ≠ 0) : (ol f).length = 64 ∧ ∀ (j : Nat) p, (ol f)[j]? = some p → p.1 = (j : Int) := by
  obtain ⟨h1, h2⟩ := os_full f 64 h
  refine ⟨h1, fun j p hp => ?_⟩
  have hj : j < 64 := by have h3 : (ol f).length = 64 := h1; have := (List.getElem?_eq_some_iff.1 hp).1; omega
  rw [h2 j hj] at hp
  cases hp; rfl
/-- The document's list around the least free place. -/
theorem around (f : FT) (m : Nat) (hm : m < 64) (hno : ∀ i, i < m → (f i).1 ≠ 0) (hat : (f m).1 = 0) : ol f = os f 0 m ++ os f (m + 1) (63 - m) ∧ (os f 0 m).length = m ∧ (∀ (j : Nat) p, (os f 0 m)[j]? = some p → p.1 = (j : Int)) ∧ (∀ p, (os f (m + 1) (63 - m))[0]? = some p → p.1 ≠ (m : Int)) ∧ (os f 0 m ++ os f (m + 1) (63 - m)).length ≤ 63 := by
  obtain ⟨h1, h2⟩ := os_full f m hno
  refine ⟨(ol_open f m hm hat 1 0 (by decide)).2, h1, fun j p hp => ?_, fun p hp => ?_, ?_⟩
  · have hj : j < m := by have := (List.getElem?_eq_some_iff.1 hp).1; omega
    rw [h2 j hj] at hp
    cases hp; rfl
  · obtain ⟨i, hi, _, rfl, _⟩ := os_mem f (m + 1) _ p (List.mem_of_getElem? hp)
    show (i : Int) ≠ m
    omega
  · rw [List.length_append, h1]
    have := os_le f (m + 1) (63 - m)
    omega
theorem notin {f : FT} {x : Int} (h : x < 0 ∨ 64 ≤ x ∨ ∃ i : Nat, i < 64 ∧ x = i ∧ (f i).1 = 0) : ∀ p ∈ ol f, p.1 ≠ x := by
  intro p hp
  obtain ⟨i, _, hi, rfl, hf⟩ := os_mem f 0 64 p hp
  show (i : Int) ≠ x
  rcases h with h | h | ⟨j, hj, rfl, h⟩
  · omega
  · omega
  · intro e
    have : i = j := by omega
    subst this
    exact hf h
theorem isin_or (f : FT) (x : Int) : (∃ i : Nat, i < 64 ∧ x = i ∧ (f i).1 ≠ 0) ∨ (x < 0 ∨ 64 ≤ x ∨ ∃ i : Nat, i < 64 ∧ x = i ∧ (f i).1 = 0) := by
  by_cases h1 : x < 0
  · exact .inr (.inl h1)
  · by_cases h2 : 64 ≤ x
    · exact .inr (.inr (.inl h2))
    · obtain ⟨i, rfl⟩ : ∃ i : Nat, x = i := ⟨x.toNat, by omega⟩
      by_cases h3 : (f i).1 = 0
      · exact .inr (.inr (.inr ⟨i, by omega, rfl, h3⟩))
      · exact .inl ⟨i, by omega, rfl, h3⟩
/-- The box of a step beside both. -/
theorem boxed (w : World) (kd x fl : Int) : (w.alloc (.cells #[.int .i64 kd, .int .i64 x, .int .i64 fl] 31)).heap[w.heap.size]? = some (.cells #[.int .i64 kd, .int .i64 x, .int .i64 fl] 31 (0, 0)) := blk_new w _
set_option maxHeartbeats 2000000 in
set_option maxRecDepth 100000 in
theorem d_open (g bm gr : Nat) (f : FT) (n : Nat) (x fl : Int) (w : World) (h : PR w g bm gr f n) (hx : I64 x) (hf : I64 fl) (hn : n < 17592186044416) :
    Calls Try.prog 9 #[P0 g, P0 gr, .agg #[.int .i64 0, .int .i64 x, .int .i64 fl]] w fun e w' => e = .returned (.bool true) ∧ DOut g bm gr n w w' := by
  have H := hidden h
  have hgl := blk_lt h.t.blk
  have hbl : bm < w.heap.size := by obtain ⟨es, c, hb⟩ := h.t.mapblk; exact blk_lt hb
  have h0 := hidden (h.same (same_alloc w (.cells #[.int .i64 0, .int .i64 x, .int .i64 fl] 31)))
  have bx := hidden (boxed w 0 x fl)
  have K0 := hidden (same_alloc w (.cells #[.int .i64 0, .int .i64 x, .int .i64 fl] 31))
  rcases least_free f with ⟨m, hm, hno, hat⟩ | hfull
  · obtain ⟨e0, e1, e2, e3, e4⟩ := around f m hm hno hat
    by_cases hx1 : x < 1
    · have E0 := hidden e0
      clear h e0
      go_enter Try.func9, Try.ntmps9
      go_wp2_with (first
        | (go_at_call 12; refine (h_open_bad g bm _ _ x fl m _ h0.out.t hm hno hat hx1).mono ?_; rintro e w1 ⟨rfl, k1⟩; have b1 := blk_kept k1 (fun h => h) bx.out; have c1 := (blk_cell (j := 1) b1); have c2 := (blk_cell (j := 2) b1); simp at c1 c2; have P1 := hidden (h0.out.same k1); have K1 := hidden (K0.out.trans k1); clear k1 b1)
        | (go_at_call 19; refine (r_open_bad gr _ _ m x fl _ (E0.out ▸ P1.out.r) e1 e2 e3 e4 hx1).mono ?_; rintro e w2 ⟨rfl, h2⟩; obtain rfl := h2.symm; clear h2))
      go_ret
      exact ⟨rfl, DOut.quiet H.out K1.out⟩
    · have E0 := hidden e0
      have hx2 : 1 ≤ x := by omega
      have E1 := hidden (ol_open f m hm hat x fl (by omega)).1
      clear h e0 hx1
      go_enter Try.func9, Try.ntmps9
      go_wp2_with (first
        | (go_at_call 12; refine (h_open g bm _ _ x fl m _ h0.out.t hm hno hat hx2 hx hf (by omega)).mono ?_; rintro e w1 ⟨rfl, t1, k1⟩; have b1 := blk_kept k1 (fun h => by rcases h with h | h <;> omega) bx.out; have c1 := (blk_cell (j := 1) b1); have c2 := (blk_cell (j := 2) b1); simp at c1 c2; have R1 := hidden (h0.out.keepR k1); have T1 := hidden t1; have K1 := hidden k1; clear k1 b1 t1)
        | (go_at_call 19; refine (r_open gr _ _ m x fl _ (E0.out ▸ R1.out) e1 e2 e3 e4 hx2).mono ?_; rintro e w2 ⟨rfl, r2, k2⟩; rw [← E1.out] at r2; have R2 := hidden r2; have K2 := hidden k2; clear r2 k2))
      go_ret
      exact ⟨rfl, DOut.both H.out K0.out T1.out K1.out R2.out K2.out⟩
  · obtain ⟨e1, e2⟩ := full_of (w := w) (g := g) (bm := bm) (gr := gr) (n := n) hfull
    clear h
    go_enter Try.func9, Try.ntmps9
    go_wp2_with (first
      | (go_at_call 12; refine (h_open_full g bm _ _ x fl _ h0.out.t hfull).mono ?_; rintro e w1 ⟨rfl, k1⟩; have b1 := blk_kept k1 (fun h => h) bx.out; have c1 := (blk_cell (j := 1) b1); have c2 := (blk_cell (j := 2) b1); simp at c1 c2; have P1 := hidden (h0.out.same k1); have K1 := hidden (K0.out.trans k1); clear k1 b1)
      | (go_at_call 19; refine (r_open_full gr _ x fl _ P1.out.r e1 e2).mono ?_; rintro e w2 ⟨rfl, h2⟩; obtain rfl := h2.symm; clear h2))
    go_ret
    exact ⟨rfl, DOut.quiet H.out K1.out⟩
end Go.Proofs.Ytiffkcffcjembaa
