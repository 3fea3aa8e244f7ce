/- What DiskFlushed holds while it plays. -/
import Derived.Test.YtpfcggliibmdbaaX3
import Derived.Test.YtpfcggliibmdbaaE6
namespace Go.Proofs.Ytpfcggliibmdbaa
open Go.RowKit
set_option linter.unusedVariables false
theorem Ints.same {w w' : World} {v : Value} {l : List Int} (h : Ints w v l) (k : Same w w') : Ints w' v l := by
  rcases h with h | ⟨a, cap, e, hc⟩
  · exact Or.inl h
  · exact Or.inr ⟨a, cap, e, fun j hj => Kept.cell k (fun h => h) (hc j hj)⟩
theorem XD.up {B n c g pb pc rb rc M M' : Nat} {pl rl : List (List UInt8)} {pend : List (Nat × List UInt8)} {w : World} (h : XD B n c g pb pc rb rc M pl rl pend w) (hM : M ≤ M') : XD B n c g pb pc rb rc M' pl rl pend w := by
  obtain ⟨qv, qs, ps, rs, r, wn, f, h1, h2, h3, h4, h5⟩ := h.ex
  have := h.mM
  exact ⟨⟨qv, qs, ps, rs, r, wn, f, h1, by omega, by omega, by omega, h5⟩, h.pn, h.rn, h.ne, h.lg, h.lp, h.lr, by omega, h.hn, h.hc⟩
/-- New gives a Disk that is told so. -/
theorem Made.xd {n c g : Nat} {w w' : World} (h : Made n c g w w') (hn : n ≤ 4096) (hc : c ≤ 4096) : ∃ pb rb rc, XD w.heap.size n c g pb c rb rc 0 (List.replicate c (List.replicate n 0)) (List.replicate c (List.replicate n 0)) [] w' ∧ Same w w' := by
  obtain ⟨pb, rb, rc, z, b, p, r, lg, lp, lr, lpr, k, o⟩ := h.ex
  have hL : LL w' (List.replicate c z) (List.replicate c (List.replicate n 0)) := ⟨by simp, fun i a b => by simpa using o⟩
  exact ⟨pb, rb, rc, ⟨⟨_, [], _, _, 0, 0, 0, b, Nat.le_refl _, Nat.le_refl _, Nat.le_refl _, p, hL, r, hL, World.ownsRow_nil _ _ _ _, (fun k hk => absurd hk (by simp)), (fun k hk => by cases hk)⟩, (fun l hl => by rw [List.eq_of_mem_replicate hl]; simp), (fun l hl => by rw [List.eq_of_mem_replicate hl]; simp), lpr, lg, lp, lr, Nat.le_refl _, hn, hc⟩, k⟩
/-- A row of the law's own stays behind a call of the Disk. -/
theorem XD.row {B n c g pb pc rb rc M H nb ncp C : Nat} {pl rl : List (List UInt8)} {pend : List (Nat × List UInt8)} {w w' : World} {xs : List Value} (h : XD B n c g pb pc rb rc M pl rl pend w) (d : DF g pb rb w w') (hg : g < H) (hp : pb < H) (hr : rb < H) (hb : H ≤ nb)
    (o : w.ownsRow C 22 1 (.slice (some ⟨nb, 0, none⟩) c ncp) c xs) : w'.ownsRow C 22 1 (.slice (some ⟨nb, 0, none⟩) c ncp) c xs := by
  obtain ⟨qv, qs, ps, rs, r, wn, f, h1, h2, h3, h4, h5, h6, h7, h8, h9, h10, h11⟩ := h.ex
  refine own_kept o d.kept fun k hk hs => ?_
  simp [Value.ownBlock] at hk
  subst hk
  rcases hs with hs | hs | hs | hs
  · omega
  · omega
  · omega
  · rw [rowOf_dc h1] at hs
    rcases own_rows o h9 (by decide) with hx | hx
    · cases hx
    · exact hx (by rw [hs]; rfl)
theorem app_add (pend : List (Nat × List UInt8)) (pl : List (List UInt8)) (i : Nat) (l : List UInt8) : app (pend ++ [(i, l)]) pl = (app pend pl).set i l := by
  unfold app
  rw [List.foldl_append]
  rfl
theorem app_other (pend : List (Nat × List UInt8)) (i : Nat) : ∀ pl : List (List UInt8), (∀ x ∈ pend, x.1 ≠ i) → (app pend pl)[i]? = pl[i]? := by
  unfold app
  induction pend with
  | nil => intro pl _; rfl
  | cons x t ih =>
    intro pl h
    rw [List.foldl_cons, ih _ (fun y hy => h y (List.mem_cons_of_mem _ hy)), List.getElem?_set_ne (h x (List.mem_cons_self ..))]
theorem rd_other (pl : List (List UInt8)) (pend : List (Nat × List UInt8)) (i : Nat) : ∀ rl : List (List UInt8), (∀ x ∈ pend, x.1 ≠ i) → (rd pl pend rl)[i]? = rl[i]? := by
  unfold rd
  induction pend with
  | nil => intro rl _; rfl
  | cons x t ih =>
    intro rl h
    rw [List.foldl_cons, ih _ (fun y hy => h y (List.mem_cons_of_mem _ hy)), List.getElem?_set_ne (h x (List.mem_cons_self ..))]
/-- What the law holds while it plays: what each sector reads now; what was flushed of it, or nothing. -/
structure FI (B n c g pb rb rc nb ncp H M lb lcp : Nat) (pl : List (List UInt8)) (pend : List (Nat × List UInt8)) (ls ns : List Value) (w : World) : Prop where
  xd : XD B n c g pb c rb rc M pl (app pend pl) pend w
  len : pl.length = c
  last : w.ownsRow 0 22 1 (.slice (some ⟨lb, 0, none⟩) c lcp) c ls
  now : w.ownsRow 0 22 1 (.slice (some ⟨nb, 0, none⟩) c ncp) c ns
  ln : LL w ns (app pend pl)
  ll : ∀ i (h : i < ls.length) (h' : i < pl.length), ls[i] = .slice none 0 0 ∨ (Own w ls[i] pl[i] 0 ∧ ∀ x ∈ pend, x.1 ≠ i)
  ne : lb ≠ nb
  hl : H ≤ lb
  hn : H ≤ nb
  hg : g < H
  hp : pb < H
  hr : rb < H
theorem FI.up {B n c g pb rb rc nb ncp H M M' lb lcp : Nat} {pl : List (List UInt8)} {pend : List (Nat × List UInt8)} {ls ns : List Value} {w : World} (h : FI B n c g pb rb rc nb ncp H M lb lcp pl pend ls ns w) (hM : M ≤ M') : FI B n c g pb rb rc nb ncp H M' lb lcp pl pend ls ns w :=
  ⟨h.xd.up hM, h.len, h.last, h.now, h.ln, h.ll, h.ne, h.hl, h.hn, h.hg, h.hp, h.hr⟩
theorem FI.same {B n c g pb rb rc nb ncp H M lb lcp : Nat} {pl : List (List UInt8)} {pend : List (Nat × List UInt8)} {ls ns : List Value} {w w' : World} (h : FI B n c g pb rb rc nb ncp H M lb lcp pl pend ls ns w) (k : Same w w') : FI B n c g pb rb rc nb ncp H M lb lcp pl pend ls ns w' :=
  ⟨h.xd.same k, h.len, own_kept h.last k (fun _ _ h => h), own_kept h.now k (fun _ _ h => h), h.ln.kept (fun u l o => o.same k), fun i a b => (h.ll i a b).imp id fun x => ⟨x.1.same k, x.2⟩, h.ne, h.hl, h.hn, h.hg, h.hp, h.hr⟩
theorem XD.kept {B n c g pb pc rb rc M : Nat} {pl rl : List (List UInt8)} {pend : List (Nat × List UInt8)} {w w' : World} {S : Nat → Prop} (h : XD B n c g pb pc rb rc M pl rl pend w) (k : Kept S w w') (hg : ¬ S g) (hp : ¬ S pb) (hr : ¬ S rb)
    (hq : ∀ i cs, w.heap[i]? = some (.cells cs 58 (0, 0)) → ¬ S i) (hb : ∀ i cs, w.heap[i]? = some (.cells cs 5 (0, 0)) → ¬ S i) : XD B n c g pb pc rb rc M pl rl pend w' := by
  obtain ⟨qv, qs, ps, rs, r, wn, f, h1, h2, h3, h4, h5, h6, h7, h8, h9, h10, h11⟩ := h.ex
  have kk : ∀ u l, Own w u l 0 → Own w' u l 0 := fun u l o => o.kept k (fun i cs _ hi => hb i cs hi)
  refine ⟨⟨qv, qs, ps, rs, r, wn, f, blk_kept k hg h1, h2, h3, h4, own_kept h5 k (fun i hi => ?_), h6.kept kk, own_kept h7 k (fun i hi => ?_), h8.kept kk, own_kept h9 k (fun i hi => ?_), h10.kept kk, h11⟩, h.pn, h.rn, h.ne, h.lg, h.lp, h.lr, h.mM, h.hn, h.hc⟩
  · simp [Value.ownBlock] at hi; subst hi; exact hp
  · simp [Value.ownBlock] at hi; subst hi; exact hr
  · rcases h9.2 with ⟨h, _⟩ | ⟨g', cap, cur, h, _, hg', _⟩
    · rw [h] at hi; cases hi
    · rw [h] at hi
      simp [Value.ownBlock] at hi
      subst hi
      exact hq _ _ hg'
theorem FI.wrote {B n c g pb rb rc nb ncp H M lb lcp i : Nat} {pl : List (List UInt8)} {pend : List (Nat × List UInt8)} {ls ns : List Value} {w w' : World} {u : Value} {l : List UInt8} (h : FI B n c g pb rb rc nb ncp H M lb lcp pl pend ls ns w) (hx : XD B n c g pb c rb rc (M + 1) pl ((app pend pl).set i l) (pend ++ [(i, l)]) w') (hk : KT B w w') (hd : DF g pb rb w w') (hu : Own w' u l 0) (hi : i < c) :
    FI B n c g pb rb rc nb ncp H (M + 1) lb lcp pl (pend ++ [(i, l)]) (ls.set i (.slice none 0 0)) (ns.set i u) ((w'.setCell ⟨nb, i, none⟩ u).setCell ⟨lb, i, none⟩ (.slice none 0 0)) := by
  have hl := h.xd.row hd h.hg h.hp h.hr h.hl h.last
  have hn := h.xd.row hd h.hg h.hp h.hr h.hn h.now
  have e1 := h.hl
  have e2 := h.hn
  have e3 := h.hg
  have e4 := h.hp
  have e5 := h.hr
  have e6 := h.ne
  have K1 : Kept (fun x => x = nb) w' (w'.setCell ⟨nb, i, none⟩ u) := (Kept.refl (fun x => x = nb) _).setCell (p := ⟨nb, i, none⟩) rfl _
  have K2 : Kept (fun x => x = lb) (w'.setCell ⟨nb, i, none⟩ u) ((w'.setCell ⟨nb, i, none⟩ u).setCell ⟨lb, i, none⟩ (.slice none 0 0)) := (Kept.refl (fun x => x = lb) _).setCell (p := ⟨lb, i, none⟩) rfl _
  have hl1 := own_kept hl K1 (fun k hk e => by simp [Value.ownBlock] at hk; omega)
  have kb : ∀ v q, Own w' v q 0 → Own ((w'.setCell ⟨nb, i, none⟩ u).setCell ⟨lb, i, none⟩ (.slice none 0 0)) v q 0 := fun v q o => (o.row hn K1).row hl1 K2
  have hn2 := own_kept (own_set hn hi u) K2 (fun k hk e => by simp [Value.ownBlock] at hk; omega)
  have hl2 := own_set hl1 hi (.slice none 0 0)
  have hx1 := hx.kept K1 (by omega) (by omega) (by omega) (fun j cs hb e => own_apart hn hb (by decide) (by rw [e]; rfl)) (fun j cs hb e => own_apart hn hb (by decide) (by rw [e]; rfl))
  have hx2 := hx1.kept K2 (by omega) (by omega) (by omega) (fun j cs hb e => own_apart hl1 hb (by decide) (by rw [e]; rfl)) (fun j cs hb e => own_apart hl1 hb (by decide) (by rw [e]; rfl))
  refine ⟨by rw [app_add]; exact hx2, h.len, hl2, hn2, ?_, fun j a b => ?_, h.ne, h.hl, h.hn, h.hg, h.hp, h.hr⟩
  · rw [app_add]
    exact (h.ln.kept (fun v q o => kb v q (o.kt hk))).set (kb u l hu) i
  · rw [List.getElem_set]
    by_cases hj : i = j
    · rw [if_pos hj]; exact Or.inl rfl
    · rw [if_neg hj]
      refine (h.ll j (by simpa using a) b).imp id fun x => ⟨kb _ _ (x.1.kt hk), fun y hy => ?_⟩
      rcases List.mem_append.1 hy with hy | hy
      · exact x.2 y hy
      · rw [List.mem_singleton.1 hy]; exact hj
theorem FI.flushed {B n c g pb rb rc nb ncp H M lb lcp nl nlc : Nat} {pl : List (List UInt8)} {pend : List (Nat × List UInt8)} {ls ns : List Value} {w w' w2 : World} (h : FI B n c g pb rb rc nb ncp H M lb lcp pl pend ls ns w) (hx : XD B n c g pb c rb rc (M + 1) (app pend pl) (app pend pl) [] w') (hk : KT B w w') (hd : DF g pb rb w w') (k2 : Same w' w2)
    (ho : w2.ownsRow w'.heap.size 22 1 (.slice (some ⟨nl, 0, none⟩) c nlc) c ns) (hnl : w'.heap.size ≤ nl) :
    FI B n c g pb rb rc nb ncp H (M + 1) nl nlc (app pend pl) [] ns ns w2 := by
  have hn := h.xd.row hd h.hg h.hp h.hr h.hn h.now
  have hnb : nb < w'.heap.size := by
    rcases hn.2 with ⟨h, _⟩ | ⟨g', cap, cur, h, _, hg', _⟩
    · cases h
    · obtain ⟨rfl, _⟩ : nb = g' ∧ ncp = cap := by simpa using h
      exact blk_lt hg'
  have e2 := h.hn
  have hL : LL w2 ns (app pend pl) := h.ln.kept (fun v q o => (o.kt hk).same k2)
  exact ⟨hx.same k2, by rw [app_len, h.len], own_base ho, own_kept hn k2 (fun _ _ h => h), hL, fun i a b => Or.inr ⟨hL.2 i a b, fun x hx => by cases hx⟩, by omega, by omega, h.hn, h.hg, h.hp, h.hr⟩
/-- What the law holds at the end: what was flushed of a sector is read. -/
structure FE (B n c g pb rb rc H M lb lcp : Nat) (pl rl : List (List UInt8)) (ls : List Value) (w : World) : Prop where
  xd : XD B n c g pb c rb rc M pl rl [] w
  len : rl.length = c
  last : w.ownsRow 0 22 1 (.slice (some ⟨lb, 0, none⟩) c lcp) c ls
  ll : ∀ i (h : i < ls.length) (h' : i < rl.length), ls[i] = .slice none 0 0 ∨ Own w ls[i] rl[i] 0
  hl : H ≤ lb
  hg : g < H
  hp : pb < H
  hr : rb < H
theorem FE.same {B n c g pb rb rc H M lb lcp : Nat} {pl rl : List (List UInt8)} {ls : List Value} {w w' : World} (h : FE B n c g pb rb rc H M lb lcp pl rl ls w) (k : Same w w') : FE B n c g pb rb rc H M lb lcp pl rl ls w' :=
  ⟨h.xd.same k, h.len, own_kept h.last k (fun _ _ h => h), fun i a b => (h.ll i a b).imp id fun x => x.same k, h.hl, h.hg, h.hp, h.hr⟩
theorem FE.go {B n c g pb rb rc H M M' lb lcp : Nat} {pl rl : List (List UInt8)} {ls : List Value} {w w' : World} (h : FE B n c g pb rb rc H M lb lcp pl rl ls w) (hx : XD B n c g pb c rb rc M' pl rl [] w') (k : KT B w w') (d : DF g pb rb w w') : FE B n c g pb rb rc H M' lb lcp pl rl ls w' :=
  ⟨hx, h.len, h.xd.row d h.hg h.hp h.hr h.hl h.last, fun i a b => (h.ll i a b).imp id fun x => x.kt k, h.hl, h.hg, h.hp, h.hr⟩
theorem FI.still {B n c g pb rb rc nb ncp H M lb lcp : Nat} {pl : List (List UInt8)} {ls ns : List Value} {w : World} (h : FI B n c g pb rb rc nb ncp H M lb lcp pl [] ls ns w) : FE B n c g pb rb rc H M lb lcp pl pl ls w :=
  ⟨h.xd, h.len, h.last, fun i a b => (h.ll i a b).imp id fun x => x.1, h.hl, h.hg, h.hp, h.hr⟩
theorem FI.crashed {B n c g pb rb rc nb ncp H M lb lcp : Nat} {pl : List (List UInt8)} {pend : List (Nat × List UInt8)} {ls ns : List Value} {w w' : World} {sel : List (Nat × List UInt8)} (h : FI B n c g pb rb rc nb ncp H M lb lcp pl pend ls ns w) (hx : XD B n c g pb c rb rc M (app sel pl) (rd (app sel pl) pend (app pend pl)) [] w') (k : KT B w w') (d : DF g pb rb w w') (hs : ∀ x ∈ sel, x ∈ pend) :
    FE B n c g pb rb rc H M lb lcp (app sel pl) (rd (app sel pl) pend (app pend pl)) ls w' := by
  refine ⟨hx, by rw [rd_len, app_len, h.len], h.xd.row d h.hg h.hp h.hr h.hl h.last, fun i a b => ?_, h.hl, h.hg, h.hp, h.hr⟩
  have hi : i < pl.length := by rw [rd_len, app_len] at b; exact b
  refine (h.ll i a hi).imp id fun x => ?_
  have e : (rd (app sel pl) pend (app pend pl))[i]? = pl[i]? := by rw [rd_other _ _ _ _ x.2, app_other _ _ _ x.2]
  rw [List.getElem?_eq_getElem b, List.getElem?_eq_getElem hi] at e
  rw [Option.some.inj e]
  exact x.1.kt k
theorem selOf_mem {pend : List (Nat × List UInt8)} {ks : List Int} (hy : mayB pend.length 0 ks = true) : ∀ x ∈ selOf pend ks, x ∈ pend := fun x hx => by
  obtain ⟨i, hi, rfl⟩ := List.mem_map.1 hx
  have := mayB_all pend.length ks 0 (Int.le_refl _) hy i hi
  rw [List.getD_eq_getElem?_getD, List.getElem?_eq_getElem (show i.toNat < pend.length by omega)]
  exact List.getElem_mem _
theorem xd_pending {B n c g pb pc rb rc M : Nat} {pl rl : List (List UInt8)} {pend : List (Nat × List UInt8)} {w : World} (h : XD B n c g pb pc rb rc M pl rl pend w) (hM : M ≤ 4398046511102) :
    Calls Try.prog 20 #[.pointer (some ⟨g, 0, none⟩)] w fun e w' => e = .returned (.slice (some ⟨w.heap.size, 0, none⟩) pend.length pend.length) ∧ Same w w' := by
  obtain ⟨qv, qs, ps, rs, r, wn, f, h1, h2, h3, h4, h5, h6, h7, h8, h9, h10, h11⟩ := h.ex
  have := h.mM
  refine d_pending n pb c pc rb rc g pend.length qv qs r wn f w (by omega) h1 h9 fun k hk => ?_
  obtain ⟨u, a, b, o, e, _⟩ := h10 k hk
  obtain ⟨ua, uc, rfl⟩ := o.byt.form
  exact ⟨_, _, _, _, a, b, e⟩
theorem own_zeros (w : World) (n : Nat) : Own (w.alloc (.cells (List.replicate n (U8 0)).toArray 5)) (.slice (some ⟨w.heap.size, 0, none⟩) n n) (List.replicate n 0) 0 :=
  ⟨w.heap.size, Nat.zero_le _, by rw [List.length_replicate], by rw [List.map_replicate]; exact heap_alloc_new w _⟩
end Go.Proofs.Ytpfcggliibmdbaa
