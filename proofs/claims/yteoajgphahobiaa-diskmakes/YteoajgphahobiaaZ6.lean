/- A Disk as a state, and blocks that none of its bytes lies in. -/
import Derived.Test.YteoajgphahobiaaY6
import Derived.Test.YteoajgphahobiaaZ3
namespace Go.Proofs.Yteoajgphahobiaa
open Go.RowKit
set_option linter.unusedVariables false
structure ZD (A : Nat → Prop) (B n c g pb pc rb rc : Nat) (s : St) (w : World) : Prop where
  ex : ∃ (qv : Value) (qs ps rs : List Value), w.heap[g]? = some (.cells (DP n pb c pc rb rc qv s.lim s.lf s.r s.wn s.f) 74 (0, 0)) ∧
    w.ownsRow 0 22 1 (.slice (some ⟨pb, 0, none⟩) c pc) c ps ∧ LL w ps s.pl ∧ w.ownsRow 0 22 1 (.slice (some ⟨rb, 0, none⟩) c rc) c rs ∧ LL w rs (app s.pend s.pl) ∧
    w.ownsRow 0 58 2 qv s.pend.length qs ∧ QL w c n qs s.pend ∧ (∀ k, qv.ownBlock = some k → B ≤ k) ∧ (s.pend.length = 0 → qv = .slice none 0 0) ∧ (∀ u ∈ qs, u.oneCell' = true) ∧ (∀ u, u ∈ ps ∨ u ∈ rs ∨ u ∈ qs → ∀ k, u.ownBlock = some k → ¬ A k)
  ok : SOk n c s
  ne : pb ≠ rb
  lg : B ≤ g
  lp : B ≤ pb
  lr : B ≤ rb
  n1 : 1 ≤ n
  hn : n ≤ 4096
  c1 : 1 ≤ c
  hc : c ≤ 4096
theorem ZD.same {A : Nat → Prop} {B n c g pb pc rb rc : Nat} {s : St} {w w' : World} (h : ZD A B n c g pb pc rb rc s w) (k : Same w w') : ZD A B n c g pb pc rb rc s w' := by
  obtain ⟨qv, qs, ps, rs, h1, h5, h6, h7, h8, h9, h10, h11, h12, h13, h14⟩ := h.ex
  have kk : ∀ u l, Own w u l 0 → Own w' u l 0 := fun u l o => o.same k
  exact ⟨⟨qv, qs, ps, rs, blk_kept k (fun h => h) h1, own_kept h5 k (fun _ _ h => h), h6.kept kk, own_kept h7 k (fun _ _ h => h), h8.kept kk, own_kept h9 k (fun _ _ h => h), h10.kept kk, h11, h12, h13, h14⟩, h.ok, h.ne, h.lg, h.lp, h.lr, h.n1, h.hn, h.c1, h.hc⟩
theorem Made.zd {n c g : Nat} {w w' : World} (h : Made n c g w w') (h1 : 1 ≤ n) (hn : n ≤ 4096) (hc1 : 1 ≤ c) (hc : c ≤ 4096) : ∃ pb rb rc, ZD (fun _ => False) w.heap.size n c g pb c rb rc ⟨List.replicate c (List.replicate n 0), [], false, 0, 0, 0, 0⟩ w' ∧ Same w w' := by
  obtain ⟨pb, rb, rc, z, b, p, r, lg, lp, lr, lpr, k, o⟩ := h.ex
  have hL : LL w' (List.replicate c z) (List.replicate c (List.replicate n 0)) := ⟨by simp, fun i a b => by simpa using o⟩
  exact ⟨pb, rb, rc, ⟨⟨_, [], _, _, b, p, hL, r, hL, World.ownsRow_nil _ _ _ _, (fun k hk => absurd hk (by simp)), (fun k hk => by cases hk), (fun _ => rfl), (fun u hu => by cases hu), (fun u hu k hk h => h)⟩, ⟨by simp, (fun l hl => by rw [List.eq_of_mem_replicate hl]; simp), (fun x hx => by cases hx), Int.le_refl _, by simp⟩, lpr, lg, lp, lr, h1, hn, hc1, hc⟩, k⟩
theorem ZD.cell1 {A : Nat → Prop} {B n c g pb pc rb rc : Nat} {s : St} {w : World} (h : ZD A B n c g pb pc rb rc s w) : w.cell? ⟨g, 1, none⟩ = some (.slice (some ⟨pb, 0, none⟩) c pc) := by
  obtain ⟨qv, qs, ps, rs, h1, _⟩ := h.ex
  exact blk_cell h1
/-- Write of a sector that is there. -/
theorem zd_write {A : Nat → Prop} {B n c g pb pc rb rc M : Nat} {s : St} {w : World} (h : ZD A B n c g pb pc rb rc s w) (hA : ∀ k, A k → k < w.heap.size) (hM : SB M s) (hm : M ≤ 4398046511102) (hB : B ≤ w.heap.size) (i : Nat) (hi : i < c) (v : Value) (l : List UInt8) (hv : Own w v l 0) (hl : l.length = n) :
    Calls Try.prog 23 #[.pointer (some ⟨g, 0, none⟩), .int .i64 i, v] w fun e w' => e = .returned (.int .i64 0) ∧ ZD A B n c g pb pc rb rc (s.write i l) w' ∧ KT B w w' ∧ DF g pb rb w w' := by
  obtain ⟨qv, qs, ps, rs, h1, h5, h6, h7, h8, h9, h10, h11, h12, h13, h14⟩ := h.ex
  have hw : s.write i l = if s.gone then s else { s with pend := s.pend ++ [(i, l)], lf := spL s.lim s.lf, wn := s.wn + 1 } := rfl
  cases hgo : s.gone
  · have hng : ¬ (s.lim = true ∧ s.lf = 0) := by simpa [St.gone] using hgo
    have := hM.m
    have := hM.wn
    refine (y_write n pb c pc rb rc g i s.pend.length qv qs rs s.lim s.lf hng h.ok.f0 h.ok.f1 s.r s.wn s.f v l w h1 h7 h9 hv.byt (hv.apart h1) hl hi h.hn (by omega) (by omega)).mono ?_
    rintro e w' ⟨rfl, ⟨u, gq, qc, o1, o2, o3, o4, o5, o6⟩⟩
    have kk : KT B w w' := KT.of o5 fun k hk hs => by
      rcases hs with rfl | rfl | hs
      · exact kt_of h1 h.lg (by decide)
      · exact kt_row h7 rfl h.lr (by decide)
      · exact kt_row h9 hs (h11 _ hs) (by decide)
    have ko : ∀ u l, Own w u l 0 → Own w' u l 0 := fun u l o => o.kt kk
    have hpg : pb ≠ g := fun e => own_apart h5 h1 (by decide) (by rw [← e]; rfl)
    have hql : qs.length = s.pend.length * 2 := h9.1
    have hu : Own w' u l 0 := o1.weak (Nat.zero_le _)
    have hok := h.ok.write hi hl
    have hap : app (s.pend ++ [(i, l)]) s.pl = (app s.pend s.pl).set i l := by unfold app; rw [List.foldl_append]; rfl
    rw [hw, hgo, if_neg (by simp)]
    rw [hw, hgo, if_neg (by simp)] at hok
    refine ⟨rfl, ⟨⟨_, _, ps, rs.set i u, o2, own_kept h5 o5 ?_, h6.kept ko, o3, by rw [hap]; exact (h8.kept ko).set hu i, by rw [List.length_append]; exact o4, ?_, ?_, fun h0 => absurd h0 (by simp), ?_, ?_⟩, hok, h.ne, h.lg, h.lp, h.lr, h.n1, h.hn, h.c1, h.hc⟩, kk, ?df⟩
    case df =>
      refine ⟨o5.mono (fun k _ hs => ?_), fun k hk hr => ?_⟩
      · rcases hs with hs | hs | hs
        · exact Or.inl hs
        · exact Or.inr (Or.inr (Or.inl hs))
        · exact Or.inr (Or.inr (Or.inr (by rw [rowOf_dp h1]; exact hs)))
      · rw [rowOf_dp o2] at hr
        rw [rowOf_dp h1]
        simp [Value.ownBlock] at hr
        subst hr
        rcases o6 with h | h
        · exact h
        · omega
    · intro k hk hs
      simp [Value.ownBlock] at hk
      subst hk
      rcases hs with hs | hs | hs
      · exact hpg hs
      · exact h.ne hs
      · rcases own_rows h5 h9 (by decide) with hx | hx
        · cases hx
        · exact hx (by rw [hs]; rfl)
    · intro k hk
      by_cases hkm : k < s.pend.length
      · obtain ⟨y, a, b, d, e', f'⟩ := h10 k hkm
        refine ⟨y, ?_, ?_, ?_, ?_, ?_⟩
        · rw [List.getElem?_append_left (by omega), List.getElem_append_left hkm]; exact a
        · rw [List.getElem?_append_left (by omega)]; exact b
        · rw [List.getElem_append_left hkm]; exact ko _ _ d
        · rw [List.getElem_append_left hkm]; exact e'
        · rw [List.getElem_append_left hkm]; exact f'
      · obtain rfl : k = s.pend.length := by rw [List.length_append] at hk; simp at hk; omega
        refine ⟨u, ?_, ?_, ?_, ?_, ?_⟩
        · rw [List.getElem?_append_right (by omega), hql, Nat.sub_self]; simp
        · rw [List.getElem?_append_right (by omega), hql, Nat.add_sub_cancel_left]; rfl
        · simpa using hu
        · simpa using hi
        · simpa using hl
    · intro k hk
      simp [Value.ownBlock] at hk
      subst hk
      rcases o6 with h | h
      · exact h11 _ h
      · omega
    · intro x hx
      rcases List.mem_append.1 hx with hx | hx
      · exact h13 x hx
      · obtain ⟨ua, uc, hue⟩ := hu.byt.form
        rcases List.mem_cons.1 hx with rfl | hx
        · rfl
        · rw [List.mem_singleton.1 hx, hue]; rfl
    · have hun : ∀ k, u.ownBlock = some k → ¬ A k := fun k hk ha => by
        obtain ⟨gu, hgu, hue, _⟩ := o1
        rw [hue] at hk
        simp [Value.ownBlock] at hk
        have := hA k ha
        omega
      intro x hx
      rcases hx with hx | hx | hx
      · exact h14 x (Or.inl hx)
      · rcases List.mem_or_eq_of_mem_set hx with hx | rfl
        · exact h14 x (Or.inr (Or.inl hx))
        · exact hun
      · rcases List.mem_append.1 hx with hx | hx
        · exact h14 x (Or.inr (Or.inr hx))
        · rcases List.mem_cons.1 hx with rfl | hx
          · intro k hk; cases hk
          · rw [List.mem_singleton.1 hx]; exact hun
  · have hg2 : s.lim = true ∧ s.lf = 0 := by simpa [St.gone] using hgo
    have h1' := h1
    rw [hg2.1, hg2.2] at h1'
    refine (y_writeOff n pb c pc rb rc g i qv s.r s.wn s.f v l w h1' hv.byt hl hi).mono ?_
    rintro e w' ⟨rfl, rfl⟩
    rw [hw, hgo, if_pos rfl]
    exact ⟨rfl, h, KT.refl _ _, DF.refl _ _ _ _⟩
theorem zd_writeLen {A : Nat → Prop} {B n c g pb pc rb rc : Nat} {s : St} {w : World} (h : ZD A B n c g pb pc rb rc s w) (i : Nat) (hi : i < c) (v : Value) (l : List UInt8) (hv : Byt w v l) (hl : l.length ≠ n) :
    Calls Try.prog 23 #[.pointer (some ⟨g, 0, none⟩), .int .i64 i, v] w fun e w' => e = .returned (.int .i64 30) ∧ w = w' := by
  obtain ⟨qv, qs, ps, rs, h1, _⟩ := h.ex
  exact y_writeLen n pb c pc rb rc g i qv s.lim s.lf s.r s.wn s.f v l w h1 hv hl hi
theorem zd_writeNo {A : Nat → Prop} {B n c g pb pc rb rc : Nat} {s : St} {w : World} (h : ZD A B n c g pb pc rb rc s w) (i : Int) (hi : ¬ (0 ≤ i ∧ i < c)) (v : Value) :
    Calls Try.prog 23 #[.pointer (some ⟨g, 0, none⟩), .int .i64 i, v] w fun e w' => e = .returned (.int .i64 30) ∧ w = w' :=
  d_writeNo g pb c pc i v w h.cell1 hi
theorem zd_read {A : Nat → Prop} {B n c g pb pc rb rc M : Nat} {s : St} {w : World} (h : ZD A B n c g pb pc rb rc s w) (hM : SB M s) (hm : M ≤ 4398046511104) (i : Nat) (hi : i < c) (hir : i < (app s.pend s.pl).length) :
    Calls Try.prog 29 #[.pointer (some ⟨g, 0, none⟩), .int .i64 i] w fun e w' => ∃ u, e = .returned (.tuple #[u, .int .i64 0]) ∧ Own w' u (app s.pend s.pl)[i] w.heap.size ∧ ZD A B n c g pb pc rb rc s.read w' ∧ KT B w w' ∧ DF g pb rb w w' := by
  obtain ⟨qv, qs, ps, rs, h1, h5, h6, h7, h8, h9, h10, h11, h12, h13, h14⟩ := h.ex
  have hrl : rs.length = c := by simpa using h7.1
  have ho := h8.2 i (by omega) hir
  have := hM.r
  refine (y_read n pb c pc rb rc g i qv rs s.lim s.lf s.r s.wn s.f rs[i] (app s.pend s.pl)[i] w h1 h7 hi (List.getElem?_eq_getElem (by omega)) ho.byt (ho.apart h1) (by rw [h.ok.appn _ (List.getElem_mem hir)]; exact h.hn) (by omega)).mono ?_
  rintro e w' ⟨u, rfl, o1, o2, o3⟩
  have kk : KT B w w' := KT.of o3 fun k hk hs => by subst hs; exact kt_of h1 h.lg (by decide)
  have ko : ∀ u l, Own w u l 0 → Own w' u l 0 := fun u l o => o.kt kk
  have hpg : pb ≠ g := fun e => own_apart h5 h1 (by decide) (by rw [← e]; rfl)
  have hrg : rb ≠ g := fun e => own_apart h7 h1 (by decide) (by rw [← e]; rfl)
  have hqg := own_apart h9 h1 (by decide)
  exact ⟨u, rfl, o1, ⟨⟨qv, qs, ps, rs, o2, own_kept h5 o3 (fun k hk hs => by simp [Value.ownBlock] at hk; omega), h6.kept ko, own_kept h7 o3 (fun k hk hs => by simp [Value.ownBlock] at hk; omega), h8.kept ko, own_kept h9 o3 (fun k hk hs => hqg (by rw [hk, hs])), h10.kept ko, h11, h12, h13, h14⟩, h.ok.read, h.ne, h.lg, h.lp, h.lr, h.n1, h.hn, h.c1, h.hc⟩, kk, ⟨o3.mono (fun k _ hs => Or.inl hs), fun k hk hr => by rw [rowOf_dp o2] at hr; rw [rowOf_dp h1]; exact hr⟩⟩
theorem zd_flush {A : Nat → Prop} {B n c g pb pc rb rc M : Nat} {s : St} {w : World} (h : ZD A B n c g pb pc rb rc s w) (hM : SB M s) (hm : M ≤ 4398046511104) :
    Calls Try.prog 25 #[.pointer (some ⟨g, 0, none⟩)] w fun e w' => e = .returned (.int .i64 s.pend.length) ∧ ZD A B n c g pb pc rb rc s.flush w' ∧ KT B w w' ∧ DF g pb rb w w' := by
  obtain ⟨qv, qs, ps, rs, h1, h5, h6, h7, h8, h9, h10, h11, h12, h13, h14⟩ := h.ex
  have hw : s.flush = if s.gone then s else { s with pl := app s.pend s.pl, pend := [], lf := spL s.lim s.lf, f := s.f + 1 } := rfl
  cases hgo : s.gone
  · have hng : ¬ (s.lim = true ∧ s.lf = 0) := by simpa [St.gone] using hgo
    have := hM.m
    have := hM.f
    refine (z_flush n pb c pc rb rc g qv qs ps s.pl s.pend s.pend.length rfl s.lim s.lf s.r s.wn s.f w h1 h9 h10 h5 h6 hng h.ok.f0 h.ok.f1 (by omega) (by omega)).mono ?_
    rintro e w' ⟨rfl, ⟨ys, o1, o2, o3, o5, o6⟩⟩
    have kk : KT B w w' := KT.of o5 fun k hk hs => by
      rcases hs with rfl | rfl
      · exact kt_of h1 h.lg (by decide)
      · exact kt_row h5 rfl h.lp (by decide)
    have ko : ∀ u l, Own w u l 0 → Own w' u l 0 := fun u l o => o.kt kk
    have hrg : rb ≠ g := fun e => own_apart h7 h1 (by decide) (by rw [← e]; rfl)
    have hok := h.ok.flush
    rw [hw, hgo, if_neg (by simp)]
    rw [hw, hgo, if_neg (by simp)] at hok
    refine ⟨rfl, ⟨⟨_, [], ys, rs, o1, o2, o3, own_kept h7 o5 ?_, h8.kept ko, World.ownsRow_nil _ _ _ _, (fun k hk => absurd hk (by simp)), (fun k hk => by cases hk), (fun _ => rfl), (fun u hu => by cases hu), (fun u hu => ?_)⟩, hok, h.ne, h.lg, h.lp, h.lr, h.n1, h.hn, h.c1, h.hc⟩, kk, ⟨o5.mono (fun k _ hs => hs.imp id Or.inl), fun k hk hr => by rw [rowOf_dp o1] at hr; cases hr⟩⟩
    · intro k hk hs
      simp [Value.ownBlock] at hk
      subst hk
      rcases hs with hs | hs
      · exact hrg hs
      · exact h.ne hs.symm
    · rcases hu with hu | hu | hu
      · exact h14 u ((o6 u hu).imp id Or.inr)
      · exact h14 u (Or.inr (Or.inl hu))
      · cases hu
  · have hg2 : s.lim = true ∧ s.lf = 0 := by simpa [St.gone] using hgo
    obtain ⟨qa, qc, rfl⟩ := own_form h9
    have h1' := h1
    rw [hg2.1, hg2.2] at h1'
    refine (y_flushOff n pb c pc rb rc g s.pend.length qc qa s.r s.wn s.f w h1').mono ?_
    rintro e w' ⟨rfl, rfl⟩
    rw [hw, hgo, if_pos rfl]
    exact ⟨rfl, h, KT.refl _ _, DF.refl _ _ _ _⟩
theorem zd_crashYes {A : Nat → Prop} {B n c g pb pc rb rc M : Nat} {s : St} {w : World} (h : ZD A B n c g pb pc rb rc s w) (hM : SB M s) (hm : M ≤ 4398046511104) (kv : Value) (ks : List Int) (hk : Ints w kv ks) (hkb : ∀ a k c, kv = .slice (some a) k c → 0 < k → a.block ≠ pb) (hl : ks.length ≤ 140737488355328) (hy : mayB s.pend.length 0 ks = true) :
    Calls Try.prog 28 #[.pointer (some ⟨g, 0, none⟩), kv] w fun e w' => e = .returned (.int .i64 0) ∧ ZD A B n c g pb pc rb rc (s.crash ks) w' ∧ KT B w w' ∧ DF g pb rb w w' := by
  obtain ⟨qv, qs, ps, rs, h1, h5, h6, h7, h8, h9, h10, h11, h12, h13, h14⟩ := h.ex
  have hmM := hM.m
  have hmk := d_mayKeep kv ks s.pend.length w hk hl (by omega)
  rw [hy] at hmk
  have hall := mayB_all s.pend.length ks 0 (Int.le_refl _) hy
  refine (z_crash n pb c pc rb rc g s.pend.length kv ks qv qs ps rs s.pl (app s.pend s.pl) s.pend (selOf s.pend ks) rfl h.ok.len (by simp [selOf]) (fun k h h' j hj => ?_) s.lim s.lf s.r s.wn s.f w hk hkb hl h1 h9 h10 h5 h6 h7 h8 h.ne (by omega) hall hmk).mono ?_
  · have hm := hall _ (List.getElem_mem h)
    rw [hj] at hm
    refine ⟨by omega, ?_⟩
    simp only [selOf, List.getElem_map, hj]
    rw [List.getD_eq_getElem?_getD, Int.toNat_natCast, List.getElem?_eq_getElem (by omega)]
    rfl
  rintro e w' ⟨rfl, ⟨ys, zs, o1, o2, o3, o5, o6, o7, o8, o9⟩⟩
  rw [rd_app _ _ _ (selOf_mem' hy)] at o6
  have kk : KT B w w' := KT.of o7 fun k hk hs => by
    rcases hs with rfl | rfl | rfl
    · exact kt_of h1 h.lg (by decide)
    · exact kt_row h5 rfl h.lp (by decide)
    · exact kt_row h7 rfl h.lr (by decide)
  exact ⟨rfl, ⟨⟨_, [], ys, zs, o1, o2, o3, o5, o6, World.ownsRow_nil _ _ _ _, (fun k hk => absurd hk (by simp [St.crash])), (fun k hk => by cases hk), (fun _ => rfl), (fun u hu => by cases hu), (fun u hu => by
    have hy : ∀ u ∈ ys, ∀ k, u.ownBlock = some k → ¬ A k := fun u hu => h14 u ((o8 u hu).imp id Or.inr)
    rcases hu with hu | hu | hu
    · exact hy u hu
    · rcases o9 u hu with h | h
      · exact h14 u (Or.inr (Or.inl h))
      · exact hy u h
    · cases hu)⟩, h.ok.crash hy, h.ne, h.lg, h.lp, h.lr, h.n1, h.hn, h.c1, h.hc⟩, kk, ⟨o7.mono (fun k _ hs => hs.imp id (fun h => h.imp id Or.inl)), fun k hk hr => by rw [rowOf_dp o1] at hr; cases hr⟩⟩
theorem zd_crashNo {A : Nat → Prop} {B n c g pb pc rb rc M : Nat} {s : St} {w : World} (h : ZD A B n c g pb pc rb rc s w) (hM : SB M s) (hm : M ≤ 4398046511104) (kv : Value) (ks : List Int) (hk : Ints w kv ks) (hl : ks.length ≤ 140737488355328) (hy : mayB s.pend.length 0 ks = false) :
    Calls Try.prog 28 #[.pointer (some ⟨g, 0, none⟩), kv] w fun e w' => e = .returned (.int .i64 1) ∧ w = w' := by
  obtain ⟨qv, qs, ps, rs, h1, h5, h6, h7, h8, h9, _⟩ := h.ex
  have hmM := hM.m
  have hmk := d_mayKeep kv ks s.pend.length w hk hl (by omega)
  rw [hy] at hmk
  obtain ⟨qa, qc, rfl⟩ := own_form h9
  exact y_crashNo n pb c pc rb rc g s.pend.length kv qa qc s.lim s.lf s.r s.wn s.f w h1 hmk
theorem zd_pending {A : Nat → Prop} {B n c g pb pc rb rc M : Nat} {s : St} {w : World} (h : ZD A B n c g pb pc rb rc s w) (hM : SB M s) (hm : M ≤ 4398046511104) :
    Calls Try.prog 20 #[.pointer (some ⟨g, 0, none⟩)] w fun e w' => e = .returned (.slice (some ⟨w.heap.size, 0, none⟩) s.pend.length s.pend.length) ∧ Ints w' (.slice (some ⟨w.heap.size, 0, none⟩) s.pend.length s.pend.length) s.pds ∧ Same w w' := by
  obtain ⟨qv, qs, ps, rs, h1, h5, h6, h7, h8, h9, h10, h11, h12, h13, h14⟩ := h.ex
  have hmM := hM.m
  refine y_pending n pb c pc rb rc g s.pend.length qv qs s.lim s.lf s.r s.wn s.f w (by omega) h1 h9 s.pds (by simp [St.pds]) fun k hk => ?_
  have hk' : k < s.pend.length := by simpa [St.pds] using hk
  obtain ⟨u, a, b, o, e, _⟩ := h10 k hk'
  obtain ⟨ua, uc, rfl⟩ := o.byt.form
  exact ⟨_, _, _, _, a, b, by simp [St.pds]⟩
theorem zd_image {A : Nat → Prop} {B n c g pb pc rb rc : Nat} {s : St} {w : World} (h : ZD A B n c g pb pc rb rc s w) :
    Calls Try.prog 15 #[.pointer (some ⟨g, 0, none⟩)] w fun e w' => ∃ u, e = .returned u ∧ Own w' u s.pl.flatten w.heap.size ∧ Same w w' := by
  obtain ⟨qv, qs, ps, rs, h1, h5, h6, _⟩ := h.ex
  exact y_image n pb c pc rb rc g qv s.lim s.lf s.r s.wn s.f ps s.pl w h.hn h.n1 h.hc h1 h5 h.ok.len h.ok.pn h6.2
theorem zd_off {A : Nat → Prop} {B n c g pb pc rb rc : Nat} {s : St} {w : World} (h : ZD A B n c g pb pc rb rc s w) :
    Calls Try.prog 30 #[.pointer (some ⟨g, 0, none⟩)] w fun e w' => e = .returned (.bool s.gone) ∧ w = w' := by
  obtain ⟨qv, qs, ps, rs, h1, _⟩ := h.ex
  exact y_off g s.lim s.lf w (blk_cell h1) (blk_cell h1)
theorem zd_stop {A : Nat → Prop} {B n c g pb pc rb rc : Nat} {s : St} {w : World} (h : ZD A B n c g pb pc rb rc s w) (z : Int) (hz : z ≤ 9223372036854775807) :
    Calls Try.prog 22 #[.pointer (some ⟨g, 0, none⟩), .int .i64 z] w fun e w' => e = .returned (.tuple #[]) ∧ ZD A B n c g pb pc rb rc (s.stop z) w' ∧ KT B w w' ∧ DF g pb rb w w' := by
  obtain ⟨qv, qs, ps, rs, h1, h5, h6, h7, h8, h9, h10, h11, h12, h13, h14⟩ := h.ex
  refine (y_stop n pb c pc rb rc g qv s.lim s.lf z s.r s.wn s.f w h1).mono ?_
  rintro e w' ⟨rfl, o2, o3⟩
  have kk : KT B w w' := KT.of o3 fun k hk hs => by subst hs; exact kt_of h1 h.lg (by decide)
  have ko : ∀ u l, Own w u l 0 → Own w' u l 0 := fun u l o => o.kt kk
  have hpg : pb ≠ g := fun e => own_apart h5 h1 (by decide) (by rw [← e]; rfl)
  have hrg : rb ≠ g := fun e => own_apart h7 h1 (by decide) (by rw [← e]; rfl)
  have hqg := own_apart h9 h1 (by decide)
  exact ⟨rfl, ⟨⟨qv, qs, ps, rs, o2, own_kept h5 o3 (fun k hk hs => by simp [Value.ownBlock] at hk; omega), h6.kept ko, own_kept h7 o3 (fun k hk hs => by simp [Value.ownBlock] at hk; omega), h8.kept ko, own_kept h9 o3 (fun k hk hs => hqg (by rw [hk, hs])), h10.kept ko, h11, h12, h13, h14⟩, h.ok.stop hz, h.ne, h.lg, h.lp, h.lr, h.n1, h.hn, h.c1, h.hc⟩, kk, ⟨o3.mono (fun k _ hs => Or.inl hs), fun k hk hr => by rw [rowOf_dp o2] at hr; rw [rowOf_dp h1]; exact hr⟩⟩
theorem zd_fork {A : Nat → Prop} {B n c g pb pc rb rc M : Nat} {s : St} {w : World} (h : ZD A B n c g pb pc rb rc s w) (hM : SB M s) (hm : M ≤ 4398046511104) :
    Calls Try.prog 21 #[.pointer (some ⟨g, 0, none⟩)] w fun e w' => ∃ g' pb' pc' rb' rc', e = .returned (.pointer (some ⟨g', 0, none⟩)) ∧ ZD A w.heap.size n c g' pb' pc' rb' rc' s w' ∧ Same w w' := by
  obtain ⟨qv, qs, ps, rs, h1, h5, h6, h7, h8, h9, h10, h11, h12, h13, h14⟩ := h.ex
  have hmM := hM.m
  refine (y_fork n pb c pc rb rc g s.pend.length qv s.lim s.lf s.r s.wn s.f ps rs qs w h.hc h.c1 (by omega) h1 h5 h7 h9 h12 (ok_one h6) (ok_one h8) h13).mono ?_
  rintro e w' ⟨g', rfl, ⟨pb', pc', rb', rc', qv', o1, o2, o3, o4, o5, o6, o7, o8, o9, o10, k⟩⟩
  have kk : ∀ u l, Own w u l 0 → Own w' u l 0 := fun u l o => o.same k
  exact ⟨g', pb', pc', rb', rc', rfl, ⟨⟨qv', qs, ps, rs, o1, o2, h6.kept kk, o3, h8.kept kk, o4, h10.kept kk, o10, o5, h13, h14⟩, h.ok, o6, o7, o8, o9, h.n1, h.hn, h.c1, h.hc⟩, k⟩
/-- Further blocks that no byte of the Disk lies in. -/
theorem ZD.more {A A' : Nat → Prop} {B n c g pb pc rb rc : Nat} {s : St} {w : World} (h : ZD A B n c g pb pc rb rc s w) (hA : ∀ k, A' k → A k ∨ w.heap.size ≤ k) : ZD A' B n c g pb pc rb rc s w := by
  obtain ⟨qv, qs, ps, rs, h1, h5, h6, h7, h8, h9, h10, h11, h12, h13, h14⟩ := h.ex
  refine ⟨⟨qv, qs, ps, rs, h1, h5, h6, h7, h8, h9, h10, h11, h12, h13, fun u hu k hk ha => ?_⟩, h.ok, h.ne, h.lg, h.lp, h.lr, h.n1, h.hn, h.c1, h.hc⟩
  rcases hA k ha with ha | ha
  · exact h14 u hu k hk ha
  · have ol : ∀ l, Own w u l 0 → False := fun l o => by
      obtain ⟨g', _, e, hb⟩ := o
      rw [e] at hk
      simp [Value.ownBlock] at hk
      have := blk_lt hb
      omega
    rcases hu with hu | hu | hu
    · obtain ⟨i, hi, rfl⟩ := List.getElem_of_mem hu
      exact ol _ (h6.2 i hi (by rw [← h6.1]; exact hi))
    · obtain ⟨i, hi, rfl⟩ := List.getElem_of_mem hu
      exact ol _ (h8.2 i hi (by rw [← h8.1]; exact hi))
    · obtain ⟨i, hi, rfl⟩ := List.getElem_of_mem hu
      have hql : qs.length = s.pend.length * 2 := h9.1
      obtain ⟨v, a, b, o, _⟩ := h10 (i / 2) (by omega)
      rcases Nat.mod_two_eq_zero_or_one i with hm | hm
      · rw [show i / 2 * 2 = i by omega, List.getElem?_eq_getElem hi] at a
        rw [Option.some.inj a] at hk
        cases hk
      · rw [show i / 2 * 2 + 1 = i by omega, List.getElem?_eq_getElem hi] at b
        rw [Option.some.inj b] at ol
        exact ol _ o
theorem ZD.lt {A : Nat → Prop} {B n c g pb pc rb rc : Nat} {s : St} {w : World} (h : ZD A B n c g pb pc rb rc s w) : g < w.heap.size ∧ pb < w.heap.size ∧ rb < w.heap.size ∧ ∀ k, rowOf w g 3 = some k → k < w.heap.size := by
  obtain ⟨qv, qs, ps, rs, h1, h5, h6, h7, h8, h9, h10, h11, h12, h13, h14⟩ := h.ex
  exact ⟨blk_lt h1, (h5.lt pb rfl).2, (h7.lt rb rfl).2, fun k hk => by rw [rowOf_dp h1] at hk; exact (h9.lt k hk).2⟩
/-- The Disk stays where others write. -/
theorem ZD.kept {A : Nat → Prop} {B n c g pb pc rb rc : Nat} {s : St} {w w' : World} {S : Nat → Prop} (h : ZD A B n c g pb pc rb rc s w) (k : Kept S w w') (hg : ¬ S g) (hp : ¬ S pb) (hr : ¬ S rb) (hq : ∀ i, rowOf w g 3 = some i → ¬ S i) (hb : ∀ i cs, w.heap[i]? = some (.cells cs 5 (0, 0)) → S i → A i) : ZD A B n c g pb pc rb rc s w' := by
  obtain ⟨qv, qs, ps, rs, h1, h5, h6, h7, h8, h9, h10, h11, h12, h13, h14⟩ := h.ex
  have kk : ∀ u l, (u ∈ ps ∨ u ∈ rs ∨ u ∈ qs) → Own w u l 0 → Own w' u l 0 := fun u l hu o => by
    obtain ⟨g', hB, e, hb'⟩ := o
    exact ⟨g', hB, e, blk_kept k (fun hs => h14 u hu g' (by rw [e]; rfl) (hb g' _ hb' hs)) hb'⟩
  refine ⟨⟨qv, qs, ps, rs, blk_kept k hg h1, own_kept h5 k (fun i hi => by simp [Value.ownBlock] at hi; subst hi; exact hp), ⟨h6.1, fun i a b => kk _ _ (Or.inl (List.getElem_mem _)) (h6.2 i a b)⟩, own_kept h7 k (fun i hi => by simp [Value.ownBlock] at hi; subst hi; exact hr), ⟨h8.1, fun i a b => kk _ _ (Or.inr (Or.inl (List.getElem_mem _))) (h8.2 i a b)⟩, own_kept h9 k (fun i hi => hq i (by rw [rowOf_dp h1]; exact hi)), fun j hj => ?_, h11, h12, h13, h14⟩, h.ok, h.ne, h.lg, h.lp, h.lr, h.n1, h.hn, h.c1, h.hc⟩
  obtain ⟨u, a, b, o, e, f⟩ := h10 j hj
  exact ⟨u, a, b, kk _ _ (Or.inr (Or.inr (List.mem_of_getElem? b))) o, e, f⟩
end Go.Proofs.Yteoajgphahobiaa
