/- A Disk told exactly, whatever its power is: its state as a plain value, and what each call makes of it. -/
import Derived.Test.YteoajgphahobiaaY1
import Derived.Test.YteoajgphahobiaaY3
import Derived.Test.YteoajgphahobiaaY5
/- A Disk whatever its power is: Pending, told exactly. -/
namespace Go.Proofs.Yteoajgphahobiaa
open Go.RowKit
set_option linter.unusedVariables false
/-- What Pending has laid so far. -/
def pdTo (zs : List Int) (k : Nat) : List Value := (List.range zs.length).map fun j => if j < k then .int .i64 (zs.getD j 0) else .int .i64 0
theorem pdTo_len (zs : List Int) (k : Nat) : (pdTo zs k).length = zs.length := by simp [pdTo]
theorem pdTo_zero (zs : List Int) : pdTo zs 0 = List.replicate zs.length (.int .i64 0) := by
  apply List.ext_getElem
  · simp [pdTo]
  · intro j h1 h2
    simp [pdTo]
theorem pdTo_succ (zs : List Int) (k : Nat) (hk : k < zs.length) : (pdTo zs k).toArray.setIfInBounds k (.int .i64 zs[k]) = (pdTo zs (k + 1)).toArray := by
  apply Array.ext'
  rw [Array.toList_setIfInBounds, List.toList_toArray, List.toList_toArray]
  apply List.ext_getElem
  · simp [pdTo]
  · intro j h1 h2
    rw [List.getElem_set]
    simp only [pdTo, List.getElem_map, List.getElem_range]
    by_cases hj : k = j
    · subst hj
      simp [List.getD, hk]
    · rw [if_neg hj]
      by_cases h3 : j < k
      · rw [if_pos h3, if_pos (by omega)]
      · rw [if_neg h3, if_neg (by omega)]
theorem pdTo_all (zs : List Int) (j : Nat) (hj : j < zs.length) : (pdTo zs zs.length).toArray[j]? = some (.int .i64 zs[j]) := by
  simp [pdTo, hj]
set_option maxHeartbeats 1000000 in
set_option maxRecDepth 100000 in
theorem y_pending (n pb c pc rb rc g m : Nat) (qv : Value) (qs : List Value) (lim : Bool) (lf : Int) (r wn f : Nat) (w : World) (hm : m ≤ 4398046511104)
    (hb : w.heap[g]? = some (.cells (DP n pb c pc rb rc qv lim lf r wn f) 74 (0, 0))) (hq : w.ownsRow 0 58 2 qv m qs)
    (zs : List Int) (hzl : zs.length = m) (hN : ∀ k (h : k < zs.length), ∃ (N : Nat) (a : Option Addr) (x y : Nat), qs[k * 2]? = some (.int .i64 N) ∧ qs[k * 2 + 1]? = some (.slice a x y) ∧ zs[k] = (N : Int)) :
    Calls Try.prog 20 #[.pointer (some ⟨g, 0, none⟩)] w fun e w' => e = .returned (.slice (some ⟨w.heap.size, 0, none⟩) m m) ∧ Ints w' (.slice (some ⟨w.heap.size, 0, none⟩) m m) zs ∧ Same w w' := by
  obtain ⟨a, qc, rfl⟩ := own_form hq
  have c3 : w.cell? ⟨g, 3, none⟩ = some (.slice a m qc) := blk_cell hb
  have hmk := make_ints m hm
  have hnew := World.new_ne w ⟨g, 3, none⟩ c3
  have hc3 : ∀ o, (w.alloc o).cell? ⟨g, 3, none⟩ = some (.slice a m qc) := fun o => blk_cell (blk_alloc hb o)
  have hZ0 : (List.replicate m (Value.int .i64 0)).toArray = (pdTo zs 0).toArray := by rw [pdTo_zero, hzl]
  generalize hZe : (List.replicate m (Value.int .i64 0)).toArray = Z at hmk
  rw [hZe] at hZ0
  have HZ0 := hidden hZ0
  clear hZ0 hZe
  have HQ := hidden hq
  have HN := hidden hN
  clear hq hN hb
  go_enter Try.func20, Try.ntmps20
  go_wp2
  go_loopw [19] (fun i wr => ∃ k : Nat, k ≤ m ∧ i = .int .i64 k ∧ wr.heap[w.heap.size]? = some (.cells (pdTo zs k).toArray 3 (0, 0)) ∧ Same w wr) (fun i wr => m - (intOf i).toNat)
  case atStart => exact ⟨0, Nat.zero_le _, rfl, by rw [← HZ0.out]; exact heap_alloc_new w _, same_alloc _ _⟩
  case round =>
    obtain ⟨k, hk, rfl, hb, hK⟩ := hrel
    by_cases hlt : k < m
    · obtain ⟨N, ua, x, y, n1, n2, n3⟩ := HN.out k (by omega)
      have hps := pdTo_succ zs k (by omega)
      rw [n3] at hps
      have HPS := hidden hps
      have hqr := own_kept HQ.out hK (fun _ _ h => h)
      obtain ⟨gq, rfl⟩ : ∃ gq : Nat, a = some ⟨gq, 0, none⟩ := by
        rcases HQ.out.2 with ⟨_, h⟩ | ⟨gq, cap, cur, h, _⟩
        · omega
        · exact ⟨gq, by simpa using (Value.slice.inj h).1⟩
      have z1 := hqr.cells (g := gq) rfl (k * 2) _ n1
      have z2 := hqr.cells (g := gq) rfl (k * 2 + 1) _ n2
      rw [add_none, Nat.zero_add] at z1 z2
      have hcell : ∃ p, wr.cell? ⟨w.heap.size, k, none⟩ = some p := ⟨(pdTo zs k)[k]'(by rw [pdTo_len]; omega), by rw [blk_cell hb]; simp [pdTo_len, hzl, hlt]⟩
      obtain ⟨p, p1⟩ := hcell
      have p2 : wr.frozen? ⟨w.heap.size, k, none⟩ = false := blk_free hb
      have hp1 : ∀ o, (wr.alloc o).cell? ⟨w.heap.size, k, none⟩ = some p := fun o => (Kept.cell (same_alloc wr o) (fun h => h) p1)
      have hp2 : ∀ o, (wr.alloc o).frozen? ⟨w.heap.size, k, none⟩ = false := fun o => blk_free (blk_alloc hb o)
      have hne3 := World.new_ne wr _ p1
      have hne5 := World.new_ne wr _ z1
      have q0 : (0 : Int) ≤ (k : Int) := Int.natCast_nonneg _
      have q1 : (k : Int) < (m : Int) := by omega
      have HB := hidden hb
      have HK := hidden hK
      clear hqr n1 n2 n3 hps hb hK hc3
      go_wp2
      go_roundw
      case rel => exact ⟨k + 1, by omega, by go_num, by rw [← HPS.out]; exact blk_set (blk_alloc HB.out _) _, (HK.out.alloc _).setNew (p := ⟨w.heap.size, k, none⟩) (Nat.le_refl _) _⟩
      case measure => simp [intOf]; omega
    · have q1 : ¬ (k : Int) < (m : Int) := by omega
      have HK := hidden hK
      have HB := hidden hb
      obtain rfl : k = zs.length := by omega
      clear hK hb hc3
      go_wp2
      go_returns
      refine ⟨rfl, Or.inr ⟨_, _, by rw [hzl], fun j hj => ?_⟩, HK.out⟩
      rw [add_none, Nat.zero_add, blk_cell HB.out]
      exact pdTo_all zs j hj
end Go.Proofs.Yteoajgphahobiaa
namespace Go.Proofs.Yteoajgphahobiaa
open Go.RowKit
set_option linter.unusedVariables false
/-- What a Disk is: the platter, the pending writes, the power, the counts. -/
structure St where
  pl : List (List UInt8)
  pend : List (Nat × List UInt8)
  lim : Bool
  lf : Int
  r : Nat
  wn : Nat
  f : Nat
/-- The power is gone. -/
def St.gone (s : St) : Bool := s.lim && (s.lf == 0)
def St.write (s : St) (i : Nat) (l : List UInt8) : St := if s.gone then s else { s with pend := s.pend ++ [(i, l)], lf := spL s.lim s.lf, wn := s.wn + 1 }
def St.flush (s : St) : St := if s.gone then s else { s with pl := app s.pend s.pl, pend := [], lf := spL s.lim s.lf, f := s.f + 1 }
def St.crash (s : St) (ks : List Int) : St := { s with pl := app (selOf s.pend ks) s.pl, pend := [], lim := false, lf := 0 }
def St.stop (s : St) (z : Int) : St := { s with lim := decide (0 ≤ z), lf := if 0 ≤ z then z else 0 }
def St.read (s : St) : St := { s with r := s.r + 1 }
structure SOk (n c : Nat) (s : St) : Prop where
  len : s.pl.length = c
  pn : ∀ l ∈ s.pl, l.length = n
  qn : ∀ x ∈ s.pend, x.1 < c ∧ x.2.length = n
  f0 : 0 ≤ s.lf
  f1 : s.lf ≤ 9223372036854775807
structure SB (M : Nat) (s : St) : Prop where
  m : s.pend.length ≤ M
  r : s.r ≤ M
  wn : s.wn ≤ M
  f : s.f ≤ M
theorem SB.up {M M' : Nat} {s : St} (h : SB M s) (hM : M ≤ M') : SB M' s := ⟨Nat.le_trans h.m hM, Nat.le_trans h.r hM, Nat.le_trans h.wn hM, Nat.le_trans h.f hM⟩
theorem SB.write {M : Nat} {s : St} (h : SB M s) (i : Nat) (l : List UInt8) : SB (M + 1) (s.write i l) := by
  unfold St.write
  split
  · exact h.up (Nat.le_succ _)
  · have := h.m; have := h.wn; exact ⟨by simp; omega, Nat.le_succ_of_le h.r, by simp; omega, Nat.le_succ_of_le h.f⟩
theorem SB.flush {M : Nat} {s : St} (h : SB M s) : SB (M + 1) s.flush := by
  unfold St.flush
  split
  · exact h.up (Nat.le_succ _)
  · have := h.f; exact ⟨by simp, Nat.le_succ_of_le h.r, Nat.le_succ_of_le h.wn, by simp; omega⟩
theorem SB.crash {M : Nat} {s : St} (h : SB M s) (ks : List Int) : SB M (s.crash ks) := ⟨by simp [St.crash], h.r, h.wn, h.f⟩
theorem SB.stop {M : Nat} {s : St} (h : SB M s) (z : Int) : SB M (s.stop z) := ⟨h.m, h.r, h.wn, h.f⟩
theorem SB.read {M : Nat} {s : St} (h : SB M s) : SB (M + 1) s.read := ⟨Nat.le_succ_of_le h.m, Nat.succ_le_succ h.r, Nat.le_succ_of_le h.wn, Nat.le_succ_of_le h.f⟩
theorem SOk.appn {n c : Nat} {s : St} (h : SOk n c s) : ∀ l ∈ app s.pend s.pl, l.length = n := app_n _ _ h.pn (fun x hx => (h.qn x hx).2)
theorem spL_ok {lim : Bool} {lf : Int} (hg : (lim && (lf == 0)) = false) (h0 : 0 ≤ lf) (h1 : lf ≤ 9223372036854775807) : 0 ≤ spL lim lf ∧ spL lim lf ≤ 9223372036854775807 := by
  unfold spL
  cases lim
  · exact ⟨by simpa using h0, by simpa using h1⟩
  · simp at hg ⊢; omega
theorem SOk.write {n c : Nat} {s : St} (h : SOk n c s) {i : Nat} {l : List UInt8} (hi : i < c) (hl : l.length = n) : SOk n c (s.write i l) := by
  unfold St.write
  cases hg : s.gone
  · obtain ⟨a, b⟩ := spL_ok hg h.f0 h.f1
    refine ⟨h.len, h.pn, fun x hx => ?_, a, b⟩
    rcases List.mem_append.1 hx with hx | hx
    · exact h.qn x hx
    · rw [List.mem_singleton.1 hx]; exact ⟨hi, hl⟩
  · exact h
theorem SOk.flush {n c : Nat} {s : St} (h : SOk n c s) : SOk n c s.flush := by
  unfold St.flush
  cases hg : s.gone
  · obtain ⟨a, b⟩ := spL_ok hg h.f0 h.f1
    exact ⟨by simp [app_len, h.len], h.appn, (fun x hx => by cases hx), a, b⟩
  · exact h
theorem selOf_mem' {pend : List (Nat × List UInt8)} {ks : List Int} (hy : mayB pend.length 0 ks = true) : ∀ x ∈ selOf pend ks, x ∈ pend := fun x hx => by
  obtain ⟨i, hi, rfl⟩ := List.mem_map.1 hx
  have := mayB_all pend.length ks 0 (Int.le_refl _) hy i hi
  rw [List.getD_eq_getElem?_getD, List.getElem?_eq_getElem (show i.toNat < pend.length by omega)]
  exact List.getElem_mem _
theorem SOk.crash {n c : Nat} {s : St} (h : SOk n c s) {ks : List Int} (hy : mayB s.pend.length 0 ks = true) : SOk n c (s.crash ks) :=
  ⟨by simp [St.crash, app_len, h.len], app_n _ _ h.pn (fun x hx => (h.qn x (selOf_mem' hy x hx)).2), (fun x hx => by cases hx), Int.le_refl _, by simp [St.crash]⟩
theorem SOk.stop {n c : Nat} {s : St} (h : SOk n c s) {z : Int} (hz : z ≤ 9223372036854775807) : SOk n c (s.stop z) := by
  refine ⟨h.len, h.pn, h.qn, ?_, ?_⟩ <;> simp only [St.stop] <;> split <;> omega
theorem SOk.read {n c : Nat} {s : St} (h : SOk n c s) : SOk n c s.read := ⟨h.len, h.pn, h.qn, h.f0, h.f1⟩
theorem app_other' (pend : List (Nat × List UInt8)) (i : Nat) : ∀ pl : List (List UInt8), (∀ x ∈ pend, x.1 ≠ i) → (app pend pl)[i]? = pl[i]? := by
  unfold app
  induction pend with
  | nil => intro pl _; rfl
  | cons x t ih =>
    intro pl h
    rw [List.foldl_cons, ih _ (fun y hy => h y (List.mem_cons_of_mem _ hy)), List.getElem?_set_ne (h x (List.mem_cons_self ..))]
/-- What is read behind a crash is what the platter has. -/
theorem rd_at (q : List (List UInt8)) (i : Nat) (hi : i < q.length) : ∀ (pend : List (Nat × List UInt8)) (rl : List (List UInt8)), rl.length = q.length → (rd q pend rl)[i]? = if pend.any (fun x => x.1 == i) then q[i]? else rl[i]? := by
  intro pend
  unfold rd
  induction pend with
  | nil => intro rl _; rfl
  | cons x t ih =>
    intro rl hl
    rw [List.foldl_cons, ih _ (by simpa using hl), List.any_cons]
    by_cases hx : x.1 = i
    · subst hx
      rw [List.getElem?_set_self (by omega)]
      simp only [beq_self_eq_true, Bool.true_or, if_true]
      rw [List.getD_eq_getElem?_getD, List.getElem?_eq_getElem hi]
      split <;> simp
    · rw [List.getElem?_set_ne hx]
      have : (x.1 == i) = false := by simpa using hx
      rw [this, Bool.false_or]
theorem rd_app (pl : List (List UInt8)) (pend sel : List (Nat × List UInt8)) (hs : ∀ x ∈ sel, x ∈ pend) : rd (app sel pl) pend (app pend pl) = app sel pl := by
  apply List.ext_getElem?
  intro i
  by_cases hi : i < pl.length
  · rw [rd_at _ i (by rw [app_len]; exact hi) _ _ (by rw [app_len, app_len])]
    cases ha : pend.any (fun x => x.1 == i)
    · have hno : ∀ x ∈ pend, x.1 ≠ i := fun x hx e => by
        rw [List.any_eq_false] at ha
        exact ha x hx (by simpa using e)
      rw [if_neg (by simp), app_other' _ _ _ hno, app_other' _ _ _ (fun x hx => hno x (hs x hx))]
    · rw [if_pos rfl]
  · rw [List.getElem?_eq_none (by rw [rd_len, app_len]; omega), List.getElem?_eq_none (by rw [app_len]; omega)]
structure YD (B n c g pb pc rb rc : Nat) (s : St) (w : World) : Prop where
  ex : ∃ (qv : Value) (qs ps rs : List Value), w.heap[g]? = some (.cells (DP n pb c pc rb rc qv s.lim s.lf s.r s.wn s.f) 74 (0, 0)) ∧
    w.ownsRow 0 22 1 (.slice (some ⟨pb, 0, none⟩) c pc) c ps ∧ LL w ps s.pl ∧ w.ownsRow 0 22 1 (.slice (some ⟨rb, 0, none⟩) c rc) c rs ∧ LL w rs (app s.pend s.pl) ∧
    w.ownsRow 0 58 2 qv s.pend.length qs ∧ QL w c n qs s.pend ∧ (∀ k, qv.ownBlock = some k → B ≤ k) ∧ (s.pend.length = 0 → qv = .slice none 0 0) ∧ (∀ u ∈ qs, u.oneCell' = true)
  ok : SOk n c s
  ne : pb ≠ rb
  lg : B ≤ g
  lp : B ≤ pb
  lr : B ≤ rb
  n1 : 1 ≤ n
  hn : n ≤ 4096
  c1 : 1 ≤ c
  hc : c ≤ 4096
theorem YD.same {B n c g pb pc rb rc : Nat} {s : St} {w w' : World} (h : YD B n c g pb pc rb rc s w) (k : Same w w') : YD B n c g pb pc rb rc s w' := by
  obtain ⟨qv, qs, ps, rs, h1, h5, h6, h7, h8, h9, h10, h11, h12, h13⟩ := h.ex
  have kk : ∀ u l, Own w u l 0 → Own w' u l 0 := fun u l o => o.same k
  exact ⟨⟨qv, qs, ps, rs, blk_kept k (fun h => h) h1, own_kept h5 k (fun _ _ h => h), h6.kept kk, own_kept h7 k (fun _ _ h => h), h8.kept kk, own_kept h9 k (fun _ _ h => h), h10.kept kk, h11, h12, h13⟩, h.ok, h.ne, h.lg, h.lp, h.lr, h.n1, h.hn, h.c1, h.hc⟩
theorem rowOf_dp {w : World} {g n pb c pc rb rc r wn f : Nat} {lim : Bool} {lf : Int} {qv : Value} (h : w.heap[g]? = some (.cells (DP n pb c pc rb rc qv lim lf r wn f) 74 (0, 0))) : rowOf w g 3 = qv.ownBlock := by
  unfold rowOf
  rw [blk_cell h]
  rfl
theorem ok_one {ps : List Value} {pl : List (List UInt8)} {w : World} (h : LL w ps pl) : ∀ u ∈ ps, u.oneCell' = true := fun u hu => by
  obtain ⟨i, hi, rfl⟩ := List.getElem_of_mem hu
  obtain ⟨a, c, e⟩ := (h.2 i hi (by rw [← h.1]; exact hi)).byt.form
  rw [e]
  rfl
theorem Made.yd {n c g : Nat} {w w' : World} (h : Made n c g w w') (h1 : 1 ≤ n) (hn : n ≤ 4096) (hc1 : 1 ≤ c) (hc : c ≤ 4096) : ∃ pb rb rc, YD w.heap.size n c g pb c rb rc ⟨List.replicate c (List.replicate n 0), [], false, 0, 0, 0, 0⟩ w' ∧ Same w w' := by
  obtain ⟨pb, rb, rc, z, b, p, r, lg, lp, lr, lpr, k, o⟩ := h.ex
  have hL : LL w' (List.replicate c z) (List.replicate c (List.replicate n 0)) := ⟨by simp, fun i a b => by simpa using o⟩
  exact ⟨pb, rb, rc, ⟨⟨_, [], _, _, b, p, hL, r, hL, World.ownsRow_nil _ _ _ _, (fun k hk => absurd hk (by simp)), (fun k hk => by cases hk), (fun _ => rfl), (fun u hu => by cases hu)⟩, ⟨by simp, (fun l hl => by rw [List.eq_of_mem_replicate hl]; simp), (fun x hx => by cases hx), Int.le_refl _, by simp⟩, lpr, lg, lp, lr, h1, hn, hc1, hc⟩, k⟩
theorem YD.cell1 {B n c g pb pc rb rc : Nat} {s : St} {w : World} (h : YD B n c g pb pc rb rc s w) : w.cell? ⟨g, 1, none⟩ = some (.slice (some ⟨pb, 0, none⟩) c pc) := by
  obtain ⟨qv, qs, ps, rs, h1, _⟩ := h.ex
  exact blk_cell h1
/-- Write of a sector that is there. -/
theorem yd_write {B n c g pb pc rb rc M : Nat} {s : St} {w : World} (h : YD B n c g pb pc rb rc s w) (hM : SB M s) (hm : M ≤ 4398046511102) (hB : B ≤ w.heap.size) (i : Nat) (hi : i < c) (v : Value) (l : List UInt8) (hv : Own w v l 0) (hl : l.length = n) :
    Calls Try.prog 23 #[.pointer (some ⟨g, 0, none⟩), .int .i64 i, v] w fun e w' => e = .returned (.int .i64 0) ∧ YD B n c g pb pc rb rc (s.write i l) w' ∧ KT B w w' ∧ DF g pb rb w w' := by
  obtain ⟨qv, qs, ps, rs, h1, h5, h6, h7, h8, h9, h10, h11, h12, h13⟩ := h.ex
  have hw : s.write i l = if s.gone then s else { s with pend := s.pend ++ [(i, l)], lf := spL s.lim s.lf, wn := s.wn + 1 } := rfl
  cases hgo : s.gone
  · have hng : ¬ (s.lim = true ∧ s.lf = 0) := by simpa [St.gone] using hgo
    have := hM.m
    have := hM.wn
    refine (y_write n pb c pc rb rc g i s.pend.length qv qs rs s.lim s.lf hng h.ok.f0 h.ok.f1 s.r s.wn s.f v l w h1 h7 h9 hv.byt (hv.apart h1) hl hi h.hn (by omega) (by omega)).mono ?_
    rintro e w' ⟨rfl, ⟨u, gq, qc, o1, o2, o3, o4, o5, o6⟩⟩
    have kk : KT B w w' := KT.of o5 fun k hk hs => by
      rcases hs with rfl | rfl | hs
      · exact kt_of h1 h.lg (by decide)
      · exact kt_row h7 rfl h.lr (by decide)
      · exact kt_row h9 hs (h11 _ hs) (by decide)
    have ko : ∀ u l, Own w u l 0 → Own w' u l 0 := fun u l o => o.kt kk
    have hpg : pb ≠ g := fun e => own_apart h5 h1 (by decide) (by rw [← e]; rfl)
    have hql : qs.length = s.pend.length * 2 := h9.1
    have hu : Own w' u l 0 := o1.weak (Nat.zero_le _)
    have hok := h.ok.write hi hl
    have hap : app (s.pend ++ [(i, l)]) s.pl = (app s.pend s.pl).set i l := by unfold app; rw [List.foldl_append]; rfl
    rw [hw, hgo, if_neg (by simp)]
    rw [hw, hgo, if_neg (by simp)] at hok
    refine ⟨rfl, ⟨⟨_, _, ps, rs.set i u, o2, own_kept h5 o5 ?_, h6.kept ko, o3, by rw [hap]; exact (h8.kept ko).set hu i, by rw [List.length_append]; exact o4, ?_, ?_, fun h0 => absurd h0 (by simp), ?_⟩, hok, h.ne, h.lg, h.lp, h.lr, h.n1, h.hn, h.c1, h.hc⟩, kk, ?df⟩
    case df =>
      refine ⟨o5.mono (fun k _ hs => ?_), fun k hk hr => ?_⟩
      · rcases hs with hs | hs | hs
        · exact Or.inl hs
        · exact Or.inr (Or.inr (Or.inl hs))
        · exact Or.inr (Or.inr (Or.inr (by rw [rowOf_dp h1]; exact hs)))
      · rw [rowOf_dp o2] at hr
        rw [rowOf_dp h1]
        simp [Value.ownBlock] at hr
        subst hr
        rcases o6 with h | h
        · exact h
        · omega
    · intro k hk hs
      simp [Value.ownBlock] at hk
      subst hk
      rcases hs with hs | hs | hs
      · exact hpg hs
      · exact h.ne hs
      · rcases own_rows h5 h9 (by decide) with hx | hx
        · cases hx
        · exact hx (by rw [hs]; rfl)
    · intro k hk
      by_cases hkm : k < s.pend.length
      · obtain ⟨y, a, b, d, e', f'⟩ := h10 k hkm
        refine ⟨y, ?_, ?_, ?_, ?_, ?_⟩
        · rw [List.getElem?_append_left (by omega), List.getElem_append_left hkm]; exact a
        · rw [List.getElem?_append_left (by omega)]; exact b
        · rw [List.getElem_append_left hkm]; exact ko _ _ d
        · rw [List.getElem_append_left hkm]; exact e'
        · rw [List.getElem_append_left hkm]; exact f'
      · obtain rfl : k = s.pend.length := by rw [List.length_append] at hk; simp at hk; omega
        refine ⟨u, ?_, ?_, ?_, ?_, ?_⟩
        · rw [List.getElem?_append_right (by omega), hql, Nat.sub_self]; simp
        · rw [List.getElem?_append_right (by omega), hql, Nat.add_sub_cancel_left]; rfl
        · simpa using hu
        · simpa using hi
        · simpa using hl
    · intro k hk
      simp [Value.ownBlock] at hk
      subst hk
      rcases o6 with h | h
      · exact h11 _ h
      · omega
    · intro x hx
      rcases List.mem_append.1 hx with hx | hx
      · exact h13 x hx
      · obtain ⟨ua, uc, hue⟩ := hu.byt.form
        rcases List.mem_cons.1 hx with rfl | hx
        · rfl
        · rw [List.mem_singleton.1 hx, hue]; rfl
  · have hg2 : s.lim = true ∧ s.lf = 0 := by simpa [St.gone] using hgo
    have h1' := h1
    rw [hg2.1, hg2.2] at h1'
    refine (y_writeOff n pb c pc rb rc g i qv s.r s.wn s.f v l w h1' hv.byt hl hi).mono ?_
    rintro e w' ⟨rfl, rfl⟩
    rw [hw, hgo, if_pos rfl]
    exact ⟨rfl, h, KT.refl _ _, DF.refl _ _ _ _⟩
theorem yd_writeLen {B n c g pb pc rb rc : Nat} {s : St} {w : World} (h : YD B n c g pb pc rb rc s w) (i : Nat) (hi : i < c) (v : Value) (l : List UInt8) (hv : Byt w v l) (hl : l.length ≠ n) :
    Calls Try.prog 23 #[.pointer (some ⟨g, 0, none⟩), .int .i64 i, v] w fun e w' => e = .returned (.int .i64 30) ∧ w = w' := by
  obtain ⟨qv, qs, ps, rs, h1, _⟩ := h.ex
  exact y_writeLen n pb c pc rb rc g i qv s.lim s.lf s.r s.wn s.f v l w h1 hv hl hi
theorem yd_writeNo {B n c g pb pc rb rc : Nat} {s : St} {w : World} (h : YD B n c g pb pc rb rc s w) (i : Int) (hi : ¬ (0 ≤ i ∧ i < c)) (v : Value) :
    Calls Try.prog 23 #[.pointer (some ⟨g, 0, none⟩), .int .i64 i, v] w fun e w' => e = .returned (.int .i64 30) ∧ w = w' :=
  d_writeNo g pb c pc i v w h.cell1 hi
theorem yd_read {B n c g pb pc rb rc M : Nat} {s : St} {w : World} (h : YD B n c g pb pc rb rc s w) (hM : SB M s) (hm : M ≤ 4398046511104) (i : Nat) (hi : i < c) (hir : i < (app s.pend s.pl).length) :
    Calls Try.prog 29 #[.pointer (some ⟨g, 0, none⟩), .int .i64 i] w fun e w' => ∃ u, e = .returned (.tuple #[u, .int .i64 0]) ∧ Own w' u (app s.pend s.pl)[i] w.heap.size ∧ YD B n c g pb pc rb rc s.read w' ∧ KT B w w' ∧ DF g pb rb w w' := by
  obtain ⟨qv, qs, ps, rs, h1, h5, h6, h7, h8, h9, h10, h11, h12, h13⟩ := h.ex
  have hrl : rs.length = c := by simpa using h7.1
  have ho := h8.2 i (by omega) hir
  have := hM.r
  refine (y_read n pb c pc rb rc g i qv rs s.lim s.lf s.r s.wn s.f rs[i] (app s.pend s.pl)[i] w h1 h7 hi (List.getElem?_eq_getElem (by omega)) ho.byt (ho.apart h1) (by rw [h.ok.appn _ (List.getElem_mem hir)]; exact h.hn) (by omega)).mono ?_
  rintro e w' ⟨u, rfl, o1, o2, o3⟩
  have kk : KT B w w' := KT.of o3 fun k hk hs => by subst hs; exact kt_of h1 h.lg (by decide)
  have ko : ∀ u l, Own w u l 0 → Own w' u l 0 := fun u l o => o.kt kk
  have hpg : pb ≠ g := fun e => own_apart h5 h1 (by decide) (by rw [← e]; rfl)
  have hrg : rb ≠ g := fun e => own_apart h7 h1 (by decide) (by rw [← e]; rfl)
  have hqg := own_apart h9 h1 (by decide)
  exact ⟨u, rfl, o1, ⟨⟨qv, qs, ps, rs, o2, own_kept h5 o3 (fun k hk hs => by simp [Value.ownBlock] at hk; omega), h6.kept ko, own_kept h7 o3 (fun k hk hs => by simp [Value.ownBlock] at hk; omega), h8.kept ko, own_kept h9 o3 (fun k hk hs => hqg (by rw [hk, hs])), h10.kept ko, h11, h12, h13⟩, h.ok.read, h.ne, h.lg, h.lp, h.lr, h.n1, h.hn, h.c1, h.hc⟩, kk, ⟨o3.mono (fun k _ hs => Or.inl hs), fun k hk hr => by rw [rowOf_dp o2] at hr; rw [rowOf_dp h1]; exact hr⟩⟩
theorem yd_flush {B n c g pb pc rb rc M : Nat} {s : St} {w : World} (h : YD B n c g pb pc rb rc s w) (hM : SB M s) (hm : M ≤ 4398046511104) :
    Calls Try.prog 25 #[.pointer (some ⟨g, 0, none⟩)] w fun e w' => e = .returned (.int .i64 s.pend.length) ∧ YD B n c g pb pc rb rc s.flush w' ∧ KT B w w' ∧ DF g pb rb w w' := by
  obtain ⟨qv, qs, ps, rs, h1, h5, h6, h7, h8, h9, h10, h11, h12, h13⟩ := h.ex
  have hw : s.flush = if s.gone then s else { s with pl := app s.pend s.pl, pend := [], lf := spL s.lim s.lf, f := s.f + 1 } := rfl
  cases hgo : s.gone
  · have hng : ¬ (s.lim = true ∧ s.lf = 0) := by simpa [St.gone] using hgo
    have := hM.m
    have := hM.f
    refine (y_flush n pb c pc rb rc g qv qs ps s.pl s.pend s.pend.length rfl s.lim s.lf s.r s.wn s.f w h1 h9 h10 h5 h6 hng h.ok.f0 h.ok.f1 (by omega) (by omega)).mono ?_
    rintro e w' ⟨rfl, ⟨ys, o1, o2, o3, o5⟩⟩
    have kk : KT B w w' := KT.of o5 fun k hk hs => by
      rcases hs with rfl | rfl
      · exact kt_of h1 h.lg (by decide)
      · exact kt_row h5 rfl h.lp (by decide)
    have ko : ∀ u l, Own w u l 0 → Own w' u l 0 := fun u l o => o.kt kk
    have hrg : rb ≠ g := fun e => own_apart h7 h1 (by decide) (by rw [← e]; rfl)
    have hok := h.ok.flush
    rw [hw, hgo, if_neg (by simp)]
    rw [hw, hgo, if_neg (by simp)] at hok
    refine ⟨rfl, ⟨⟨_, [], ys, rs, o1, o2, o3, own_kept h7 o5 ?_, h8.kept ko, World.ownsRow_nil _ _ _ _, (fun k hk => absurd hk (by simp)), (fun k hk => by cases hk), (fun _ => rfl), (fun u hu => by cases hu)⟩, hok, h.ne, h.lg, h.lp, h.lr, h.n1, h.hn, h.c1, h.hc⟩, kk, ⟨o5.mono (fun k _ hs => hs.imp id Or.inl), fun k hk hr => by rw [rowOf_dp o1] at hr; cases hr⟩⟩
    intro k hk hs
    simp [Value.ownBlock] at hk
    subst hk
    rcases hs with hs | hs
    · exact hrg hs
    · exact h.ne hs.symm
  · have hg2 : s.lim = true ∧ s.lf = 0 := by simpa [St.gone] using hgo
    obtain ⟨qa, qc, rfl⟩ := own_form h9
    have h1' := h1
    rw [hg2.1, hg2.2] at h1'
    refine (y_flushOff n pb c pc rb rc g s.pend.length qc qa s.r s.wn s.f w h1').mono ?_
    rintro e w' ⟨rfl, rfl⟩
    rw [hw, hgo, if_pos rfl]
    exact ⟨rfl, h, KT.refl _ _, DF.refl _ _ _ _⟩
theorem yd_crashYes {B n c g pb pc rb rc M : Nat} {s : St} {w : World} (h : YD B n c g pb pc rb rc s w) (hM : SB M s) (hm : M ≤ 4398046511104) (kv : Value) (ks : List Int) (hk : Ints w kv ks) (hkb : ∀ a k c, kv = .slice (some a) k c → 0 < k → a.block ≠ pb) (hl : ks.length ≤ 140737488355328) (hy : mayB s.pend.length 0 ks = true) :
    Calls Try.prog 28 #[.pointer (some ⟨g, 0, none⟩), kv] w fun e w' => e = .returned (.int .i64 0) ∧ YD B n c g pb pc rb rc (s.crash ks) w' ∧ KT B w w' ∧ DF g pb rb w w' := by
  obtain ⟨qv, qs, ps, rs, h1, h5, h6, h7, h8, h9, h10, h11, h12, h13⟩ := h.ex
  have hmM := hM.m
  have hmk := d_mayKeep kv ks s.pend.length w hk hl (by omega)
  rw [hy] at hmk
  have hall := mayB_all s.pend.length ks 0 (Int.le_refl _) hy
  refine (y_crash n pb c pc rb rc g s.pend.length kv ks qv qs ps rs s.pl (app s.pend s.pl) s.pend (selOf s.pend ks) rfl h.ok.len (by simp [selOf]) (fun k h h' j hj => ?_) s.lim s.lf s.r s.wn s.f w hk hkb hl h1 h9 h10 h5 h6 h7 h8 h.ne (by omega) hall hmk).mono ?_
  · have hm := hall _ (List.getElem_mem h)
    rw [hj] at hm
    refine ⟨by omega, ?_⟩
    simp only [selOf, List.getElem_map, hj]
    rw [List.getD_eq_getElem?_getD, Int.toNat_natCast, List.getElem?_eq_getElem (by omega)]
    rfl
  rintro e w' ⟨rfl, ⟨ys, zs, o1, o2, o3, o5, o6, o7⟩⟩
  rw [rd_app _ _ _ (selOf_mem' hy)] at o6
  have kk : KT B w w' := KT.of o7 fun k hk hs => by
    rcases hs with rfl | rfl | rfl
    · exact kt_of h1 h.lg (by decide)
    · exact kt_row h5 rfl h.lp (by decide)
    · exact kt_row h7 rfl h.lr (by decide)
  exact ⟨rfl, ⟨⟨_, [], ys, zs, o1, o2, o3, o5, o6, World.ownsRow_nil _ _ _ _, (fun k hk => absurd hk (by simp [St.crash])), (fun k hk => by cases hk), (fun _ => rfl), (fun u hu => by cases hu)⟩, h.ok.crash hy, h.ne, h.lg, h.lp, h.lr, h.n1, h.hn, h.c1, h.hc⟩, kk, ⟨o7.mono (fun k _ hs => hs.imp id (fun h => h.imp id Or.inl)), fun k hk hr => by rw [rowOf_dp o1] at hr; cases hr⟩⟩
theorem yd_crashNo {B n c g pb pc rb rc M : Nat} {s : St} {w : World} (h : YD B n c g pb pc rb rc s w) (hM : SB M s) (hm : M ≤ 4398046511104) (kv : Value) (ks : List Int) (hk : Ints w kv ks) (hl : ks.length ≤ 140737488355328) (hy : mayB s.pend.length 0 ks = false) :
    Calls Try.prog 28 #[.pointer (some ⟨g, 0, none⟩), kv] w fun e w' => e = .returned (.int .i64 1) ∧ w = w' := by
  obtain ⟨qv, qs, ps, rs, h1, h5, h6, h7, h8, h9, _⟩ := h.ex
  have hmM := hM.m
  have hmk := d_mayKeep kv ks s.pend.length w hk hl (by omega)
  rw [hy] at hmk
  obtain ⟨qa, qc, rfl⟩ := own_form h9
  exact y_crashNo n pb c pc rb rc g s.pend.length kv qa qc s.lim s.lf s.r s.wn s.f w h1 hmk
/-- The sectors of the pending writes. -/
def St.pds (s : St) : List Int := s.pend.map fun x => (x.1 : Int)
theorem yd_pending {B n c g pb pc rb rc M : Nat} {s : St} {w : World} (h : YD B n c g pb pc rb rc s w) (hM : SB M s) (hm : M ≤ 4398046511104) :
    Calls Try.prog 20 #[.pointer (some ⟨g, 0, none⟩)] w fun e w' => e = .returned (.slice (some ⟨w.heap.size, 0, none⟩) s.pend.length s.pend.length) ∧ Ints w' (.slice (some ⟨w.heap.size, 0, none⟩) s.pend.length s.pend.length) s.pds ∧ Same w w' := by
  obtain ⟨qv, qs, ps, rs, h1, h5, h6, h7, h8, h9, h10, h11, h12, h13⟩ := h.ex
  have hmM := hM.m
  refine y_pending n pb c pc rb rc g s.pend.length qv qs s.lim s.lf s.r s.wn s.f w (by omega) h1 h9 s.pds (by simp [St.pds]) fun k hk => ?_
  have hk' : k < s.pend.length := by simpa [St.pds] using hk
  obtain ⟨u, a, b, o, e, _⟩ := h10 k hk'
  obtain ⟨ua, uc, rfl⟩ := o.byt.form
  exact ⟨_, _, _, _, a, b, by simp [St.pds]⟩
theorem yd_image {B n c g pb pc rb rc : Nat} {s : St} {w : World} (h : YD B n c g pb pc rb rc s w) :
    Calls Try.prog 15 #[.pointer (some ⟨g, 0, none⟩)] w fun e w' => ∃ u, e = .returned u ∧ Own w' u s.pl.flatten w.heap.size ∧ Same w w' := by
  obtain ⟨qv, qs, ps, rs, h1, h5, h6, _⟩ := h.ex
  exact y_image n pb c pc rb rc g qv s.lim s.lf s.r s.wn s.f ps s.pl w h.hn h.n1 h.hc h1 h5 h.ok.len h.ok.pn h6.2
theorem yd_off {B n c g pb pc rb rc : Nat} {s : St} {w : World} (h : YD B n c g pb pc rb rc s w) :
    Calls Try.prog 30 #[.pointer (some ⟨g, 0, none⟩)] w fun e w' => e = .returned (.bool s.gone) ∧ w = w' := by
  obtain ⟨qv, qs, ps, rs, h1, _⟩ := h.ex
  exact y_off g s.lim s.lf w (blk_cell h1) (blk_cell h1)
theorem yd_stop {B n c g pb pc rb rc : Nat} {s : St} {w : World} (h : YD B n c g pb pc rb rc s w) (z : Int) (hz : z ≤ 9223372036854775807) :
    Calls Try.prog 22 #[.pointer (some ⟨g, 0, none⟩), .int .i64 z] w fun e w' => e = .returned (.tuple #[]) ∧ YD B n c g pb pc rb rc (s.stop z) w' ∧ KT B w w' ∧ DF g pb rb w w' := by
  obtain ⟨qv, qs, ps, rs, h1, h5, h6, h7, h8, h9, h10, h11, h12, h13⟩ := h.ex
  refine (y_stop n pb c pc rb rc g qv s.lim s.lf z s.r s.wn s.f w h1).mono ?_
  rintro e w' ⟨rfl, o2, o3⟩
  have kk : KT B w w' := KT.of o3 fun k hk hs => by subst hs; exact kt_of h1 h.lg (by decide)
  have ko : ∀ u l, Own w u l 0 → Own w' u l 0 := fun u l o => o.kt kk
  have hpg : pb ≠ g := fun e => own_apart h5 h1 (by decide) (by rw [← e]; rfl)
  have hrg : rb ≠ g := fun e => own_apart h7 h1 (by decide) (by rw [← e]; rfl)
  have hqg := own_apart h9 h1 (by decide)
  exact ⟨rfl, ⟨⟨qv, qs, ps, rs, o2, own_kept h5 o3 (fun k hk hs => by simp [Value.ownBlock] at hk; omega), h6.kept ko, own_kept h7 o3 (fun k hk hs => by simp [Value.ownBlock] at hk; omega), h8.kept ko, own_kept h9 o3 (fun k hk hs => hqg (by rw [hk, hs])), h10.kept ko, h11, h12, h13⟩, h.ok.stop hz, h.ne, h.lg, h.lp, h.lr, h.n1, h.hn, h.c1, h.hc⟩, kk, ⟨o3.mono (fun k _ hs => Or.inl hs), fun k hk hr => by rw [rowOf_dp o2] at hr; rw [rowOf_dp h1]; exact hr⟩⟩
theorem yd_fork {B n c g pb pc rb rc M : Nat} {s : St} {w : World} (h : YD B n c g pb pc rb rc s w) (hM : SB M s) (hm : M ≤ 4398046511104) :
    Calls Try.prog 21 #[.pointer (some ⟨g, 0, none⟩)] w fun e w' => ∃ g' pb' pc' rb' rc', e = .returned (.pointer (some ⟨g', 0, none⟩)) ∧ YD w.heap.size n c g' pb' pc' rb' rc' s w' ∧ Same w w' := by
  obtain ⟨qv, qs, ps, rs, h1, h5, h6, h7, h8, h9, h10, h11, h12, h13⟩ := h.ex
  have hmM := hM.m
  refine (y_fork n pb c pc rb rc g s.pend.length qv s.lim s.lf s.r s.wn s.f ps rs qs w h.hc h.c1 (by omega) h1 h5 h7 h9 h12 (ok_one h6) (ok_one h8) h13).mono ?_
  rintro e w' ⟨g', rfl, ⟨pb', pc', rb', rc', qv', o1, o2, o3, o4, o5, o6, o7, o8, o9, o10, k⟩⟩
  have kk : ∀ u l, Own w u l 0 → Own w' u l 0 := fun u l o => o.same k
  exact ⟨g', pb', pc', rb', rc', rfl, ⟨⟨qv', qs, ps, rs, o1, o2, h6.kept kk, o3, h8.kept kk, o4, h10.kept kk, o10, o5, h13⟩, h.ok, o6, o7, o8, o9, h.n1, h.hn, h.c1, h.hc⟩, k⟩
end Go.Proofs.Yteoajgphahobiaa
