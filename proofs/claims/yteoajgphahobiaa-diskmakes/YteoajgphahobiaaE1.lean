/- A Disk whose power lasts, told weakly: what is on its platter, how many writes are pending; Write of whatever sector. -/
import Derived.Test.YteoajgphahobiaaD7
namespace Go.Proofs.Yteoajgphahobiaa
open Go.RowKit
set_option linter.unusedVariables false

/-- From B on blocks may have turned, but no row of bytes. -/
def kt (B : Nat) (w : World) : Nat → Prop := fun k => B ≤ k ∧ ∀ cs, w.heap[k]? ≠ some (.cells cs 5 (0, 0))
abbrev KT (B : Nat) (w w' : World) : Prop := Kept (kt B w) w w'
theorem KT.refl (B : Nat) (w : World) : KT B w w := Kept.refl _ _
theorem KT.trans {B : Nat} {a b c : World} (h : KT B a b) (k : KT B b c) : KT B a c :=
  Kept.trans' h k fun i hi hs => ⟨hs.1, fun cs e => by
    have : b.heap[i]? = some (.cells cs 5 (0, 0)) := (h.block i hi (fun hk => hk.2 cs e)).trans e
    exact hs.2 cs this⟩
theorem KT.of {B : Nat} {w w' : World} {S : Nat → Prop} (k : Kept S w w') (h : ∀ i, i < w.heap.size → S i → kt B w i) : KT B w w' := k.mono h
theorem KT.ofSame {B : Nat} {w w' : World} (k : Same w w') : KT B w w' := k.mono fun _ _ h => h.elim
theorem KT.same {B : Nat} {a w w' : World} (h : Same a w) (k : KT B w w') (hB : a.heap.size ≤ B) : Same a w' := Kept.trans' h k fun i hi hs => by have := hs.1; omega
theorem Own.kt {B : Nat} {w w' : World} {u : Value} {l : List UInt8} {C : Nat} (h : Own w u l C) (k : KT B w w') : Own w' u l C := h.kept k fun i cs _ hb hs => hs.2 cs hb
/-- So many bytes of their own. -/
def NB (n : Nat) (w : World) (u : Value) : Prop := ∃ l, Own w u l 0 ∧ l.length = n
theorem NB.kt {n B : Nat} {w w' : World} {u : Value} (h : NB n w u) (k : KT B w w') : NB n w' u := let ⟨l, a, b⟩ := h; ⟨l, a.kt k, b⟩
theorem NB.form {n : Nat} {w : World} {u : Value} (h : NB n w u) : ∃ a c, u = .slice a n c := by
  obtain ⟨l, ho, rfl⟩ := h
  exact ho.byt.form
/-- A block of another type may turn. -/
theorem kt_of {B g : Nat} {w : World} {cs : Array Value} {t : TypeId} (hb : w.heap[g]? = some (.cells cs t (0, 0))) (hB : B ≤ g) (ht : t ≠ 5) : kt B w g := ⟨hB, fun cs' e => by
  rw [hb] at e
  exact ht (by simpa using (show cs = cs' ∧ t = 5 by simpa using e).2)⟩
theorem kt_row {B C s n k : Nat} {w : World} {e : TypeId} {v : Value} {xs : List Value} (h : w.ownsRow C e s v n xs) (hk : v.ownBlock = some k) (hB : B ≤ k) (ht : e ≠ 5) : kt B w k := by
  rcases h.2 with ⟨rfl, _⟩ | ⟨g, cap, cur, rfl, _, hg, _⟩
  · cases hk
  · simp [Value.ownBlock] at hk
    subst hk
    exact kt_of hg hB ht
/-- The pending writes may be. -/
def QOk (n c m : Nat) (qs : List Value) (w : World) : Prop := ∀ k, k < m → ∃ (N : Nat) (u : Value), qs[k * 2]? = some (.int .i64 N) ∧ qs[k * 2 + 1]? = some u ∧ N < c ∧ NB n w u
structure WD (B n c g pb pc rb rc m M : Nat) (ps : List Value) (w : World) : Prop where
  ex : ∃ (qv : Value) (qs rs : List Value) (r wn f : Nat), w.heap[g]? = some (.cells (DC n pb c pc rb rc qv r wn f) 74 (0, 0)) ∧ r ≤ M ∧ wn ≤ M ∧ f ≤ M ∧
    w.ownsRow 0 22 1 (.slice (some ⟨rb, 0, none⟩) c rc) c rs ∧ (∀ u ∈ rs, NB n w u) ∧ w.ownsRow 0 58 2 qv m qs ∧ QOk n c m qs w ∧ (∀ k, qv.ownBlock = some k → B ≤ k)
  plat : w.ownsRow 0 22 1 (.slice (some ⟨pb, 0, none⟩) c pc) c ps
  bytes : ∀ u ∈ ps, NB n w u
  ne : pb ≠ rb
  lg : B ≤ g
  lp : B ≤ pb
  lr : B ≤ rb
  mM : m ≤ M
  hn : n ≤ 4096
  hc : c ≤ 4096
theorem WD.kt {B n c g pb pc rb rc m M : Nat} {ps : List Value} {w w' : World} (h : WD B n c g pb pc rb rc m M ps w) (k : Same w w') : WD B n c g pb pc rb rc m M ps w' := by
  obtain ⟨qv, qs, rs, r, wn, f, h1, h2, h3, h4, h5, h6, h7, h8, h9⟩ := h.ex
  have kk : KT B w w' := KT.ofSame k
  exact ⟨⟨qv, qs, rs, r, wn, f, blk_kept k (fun h => h) h1, h2, h3, h4, own_kept h5 k (fun _ _ h => h), fun u hu => (h6 u hu).kt kk, own_kept h7 k (fun _ _ h => h), fun j hj => let ⟨N, u, a, b, c, d⟩ := h8 j hj; ⟨N, u, a, b, c, d.kt kk⟩, h9⟩, own_kept h.plat k (fun _ _ h => h), fun u hu => (h.bytes u hu).kt kk, h.ne, h.lg, h.lp, h.lr, h.mM, h.hn, h.hc⟩
set_option maxHeartbeats 1000000 in
set_option maxRecDepth 100000 in
theorem d_hasNo (g pb c pc : Nat) (i : Int) (w : World) (h1 : w.cell? ⟨g, 1, none⟩ = some (.slice (some ⟨pb, 0, none⟩) c pc)) (hi : ¬ (0 ≤ i ∧ i < c)) : Calls Try.prog 43 #[.pointer (some ⟨g, 0, none⟩), .int .i64 i] w fun e w' => e = .returned (.bool false) ∧ w = w' := by
  go_enter Try.func43, Try.ntmps43
  go_wp2
  all_goals
    go_returns
    exact ⟨by first | rfl | (simp; omega), rfl⟩
set_option maxHeartbeats 1000000 in
set_option maxRecDepth 100000 in
theorem d_writeNo (g pb c pc : Nat) (i : Int) (v : Value) (w : World) (h1 : w.cell? ⟨g, 1, none⟩ = some (.slice (some ⟨pb, 0, none⟩) c pc)) (hi : ¬ (0 ≤ i ∧ i < c)) : Calls Try.prog 23 #[.pointer (some ⟨g, 0, none⟩), .int .i64 i, v] w fun e w' => e = .returned (.int .i64 30) ∧ w = w' := by
  have A := hidden (d_hasNo g pb c pc i w h1 hi)
  go_enter Try.func23, Try.ntmps23
  go_wp2_with (go_at_call 43; refine (A.out).mono ?_; rintro e w1 ⟨rfl, rfl⟩)
  go_returns
  exact ⟨rfl, rfl⟩
/-- Write of whatever sector. -/
theorem wd_write {B n c g pb pc rb rc m M : Nat} {ps : List Value} {w : World} (h : WD B n c g pb pc rb rc m M ps w) (hM : M ≤ 4398046511102) (hB : B ≤ w.heap.size) (i : Int) (v : Value) (l : List UInt8) (hv : Byt w v l) (hl : l.length = n) :
    Calls Try.prog 23 #[.pointer (some ⟨g, 0, none⟩), .int .i64 i, v] w fun e w' => (∃ x, e = .returned (.int .i64 x)) ∧ (∃ m', WD B n c g pb pc rb rc m' (M + 1) ps w') ∧ KT B w w' := by
  obtain ⟨qv, qs, rs, r, wn, f, h1, h2, h3, h4, h5, h6, h7, h8, h9⟩ := h.ex
  by_cases hi : 0 ≤ i ∧ i < c
  · obtain ⟨j, rfl⟩ := Int.eq_ofNat_of_zero_le hi.1
    have hj : j < c := by omega
    have hmM := h.mM
    refine (d_write n pb c pc rb rc g j m qv qs rs r wn f v l w h1 h5 h7 hv hl hj h.hn (by omega) (by omega)).mono ?_
    rintro e w' ⟨rfl, ⟨u, gq, qc, o1, o2, o3, o4, o5, o6⟩⟩
    have kk : KT B w w' := KT.of o5 fun k hk hs => by
      rcases hs with rfl | rfl | hs
      · exact kt_of h1 h.lg (by decide)
      · exact kt_row h5 rfl h.lr (by decide)
      · exact kt_row h7 hs (h9 _ hs) (by decide)
    have hpg : pb ≠ g := fun e => own_apart h.plat h1 (by decide) (by rw [← e]; rfl)
    have hql : qs.length = m * 2 := h7.1
    have hu : NB n w' u := ⟨l, o1.weak (Nat.zero_le _), hl⟩
    refine ⟨⟨0, rfl⟩, ⟨m + 1, ⟨_, _, rs.set j u, r, wn + 1, f, o2, by omega, by omega, by omega, o3, ?_, o4, ?_, ?_⟩, own_kept h.plat o5 ?_, fun x hx => (h.bytes x hx).kt kk, h.ne, h.lg, h.lp, h.lr, by omega, h.hn, h.hc⟩, kk⟩
    · intro x hx
      rcases List.mem_or_eq_of_mem_set hx with hx | rfl
      · exact (h6 x hx).kt kk
      · exact hu
    · intro k hk
      by_cases hkm : k < m
      · obtain ⟨N, y, a, b, c', d⟩ := h8 k hkm
        exact ⟨N, y, by rw [List.getElem?_append_left (by omega)]; exact a, by rw [List.getElem?_append_left (by omega)]; exact b, c', d.kt kk⟩
      · obtain rfl : k = m := by omega
        refine ⟨j, u, ?_, ?_, hj, hu⟩
        · rw [List.getElem?_append_right (by omega), hql, Nat.sub_self]; rfl
        · rw [List.getElem?_append_right (by omega), hql, Nat.add_sub_cancel_left]; rfl
    · intro k hk
      simp [Value.ownBlock] at hk
      subst hk
      rcases o6 with h | h
      · exact h9 _ h
      · omega
    · intro k hk hs
      simp [Value.ownBlock] at hk
      subst hk
      rcases hs with hs | hs | hs
      · exact hpg hs
      · exact h.ne hs
      · rcases own_rows h.plat h7 (by decide) with hx | hx
        · cases hx
        · exact hx (by rw [hs]; rfl)
  · have c1 : w.cell? ⟨g, 1, none⟩ = some (.slice (some ⟨pb, 0, none⟩) c pc) := blk_cell h1
    refine (d_writeNo g pb c pc i v w c1 hi).mono ?_
    rintro e w' ⟨rfl, rfl⟩
    have hmM := h.mM
    exact ⟨⟨30, rfl⟩, ⟨m, ⟨qv, qs, rs, r, wn, f, h1, by omega, by omega, by omega, h5, h6, h7, h8, h9⟩, h.plat, h.bytes, h.ne, h.lg, h.lp, h.lr, by omega, h.hn, h.hc⟩, KT.refl _ _⟩
end Go.Proofs.Yteoajgphahobiaa
