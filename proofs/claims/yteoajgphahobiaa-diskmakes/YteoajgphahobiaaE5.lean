/- A Disk told weakly: Crash, Image; New that is refused. -/
import Derived.Test.YteoajgphahobiaaE3
import Derived.Test.YteoajgphahobiaaE4
namespace Go.Proofs.Yteoajgphahobiaa
open Go.RowKit
set_option linter.unusedVariables false
set_option maxHeartbeats 1000000 in
set_option maxRecDepth 100000 in
theorem d_crashNo (n pb c pc rb rc g m : Nat) (kv : Value) (qa : Option Addr) (qc r wn f : Nat) (w : World)
    (hb : w.heap[g]? = some (.cells (DC n pb c pc rb rc (.slice qa m qc) r wn f) 74 (0, 0)))
    (hmk : Calls Try.prog 52 #[kv, .int .i64 m] w fun e w' => e = .returned (.bool false) ∧ w = w') :
    Calls Try.prog 28 #[.pointer (some ⟨g, 0, none⟩), kv] w fun e w' => e = .returned (.int .i64 1) ∧ w = w' := by
  have A := hidden hmk
  have c3 : w.cell? ⟨g, 3, none⟩ = some (.slice qa m qc) := blk_cell hb
  clear hb hmk
  go_enter Try.func28, Try.ntmps28
  go_wp2_with (go_at_call 52; refine (A.out).mono ?_; rintro e w1 ⟨rfl, rfl⟩)
  go_returns
  exact ⟨rfl, rfl⟩
/-- What a Crash with places that may be leaves. -/
structure CrY (B n c g pb pc rb rc M : Nat) (ks : List Int) (ps : List Value) (w w' : World) : Prop where
  ex : ∃ ps', WD B n c g pb pc rb rc 0 M ps' w' ∧ (ks = [] → ps' = ps)
  kt : KT B w w'
theorem wd_crashYes {B n c g pb pc rb rc m M : Nat} {ps : List Value} {w : World} (h : WD B n c g pb pc rb rc m M ps w) (hM : M ≤ 4398046511104) (kv : Value) (ks : List Int) (hk : Ints w kv ks) (hkb : ∀ a k c, kv = .slice (some a) k c → 0 < k → a.block < B) (hl : ks.length ≤ 140737488355328) (hy : mayB m 0 ks = true) :
    Calls Try.prog 28 #[.pointer (some ⟨g, 0, none⟩), kv] w fun e w' => e = .returned (.int .i64 0) ∧ CrY B n c g pb pc rb rc M ks ps w w' := by
  obtain ⟨qv, qs, rs, r, wn, f, h1, h2, h3, h4, h5, h6, h7, h8, h9⟩ := h.ex
  have hmM := h.mM
  have hmk := d_mayKeep kv ks m w hk hl (by omega)
  rw [hy] at hmk
  have hlp := h.lp
  refine (d_crashYes n pb c pc rb rc g m kv ks qv qs ps rs r wn f w hk (fun a k c e hk0 he => by have := hkb a k c e hk0; omega) hl h1 h7 h8 h.plat h.bytes h5 h6 h.ne (by omega) (mayB_all m ks 0 (Int.le_refl _) hy) hmk).mono ?_
  rintro e w' ⟨rfl, ⟨ys, zs, o1, o2, o3, o4, o5, o6, o7⟩⟩
  have kk : KT B w w' := KT.of o7 fun k hk hs => by
    rcases hs with rfl | rfl | rfl
    · exact kt_of h1 h.lg (by decide)
    · exact kt_row h.plat rfl h.lp (by decide)
    · exact kt_row h5 rfl h.lr (by decide)
  exact ⟨rfl, ⟨⟨ys, ⟨⟨_, [], zs, r, wn, f, o1, h2, h3, h4, o5, o6, World.ownsRow_nil _ _ _ _, fun k hk => absurd hk (by omega), fun k hk => by cases hk⟩, o2, o3, h.ne, h.lg, h.lp, h.lr, by omega, h.hn, h.hc⟩, o4⟩, kk⟩⟩
theorem wd_crashNo {B n c g pb pc rb rc m M : Nat} {ps : List Value} {w : World} (h : WD B n c g pb pc rb rc m M ps w) (hM : M ≤ 4398046511104) (kv : Value) (ks : List Int) (hk : Ints w kv ks) (hl : ks.length ≤ 140737488355328) (hy : mayB m 0 ks = false) :
    Calls Try.prog 28 #[.pointer (some ⟨g, 0, none⟩), kv] w fun e w' => e = .returned (.int .i64 1) ∧ w = w' := by
  obtain ⟨qv, qs, rs, r, wn, f, h1, h2, h3, h4, h5, h6, h7, h8, h9⟩ := h.ex
  have hmM := h.mM
  have hmk := d_mayKeep kv ks m w hk hl (by omega)
  rw [hy] at hmk
  obtain ⟨qa, qc, rfl⟩ := own_form h7
  exact d_crashNo n pb c pc rb rc g m kv qa qc r wn f w h1 hmk
/-- The bytes of what lies on the platter. -/
theorem WD.lists {B n c g pb pc rb rc m M : Nat} {ps : List Value} {w : World} (h : WD B n c g pb pc rb rc m M ps w) : ∃ pl : List (List UInt8), pl.length = c ∧ (∀ l ∈ pl, l.length = n) ∧ ∀ i (h : i < ps.length) (h' : i < pl.length), Own w ps[i] pl[i] 0 := by
  have hl : ps.length = c := by simpa using h.plat.1
  have hb := h.bytes
  clear h
  subst hl
  induction ps with
  | nil => exact ⟨[], rfl, (fun l hl => by cases hl), (fun i hi => absurd hi (by simp))⟩
  | cons x t ih =>
    obtain ⟨pl, a, b, d⟩ := ih (fun u hu => hb u (List.mem_cons_of_mem _ hu))
    obtain ⟨l, o, hn⟩ := hb x (List.mem_cons_self ..)
    refine ⟨l :: pl, by simp [a], ?_, ?_⟩
    · intro y hy
      rcases List.mem_cons.1 hy with rfl | hy
      · exact hn
      · exact b y hy
    · intro i hi hi'
      match i with
      | 0 => exact o
      | i + 1 => exact d i (by simpa using hi) (by simpa using hi')
theorem wd_image {B n c g pb pc rb rc m M : Nat} {ps : List Value} {w : World} (h : WD B n c g pb pc rb rc m M ps w) (h0 : 1 ≤ n) (pl : List (List UInt8)) (hpl : pl.length = c) (hln : ∀ l ∈ pl, l.length = n) (hO : ∀ i (h : i < ps.length) (h' : i < pl.length), Own w ps[i] pl[i] 0) :
    Calls Try.prog 15 #[.pointer (some ⟨g, 0, none⟩)] w fun e w' => ∃ u, e = .returned u ∧ Own w' u pl.flatten w.heap.size ∧ Same w w' := by
  obtain ⟨qv, qs, rs, r, wn, f, h1, _⟩ := h.ex
  exact d_image n pb c pc rb rc g qv r wn f ps pl w h.hn h0 h.hc h1 h.plat hpl hln hO
set_option maxHeartbeats 1000000 in
set_option maxRecDepth 100000 in
theorem d_newNo (n c : Int) (w : World) (h : ¬ (JSize n ∧ 1 ≤ c ∧ c ≤ 4096)) :
    Calls Try.prog 12 #[.int .i64 n, .int .i64 c] w fun e w' => e = .returned (.tuple #[.pointer none, .int .i64 1]) ∧ w = w' := by
  have hs := hidden (fun w => d_maySize n w)
  have hn := hidden (fun w => d_mayCount c w)
  by_cases h1 : JSize n
  · have h2 : ¬ (1 ≤ c ∧ c ≤ 4096) := fun h2 => h ⟨h1, h2⟩
    rw [decide_eq_true h1] at hs
    rw [decide_eq_false h2] at hn
    clear h h1 h2
    go_enter Try.func12, Try.ntmps12
    go_wp2_with (first
      | (go_at_call 34; refine (hs.out _).mono ?_; rintro e w1 ⟨rfl, rfl⟩)
      | (go_at_call 35; refine (hn.out _).mono ?_; rintro e w1 ⟨rfl, rfl⟩))
    go_returns
    exact ⟨rfl, rfl⟩
  · rw [decide_eq_false h1] at hs
    clear h h1
    go_enter Try.func12, Try.ntmps12
    go_wp2_with (first
      | (go_at_call 34; refine (hs.out _).mono ?_; rintro e w1 ⟨rfl, rfl⟩)
      | (go_at_call 35; refine (hn.out _).mono ?_; rintro e w1 ⟨rfl, rfl⟩))
    go_returns
    exact ⟨rfl, rfl⟩
/-- New gives a Disk that is told so. -/
theorem Made.wd {n c g : Nat} {w w' : World} (h : Made n c g w w') (hn : n ≤ 4096) (hc : c ≤ 4096) : ∃ pb rb rc ps, WD w.heap.size n c g pb c rb rc 0 0 ps w' ∧ Same w w' := by
  obtain ⟨pb, rb, rc, z, b, p, r, lg, lp, lr, lpr, k, o⟩ := h.ex
  have hzn : NB n w' z := ⟨_, o, by simp⟩
  exact ⟨pb, rb, rc, _, ⟨⟨_, [], _, 0, 0, 0, b, Nat.le_refl _, Nat.le_refl _, Nat.le_refl _, r, (fun u hu => by rw [List.eq_of_mem_replicate hu]; exact hzn), World.ownsRow_nil _ _ _ _, (fun k hk => absurd hk (by omega)), (fun k hk => by cases hk)⟩, p, (fun u hu => by rw [List.eq_of_mem_replicate hu]; exact hzn), lpr, lg, lp, lr, Nat.le_refl _, hn, hc⟩, k⟩
end Go.Proofs.Yteoajgphahobiaa
