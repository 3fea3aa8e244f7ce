/- disk's Flush: what is on the platter behind it. -/
import Derived.Test.YteoajgphahobiaaE1
namespace Go.Proofs.Yteoajgphahobiaa
open Go.RowKit
set_option linter.unusedVariables false
theorem NB.row {n B1 s c pb pc : Nat} {w w' : World} {u : Value} {ys : List Value} (h : NB n w u) (ho : w.ownsRow B1 22 s (.slice (some ⟨pb, 0, none⟩) c pc) c ys) (k : Kept (fun x => x = pb) w w') : NB n w' u := by
  obtain ⟨l, a, b⟩ := h
  exact ⟨l, a.kept k (fun i cs _ hb e => own_apart ho hb (by decide) (by rw [e]; rfl)), b⟩
structure Flushed (n pb c pc rb rc g m : Nat) (xs : List Value) (r wn f : Nat) (w w' : World) : Prop where
  ex : ∃ ys, w'.heap[g]? = some (.cells (DC n pb c pc rb rc (.slice none 0 0) r wn (f + 1)) 74 (0, 0)) ∧ w'.ownsRow 0 22 1 (.slice (some ⟨pb, 0, none⟩) c pc) c ys ∧ (∀ u ∈ ys, NB n w' u) ∧ (m = 0 → ys = xs) ∧ Kept (fun k => k = g ∨ k = pb) w w'
set_option maxHeartbeats 1000000 in
set_option maxRecDepth 100000 in
theorem d_flush2 (n pb c pc rb rc g m : Nat) (qv : Value) (qs xs : List Value) (r wn f : Nat) (w : World)
    (hb : w.heap[g]? = some (.cells (DC n pb c pc rb rc qv r wn f) 74 (0, 0))) (hq : w.ownsRow 0 58 2 qv m qs)
    (hN : QOk n c m qs w) (hp : w.ownsRow 0 22 1 (.slice (some ⟨pb, 0, none⟩) c pc) c xs) (hx : ∀ u ∈ xs, NB n w u) (hm : m ≤ 4398046511104) (hf : f ≤ 4398046511104) :
    Calls Try.prog 25 #[.pointer (some ⟨g, 0, none⟩)] w fun e w' => e = .returned (.int .i64 m) ∧ Flushed n pb c pc rb rc g m xs r wn f w w' := by
  obtain ⟨qa, qc, rfl⟩ := own_form hq
  have c3 : w.cell? ⟨g, 3, none⟩ = some (.slice qa m qc) := blk_cell hb
  have c4 : w.cell? ⟨g, 4, none⟩ = some (.bool false) := blk_cell hb
  have B := hidden (d_spend g w c4)
  have HB := hidden hb
  have HQ := hidden hq
  have HN := hidden hN
  have HP := hidden hp
  have HX := hidden hx
  have hne : pb ≠ g := fun e => own_apart hp hb (by decide) (by rw [← e]; rfl)
  have hne2 : g ≠ pb := hne.symm
  have hqp := own_rows hq hp (by decide)
  clear hb hq hN hp hx
  go_enter Try.func25, Try.ntmps25
  go_wp2_with (first
    | (go_at_call 44; refine (B.out).mono ?_; rintro e w1 ⟨rfl, rfl⟩))
  go_loopw [24] (fun i wr => ∃ k : Nat, k ≤ m ∧ i = .int .i64 k ∧ (∃ ys, wr.ownsRow 0 22 1 (.slice (some ⟨pb, 0, none⟩) c pc) c ys ∧ (∀ u ∈ ys, NB n wr u) ∧ (k = 0 → ys = xs)) ∧ Kept (fun x => x = pb) w wr) (fun i wr => m - (intOf i).toNat)
  case atStart => exact ⟨0, Nat.zero_le _, rfl, ⟨xs, HP.out, HX.out, fun _ => rfl⟩, Kept.refl _ _⟩
  case round =>
    obtain ⟨k, hk, rfl, ⟨ys, hy, hyn, hy0⟩, hK⟩ := hrel
    have hb := blk_kept hK (fun e => hne2 e) HB.out
    have d1 : wr.cell? ⟨g, 1, none⟩ = some (.slice (some ⟨pb, 0, none⟩) c pc) := blk_cell hb
    have d3 : wr.cell? ⟨g, 3, none⟩ = some (.slice qa m qc) := blk_cell hb
    have d8 : wr.cell? ⟨g, 8, none⟩ = some (.int .i64 f) := blk_cell hb
    have f3 : wr.frozen? ⟨g, 3, none⟩ = false := blk_free hb
    have f8 : wr.frozen? ⟨g, 8, none⟩ = false := blk_free hb
    have HB1 := hidden hb
    have HK := hidden hK
    have HY := hidden hy
    have HYN := hidden hyn
    have HY0 := hidden hy0
    clear hb hK hyn hy0
    by_cases hlt : k < m
    · obtain ⟨N, u, n1, n2, n3, n4⟩ := HN.out k hlt
      have U1 := hidden n4
      obtain ⟨a, y, rfl⟩ := n4.form
      obtain ⟨gq, rfl⟩ : ∃ gq : Nat, qa = some ⟨gq, 0, none⟩ := by
        rcases HQ.out.2 with ⟨_, h⟩ | ⟨gq, cap, cur, h, _⟩
        · omega
        · exact ⟨gq, by simpa using (Value.slice.inj h).1⟩
      have hqp2 : gq ≠ pb := fun e => by
        rcases hqp with h | h
        · cases h
        · exact h (by rw [e]; rfl)
      have hqr := own_kept HQ.out HK.out (fun i hi e => by simp [Value.ownBlock] at hi; omega)
      have z1 := hqr.cells (g := gq) rfl (k * 2) _ n1
      have z2 := hqr.cells (g := gq) rfl (k * 2 + 1) _ n2
      rw [add_none, Nat.zero_add] at z1 z2
      have hyl : ys.length = c := by simpa using hy.1
      obtain ⟨p, hp⟩ : ∃ p, ys[N]? = some p := ⟨ys[N]'(by omega), List.getElem?_eq_getElem (by omega)⟩
      obtain ⟨p1, p2⟩ := own_cell hy p hp
      have q0 : (0 : Int) ≤ (k : Int) := Int.natCast_nonneg _
      have q1 : (k : Int) < (m : Int) := by omega
      have q2 : (0 : Int) ≤ (N : Int) := Int.natCast_nonneg _
      have q3 : (N : Int) < (c : Int) := by omega
      have hp1 : ∀ o, (wr.alloc o).cell? ⟨pb, N, none⟩ = some p := fun o => (Kept.cell (same_alloc wr o) (fun h => h) p1)
      have hp2 : ∀ o, (wr.alloc o).frozen? ⟨pb, N, none⟩ = false := fun o => (own_cell (hy.alloc o) p hp).2
      have hne6 : pb ≠ wr.heap.size := Nat.ne_of_lt (World.block_lt_of_cell? wr _ p1)
      have hne7 : wr.heap.size ≠ pb := hne6.symm
      have hne3 := World.new_ne wr _ p1
      have hne4 := World.new_ne wr _ d1
      have hne5 := World.new_ne wr _ z1
      clear hqr hy hp n1 n2 n4 hqp
      go_wp2
      go_region_held3 (fun w' => w'.cell? ⟨g, 1, none⟩ = some (.slice (some ⟨pb, 0, none⟩) c pc) ∧ w'.cell? ⟨wr.heap.size, 0, none⟩ = some (.int .i64 N) ∧ w'.cell? ⟨wr.heap.size, 1, none⟩ = some (.slice a n y)) (go_keep) (fail)
      all_goals
        go_wp2
        go_roundw
        case rel =>
          have KW : Kept (fun x => x = pb) wr (((wr.alloc (.cells #[.int .i64 (N : Int), .slice a n y] 58)).drew).setCell ⟨pb, N, none⟩ (.slice a n y)) := ((Kept.refl (fun x => x = pb) wr).alloc _).drew.setCell (p := ⟨pb, N, none⟩) rfl _
          refine ⟨k + 1, by omega, by go_num, ⟨_, own_set (ownsRow_drew (HY.out.alloc _)) n3 _, fun x hx => ?_, fun h => by omega⟩, (HK.out.alloc _).drew.setCell (p := ⟨pb, N, none⟩) rfl _⟩
          rcases List.mem_or_eq_of_mem_set hx with hx | rfl
          · exact (HYN.out x hx).row HY.out KW
          · exact (U1.out.row HP.out HK.out).row HY.out KW
        case measure => simp [intOf]; omega
    · have q1 : ¬ (k : Int) < (m : Int) := by omega
      go_wp2
      go_returns
      have KW : Kept (fun x => x = g) wr ((wr.setCell ⟨g, 3, none⟩ (.slice none 0 0)).setCell ⟨g, 8, none⟩ (.int .i64 ((f : Int) + 1))) := ((Kept.refl (fun x => x = g) wr).setCell (p := ⟨g, 3, none⟩) rfl _).setCell (p := ⟨g, 8, none⟩) rfl _
      refine ⟨rfl, ⟨ys, ?_, own_kept HY.out KW (fun i hi e => by simp [Value.ownBlock] at hi; omega), fun u hu => ?_, fun h => HY0.out (by omega), ((HK.out.mono (T := fun k => k = g ∨ k = pb) (fun _ _ h => Or.inr h)).setCell (p := ⟨g, 3, none⟩) (Or.inl rfl) _).setCell (p := ⟨g, 8, none⟩) (Or.inl rfl) _⟩⟩
      · exact blk_set (j := 8) (blk_set (j := 3) HB1.out _) _
      · obtain ⟨l, a, b⟩ := HYN.out u hu
        exact ⟨l, a.kept KW (fun i cs _ hb e => by rw [e, HB1.out] at hb; simp at hb), b⟩
theorem wd_flush {B n c g pb pc rb rc m M : Nat} {ps : List Value} {w : World} (h : WD B n c g pb pc rb rc m M ps w) (hM : M ≤ 4398046511102) :
    Calls Try.prog 25 #[.pointer (some ⟨g, 0, none⟩)] w fun e w' => e = .returned (.int .i64 m) ∧ (∃ ps', WD B n c g pb pc rb rc 0 (M + 1) ps' w' ∧ (m = 0 → ps' = ps)) ∧ KT B w w' := by
  obtain ⟨qv, qs, rs, r, wn, f, h1, h2, h3, h4, h5, h6, h7, h8, h9⟩ := h.ex
  have hmM := h.mM
  refine (d_flush2 n pb c pc rb rc g m qv qs ps r wn f w h1 h7 h8 h.plat h.bytes (by omega) (by omega)).mono ?_
  rintro e w' ⟨rfl, ⟨ys, o1, o2, o3, o4, o5⟩⟩
  have kk : KT B w w' := KT.of o5 fun k hk hs => by
    rcases hs with rfl | rfl
    · exact kt_of h1 h.lg (by decide)
    · exact kt_row h.plat rfl h.lp (by decide)
  have hrg : rb ≠ g := fun e => own_apart h5 h1 (by decide) (by rw [← e]; rfl)
  refine ⟨rfl, ⟨ys, ⟨⟨_, [], rs, r, wn, f + 1, o1, by omega, by omega, by omega, own_kept h5 o5 ?_, fun u hu => (h6 u hu).kt kk, World.ownsRow_nil _ _ _ _, fun k hk => absurd hk (by omega), fun k hk => by cases hk⟩, o2, o3, h.ne, h.lg, h.lp, h.lr, by omega, h.hn, h.hc⟩, o4⟩, kk⟩
  intro k hk hs
  simp [Value.ownBlock] at hk
  subst hk
  rcases hs with hs | hs
  · exact hrg hs
  · exact h.ne hs.symm
end Go.Proofs.Yteoajgphahobiaa
