/- Two Disks that lie apart; sameInts of equal numbers; sameBytes of whatever bytes. -/
import Derived.Test.YteoajgphahobiaaY6
import Derived.Test.YteoajgphahobiaaE6
namespace Go.Proofs.Yteoajgphahobiaa
open Go.RowKit
set_option linter.unusedVariables false
theorem YD.weak {B B' n c g pb pc rb rc : Nat} {s : St} {w : World} (h : YD B n c g pb pc rb rc s w) (hB : B' ≤ B) : YD B' n c g pb pc rb rc s w := by
  obtain ⟨qv, qs, ps, rs, h1, h5, h6, h7, h8, h9, h10, h11, h12, h13⟩ := h.ex
  exact ⟨⟨qv, qs, ps, rs, h1, h5, h6, h7, h8, h9, h10, (fun k hk => Nat.le_trans hB (h11 k hk)), h12, h13⟩, h.ok, h.ne, Nat.le_trans hB h.lg, Nat.le_trans hB h.lp, Nat.le_trans hB h.lr, h.n1, h.hn, h.c1, h.hc⟩
theorem YD.lt {B n c g pb pc rb rc : Nat} {s : St} {w : World} (h : YD B n c g pb pc rb rc s w) : g < w.heap.size ∧ pb < w.heap.size ∧ rb < w.heap.size ∧ ∀ k, rowOf w g 3 = some k → k < w.heap.size := by
  obtain ⟨qv, qs, ps, rs, h1, h5, h6, h7, h8, h9, h10, h11, h12, h13⟩ := h.ex
  exact ⟨blk_lt h1, (h5.lt pb rfl).2, (h7.lt rb rfl).2, fun k hk => by rw [rowOf_dp h1] at hk; exact (h9.lt k hk).2⟩
/-- The blocks of two Disks lie apart. -/
structure Ap (g1 pb1 rb1 g2 pb2 rb2 : Nat) (w : World) : Prop where
  gg : g1 ≠ g2
  pp : pb1 ≠ pb2
  pr : pb1 ≠ rb2
  rp : rb1 ≠ pb2
  rr : rb1 ≠ rb2
  qq : ∀ k, rowOf w g1 3 = some k → rowOf w g2 3 ≠ some k
theorem Ap.symm {g1 pb1 rb1 g2 pb2 rb2 : Nat} {w : World} (h : Ap g1 pb1 rb1 g2 pb2 rb2 w) : Ap g2 pb2 rb2 g1 pb1 rb1 w :=
  ⟨h.gg.symm, h.pp.symm, h.rp.symm, h.pr.symm, h.rr.symm, fun k a b => h.qq k b a⟩
/-- What one Disk may write is not the other's. -/
theorem Ap.out {B1 B2 n1 c1 n2 c2 g1 pb1 pc1 rb1 rc1 g2 pb2 pc2 rb2 rc2 : Nat} {s1 s2 : St} {w : World} (h : Ap g1 pb1 rb1 g2 pb2 rb2 w) (a : YD B1 n1 c1 g1 pb1 pc1 rb1 rc1 s1 w) (b : YD B2 n2 c2 g2 pb2 pc2 rb2 rc2 s2 w) :
    ¬ dS g1 pb1 rb1 w g2 ∧ ¬ dS g1 pb1 rb1 w pb2 ∧ ¬ dS g1 pb1 rb1 w rb2 ∧ ∀ k, rowOf w g2 3 = some k → ¬ dS g1 pb1 rb1 w k := by
  obtain ⟨qv, qs, ps, rs, h1, h5, h6, h7, h8, h9, h10, h11, h12, h13⟩ := a.ex
  obtain ⟨qv2, qs2, ps2, rs2, i1, i5, i6, i7, i8, i9, i10, i11, i12, i13⟩ := b.ex
  refine ⟨?_, ?_, ?_, ?_⟩
  · rintro (e | e | e | e)
    · exact h.gg e.symm
    · exact own_apart h5 i1 (by decide) (by rw [e]; rfl)
    · exact own_apart h7 i1 (by decide) (by rw [e]; rfl)
    · rw [rowOf_dp h1] at e; exact own_apart h9 i1 (by decide) e
  · rintro (e | e | e | e)
    · exact own_apart i5 h1 (by decide) (by rw [← e]; rfl)
    · exact h.pp e.symm
    · exact h.rp e.symm
    · rw [rowOf_dp h1] at e
      rcases own_rows i5 h9 (by decide) with hx | hx
      · cases hx
      · exact hx (by rw [e]; rfl)
  · rintro (e | e | e | e)
    · exact own_apart i7 h1 (by decide) (by rw [← e]; rfl)
    · exact h.pr e.symm
    · exact h.rr e.symm
    · rw [rowOf_dp h1] at e
      rcases own_rows i7 h9 (by decide) with hx | hx
      · cases hx
      · exact hx (by rw [e]; rfl)
  · intro k hk
    have hk2 := hk
    rw [rowOf_dp i1] at hk2
    rintro (e | e | e | e)
    · exact own_apart i9 h1 (by decide) (by rw [hk2, e])
    · rcases own_rows i9 h5 (by decide) with hx | hx
      · rw [hk2] at hx; cases hx
      · exact hx (by rw [hk2, e]; rfl)
    · rcases own_rows i9 h7 (by decide) with hx | hx
      · rw [hk2] at hx; cases hx
      · exact hx (by rw [hk2, e]; rfl)
    · exact h.qq k e hk
theorem YD.kept {B n c g pb pc rb rc C : Nat} {s : St} {w w' : World} {S : Nat → Prop} (h : YD B n c g pb pc rb rc s w) (k : Kept S w w') (kt : KT C w w') (hg : ¬ S g) (hp : ¬ S pb) (hr : ¬ S rb) (hq : ∀ i, rowOf w g 3 = some i → ¬ S i) : YD B n c g pb pc rb rc s w' := by
  obtain ⟨qv, qs, ps, rs, h1, h5, h6, h7, h8, h9, h10, h11, h12, h13⟩ := h.ex
  have kk : ∀ u l, Own w u l 0 → Own w' u l 0 := fun u l o => o.kt kt
  exact ⟨⟨qv, qs, ps, rs, blk_kept k hg h1, own_kept h5 k (fun i hi => by simp [Value.ownBlock] at hi; subst hi; exact hp), h6.kept kk, own_kept h7 k (fun i hi => by simp [Value.ownBlock] at hi; subst hi; exact hr), h8.kept kk, own_kept h9 k (fun i hi => hq i (by rw [rowOf_dp h1]; exact hi)), h10.kept kk, h11, h12, h13⟩, h.ok, h.ne, h.lg, h.lp, h.lr, h.n1, h.hn, h.c1, h.hc⟩
theorem YD.other {B1 B2 C n1 c1 n2 c2 g1 pb1 pc1 rb1 rc1 g2 pb2 pc2 rb2 rc2 : Nat} {s1 s2 : St} {w w' : World} (b : YD B2 n2 c2 g2 pb2 pc2 rb2 rc2 s2 w) (a : YD B1 n1 c1 g1 pb1 pc1 rb1 rc1 s1 w) (h : Ap g1 pb1 rb1 g2 pb2 rb2 w) (k : KT C w w') (d : DF g1 pb1 rb1 w w') :
    YD B2 n2 c2 g2 pb2 pc2 rb2 rc2 s2 w' ∧ Ap g1 pb1 rb1 g2 pb2 rb2 w' := by
  obtain ⟨x1, x2, x3, x4⟩ := h.out a b
  have hb := b.kept d.kept k x1 x2 x3 x4
  refine ⟨hb, h.gg, h.pp, h.pr, h.rp, h.rr, fun i h1 h2 => ?_⟩
  have e : rowOf w' g2 3 = rowOf w g2 3 := by
    unfold rowOf
    rw [World.cell?_of_block (d.kept.block g2 b.lt.1 x1)]
  rw [e] at h2
  have := b.lt.2.2.2 i h2
  exact h.qq i (d.row i this h1) h2
theorem Ints.same' {w w' : World} {v : Value} {l : List Int} (h : Ints w v l) (k : Same w w') : Ints w' v l := by
  rcases h with h | ⟨a, cap, e, hc⟩
  · exact Or.inl h
  · exact Or.inr ⟨a, cap, e, fun j hj => Kept.cell k (fun h => h) (hc j hj)⟩
set_option maxHeartbeats 1000000 in
set_option maxRecDepth 100000 in
theorem sameInts_eq (x y : Value) (a : List Int) (w : World) (hx : Ints w x a) (hy : Ints w y a) (ha : a.length ≤ 140737488355328) : Calls Try.prog 31 #[x, y] w fun e w' => e = .returned (.bool true) ∧ Same w w' := by
  obtain ⟨a1, c1, rfl⟩ := hx.form
  obtain ⟨a2, c2, rfl⟩ := hy.form
  have HX := hidden hx
  have HY := hidden hy
  clear hx hy
  go_enter Try.func31, Try.ntmps31
  go_wp2
  go_loopw [5] (fun i wr => ∃ k : Nat, k ≤ a.length ∧ i = .int .i64 k ∧ Same w wr) (fun i wr => a.length - (intOf i).toNat)
  case atStart => exact ⟨0, Nat.zero_le _, rfl, Kept.refl _ _⟩
  case round =>
    obtain ⟨k, hk, rfl, hK⟩ := hrel
    by_cases h1 : k < a.length
    · rcases HX.out with ⟨_, h0⟩ | ⟨b1, d1, e1, hc1⟩
      · simp [h0] at h1
      rcases HY.out with ⟨_, h0⟩ | ⟨b2, d2, e2, hc2⟩
      · simp [h0] at h1
      obtain ⟨rfl, rfl⟩ : a1 = some b1 ∧ c1 = d1 := by simpa using e1
      obtain ⟨rfl, rfl⟩ : a2 = some b2 ∧ c2 = d2 := by simpa using e2
      have q0 : (0 : Int) ≤ (k : Int) := Int.natCast_nonneg _
      have q1 : (k : Int) < (a.length : Int) := by omega
      have x1 := Kept.cell hK (fun h => h) (hc1 k h1)
      have x2 := Kept.cell hK (fun h => h) (hc2 k h1)
      generalize a[k] = z at x1 x2
      have HK := hidden hK
      clear hK hc1 hc2 e1 e2
      go_wp2
      go_quiet (fail)
      go_wp2
      go_roundw
      case rel => exact ⟨k + 1, by omega, by go_num, HK.out.drewN _⟩
      case measure => simp [intOf]; omega
    · have q1 : ¬ (k : Int) < (a.length : Int) := by omega
      go_wp2
      go_returns
      exact ⟨rfl, hK⟩
set_option maxHeartbeats 1000000 in
set_option maxRecDepth 100000 in
theorem same_any (x y : Value) (a b : List UInt8) (w : World) (hx : Byt w x a) (hy : Byt w y b) (ha : a.length ≤ 140737488355328) (hb : b.length ≤ 140737488355328) : Calls Try.prog 14 #[x, y] w fun e w' => e = .returned (.bool (decide (a = b))) ∧ Same w w' := by
  by_cases hl : a.length = b.length
  · obtain ⟨a1, c1, rfl⟩ := hx.form
    obtain ⟨a2, c2, rfl⟩ := hy.form
    have HX := hidden hx
    have HY := hidden hy
    obtain ⟨R, hR⟩ : ∃ R, decide (a = b) = R := ⟨_, rfl⟩
    rw [hR, show b.length = a.length from hl.symm]
    have HR := hidden hR
    clear hx hy hR
    go_enter Try.func14, Try.ntmps14
    go_wp2
    go_loopw [5] (fun i wr => ∃ k : Nat, k ≤ a.length ∧ i = .int .i64 k ∧ a.take k = b.take k ∧ Same w wr) (fun i wr => a.length - (intOf i).toNat)
    case atStart => exact ⟨0, Nat.zero_le _, rfl, rfl, Kept.refl _ _⟩
    case round =>
      obtain ⟨k, hk, rfl, htk, hK⟩ := hrel
      by_cases h1 : k < a.length
      · rcases HX.out with ⟨_, h0⟩ | ⟨b1, d1, e1, hc1⟩
        · simp [h0] at h1
        rcases HY.out with ⟨_, h0⟩ | ⟨b2, d2, e2, hc2⟩
        · rw [h0] at hl; simp at hl; rw [hl] at h1; simp at h1
        obtain ⟨rfl, rfl⟩ : a1 = some b1 ∧ c1 = d1 := by simpa using e1
        obtain ⟨rfl, rfl⟩ : a2 = some b2 ∧ c2 = d2 := by have := Value.slice.inj e2; exact ⟨this.1, this.2.2⟩
        have q0 : (0 : Int) ≤ (k : Int) := Int.natCast_nonneg _
        have q1 : (k : Int) < (a.length : Int) := by omega
        have hkb : k < b.length := by omega
        have x1 := Kept.cell hK (fun h => h) (hc1 k h1)
        have x2 := Kept.cell hK (fun h => h) (hc2 k hkb)
        unfold U8 at x1 x2
        have HK := hidden hK
        have HT := hidden htk
        by_cases hz : a[k] = b[k]
        · have htn : a.take (k + 1) = b.take (k + 1) := by rw [List.take_add_one, List.take_add_one, htk, List.getElem?_eq_getElem h1, List.getElem?_eq_getElem hkb, hz]
          have HTN := hidden htn
          rw [hz] at x1
          generalize ((b[k]).toNat : Int) = z at x1 x2
          clear hK hc1 hc2 e1 e2 htn htk hz
          go_wp2
          go_quiet (fail)
          go_wp2
          go_roundw
          case rel => exact ⟨k + 1, by omega, by go_num, HTN.out, HK.out.drewN _⟩
          case measure => simp [intOf]; omega
        · have hd : decide (a = b) = false := by simpa using fun e : a = b => hz (by subst e; rfl)
          have hzi : ((a[k]).toNat : Int) ≠ ((b[k]).toNat : Int) := fun e => hz (UInt8.toNat_inj.1 (by omega))
          have hzb : (((a[k]).toNat : Int) == ((b[k]).toNat : Int)) = false := by simpa using hzi
          obtain rfl : R = false := HR.out.symm.trans hd
          generalize ((a[k]).toNat : Int) = z1 at x1 hzi hzb
          generalize ((b[k]).toNat : Int) = z2 at x2 hzi hzb
          clear hK hc1 hc2 e1 e2 htk hz hd
          go_wp2
          go_quiet (fail)
          go_wp2
          go_returns
          exact ⟨rfl, HK.out.drewN _⟩
      · have q1 : ¬ (k : Int) < (a.length : Int) := by omega
        have he : a = b := by rw [List.take_of_length_le (by omega), List.take_of_length_le (by omega)] at htk; exact htk
        obtain rfl : R = true := HR.out.symm.trans (by simpa using he)
        go_wp2
        go_returns
        exact ⟨rfl, hK⟩
  · obtain ⟨a1, c1, rfl⟩ := hx.form
    obtain ⟨a2, c2, rfl⟩ := hy.form
    have hd : decide (a = b) = false := by simpa using fun e : a = b => hl (by rw [e])
    have hi : (a.length : Int) ≠ (b.length : Int) := by omega
    have hib : ((a.length : Int) == (b.length : Int)) = false := by simpa using hi
    rw [hd]
    clear hx hy
    go_enter Try.func14, Try.ntmps14
    go_wp2
    go_returns
    exact ⟨rfl, Kept.refl _ _⟩
end Go.Proofs.Yteoajgphahobiaa
