/- seq's heads: cmp.Or of two, before. -/
import Derived.Test.YtelngbkbdihdnaaItBe
namespace Go.Proofs.Ytelngbkbdihdnaa
open Go.RowKit
set_option linter.unusedVariables false
set_option maxHeartbeats 1000000 in
set_option maxRecDepth 100000 in
theorem or_two (b cap : Nat) (x y : Int) (w : World) (c0 : w.cell? ⟨b, 0, none⟩ = some (.int .i64 x)) (c1 : w.cell? ⟨b, 1, none⟩ = some (.int .i64 y)) :
    Calls Try.prog 82 #[.slice (some ⟨b, 0, none⟩) 2 cap] w fun e w' => e = .returned (.int .i64 (if x = 0 then y else x)) ∧ w = w' := by
  obtain ⟨r, hr⟩ : ∃ r, (if x = 0 then y else x) = r := ⟨_, rfl⟩
  rw [hr]
  have HR := hidden hr
  clear hr
  go_enter Try.func82, Try.ntmps82
  go_wp2
  go_loopw [8] (fun iv wr => ∃ (i : Nat), i ≤ 2 ∧ iv = .int .i64 i ∧ (0 < i → x = 0) ∧ (1 < i → y = 0) ∧ w = wr) (fun iv wr => 2 - (intOf iv).toNat)
  case atStart => exact ⟨0, by omega, rfl, fun h => by omega, fun h => by omega, rfl⟩
  case round =>
    obtain ⟨i, hi, rfl, hx, hy, rfl⟩ := hrel
    rcases (show i = 0 ∨ i = 1 ∨ i = 2 by omega) with rfl | rfl | rfl
    · by_cases h : x = 0
      · subst h
        clear hx hy
        go_wp2
        go_roundw
        case rel => exact ⟨1, by omega, by go_num, by simp⟩
        case measure => simp [intOf]
      · clear hx hy
        go_wp2
        go_returns
        exact ⟨by have h9 := HR.out; simp [h] at h9; rw [← h9]; rfl, rfl⟩
    · have h0 := hx (by omega)
      subst h0
      by_cases h : y = 0
      · subst h
        clear hx hy
        go_wp2
        go_roundw
        case rel => exact ⟨2, by omega, by go_num, by simp⟩
        case measure => simp [intOf]
      · clear hx hy
        go_wp2
        go_returns
        exact ⟨by have h9 := HR.out; simp at h9; rw [← h9]; rfl, rfl⟩
    · have h0 := hx (by omega)
      have h1 := hy (by omega)
      subst h0 h1
      clear hx hy
      go_wp2
      go_returns
      exact ⟨by have h9 := HR.out; simp at h9; rw [← h9]; rfl, rfl⟩
/-- A list's head, by its first key and its place. -/
structure Hd where
  v : Value
  k : ByteArray
  p : Nat
def ltH (a b : Hd) : Bool := ltS a.k b.k || (!ltS b.k a.k && decide (a.p < b.p))
theorem ordH : Ord ltH := by
  refine ⟨fun a b h => ?_, fun a b c h1 h2 => ?_⟩
  · unfold ltH at *
    cases e1 : ltS a.k b.k
    · rw [e1] at h
      simp only [Bool.false_or, Bool.and_eq_true, Bool.not_eq_true', decide_eq_true_eq] at h
      rw [h.1]
      simp
      omega
    · rw [ordS.as _ _ e1]
      simp
  · unfold ltH at *
    simp only [Bool.or_eq_false_iff, Bool.and_eq_false_iff, Bool.not_eq_false', decide_eq_false_iff_not] at *
    refine ⟨ordS.tr _ _ _ h1.1 h2.1, ?_⟩
    cases e : ltS a.k c.k
    · right
      have e1 : ltS a.k b.k = false := by
        exact ordS.tr _ _ _ h2.1 e
      have e2 : ltS b.k c.k = false := ordS.tr _ _ _ e h1.1
      rcases h1.2 with h | h
      · rw [e1] at h; cases h
      · rcases h2.2 with h' | h'
        · rw [e2] at h'; cases h'
        · omega
    · exact Or.inl rfl
abbrev kH (h : Hd) : Value := .agg #[h.v, .int .i64 (h.p : Int)]
/-- A head in memory: its first item's key. -/
def HdAt (w : World) (h : Hd) : Prop := ∃ b off n c, h.v = .slice (some ⟨b, off, none⟩) n c ∧ 0 < n ∧ w.cell? ⟨b, off, none⟩ = some (.string h.k)
theorem HdAt.same {w w' : World} {h : Hd} (hh : HdAt w h) (k : Same w w') : HdAt w' h := let ⟨b, off, n, c, e, hn, hc⟩ := hh; ⟨b, off, n, c, e, hn, Kept.cell k (fun h => h) hc⟩
theorem HdAt.kept {S : Nat → Prop} {w w' : World} {h : Hd} (hh : HdAt w h) (k : Kept S w w') (hs : ∀ b, h.v.ownBlock = some b → ¬ S b) : HdAt w' h := by
  obtain ⟨b, off, n, c, e, hn, hc⟩ := hh
  exact ⟨b, off, n, c, e, hn, Kept.cell k (hs b (by rw [e]; rfl)) hc⟩
set_option maxHeartbeats 1000000 in
set_option maxRecDepth 100000 in
theorem before_any (x y : Hd) (w : World) (hx : HdAt w x) (hy : HdAt w y) (hp : x.p ≤ 1073741824) (hq : y.p ≤ 1073741824) :
    Calls Try.prog 63 #[kH x, kH y] w fun e w' => e = .returned (.bool (ltH x y)) ∧ Same w w' := by
  obtain ⟨xv, xk, xp⟩ := x
  obtain ⟨yv, yk, yp⟩ := y
  obtain ⟨b1, o1, n1, c1, rfl, hn1, hc1⟩ := hx
  obtain ⟨b2, o2, n2, c2, rfl, hn2, hc2⟩ := hy
  have HC : Hid (∀ W, Calls Try.prog 72 #[.string xk, .string yk] W fun e w' => e = .returned (.int .i64 (if ltS xk yk then -1 else if ltS yk xk then 1 else 0)) ∧ W = w') := fun W => cmp_str xk yk W
  obtain ⟨cr, hcr⟩ : ∃ cr : Int, cr = (if ltS xk yk then -1 else if ltS yk xk then 1 else 0) := ⟨_, rfl⟩
  rw [← hcr] at HC
  have HCR := hidden hcr
  have hwr : IntKind.i64.wrap ((xp : Int) - (yp : Int)) = (xp : Int) - (yp : Int) := by dsimp only at hp hq; rw [IntKind.wrap_i64]; omega
  have HO : Hid (∀ b cap W, W.cell? ⟨b, 0, none⟩ = some (.int .i64 cr) → W.cell? ⟨b, 1, none⟩ = some (.int .i64 ((xp : Int) - (yp : Int))) → Calls Try.prog 82 #[.slice (some ⟨b, 0, none⟩) 2 cap] W fun e w' => e = .returned (.int .i64 (if cr = 0 then (xp : Int) - yp else cr)) ∧ W = w') := fun b cap W => or_two b cap _ _ W
  obtain ⟨r, hr⟩ : ∃ r, r = (if cr = 0 then (xp : Int) - yp else cr) := ⟨_, rfl⟩
  rw [← hr] at HO
  have HRR := hidden hr
  clear hr
  dsimp only at hp hq hc1 hc2
  clear hcr
  obtain ⟨w1, hw1⟩ : ∃ W, W = w.alloc (.cells #[.slice (some ⟨b1, o1, none⟩) n1 c1, .int .i64 (xp : Int)] 103) := ⟨_, rfl⟩
  obtain ⟨w2, hw2⟩ : ∃ W, W = w1.alloc (.cells #[.slice (some ⟨b2, o2, none⟩) n2 c2, .int .i64 (yp : Int)] 103) := ⟨_, rfl⟩
  have k1 : Same w w1 := by rw [hw1]; exact same_alloc _ _
  have k2 : Same w1 w2 := by rw [hw2]; exact same_alloc _ _
  have s1 : w1.heap.size = w.heap.size + 1 := by rw [hw1]; exact alloc_size1 _ _
  have g1 := heap_alloc_new w (.cells #[.slice (some ⟨b1, o1, none⟩) n1 c1, .int .i64 (xp : Int)] 103)
  rw [← hw1] at g1
  have g1' := blk_kept k2 (fun h => h) g1
  have g2 := heap_alloc_new w1 (.cells #[.slice (some ⟨b2, o2, none⟩) n2 c2, .int .i64 (yp : Int)] 103)
  rw [← hw2] at g2
  rw [s1] at g2
  have d0 : w2.cell? ⟨w.heap.size, 0, none⟩ = some (.slice (some ⟨b1, o1, none⟩) n1 c1) := blk_cell g1'
  have d1 : w2.cell? ⟨w.heap.size, 1, none⟩ = some (.int .i64 (xp : Int)) := blk_cell g1'
  have d2 : w2.cell? ⟨w.heap.size + 1, 0, none⟩ = some (.slice (some ⟨b2, o2, none⟩) n2 c2) := blk_cell g2
  have d3 : w2.cell? ⟨w.heap.size + 1, 1, none⟩ = some (.int .i64 (yp : Int)) := blk_cell g2
  have d4 : w2.cell? ⟨b1, o1, none⟩ = some (.string xk) := Kept.cell (k1.trans k2) (fun h => h) hc1
  have d5 : w2.cell? ⟨b2, o2, none⟩ = some (.string yk) := Kept.cell (k1.trans k2) (fun h => h) hc2
  have K2 := hidden (k1.trans k2)
  have q1 : (0 : Int) < (n1 : Int) := by omega
  have q2 : (0 : Int) < (n2 : Int) := by omega
  clear g1 g1' g2 k1 k2 hc1 hc2
  go_enter Try.func63, Try.ntmps63
  go_wp2
  rw [← hw1, ← hw2]
  clear hw1 hw2 s1
  go_region_held3 (fun w' => w'.cell? ⟨w.heap.size, 0, none⟩ = some (.slice (some ⟨b1, o1, none⟩) n1 c1) ∧ w'.cell? ⟨w.heap.size, 1, none⟩ = some (.int .i64 (xp : Int)) ∧ w'.cell? ⟨w.heap.size + 1, 0, none⟩ = some (.slice (some ⟨b2, o2, none⟩) n2 c2) ∧ w'.cell? ⟨w.heap.size + 1, 1, none⟩ = some (.int .i64 (yp : Int)) ∧ w'.cell? ⟨b1, o1, none⟩ = some (.string xk) ∧ w'.cell? ⟨b2, o2, none⟩ = some (.string yk)) (go_keep) (first
    | (go_at_call 72; go_must (refine (HC.out _).mono ?_; rintro e w3 ⟨rfl, rfl⟩))
    | (go_at_call 82; go_must (refine (HO.out _ _ _ (by simp) (by simp)).mono ?_; rintro e w3 ⟨rfl, rfl⟩)))
  go_wp2
  go_returns
  refine ⟨?_, ?_⟩
  · have h9 : decide (r < 0) = ltH ⟨.slice (some ⟨b1, o1, none⟩) n1 c1, xk, xp⟩ ⟨.slice (some ⟨b2, o2, none⟩) n2 c2, yk, yp⟩ := by
      rw [HRR.out, HCR.out]
      unfold ltH
      cases h1 : ltS xk yk
      · cases h2 : ltS yk xk
        · simp
          omega
        · simp
      · simp
    rw [← h9]
    first | rfl | simp
  · first | exact K2.out.trans (((Kept.refl _ _).alloc _).drew) | skip
end Go.Proofs.Ytelngbkbdihdnaa
