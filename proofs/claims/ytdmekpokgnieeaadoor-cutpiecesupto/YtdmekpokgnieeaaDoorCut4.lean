/- cut's Check, first and Next, walked. -/
import Derived.Test.YtdmekpokgnieeaaDoorCut3
import Derived.Test.YtdmekpokgnieeaaDoorPowP
namespace Go.Proofs.YtdmekpokgnieeaaDoor
open Go.RowKit
set_option linter.unusedVariables false
attribute [local go_sem ↓] Go.wp_at_zero Go.wp_at_succ

/-- A shape may be. -/
def CutOk (mn no mx : Int) : Prop := (16 ≤ no ∧ no ≤ 65536 ∧ Pow no) ∧ (1 ≤ mn ∧ mn ≤ no) ∧ (no ≤ mx ∧ mx ≤ 8 * no)
instance (a b c : Int) : Decidable (CutOk a b c) := by unfold CutOk; infer_instance
def cutErr (mn no mx : Int) : Int := if CutOk mn no mx then 0 else 50
theorem pow_is {n : Int} (h : Pow n) : ∃ k : Nat, 4 ≤ k ∧ k ≤ 16 ∧ n = ((2 ^ k : Nat) : Int) := by
  rcases h with rfl | rfl | rfl | rfl | rfl | rfl | rfl | rfl | rfl | rfl | rfl | rfl | rfl
  · exact ⟨4, by omega, by omega, rfl⟩
  · exact ⟨5, by omega, by omega, rfl⟩
  · exact ⟨6, by omega, by omega, rfl⟩
  · exact ⟨7, by omega, by omega, rfl⟩
  · exact ⟨8, by omega, by omega, rfl⟩
  · exact ⟨9, by omega, by omega, rfl⟩
  · exact ⟨10, by omega, by omega, rfl⟩
  · exact ⟨11, by omega, by omega, rfl⟩
  · exact ⟨12, by omega, by omega, rfl⟩
  · exact ⟨13, by omega, by omega, rfl⟩
  · exact ⟨14, by omega, by omega, rfl⟩
  · exact ⟨15, by omega, by omega, rfl⟩
  · exact ⟨16, by omega, by omega, rfl⟩
/-- A shape that may be, by plain numbers. -/
theorem CutOk.shp {mn no mx : Int} {seed : Nat} (h : CutOk mn no mx) (hs : seed < 18446744073709551616) : ∃ c : Shp, c.Ok ∧ mn = c.mn ∧ no = c.no ∧ mx = c.mx ∧ seed = c.seed := by
  obtain ⟨⟨h1, h2, h3⟩, ⟨h4, h5⟩, h6, h7⟩ := h
  obtain ⟨k, k1, k2, rfl⟩ := pow_is h3
  obtain ⟨a, rfl⟩ := Int.eq_ofNat_of_zero_le (show 0 ≤ mn by omega)
  obtain ⟨b, rfl⟩ := Int.eq_ofNat_of_zero_le (show 0 ≤ mx by omega)
  exact ⟨⟨a, 2 ^ k, b, seed, k⟩, ⟨rfl, k1, k2, by show 1 ≤ a; omega, by show a ≤ 2 ^ k; omega, by show 2 ^ k ≤ b; omega, by show b ≤ 8 * 2 ^ k; omega, hs⟩, rfl, rfl, rfl, rfl⟩
theorem told {p q : Prop} [Decidable p] [Decidable q] (h : p ↔ q) : Ending.returned (.bool (decide p)) = .returned (.bool (decide q)) := by
  rw [decide_eq_decide.2 h]
theorem told_no {q : Prop} [Decidable q] (h : ¬ q) : Ending.returned (.bool false) = .returned (.bool (decide q)) := by
  rw [decide_eq_false h]
theorem within_any (n lo hi : Int) (w : World) : Calls Tryd.prog 28 #[.int .i64 n, .int .i64 lo, .int .i64 hi] w fun e w' => e = .returned (.bool (decide (lo ≤ n ∧ n ≤ hi))) ∧ w = w' := by
  by_cases h : lo ≤ n
  all_goals
    go_enter Tryd.func28, Tryd.ntmps28
    go_wp2
    go_returns
    exact ⟨by simp [h] <;> omega, rfl⟩
theorem cutErr_yes {a b c : Int} (k : CutOk a b c) : Ending.returned (.int .i64 0) = .returned (.int .i64 (cutErr a b c)) := by rw [show cutErr a b c = 0 from if_pos k]
theorem cutErr_no {a b c : Int} (k : ¬ CutOk a b c) : Ending.returned (.int .i64 50) = .returned (.int .i64 (cutErr a b c)) := by rw [show cutErr a b c = 50 from if_neg k]
set_option maxHeartbeats 2000000 in
set_option maxRecDepth 100000 in
theorem check_any (mn no mx : Int) (seed : Nat) (w : World) :
    Calls Tryd.prog 20 #[.agg #[.int .i64 mn, .int .i64 no, .int .i64 mx, .int .u64 seed]] w fun e w' => e = .returned (.int .i64 (cutErr mn no mx)) ∧ Same w w' := by
  by_cases hs : 16 ≤ no ∧ no ≤ 65536
  · have hp := pow_land no hs.1 hs.2
    by_cases hq : Pow no
    · have hp' : (bits .and .i64 no (no - 1) == 0) = true := beq_iff_eq.2 (hp.2 hq)
      have HQ := hidden hq
      have HS := hidden hs
      clear hp hq
      by_cases hm : no ≤ mx ∧ mx ≤ 8 * no
      · have hmb : (decide (no ≤ mx) && decide (mx ≤ 8 * no)) = true := by simp [hm]
        have HM := hidden hm
        clear hm
        go_enter Tryd.func20, Tryd.ntmps20
        go_wp2_with (go_at_call 28; refine (within_any _ _ _ _).mono ?_; rintro e w1 ⟨rfl, rfl⟩)
        all_goals
          go_returns
          refine ⟨?_, same_alloc _ _⟩
          first
            | exact cutErr_yes ⟨⟨HS.out.1, HS.out.2, HQ.out⟩, by assumption, HM.out⟩
            | (refine cutErr_no fun k => ?_; obtain ⟨_, b, c⟩ := k; first | contradiction | omega)
      · have hmb : (decide (no ≤ mx) && decide (mx ≤ 8 * no)) = false := by simp; omega
        have HM := hidden hm
        clear hm
        go_enter Tryd.func20, Tryd.ntmps20
        go_wp2_with (go_at_call 28; refine (within_any _ _ _ _).mono ?_; rintro e w1 ⟨rfl, rfl⟩)
        all_goals
          go_returns
          exact ⟨cutErr_no fun k => HM.out k.2.2, same_alloc _ _⟩
    · have hp' : (bits .and .i64 no (no - 1) == 0) = false := beq_eq_false_iff_ne.2 (fun h => hq (hp.1 h))
      have HQ := hidden hq
      clear hp hq
      go_enter Tryd.func20, Tryd.ntmps20
      go_wp2_with (go_at_call 28; refine (within_any _ _ _ _).mono ?_; rintro e w1 ⟨rfl, rfl⟩)
      all_goals
        go_returns
        exact ⟨cutErr_no fun k => HQ.out k.1.2.2, same_alloc _ _⟩
  · have HS := hidden hs
    go_enter Tryd.func20, Tryd.ntmps20
    go_wp2_with (go_at_call 28; refine (within_any _ _ _ _).mono ?_; rintro e w1 ⟨rfl, rfl⟩)
    all_goals
      go_returns
      exact ⟨cutErr_no fun k => HS.out ⟨k.1.1, k.1.2.1⟩, same_alloc _ _⟩
/-- The first cut. -/
def Shp.cut (c : Shp) (l : List UInt8) : Nat := (c.grow 0 0 l).1
set_option maxHeartbeats 1000000 in
set_option maxRecDepth 100000 in
theorem first_any (c : Shp) (hc : c.Ok) {w : World} (hT : Tab w) {v : Value} {l : List UInt8} (hb : Byt w v l) (hl : l.length ≤ 140737488355328) :
    Calls Tryd.prog 27 #[.agg #[.int .i64 c.mn, .int .i64 c.no, .int .i64 c.mx, .int .u64 c.seed], v] w fun e w' => e = .returned (.int .i64 (c.cut l : Nat)) ∧ Same w w' := by
  have k1 := same_alloc w (.cells #[.int .i64 c.mn, .int .i64 c.no, .int .i64 c.mx, .int .u64 c.seed] 24)
  have k2 := same_alloc (w.alloc (.cells #[.int .i64 c.mn, .int .i64 c.no, .int .i64 c.mx, .int .u64 c.seed] 24)) (.cells #[.int .i64 0, .int .u64 0] 57)
  have K := hidden (Kept.trans k1 k2)
  have hbk := blk_new (w.alloc (.cells #[.int .i64 c.mn, .int .i64 c.no, .int .i64 c.mx, .int .u64 c.seed] 24)) (.cells #[.int .i64 0, .int .u64 0] 57)
  rw [World.size_alloc] at hbk
  have HP : Hid (Pc (w.heap.size + 1) 0 0 0 ((w.alloc (.cells #[.int .i64 c.mn, .int .i64 c.no, .int .i64 c.mx, .int .u64 c.seed] 24)).alloc (.cells #[.int .i64 0, .int .u64 0] 57))) := hidden ⟨blk_cell hbk, blk_cell hbk, blk_free hbk, blk_free hbk⟩
  have HT := hidden hT
  have HB := hidden hb
  have HC := hidden hc
  have hlt := hT.lt
  have hl1 : Hid (l.length ≤ 140737488355328) := hidden hl
  have HE : Hid (c.cut l = (c.grow 0 0 l).1) := hidden rfl
  clear k1 k2 hT hb hc hbk hl
  go_enter Tryd.func27, Tryd.ntmps27
  go_wp2_with (go_at_call 26; refine (grow_any c HC.out HP.out (HT.out.same K.out) (by omega) (HB.out.same K.out) hl1.out (Nat.zero_le _) (by decide)).mono ?_; rintro e w3 ⟨rfl, p3, u3⟩)
  go_returns
  rw [HE.out]
  exact ⟨rfl, Kept.trans' K.out u3.kept fun i hi hs => by have : i = w.heap.size + 1 := hs; omega⟩
/-- A cell of the box of a parameter. -/
theorem box_cell {w w1 : World} {cs : Array Value} {t : TypeId} {v : Value} (j : Nat) (k : Same (w.alloc (.cells cs t)) w1) (h : cs[j]? = some v) : w1.cell? ⟨w.heap.size, j, none⟩ = some v :=
  (blk_cell (blk_kept k (fun h => h) (blk_new w _))).trans h
theorem Shp.Ok.cutOk {c : Shp} (hc : c.Ok) : CutOk c.mn c.no c.mx := by
  have h1 := hc.no_le
  have h2 := hc.no_ge
  have h3 := hc.mn1
  have h4 := hc.mn2
  have h5 := hc.mx1
  have h6 := hc.mx2
  refine ⟨⟨by omega, by omega, ?_⟩, ⟨by omega, by omega⟩, by omega, by omega⟩
  rw [hc.pow]
  have k1 := hc.k1
  have k2 := hc.k2
  generalize c.k = k at *
  have hk : k = 4 ∨ k = 5 ∨ k = 6 ∨ k = 7 ∨ k = 8 ∨ k = 9 ∨ k = 10 ∨ k = 11 ∨ k = 12 ∨ k = 13 ∨ k = 14 ∨ k = 15 ∨ k = 16 := by omega
  rcases hk with rfl | rfl | rfl | rfl | rfl | rfl | rfl | rfl | rfl | rfl | rfl | rfl | rfl <;> decide
theorem check_yes (c : Shp) (hc : c.Ok) (w : World) : Calls Tryd.prog 20 #[.agg #[.int .i64 c.mn, .int .i64 c.no, .int .i64 c.mx, .int .u64 c.seed]] w fun e w' => e = .returned (.int .i64 0) ∧ Same w w' := by
  have h := check_any c.mn c.no c.mx c.seed w
  rw [show cutErr c.mn c.no c.mx = 0 from if_pos hc.cutOk] at h
  exact h
theorem check_no {mn no mx : Int} (hn : ¬ CutOk mn no mx) (seed : Nat) (w : World) : Calls Tryd.prog 20 #[.agg #[.int .i64 mn, .int .i64 no, .int .i64 mx, .int .u64 seed]] w fun e w' => e = .returned (.int .i64 50) ∧ Same w w' := by
  have h := check_any mn no mx seed w
  rw [show cutErr mn no mx = 50 from if_neg hn] at h
  exact h
set_option maxHeartbeats 1000000 in
set_option maxRecDepth 100000 in
theorem next_yes (c : Shp) (hc : c.Ok) {w : World} (hT : Tab w) {v : Value} {l : List UInt8} (hb : Byt w v l) (hl : l.length ≤ 140737488355328) :
    Calls Tryd.prog 19 #[.agg #[.int .i64 c.mn, .int .i64 c.no, .int .i64 c.mx, .int .u64 c.seed], v] w fun e w' => e = .returned (.tuple #[.int .i64 (c.cut l : Nat), .int .i64 0]) ∧ Same w w' := by
  have HK := hidden (fun w => check_yes c hc w)
  have HF := hidden (fun w (hT : Tab w) (hb : Byt w v l) => first_any c hc hT hb hl)
  have HT := hidden hT
  have HB := hidden hb
  have K0 : Hid (Same w (w.alloc (.cells #[.int .i64 c.mn, .int .i64 c.no, .int .i64 c.mx, .int .u64 c.seed] 24))) := hidden (same_alloc _ _)
  clear hT hb hc hl
  go_enter Tryd.func19, Tryd.ntmps19
  go_wp2_with (first
    | (go_at_call 20; refine (HK.out _).mono ?_; rintro e w1 ⟨rfl, k1⟩; have b0 : w1.cell? ⟨w.heap.size, 0, none⟩ = some (.int .i64 c.mn) := box_cell 0 k1 rfl; have b1 : w1.cell? ⟨w.heap.size, 1, none⟩ = some (.int .i64 c.no) := box_cell 1 k1 rfl; have b2 : w1.cell? ⟨w.heap.size, 2, none⟩ = some (.int .i64 c.mx) := box_cell 2 k1 rfl; have b3 : w1.cell? ⟨w.heap.size, 3, none⟩ = some (.int .u64 c.seed) := box_cell 3 k1 rfl)
    | (go_at_call 27; refine (HF.out _ (HT.out.same (Kept.trans K0.out k1)) (HB.out.same (Kept.trans K0.out k1))).mono ?_; rintro e w2 ⟨rfl, k2⟩))
  go_returns
  exact ⟨rfl, Kept.trans (Kept.trans K0.out k1) k2⟩
set_option maxHeartbeats 1000000 in
set_option maxRecDepth 100000 in
theorem next_no {mn no mx : Int} (hn : ¬ CutOk mn no mx) (seed : Nat) (v : Value) (w : World) :
    Calls Tryd.prog 19 #[.agg #[.int .i64 mn, .int .i64 no, .int .i64 mx, .int .u64 seed], v] w fun e w' => e = .returned (.tuple #[.int .i64 0, .int .i64 50]) ∧ Same w w' := by
  have HK := hidden (fun w => check_no hn seed w)
  clear hn
  go_enter Tryd.func19, Tryd.ntmps19
  go_wp2_with (go_at_call 20; refine (HK.out _).mono ?_; rintro e w1 ⟨rfl, k1⟩)
  go_returns
  exact ⟨rfl, Kept.trans (same_alloc _ _) k1⟩
end Go.Proofs.YtdmekpokgnieeaaDoor
