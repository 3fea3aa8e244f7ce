/- node: the document's Encode, whatever it is handed. -/
import Derived.Test.YtpjgghalnkfdkaaDoorNE6
namespace Go.Proofs.YtpjgghalnkfdkaaDoor
open Go.RowKit
set_option linter.unusedVariables false
set_option linter.unusedSimpArgs false
set_option maxHeartbeats 2000000 in
set_option maxRecDepth 100000 in
theorem refEncode_any (n : Nd) (a1 a2 a3 : Option Addr) (k1 c1 k2 c2 k3 c3 : Nat) (sz : Int) (w : World) (r1 : Row w (.slice a1 k1 c1) (TS n.keys)) (r2 : Row w (.slice a2 k2 c2) (TS n.vals)) (r3 : Row w (.slice a3 k3 c3) (IS n.kids)) (hb : n.Bd) (hbd : n.keys.length ≤ 8796093022208) :
    Calls Tryd.prog 10 #[.int .i64 sz, .agg #[.bool n.leaf, .slice a1 k1 c1, .slice a2 k2 c2, .slice a3 k3 c3]] w fun e w' => ∃ u, e = .returned u ∧ EnQ n sz w u w' := by
  have HCk := hidden (fun W (k : Same w W) => refCheck_any n a1 a2 a3 k1 c1 k2 c2 k3 c3 W (r1.same k) (r2.same k) (r3.same k) hb)
  have K0 : Hid (Same w (w.alloc (.cells #[.bool n.leaf, .slice a1 k1 c1, .slice a2 k2 c2, .slice a3 k3 c3] 25))) := hidden (same_alloc _ _)
  by_cases hc : n.chk = 0
  · have hF := chk_fine hc
    by_cases hj : JSize sz
    · by_cases hf : sz < (n.size : Int)
      · have he : n.encE sz = 2 := by unfold Nd.encE; rw [if_pos hc, if_pos hj, if_pos hf]
        have hB : n.encB sz = [] := by unfold Nd.encB; rw [he]; rfl
        have HSz := hidden (fun W (k : Same w W) => refSize_any n a1 a2 a3 k1 c1 k2 c2 k3 c3 W (r1.same k) (r2.same k) (r3.same k) hF hbd)
        rw [← fine_size hF] at HSz
        have HMs := hidden (fun W => power_any sz W)
        rw [decide_eq_true hj] at HMs
        rw [hc] at HCk
        have HR := hidden (show ∀ W, Same w W → EnQ n sz w (.tuple #[.slice none 0 0, .int .i64 2]) W from fun W k => ⟨_, by rw [he], by rw [hB]; exact Bt.nil _, k⟩)
        clear hF hj hc he hB r1 r2 r3 hb hbd
        generalize n.size = nz at *
        go_enter Tryd.func10, Tryd.ntmps10
        go_wp2_with (first
          | (go_at_call 14; refine (HCk.out _ K0.out).mono ?_; rintro e w1 ⟨rfl, q1⟩; have b1 := blk_kept q1 (fun h => h) (blk_new w (.cells #[.bool n.leaf, .slice a1 k1 c1, .slice a2 k2 c2, .slice a3 k3 c3] 25)); have x0 : w1.cell? ⟨w.heap.size, 0, none⟩ = some (.bool n.leaf) := blk_cell b1; have x1 : w1.cell? ⟨w.heap.size, 1, none⟩ = some (.slice a1 k1 c1) := blk_cell b1; have x2 : w1.cell? ⟨w.heap.size, 2, none⟩ = some (.slice a2 k2 c2) := blk_cell b1; have x3 : w1.cell? ⟨w.heap.size, 3, none⟩ = some (.slice a3 k3 c3) := blk_cell b1; have K1 := hidden (K0.out.trans q1); clear q1 b1)
          | (go_at_call 35; refine (HMs.out _).mono ?_; rintro e w1' ⟨rfl, rfl⟩)
          | (go_at_call 16; refine (HSz.out _ K1.out).mono ?_; rintro e w2 ⟨rfl, q2⟩; have K2 := hidden (K1.out.trans q2); clear q2))
        go_returns
        exact ⟨_, rfl, HR.out _ K2.out⟩
      · obtain ⟨s, rfl⟩ : ∃ s : Nat, sz = (s : Int) := ⟨sz.toNat, by have := hj.1; omega⟩
        rcases Bool.eq_false_or_eq_true n.leaf with hl | hl
        rotate_left
        · obtain ⟨hv, hkl⟩ := hF.inner hl
          obtain ⟨z0, zs, hkz⟩ : ∃ z0 zs, n.kids = z0 :: zs := by
            cases hq : n.kids with
            | nil => rw [hq] at hkl; simp at hkl
            | cons a b => exact ⟨a, b, rfl⟩
          exact refEncode_inner n a1 a2 a3 k1 c1 k2 c2 k3 c3 s z0 zs w r1 r2 r3 hl hb hbd hc hj (by omega) hkz (by rw [hkz] at hkl; simpa using hkl)
        · exact refEncode_leaf n a1 a2 a3 k1 c1 k2 c2 k3 c3 s w r1 r2 r3 hl hb hbd hc hj (by omega)
    · have he : n.encE sz = 1 := by unfold Nd.encE; rw [if_pos hc, if_neg hj]
      have hB : n.encB sz = [] := by unfold Nd.encB; rw [he]; rfl
      have HMs := hidden (fun W => power_any sz W)
      rw [decide_eq_false hj] at HMs
      rw [hc] at HCk
      have HR := hidden (show ∀ W, Same w W → EnQ n sz w (.tuple #[.slice none 0 0, .int .i64 1]) W from fun W k => ⟨_, by rw [he], by rw [hB]; exact Bt.nil _, k⟩)
      clear hF hj hc he hB r1 r2 r3 hb hbd
      go_enter Tryd.func10, Tryd.ntmps10
      go_wp2_with (first
        | (go_at_call 14; refine (HCk.out _ K0.out).mono ?_; rintro e w1 ⟨rfl, q1⟩; have K1 := hidden (K0.out.trans q1); clear q1)
        | (go_at_call 35; refine (HMs.out _).mono ?_; rintro e w1' ⟨rfl, rfl⟩))
      go_returns
      exact ⟨_, rfl, HR.out _ K1.out⟩
  · have he : n.encE sz = n.chk := by unfold Nd.encE; rw [if_neg hc]
    have hB : n.encB sz = [] := by unfold Nd.encB; rw [he, if_neg hc]
    have HR := hidden (show ∀ W, Same w W → EnQ n sz w (.tuple #[.slice none 0 0, .int .i64 n.chk]) W from fun W k => ⟨_, by rw [he], by rw [hB]; exact Bt.nil _, k⟩)
    have hne : (n.chk != 0) = true := by simpa using hc
    clear hc he hB r1 r2 r3 hb hbd
    generalize n.chk = ck at *
    go_enter Tryd.func10, Tryd.ntmps10
    go_wp2_with (go_at_call 14; refine (HCk.out _ K0.out).mono ?_; rintro e w1 ⟨rfl, q1⟩; have K1 := hidden (K0.out.trans q1); clear q1)
    go_returns
    exact ⟨_, rfl, HR.out _ K1.out⟩
end Go.Proofs.YtpjgghalnkfdkaaDoor
