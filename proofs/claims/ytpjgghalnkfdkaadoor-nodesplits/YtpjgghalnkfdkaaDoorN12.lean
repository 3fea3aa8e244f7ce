/- node: the law's lives. -/
import Derived.Test.YtpjgghalnkfdkaaDoorN11
namespace Go.Proofs.YtpjgghalnkfdkaaDoor
open Go.RowKit
set_option linter.unusedVariables false
set_option linter.unusedSimpArgs false
def nd2 : Nd := ⟨true, [⟨#[97]⟩, ⟨#[98, 98]⟩], [⟨#[49]⟩, ⟨#[50, 50]⟩], []⟩
theorem lt_ab : ltS ⟨#[97]⟩ ⟨#[98, 98]⟩ = true := by simp only [ltS, Lib.toList_data]; decide
theorem lt_a_b : ltS ⟨#[97]⟩ ⟨#[98]⟩ = true := by simp only [ltS, Lib.toList_data]; decide
theorem lt_bb_b : ltS ⟨#[98, 98]⟩ ⟨#[98]⟩ = false := by simp only [ltS, Lib.toList_data]; decide
theorem ne_bb_b : ((⟨#[98, 98]⟩ : ByteArray).toList == (⟨#[98]⟩ : ByteArray).toList) = false := by simp only [Lib.toList_data]; decide
theorem nd2_chk : nd2.chk = 0 := by
  simp [Nd.chk, Nd.ents, Nd.shape, Nd.lists, nd2, mayK, mayV, rises, lt_ab, ByteArray.size]
theorem nd2_ka : nd2.keys.all mayK = true := by decide
theorem nd2_va : nd2.vals.all mayV = true := by decide
theorem nd2_size : nd2.size = 26 := by decide
theorem nd2_ent : (entL nd2.keys nd2.vals).length = 10 := by decide +kernel
theorem nd2_cnt : nd2.cnt ⟨#[98]⟩ = 1 := by simp [Nd.cnt, nd2, ahead, lt_a_b, lt_bb_b]
theorem nd2_has : nd2.has ⟨#[98]⟩ = false := by simp [Nd.has, nd2_cnt]; simp [nd2, ne_bb_b]
theorem nd2_bd : nd2.Bd := ⟨by decide, by decide, by decide⟩
set_option maxHeartbeats 1000000 in
set_option maxRecDepth 100000 in
theorem two_any (w : World) : Calls Tryd.prog 38 #[] w fun e w' => ∃ u, e = .returned u ∧ NF w.heap.size w' u nd2 ∧ Same w w' := by
  have K0 : Same w (((w.alloc (.cells #[.bool true, .slice (some ⟨w.heap.size + 1, 0, none⟩) 2 2, .slice (some ⟨w.heap.size + 1 + 1, 0, none⟩) 2 2, .slice none 0 0] 25)).alloc (.cells #[.string ⟨#[97]⟩, .string ⟨#[98, 98]⟩] 9)).alloc (.cells #[.string ⟨#[49]⟩, .string ⟨#[50, 50]⟩] 9)) := (((Kept.refl _ w).alloc _).alloc _).alloc _
  have g0 : (((w.alloc (.cells #[.bool true, .slice (some ⟨w.heap.size + 1, 0, none⟩) 2 2, .slice (some ⟨w.heap.size + 1 + 1, 0, none⟩) 2 2, .slice none 0 0] 25)).alloc (.cells #[.string ⟨#[97]⟩, .string ⟨#[98, 98]⟩] 9)).alloc (.cells #[.string ⟨#[49]⟩, .string ⟨#[50, 50]⟩] 9)).heap[w.heap.size]? = some (.cells #[.bool true, .slice (some ⟨w.heap.size + 1, 0, none⟩) 2 2, .slice (some ⟨w.heap.size + 1 + 1, 0, none⟩) 2 2, .slice none 0 0] 25 (0, 0)) := blk_alloc (blk_alloc (blk_new _ _) _) _
  have g1 : (((w.alloc (.cells #[.bool true, .slice (some ⟨w.heap.size + 1, 0, none⟩) 2 2, .slice (some ⟨w.heap.size + 1 + 1, 0, none⟩) 2 2, .slice none 0 0] 25)).alloc (.cells #[.string ⟨#[97]⟩, .string ⟨#[98, 98]⟩] 9)).alloc (.cells #[.string ⟨#[49]⟩, .string ⟨#[50, 50]⟩] 9)).heap[w.heap.size + 1]? = some (.cells #[.string ⟨#[97]⟩, .string ⟨#[98, 98]⟩] 9 (0, 0)) := blk_alloc (by have := blk_new (w.alloc (.cells #[.bool true, .slice (some ⟨w.heap.size + 1, 0, none⟩) 2 2, .slice (some ⟨w.heap.size + 1 + 1, 0, none⟩) 2 2, .slice none 0 0] 25)) (.cells #[.string ⟨#[97]⟩, .string ⟨#[98, 98]⟩] 9); simpa using this) _
  have g2 : (((w.alloc (.cells #[.bool true, .slice (some ⟨w.heap.size + 1, 0, none⟩) 2 2, .slice (some ⟨w.heap.size + 1 + 1, 0, none⟩) 2 2, .slice none 0 0] 25)).alloc (.cells #[.string ⟨#[97]⟩, .string ⟨#[98, 98]⟩] 9)).alloc (.cells #[.string ⟨#[49]⟩, .string ⟨#[50, 50]⟩] 9)).heap[w.heap.size + 1 + 1]? = some (.cells #[.string ⟨#[49]⟩, .string ⟨#[50, 50]⟩] 9 (0, 0)) := by have := blk_new ((w.alloc (.cells #[.bool true, .slice (some ⟨w.heap.size + 1, 0, none⟩) 2 2, .slice (some ⟨w.heap.size + 1 + 1, 0, none⟩) 2 2, .slice none 0 0] 25)).alloc (.cells #[.string ⟨#[97]⟩, .string ⟨#[98, 98]⟩] 9)) (.cells #[.string ⟨#[49]⟩, .string ⟨#[50, 50]⟩] 9); simpa using this
  have KK := hidden K0
  have G0 := hidden g0
  have G1 := hidden g1
  have G2 := hidden g2
  clear K0 g0 g1 g2
  go_enter Tryd.func38, Tryd.ntmps38
  go_wp2
  generalize (((w.alloc (.cells #[.bool true, .slice (some ⟨w.heap.size + 1, 0, none⟩) 2 2, .slice (some ⟨w.heap.size + 1 + 1, 0, none⟩) 2 2, .slice none 0 0] 25)).alloc (.cells #[.string ⟨#[97]⟩, .string ⟨#[98, 98]⟩] 9)).alloc (.cells #[.string ⟨#[49]⟩, .string ⟨#[50, 50]⟩] 9)) = W at *
  have q0 : W.cell? ⟨w.heap.size, 0, none⟩ = some (.bool true) := blk_cell G0.out
  have q1 : W.cell? ⟨w.heap.size, 1, none⟩ = some (.slice (some ⟨w.heap.size + 1, 0, none⟩) 2 2) := blk_cell G0.out
  have q2 : W.cell? ⟨w.heap.size, 2, none⟩ = some (.slice (some ⟨w.heap.size + 1 + 1, 0, none⟩) 2 2) := blk_cell G0.out
  have q3 : W.cell? ⟨w.heap.size, 3, none⟩ = some (.slice none 0 0) := blk_cell G0.out
  refine bodyPost_ret (v := .agg #[.bool true, .slice (some ⟨w.heap.size + 1, 0, none⟩) 2 2, .slice (some ⟨w.heap.size + 1 + 1, 0, none⟩) 2 2, .slice none 0 0]) (by simp [results, Tryd.results38, go_sem, q0, q1, q2, q3]) rfl ⟨_, rfl, ⟨⟨some ⟨w.heap.size + 1, 0, none⟩, some ⟨w.heap.size + 1 + 1, 0, none⟩, none, 2, 2, 0, rfl, own_mk G1.out (by omega) rfl (Nat.le_refl _) (by decide) rfl rfl, own_mk G2.out (by omega) rfl (Nat.le_refl _) (by decide) rfl rfl, World.ownsRow_nil _ _ _ _, fun k h1 h2 => ?_⟩⟩, KK.out⟩
  simp [Value.ownBlock] at h1 h2
  omega
structure FnP (a : Nat) (b : Bool) (w : World) (u : Value) (W : World) : Prop where
  out : u = .tuple #[.int .i64 (a : Nat), .bool b] ∧ Same w W
theorem nd2_len : nd2.keys.length = 2 ∧ nd2.vals.length = 2 ∧ nd2.kids.length = 0 := by decide
structure N2P (w : World) (u : Value) (W : World) : Prop where
  out : ∃ a1 a2 a3 c1 c2 c3, u = .agg #[.bool true, .slice a1 2 c1, .slice a2 2 c2, .slice a3 0 c3] ∧ Row W (.slice a1 2 c1) (TS nd2.keys) ∧ Row W (.slice a2 2 c2) (TS nd2.vals) ∧ Row W (.slice a3 0 c3) (IS nd2.kids) ∧ Same w W
theorem two_row (w : World) : Calls Tryd.prog 38 #[] w fun e w' => ∃ u, e = .returned u ∧ N2P w u w' := by
  refine (two_any w).mono ?_
  rintro e w' ⟨u, rfl, hn, k⟩
  obtain ⟨a1, a2, a3, c1, c2, c3, rfl, o1, o2, o3, _⟩ := hn.out
  exact ⟨_, rfl, ⟨a1, a2, a3, c1, c2, c3, rfl, Row.own o1, Row.own o2, Row.own o3, k⟩⟩
set_option maxHeartbeats 2000000 in
set_option maxRecDepth 100000 in
theorem lives_any (w : World) (hT : Tab w) : Calls Tryd.prog 11 #[] w fun e w' => e = .returned (.bool true) ∧ Same w w' := by
  have HT := hidden hT
  have HE := hidden (fun W (h : Tab W) a1 a2 a3 c1 c2 c3 (r1 : Row W (.slice a1 2 c1) (TS nd2.keys)) (r2 : Row W (.slice a2 2 c2) (TS nd2.vals)) (r3 : Row W (.slice a3 0 c3) (IS nd2.kids)) => encode_leaf nd2 a1 a2 a3 2 c1 2 c2 0 c3 512 W r1 r2 r3 rfl nd2_bd nd2_chk maySize_512 (by decide) (by decide) (by rw [nd2_size]; decide) h (by rw [nd2_ent, nd2_size]) (by decide) nd2_ka nd2_va)
  have HF := hidden (fun W a1 a2 a3 c1 c2 c3 (r1 : Row W (.slice a1 2 c1) (TS nd2.keys)) (r2 : Row W (.slice a2 2 c2) (TS nd2.vals)) (r3 : Row W (.slice a3 0 c3) (IS nd2.kids)) => find_any nd2 a1 a2 a3 2 c1 2 c2 0 c3 ⟨#[98]⟩ W r1 r2 r3 nd2_bd)
  have HS := hidden (fun W a1 a2 a3 c1 c2 c3 (r1 : Row W (.slice a1 2 c1) (TS nd2.keys)) (r2 : Row W (.slice a2 2 c2) (TS nd2.vals)) (r3 : Row W (.slice a3 0 c3) (IS nd2.kids)) => size_leaf nd2 a1 a2 a3 2 c1 2 c2 0 c3 W r1 r2 r3 rfl nd2_bd (by decide))
  have hsz : (16 + (nd2.keys.map fun k => 2 + k.size).sum + (nd2.vals.map fun v => v.size).sum : Nat) = 26 := by decide
  rw [hsz] at HS
  rw [nd2_cnt, nd2_has] at HF
  have hlf : nd2.leaf = true := rfl
  rw [hlf] at HE HF HS
  have hh : ∃ r, nd2.encL 512 = 68 :: r := ⟨_, rfl⟩
  obtain ⟨r, hr⟩ := hh
  have HR := hidden hr
  generalize nd2.encL 512 = EL at *
  have t1 : True := trivial
  clear hT hsz hlf hr
  go_enter Tryd.func11, Tryd.ntmps11
  go_wp2_with (first
    | (go_at_call 38; have _t := t1; refine (two_row _).mono ?_; rintro e w1 ⟨u, rfl, hu⟩; obtain ⟨a1, a2, a3, c1, c2, c3, rfl, r1, r2, r3, k1⟩ := hu.out; clear hu t1; have R1 := hidden r1; have R2 := hidden r2; have R3 := hidden r3; have K1 := hidden k1; clear r1 r2 r3 k1; have t2 : True := trivial)
    | (go_at_call 9; refine (HE.out _ (HT.out.same K1.out) _ _ _ _ _ _ R1.out R2.out R3.out).mono ?_; rintro e w2 ⟨u, rfl, hu⟩; obtain ⟨g, rfl, ho, k2⟩ := hu.out; clear hu; have O2 := hidden ho; have K2 := hidden (K1.out.trans k2); clear ho k2; clear R1 R2 R3)
    | (go_at_call 38; have _t := t2; refine (two_row _).mono ?_; rintro e w3 ⟨u, rfl, hu⟩; obtain ⟨a1', a2', a3', c1', c2', c3', rfl, r1, r2, r3, k3⟩ := hu.out; clear hu t2; have R1 := hidden r1; have R2 := hidden r2; have R3 := hidden r3; have O3 := hidden (own_kept O2.out k3 (fun _ _ h => h)); have K3 := hidden (K2.out.trans k3); clear r1 r2 r3 k3; have t3 : True := trivial)
    | (go_at_call 20; refine (HF.out _ _ _ _ _ _ _ R1.out R2.out R3.out).mono ?_; rintro e w4 ⟨rfl, k4⟩; have O4 := hidden (own_kept O3.out k4 (fun _ _ h => h)); have K4 := hidden (K3.out.trans k4); clear k4; clear R1 R2 R3)
    | (go_at_call 38; have _t := t3; refine (two_row _).mono ?_; rintro e w5 ⟨u, rfl, hu⟩; obtain ⟨a1'', a2'', a3'', c1'', c2'', c3'', rfl, r1, r2, r3, k5⟩ := hu.out; clear hu t3; have R1 := hidden r1; have R2 := hidden r2; have R3 := hidden r3; have O5 := hidden (own_kept O4.out k5 (fun _ _ h => h)); have K5 := hidden (K4.out.trans k5); clear r1 r2 r3 k5)
    | (go_at_call 15; refine (HS.out _ _ _ _ _ _ _ R1.out R2.out R3.out).mono ?_; rintro e w6 ⟨rfl, k6⟩; have o6 := own_kept O5.out k6 (fun _ _ h => h); have hc0 := (own_cellN o6 (i := 0) (U8 68) (by rw [HR.out]; rfl)).1; have hc1 : w6.cell? ⟨g, 0, none⟩ = some (.int .u8 68) := hc0; have K6 := hidden (K5.out.trans k6); clear o6 k6 hc0))
  go_returns
  exact ⟨rfl, K6.out⟩
end Go.Proofs.YtpjgghalnkfdkaaDoor
