/- node: NodeMaps' drawn regions that call Remove and Put. (Made by mkn33.py.) -/
import Derived.Test.YtilnogadopmboaaDoorN32
namespace Go.Proofs.YtilnogadopmboaaDoor
open Go.RowKit
set_option linter.unusedVariables false
set_option linter.unusedSimpArgs false
/-- What Remove or Put told: a node of its own, and a word. -/
structure Cr (w : World) (n : Nd) (t : Value) (u : Value) (W : World) : Prop where
  out : ∃ v, u = .tuple #[v, t] ∧ NF w.heap.size W v n
theorem NF.keep {B : Nat} {W W' : World} {u : Value} {n : Nd} {S : Nat → Prop} (h : NF B W u n) (k : Kept S W W') (hS : ∀ b, S b → ∃ cs, W.heap[b]? = some (.cells cs 25 (0, 0))) : NF B W' u n := by
  obtain ⟨a1, a2, a3, c1, c2, c3, h0, h1, h2, h3, h4⟩ := h.out
  refine ⟨a1, a2, a3, c1, c2, c3, h0, own_kept h1 k (fun b hb hs => ?_), own_kept h2 k (fun b hb hs => ?_), own_kept h3 k (fun b hb hs => ?_), h4⟩
  · obtain ⟨cs, hc⟩ := hS b hs
    exact own_apart h1 hc (by decide) hb
  · obtain ⟨cs, hc⟩ := hS b hs
    exact own_apart h2 hc (by decide) hb
  · obtain ⟨cs, hc⟩ := hS b hs
    exact own_apart h3 hc (by decide) hb
theorem NF.mono {B C : Nat} {W : World} {u : Value} {n : Nd} (h : NF B W u n) (hc : C ≤ B) : NF C W u n := by
  obtain ⟨a1, a2, a3, c1, c2, c3, h0, h1, h2, h3, h4⟩ := h.out
  exact ⟨a1, a2, a3, c1, c2, c3, h0, own_mono h1 hc, own_mono h2 hc, own_mono h3 hc, h4⟩
theorem Cr.same {w : World} {n : Nd} {t u : Value} {W W' : World} (h : Cr w n t u W) (k : Same W W') : Cr w n t u W' := by
  obtain ⟨v, h1, h2⟩ := h.out
  exact ⟨v, h1, h2.keep k (fun _ h => h.elim)⟩
/-- A box of a node, not yet filled. -/
structure Bx0 (w : World) (u : Value) (W : World) : Prop where
  out : ∃ b, u = .pointer (some ⟨b, 0, none⟩) ∧ w.heap.size ≤ b ∧ W.heap[b]? = some (.cells #[.bool false, .slice none 0 0, .slice none 0 0, .slice none 0 0] 25 (0, 0))
theorem Bx0.same {w : World} {u : Value} {W W' : World} (h : Bx0 w u W) (k : Same W W') : Bx0 w u W' := by
  obtain ⟨b, h1, h2, h3⟩ := h.out
  exact ⟨b, h1, h2, blk_kept k (fun h => h) h3⟩
def cl13F (v0 v1 v2 v3 v4 v5 v6 v7 v8 v9 v10 v11 v12 v13 v14 v15 : Value) (j x : Nat → Value) : Act := { tmps := #[v0, v1, v2, v3, v4, v5, v6, v7, v8, x 10, v10, v11, v12, v13, v14, v15, j 16, j 17, j 18, j 19, j 20, j 21, j 22, j 23, j 24, j 25, j 26, j 27, j 28, j 29, j 30, j 31, j 32, j 33, j 34, j 35, j 36, j 37, j 38, j 39, j 40, j 41, j 42, j 43, j 44, j 45, j 46, j 47, j 48, j 49, j 50, j 51, j 52, j 53, j 54, j 55, j 56, j 57, j 58, j 59, j 60, x 7, x 0, x 1, x 2, x 3, x 4, x 5, x 6, x 8, x 9, j 71, j 72, j 73, j 74, j 75, j 76, j 77, j 78, j 79, j 80, j 81, j 82, j 83, j 84, j 85, j 86, j 87, j 88, j 89, j 90, j 91, j 92, j 93, j 94, j 95, j 96, j 97, j 98, j 99, j 100, j 101, j 102, j 103, j 104, j 105, j 106, j 107, j 108, j 109, j 110, j 111, j 112, j 113, j 114, j 115, j 116, j 117, j 118, j 119, j 120, j 121, j 122, j 123, j 124, j 125, j 126, j 127, j 128, j 129, j 130, j 131, j 132, j 133, j 134, j 135, j 136, j 137, j 138, j 139, j 140, j 141, j 142, j 143, j 144, j 145, j 146, j 147, j 148, j 149, j 150, j 151, j 152, j 153, j 154, j 155, j 156, j 157, j 158, j 159, j 160, j 161, j 162, j 163, j 164, j 165, j 166, j 167, j 168, j 169, j 170, j 171, j 172, j 173, j 174, j 175, j 176, j 177, j 178, j 179, j 180, j 181, j 182, j 183, j 184, j 185, j 186, j 187, j 188, j 189, j 190, j 191, j 192, j 193, j 194, j 195, j 196, j 197, j 198], defers := [] }
structure cl13FI (w : World) (w0 w1 w2 w3 w4 w5 tv : Value) (n : Nd) (d : Nat → Bool) (x : Nat → Value) (W : World) : Prop where
  v0 : d 0 = true → x 0 = w0
  v1 : d 1 = true → x 1 = w1
  v2 : d 2 = true → x 2 = w2
  v3 : d 3 = true → x 3 = w3
  v4 : d 4 = true → x 4 = w4
  v5 : d 5 = true → x 5 = w5
  c : d 6 = true → Cr w n tv (x 6) W
  vm : d 7 = true → d 6 = true ∧ x 7 = x 6
  ve : d 8 = true → d 6 = true ∧ ∃ v, x 6 = .tuple #[v, tv] ∧ x 8 = v
  vt : d 9 = true → x 9 = tv
  ab : d 10 = true → d 11 = false → Bx0 w (x 10) W
  sb : d 11 = true → d 10 = true ∧ d 8 = true ∧ ∃ b cs, x 10 = .pointer (some ⟨b, 0, none⟩) ∧ w.heap.size ≤ b ∧ x 8 = .agg cs ∧ W.heap[b]? = some (.cells cs 25 (0, 0))
set_option maxHeartbeats 2000000 in
set_option maxRecDepth 100000 in
theorem rg13 {Q : Exit → Act → World → Prop} {w : World} {v1 v2 v4 v5 v7 v8 v9 v10 v11 v12 v13 v14 v15 : Value} {j : Nat → Value} {ob oo N oc i0 BN : Nat} {key : ByteArray} {s1 s2 s3 : Value} {n : Nd} {t : Bool} {ops : Array Oper} (hops : findR 13 (Tryd.f7.body.getD .skip) = some ops) (hi0 : i0 < N)
    (hx : w.cell? ⟨ob, oo + i0 * 3, none⟩ = some (.string key))
    (hb : w.heap[BN]? = some (.cells #[.bool true, s1, s2, s3] 25 (0, 0)))
    (hC : ∀ W, Same w W → Calls Tryd.prog 25 #[.agg #[.bool true, s1, s2, s3], .string key] W fun e w' => ∃ u, e = .returned u ∧ RmP W n t u w')
    (hQ : ∀ j' b v W, W.heap[b]? = some (.cells v 25 (0, 0)) → w.heap.size ≤ b → NF w.heap.size W (.agg v) n → Same w W → Q .normal (mpS (.slice (some ⟨ob, oo, none⟩) N oc) v1 v2 (.pointer (some ⟨BN, 0, none⟩)) v4 v5 (.int .i64 (i0 : Int)) v7 v8 (.pointer (some ⟨b, 0, none⟩)) (.bool t) v11 v12 v13 v14 v15 j') W) : (Code.region 13 ops true).wp Tryd.prog Q (mpS (.slice (some ⟨ob, oo, none⟩) N oc) v1 v2 (.pointer (some ⟨BN, 0, none⟩)) v4 v5 (.int .i64 (i0 : Int)) v7 v8 v9 v10 v11 v12 v13 v14 v15 j) w := by
  cases hops
  have hmx : Tryd.prog.follows .mixedOrders = true := by kernel_rfl
  have q1 : (i0 : Int) < (N : Int) := by omega
  have q0 : (0 : Int) ≤ (i0 : Int) := Int.natCast_nonneg _
  have HX := hidden hx
  have HB := hidden hb
  have HC := hidden hC
  have KQ := hidden hQ
  clear hQ hx hb hC
  refine region_grow (m := 12) (F := fun x => cl13F (.slice (some ⟨ob, oo, none⟩) N oc) v1 v2 (.pointer (some ⟨BN, 0, none⟩)) v4 v5 (.int .i64 (i0 : Int)) v7 v8 v9 v10 v11 v12 v13 v14 v15 j x) (I := cl13FI w (.agg #[.bool true, s1, s2, s3]) (.slice (some ⟨ob, oo, none⟩) N oc) (.int .i64 (i0 : Int)) (.pointer (some ⟨ob, oo + i0 * 3, none⟩)) (.pointer (some ⟨ob, oo + i0 * 3, none⟩)) (.string key) (.bool t) n) hmx (by kernel_rfl) (fun t => if t = 0 then j 62 else if t = 1 then j 63 else if t = 2 then j 64 else if t = 3 then j 65 else if t = 4 then j 66 else if t = 5 then j 67 else if t = 6 then j 68 else if t = 7 then j 61 else if t = 8 then j 69 else if t = 9 then j 70 else if t = 10 then v9 else undef) rfl ⟨(fun h => by cases h), (fun h => by cases h), (fun h => by cases h), (fun h => by cases h), (fun h => by cases h), (fun h => by cases h), (fun h => by cases h), (fun h => by cases h), (fun h => by cases h), (fun h => by cases h), (fun h => by cases h), (fun h => by cases h)⟩ ?_ ?_
  · intro i him d x W hsm hdi hdep hI
    have hBW : w.heap.size ≤ W.heap.size := hsm.size
    have zx := hsm.cell (fun h => h) HX.out
    have hbW := blk_kept hsm (fun h => h) HB.out
    have b0 : W.cell? ⟨BN, 0, none⟩ = some (.bool true) := blk_cell hbW
    have b1 : W.cell? ⟨BN, 1, none⟩ = some s1 := blk_cell hbW
    have b2 : W.cell? ⟨BN, 2, none⟩ = some s2 := blk_cell hbW
    have b3 : W.cell? ⟨BN, 3, none⟩ = some s3 := blk_cell hbW
    clear hbW
    match i, him with
    | 0, _ =>
      refine wpOp_step rfl (fun K' hK => ?_)
      have HK := hidden hK
      clear hK
      unfold cl13F
      go_simp
      exact HK.out _ _ ⟨.agg #[.bool true, s1, s2, s3], (by unfold cl13F upd; simp), ⟨(fun _ => rfl), hI.v1, hI.v2, hI.v3, hI.v4, hI.v5, hI.c, hI.vm, hI.ve, hI.vt, hI.ab, hI.sb⟩, hsm⟩
    | 1, _ =>
      refine wpOp_step rfl (fun K' hK => ?_)
      have HK := hidden hK
      clear hK
      unfold cl13F
      go_simp
      exact HK.out _ _ ⟨.slice (some ⟨ob, oo, none⟩) N oc, (by unfold cl13F upd; simp), ⟨hI.v0, (fun _ => rfl), hI.v2, hI.v3, hI.v4, hI.v5, hI.c, hI.vm, hI.ve, hI.vt, hI.ab, hI.sb⟩, hsm⟩
    | 2, _ =>
      refine wpOp_step rfl (fun K' hK => ?_)
      have HK := hidden hK
      clear hK
      unfold cl13F
      go_simp
      exact HK.out _ _ ⟨.int .i64 (i0 : Int), (by unfold cl13F upd; simp), ⟨hI.v0, hI.v1, (fun _ => rfl), hI.v3, hI.v4, hI.v5, hI.c, hI.vm, hI.ve, hI.vt, hI.ab, hI.sb⟩, hsm⟩
    | 3, _ =>
      have u1 : x 1 = .slice (some ⟨ob, oo, none⟩) N oc := hI.v1 (hdep 1 (by kernel_rfl))
      have u2 : x 2 = .int .i64 (i0 : Int) := hI.v2 (hdep 2 (by kernel_rfl))
      refine wpOp_step rfl (fun K' hK => ?_)
      have HK := hidden hK
      clear hK
      unfold cl13F
      simp only [u1, u2]
      go_simp
      exact HK.out _ _ ⟨.pointer (some ⟨ob, oo + i0 * 3, none⟩), (by unfold cl13F upd; simp [u1, u2]), ⟨hI.v0, hI.v1, hI.v2, (fun _ => rfl), hI.v4, hI.v5, hI.c, hI.vm, hI.ve, hI.vt, hI.ab, hI.sb⟩, hsm⟩
    | 4, _ =>
      have u3 : x 3 = .pointer (some ⟨ob, oo + i0 * 3, none⟩) := hI.v3 (hdep 3 (by kernel_rfl))
      refine wpOp_step rfl (fun K' hK => ?_)
      have HK := hidden hK
      clear hK
      unfold cl13F
      simp only [u3]
      go_simp
      exact HK.out _ _ ⟨.pointer (some ⟨ob, oo + i0 * 3, none⟩), (by unfold cl13F upd; simp [u3]), ⟨hI.v0, hI.v1, hI.v2, hI.v3, (fun _ => rfl), hI.v5, hI.c, hI.vm, hI.ve, hI.vt, hI.ab, hI.sb⟩, hsm⟩
    | 5, _ =>
      have u4 : x 4 = .pointer (some ⟨ob, oo + i0 * 3, none⟩) := hI.v4 (hdep 4 (by kernel_rfl))
      refine wpOp_step rfl (fun K' hK => ?_)
      have HK := hidden hK
      clear hK
      unfold cl13F
      simp only [u4]
      go_simp
      exact HK.out _ _ ⟨.string key, (by unfold cl13F upd; simp [u4]), ⟨hI.v0, hI.v1, hI.v2, hI.v3, hI.v4, (fun _ => rfl), hI.c, hI.vm, hI.ve, hI.vt, hI.ab, hI.sb⟩, hsm⟩
    | 6, _ =>
      have u0 : x 0 = .agg #[.bool true, s1, s2, s3] := hI.v0 (hdep 0 (by kernel_rfl))
      have u5 : x 5 = .string key := hI.v5 (hdep 5 (by kernel_rfl))
      refine wpOp_step rfl (fun K' hK => ?_)
      refine step_call rfl 25 #[.agg #[.bool true, s1, s2, s3], .string key] (fun u W' => RmP W n t u W') (by unfold cl13F; simp only [u0, u5]; go_simp; try rfl) ((HC.out W hsm).mono fun e w' ⟨u, h1, h2⟩ => ⟨u, h1, h2⟩) ?_
      intro u W' hu
      obtain ⟨v, rfl, hn, hq⟩ := hu.out
      exact hK _ _ ⟨_, rfl, ⟨hI.v0, hI.v1, hI.v2, hI.v3, hI.v4, hI.v5, (fun _ => ⟨v, rfl, hn.mono hBW⟩), (fun h => by have h2 := (hI.vm h).1; rw [hdi] at h2; cases h2), (fun h => by have h2 := (hI.ve h).1; rw [hdi] at h2; cases h2), hI.vt, (fun h1 h2 => (hI.ab h1 h2).same hq), (fun h => by have h2 := (hI.ve (hI.sb h).2.1).1; rw [hdi] at h2; cases h2)⟩, hsm.trans hq⟩
    | 7, _ =>
      have d6 := hdep 6 (by kernel_rfl)
      refine wpOp_step rfl (fun K' hK => ?_)
      have HK := hidden hK
      clear hK
      unfold cl13F
      go_simp
      exact HK.out _ _ ⟨x 6, (by unfold cl13F upd; simp), ⟨hI.v0, hI.v1, hI.v2, hI.v3, hI.v4, hI.v5, hI.c, (fun _ => ⟨d6, rfl⟩), hI.ve, hI.vt, hI.ab, hI.sb⟩, hsm⟩
    | 8, _ =>
      have h7 := hI.vm (hdep 7 (by kernel_rfl))
      obtain ⟨v, u6, hn⟩ := (hI.c h7.1).out
      have u7 : x 7 = .tuple #[v, .bool t] := h7.2.trans u6
      refine wpOp_step rfl (fun K' hK => ?_)
      have HK := hidden hK
      clear hK
      unfold cl13F
      simp only [u7]
      go_simp
      exact HK.out _ _ ⟨v, (by unfold cl13F upd; simp [u6, u7]), ⟨hI.v0, hI.v1, hI.v2, hI.v3, hI.v4, hI.v5, hI.c, hI.vm, (fun _ => ⟨h7.1, v, u6, rfl⟩), hI.vt, hI.ab, (fun h => by have h2 := (hI.sb h).2.1; rw [hdi] at h2; cases h2)⟩, hsm⟩
    | 9, _ =>
      have h7 := hI.vm (hdep 7 (by kernel_rfl))
      obtain ⟨v, u6, hn⟩ := (hI.c h7.1).out
      have u7 : x 7 = .tuple #[v, .bool t] := h7.2.trans u6
      refine wpOp_step rfl (fun K' hK => ?_)
      have HK := hidden hK
      clear hK
      unfold cl13F
      simp only [u7]
      go_simp
      exact HK.out _ _ ⟨.bool t, (by unfold cl13F upd; simp [u6, u7]), ⟨hI.v0, hI.v1, hI.v2, hI.v3, hI.v4, hI.v5, hI.c, hI.vm, hI.ve, (fun _ => rfl), hI.ab, hI.sb⟩, hsm⟩
    | 10, _ =>
      refine wpOp_step rfl (fun K' hK => ?_)
      have HK := hidden hK
      clear hK
      unfold cl13F
      go_simp
      exact HK.out _ _ ⟨.pointer (some ⟨W.heap.size, 0, none⟩), (by unfold cl13F upd; simp), ⟨hI.v0, hI.v1, hI.v2, hI.v3, hI.v4, hI.v5, (fun h => (hI.c h).same (same_alloc _ _)), hI.vm, hI.ve, hI.vt, (fun _ _ => ⟨W.heap.size, rfl, hBW, blk_new _ _⟩), (fun h => by have h2 := (hI.sb h).1; rw [hdi] at h2; cases h2)⟩, hsm.alloc _⟩
    | 11, _ =>
      have dA := hdep 10 (by kernel_rfl)
      have dE := hdep 8 (by kernel_rfl)
      obtain ⟨b, ub, hb0, hbb⟩ := (hI.ab dA hdi).out
      obtain ⟨d6, v, u6, ue⟩ := hI.ve dE
      obtain ⟨v', u6', hn⟩ := (hI.c d6).out
      obtain rfl : v' = v := by rw [u6] at u6'; simpa using u6'.symm
      obtain ⟨a1, a2, a3, c1, c2, c3, rfl, hrest⟩ := hn.out
      clear hrest
      have z0 : W.cell? ⟨b, 0, none⟩ = some (.bool false) := blk_cell hbb
      have z1 : W.cell? ⟨b, 1, none⟩ = some (.slice none 0 0) := blk_cell hbb
      have z2 : W.cell? ⟨b, 2, none⟩ = some (.slice none 0 0) := blk_cell hbb
      have z3 : W.cell? ⟨b, 3, none⟩ = some (.slice none 0 0) := blk_cell hbb
      have f0 : W.frozen? ⟨b, 0, none⟩ = false := blk_free hbb
      have f1 : W.frozen? ⟨b, 1, none⟩ = false := blk_free hbb
      have f2 : W.frozen? ⟨b, 2, none⟩ = false := blk_free hbb
      have f3 : W.frozen? ⟨b, 3, none⟩ = false := blk_free hbb
      have HBB := hidden hbb
      have HN := hidden hn
      clear hbb hn
      refine wpOp_step rfl (fun K' hK => ?_)
      have HK := hidden hK
      clear hK
      unfold cl13F
      simp only [ub, ue]
      go_simp
      have gf := fill4 HBB.out (.bool n.leaf) (.slice a1 n.keys.length c1) (.slice a2 n.vals.length c2) (.slice a3 n.kids.length c3)
      have kf := kept_fill4 (W := W) (g := b) (.bool n.leaf) (.slice a1 n.keys.length c1) (.slice a2 n.vals.length c2) (.slice a3 n.kids.length c3)
      have sf := same_fill4 hsm hb0 (.bool n.leaf) (.slice a1 n.keys.length c1) (.slice a2 n.vals.length c2) (.slice a3 n.kids.length c3)
      refine HK.out _ _ ⟨undef, (by unfold cl13F upd; simp [ub, ue, u6]), ?_, sf⟩
      exact ⟨hI.v0, hI.v1, hI.v2, hI.v3, hI.v4, hI.v5, (fun _ => ⟨_, u6, HN.out.keep kf (fun k hk => ⟨#[.bool false, .slice none 0 0, .slice none 0 0, .slice none 0 0], (by have e : k = b := hk; rw [e]; exact HBB.out)⟩)⟩), hI.vm, hI.ve, hI.vt, (fun _ h => absurd (show true = false from h) (by decide)), (fun _ => ⟨dA, dE, b, _, ub, hb0, ue, gf⟩)⟩
    | q + 12, h => exact absurd h (by omega)
  · intro d x W hsm hall hI
    obtain ⟨_, _, b, cs, ub, hb0, ue, hbb⟩ := hI.sb (hall 11 (by decide))
    obtain ⟨v, u6, hn⟩ := (hI.c (hall 6 (by decide))).out
    obtain ⟨_, v', u6', ue'⟩ := hI.ve (hall 8 (by decide))
    obtain rfl : v' = v := by rw [u6] at u6'; simpa using u6'.symm
    obtain rfl : v' = .agg cs := ue'.symm.trans ue
    have ut : x 9 = .bool t := hI.vt (hall 9 (by decide))
    refine wpOp_step rfl (fun K' hK => ?_)
    have HK := hidden hK
    clear hK
    have hfin := KQ.out (fun k => (cl13F (.slice (some ⟨ob, oo, none⟩) N oc) v1 v2 (.pointer (some ⟨BN, 0, none⟩)) v4 v5 (.int .i64 (i0 : Int)) v7 v8 v9 v10 v11 v12 v13 v14 v15 j x).tmps.getD k undef) b cs W hbb hb0 hn hsm
    have hfr : mpS (.slice (some ⟨ob, oo, none⟩) N oc) v1 v2 (.pointer (some ⟨BN, 0, none⟩)) v4 v5 (.int .i64 (i0 : Int)) v7 v8 (.pointer (some ⟨b, 0, none⟩)) (.bool t) v11 v12 v13 v14 v15 (fun k => (cl13F (.slice (some ⟨ob, oo, none⟩) N oc) v1 v2 (.pointer (some ⟨BN, 0, none⟩)) v4 v5 (.int .i64 (i0 : Int)) v7 v8 v9 v10 v11 v12 v13 v14 v15 j x).tmps.getD k undef) = cl13F (.slice (some ⟨ob, oo, none⟩) N oc) v1 v2 (.pointer (some ⟨BN, 0, none⟩)) v4 v5 (.int .i64 (i0 : Int)) v7 v8 v9 (.bool t) v11 v12 v13 v14 v15 j (upd x 10 (.pointer (some ⟨b, 0, none⟩))) := rfl
    rw [hfr] at hfin
    clear hfr hI hn hbb hall u6 u6' ue ue'
    unfold cl13F at hfin ⊢
    simp only [ub, ut, upd] at hfin ⊢
    go_simp
    exact HK.out _ _ hfin
def cl20F (v0 v1 v2 v3 v4 v5 v6 v7 v8 v9 v10 v11 v12 v13 v14 v15 : Value) (j x : Nat → Value) : Act := { tmps := #[v0, v1, v2, v3, v4, v5, v6, v7, v8, v9, v10, x 15, v12, v13, v14, v15, j 16, j 17, j 18, j 19, j 20, j 21, j 22, j 23, j 24, j 25, j 26, j 27, j 28, j 29, j 30, j 31, j 32, j 33, j 34, j 35, j 36, j 37, j 38, j 39, j 40, j 41, j 42, j 43, j 44, j 45, j 46, j 47, j 48, j 49, j 50, j 51, j 52, j 53, j 54, j 55, j 56, j 57, j 58, j 59, j 60, j 61, j 62, j 63, j 64, j 65, j 66, j 67, j 68, j 69, j 70, j 71, j 72, j 73, j 74, j 75, j 76, j 77, j 78, j 79, j 80, j 81, j 82, j 83, j 84, j 85, j 86, j 87, j 88, j 89, j 90, j 91, j 92, j 93, j 94, j 95, x 12, x 0, x 1, x 2, x 3, x 4, x 5, x 6, x 7, x 8, x 9, x 10, x 11, x 13, x 14, j 111, j 112, j 113, j 114, j 115, j 116, j 117, j 118, j 119, j 120, j 121, j 122, j 123, j 124, j 125, j 126, j 127, j 128, j 129, j 130, j 131, j 132, j 133, j 134, j 135, j 136, j 137, j 138, j 139, j 140, j 141, j 142, j 143, j 144, j 145, j 146, j 147, j 148, j 149, j 150, j 151, j 152, j 153, j 154, j 155, j 156, j 157, j 158, j 159, j 160, j 161, j 162, j 163, j 164, j 165, j 166, j 167, j 168, j 169, j 170, j 171, j 172, j 173, j 174, j 175, j 176, j 177, j 178, j 179, j 180, j 181, j 182, j 183, j 184, j 185, j 186, j 187, j 188, j 189, j 190, j 191, j 192, j 193, j 194, j 195, j 196, j 197, j 198], defers := [] }
structure cl20FI (w : World) (w0 w1 w2 w3 w4 w5 w6 w7 w8 w9 w10 tv : Value) (n : Nd) (d : Nat → Bool) (x : Nat → Value) (W : World) : Prop where
  v0 : d 0 = true → x 0 = w0
  v1 : d 1 = true → x 1 = w1
  v2 : d 2 = true → x 2 = w2
  v3 : d 3 = true → x 3 = w3
  v4 : d 4 = true → x 4 = w4
  v5 : d 5 = true → x 5 = w5
  v6 : d 6 = true → x 6 = w6
  v7 : d 7 = true → x 7 = w7
  v8 : d 8 = true → x 8 = w8
  v9 : d 9 = true → x 9 = w9
  v10 : d 10 = true → x 10 = w10
  c : d 11 = true → Cr w n tv (x 11) W
  vm : d 12 = true → d 11 = true ∧ x 12 = x 11
  ve : d 13 = true → d 11 = true ∧ ∃ v, x 11 = .tuple #[v, tv] ∧ x 13 = v
  vt : d 14 = true → x 14 = tv
  ab : d 15 = true → d 16 = false → Bx0 w (x 15) W
  sb : d 16 = true → d 15 = true ∧ d 13 = true ∧ ∃ b cs, x 15 = .pointer (some ⟨b, 0, none⟩) ∧ w.heap.size ≤ b ∧ x 13 = .agg cs ∧ W.heap[b]? = some (.cells cs 25 (0, 0))
set_option maxHeartbeats 2000000 in
set_option maxRecDepth 100000 in
theorem rg20 {Q : Exit → Act → World → Prop} {w : World} {v1 v2 v4 v5 v7 v8 v9 v10 v11 v12 v13 v14 v15 : Value} {j : Nat → Value} {ob oo N oc i0 BN : Nat} {key value : ByteArray} {s1 s2 s3 : Value} {n : Nd} {t : Int} {ops : Array Oper} (hops : findR 20 (Tryd.f7.body.getD .skip) = some ops) (hi0 : i0 < N)
    (hx : w.cell? ⟨ob, oo + i0 * 3, none⟩ = some (.string key)) (hy : w.cell? ⟨ob, oo + i0 * 3 + 1, none⟩ = some (.string value))
    (hb : w.heap[BN]? = some (.cells #[.bool true, s1, s2, s3] 25 (0, 0)))
    (hC : ∀ W, Same w W → Calls Tryd.prog 22 #[.agg #[.bool true, s1, s2, s3], .string key, .string value] W fun e w' => ∃ u, e = .returned u ∧ PuP W n t u w')
    (hQ : ∀ j' b v W, W.heap[b]? = some (.cells v 25 (0, 0)) → w.heap.size ≤ b → NF w.heap.size W (.agg v) n → Same w W → Q .normal (mpS (.slice (some ⟨ob, oo, none⟩) N oc) v1 v2 (.pointer (some ⟨BN, 0, none⟩)) v4 v5 (.int .i64 (i0 : Int)) v7 v8 v9 v10 (.pointer (some ⟨b, 0, none⟩)) (.int .i64 t) v13 v14 v15 j') W) : (Code.region 20 ops true).wp Tryd.prog Q (mpS (.slice (some ⟨ob, oo, none⟩) N oc) v1 v2 (.pointer (some ⟨BN, 0, none⟩)) v4 v5 (.int .i64 (i0 : Int)) v7 v8 v9 v10 v11 v12 v13 v14 v15 j) w := by
  cases hops
  have hmx : Tryd.prog.follows .mixedOrders = true := by kernel_rfl
  have q1 : (i0 : Int) < (N : Int) := by omega
  have q0 : (0 : Int) ≤ (i0 : Int) := Int.natCast_nonneg _
  have HX := hidden hx
  have HY := hidden hy
  have HB := hidden hb
  have HC := hidden hC
  have KQ := hidden hQ
  clear hQ hx hy hb hC
  refine region_grow (m := 17) (F := fun x => cl20F (.slice (some ⟨ob, oo, none⟩) N oc) v1 v2 (.pointer (some ⟨BN, 0, none⟩)) v4 v5 (.int .i64 (i0 : Int)) v7 v8 v9 v10 v11 v12 v13 v14 v15 j x) (I := cl20FI w (.agg #[.bool true, s1, s2, s3]) (.slice (some ⟨ob, oo, none⟩) N oc) (.int .i64 (i0 : Int)) (.pointer (some ⟨ob, oo + i0 * 3, none⟩)) (.pointer (some ⟨ob, oo + i0 * 3, none⟩)) (.string key) (.slice (some ⟨ob, oo, none⟩) N oc) (.int .i64 (i0 : Int)) (.pointer (some ⟨ob, oo + i0 * 3, none⟩)) (.pointer (some ⟨ob, oo + i0 * 3 + 1, none⟩)) (.string value) (.int .i64 t) n) hmx (by kernel_rfl) (fun t => if t = 0 then j 97 else if t = 1 then j 98 else if t = 2 then j 99 else if t = 3 then j 100 else if t = 4 then j 101 else if t = 5 then j 102 else if t = 6 then j 103 else if t = 7 then j 104 else if t = 8 then j 105 else if t = 9 then j 106 else if t = 10 then j 107 else if t = 11 then j 108 else if t = 12 then j 96 else if t = 13 then j 109 else if t = 14 then j 110 else if t = 15 then v11 else undef) rfl ⟨(fun h => by cases h), (fun h => by cases h), (fun h => by cases h), (fun h => by cases h), (fun h => by cases h), (fun h => by cases h), (fun h => by cases h), (fun h => by cases h), (fun h => by cases h), (fun h => by cases h), (fun h => by cases h), (fun h => by cases h), (fun h => by cases h), (fun h => by cases h), (fun h => by cases h), (fun h => by cases h), (fun h => by cases h)⟩ ?_ ?_
  · intro i him d x W hsm hdi hdep hI
    have hBW : w.heap.size ≤ W.heap.size := hsm.size
    have zx := hsm.cell (fun h => h) HX.out
    have zy := hsm.cell (fun h => h) HY.out
    have hbW := blk_kept hsm (fun h => h) HB.out
    have b0 : W.cell? ⟨BN, 0, none⟩ = some (.bool true) := blk_cell hbW
    have b1 : W.cell? ⟨BN, 1, none⟩ = some s1 := blk_cell hbW
    have b2 : W.cell? ⟨BN, 2, none⟩ = some s2 := blk_cell hbW
    have b3 : W.cell? ⟨BN, 3, none⟩ = some s3 := blk_cell hbW
    clear hbW
    match i, him with
    | 0, _ =>
      refine wpOp_step rfl (fun K' hK => ?_)
      have HK := hidden hK
      clear hK
      unfold cl20F
      go_simp
      exact HK.out _ _ ⟨.agg #[.bool true, s1, s2, s3], (by unfold cl20F upd; simp), ⟨(fun _ => rfl), hI.v1, hI.v2, hI.v3, hI.v4, hI.v5, hI.v6, hI.v7, hI.v8, hI.v9, hI.v10, hI.c, hI.vm, hI.ve, hI.vt, hI.ab, hI.sb⟩, hsm⟩
    | 1, _ =>
      refine wpOp_step rfl (fun K' hK => ?_)
      have HK := hidden hK
      clear hK
      unfold cl20F
      go_simp
      exact HK.out _ _ ⟨.slice (some ⟨ob, oo, none⟩) N oc, (by unfold cl20F upd; simp), ⟨hI.v0, (fun _ => rfl), hI.v2, hI.v3, hI.v4, hI.v5, hI.v6, hI.v7, hI.v8, hI.v9, hI.v10, hI.c, hI.vm, hI.ve, hI.vt, hI.ab, hI.sb⟩, hsm⟩
    | 2, _ =>
      refine wpOp_step rfl (fun K' hK => ?_)
      have HK := hidden hK
      clear hK
      unfold cl20F
      go_simp
      exact HK.out _ _ ⟨.int .i64 (i0 : Int), (by unfold cl20F upd; simp), ⟨hI.v0, hI.v1, (fun _ => rfl), hI.v3, hI.v4, hI.v5, hI.v6, hI.v7, hI.v8, hI.v9, hI.v10, hI.c, hI.vm, hI.ve, hI.vt, hI.ab, hI.sb⟩, hsm⟩
    | 3, _ =>
      have u1 : x 1 = .slice (some ⟨ob, oo, none⟩) N oc := hI.v1 (hdep 1 (by kernel_rfl))
      have u2 : x 2 = .int .i64 (i0 : Int) := hI.v2 (hdep 2 (by kernel_rfl))
      refine wpOp_step rfl (fun K' hK => ?_)
      have HK := hidden hK
      clear hK
      unfold cl20F
      simp only [u1, u2]
      go_simp
      exact HK.out _ _ ⟨.pointer (some ⟨ob, oo + i0 * 3, none⟩), (by unfold cl20F upd; simp [u1, u2]), ⟨hI.v0, hI.v1, hI.v2, (fun _ => rfl), hI.v4, hI.v5, hI.v6, hI.v7, hI.v8, hI.v9, hI.v10, hI.c, hI.vm, hI.ve, hI.vt, hI.ab, hI.sb⟩, hsm⟩
    | 4, _ =>
      have u3 : x 3 = .pointer (some ⟨ob, oo + i0 * 3, none⟩) := hI.v3 (hdep 3 (by kernel_rfl))
      refine wpOp_step rfl (fun K' hK => ?_)
      have HK := hidden hK
      clear hK
      unfold cl20F
      simp only [u3]
      go_simp
      exact HK.out _ _ ⟨.pointer (some ⟨ob, oo + i0 * 3, none⟩), (by unfold cl20F upd; simp [u3]), ⟨hI.v0, hI.v1, hI.v2, hI.v3, (fun _ => rfl), hI.v5, hI.v6, hI.v7, hI.v8, hI.v9, hI.v10, hI.c, hI.vm, hI.ve, hI.vt, hI.ab, hI.sb⟩, hsm⟩
    | 5, _ =>
      have u4 : x 4 = .pointer (some ⟨ob, oo + i0 * 3, none⟩) := hI.v4 (hdep 4 (by kernel_rfl))
      refine wpOp_step rfl (fun K' hK => ?_)
      have HK := hidden hK
      clear hK
      unfold cl20F
      simp only [u4]
      go_simp
      exact HK.out _ _ ⟨.string key, (by unfold cl20F upd; simp [u4]), ⟨hI.v0, hI.v1, hI.v2, hI.v3, hI.v4, (fun _ => rfl), hI.v6, hI.v7, hI.v8, hI.v9, hI.v10, hI.c, hI.vm, hI.ve, hI.vt, hI.ab, hI.sb⟩, hsm⟩
    | 6, _ =>
      refine wpOp_step rfl (fun K' hK => ?_)
      have HK := hidden hK
      clear hK
      unfold cl20F
      go_simp
      exact HK.out _ _ ⟨.slice (some ⟨ob, oo, none⟩) N oc, (by unfold cl20F upd; simp), ⟨hI.v0, hI.v1, hI.v2, hI.v3, hI.v4, hI.v5, (fun _ => rfl), hI.v7, hI.v8, hI.v9, hI.v10, hI.c, hI.vm, hI.ve, hI.vt, hI.ab, hI.sb⟩, hsm⟩
    | 7, _ =>
      refine wpOp_step rfl (fun K' hK => ?_)
      have HK := hidden hK
      clear hK
      unfold cl20F
      go_simp
      exact HK.out _ _ ⟨.int .i64 (i0 : Int), (by unfold cl20F upd; simp), ⟨hI.v0, hI.v1, hI.v2, hI.v3, hI.v4, hI.v5, hI.v6, (fun _ => rfl), hI.v8, hI.v9, hI.v10, hI.c, hI.vm, hI.ve, hI.vt, hI.ab, hI.sb⟩, hsm⟩
    | 8, _ =>
      have u6 : x 6 = .slice (some ⟨ob, oo, none⟩) N oc := hI.v6 (hdep 6 (by kernel_rfl))
      have u7 : x 7 = .int .i64 (i0 : Int) := hI.v7 (hdep 7 (by kernel_rfl))
      refine wpOp_step rfl (fun K' hK => ?_)
      have HK := hidden hK
      clear hK
      unfold cl20F
      simp only [u6, u7]
      go_simp
      exact HK.out _ _ ⟨.pointer (some ⟨ob, oo + i0 * 3, none⟩), (by unfold cl20F upd; simp [u6, u7]), ⟨hI.v0, hI.v1, hI.v2, hI.v3, hI.v4, hI.v5, hI.v6, hI.v7, (fun _ => rfl), hI.v9, hI.v10, hI.c, hI.vm, hI.ve, hI.vt, hI.ab, hI.sb⟩, hsm⟩
    | 9, _ =>
      have u8 : x 8 = .pointer (some ⟨ob, oo + i0 * 3, none⟩) := hI.v8 (hdep 8 (by kernel_rfl))
      refine wpOp_step rfl (fun K' hK => ?_)
      have HK := hidden hK
      clear hK
      unfold cl20F
      simp only [u8]
      go_simp
      exact HK.out _ _ ⟨.pointer (some ⟨ob, oo + i0 * 3 + 1, none⟩), (by unfold cl20F upd; simp [u8]), ⟨hI.v0, hI.v1, hI.v2, hI.v3, hI.v4, hI.v5, hI.v6, hI.v7, hI.v8, (fun _ => rfl), hI.v10, hI.c, hI.vm, hI.ve, hI.vt, hI.ab, hI.sb⟩, hsm⟩
    | 10, _ =>
      have u9 : x 9 = .pointer (some ⟨ob, oo + i0 * 3 + 1, none⟩) := hI.v9 (hdep 9 (by kernel_rfl))
      refine wpOp_step rfl (fun K' hK => ?_)
      have HK := hidden hK
      clear hK
      unfold cl20F
      simp only [u9]
      go_simp
      exact HK.out _ _ ⟨.string value, (by unfold cl20F upd; simp [u9]), ⟨hI.v0, hI.v1, hI.v2, hI.v3, hI.v4, hI.v5, hI.v6, hI.v7, hI.v8, hI.v9, (fun _ => rfl), hI.c, hI.vm, hI.ve, hI.vt, hI.ab, hI.sb⟩, hsm⟩
    | 11, _ =>
      have u0 : x 0 = .agg #[.bool true, s1, s2, s3] := hI.v0 (hdep 0 (by kernel_rfl))
      have u5 : x 5 = .string key := hI.v5 (hdep 5 (by kernel_rfl))
      have u10 : x 10 = .string value := hI.v10 (hdep 10 (by kernel_rfl))
      refine wpOp_step rfl (fun K' hK => ?_)
      refine step_call rfl 22 #[.agg #[.bool true, s1, s2, s3], .string key, .string value] (fun u W' => PuP W n t u W') (by unfold cl20F; simp only [u0, u5, u10]; go_simp; try rfl) ((HC.out W hsm).mono fun e w' ⟨u, h1, h2⟩ => ⟨u, h1, h2⟩) ?_
      intro u W' hu
      obtain ⟨v, rfl, hn, hq⟩ := hu.out
      exact hK _ _ ⟨_, rfl, ⟨hI.v0, hI.v1, hI.v2, hI.v3, hI.v4, hI.v5, hI.v6, hI.v7, hI.v8, hI.v9, hI.v10, (fun _ => ⟨v, rfl, hn.mono hBW⟩), (fun h => by have h2 := (hI.vm h).1; rw [hdi] at h2; cases h2), (fun h => by have h2 := (hI.ve h).1; rw [hdi] at h2; cases h2), hI.vt, (fun h1 h2 => (hI.ab h1 h2).same hq), (fun h => by have h2 := (hI.ve (hI.sb h).2.1).1; rw [hdi] at h2; cases h2)⟩, hsm.trans hq⟩
    | 12, _ =>
      have d6 := hdep 11 (by kernel_rfl)
      refine wpOp_step rfl (fun K' hK => ?_)
      have HK := hidden hK
      clear hK
      unfold cl20F
      go_simp
      exact HK.out _ _ ⟨x 11, (by unfold cl20F upd; simp), ⟨hI.v0, hI.v1, hI.v2, hI.v3, hI.v4, hI.v5, hI.v6, hI.v7, hI.v8, hI.v9, hI.v10, hI.c, (fun _ => ⟨d6, rfl⟩), hI.ve, hI.vt, hI.ab, hI.sb⟩, hsm⟩
    | 13, _ =>
      have h7 := hI.vm (hdep 12 (by kernel_rfl))
      obtain ⟨v, u6, hn⟩ := (hI.c h7.1).out
      have u7 : x 12 = .tuple #[v, .int .i64 t] := h7.2.trans u6
      refine wpOp_step rfl (fun K' hK => ?_)
      have HK := hidden hK
      clear hK
      unfold cl20F
      simp only [u7]
      go_simp
      exact HK.out _ _ ⟨v, (by unfold cl20F upd; simp [u6, u7]), ⟨hI.v0, hI.v1, hI.v2, hI.v3, hI.v4, hI.v5, hI.v6, hI.v7, hI.v8, hI.v9, hI.v10, hI.c, hI.vm, (fun _ => ⟨h7.1, v, u6, rfl⟩), hI.vt, hI.ab, (fun h => by have h2 := (hI.sb h).2.1; rw [hdi] at h2; cases h2)⟩, hsm⟩
    | 14, _ =>
      have h7 := hI.vm (hdep 12 (by kernel_rfl))
      obtain ⟨v, u6, hn⟩ := (hI.c h7.1).out
      have u7 : x 12 = .tuple #[v, .int .i64 t] := h7.2.trans u6
      refine wpOp_step rfl (fun K' hK => ?_)
      have HK := hidden hK
      clear hK
      unfold cl20F
      simp only [u7]
      go_simp
      exact HK.out _ _ ⟨.int .i64 t, (by unfold cl20F upd; simp [u6, u7]), ⟨hI.v0, hI.v1, hI.v2, hI.v3, hI.v4, hI.v5, hI.v6, hI.v7, hI.v8, hI.v9, hI.v10, hI.c, hI.vm, hI.ve, (fun _ => rfl), hI.ab, hI.sb⟩, hsm⟩
    | 15, _ =>
      refine wpOp_step rfl (fun K' hK => ?_)
      have HK := hidden hK
      clear hK
      unfold cl20F
      go_simp
      exact HK.out _ _ ⟨.pointer (some ⟨W.heap.size, 0, none⟩), (by unfold cl20F upd; simp), ⟨hI.v0, hI.v1, hI.v2, hI.v3, hI.v4, hI.v5, hI.v6, hI.v7, hI.v8, hI.v9, hI.v10, (fun h => (hI.c h).same (same_alloc _ _)), hI.vm, hI.ve, hI.vt, (fun _ _ => ⟨W.heap.size, rfl, hBW, blk_new _ _⟩), (fun h => by have h2 := (hI.sb h).1; rw [hdi] at h2; cases h2)⟩, hsm.alloc _⟩
    | 16, _ =>
      have dA := hdep 15 (by kernel_rfl)
      have dE := hdep 13 (by kernel_rfl)
      obtain ⟨b, ub, hb0, hbb⟩ := (hI.ab dA hdi).out
      obtain ⟨d6, v, u6, ue⟩ := hI.ve dE
      obtain ⟨v', u6', hn⟩ := (hI.c d6).out
      obtain rfl : v' = v := by rw [u6] at u6'; simpa using u6'.symm
      obtain ⟨a1, a2, a3, c1, c2, c3, rfl, hrest⟩ := hn.out
      clear hrest
      have z0 : W.cell? ⟨b, 0, none⟩ = some (.bool false) := blk_cell hbb
      have z1 : W.cell? ⟨b, 1, none⟩ = some (.slice none 0 0) := blk_cell hbb
      have z2 : W.cell? ⟨b, 2, none⟩ = some (.slice none 0 0) := blk_cell hbb
      have z3 : W.cell? ⟨b, 3, none⟩ = some (.slice none 0 0) := blk_cell hbb
      have f0 : W.frozen? ⟨b, 0, none⟩ = false := blk_free hbb
      have f1 : W.frozen? ⟨b, 1, none⟩ = false := blk_free hbb
      have f2 : W.frozen? ⟨b, 2, none⟩ = false := blk_free hbb
      have f3 : W.frozen? ⟨b, 3, none⟩ = false := blk_free hbb
      have HBB := hidden hbb
      have HN := hidden hn
      clear hbb hn
      refine wpOp_step rfl (fun K' hK => ?_)
      have HK := hidden hK
      clear hK
      unfold cl20F
      simp only [ub, ue]
      go_simp
      have gf := fill4 HBB.out (.bool n.leaf) (.slice a1 n.keys.length c1) (.slice a2 n.vals.length c2) (.slice a3 n.kids.length c3)
      have kf := kept_fill4 (W := W) (g := b) (.bool n.leaf) (.slice a1 n.keys.length c1) (.slice a2 n.vals.length c2) (.slice a3 n.kids.length c3)
      have sf := same_fill4 hsm hb0 (.bool n.leaf) (.slice a1 n.keys.length c1) (.slice a2 n.vals.length c2) (.slice a3 n.kids.length c3)
      refine HK.out _ _ ⟨undef, (by unfold cl20F upd; simp [ub, ue, u6]), ?_, sf⟩
      exact ⟨hI.v0, hI.v1, hI.v2, hI.v3, hI.v4, hI.v5, hI.v6, hI.v7, hI.v8, hI.v9, hI.v10, (fun _ => ⟨_, u6, HN.out.keep kf (fun k hk => ⟨#[.bool false, .slice none 0 0, .slice none 0 0, .slice none 0 0], (by have e : k = b := hk; rw [e]; exact HBB.out)⟩)⟩), hI.vm, hI.ve, hI.vt, (fun _ h => absurd (show true = false from h) (by decide)), (fun _ => ⟨dA, dE, b, _, ub, hb0, ue, gf⟩)⟩
    | q + 17, h => exact absurd h (by omega)
  · intro d x W hsm hall hI
    obtain ⟨_, _, b, cs, ub, hb0, ue, hbb⟩ := hI.sb (hall 16 (by decide))
    obtain ⟨v, u6, hn⟩ := (hI.c (hall 11 (by decide))).out
    obtain ⟨_, v', u6', ue'⟩ := hI.ve (hall 13 (by decide))
    obtain rfl : v' = v := by rw [u6] at u6'; simpa using u6'.symm
    obtain rfl : v' = .agg cs := ue'.symm.trans ue
    have ut : x 14 = .int .i64 t := hI.vt (hall 14 (by decide))
    refine wpOp_step rfl (fun K' hK => ?_)
    have HK := hidden hK
    clear hK
    have hfin := KQ.out (fun k => (cl20F (.slice (some ⟨ob, oo, none⟩) N oc) v1 v2 (.pointer (some ⟨BN, 0, none⟩)) v4 v5 (.int .i64 (i0 : Int)) v7 v8 v9 v10 v11 v12 v13 v14 v15 j x).tmps.getD k undef) b cs W hbb hb0 hn hsm
    have hfr : mpS (.slice (some ⟨ob, oo, none⟩) N oc) v1 v2 (.pointer (some ⟨BN, 0, none⟩)) v4 v5 (.int .i64 (i0 : Int)) v7 v8 v9 v10 (.pointer (some ⟨b, 0, none⟩)) (.int .i64 t) v13 v14 v15 (fun k => (cl20F (.slice (some ⟨ob, oo, none⟩) N oc) v1 v2 (.pointer (some ⟨BN, 0, none⟩)) v4 v5 (.int .i64 (i0 : Int)) v7 v8 v9 v10 v11 v12 v13 v14 v15 j x).tmps.getD k undef) = cl20F (.slice (some ⟨ob, oo, none⟩) N oc) v1 v2 (.pointer (some ⟨BN, 0, none⟩)) v4 v5 (.int .i64 (i0 : Int)) v7 v8 v9 v10 v11 (.int .i64 t) v13 v14 v15 j (upd x 15 (.pointer (some ⟨b, 0, none⟩))) := rfl
    rw [hfr] at hfin
    clear hfr hI hn hbb hall u6 u6' ue ue'
    unfold cl20F at hfin ⊢
    simp only [ub, ut, upd] at hfin ⊢
    go_simp
    exact HK.out _ _ hfin
end Go.Proofs.YtilnogadopmboaaDoor
