/- The document's Fork. (Made by mkspf.py.) -/
import Derived.Test.YtbmbdidmbdanmaaDoorSpL2
namespace Go.Proofs.YtbmbdidmbdanmaaDoor
open Go.RowKit Go.Shelf
set_option linter.unusedVariables false
set_option linter.unusedSimpArgs false
variable {zp : Spare}
def vals (count : Nat) (u v : Nat → Bool) : List Value := (List.range count).map fun i => Value.int .i64 (wh u v i)
theorem infoI : (Tryd.prog.info? 3).map (fun i => (i.zero, i.size, i.bytes)) = some (some (.int .i64 0), 1, 8) := by kernel_rfl
def fkF (q : Nat) (x : Nat → Value) : Act := { tmps := #[.pointer (some ⟨q, 0, none⟩), undef, .pointer none, x 0, x 1, x 2, x 3, x 4, x 5, x 6, x 7, x 8, x 9, x 10, x 11, x 12, x 13, x 14, x 15], defers := [] }
/-- What is known of what has been done. -/
structure FkI (w : World) (zp : Spare) (q r first count : Nat) (u v : Nat → Bool) (res : Nat) (d : Nat → Bool) (x : Nat → Value) (W : World) : Prop where
  v0 : d 0 = true → x 0 = .pointer (some ⟨q, 0, none⟩)
  v1 : d 1 = true → x 1 = .pointer (some ⟨q, 0, none⟩)
  v2 : d 2 = true → x 2 = .pointer (some ⟨q, 0, none⟩)
  v3 : d 3 = true → x 3 = .int .i64 first
  v4 : d 4 = true → d 9 = false → ∃ b, x 4 = .slice (some ⟨b, 0, none⟩) 0 0 ∧ W.ownsRow w.heap.size 3 1 (.slice (some ⟨b, 0, none⟩) 0 0) 0 []
  v5 : d 5 = true → x 5 = .pointer (some ⟨q, 0, none⟩)
  v6 : d 6 = true → x 6 = .pointer (some ⟨q, 0, none⟩)
  v7 : d 7 = true → x 7 = .pointer (some ⟨q, 1, none⟩)
  v8 : d 8 = true → x 8 = .slice (some ⟨r, 0, none⟩) count zp.cap
  v9 : d 9 = true → ∃ a c, x 9 = .slice a count c ∧ W.ownsRow w.heap.size 3 1 (.slice a count c) count (vals count u v)
  v10 : d 10 = true → x 10 = .pointer (some ⟨q, 0, none⟩)
  v11 : d 11 = true → x 11 = .pointer (some ⟨q, 0, none⟩)
  v12 : d 12 = true → x 12 = .pointer (some ⟨q, 2, none⟩)
  v13 : d 13 = true → x 13 = .int .i64 res
  v14 : d 14 = true → d 9 = true ∧ ∃ a c, x 9 = .slice a count c ∧ x 14 = .agg #[.int .i64 first, .slice a count c, .int .i64 res]
  v15 : d 15 = true → d 9 = true ∧ ∃ a c b, x 9 = .slice a count c ∧ x 15 = .pointer (some ⟨b, 0, none⟩) ∧ w.heap.size ≤ b ∧ W.heap[b]? = some (.cells #[.int .i64 first, .slice a count c, .int .i64 res] 66 (0, 0))
theorem own_cur {w : World} {B n c : Nat} {a : Option Addr} {e : TypeId} {xs : List Value} (h : w.ownsRow B e 1 (.slice a n c) n xs) (hn : 1 ≤ n) : ∃ g tl, a = some ⟨g, 0, none⟩ ∧ B ≤ g ∧ w.heap[g]? = some (.cells (xs.toArray ++ tl) e (0, 0)) := by
  rcases h.2 with ⟨h2, h3⟩ | ⟨g, cap, cur, hv, hb, hg, _, _, _, ht⟩
  · omega
  · obtain ⟨rfl, _⟩ : a = _ ∧ _ := by simpa using hv
    refine ⟨g, (cur.toList.drop (n * 1)).toArray, rfl, hb, ?_⟩
    rw [hg]
    congr 2
    apply Array.ext'
    rw [Array.toList_append, ← ht]
    simp
set_option maxHeartbeats 2000000 in
set_option maxRecDepth 100000 in
theorem rf_fork (q r first count : Nat) (u v : Nat → Bool) (res : Nat) (w : World) (h : RfAt zp q r first count u v res w) (hc1 : 1 ≤ count) (hc2 : count ≤ 4096) :
    Calls Tryd.prog 14 #[.pointer (some ⟨q, 0, none⟩)] w fun e w' => ∃ q2, e = .returned (.pointer (some ⟨q2, 0, none⟩)) ∧ ∃ r2 zp2, w.heap.size ≤ q2 ∧ w.heap.size ≤ r2 ∧ RfAt zp2 q2 r2 first count u v res w' ∧ Same w w' := by
  have HH := hidden (fun W (k : Same w W) => h.kept k (fun h => h) (fun h => h))
  have HV : Hid (∀ W, Same w W → ∀ j y, (vals count u v)[j]? = some y → W.cell? ((⟨r, 0, none⟩ : Addr).add j) = some y) := fun W k j y hy => by
    have hj : j < count := by
      have := (List.getElem?_eq_some_iff.1 hy).1
      simpa [vals] using this
    rw [add_plain, Nat.zero_add]
    rw [blk_cell ((h.kept k (fun h => h) (fun h => h)).rowA), rwA_at _ _ hj]
    simp [vals, hj] at hy
    rw [hy]
  obtain ⟨i0, hi0, hz0, hz1, hz2⟩ := info_parts infoI
  have hmx : Tryd.prog.follows .mixedOrders = true := by kernel_rfl
  clear h
  go_enter Tryd.func14, Tryd.ntmps14
  go_wp2
  rename_i KQ
  change Code.wp _ _ _ (fkF q (fun _ => undef)) w
  refine region_grow (m := 16) (F := fun x => fkF q x) (I := fun d x W => FkI w zp q r first count u v res d x W) hmx (by kernel_rfl) (fun _ => undef) rfl ⟨(fun h => by cases h), (fun h => by cases h), (fun h => by cases h), (fun h => by cases h), (fun h => by cases h), (fun h => by cases h), (fun h => by cases h), (fun h => by cases h), (fun h => by cases h), (fun h => by cases h), (fun h => by cases h), (fun h => by cases h), (fun h => by cases h), (fun h => by cases h), (fun h => by cases h), (fun h => by cases h)⟩ ?_ ?_
  · intro i hi9 d x W hsm hdi hdep hI
    clear KQ
    have hbx := (HH.out W hsm).box
    have c0 : W.cell? ⟨q, 0, none⟩ = some (.int .i64 first) := blk_cell hbx
    have c1 : W.cell? ⟨q, 1, none⟩ = some (.slice (some ⟨r, 0, none⟩) count zp.cap) := blk_cell hbx
    have c2 : W.cell? ⟨q, 2, none⟩ = some (.int .i64 res) := blk_cell hbx
    match i, hi9 with
    | 0, _ =>
      refine wpOp_step rfl (fun K' hK => ?_)
      have HK := hidden hK
      clear hK
      unfold fkF
      go_simp
      exact HK.out _ _ ⟨.pointer (some ⟨q, 0, none⟩), (by unfold fkF upd; simp), ⟨(fun _ => rfl), hI.v1, hI.v2, hI.v3, hI.v4, hI.v5, hI.v6, hI.v7, hI.v8, hI.v9, hI.v10, hI.v11, hI.v12, hI.v13, hI.v14, hI.v15⟩, hsm⟩
    | 1, _ =>
      have u0 : x 0 = .pointer (some ⟨q, 0, none⟩) := hI.v0 (hdep 0 (by kernel_rfl))
      refine wpOp_step rfl (fun K' hK => ?_)
      have HK := hidden hK
      clear hK
      unfold fkF
      simp only [u0]
      go_simp
      exact HK.out _ _ ⟨.pointer (some ⟨q, 0, none⟩), (by unfold fkF upd; simp [u0]), ⟨hI.v0, (fun _ => rfl), hI.v2, hI.v3, hI.v4, hI.v5, hI.v6, hI.v7, hI.v8, hI.v9, hI.v10, hI.v11, hI.v12, hI.v13, hI.v14, hI.v15⟩, hsm⟩
    | 2, _ =>
      have u1 : x 1 = .pointer (some ⟨q, 0, none⟩) := hI.v1 (hdep 1 (by kernel_rfl))
      refine wpOp_step rfl (fun K' hK => ?_)
      have HK := hidden hK
      clear hK
      unfold fkF
      simp only [u1]
      go_simp
      exact HK.out _ _ ⟨.pointer (some ⟨q, 0, none⟩), (by unfold fkF upd; simp [u1]), ⟨hI.v0, hI.v1, (fun _ => rfl), hI.v3, hI.v4, hI.v5, hI.v6, hI.v7, hI.v8, hI.v9, hI.v10, hI.v11, hI.v12, hI.v13, hI.v14, hI.v15⟩, hsm⟩
    | 3, _ =>
      have u2 : x 2 = .pointer (some ⟨q, 0, none⟩) := hI.v2 (hdep 2 (by kernel_rfl))
      refine wpOp_step rfl (fun K' hK => ?_)
      have HK := hidden hK
      clear hK
      unfold fkF
      simp only [u2]
      go_simp
      exact HK.out _ _ ⟨.int .i64 first, (by unfold fkF upd; simp [u2]), ⟨hI.v0, hI.v1, hI.v2, (fun _ => rfl), hI.v4, hI.v5, hI.v6, hI.v7, hI.v8, hI.v9, hI.v10, hI.v11, hI.v12, hI.v13, hI.v14, hI.v15⟩, hsm⟩
    | 5, _ =>
      refine wpOp_step rfl (fun K' hK => ?_)
      have HK := hidden hK
      clear hK
      unfold fkF
      go_simp
      exact HK.out _ _ ⟨.pointer (some ⟨q, 0, none⟩), (by unfold fkF upd; simp), ⟨hI.v0, hI.v1, hI.v2, hI.v3, hI.v4, (fun _ => rfl), hI.v6, hI.v7, hI.v8, hI.v9, hI.v10, hI.v11, hI.v12, hI.v13, hI.v14, hI.v15⟩, hsm⟩
    | 6, _ =>
      have u5 : x 5 = .pointer (some ⟨q, 0, none⟩) := hI.v5 (hdep 5 (by kernel_rfl))
      refine wpOp_step rfl (fun K' hK => ?_)
      have HK := hidden hK
      clear hK
      unfold fkF
      simp only [u5]
      go_simp
      exact HK.out _ _ ⟨.pointer (some ⟨q, 0, none⟩), (by unfold fkF upd; simp [u5]), ⟨hI.v0, hI.v1, hI.v2, hI.v3, hI.v4, hI.v5, (fun _ => rfl), hI.v7, hI.v8, hI.v9, hI.v10, hI.v11, hI.v12, hI.v13, hI.v14, hI.v15⟩, hsm⟩
    | 7, _ =>
      have u6 : x 6 = .pointer (some ⟨q, 0, none⟩) := hI.v6 (hdep 6 (by kernel_rfl))
      refine wpOp_step rfl (fun K' hK => ?_)
      have HK := hidden hK
      clear hK
      unfold fkF
      simp only [u6]
      go_simp
      exact HK.out _ _ ⟨.pointer (some ⟨q, 1, none⟩), (by unfold fkF upd; simp [u6]), ⟨hI.v0, hI.v1, hI.v2, hI.v3, hI.v4, hI.v5, hI.v6, (fun _ => rfl), hI.v8, hI.v9, hI.v10, hI.v11, hI.v12, hI.v13, hI.v14, hI.v15⟩, hsm⟩
    | 8, _ =>
      have u7 : x 7 = .pointer (some ⟨q, 1, none⟩) := hI.v7 (hdep 7 (by kernel_rfl))
      refine wpOp_step rfl (fun K' hK => ?_)
      have HK := hidden hK
      clear hK
      unfold fkF
      simp only [u7]
      go_simp
      exact HK.out _ _ ⟨.slice (some ⟨r, 0, none⟩) count zp.cap, (by unfold fkF upd; simp [u7]), ⟨hI.v0, hI.v1, hI.v2, hI.v3, hI.v4, hI.v5, hI.v6, hI.v7, (fun _ => rfl), hI.v9, hI.v10, hI.v11, hI.v12, hI.v13, hI.v14, hI.v15⟩, hsm⟩
    | 10, _ =>
      refine wpOp_step rfl (fun K' hK => ?_)
      have HK := hidden hK
      clear hK
      unfold fkF
      go_simp
      exact HK.out _ _ ⟨.pointer (some ⟨q, 0, none⟩), (by unfold fkF upd; simp), ⟨hI.v0, hI.v1, hI.v2, hI.v3, hI.v4, hI.v5, hI.v6, hI.v7, hI.v8, hI.v9, (fun _ => rfl), hI.v11, hI.v12, hI.v13, hI.v14, hI.v15⟩, hsm⟩
    | 11, _ =>
      have u10 : x 10 = .pointer (some ⟨q, 0, none⟩) := hI.v10 (hdep 10 (by kernel_rfl))
      refine wpOp_step rfl (fun K' hK => ?_)
      have HK := hidden hK
      clear hK
      unfold fkF
      simp only [u10]
      go_simp
      exact HK.out _ _ ⟨.pointer (some ⟨q, 0, none⟩), (by unfold fkF upd; simp [u10]), ⟨hI.v0, hI.v1, hI.v2, hI.v3, hI.v4, hI.v5, hI.v6, hI.v7, hI.v8, hI.v9, hI.v10, (fun _ => rfl), hI.v12, hI.v13, hI.v14, hI.v15⟩, hsm⟩
    | 12, _ =>
      have u11 : x 11 = .pointer (some ⟨q, 0, none⟩) := hI.v11 (hdep 11 (by kernel_rfl))
      refine wpOp_step rfl (fun K' hK => ?_)
      have HK := hidden hK
      clear hK
      unfold fkF
      simp only [u11]
      go_simp
      exact HK.out _ _ ⟨.pointer (some ⟨q, 2, none⟩), (by unfold fkF upd; simp [u11]), ⟨hI.v0, hI.v1, hI.v2, hI.v3, hI.v4, hI.v5, hI.v6, hI.v7, hI.v8, hI.v9, hI.v10, hI.v11, (fun _ => rfl), hI.v13, hI.v14, hI.v15⟩, hsm⟩
    | 13, _ =>
      have u12 : x 12 = .pointer (some ⟨q, 2, none⟩) := hI.v12 (hdep 12 (by kernel_rfl))
      refine wpOp_step rfl (fun K' hK => ?_)
      have HK := hidden hK
      clear hK
      unfold fkF
      simp only [u12]
      go_simp
      exact HK.out _ _ ⟨.int .i64 res, (by unfold fkF upd; simp [u12]), ⟨hI.v0, hI.v1, hI.v2, hI.v3, hI.v4, hI.v5, hI.v6, hI.v7, hI.v8, hI.v9, hI.v10, hI.v11, hI.v12, (fun _ => rfl), hI.v14, hI.v15⟩, hsm⟩
    | 4, _ =>
      refine wpOp_step rfl (fun K' hK => ?_)
      have HK := hidden hK
      clear hK
      unfold fkF
      go_simp
      exact HK.out _ _ ⟨.slice (some ⟨W.heap.size, 0, none⟩) 0 0, (by unfold fkF upd; simp), ⟨hI.v0, hI.v1, hI.v2, hI.v3, (fun _ _ => ⟨W.heap.size, rfl, World.ownsRow_made W #[] 0 hsm.size (by decide) (by decide)⟩), hI.v5, hI.v6, hI.v7, hI.v8, (fun h1 => let ⟨a, c, e, o⟩ := hI.v9 h1; ⟨a, c, e, o.alloc _⟩), hI.v10, hI.v11, hI.v12, hI.v13, hI.v14, (fun h1 => let ⟨h, a, c, b, e1, e2, e3, e4⟩ := hI.v15 h1; ⟨h, a, c, b, e1, e2, e3, blk_alloc e4 _⟩)⟩, hsm.alloc _⟩
    | 9, _ =>
      obtain ⟨b, u4, hown⟩ := hI.v4 (hdep 4 (by kernel_rfl)) hdi
      have u8 : x 8 = .slice (some ⟨r, 0, none⟩) count zp.cap := hI.v8 (hdep 8 (by kernel_rfl))
      refine wpOp_step rfl (fun K' hK => ?_)
      refine step_append_any rfl _ _ 39 rfl w.heap.size 3 i0 _ 1 8 Tryd.underlying39 hi0 hz0 hz1 hz2 rfl (by decide) (some ⟨b, 0, none⟩) 0 0 [] u4 hown (some ⟨r, 0, none⟩) count zp.cap (vals count u v) u8 (by simp [vals]) (lies_of (HV.out W hsm)) (fun y hy => by obtain ⟨i, _, rfl⟩ := List.mem_map.1 hy; rfl) (by unfold maxLen; omega) (by omega) hsm.size ?_
      intro a2 c2 w2 ho2 hg2
      rw [Nat.zero_add, List.nil_append] at ho2
      have k2 := same_grown (m := 0) hsm hown hg2
      rw [Nat.zero_add]
      exact hK _ _ ⟨.slice a2 count c2, rfl, ⟨hI.v0, hI.v1, hI.v2, hI.v3, (fun h1 h2 => by cases h2), hI.v5, hI.v6, hI.v7, hI.v8, (fun _ => ⟨a2, c2, rfl, ho2⟩), hI.v10, hI.v11, hI.v12, hI.v13, (fun h1 => by have h := (hI.v14 h1).1; rw [hdi] at h; cases h), (fun h1 => by have h := (hI.v15 h1).1; rw [hdi] at h; cases h)⟩, k2⟩
    | 14, _ =>
      have u3 : x 3 = .int .i64 first := hI.v3 (hdep 3 (by kernel_rfl))
      have u13 : x 13 = .int .i64 res := hI.v13 (hdep 13 (by kernel_rfl))
      have d9 := hdep 9 (by kernel_rfl)
      obtain ⟨a2, c2, u9, hown⟩ := hI.v9 d9
      refine wpOp_step rfl (fun K' hK => ?_)
      have HK := hidden hK
      clear hK
      unfold fkF
      simp only [u3, u9, u13]
      go_simp
      exact HK.out _ _ ⟨.agg #[.int .i64 first, .slice a2 count c2, .int .i64 res], (by unfold fkF upd; simp [u3, u9, u13]), ⟨hI.v0, hI.v1, hI.v2, hI.v3, hI.v4, hI.v5, hI.v6, hI.v7, hI.v8, hI.v9, hI.v10, hI.v11, hI.v12, hI.v13, (fun _ => ⟨d9, a2, c2, u9, rfl⟩), hI.v15⟩, hsm⟩
    | 15, _ =>
      obtain ⟨d9, a2, c2, u9, u14⟩ := hI.v14 (hdep 14 (by kernel_rfl))
      refine wpOp_step rfl (fun K' hK => ?_)
      have HK := hidden hK
      clear hK
      unfold fkF
      simp only [u14]
      go_simp
      exact HK.out _ _ ⟨.pointer (some ⟨W.heap.size, 0, none⟩), (by unfold fkF upd; simp [u9, u14]), ⟨hI.v0, hI.v1, hI.v2, hI.v3, (fun h1 h2 => let ⟨b, e, o⟩ := hI.v4 h1 h2; ⟨b, e, o.alloc _⟩), hI.v5, hI.v6, hI.v7, hI.v8, (fun h1 => let ⟨a, c, e, o⟩ := hI.v9 h1; ⟨a, c, e, o.alloc _⟩), hI.v10, hI.v11, hI.v12, hI.v13, hI.v14, (fun _ => ⟨d9, a2, c2, W.heap.size, u9, rfl, hsm.size, blk_new W _⟩)⟩, hsm.alloc _⟩
    | q + 16, h => exact absurd h (by omega)
  · intro d x W hsm hall hI
    obtain ⟨_, a, c, b, h9, h15, hb0, hbb⟩ := hI.v15 (hall 15 (by decide))
    obtain ⟨a2, c2, h9', hown⟩ := hI.v9 (hall 9 (by decide))
    obtain ⟨rfl, rfl⟩ : a2 = a ∧ c2 = c := by rw [h9] at h9'; simp at h9'; exact ⟨h9'.1.symm, h9'.2.symm⟩
    obtain ⟨g2, tl, rfl, hg0, hgb⟩ := own_cur hown hc1
    have HB := hidden hbb
    have HGB := hidden hgb
    have HS := hidden hsm
    refine wpOp_step rfl (fun K' hK => ?_)
    have HK := hidden hK
    clear hK hI hall hown hbb hgb hsm
    unfold fkF
    simp only [h15]
    go_simp
    refine HK.out _ _ (KQ _ _ ?_)
    clear HK KQ
    go_wp2
    go_returns
    exact ⟨b, rfl, g2, ⟨c2, tl⟩, hb0, hg0, ⟨HB.out, HGB.out⟩, HS.out⟩
end Go.Proofs.YtbmbdidmbdanmaaDoor
