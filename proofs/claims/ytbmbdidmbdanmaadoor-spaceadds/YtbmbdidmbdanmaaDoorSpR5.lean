/- The document's Space: Settle, Has. -/
import Derived.Test.YtbmbdidmbdanmaaDoorSpR4
namespace Go.Proofs.YtbmbdidmbdanmaaDoor
open Go.RowKit Go.Shelf
set_option linter.unusedVariables false
set_option linter.unusedSimpArgs false
variable {zp : Spare}
/-- What waited below k is free. -/
def sw (o : Nat → Int) (k : Nat) : Nat → Int := fun j => if j < k ∧ o j = 2 then 0 else o j
theorem sw_none (o : Nat → Int) : sw o 0 = o := by
  funext j
  unfold sw
  rw [if_neg (by omega)]
theorem sw_at {o : Nat → Int} {k : Nat} : sw o k k = o k := by
  unfold sw
  rw [if_neg (by omega)]
theorem sw_yes {o : Nat → Int} {k : Nat} (h : o k = 2) : (fun j => if j = k then 0 else sw o k j) = sw o (k + 1) := by
  funext j
  unfold sw
  by_cases e : j = k
  · subst e
    rw [if_pos rfl, if_pos ⟨by omega, h⟩]
  · simp only [e, if_false]
    by_cases h : j < k ∧ o j = 2
    · rw [if_pos h, if_pos ⟨by omega, h.2⟩]
    · rw [if_neg h, if_neg (fun h2 => h ⟨by omega, h2.2⟩)]
theorem sw_no {o : Nat → Int} {k : Nat} (h : ¬ o k = 2) : sw o k = sw o (k + 1) := by
  funext j
  unfold sw
  by_cases h1 : j < k ∧ o j = 2
  · rw [if_pos h1, if_pos ⟨by omega, h1.2⟩]
  · rw [if_neg h1, if_neg (fun h2 => h1 ⟨by
      have : j ≠ k := fun e => h (e ▸ h2.2)
      omega, h2.2⟩)]
theorem sw_wh {u v : Nat → Bool} {count : Nat} (hd : ∀ i, i < count → u i = true → v i = false) : rwA zp count (sw (wh u v) count) = rwA zp count (wh u (fun _ => false)) := by
  refine rwA_ext (fun k hk => ?_)
  have := hd k hk
  unfold sw wh
  cases e1 : u k <;> cases e2 : v k <;> simp [hk]
  rw [this e1] at e2
  cases e2
set_option maxHeartbeats 2000000 in
set_option maxRecDepth 100000 in
theorem rf_settle (q r first count : Nat) (u v : Nat → Bool) (res : Nat) (w : World) (h : RfAt zp q r first count u v res w) (hp : Pl first count u v res) :
    Calls Tryd.prog 36 #[.pointer (some ⟨q, 0, none⟩)] w fun e w' => e = .returned (.int .i64 (cnt v 4096 : Nat)) ∧ RfAt zp q r first count u (fun _ => false) res w' ∧ Kept (fun b => b = r) w w' := by
  have HH := hidden h.gen
  have hne := h.gen.ne
  have c1 : w.cell? ⟨q, 1, none⟩ = some (.slice (some ⟨r, 0, none⟩) count zp.cap) := blk_cell h.box
  have E2 := hidden hp.c2
  have EW := hidden (sw_wh (zp := zp) hp.dis)
  have l3 := hp.fits
  obtain ⟨o, ho⟩ : ∃ o, o = wh u v := ⟨_, rfl⟩
  rw [← ho] at HH EW
  have HO := hidden ho
  clear h hp ho
  go_enter Tryd.func36, Tryd.ntmps36
  go_wp2
  go_loopw [11, 3] (fun a b wr => ∃ k y : Nat, k ≤ count ∧ a = .int .i64 k ∧ b = .int .i64 y ∧ y = cnt (fun i => decide (o i = 2)) k ∧ RgAt zp q r first count (sw o k) res wr ∧ Kept (fun b => b = r) w wr) (fun a _ _ => count - (intOf a).toNat)
  case atStart => exact ⟨0, 0, Nat.zero_le _, rfl, rfl, rfl, by rw [sw_none]; exact HH.out, Kept.refl _ _⟩
  case round =>
    obtain ⟨k, y, hk, rfl, rfl, hy, hR, hK⟩ := hrel
    have c2 : wr.cell? ⟨q, 1, none⟩ = some (.slice (some ⟨r, 0, none⟩) count zp.cap) := blk_cell hR.box
    have yl : y ≤ k := by rw [hy]; exact cnt_le _ _
    have HY := hidden hy
    have HR := hidden hR
    have HK := hidden hK
    clear hy hR hK
    by_cases hlt : k < count
    · obtain ⟨z, hz⟩ : ∃ z, o k = z := ⟨_, rfl⟩
      have rr : wr.cell? ⟨r, k, none⟩ = some (.int .i64 z) := by rw [blk_cell HR.out.row, rwA_at _ _ hlt, sw_at, hz]
      have fz : wr.frozen? ⟨r, k, none⟩ = false := blk_free HR.out.row
      have HZ := hidden hz
      clear hz
      have w4 : IntKind.i64.wrap ((k : Int) + 1) = (k : Int) + 1 := by rw [IntKind.wrap_i64]; omega
      have w5 : IntKind.i64.wrap ((y : Int) + 1) = (y : Int) + 1 := by rw [IntKind.wrap_i64]; omega
      have y4 : (0 : Int) ≤ (k : Int) := Int.natCast_nonneg _
      have y5 : (k : Int) < (count : Int) := by omega
      by_cases hzx : z = 2
      · go_wp2
        go_roundw
        case rel =>
          have kd := (Kept.refl (fun b => b = r) wr).setCell (p := ⟨r, k, none⟩) rfl (.int .i64 0)
          refine ⟨k + 1, y + 1, by omega, by go_num, by go_num, ?_, ⟨blk_kept kd hne HR.out.box, ?_⟩, HK.out.trans kd⟩
          · simp only [cnt]
            rw [HY.out, HZ.out]
            simp [hzx]
          · rw [← sw_yes (by rw [HZ.out]; exact hzx), ← rwA_set _ _ _ _ hlt]
            exact blk_set HR.out.row _
        case measure => simp [intOf]; omega
      · go_wp2
        go_roundw
        case rel =>
          refine ⟨k + 1, y, by omega, by go_num, rfl, ?_, by rw [← sw_no (by rw [HZ.out]; exact hzx)]; exact HR.out, HK.out⟩
          simp only [cnt]
          rw [HY.out, HZ.out]
          simp [hzx]
        case measure => simp [intOf]; omega
    · have he : k = count := by omega
      subst he
      have y5 : ¬ (k : Int) < (k : Int) := by omega
      go_wp2
      go_returns
      have hy := HY.out
      rw [HO.out] at hy
      have e : y = cnt v 4096 := hy.trans E2.out
      subst e
      exact ⟨rfl, RfAt.of HR.out.box (by rw [← EW.out]; exact HR.out.row), HK.out⟩
set_option maxHeartbeats 2000000 in
set_option maxRecDepth 100000 in
theorem rf_hasNo (q r first count : Nat) (u v : Nat → Bool) (res : Nat) (sec : Int) (w : World) (h : RfAt zp q r first count u v res w) (hf : first + count ≤ 4096) (hs : sec ≤ 9223372036854775807) (hn : ¬ ((first : Int) ≤ sec ∧ sec < (first : Int) + count)) :
    Calls Tryd.prog 42 #[.pointer (some ⟨q, 0, none⟩), .int .i64 sec] w fun e w' => e = .returned (.bool false) ∧ Same w w' := by
  have c1 : w.cell? ⟨q, 1, none⟩ = some (.slice (some ⟨r, 0, none⟩) count zp.cap) := blk_cell h.box
  have c0 : w.cell? ⟨q, 0, none⟩ = some (.int .i64 first) := blk_cell h.box
  clear h
  by_cases h1 : (first : Int) ≤ sec
  · have h1d : decide ((first : Int) ≤ sec) = true := by simp; omega
    have m1 : IntKind.i64.wrap (sec - (first : Int)) = sec - (first : Int) := by rw [IntKind.wrap_i64]; omega
    have h2 : ¬ sec - (first : Int) < (count : Int) := by omega
    have h2d : decide (sec - (first : Int) < (count : Int)) = false := by simp; omega
    clear hn
    go_enter Tryd.func42, Tryd.ntmps42
    go_wp2
    go_quiet (fail)
    go_wp2
    go_returns
    exact ⟨rfl, (Kept.refl _ _).drewN _⟩
  · have h1d : decide ((first : Int) ≤ sec) = false := by simp; omega
    clear hn
    go_enter Tryd.func42, Tryd.ntmps42
    go_wp2
    go_quiet (fail)
    go_wp2
    go_returns
    exact ⟨rfl, (Kept.refl _ _).drewN _⟩
set_option maxHeartbeats 2000000 in
set_option maxRecDepth 100000 in
theorem rf_hasIn (q r first count k : Nat) (u v : Nat → Bool) (res : Nat) (sec : Int) (w : World) (h : RfAt zp q r first count u v res w) (hf : first + count ≤ 4096) (hs : sec = (first : Int) + (k : Int)) (hk : k < count) :
    Calls Tryd.prog 42 #[.pointer (some ⟨q, 0, none⟩), .int .i64 sec] w fun e w' => e = .returned (.bool (u k || v k)) ∧ Same w w' := by
  have c1 : w.cell? ⟨q, 1, none⟩ = some (.slice (some ⟨r, 0, none⟩) count zp.cap) := blk_cell h.box
  have c0 : w.cell? ⟨q, 0, none⟩ = some (.int .i64 first) := blk_cell h.box
  have rr0 : w.cell? ⟨r, k, none⟩ = some (.int .i64 (wh u v k)) := by rw [blk_cell h.rowA, rwA_at _ _ hk]
  have h1d : decide ((first : Int) ≤ sec) = true := by simp; omega
  have h1 : (first : Int) ≤ sec := by omega
  have m1 : IntKind.i64.wrap (sec - (first : Int)) = (k : Int) := by rw [IntKind.wrap_i64]; omega
  have h2 : (k : Int) < (count : Int) := by omega
  have h2d : decide ((k : Int) < (count : Int)) = true := by simp; omega
  have h2e : decide (k < count) = true := by simp; omega
  have y4 : (0 : Int) ≤ (k : Int) := Int.natCast_nonneg _
  clear h
  cases hb : (u k || v k)
  · have rr : w.cell? ⟨r, k, none⟩ = some (.int .i64 0) := by
      rw [rr0]
      simp at hb
      simp [wh, hb.1, hb.2]
    clear hs rr0 hb
    go_enter Tryd.func42, Tryd.ntmps42
    go_wp2
    go_quiet (fail)
    go_wp2
    go_returns
    exact ⟨rfl, (Kept.refl _ _).drewN _⟩
  · obtain ⟨z, hz⟩ : ∃ z, wh u v k = z := ⟨_, rfl⟩
    have rr : w.cell? ⟨r, k, none⟩ = some (.int .i64 z) := by rw [rr0, hz]
    have zd : ¬ z = 0 := by
      rw [← hz]
      cases e1 : u k <;> cases e2 : v k <;> simp [wh, e1, e2] at hb ⊢
    have zd' : decide (z = 0) = false := by simp; exact zd
    clear hs rr0 hb hz
    go_enter Tryd.func42, Tryd.ntmps42
    go_wp2
    go_quiet (fail)
    go_wp2
    go_returns
    exact ⟨by simp [zd], (Kept.refl _ _).drewN _⟩
end Go.Proofs.YtbmbdidmbdanmaaDoor
