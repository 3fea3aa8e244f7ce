/- cut's piece grows, walked. -/
import Derived.Test.YtdmekpokgnieeaaDoorCut2
import Derived.LoopNIn
namespace Go.Proofs.YtdmekpokgnieeaaDoor
open Go.RowKit
set_option linter.unusedVariables false
attribute [local go_sem ↓] Go.wp_at_zero Go.wp_at_succ

/-- Bytes in memory. -/
def Byt (w : World) (v : Value) (l : List UInt8) : Prop :=
  ∃ a cap, v = .slice a l.length cap ∧ l.length ≤ cap ∧ (a = none → cap = 0) ∧ (0 < l.length → ∃ b off, a = some ⟨b, off, none⟩ ∧ ∀ j x, l[j]? = some x → w.cell? ⟨b, off + j, none⟩ = some (U8 x))
theorem Byt.form {w : World} {v : Value} {l : List UInt8} (h : Byt w v l) : ∃ a cap, v = .slice a l.length cap ∧ l.length ≤ cap ∧ (0 < l.length → ∃ b off, a = some ⟨b, off, none⟩ ∧ ∀ j x, l[j]? = some x → w.cell? ⟨b, off + j, none⟩ = some (U8 x)) := by
  obtain ⟨a, cap, h1, h2, _, h3⟩ := h
  exact ⟨a, cap, h1, h2, h3⟩
theorem Byt.ofNone {w : World} {l : List UInt8} {n cap : Nat} (h : Byt w (.slice none n cap) l) : l = [] ∧ cap = 0 := by
  obtain ⟨a, c, h1, h2, h3, _⟩ := h
  injection h1 with e1 e2 e3
  subst e1 e3
  have := h3 rfl
  exact ⟨List.eq_nil_of_length_eq_zero (by omega), this⟩
theorem Byt.mk (w : World) (l : List UInt8) (b off cap : Nat) {n : Nat} (hn : n = l.length) (hc : l.length ≤ cap) (h : ∀ j x, l[j]? = some x → w.cell? ⟨b, off + j, none⟩ = some (U8 x)) : Byt w (.slice (some ⟨b, off, none⟩) n cap) l := ⟨_, cap, by rw [hn], hc, (fun e => by cases e), fun _ => ⟨b, off, rfl, h⟩⟩
theorem Byt.nil (w : World) : Byt w (.slice none 0 0) [] := ⟨none, 0, rfl, Nat.le_refl _, fun _ => rfl, fun h => by simp at h⟩
theorem Byt.keep {w w' : World} {v : Value} {l : List UInt8} (h : Byt w v l) (hk : ∀ b o x, w.cell? ⟨b, o, none⟩ = some (U8 x) → w'.cell? ⟨b, o, none⟩ = some (U8 x)) : Byt w' v l := by
  obtain ⟨a, cap, h1, h2, h0, h3⟩ := h
  refine ⟨a, cap, h1, h2, h0, fun hp => ?_⟩
  obtain ⟨b, off, h4, h5⟩ := h3 hp
  exact ⟨b, off, h4, fun j x hj => hk _ _ _ (h5 j x hj)⟩
theorem Byt.same {w w' : World} {v : Value} {l : List UInt8} (h : Byt w v l) (k : Same w w') : Byt w' v l := h.keep fun b o x hc => k.cell (p := ⟨b, o, none⟩) (fun h => h) hc
theorem upd_byte {g o len h : Nat} {w w' : World} (p : Pc g o len h w) (u : Upd g o w w') (b j : Nat) (x : UInt8) (hc : w.cell? ⟨b, j, none⟩ = some (U8 x)) : w'.cell? ⟨b, j, none⟩ = some (U8 x) := by
  by_cases hb : b = g
  · subst hb
    have h0 : j ≠ o := by
      rintro rfl
      rw [p.c0] at hc
      cases hc
    have h1 : j ≠ o + 1 := by
      rintro rfl
      rw [p.c1] at hc
      cases hc
    rw [u.cell j h0 h1]
    exact hc
  · exact u.kept.cell (p := ⟨b, j, none⟩) hb hc
theorem Byt.upd {g o len h : Nat} {w w' : World} {v : Value} {l : List UInt8} (hb : Byt w v l) (p : Pc g o len h w) (u : Upd g o w w') : Byt w' v l := hb.keep fun b j x hc => upd_byte p u b j x hc
theorem eq_int (a b : Nat) : ((a : Int) == (b : Int)) = decide (a = b) := by
  by_cases h : a = b
  · subst h; simp
  · rw [decide_eq_false h]
    exact beq_eq_false_iff_ne.2 (by omega)
set_option maxHeartbeats 4000000 in
set_option maxRecDepth 100000 in
theorem grow_any (c : Shp) (hc : c.Ok) {g o len h : Nat} {w : World} (p : Pc g o len h w) (hT : Tab w) (htg : 1 ≠ g) {v : Value} {l : List UInt8} (hb : Byt w v l) (hl : l.length ≤ 140737488355328) (hlen : len ≤ c.mx) (hh : h < 18446744073709551616) :
    Calls Tryd.prog 26 #[.pointer (some ⟨g, o, none⟩), .agg #[.int .i64 c.mn, .int .i64 c.no, .int .i64 c.mx, .int .u64 c.seed], v] w fun e w' => e = .returned (.tuple #[.int .i64 ((c.grow len h l).1 : Nat), .bool (c.grow len h l).2.1]) ∧ Pc g o (c.grow len h l).2.2.1 (c.grow len h l).2.2.2 w' ∧ Upd g o w w' := by
  have hgl := p.lt
  obtain ⟨a, cap, rfl, hcap, hcell⟩ := hb.form
  have HCE := hidden hcell
  clear hcell
  have hmx := hc.mx_le
  have HC := hidden hc
  obtain ⟨W, hW⟩ : ∃ W, W = w.alloc (.cells #[.int .i64 c.mn, .int .i64 c.no, .int .i64 c.mx, .int .u64 c.seed] 24) := ⟨_, rfl⟩
  have hWk : Same w W := by rw [hW]; exact same_alloc _ _
  have HWB : Hid (W.heap[w.heap.size]? = some (.cells #[.int .i64 c.mn, .int .i64 c.no, .int .i64 c.mx, .int .u64 c.seed] 24 (0, 0))) := hidden (by rw [hW]; exact blk_new w _)
  have HP0 := hidden p
  have HP := hidden (p.same hWk)
  have HU : Hid (Upd g o w W) := hidden (Upd.same hWk p.lt)
  have HT := hidden (hT.same hWk)
  clear hb p hT hc
  go_enter Tryd.func26, Tryd.ntmps26
  go_wp2
  rw [← hW]
  clear hW hWk
  go_loopw [12] (fun i wr => ∃ (i' n k : Nat), i' ≤ l.length ∧ i = .int .i64 i' ∧ n ≤ c.mx ∧ k < 18446744073709551616 ∧ Pc g o n k wr ∧ Upd g o W wr ∧ c.grow len h l = (i' + (c.grow n k (l.drop i')).1, (c.grow n k (l.drop i')).2)) (fun i _ => l.length - (intOf i).toNat)
  case atStart => exact ⟨0, len, h, Nat.zero_le _, rfl, hlen, hh, HP.out, Upd.refl _ _ _, by simp⟩
  case round =>
    obtain ⟨i, n, k, hi, rfl, hn, hk, hP, hU, hG⟩ := hrel
    have HPr := hidden hP
    have HUr := hidden hU
    have HGr := hidden hG
    have HKr := hidden hk
    have hBr := blk_kept hU.kept (fun e => absurd (show w.heap.size = g from e) (by omega)) HWB.out
    have HTr := hidden (HT.out.kept hU.kept htg)
    have r0 : wr.cell? ⟨g, o, none⟩ = some (.int .i64 n) := hP.c0
    have s0 : wr.frozen? ⟨g, o, none⟩ = false := hP.f0
    have b0 : wr.cell? ⟨w.heap.size, 0, none⟩ = some (.int .i64 c.mn) := blk_cell hBr
    have b1 : wr.cell? ⟨w.heap.size, 1, none⟩ = some (.int .i64 c.no) := blk_cell hBr
    have b2 : wr.cell? ⟨w.heap.size, 2, none⟩ = some (.int .i64 c.mx) := blk_cell hBr
    have b3 : wr.cell? ⟨w.heap.size, 3, none⟩ = some (.int .u64 c.seed) := blk_cell hBr
    clear hBr hU hP hG hk
    by_cases hlt : i < l.length
    · obtain ⟨b, off, rfl, hcell⟩ := HCE.out (by omega)
      have hx : l[i]? = some l[i] := List.getElem?_eq_getElem hlt
      have hxc : wr.cell? ⟨b, off + i, none⟩ = some (U8 l[i]) := upd_byte HP.out HUr.out _ _ _ (upd_byte HP0.out HU.out _ _ _ (hcell i _ hx))
      have HD := hidden (drop_cons' hx)
      unfold U8 at hxc
      clear hcell hx
      generalize l[i] = x at *
      by_cases hmax : n = c.mx
      · have hmb : ((n : Int) == (c.mx : Int)) = true := beq_iff_eq.2 (by omega)
        have HE : Hid (c.grow n k (l.drop i) = (0, true, n, k)) := hidden (by rw [HD.out, Shp.grow, if_pos hmax])
        have HM := hidden hmax
        clear hmax hn
        go_wp2
        go_quiet (fail)
        go_wp2
        go_returns
        rw [HGr.out, HE.out]
        exact ⟨rfl, HPr.out.drewN _, (HU.out.trans HUr.out).drewN _⟩
      · have hmb : ((n : Int) == (c.mx : Int)) = false := beq_eq_false_iff_ne.2 (by omega)
        have hn2 : n < c.mx := by omega
        have HM := hidden hmax
        clear hmax hn
        by_cases hfew : n < c.mn
        · have HE : Hid (c.grow n k (l.drop i) = ((c.grow (n + 1) k (l.drop (i + 1))).1 + 1, (c.grow (n + 1) k (l.drop (i + 1))).2)) := hidden (by rw [HD.out, Shp.grow, if_neg HM.out, if_pos hfew])
          have HA := hidden (fun (w : World) (p : Pc g o n k w) => ahead_few c HC.out p x hfew)
          clear hfew
          go_wp2
          go_region_with (go_at_call 31; refine (HA.out _ HPr.out.drew).mono ?_; rintro e w3 ⟨rfl, p3, u3⟩; have q0 : w3.cell? ⟨g, o, none⟩ = some (.int .i64 n) := p3.c0; have q1 : w3.frozen? ⟨g, o, none⟩ = false := p3.f0)
          all_goals
            have P3 := hidden p3
            have U3 := hidden u3
            clear p3 u3
            go_wp2
            go_roundw
            case rel => exact ⟨i + 1, n + 1, k, by omega, by go_num, by omega, HKr.out, P3.out.put0 (n + 1), (HUr.out.drew.trans U3.out).trans (Upd.put0 _ _ _ _), by rw [HGr.out, HE.out]; simp only [Prod.mk.injEq, and_true]; omega⟩
            case measure => simp [intOf]; omega
        · have ha := fun (w : World) (p : Pc g o n k w) (hT : Tab w) => ahead_more c HC.out p hT htg x HKr.out (by omega) (by omega)
          by_cases hhit : c.hit n (c.hash k x) = true
          · rw [hhit] at ha
            have HE : Hid (c.grow n k (l.drop i) = (0, true, n, c.hash k x)) := hidden (by rw [HD.out, Shp.grow, if_neg HM.out, if_neg hfew, if_pos hhit])
            have HA := hidden ha
            clear ha hhit hfew
            generalize c.hash k x = k2 at *
            go_wp2
            go_region_with (go_at_call 31; refine (HA.out _ HPr.out.drew HTr.out.drew).mono ?_; rintro e w3 ⟨rfl, p3, u3⟩)
            all_goals
              have P3 := hidden p3
              have U3 := hidden u3
              clear p3 u3
              go_wp2
              go_returns
              rw [HGr.out, HE.out]
              exact ⟨rfl, P3.out, HU.out.trans (HUr.out.drew.trans U3.out)⟩
          · have hh2 : c.hit n (c.hash k x) = false := by simpa using hhit
            rw [hh2] at ha
            have HK2 := hidden (c.hash_lt k x)
            have HE : Hid (c.grow n k (l.drop i) = ((c.grow (n + 1) (c.hash k x) (l.drop (i + 1))).1 + 1, (c.grow (n + 1) (c.hash k x) (l.drop (i + 1))).2)) := hidden (by rw [HD.out, Shp.grow, if_neg HM.out, if_neg hfew, if_neg hhit])
            have HA := hidden ha
            clear ha hhit hh2 hfew
            generalize c.hash k x = k2 at *
            go_wp2
            go_region_with (go_at_call 31; refine (HA.out _ HPr.out.drew HTr.out.drew).mono ?_; rintro e w3 ⟨rfl, p3, u3⟩; have q0 : w3.cell? ⟨g, o, none⟩ = some (.int .i64 n) := p3.c0; have q1 : w3.frozen? ⟨g, o, none⟩ = false := p3.f0)
            all_goals
              have P3 := hidden p3
              have U3 := hidden u3
              clear p3 u3
              go_wp2
              go_roundw
              case rel => exact ⟨i + 1, n + 1, k2, by omega, by go_num, by omega, HK2.out, P3.out.put0 (n + 1), (HUr.out.drew.trans U3.out).trans (Upd.put0 _ _ _ _), by rw [HGr.out, HE.out]; simp only [Prod.mk.injEq, and_true]; omega⟩
              case measure => simp [intOf]; omega
    · obtain rfl : i = l.length := by omega
      have HE : Hid (c.grow n k (l.drop l.length) = (0, decide (n = c.mx), n, k)) := hidden (by rw [List.drop_of_length_le (Nat.le_refl _)]; rfl)
      go_wp2
      go_quiet (fail)
      go_wp2
      go_returns
      rw [HGr.out, HE.out, ← eq_int]
      exact ⟨rfl, HPr.out.drewN _, (HU.out.trans HUr.out).drewN _⟩
end Go.Proofs.YtdmekpokgnieeaaDoor
