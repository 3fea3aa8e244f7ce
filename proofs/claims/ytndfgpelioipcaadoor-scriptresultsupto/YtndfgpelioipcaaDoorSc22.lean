/- script: the program's namesLine, statLine and PrintResult, walked. (Made by mksc22.py.) -/
import Derived.Test.YtndfgpelioipcaaDoorSc21
import Derived.Deep.RegionHeld
namespace Go.Proofs.YtndfgpelioipcaaDoor
open Go.RowKit
set_option linter.unusedVariables false
set_option linter.unusedSimpArgs false
theorem row_ints (W : World) (zs : List Int) (n : Nat) (hn : zs.length = n) (hm : n ≤ 9) : Row (W.alloc (.cells (IS zs).toArray 3)) (.slice (some ⟨W.heap.size, 0, none⟩) n n) (IS zs) := Row.own (row_lit W zs n hn hm)
theorem row_strs (W : World) (zs : List (List UInt8)) (n : Nat) (hn : zs.length = n) (hm : n ≤ 9) : Row (W.alloc (.cells (TS (zs.map BA)).toArray 9)) (.slice (some ⟨W.heap.size, 0, none⟩) n n) (TS (zs.map BA)) := by
  have h := World.ownsRow_lit (base := 0) (e := 9) (size := 1) W (TS (zs.map BA)).toArray n (Nat.zero_le _) (by unfold maxLen; omega) (by simp [TS, hn])
  rw [List.toList_toArray] at h
  exact Row.own h
theorem row_kept {S : Nat → Prop} {w w' : World} {g n : Nat} {cs : Array Value} {t : TypeId} {xs : List Value} (h : True) : True := trivial
set_option maxHeartbeats 1000000 in
set_option maxRecDepth 100000 in
theorem namesLine_any (l : List (List UInt8)) (a : Option Addr) (n c : Nat) (w : World) (row : Row w (.slice a n c) (TS (l.map BA))) (hl : wsum l ≤ 4194304) : Calls Tryd.prog 35 #[.slice a n c] w fun e w' => e = .returned (.string (BA (namesL l))) ∧ Same w w' := by
  obtain ⟨i0, hi0, hz0, hz1, hz2⟩ := info_parts infoS
  have hN : n = l.length := by have := row.tl; simpa [TS] using this.symm
  have hnl : n ≤ 4194304 := by have := len_wsum l; omega
  have HN := hidden hN
  have HQ := hidden quote_any
  have HRow := hidden row
  have HJ := hidden joined_any
  have HL := hidden hl
  clear hN row
  by_cases g0 : l = []
  · have hR := hidden (show BA (namesL l) = ⟨#[45]⟩ by unfold namesL; rw [if_pos g0]; rfl)
    have h0 : n = 0 := by rw [HN.out, g0]; rfl
    subst h0
    rw [hR.out]
    go_enter Tryd.func35, Tryd.ntmps35
    go_wp2
    go_returns
    exact ⟨rfl, Kept.refl _ _⟩
  · have hR := hidden (show namesL l = jn (l.map quoteL) by unfold namesL; rw [if_neg g0])
    have h0 : ¬ n = 0 := by
      intro h
      have := HN.out
      exact g0 (List.eq_nil_of_length_eq_zero (by omega))
    have h1 : ¬ (n : Int) = 0 := by omega
    have d0 : ((n : Int) == 0) = false := by simpa using h1
    rw [hR.out]
    clear g0 hl
    go_enter Tryd.func35, Tryd.ntmps35
    go_wp2
    go_loopw [3, 11] (fun u v wr => ∃ (k cp : Nat) (ao : Option Addr), u = .slice ao k cp ∧ v = .int .i64 k ∧ k ≤ n ∧ wr.ownsRow w.heap.size 9 1 (.slice ao k cp) k (TS (((l.take k).map quoteL).map BA)) ∧ Same w wr) (fun _ v _ => n - (intOf v).toNat)
    case atStart => exact ⟨0, 0, none, rfl, rfl, Nat.zero_le _, World.ownsRow_nil _ _ _ _, Kept.refl _ _⟩
    case round =>
      obtain ⟨k, cp, ao, rfl, rfl, hkn, hO, hS⟩ := hrel
      have HO := hidden hO
      have HS := hidden hS
      clear hO hS
      by_cases g1 : k < n
      · obtain ⟨x, hx⟩ : ∃ x, l[k]? = some x := ⟨_, List.getElem?_eq_getElem (by rw [← HN.out]; exact g1)⟩
        have hxl := wsum_mem (List.mem_of_getElem? hx)
        have HT := hidden (jn_take hx)
        obtain ⟨b1, o1, he, hc⟩ := HRow.out.at (by rw [show (TS (l.map BA)).length = l.length by simp [TS]]; rw [← HN.out]; omega)
        obtain ⟨rfl⟩ : a = some ⟨b1, o1, none⟩ := by simpa using he
        have hX := HS.out.cell (p := ⟨b1, o1 + k, none⟩) (fun h => h) (hc k (.string (BA x)) (by simp [TS, hx]))
        have HQ1 := hidden (HQ.out (BA x) (by rw [BA_size]; have := HL.out; omega))
        rw [BA_data] at HQ1
        have q1 : (k : Int) < (n : Int) := by omega
        have q2 : (0 : Int) ≤ (k : Int) := Int.natCast_nonneg _
        clear he hc hx hxl
        obtain ⟨X, hXX⟩ : ∃ X, X = quoteL x := ⟨_, rfl⟩
        rw [← hXX] at HQ1 HT
        clear hXX
        generalize BA x = yx at *
        go_wp2_with (first
          | (go_at_call 9; refine (HQ1.out _).mono ?_; rintro e w4 ⟨rfl, k4⟩; have S4 := hidden (HS.out.trans k4); have O4 := hidden (own_kept HO.out k4 (fun _ _ h => h)); clear k4)
          | (at_builtin; go_must (refine wpList_append_any (by rfl) _ _ 37 (by rfl) w.heap.size 9 i0 _ 1 16 Tryd.underlying37 hi0 hz0 hz1 hz2 rfl (by decide) _ _ _ _ (by rfl) (O4.out.alloc _) (some ⟨w4.heap.size, 0, none⟩) 1 1 (TS [BA X]) (by rfl) (by rfl) (lies_of (World.news_of_block (heap_alloc_new w4 _))) (TS_one _) (by unfold maxLen; omega) (by omega) (by simp; have := S4.out.size; omega) ?_; intro a3 c3 w3 hown hgrow; have R3 := hidden (same_grown (m := 0) (S4.out.alloc _) (O4.out.alloc _) hgrow); have O3 := hidden hown; clear hown hgrow)))
        go_roundw
        case rel => exact ⟨k + 1, c3, a3, rfl, by go_num, by omega, by have h := O3.out; rw [HT.out]; simpa [TS] using h, R3.out⟩
        case measure => simp [intOf]; omega
      · have q1 : ¬ (k : Int) < (n : Int) := by omega
        have hk : k = l.length := by have := HN.out; omega
        have ht : l.take k = l := by rw [hk, List.take_length]
        have HO2 := hidden (by have h := HO.out; rw [ht] at h; exact h : wr.ownsRow w.heap.size 9 1 (.slice ao k cp) k (TS ((l.map quoteL).map BA)))
        have hw : wsum (l.map quoteL) ≤ 140737488355328 := by have := wsum_quote l; have := HL.out; omega
        have HJ1 := hidden (HJ.out (l.map quoteL) ao k cp wr (Row.own HO2.out) hw)
        clear hk ht hw
        obtain ⟨z, hz⟩ : ∃ z, z = BA (jn (l.map quoteL)) := ⟨_, rfl⟩
        rw [← hz] at HJ1
        have HZ := hidden hz
        clear hz
        go_wp2_with (go_at_call 32; refine (HJ1.out).mono ?_; rintro e w4 ⟨rfl, k4⟩; have S4 := hidden (HS.out.trans k4); clear k4)
        go_returns
        exact ⟨by rw [← HZ.out]; rfl, S4.out⟩
set_option maxHeartbeats 1000000 in
set_option maxRecDepth 100000 in
theorem statLine_false (r : ResR) (hr : r.Ok) (w : World) (T : Tb w) : Calls Tryd.prog 34 #[.agg #[.int .i64 r.sn, .bool false, .int .i64 r.ss, .int .i64 r.sl]] w fun e w' => e = .returned (.string (BA (jn [jn ([r.sn].map Lib.itoa), [102, 105, 108, 101], jn ([r.ss, r.sl].map Lib.itoa)]))) ∧ Same w w' := by
  have hmx : Tryd.prog.follows .mixedOrders = true := by kernel_rfl
  obtain ⟨Wb, hWb⟩ : ∃ Wb, Wb = w.alloc (.cells #[.int .i64 r.sn, .bool false, .int .i64 r.ss, .int .i64 r.sl] 36) := ⟨_, rfl⟩
  have hS := same_alloc w (.cells #[.int .i64 r.sn, .bool false, .int .i64 r.ss, .int .i64 r.sl] 36)
  have hb := blk_new w (.cells #[.int .i64 r.sn, .bool false, .int .i64 r.ss, .int .i64 r.sl] 36)
  have c1 : (w.alloc (.cells #[.int .i64 r.sn, .bool false, .int .i64 r.ss, .int .i64 r.sl] 36)).cell? ⟨w.heap.size, 1, none⟩ = some (.bool false) := blk_cell hb
  rw [← hWb] at hS hb
  have HSb := hidden hS
  have HC : Hid (∀ W, SameW Wb W → W.cell? ⟨w.heap.size, 0, none⟩ = some (.int .i64 r.sn) ∧ W.cell? ⟨w.heap.size, 1, none⟩ = some (.bool false) ∧ W.cell? ⟨w.heap.size, 2, none⟩ = some (.int .i64 r.ss) ∧ W.cell? ⟨w.heap.size, 3, none⟩ = some (.int .i64 r.sl)) := hidden (fun W k => ⟨blk_cell (blk_kept k (fun h => h) hb), blk_cell (blk_kept k (fun h => h) hb), blk_cell (blk_kept k (fun h => h) hb), blk_cell (blk_kept k (fun h => h) hb)⟩)
  have HTb := hidden (fun W (k : SameW Wb W) => (T.same hS).same k)
  have HNu3 := hidden (fun (a : Option Addr) (n c : Nat) (W : World) (T : Tb W) (q : Row W (.slice a n c) (IS [r.sn])) => numbers_any [r.sn] a n c W T q (fun z hz => by rcases List.mem_singleton.1 hz with rfl; exact hr.sn) (by have := q.len.1; rw [IS_len] at this; simp at this; omega))
  have HNu10 := hidden (fun (a : Option Addr) (n c : Nat) (W : World) (T : Tb W) (q : Row W (.slice a n c) (IS [r.ss, r.sl])) => numbers_any [r.ss, r.sl] a n c W T q (fun z hz => by simp at hz; rcases hz with rfl | rfl; exact hr.ss; exact hr.sl) (by have := q.len.1; rw [IS_len] at this; simp at this; omega))
  have hl1 : (jn ([r.sn].map Lib.itoa)).length ≤ 22 := by
    have h1 := jn_len ([r.sn].map Lib.itoa)
    have h2 := nsum [r.sn] (fun z hz => by rcases List.mem_singleton.1 hz with rfl; exact hr.sn)
    simp only [List.length_cons, List.length_nil] at h2
    omega
  have hl2 : (jn ([r.ss, r.sl].map Lib.itoa)).length ≤ 44 := by
    have h1 := jn_len ([r.ss, r.sl].map Lib.itoa)
    have h2 := nsum [r.ss, r.sl] (fun z hz => by simp at hz; rcases hz with rfl | rfl; exact hr.ss; exact hr.sl)
    simp only [List.length_cons, List.length_nil] at h2
    omega
  generalize jn ([r.sn].map Lib.itoa) = X1 at *
  generalize jn ([r.ss, r.sl].map Lib.itoa) = X2 at *
  have HJn := hidden (fun (a : Option Addr) (n c : Nat) (W : World) (q : Row W (.slice a n c) (TS ([X1, [102, 105, 108, 101], X2].map BA))) => joined_any [X1, [102, 105, 108, 101], X2] a n c W q (by simp [wsum]; omega))
  generalize BA (jn [X1, [102, 105, 108, 101], X2]) = z at *
  obtain ⟨y1, hy1⟩ : ∃ y, y = BA X1 := ⟨_, rfl⟩
  obtain ⟨y2, hy2⟩ : ∃ y, y = BA X2 := ⟨_, rfl⟩
  rw [← hy1] at HNu3
  rw [← hy2] at HNu10
  have HY1 := hidden hy1
  have HY2 := hidden hy2
  clear hS hb T hl1 hl2 hy1 hy2 hr
  go_enter Tryd.func34, Tryd.ntmps34
  go_wp2
  rw [← hWb]
  clear c1 hWb
  have KW := hidden ((Kept.refl (fun _ => False) Wb).drew)
  refine wp_region_held_drew (S := fun W => SameW Wb W) hmx KW.out (fun _ => ?_)
  refine wpAnyH_take (i := 0) (v := .pointer (some ⟨w.heap.size, 0, none⟩)) rfl (by kernel_rfl) (by kernel_rfl) (by kernel_rfl) (fun _ _ _ h => h) (Or.inl ⟨by rfl, (by intro W hSw; obtain ⟨t0, t1, t2, t3⟩ := HC.out W hSw; go_simp; try rfl)⟩) KW.out ?_; (try go_simp)
  refine wpAnyH_take (i := 1) (v := .int .i64 r.sn) rfl (by kernel_rfl) (by kernel_rfl) (by kernel_rfl) (fun _ _ _ h => h) (Or.inl ⟨by rfl, (by intro W hSw; obtain ⟨t0, t1, t2, t3⟩ := HC.out W hSw; go_simp; try rfl)⟩) KW.out ?_; (try go_simp)
  refine wpAnyH_take (i := 4) (v := .string ⟨#[102, 105, 108, 101]⟩) rfl (by kernel_rfl) (by kernel_rfl) (by kernel_rfl) (fun _ _ _ h => h) (Or.inl ⟨by rfl, (by intro W hSw; obtain ⟨t0, t1, t2, t3⟩ := HC.out W hSw; go_simp; try rfl)⟩) KW.out ?_; (try go_simp)
  refine wpAnyH_take (i := 5) (v := .pointer (some ⟨w.heap.size, 2, none⟩)) rfl (by kernel_rfl) (by kernel_rfl) (by kernel_rfl) (fun _ _ _ h => h) (Or.inl ⟨by rfl, (by intro W hSw; obtain ⟨t0, t1, t2, t3⟩ := HC.out W hSw; go_simp; try rfl)⟩) KW.out ?_; (try go_simp)
  refine wpAnyH_take (i := 6) (v := .int .i64 r.ss) rfl (by kernel_rfl) (by kernel_rfl) (by kernel_rfl) (fun _ _ _ h => h) (Or.inl ⟨by rfl, (by intro W hSw; obtain ⟨t0, t1, t2, t3⟩ := HC.out W hSw; go_simp; try rfl)⟩) KW.out ?_; (try go_simp)
  refine wpAnyH_take (i := 7) (v := .pointer (some ⟨w.heap.size, 3, none⟩)) rfl (by kernel_rfl) (by kernel_rfl) (by kernel_rfl) (fun _ _ _ h => h) (Or.inl ⟨by rfl, (by intro W hSw; obtain ⟨t0, t1, t2, t3⟩ := HC.out W hSw; go_simp; try rfl)⟩) KW.out ?_; (try go_simp)
  refine wpAnyH_take (i := 8) (v := .int .i64 r.sl) rfl (by kernel_rfl) (by kernel_rfl) (by kernel_rfl) (fun _ _ _ h => h) (Or.inl ⟨by rfl, (by intro W hSw; obtain ⟨t0, t1, t2, t3⟩ := HC.out W hSw; go_simp; try rfl)⟩) KW.out ?_; (try go_simp)
  generalize Wb.drew = V0 at *
  refine wpAnyH_ready (rs := [2, 9]) (by kernel_rfl) (by simp) ?_
  refine (AllReadyH.cons rfl (fun K hK => ?_) (AllReadyH.cons rfl (fun K hK => ?_) AllReadyH.nil))
  · skip
    go_simp
    refine hK.out _ _ (KW.out.alloc _) (fun _ => ?_); clear hK K; (try go_simp)
    have R2 := hidden (row_ints V0 [r.sn] 1 rfl (by decide))
    have KA := same_alloc V0 (.cells #[.int .i64 r.sn] 3)
    have KW := hidden (KW.out.alloc (.cells #[.int .i64 r.sn] 3))
    clear KA
    change Hid (Row (V0.alloc (.cells #[.int .i64 r.sn] 3)) _ _) at R2
    generalize V0.heap.size = g2 at *
    generalize V0.alloc (.cells #[.int .i64 r.sn] 3) = V1 at *
    refine wpAnyH_ready (rs := [3, 9]) (by kernel_rfl) (by simp) ?_
    refine (AllReadyH.cons rfl (fun K hK => ?_) (AllReadyH.cons rfl (fun K hK => ?_) AllReadyH.nil))
    · skip
      refine step_call rfl 33 #[.slice (some ⟨g2, 0, none⟩) 1 1] (fun u W => u = .string y1 ∧ SameW V1 W) (by go_simp; try rfl) ((HNu3.out _ 1 1 V1 (HTb.out _ KW.out) R2.out).mono fun e w' ⟨h1, h2⟩ => ⟨_, h1, rfl, h2⟩) ?_
      rintro u V2 ⟨rfl, kk⟩
      have R2 := hidden (R2.out.same kk)
      have KW := hidden (KW.out.trans kk)
      clear kk
      refine hK.out _ _ (KW.out) (fun _ => ?_); clear hK K; (try go_simp)
      refine wpAnyH_ready (rs := [9]) (by kernel_rfl) (by simp) ?_
      refine (AllReadyH.cons rfl (fun K hK => ?_) AllReadyH.nil)
      · skip
        go_simp
        refine hK.out _ _ (KW.out.alloc _) (fun _ => ?_); clear hK K; (try go_simp)
        have R9 := hidden (row_ints V2 [r.ss, r.sl] 2 rfl (by decide))
        have KA := same_alloc V2 (.cells #[.int .i64 r.ss, .int .i64 r.sl] 3)
        have R2 := hidden (R2.out.same KA)
        have KW := hidden (KW.out.alloc (.cells #[.int .i64 r.ss, .int .i64 r.sl] 3))
        clear KA
        change Hid (Row (V2.alloc (.cells #[.int .i64 r.ss, .int .i64 r.sl] 3)) _ _) at R9
        generalize V2.heap.size = g9 at *
        generalize V2.alloc (.cells #[.int .i64 r.ss, .int .i64 r.sl] 3) = V3 at *
        refine wpAnyH_ready (rs := [10]) (by kernel_rfl) (by simp) ?_
        refine (AllReadyH.cons rfl (fun K hK => ?_) AllReadyH.nil)
        · skip
          refine step_call rfl 33 #[.slice (some ⟨g9, 0, none⟩) 2 2] (fun u W => u = .string y2 ∧ SameW V3 W) (by go_simp; try rfl) ((HNu10.out _ 2 2 V3 (HTb.out _ KW.out) R9.out).mono fun e w' ⟨h1, h2⟩ => ⟨_, h1, rfl, h2⟩) ?_
          rintro u V4 ⟨rfl, kk⟩
          have R2 := hidden (R2.out.same kk)
          have R9 := hidden (R9.out.same kk)
          have KW := hidden (KW.out.trans kk)
          clear kk
          refine hK.out _ _ (KW.out) (fun _ => ?_); clear hK K; (try go_simp)
          refine wpAnyH_ready (rs := [11]) (by kernel_rfl) (by simp) ?_
          refine (AllReadyH.cons rfl (fun K hK => ?_) AllReadyH.nil)
          go_simp
          refine hK.out _ _ (KW.out.alloc _) (fun _ => ?_); clear hK K; (try go_simp)
          have R11 : Hid (Row (V4.alloc (.cells #[.string y1, .string ⟨#[102, 105, 108, 101]⟩, .string y2] 9)) (.slice (some ⟨V4.heap.size, 0, none⟩) 3 3) (TS ([X1, [102, 105, 108, 101], X2].map BA))) := hidden (by have h := row_strs V4 [X1, [102, 105, 108, 101], X2] 3 rfl (by decide); rw [HY1.out, HY2.out]; exact h)
          have KW := hidden (KW.out.alloc (.cells #[.string y1, .string ⟨#[102, 105, 108, 101]⟩, .string y2] 9))
          generalize V4.heap.size = g11 at *
          generalize V4.alloc (.cells #[.string y1, .string ⟨#[102, 105, 108, 101]⟩, .string y2] 9) = V5 at *
          refine wpAnyH_ready (rs := [12]) (by kernel_rfl) (by simp) ?_
          refine (AllReadyH.cons rfl (fun K hK => ?_) AllReadyH.nil)
          refine step_call rfl 32 #[.slice (some ⟨g11, 0, none⟩) 3 3] (fun u W => u = .string z ∧ SameW V5 W) (by go_simp; try rfl) ((HJn.out _ 3 3 V5 R11.out).mono fun e w' ⟨h1, h2⟩ => ⟨_, h1, rfl, h2⟩) ?_
          rintro u V6 ⟨rfl, kk⟩
          have KW := hidden (KW.out.trans kk)
          clear kk
          refine hK.out _ _ (KW.out) (fun _ => ?_); clear hK K; (try go_simp)
          refine wpAnyH_ready (rs := [13]) (by kernel_rfl) (by simp) ?_
          refine (AllReadyH.cons rfl (fun K hK => ?_) AllReadyH.nil)
          go_simp
          refine hK.out _ _ (KW.out) (fun _ => ?_); clear hK K; (try go_simp)
          refine wpAnyH_done (by kernel_rfl) ?_ _
          go_wp2
          go_returns
          exact ⟨rfl, HSb.out.trans KW.out⟩
    · skip
      go_simp
      refine hK.out _ _ (KW.out.alloc _) (fun _ => ?_); clear hK K; (try go_simp)
      have R9 := hidden (row_ints V1 [r.ss, r.sl] 2 rfl (by decide))
      have KA := same_alloc V1 (.cells #[.int .i64 r.ss, .int .i64 r.sl] 3)
      have R2 := hidden (R2.out.same KA)
      have KW := hidden (KW.out.alloc (.cells #[.int .i64 r.ss, .int .i64 r.sl] 3))
      clear KA
      change Hid (Row (V1.alloc (.cells #[.int .i64 r.ss, .int .i64 r.sl] 3)) _ _) at R9
      generalize V1.heap.size = g9 at *
      generalize V1.alloc (.cells #[.int .i64 r.ss, .int .i64 r.sl] 3) = V2 at *
      refine wpAnyH_ready (rs := [3]) (by kernel_rfl) (by simp) ?_
      refine (AllReadyH.cons rfl (fun K hK => ?_) AllReadyH.nil)
      · skip
        refine step_call rfl 33 #[.slice (some ⟨g2, 0, none⟩) 1 1] (fun u W => u = .string y1 ∧ SameW V2 W) (by go_simp; try rfl) ((HNu3.out _ 1 1 V2 (HTb.out _ KW.out) R2.out).mono fun e w' ⟨h1, h2⟩ => ⟨_, h1, rfl, h2⟩) ?_
        rintro u V3 ⟨rfl, kk⟩
        have R2 := hidden (R2.out.same kk)
        have R9 := hidden (R9.out.same kk)
        have KW := hidden (KW.out.trans kk)
        clear kk
        refine hK.out _ _ (KW.out) (fun _ => ?_); clear hK K; (try go_simp)
        refine wpAnyH_ready (rs := [10]) (by kernel_rfl) (by simp) ?_
        refine (AllReadyH.cons rfl (fun K hK => ?_) AllReadyH.nil)
        · skip
          refine step_call rfl 33 #[.slice (some ⟨g9, 0, none⟩) 2 2] (fun u W => u = .string y2 ∧ SameW V3 W) (by go_simp; try rfl) ((HNu10.out _ 2 2 V3 (HTb.out _ KW.out) R9.out).mono fun e w' ⟨h1, h2⟩ => ⟨_, h1, rfl, h2⟩) ?_
          rintro u V4 ⟨rfl, kk⟩
          have R2 := hidden (R2.out.same kk)
          have R9 := hidden (R9.out.same kk)
          have KW := hidden (KW.out.trans kk)
          clear kk
          refine hK.out _ _ (KW.out) (fun _ => ?_); clear hK K; (try go_simp)
          refine wpAnyH_ready (rs := [11]) (by kernel_rfl) (by simp) ?_
          refine (AllReadyH.cons rfl (fun K hK => ?_) AllReadyH.nil)
          go_simp
          refine hK.out _ _ (KW.out.alloc _) (fun _ => ?_); clear hK K; (try go_simp)
          have R11 : Hid (Row (V4.alloc (.cells #[.string y1, .string ⟨#[102, 105, 108, 101]⟩, .string y2] 9)) (.slice (some ⟨V4.heap.size, 0, none⟩) 3 3) (TS ([X1, [102, 105, 108, 101], X2].map BA))) := hidden (by have h := row_strs V4 [X1, [102, 105, 108, 101], X2] 3 rfl (by decide); rw [HY1.out, HY2.out]; exact h)
          have KW := hidden (KW.out.alloc (.cells #[.string y1, .string ⟨#[102, 105, 108, 101]⟩, .string y2] 9))
          generalize V4.heap.size = g11 at *
          generalize V4.alloc (.cells #[.string y1, .string ⟨#[102, 105, 108, 101]⟩, .string y2] 9) = V5 at *
          refine wpAnyH_ready (rs := [12]) (by kernel_rfl) (by simp) ?_
          refine (AllReadyH.cons rfl (fun K hK => ?_) AllReadyH.nil)
          refine step_call rfl 32 #[.slice (some ⟨g11, 0, none⟩) 3 3] (fun u W => u = .string z ∧ SameW V5 W) (by go_simp; try rfl) ((HJn.out _ 3 3 V5 R11.out).mono fun e w' ⟨h1, h2⟩ => ⟨_, h1, rfl, h2⟩) ?_
          rintro u V6 ⟨rfl, kk⟩
          have KW := hidden (KW.out.trans kk)
          clear kk
          refine hK.out _ _ (KW.out) (fun _ => ?_); clear hK K; (try go_simp)
          refine wpAnyH_ready (rs := [13]) (by kernel_rfl) (by simp) ?_
          refine (AllReadyH.cons rfl (fun K hK => ?_) AllReadyH.nil)
          go_simp
          refine hK.out _ _ (KW.out) (fun _ => ?_); clear hK K; (try go_simp)
          refine wpAnyH_done (by kernel_rfl) ?_ _
          go_wp2
          go_returns
          exact ⟨rfl, HSb.out.trans KW.out⟩
  · skip
    go_simp
    refine hK.out _ _ (KW.out.alloc _) (fun _ => ?_); clear hK K; (try go_simp)
    have R9 := hidden (row_ints V0 [r.ss, r.sl] 2 rfl (by decide))
    have KA := same_alloc V0 (.cells #[.int .i64 r.ss, .int .i64 r.sl] 3)
    have KW := hidden (KW.out.alloc (.cells #[.int .i64 r.ss, .int .i64 r.sl] 3))
    clear KA
    change Hid (Row (V0.alloc (.cells #[.int .i64 r.ss, .int .i64 r.sl] 3)) _ _) at R9
    generalize V0.heap.size = g9 at *
    generalize V0.alloc (.cells #[.int .i64 r.ss, .int .i64 r.sl] 3) = V1 at *
    refine wpAnyH_ready (rs := [2]) (by kernel_rfl) (by simp) ?_
    refine (AllReadyH.cons rfl (fun K hK => ?_) AllReadyH.nil)
    · skip
      go_simp
      refine hK.out _ _ (KW.out.alloc _) (fun _ => ?_); clear hK K; (try go_simp)
      have R2 := hidden (row_ints V1 [r.sn] 1 rfl (by decide))
      have KA := same_alloc V1 (.cells #[.int .i64 r.sn] 3)
      have R9 := hidden (R9.out.same KA)
      have KW := hidden (KW.out.alloc (.cells #[.int .i64 r.sn] 3))
      clear KA
      change Hid (Row (V1.alloc (.cells #[.int .i64 r.sn] 3)) _ _) at R2
      generalize V1.heap.size = g2 at *
      generalize V1.alloc (.cells #[.int .i64 r.sn] 3) = V2 at *
      refine wpAnyH_ready (rs := [3]) (by kernel_rfl) (by simp) ?_
      refine (AllReadyH.cons rfl (fun K hK => ?_) AllReadyH.nil)
      · skip
        refine step_call rfl 33 #[.slice (some ⟨g2, 0, none⟩) 1 1] (fun u W => u = .string y1 ∧ SameW V2 W) (by go_simp; try rfl) ((HNu3.out _ 1 1 V2 (HTb.out _ KW.out) R2.out).mono fun e w' ⟨h1, h2⟩ => ⟨_, h1, rfl, h2⟩) ?_
        rintro u V3 ⟨rfl, kk⟩
        have R9 := hidden (R9.out.same kk)
        have R2 := hidden (R2.out.same kk)
        have KW := hidden (KW.out.trans kk)
        clear kk
        refine hK.out _ _ (KW.out) (fun _ => ?_); clear hK K; (try go_simp)
        refine wpAnyH_ready (rs := [10]) (by kernel_rfl) (by simp) ?_
        refine (AllReadyH.cons rfl (fun K hK => ?_) AllReadyH.nil)
        · skip
          refine step_call rfl 33 #[.slice (some ⟨g9, 0, none⟩) 2 2] (fun u W => u = .string y2 ∧ SameW V3 W) (by go_simp; try rfl) ((HNu10.out _ 2 2 V3 (HTb.out _ KW.out) R9.out).mono fun e w' ⟨h1, h2⟩ => ⟨_, h1, rfl, h2⟩) ?_
          rintro u V4 ⟨rfl, kk⟩
          have R9 := hidden (R9.out.same kk)
          have R2 := hidden (R2.out.same kk)
          have KW := hidden (KW.out.trans kk)
          clear kk
          refine hK.out _ _ (KW.out) (fun _ => ?_); clear hK K; (try go_simp)
          refine wpAnyH_ready (rs := [11]) (by kernel_rfl) (by simp) ?_
          refine (AllReadyH.cons rfl (fun K hK => ?_) AllReadyH.nil)
          go_simp
          refine hK.out _ _ (KW.out.alloc _) (fun _ => ?_); clear hK K; (try go_simp)
          have R11 : Hid (Row (V4.alloc (.cells #[.string y1, .string ⟨#[102, 105, 108, 101]⟩, .string y2] 9)) (.slice (some ⟨V4.heap.size, 0, none⟩) 3 3) (TS ([X1, [102, 105, 108, 101], X2].map BA))) := hidden (by have h := row_strs V4 [X1, [102, 105, 108, 101], X2] 3 rfl (by decide); rw [HY1.out, HY2.out]; exact h)
          have KW := hidden (KW.out.alloc (.cells #[.string y1, .string ⟨#[102, 105, 108, 101]⟩, .string y2] 9))
          generalize V4.heap.size = g11 at *
          generalize V4.alloc (.cells #[.string y1, .string ⟨#[102, 105, 108, 101]⟩, .string y2] 9) = V5 at *
          refine wpAnyH_ready (rs := [12]) (by kernel_rfl) (by simp) ?_
          refine (AllReadyH.cons rfl (fun K hK => ?_) AllReadyH.nil)
          refine step_call rfl 32 #[.slice (some ⟨g11, 0, none⟩) 3 3] (fun u W => u = .string z ∧ SameW V5 W) (by go_simp; try rfl) ((HJn.out _ 3 3 V5 R11.out).mono fun e w' ⟨h1, h2⟩ => ⟨_, h1, rfl, h2⟩) ?_
          rintro u V6 ⟨rfl, kk⟩
          have KW := hidden (KW.out.trans kk)
          clear kk
          refine hK.out _ _ (KW.out) (fun _ => ?_); clear hK K; (try go_simp)
          refine wpAnyH_ready (rs := [13]) (by kernel_rfl) (by simp) ?_
          refine (AllReadyH.cons rfl (fun K hK => ?_) AllReadyH.nil)
          go_simp
          refine hK.out _ _ (KW.out) (fun _ => ?_); clear hK K; (try go_simp)
          refine wpAnyH_done (by kernel_rfl) ?_ _
          go_wp2
          go_returns
          exact ⟨rfl, HSb.out.trans KW.out⟩
set_option maxHeartbeats 1000000 in
set_option maxRecDepth 100000 in
theorem statLine_true (r : ResR) (hr : r.Ok) (w : World) (T : Tb w) : Calls Tryd.prog 34 #[.agg #[.int .i64 r.sn, .bool true, .int .i64 r.ss, .int .i64 r.sl]] w fun e w' => e = .returned (.string (BA (jn [jn ([r.sn].map Lib.itoa), [100, 105, 114], jn ([r.ss, r.sl].map Lib.itoa)]))) ∧ Same w w' := by
  have hmx : Tryd.prog.follows .mixedOrders = true := by kernel_rfl
  obtain ⟨Wb, hWb⟩ : ∃ Wb, Wb = w.alloc (.cells #[.int .i64 r.sn, .bool true, .int .i64 r.ss, .int .i64 r.sl] 36) := ⟨_, rfl⟩
  have hS := same_alloc w (.cells #[.int .i64 r.sn, .bool true, .int .i64 r.ss, .int .i64 r.sl] 36)
  have hb := blk_new w (.cells #[.int .i64 r.sn, .bool true, .int .i64 r.ss, .int .i64 r.sl] 36)
  have c1 : (w.alloc (.cells #[.int .i64 r.sn, .bool true, .int .i64 r.ss, .int .i64 r.sl] 36)).cell? ⟨w.heap.size, 1, none⟩ = some (.bool true) := blk_cell hb
  rw [← hWb] at hS hb
  have HSb := hidden hS
  have HC : Hid (∀ W, SameW Wb W → W.cell? ⟨w.heap.size, 0, none⟩ = some (.int .i64 r.sn) ∧ W.cell? ⟨w.heap.size, 1, none⟩ = some (.bool true) ∧ W.cell? ⟨w.heap.size, 2, none⟩ = some (.int .i64 r.ss) ∧ W.cell? ⟨w.heap.size, 3, none⟩ = some (.int .i64 r.sl)) := hidden (fun W k => ⟨blk_cell (blk_kept k (fun h => h) hb), blk_cell (blk_kept k (fun h => h) hb), blk_cell (blk_kept k (fun h => h) hb), blk_cell (blk_kept k (fun h => h) hb)⟩)
  have HTb := hidden (fun W (k : SameW Wb W) => (T.same hS).same k)
  have HNu3 := hidden (fun (a : Option Addr) (n c : Nat) (W : World) (T : Tb W) (q : Row W (.slice a n c) (IS [r.sn])) => numbers_any [r.sn] a n c W T q (fun z hz => by rcases List.mem_singleton.1 hz with rfl; exact hr.sn) (by have := q.len.1; rw [IS_len] at this; simp at this; omega))
  have HNu10 := hidden (fun (a : Option Addr) (n c : Nat) (W : World) (T : Tb W) (q : Row W (.slice a n c) (IS [r.ss, r.sl])) => numbers_any [r.ss, r.sl] a n c W T q (fun z hz => by simp at hz; rcases hz with rfl | rfl; exact hr.ss; exact hr.sl) (by have := q.len.1; rw [IS_len] at this; simp at this; omega))
  have hl1 : (jn ([r.sn].map Lib.itoa)).length ≤ 22 := by
    have h1 := jn_len ([r.sn].map Lib.itoa)
    have h2 := nsum [r.sn] (fun z hz => by rcases List.mem_singleton.1 hz with rfl; exact hr.sn)
    simp only [List.length_cons, List.length_nil] at h2
    omega
  have hl2 : (jn ([r.ss, r.sl].map Lib.itoa)).length ≤ 44 := by
    have h1 := jn_len ([r.ss, r.sl].map Lib.itoa)
    have h2 := nsum [r.ss, r.sl] (fun z hz => by simp at hz; rcases hz with rfl | rfl; exact hr.ss; exact hr.sl)
    simp only [List.length_cons, List.length_nil] at h2
    omega
  generalize jn ([r.sn].map Lib.itoa) = X1 at *
  generalize jn ([r.ss, r.sl].map Lib.itoa) = X2 at *
  have HJn := hidden (fun (a : Option Addr) (n c : Nat) (W : World) (q : Row W (.slice a n c) (TS ([X1, [100, 105, 114], X2].map BA))) => joined_any [X1, [100, 105, 114], X2] a n c W q (by simp [wsum]; omega))
  generalize BA (jn [X1, [100, 105, 114], X2]) = z at *
  obtain ⟨y1, hy1⟩ : ∃ y, y = BA X1 := ⟨_, rfl⟩
  obtain ⟨y2, hy2⟩ : ∃ y, y = BA X2 := ⟨_, rfl⟩
  rw [← hy1] at HNu3
  rw [← hy2] at HNu10
  have HY1 := hidden hy1
  have HY2 := hidden hy2
  clear hS hb T hl1 hl2 hy1 hy2 hr
  go_enter Tryd.func34, Tryd.ntmps34
  go_wp2
  rw [← hWb]
  clear c1 hWb
  have KW := hidden ((Kept.refl (fun _ => False) Wb).drew)
  refine wp_region_held_drew (S := fun W => SameW Wb W) hmx KW.out (fun _ => ?_)
  refine wpAnyH_take (i := 0) (v := .pointer (some ⟨w.heap.size, 0, none⟩)) rfl (by kernel_rfl) (by kernel_rfl) (by kernel_rfl) (fun _ _ _ h => h) (Or.inl ⟨by rfl, (by intro W hSw; obtain ⟨t0, t1, t2, t3⟩ := HC.out W hSw; go_simp; try rfl)⟩) KW.out ?_; (try go_simp)
  refine wpAnyH_take (i := 1) (v := .int .i64 r.sn) rfl (by kernel_rfl) (by kernel_rfl) (by kernel_rfl) (fun _ _ _ h => h) (Or.inl ⟨by rfl, (by intro W hSw; obtain ⟨t0, t1, t2, t3⟩ := HC.out W hSw; go_simp; try rfl)⟩) KW.out ?_; (try go_simp)
  refine wpAnyH_take (i := 4) (v := .string ⟨#[100, 105, 114]⟩) rfl (by kernel_rfl) (by kernel_rfl) (by kernel_rfl) (fun _ _ _ h => h) (Or.inl ⟨by rfl, (by intro W hSw; obtain ⟨t0, t1, t2, t3⟩ := HC.out W hSw; go_simp; try rfl)⟩) KW.out ?_; (try go_simp)
  refine wpAnyH_take (i := 5) (v := .pointer (some ⟨w.heap.size, 2, none⟩)) rfl (by kernel_rfl) (by kernel_rfl) (by kernel_rfl) (fun _ _ _ h => h) (Or.inl ⟨by rfl, (by intro W hSw; obtain ⟨t0, t1, t2, t3⟩ := HC.out W hSw; go_simp; try rfl)⟩) KW.out ?_; (try go_simp)
  refine wpAnyH_take (i := 6) (v := .int .i64 r.ss) rfl (by kernel_rfl) (by kernel_rfl) (by kernel_rfl) (fun _ _ _ h => h) (Or.inl ⟨by rfl, (by intro W hSw; obtain ⟨t0, t1, t2, t3⟩ := HC.out W hSw; go_simp; try rfl)⟩) KW.out ?_; (try go_simp)
  refine wpAnyH_take (i := 7) (v := .pointer (some ⟨w.heap.size, 3, none⟩)) rfl (by kernel_rfl) (by kernel_rfl) (by kernel_rfl) (fun _ _ _ h => h) (Or.inl ⟨by rfl, (by intro W hSw; obtain ⟨t0, t1, t2, t3⟩ := HC.out W hSw; go_simp; try rfl)⟩) KW.out ?_; (try go_simp)
  refine wpAnyH_take (i := 8) (v := .int .i64 r.sl) rfl (by kernel_rfl) (by kernel_rfl) (by kernel_rfl) (fun _ _ _ h => h) (Or.inl ⟨by rfl, (by intro W hSw; obtain ⟨t0, t1, t2, t3⟩ := HC.out W hSw; go_simp; try rfl)⟩) KW.out ?_; (try go_simp)
  generalize Wb.drew = V0 at *
  refine wpAnyH_ready (rs := [2, 9]) (by kernel_rfl) (by simp) ?_
  refine (AllReadyH.cons rfl (fun K hK => ?_) (AllReadyH.cons rfl (fun K hK => ?_) AllReadyH.nil))
  · skip
    go_simp
    refine hK.out _ _ (KW.out.alloc _) (fun _ => ?_); clear hK K; (try go_simp)
    have R2 := hidden (row_ints V0 [r.sn] 1 rfl (by decide))
    have KA := same_alloc V0 (.cells #[.int .i64 r.sn] 3)
    have KW := hidden (KW.out.alloc (.cells #[.int .i64 r.sn] 3))
    clear KA
    change Hid (Row (V0.alloc (.cells #[.int .i64 r.sn] 3)) _ _) at R2
    generalize V0.heap.size = g2 at *
    generalize V0.alloc (.cells #[.int .i64 r.sn] 3) = V1 at *
    refine wpAnyH_ready (rs := [3, 9]) (by kernel_rfl) (by simp) ?_
    refine (AllReadyH.cons rfl (fun K hK => ?_) (AllReadyH.cons rfl (fun K hK => ?_) AllReadyH.nil))
    · skip
      refine step_call rfl 33 #[.slice (some ⟨g2, 0, none⟩) 1 1] (fun u W => u = .string y1 ∧ SameW V1 W) (by go_simp; try rfl) ((HNu3.out _ 1 1 V1 (HTb.out _ KW.out) R2.out).mono fun e w' ⟨h1, h2⟩ => ⟨_, h1, rfl, h2⟩) ?_
      rintro u V2 ⟨rfl, kk⟩
      have R2 := hidden (R2.out.same kk)
      have KW := hidden (KW.out.trans kk)
      clear kk
      refine hK.out _ _ (KW.out) (fun _ => ?_); clear hK K; (try go_simp)
      refine wpAnyH_ready (rs := [9]) (by kernel_rfl) (by simp) ?_
      refine (AllReadyH.cons rfl (fun K hK => ?_) AllReadyH.nil)
      · skip
        go_simp
        refine hK.out _ _ (KW.out.alloc _) (fun _ => ?_); clear hK K; (try go_simp)
        have R9 := hidden (row_ints V2 [r.ss, r.sl] 2 rfl (by decide))
        have KA := same_alloc V2 (.cells #[.int .i64 r.ss, .int .i64 r.sl] 3)
        have R2 := hidden (R2.out.same KA)
        have KW := hidden (KW.out.alloc (.cells #[.int .i64 r.ss, .int .i64 r.sl] 3))
        clear KA
        change Hid (Row (V2.alloc (.cells #[.int .i64 r.ss, .int .i64 r.sl] 3)) _ _) at R9
        generalize V2.heap.size = g9 at *
        generalize V2.alloc (.cells #[.int .i64 r.ss, .int .i64 r.sl] 3) = V3 at *
        refine wpAnyH_ready (rs := [10]) (by kernel_rfl) (by simp) ?_
        refine (AllReadyH.cons rfl (fun K hK => ?_) AllReadyH.nil)
        · skip
          refine step_call rfl 33 #[.slice (some ⟨g9, 0, none⟩) 2 2] (fun u W => u = .string y2 ∧ SameW V3 W) (by go_simp; try rfl) ((HNu10.out _ 2 2 V3 (HTb.out _ KW.out) R9.out).mono fun e w' ⟨h1, h2⟩ => ⟨_, h1, rfl, h2⟩) ?_
          rintro u V4 ⟨rfl, kk⟩
          have R2 := hidden (R2.out.same kk)
          have R9 := hidden (R9.out.same kk)
          have KW := hidden (KW.out.trans kk)
          clear kk
          refine hK.out _ _ (KW.out) (fun _ => ?_); clear hK K; (try go_simp)
          refine wpAnyH_ready (rs := [11]) (by kernel_rfl) (by simp) ?_
          refine (AllReadyH.cons rfl (fun K hK => ?_) AllReadyH.nil)
          go_simp
          refine hK.out _ _ (KW.out.alloc _) (fun _ => ?_); clear hK K; (try go_simp)
          have R11 : Hid (Row (V4.alloc (.cells #[.string y1, .string ⟨#[100, 105, 114]⟩, .string y2] 9)) (.slice (some ⟨V4.heap.size, 0, none⟩) 3 3) (TS ([X1, [100, 105, 114], X2].map BA))) := hidden (by have h := row_strs V4 [X1, [100, 105, 114], X2] 3 rfl (by decide); rw [HY1.out, HY2.out]; exact h)
          have KW := hidden (KW.out.alloc (.cells #[.string y1, .string ⟨#[100, 105, 114]⟩, .string y2] 9))
          generalize V4.heap.size = g11 at *
          generalize V4.alloc (.cells #[.string y1, .string ⟨#[100, 105, 114]⟩, .string y2] 9) = V5 at *
          refine wpAnyH_ready (rs := [12]) (by kernel_rfl) (by simp) ?_
          refine (AllReadyH.cons rfl (fun K hK => ?_) AllReadyH.nil)
          refine step_call rfl 32 #[.slice (some ⟨g11, 0, none⟩) 3 3] (fun u W => u = .string z ∧ SameW V5 W) (by go_simp; try rfl) ((HJn.out _ 3 3 V5 R11.out).mono fun e w' ⟨h1, h2⟩ => ⟨_, h1, rfl, h2⟩) ?_
          rintro u V6 ⟨rfl, kk⟩
          have KW := hidden (KW.out.trans kk)
          clear kk
          refine hK.out _ _ (KW.out) (fun _ => ?_); clear hK K; (try go_simp)
          refine wpAnyH_ready (rs := [13]) (by kernel_rfl) (by simp) ?_
          refine (AllReadyH.cons rfl (fun K hK => ?_) AllReadyH.nil)
          go_simp
          refine hK.out _ _ (KW.out) (fun _ => ?_); clear hK K; (try go_simp)
          refine wpAnyH_done (by kernel_rfl) ?_ _
          go_wp2
          go_returns
          exact ⟨rfl, HSb.out.trans KW.out⟩
    · skip
      go_simp
      refine hK.out _ _ (KW.out.alloc _) (fun _ => ?_); clear hK K; (try go_simp)
      have R9 := hidden (row_ints V1 [r.ss, r.sl] 2 rfl (by decide))
      have KA := same_alloc V1 (.cells #[.int .i64 r.ss, .int .i64 r.sl] 3)
      have R2 := hidden (R2.out.same KA)
      have KW := hidden (KW.out.alloc (.cells #[.int .i64 r.ss, .int .i64 r.sl] 3))
      clear KA
      change Hid (Row (V1.alloc (.cells #[.int .i64 r.ss, .int .i64 r.sl] 3)) _ _) at R9
      generalize V1.heap.size = g9 at *
      generalize V1.alloc (.cells #[.int .i64 r.ss, .int .i64 r.sl] 3) = V2 at *
      refine wpAnyH_ready (rs := [3]) (by kernel_rfl) (by simp) ?_
      refine (AllReadyH.cons rfl (fun K hK => ?_) AllReadyH.nil)
      · skip
        refine step_call rfl 33 #[.slice (some ⟨g2, 0, none⟩) 1 1] (fun u W => u = .string y1 ∧ SameW V2 W) (by go_simp; try rfl) ((HNu3.out _ 1 1 V2 (HTb.out _ KW.out) R2.out).mono fun e w' ⟨h1, h2⟩ => ⟨_, h1, rfl, h2⟩) ?_
        rintro u V3 ⟨rfl, kk⟩
        have R2 := hidden (R2.out.same kk)
        have R9 := hidden (R9.out.same kk)
        have KW := hidden (KW.out.trans kk)
        clear kk
        refine hK.out _ _ (KW.out) (fun _ => ?_); clear hK K; (try go_simp)
        refine wpAnyH_ready (rs := [10]) (by kernel_rfl) (by simp) ?_
        refine (AllReadyH.cons rfl (fun K hK => ?_) AllReadyH.nil)
        · skip
          refine step_call rfl 33 #[.slice (some ⟨g9, 0, none⟩) 2 2] (fun u W => u = .string y2 ∧ SameW V3 W) (by go_simp; try rfl) ((HNu10.out _ 2 2 V3 (HTb.out _ KW.out) R9.out).mono fun e w' ⟨h1, h2⟩ => ⟨_, h1, rfl, h2⟩) ?_
          rintro u V4 ⟨rfl, kk⟩
          have R2 := hidden (R2.out.same kk)
          have R9 := hidden (R9.out.same kk)
          have KW := hidden (KW.out.trans kk)
          clear kk
          refine hK.out _ _ (KW.out) (fun _ => ?_); clear hK K; (try go_simp)
          refine wpAnyH_ready (rs := [11]) (by kernel_rfl) (by simp) ?_
          refine (AllReadyH.cons rfl (fun K hK => ?_) AllReadyH.nil)
          go_simp
          refine hK.out _ _ (KW.out.alloc _) (fun _ => ?_); clear hK K; (try go_simp)
          have R11 : Hid (Row (V4.alloc (.cells #[.string y1, .string ⟨#[100, 105, 114]⟩, .string y2] 9)) (.slice (some ⟨V4.heap.size, 0, none⟩) 3 3) (TS ([X1, [100, 105, 114], X2].map BA))) := hidden (by have h := row_strs V4 [X1, [100, 105, 114], X2] 3 rfl (by decide); rw [HY1.out, HY2.out]; exact h)
          have KW := hidden (KW.out.alloc (.cells #[.string y1, .string ⟨#[100, 105, 114]⟩, .string y2] 9))
          generalize V4.heap.size = g11 at *
          generalize V4.alloc (.cells #[.string y1, .string ⟨#[100, 105, 114]⟩, .string y2] 9) = V5 at *
          refine wpAnyH_ready (rs := [12]) (by kernel_rfl) (by simp) ?_
          refine (AllReadyH.cons rfl (fun K hK => ?_) AllReadyH.nil)
          refine step_call rfl 32 #[.slice (some ⟨g11, 0, none⟩) 3 3] (fun u W => u = .string z ∧ SameW V5 W) (by go_simp; try rfl) ((HJn.out _ 3 3 V5 R11.out).mono fun e w' ⟨h1, h2⟩ => ⟨_, h1, rfl, h2⟩) ?_
          rintro u V6 ⟨rfl, kk⟩
          have KW := hidden (KW.out.trans kk)
          clear kk
          refine hK.out _ _ (KW.out) (fun _ => ?_); clear hK K; (try go_simp)
          refine wpAnyH_ready (rs := [13]) (by kernel_rfl) (by simp) ?_
          refine (AllReadyH.cons rfl (fun K hK => ?_) AllReadyH.nil)
          go_simp
          refine hK.out _ _ (KW.out) (fun _ => ?_); clear hK K; (try go_simp)
          refine wpAnyH_done (by kernel_rfl) ?_ _
          go_wp2
          go_returns
          exact ⟨rfl, HSb.out.trans KW.out⟩
  · skip
    go_simp
    refine hK.out _ _ (KW.out.alloc _) (fun _ => ?_); clear hK K; (try go_simp)
    have R9 := hidden (row_ints V0 [r.ss, r.sl] 2 rfl (by decide))
    have KA := same_alloc V0 (.cells #[.int .i64 r.ss, .int .i64 r.sl] 3)
    have KW := hidden (KW.out.alloc (.cells #[.int .i64 r.ss, .int .i64 r.sl] 3))
    clear KA
    change Hid (Row (V0.alloc (.cells #[.int .i64 r.ss, .int .i64 r.sl] 3)) _ _) at R9
    generalize V0.heap.size = g9 at *
    generalize V0.alloc (.cells #[.int .i64 r.ss, .int .i64 r.sl] 3) = V1 at *
    refine wpAnyH_ready (rs := [2]) (by kernel_rfl) (by simp) ?_
    refine (AllReadyH.cons rfl (fun K hK => ?_) AllReadyH.nil)
    · skip
      go_simp
      refine hK.out _ _ (KW.out.alloc _) (fun _ => ?_); clear hK K; (try go_simp)
      have R2 := hidden (row_ints V1 [r.sn] 1 rfl (by decide))
      have KA := same_alloc V1 (.cells #[.int .i64 r.sn] 3)
      have R9 := hidden (R9.out.same KA)
      have KW := hidden (KW.out.alloc (.cells #[.int .i64 r.sn] 3))
      clear KA
      change Hid (Row (V1.alloc (.cells #[.int .i64 r.sn] 3)) _ _) at R2
      generalize V1.heap.size = g2 at *
      generalize V1.alloc (.cells #[.int .i64 r.sn] 3) = V2 at *
      refine wpAnyH_ready (rs := [3]) (by kernel_rfl) (by simp) ?_
      refine (AllReadyH.cons rfl (fun K hK => ?_) AllReadyH.nil)
      · skip
        refine step_call rfl 33 #[.slice (some ⟨g2, 0, none⟩) 1 1] (fun u W => u = .string y1 ∧ SameW V2 W) (by go_simp; try rfl) ((HNu3.out _ 1 1 V2 (HTb.out _ KW.out) R2.out).mono fun e w' ⟨h1, h2⟩ => ⟨_, h1, rfl, h2⟩) ?_
        rintro u V3 ⟨rfl, kk⟩
        have R9 := hidden (R9.out.same kk)
        have R2 := hidden (R2.out.same kk)
        have KW := hidden (KW.out.trans kk)
        clear kk
        refine hK.out _ _ (KW.out) (fun _ => ?_); clear hK K; (try go_simp)
        refine wpAnyH_ready (rs := [10]) (by kernel_rfl) (by simp) ?_
        refine (AllReadyH.cons rfl (fun K hK => ?_) AllReadyH.nil)
        · skip
          refine step_call rfl 33 #[.slice (some ⟨g9, 0, none⟩) 2 2] (fun u W => u = .string y2 ∧ SameW V3 W) (by go_simp; try rfl) ((HNu10.out _ 2 2 V3 (HTb.out _ KW.out) R9.out).mono fun e w' ⟨h1, h2⟩ => ⟨_, h1, rfl, h2⟩) ?_
          rintro u V4 ⟨rfl, kk⟩
          have R9 := hidden (R9.out.same kk)
          have R2 := hidden (R2.out.same kk)
          have KW := hidden (KW.out.trans kk)
          clear kk
          refine hK.out _ _ (KW.out) (fun _ => ?_); clear hK K; (try go_simp)
          refine wpAnyH_ready (rs := [11]) (by kernel_rfl) (by simp) ?_
          refine (AllReadyH.cons rfl (fun K hK => ?_) AllReadyH.nil)
          go_simp
          refine hK.out _ _ (KW.out.alloc _) (fun _ => ?_); clear hK K; (try go_simp)
          have R11 : Hid (Row (V4.alloc (.cells #[.string y1, .string ⟨#[100, 105, 114]⟩, .string y2] 9)) (.slice (some ⟨V4.heap.size, 0, none⟩) 3 3) (TS ([X1, [100, 105, 114], X2].map BA))) := hidden (by have h := row_strs V4 [X1, [100, 105, 114], X2] 3 rfl (by decide); rw [HY1.out, HY2.out]; exact h)
          have KW := hidden (KW.out.alloc (.cells #[.string y1, .string ⟨#[100, 105, 114]⟩, .string y2] 9))
          generalize V4.heap.size = g11 at *
          generalize V4.alloc (.cells #[.string y1, .string ⟨#[100, 105, 114]⟩, .string y2] 9) = V5 at *
          refine wpAnyH_ready (rs := [12]) (by kernel_rfl) (by simp) ?_
          refine (AllReadyH.cons rfl (fun K hK => ?_) AllReadyH.nil)
          refine step_call rfl 32 #[.slice (some ⟨g11, 0, none⟩) 3 3] (fun u W => u = .string z ∧ SameW V5 W) (by go_simp; try rfl) ((HJn.out _ 3 3 V5 R11.out).mono fun e w' ⟨h1, h2⟩ => ⟨_, h1, rfl, h2⟩) ?_
          rintro u V6 ⟨rfl, kk⟩
          have KW := hidden (KW.out.trans kk)
          clear kk
          refine hK.out _ _ (KW.out) (fun _ => ?_); clear hK K; (try go_simp)
          refine wpAnyH_ready (rs := [13]) (by kernel_rfl) (by simp) ?_
          refine (AllReadyH.cons rfl (fun K hK => ?_) AllReadyH.nil)
          go_simp
          refine hK.out _ _ (KW.out) (fun _ => ?_); clear hK K; (try go_simp)
          refine wpAnyH_done (by kernel_rfl) ?_ _
          go_wp2
          go_returns
          exact ⟨rfl, HSb.out.trans KW.out⟩
theorem statLine_any (r : ResR) (hr : r.Ok) (w : World) (T : Tb w) : Calls Tryd.prog 34 #[.agg #[.int .i64 r.sn, .bool r.sd, .int .i64 r.ss, .int .i64 r.sl]] w fun e w' => e = .returned (.string (BA (statL r))) ∧ Same w w' := by
  have hR : statL r = jn [jn ([r.sn].map Lib.itoa), kindL r.sd, jn ([r.ss, r.sl].map Lib.itoa)] := by
    simp only [List.map_cons, List.map_nil, jn_one, jn_cons]
    unfold statL
    simp
  rw [hR]
  cases hd : r.sd
  · exact statLine_false r hr w T
  · exact statLine_true r hr w T
end Go.Proofs.YtndfgpelioipcaaDoor
