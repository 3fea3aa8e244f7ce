/- script: the document's Unquote, walked. (Made by mksc5.py.) -/
import Derived.Test.YtndfgpelioipcaaDoorSc4
namespace Go.Proofs.YtndfgpelioipcaaDoor
open Go.RowKit
set_option linter.unusedVariables false
set_option linter.unusedSimpArgs false
/-- What is left to read, and what was read. -/
structure UI (m : Nat) (P : List UInt8) (i : Nat) (done R : List UInt8) : Prop where
  left : R = (mid P).drop (i - 1)
  len : R.length = m - 1 - i
  dec : decD m (mid P) = (decD m R).map (done ++ ·)
theorem UI.zero {m : Nat} {P : List UInt8} (hm : P.length = m) (h2 : 2 ≤ m) : UI m P 1 [] (mid P) :=
  ⟨rfl, by rw [(mid_drop hm h2).1]; omega, by cases decD m (mid P) <;> rfl⟩
theorem UI.at {m i : Nat} {P done R : List UInt8} (hm : P.length = m) (h2 : 2 ≤ m) (h1 : 1 ≤ i) (h : UI m P i done R) (k : Nat) (hk : i + k < m - 1) : ∃ b, R[k]? = some b ∧ P[i + k]? = some b := by
  have hl := h.len
  have e : R[k]? = P[i + k]? := by
    rw [h.left, List.getElem?_drop, (mid_drop hm h2).2 _ (by omega)]
    congr 1; omega
  obtain ⟨b, hb⟩ : ∃ b, R[k]? = some b := ⟨_, List.getElem?_eq_getElem (by omega)⟩
  exact ⟨b, hb, by rw [← e]; exact hb⟩
theorem UI.step {m i z : Nat} {P done R R2 : List UInt8} {b : UInt8} (h : UI m P i done R) (h1 : 1 ≤ i) (hz : i + z ≤ m - 1) (hR : R2 = R.drop z) (hd : decD m R = (decD m R2).map (b :: ·)) : UI m P (i + z) (done ++ [b]) R2 := by
  have hl := h.len
  refine ⟨by rw [hR, h.left, List.drop_drop]; congr 1; omega, by rw [hR, List.length_drop]; omega, ?_⟩
  rw [h.dec, hd, Option.map_map]
  congr 1
  funext x
  simp
theorem UI.none {m i : Nat} {P done R : List UInt8} (h : UI m P i done R) (hd : decD m R = .none) (hm : P.length = m) (h2 : 2 ≤ m) : unqD P = .none := by
  unfold unqD
  split
  · rfl
  · rw [hm, h.dec, hd]
    rfl
theorem UI.some {m i : Nat} {P done : List UInt8} (h : UI m P i done []) (hm : P.length = m) (h2 : 2 ≤ m) (hh : P.head? = .some 34) (hl : P.getLast? = .some 34) : unqD P = if quoteL done = P then .some done else .none := by
  unfold unqD
  rw [if_neg (by rintro (h | h | h); (omega); (exact h hh); (exact h hl)), hm, h.dec, decD_nil]
  simp
set_option maxHeartbeats 2000000 in
set_option maxRecDepth 100000 in
theorem unquoteD_raw (s : ByteArray) (hs : s.size ≤ 17592186044416) (w : World) : Calls Tryd.prog 13 #[.string s] w fun e w' => e = .returned (uqV (unqD s.data.toList)) ∧ Same w w' := by
  obtain ⟨i0, hi0, hz0, hz1, hz2⟩ := info_parts infoB
  have hsl : s.data.toList.length = s.size := size_list s
  have HAt := hidden (str_at s)
  have HQ := hidden quoteD_any
  have HDg := hidden digit_any
  have hEq : s.toList = s.data.toList := Lib.toList_data s
  obtain ⟨P, hP⟩ : ∃ P, P = s.data.toList := ⟨_, rfl⟩
  rw [← hP] at hsl hEq HAt ⊢
  obtain ⟨m, hm⟩ : ∃ m, m = s.size := ⟨_, rfl⟩
  rw [← hm] at hsl hs
  have HLl := hidden hsl
  have HEq := hidden hEq
  have hms : (s.size : Int) = (m : Int) := by omega
  clear hP hm hEq
  by_cases h1 : m < 2
  · have q1 : (m : Int) < 2 := by omega
    have d1 : decide ((m : Int) < 2) = true := decide_eq_true q1
    have hU : unqD P = none := by unfold unqD; rw [if_pos (.inl (by omega))]
    rw [hU]
    clear hsl
    go_enter Tryd.func13, Tryd.ntmps13
    go_wp2
    go_returns
    exact ⟨rfl, Kept.refl _ _⟩
  have q1 : ¬ (m : Int) < 2 := by omega
  have d1 : decide ((m : Int) < 2) = false := decide_eq_false q1
  obtain ⟨c0, hc0⟩ : ∃ b, P[0]? = some b := ⟨_, List.getElem?_eq_getElem (by omega)⟩
  obtain ⟨c9, hc9⟩ : ∃ b, P[m - 1]? = some b := ⟨_, List.getElem?_eq_getElem (by omega)⟩
  have x0 : ∀ W : World, (Instr.index 9 (.string s) (.int .i64 0)).run Tryd.prog W = .ok (.int .u8 (c0.toNat : Int)) W := fun W => HAt.out W 0 c0 hc0
  have x9 : ∀ W : World, (Instr.index 9 (.string s) (.int .i64 ((m : Int) - 1))).run Tryd.prog W = .ok (.int .u8 (c9.toNat : Int)) W := fun W => by
    have := HAt.out W (m - 1) c9 hc9
    rwa [show ((m - 1 : Nat) : Int) = (m : Int) - 1 by omega] at this
  have e1 : IntKind.i64.wrap ((m : Int) - 1) = (m : Int) - 1 := by rw [IntKind.wrap_i64]; omega
  have hh : P.head? = some c0 := by rw [List.head?_eq_getElem?]; exact hc0
  have hl : P.getLast? = some c9 := by rw [List.getLast?_eq_getElem?, hsl]; exact hc9
  by_cases h2 : c0 = 34
  rotate_left
  · have q2 : ¬ (c0.toNat : Int) = 34 := byte_ne (by decide) h2
    have d2 : ((c0.toNat : Int) == 34) = false := by simpa using q2
    have hU : unqD P = none := by unfold unqD; rw [if_pos (.inr (.inl (by rw [hh]; simpa using h2)))]
    rw [hU]
    clear hsl hc0 hc9 hh hl
    go_enter Tryd.func13, Tryd.ntmps13
    go_wp2
    go_returns
    exact ⟨rfl, Kept.refl _ _⟩
  subst h2
  rw [show (((34 : UInt8).toNat : Nat) : Int) = 34 from rfl] at x0
  by_cases h2 : c9 = 34
  rotate_left
  · have q2 : ¬ (c9.toNat : Int) = 34 := byte_ne (by decide) h2
    have d2 : ((c9.toNat : Int) == 34) = false := by simpa using q2
    have hU : unqD P = none := by unfold unqD; rw [if_pos (.inr (.inr (by rw [hl]; simpa using h2)))]
    rw [hU]
    clear hsl hc0 hc9 hh hl
    go_enter Tryd.func13, Tryd.ntmps13
    go_wp2
    go_returns
    exact ⟨rfl, Kept.refl _ _⟩
  subst h2
  rw [show (((34 : UInt8).toNat : Nat) : Int) = 34 from rfl] at x9
  have HZ := hidden (UI.zero hsl (by omega))
  have HAi := hidden (fun (i : Nat) (done R : List UInt8) (h1 : 1 ≤ i) (h : UI m P i done R) (k : Nat) (hk : i + k < m - 1) => h.at hsl (by omega) h1 k hk)
  have HNo := hidden (fun (i : Nat) (done R : List UInt8) (h : UI m P i done R) (hd : decD m R = .none) => h.none hd hsl (by omega))
  have HYes := hidden (fun (i : Nat) (done : List UInt8) (h : UI m P i done []) => h.some hsl (by omega) hh hl)
  obtain ⟨M, hM⟩ : ∃ M, M = mid P := ⟨_, rfl⟩
  rw [← hM] at HZ
  clear hM hsl hc0 hc9 hh hl
  go_enter Tryd.func13, Tryd.ntmps13
  go_wp2
  go_loopw [4, 5] (fun u x wr => ∃ (n c i : Nat) (ao : Option Addr) (done R : List UInt8), u = .slice ao n c ∧ x = .int .i64 (i : Int) ∧ 1 ≤ i ∧ i ≤ m - 1 ∧ n = done.length ∧ n ≤ i ∧ UI m P i done R ∧ wr.ownsRow w.heap.size 5 1 (.slice ao n c) n (done.map U8) ∧ Same w wr) (fun _ x _ => m - (intOf x).toNat)
  case atStart => exact ⟨0, 0, 1, none, [], M, rfl, rfl, by omega, by omega, rfl, by omega, HZ.out, World.ownsRow_nil _ _ _ _, Kept.refl _ _⟩
  case round =>
    obtain ⟨n, c, i, ao, done, R, rfl, rfl, hi1, him, hn, hni, hI, hO, hS⟩ := hrel
    have HO := hidden hO
    have HS := hidden hS
    have HN := hidden hn
    have HI := hidden hI
    clear hO hS hn hI
    have w1 : IntKind.i64.wrap ((i : Int) + 1) = (i : Int) + 1 := by rw [IntKind.wrap_i64]; omega
    have w2 : IntKind.i64.wrap ((i : Int) + 2) = (i : Int) + 2 := by rw [IntKind.wrap_i64]; omega
    have w3 : IntKind.i64.wrap ((i : Int) + 3) = (i : Int) + 3 := by rw [IntKind.wrap_i64]; omega
    by_cases g1 : i = m - 1
    · have q3 : ¬ (i : Int) < (m : Int) - 1 := by omega
      have d3 : decide ((i : Int) < (m : Int) - 1) = false := decide_eq_false q3
      have hR0 : R = [] := List.length_eq_zero_iff.1 (by rw [HI.out.len]; omega)
      have HU := hidden (HYes.out _ _ (hR0 ▸ HI.out))
      have hcv : (convert 42 9 (.slice ao n c)).run Tryd.prog wr = .ok (.string (BA done)) wr := own_text HO.out
      have hsz : (BA done).size ≤ 17592186044416 := by rw [BA_size, ← HN.out]; omega
      have HQ1 := hidden (fun W => HQ.out (BA done) hsz W)
      rw [BA_data] at HQ1
      by_cases h3 : quoteL done = P
      · have h4 : (BA (quoteL done)).toList = s.toList := by rw [toList_BA, HEq.out, h3]
        have HU3 := hidden (show unqD P = some done by rw [HU.out, if_pos h3])
        generalize BA (quoteL done) = y at *
        have d4 : (y.toList == s.toList) = true := by simpa using h4
        clear hR0 HU h3 hsz
        go_wp2_with (go_at_call 12; refine (HQ1.out _).mono ?_; rintro e w9 ⟨rfl, k1⟩; have K1 := hidden k1; clear k1; have hcv2 : (convert 42 9 (.slice ao n c)).run Tryd.prog w9 = .ok (.string (BA done)) w9 := (own_text (own_kept HO.out K1.out (fun _ _ h => h))))
        go_returns
        exact ⟨by rw [HU3.out]; rfl, HS.out.trans K1.out⟩
      · have h4 : ¬ (BA (quoteL done)).toList = s.toList := by rw [toList_BA, HEq.out]; exact h3
        have HU3 := hidden (show unqD P = none by rw [HU.out, if_neg h3])
        generalize BA (quoteL done) = y at *
        have d4 : (y.toList == s.toList) = false := by simpa using h4
        clear hR0 HU h3 hsz
        go_wp2_with (go_at_call 12; refine (HQ1.out _).mono ?_; rintro e w9 ⟨rfl, k1⟩; have K1 := hidden k1; clear k1)
        go_returns
        exact ⟨by rw [HU3.out]; rfl, HS.out.trans K1.out⟩
    have q3 : (i : Int) < (m : Int) - 1 := by omega
    have d3 : decide ((i : Int) < (m : Int) - 1) = true := decide_eq_true q3
    obtain ⟨cc, r0, hcc⟩ := HAi.out _ _ _ hi1 HI.out 0 (by omega)
    have x1 : ∀ W : World, (Instr.index 9 (.string s) (.int .i64 (i : Int))).run Tryd.prog W = .ok (.int .u8 (cc.toNat : Int)) W := fun W => HAt.out W i cc hcc
    obtain ⟨r, hr⟩ : ∃ r, R = cc :: r := by
      cases R with
      | nil => simp at r0
      | cons x y => simp at r0; exact ⟨y, by rw [r0]⟩
    have hRl := HI.out.len
    rw [hr, List.length_cons] at hRl
    by_cases g2 : cc = 92
    rotate_left
    · have q4 : ¬ (cc.toNat : Int) = 92 := byte_ne (by decide) g2
      have HI2 := hidden (HI.out.step (z := 1) (R2 := r) hi1 (by omega) (by rw [hr]; rfl) (by rw [hr]; exact decD_plain (by rw [List.length_cons]; omega) g2))
      have HRl := hidden hRl
      clear g2 r0 hr hcc hRl
      go_wp2_with (at_builtin; go_must (refine wpList_append_any (by rfl) _ _ 42 (by rfl) w.heap.size 5 i0 _ 1 1 Tryd.underlying42 hi0 hz0 hz1 hz2 rfl (by decide) _ _ _ _ (by rfl) (HO.out.alloc _) (some ⟨wr.heap.size, 0, none⟩) 1 1 (([cc] : List UInt8).map U8) (by rfl) (by rfl) (lies_of (World.news_of_block (heap_alloc_new wr _))) (u8_one _) (by unfold maxLen; omega) (by omega) (by simp; have := HS.out.size; omega) ?_; intro a3 c3 w3' hown hgrow; have R3 := hidden (same_grown (m := 0) (HS.out.alloc _) (HO.out.alloc _) hgrow); have O3 := hidden hown; clear hown hgrow))
      go_roundw
      case rel => exact ⟨n + 1, c3, i + 1, a3, done ++ [cc], r, rfl, by go_num, by omega, by omega, by rw [HN.out]; simp, by omega, HI2.out, by rw [List.map_append]; exact O3.out, R3.out⟩
      case measure => simp [intOf]; omega
    subst g2
    rw [show (((92 : UInt8).toNat : Nat) : Int) = 92 from rfl] at x1
    by_cases g3 : i + 1 = m - 1
    · have q5 : (m : Int) - 1 ≤ (i : Int) + 1 := by omega
      have d5 : decide ((m : Int) - 1 ≤ (i : Int) + 1) = true := decide_eq_true q5
      have hr0 : r = [] := List.length_eq_zero_iff.1 (by omega)
      have HU3 := hidden (HNo.out _ _ _ HI.out (by rw [hr, hr0]; exact decD_last (by omega)))
      clear r0 hr hcc hRl hr0
      go_wp2
      go_returns
      exact ⟨by rw [HU3.out]; rfl, HS.out⟩
    have q5 : ¬ (m : Int) - 1 ≤ (i : Int) + 1 := by omega
    have d5 : decide ((m : Int) - 1 ≤ (i : Int) + 1) = false := decide_eq_false q5
    obtain ⟨dd, r1, hdd⟩ := HAi.out _ _ _ hi1 HI.out 1 (by omega)
    have x2 : ∀ W : World, (Instr.index 9 (.string s) (.int .i64 ((i : Int) + 1))).run Tryd.prog W = .ok (.int .u8 (dd.toNat : Int)) W := fun W => HAt.out W (i + 1) dd hdd
    obtain ⟨r2, hr2⟩ : ∃ r2, r = dd :: r2 := by
      rw [hr] at r1
      cases r with
      | nil => simp at r1
      | cons x y => simp at r1; exact ⟨y, by rw [r1]⟩
    rw [hr2, List.length_cons] at hRl
    by_cases g4 : dd = 120
    rotate_left
    · have q6 : ¬ (dd.toNat : Int) = 120 := byte_ne (by decide) g4
      have HI2 := hidden (HI.out.step (z := 2) (R2 := r2) hi1 (by omega) (by rw [hr, hr2]; rfl) (by rw [hr, hr2]; exact decD_esc (by simp only [List.length_cons]; omega) g4))
      clear g4 r0 r1 hr hr2 hcc hdd hRl
      go_wp2_with (at_builtin; go_must (refine wpList_append_any (by rfl) _ _ 42 (by rfl) w.heap.size 5 i0 _ 1 1 Tryd.underlying42 hi0 hz0 hz1 hz2 rfl (by decide) _ _ _ _ (by rfl) (HO.out.alloc _) (some ⟨wr.heap.size, 0, none⟩) 1 1 (([dd] : List UInt8).map U8) (by rfl) (by rfl) (lies_of (World.news_of_block (heap_alloc_new wr _))) (u8_one _) (by unfold maxLen; omega) (by omega) (by simp; have := HS.out.size; omega) ?_; intro a3 c3 w3' hown hgrow; have R3 := hidden (same_grown (m := 0) (HS.out.alloc _) (HO.out.alloc _) hgrow); have O3 := hidden hown; clear hown hgrow))
      go_roundw
      case rel => exact ⟨n + 1, c3, i + 2, a3, done ++ [dd], r2, rfl, by go_num, by omega, by omega, by rw [HN.out]; simp, by omega, HI2.out, by rw [List.map_append]; exact O3.out, R3.out⟩
      case measure => simp [intOf]; omega
    subst g4
    rw [show (((120 : UInt8).toNat : Nat) : Int) = 120 from rfl] at x2
    by_cases g5 : m - 1 ≤ i + 3
    · have q7 : (m : Int) - 1 ≤ (i : Int) + 3 := by omega
      have d7 : decide ((m : Int) - 1 ≤ (i : Int) + 3) = true := decide_eq_true q7
      have HU3 := hidden (HNo.out _ _ _ HI.out (by rw [hr, hr2]; exact decD_bad (by simp only [List.length_cons]; omega) (.inl (by omega))))
      clear r0 r1 hr hr2 hcc hdd hRl
      go_wp2
      go_returns
      exact ⟨by rw [HU3.out]; rfl, HS.out⟩
    have q7 : ¬ (m : Int) - 1 ≤ (i : Int) + 3 := by omega
    have d7 : decide ((m : Int) - 1 ≤ (i : Int) + 3) = false := decide_eq_false q7
    obtain ⟨uu, u0, huu⟩ := HAi.out _ _ _ hi1 HI.out 2 (by omega)
    obtain ⟨vv, v0, hvv⟩ := HAi.out _ _ _ hi1 HI.out 3 (by omega)
    have x3 : ∀ W : World, (Instr.index 9 (.string s) (.int .i64 ((i : Int) + 2))).run Tryd.prog W = .ok (.int .u8 (uu.toNat : Int)) W := fun W => HAt.out W (i + 2) uu huu
    have x4 : ∀ W : World, (Instr.index 9 (.string s) (.int .i64 ((i : Int) + 3))).run Tryd.prog W = .ok (.int .u8 (vv.toNat : Int)) W := fun W => HAt.out W (i + 3) vv hvv
    obtain ⟨r4, hr4⟩ : ∃ r4, r2 = uu :: vv :: r4 := by
      rw [hr, hr2] at u0 v0
      match r2, u0, v0 with
      | [], u0, _ => simp at u0
      | [x], _, v0 => simp at v0
      | x :: y :: z, u0, v0 => simp at u0 v0; exact ⟨z, by rw [u0, v0]⟩
    rw [hr4, List.length_cons, List.length_cons] at hRl
    have HD1 := hidden (HDg.out uu)
    have HD2 := hidden (HDg.out vv)
    have hr1 := hexI_range uu
    have hrv := hexI_range vv
    by_cases g6 : hexI uu < 0
    · have HU3 := hidden (HNo.out _ _ _ HI.out (by rw [hr, hr2, hr4]; exact decD_bad (by simp only [List.length_cons]; omega) (.inr (.inl (by simpa using g6)))))
      clear r0 r1 hr hr2 hr4 hcc hdd huu hvv u0 v0 hRl
      generalize hexI uu = y1 at *
      have d8 : decide (y1 < 0) = true := decide_eq_true g6
      go_wp2_with (go_at_call 22; refine (HD1.out _).mono ?_; rintro e w9 ⟨rfl, rfl⟩)
      go_returns
      exact ⟨by rw [HU3.out]; rfl, HS.out⟩
    by_cases g7 : hexI vv < 0
    · have HU3 := hidden (HNo.out _ _ _ HI.out (by rw [hr, hr2, hr4]; exact decD_bad (by simp only [List.length_cons]; omega) (.inr (.inr (by simpa using g7)))))
      clear r0 r1 hr hr2 hr4 hcc hdd huu hvv u0 v0 hRl
      generalize hexI uu = y1 at *
      generalize hexI vv = y2 at *
      have d8 : decide (y1 < 0) = false := decide_eq_false g6
      have d9 : decide (y2 < 0) = true := decide_eq_true g7
      go_wp2_with (first
        | (go_at_call 22; refine (HD1.out _).mono ?_; rintro e w9 ⟨rfl, rfl⟩; clear HD1)
        | (go_at_call 22; refine (HD2.out _).mono ?_; rintro e w9 ⟨rfl, rfl⟩))
      go_returns
      exact ⟨by rw [HU3.out]; rfl, HS.out⟩
    have HI2 := hidden (HI.out.step (z := 4) (R2 := r4) hi1 (by omega) (by rw [hr, hr2, hr4]; rfl) (by rw [hr, hr2, hr4]; exact decD_hex (by simp only [List.length_cons]; omega) (by omega) (by omega)))
    have ho := hx_mul (hexI uu) (hexI vv) (by omega) hr1.2 (by omega) hrv.2
    clear r0 r1 hr hr2 hr4 hcc hdd huu hvv u0 v0 hRl
    have H3 := hidden x3
    have H4 := hidden x4
    generalize hexI uu = y1 at *
    generalize hexI vv = y2 at *
    generalize hx y1 y2 = bb at *
    have d8 : decide (y1 < 0) = false := decide_eq_false g6
    have d9 : decide (y2 < 0) = false := decide_eq_false g7
    have e16 : IntKind.i64.wrap (16 * y1) = 16 * y1 := by rw [IntKind.wrap_i64]; omega
    have e17 : IntKind.i64.wrap (16 * y1 + y2) = 16 * y1 + y2 := by rw [IntKind.wrap_i64]; omega
    have e18 : IntKind.u8.wrap (16 * y1 + y2) = (bb.toNat : Int) := by rw [← ho]; simp [IntKind.wrap, IntKind.signed, IntKind.bits]
    have HD3 := HD1
    have HD4 := HD2
    have Hm1 : Hid (n + 1 ≤ maxLen) := hidden (by unfold maxLen; omega)
    have Hb1 : Hid ((n + 1) * 1 ≤ 140737488355328) := hidden (by omega)
    have Hsz : Hid (w.heap.size ≤ wr.heap.size) := hidden HS.out.size
    go_wp2_with (first
      | (go_at_call 22; refine (HD1.out _).mono ?_; rintro e w9 ⟨rfl, rfl⟩; clear HD1)
      | (go_at_call 22; refine (HD2.out _).mono ?_; rintro e w9 ⟨rfl, rfl⟩))
    refine wp_region_any hmx ?_
    change wpAny Tryd.prog _ _ _ _ _ _ wr.drew
    refine wpAny_take (i := 0) (v := .slice ao n c) rfl (by kernel_rfl) (by kernel_rfl) (by kernel_rfl) (fun _ _ _ h => h) (Or.inl ⟨by rfl, (by intro w; go_simp; try rfl)⟩) ?_; (try go_simp)
    refine wpAny_take (i := 1) (v := .string s) rfl (by kernel_rfl) (by kernel_rfl) (by kernel_rfl) (fun _ _ _ h => h) (Or.inl ⟨by rfl, (by intro w; go_simp; try rfl)⟩) ?_; (try go_simp)
    refine wpAny_take (i := 2) (v := .int .i64 (i : Int)) rfl (by kernel_rfl) (by kernel_rfl) (by kernel_rfl) (fun _ _ _ h => h) (Or.inl ⟨by rfl, (by intro w; go_simp; try rfl)⟩) ?_; (try go_simp)
    refine wpAny_take (i := 3) (v := .int .i64 ((i : Int) + 2)) rfl (by kernel_rfl) (by kernel_rfl) (by kernel_rfl) (fun _ _ _ h => h) (Or.inl ⟨by rfl, (by intro w; go_simp; try rfl)⟩) ?_; (try go_simp)
    refine wpAny_take (i := 4) (v := .int .u8 (uu.toNat : Int)) rfl (by kernel_rfl) (by kernel_rfl) (by kernel_rfl) (fun _ _ _ h => h) (Or.inl ⟨by rfl, yi rfl rfl rfl H3.out⟩) ?_; (try go_simp)
    refine wpAny_take (i := 7) (v := .string s) rfl (by kernel_rfl) (by kernel_rfl) (by kernel_rfl) (fun _ _ _ h => h) (Or.inl ⟨by rfl, (by intro w; go_simp; try rfl)⟩) ?_; (try go_simp)
    refine wpAny_take (i := 8) (v := .int .i64 (i : Int)) rfl (by kernel_rfl) (by kernel_rfl) (by kernel_rfl) (fun _ _ _ h => h) (Or.inl ⟨by rfl, (by intro w; go_simp; try rfl)⟩) ?_; (try go_simp)
    refine wpAny_take (i := 9) (v := .int .i64 ((i : Int) + 3)) rfl (by kernel_rfl) (by kernel_rfl) (by kernel_rfl) (fun _ _ _ h => h) (Or.inl ⟨by rfl, (by intro w; go_simp; try rfl)⟩) ?_; (try go_simp)
    refine wpAny_take (i := 10) (v := .int .u8 (vv.toNat : Int)) rfl (by kernel_rfl) (by kernel_rfl) (by kernel_rfl) (fun _ _ _ h => h) (Or.inl ⟨by rfl, yi rfl rfl rfl H4.out⟩) ?_; (try go_simp)
    refine wpAny_ready (rs := [5]) (by kernel_rfl) (by simp) ?_; refine AllReady.cons rfl (fun K hK => ?_) AllReady.nil
    refine step_call rfl 22 #[.int .u8 (uu.toNat : Int)] (fun x W => x = .int .i64 y1 ∧ wr.drew = W) (by go_simp; try rfl) ((HD3.out _).mono fun e w' ⟨h1, h2⟩ => ⟨_, h1, rfl, h2⟩) ?_
    rintro x W ⟨rfl, rfl⟩
    refine hK _ _ ?_; clear hK K; (try go_simp)
    refine wpAny_take (i := 6) (v := .int .i64 (16 * y1)) rfl (by kernel_rfl) (by kernel_rfl) (by kernel_rfl) (fun _ _ _ h => h) (Or.inl ⟨by rfl, (by intro w; go_simp; try rfl)⟩) ?_; (try go_simp)
    refine wpAny_ready (rs := [11]) (by kernel_rfl) (by simp) ?_; refine AllReady.cons rfl (fun K hK => ?_) AllReady.nil
    refine step_call rfl 22 #[.int .u8 (vv.toNat : Int)] (fun x W => x = .int .i64 y2 ∧ wr.drew = W) (by go_simp; try rfl) ((HD4.out _).mono fun e w' ⟨h1, h2⟩ => ⟨_, h1, rfl, h2⟩) ?_
    rintro x W ⟨rfl, rfl⟩
    refine hK _ _ ?_; clear hK K; (try go_simp)
    refine wpAny_take (i := 12) (v := .int .i64 (16 * y1 + y2)) rfl (by kernel_rfl) (by kernel_rfl) (by kernel_rfl) (fun _ _ _ h => h) (Or.inl ⟨by rfl, (by intro w; go_simp; try rfl)⟩) ?_; (try go_simp)
    refine wpAny_take (i := 13) (v := .int .u8 (bb.toNat : Int)) rfl (by kernel_rfl) (by kernel_rfl) (by kernel_rfl) (fun _ _ _ h => h) (Or.inl ⟨by rfl, (by intro w; go_simp; try rfl)⟩) ?_; (try go_simp)
    refine wpAny_ready (rs := [14]) (by kernel_rfl) (by simp) ?_; refine AllReady.cons rfl (fun K hK => ?_) AllReady.nil
    go_simp
    refine hK _ _ ?_; clear hK K; (try go_simp)
    refine wpAny_ready (rs := [15]) (by kernel_rfl) (by simp) ?_; refine AllReady.cons rfl (fun K hK => ?_) AllReady.nil
    refine step_append_any (by rfl) _ _ 42 (by rfl) w.heap.size 5 i0 (.int .u8 0) 1 1 Tryd.underlying42 hi0 hz0 hz1 hz2 rfl (by decide) ao n c _ (by rfl) (ownsRow_heap (w := wr.alloc _) rfl (HO.out.alloc _)) (some ⟨wr.heap.size, 0, none⟩) 1 1 (([bb] : List UInt8).map U8) (by rfl) (by rfl) (lies_of (World.news_of_block (heap_alloc_new wr _))) (u8_one _) Hm1.out Hb1.out (by have := Hsz.out; simp; omega) ?_
    intro a3 c3 w3' hown' hgrow
    have O3 := hidden hown'
    have R3 : Hid (Same w w3') := hidden ((HS.out.drew.alloc _).grown (row := (Value.slice ao n c).ownBlock) hgrow (fun k hk hl => by have := (HO.out.lt k hk).1; omega))
    clear hown' hgrow
    refine hK _ _ ?_; clear hK K; (try go_simp)
    refine wpAny_ready (rs := [16]) (by kernel_rfl) (by simp) ?_; refine AllReady.cons rfl (fun K hK => ?_) AllReady.nil
    go_simp
    refine hK _ _ ?_; clear hK K; (try go_simp)
    refine wpAny_done (by kernel_rfl) ?_ _
    go_wp2
    go_roundw
    case rel => exact ⟨n + 1, c3, i + 4, a3, done ++ [bb], r4, rfl, by go_num, by omega, by omega, by rw [HN.out]; simp, by omega, HI2.out, by rw [List.map_append]; exact O3.out, R3.out⟩
    case measure => simp [intOf]; omega
theorem unquoteD_any (s : ByteArray) (hs : s.size ≤ 17592186044416) (w : World) : Calls Tryd.prog 13 #[.string s] w fun e w' => e = .returned (uqV (unq s.data.toList)) ∧ Same w w' := by
  rw [← unqD_eq]
  exact unquoteD_raw s hs w
end Go.Proofs.YtndfgpelioipcaaDoor
