/- DiskFlushed, walked. -/
import Derived.Test.YtpfcggliibmdbaaX4
namespace Go.Proofs.Ytpfcggliibmdbaa
open Go.RowKit
set_option linter.unusedVariables false
theorem XD.lt {B n c g pb pc rb rc M : Nat} {pl rl : List (List UInt8)} {pend : List (Nat × List UInt8)} {w : World} (h : XD B n c g pb pc rb rc M pl rl pend w) : g < w.heap.size ∧ pb < w.heap.size ∧ rb < w.heap.size := by
  obtain ⟨qv, qs, ps, rs, r, wn, f, h1, h2, h3, h4, h5, h6, h7, h8, h9, h10, h11⟩ := h.ex
  refine ⟨blk_lt h1, ?_, ?_⟩
  · rcases h5.2 with ⟨h, _⟩ | ⟨g', cap, cur, h, _, hg', _⟩
    · cases h
    · obtain ⟨rfl, _⟩ : pb = g' ∧ pc = cap := by simpa using h
      exact blk_lt hg'
  · rcases h7.2 with ⟨h, _⟩ | ⟨g', cap, cur, h, _, hg', _⟩
    · cases h
    · obtain ⟨rfl, _⟩ : rb = g' ∧ rc = cap := by simpa using h
      exact blk_lt hg'
theorem XD.cell1 {B n c g pb pc rb rc M : Nat} {pl rl : List (List UInt8)} {pend : List (Nat × List UInt8)} {w : World} (h : XD B n c g pb pc rb rc M pl rl pend w) : w.cell? ⟨g, 1, none⟩ = some (.slice (some ⟨pb, 0, none⟩) c pc) := by
  obtain ⟨qv, qs, ps, rs, r, wn, f, h1, _⟩ := h.ex
  exact blk_cell h1
set_option maxHeartbeats 4000000 in
set_option maxRecDepth 100000 in
theorem fl_no (n c : Int) (v2 v3 : Value) (w : World) (h : ¬ (JSize n ∧ 1 ≤ c ∧ c ≤ 4096)) :
    Calls Try.prog 5 #[.int .i64 n, .int .i64 c, v2, v3] w fun e w' => e = .returned (.bool true) ∧ Same w w' := by
  have HN := hidden (fun w => d_newNo n c w h)
  clear h
  go_enter Try.func5, Try.ntmps5
  go_wp2_with (first
    | (go_at_call 11; refine (d_lives _).mono ?_; rintro e w1 ⟨rfl, k1⟩)
    | (go_at_call 12; refine (HN.out _).mono ?_; rintro e w2 ⟨rfl, rfl⟩))
  go_returns
  exact ⟨rfl, k1⟩
set_option maxHeartbeats 8000000 in
set_option maxRecDepth 100000 in
theorem fl_yes (n c : Nat) (v2 v3 : Value) (nl : Nat) (fl : Nat → Int × Int × Nat) (ks : List Int) (w : World) (hn : JSize n) (hc1 : 1 ≤ c) (hc2 : c ≤ 4096) (hl : DOps w v2 nl fl) (hnl : nl * 56 ≤ 140737488351232)
    (hks : Ints w v3 ks) (hkl : ks.length * 8 ≤ 140737488351232) (hkb : ∀ a k c, v3 = .slice (some a) k c → 0 < k → a.block < w.heap.size) :
    Calls Try.prog 5 #[.int .i64 n, .int .i64 c, v2, v3] w fun e w' => e = .returned (.bool true) ∧ Same w w' := by
  have hn4 : n ≤ 4096 := by have := hn.2.1; omega
  have hn5 : 512 ≤ n := by have := hn.1; omega
  have HN := hidden (fun w => d_new n c w hn hc1 hc2)
  obtain ⟨la, lc, rfl, hlc⟩ := hl
  obtain ⟨ka, kc, rfl⟩ := hks.form
  have HLC := hidden hlc
  have HKS : Hid (∀ w', Same w w' → Ints w' (.slice ka ks.length kc) ks) := fun w' k => hks.same k
  have HKB := hidden hkb
  have hmr := make_rows c (by omega)
  have hmb := make_bytes n (by omega)
  obtain ⟨i0, hi, hz0, hz1, hz2⟩ := info_parts infoB
  have m1 : Hid (0 + c ≤ maxLen) := by rw [Hid]; unfold maxLen; omega
  have m2 : Hid ((0 + c) * 24 ≤ 140737488355328) := by rw [Hid]; omega
  clear hn hlc hks hkb
  have tk : True := trivial
  go_enter Try.func5, Try.ntmps5
  go_wp2_with (first
    | (go_at_call 11; refine (d_lives _).mono ?_; rintro e w0 ⟨rfl, k0⟩; have K0 := hidden k0; clear k0)
    | (go_at_call 12; refine (HN.out _).mono ?_; rintro e w1 ⟨g, rfl, hM⟩; obtain ⟨pb, rb, rc, W1, k1⟩ := hM.xd hn4 hc2; have W0 := hidden W1; have K1b := hidden k1; have hB0 := K0.out.size; clear hM W1 k1))
  have hHk := hidden (heap_alloc_new w1 (.cells (Array.replicate c (.slice none 0 0)) 22))
  go_loopw [12] (fun i wr => ∃ k : Nat, k ≤ c ∧ i = .int .i64 k ∧ (∃ ys, wr.ownsRow 0 22 1 (.slice (some ⟨w1.heap.size, 0, none⟩) c c) c ys ∧ ∀ j (h : j < ys.length), j < k → Own wr ys[j] (List.replicate n 0) 0) ∧ Same w1 wr) (fun i wr => c - (intOf i).toNat)
  case atStart => exact ⟨0, Nat.zero_le _, rfl, ⟨List.replicate c (.slice none 0 0), own_of_blk (by simpa using hHk.out) (by simp) hc2, fun j h h' => absurd h' (by omega)⟩, same_alloc _ _⟩
  case round =>
    obtain ⟨k, hk, rfl, ⟨ys, hy, hyn⟩, hS⟩ := hrel
    have hyl : ys.length = c := by simpa using hy.1
    have HY := hidden hy
    have HYN := hidden hyn
    have HS := hidden hS
    by_cases hlt : k < c
    · obtain ⟨p1, p2⟩ := own_cell hy ys[k] (List.getElem?_eq_getElem (by omega))
      have q0 : (0 : Int) ≤ (k : Int) := Int.natCast_nonneg _
      have q1 : (k : Int) < (c : Int) := by omega
      have hp1 : ∀ o, (wr.alloc o).cell? ⟨w1.heap.size, k, none⟩ = some ys[k] := fun o => (Kept.cell (same_alloc wr o) (fun h => h) p1)
      have hp2 : ∀ o, (wr.alloc o).frozen? ⟨w1.heap.size, k, none⟩ = false := fun o => (own_cell (hy.alloc o) ys[k] (List.getElem?_eq_getElem (by omega))).2
      have hne6 : w1.heap.size ≠ wr.heap.size := Nat.ne_of_lt (World.block_lt_of_cell? wr _ p1)
      have hne7 : wr.heap.size ≠ w1.heap.size := hne6.symm
      clear hy hyn hS
      go_wp2
      go_roundw
      case rel =>
        have KW : Kept (fun x => x = w1.heap.size) (wr.alloc (.cells (List.replicate n (U8 0)).toArray 5)) ((wr.alloc (.cells (List.replicate n (U8 0)).toArray 5)).setCell ⟨w1.heap.size, k, none⟩ (.slice (some ⟨wr.heap.size, 0, none⟩) n n)) := (Kept.refl (fun x => x = w1.heap.size) _).setCell (p := ⟨w1.heap.size, k, none⟩) rfl _
        refine ⟨k + 1, by omega, by go_num, ⟨_, own_set (HY.out.alloc _) hlt _, fun j h h' => ?_⟩, ?_⟩
        · rw [List.getElem_set]
          by_cases hj : k = j
          · rw [if_pos hj]
            exact (own_zeros wr n).row (HY.out.alloc _) KW
          · rw [if_neg hj]
            exact ((HYN.out j (by simpa using h) (by omega)).same (same_alloc _ _)).row (HY.out.alloc _) KW
        · exact Same.of (HS.out.alloc _) KW (fun i hi e => by omega)
      case measure => simp [intOf]; omega
    · have q1 : ¬ (k : Int) < (c : Int) := by omega
      obtain ⟨w2, hw2⟩ : ∃ w2, w2 = wr := ⟨_, rfl⟩
      subst hw2
      have hLY : LL w2 ys (List.replicate c (List.replicate n 0)) := ⟨by simp [hyl], fun i a b => by rw [List.getElem_replicate]; exact hyn i a (by omega)⟩
      have HLY := hidden hLY
      have hn2 : ∀ o, ∀ j u, ys[j]? = some u → (w2.alloc o).cell? ((⟨w1.heap.size, 0, none⟩ : Addr).add j) = some u := fun o j u hu => by
        have := (own_cell (hy.alloc o) u hu).1
        rw [add_none, Nat.zero_add]
        exact this
      have HN2 := hidden hn2
      have ho2 : ∀ u ∈ ys, u.oneCell' = true := fun u hu => by
        obtain ⟨j, hj, rfl⟩ := List.getElem_of_mem hu
        obtain ⟨a, y, e⟩ := (hyn j hj (by omega)).byt.form
        rw [e]
        rfl
      have HO2 := hidden ho2
      clear hy hyn hS hLY hn2 ho2
      go_wp2_with (at_builtin; go_must (refine wpList_append_lies _ (by rfl) _ _ 52 (by rfl) w2.heap.size 22 i0 _ 1 24 Try.underlying52 hi hz0 hz1 hz2 rfl (by decide) _ _ _ (by rfl) (World.ownsRow_made w2 #[] 0 (Nat.le_refl _) (by decide) (by decide)) ⟨w1.heap.size, 0, none⟩ c c ys (by rfl) (by omega) (HN2.out _) HO2.out (by omega) m1.out m2.out (by simp) (w2.heap.size + 1) (by simp) ?_); intro nb ncp w3 hown' hgrow hat hlt')
      rw [Nat.zero_add, List.nil_append] at hown'
      have hnb : w2.heap.size ≤ nb := by
        rcases hat with h | h
        · simp [Value.ownBlock] at h; omega
        · omega
      have k3 : Same w2 w3 := ((Kept.refl (fun _ => False) w2).alloc _).grown hgrow (fun k hk hl => by simp [Value.ownBlock] at hk; omega)
      have hH : w1.heap.size < w2.heap.size := by
        obtain ⟨p1, _⟩ := own_cell HY.out ys[0] (List.getElem?_eq_getElem (by omega))
        exact World.block_lt_of_cell? w2 _ p1
      have hFI : FI w0.heap.size n c g pb rb rc nb ncp w1.heap.size 0 w1.heap.size c (List.replicate c (List.replicate n 0)) [] ys ys w3 := by
        obtain ⟨a1, a2, a3⟩ := W0.out.lt
        have hL : LL w3 ys (List.replicate c (List.replicate n 0)) := HLY.out.kept (fun v q o => o.same k3)
        exact ⟨(W0.out.same HS.out).same k3, by simp, own_kept HY.out k3 (fun _ _ h => h), own_base hown', hL, (fun i a b => Or.inr ⟨hL.2 i a b, fun x hx => by cases hx⟩), by omega, Nat.le_refl _, by omega, a1, a2, a3⟩
      have F3 := hidden hFI
      have K3 := hidden (Kept.trans (Kept.trans K1b.out HS.out) k3)
      clear hown' hgrow hat hlt' k3 hFI HYN HLY HN2 HO2 HY
      go_loopw [11, 14] (fun lv i wr => ∃ (k lb lcp : Nat) (pl : List (List UInt8)) (pend : List (Nat × List UInt8)) (ls ns : List Value), k ≤ nl ∧ i = .int .i64 k ∧ lv = .slice (some ⟨lb, 0, none⟩) c lcp ∧ FI w0.heap.size n c g pb rb rc nb ncp w1.heap.size k lb lcp pl pend ls ns wr ∧ Same w0 wr) (fun lv i wr => nl - (intOf i).toNat)
      case atStart => exact ⟨0, _, _, _, _, _, _, Nat.zero_le _, rfl, rfl, F3.out, K3.out⟩
      case round =>
        obtain ⟨k, lb, lcp, pl, pend, ls, ns, hk, rfl, rfl, hF, hS0⟩ := hrel
        have S1 := hidden (Kept.trans K0.out hS0)
        have S0 := hidden hS0
        have F1 := hidden hF
        have hkm : k ≤ 2513169434844 := by omega
        have hn1 := hF.hn
        have hl1 := hF.hl
        clear hS0 hF
        by_cases hlt : k < nl
        · obtain ⟨b, off, rfl, hcs⟩ := HLC.out (by omega)
          obtain ⟨hy, x0, x1, x2⟩ := hcs k hlt
          have hbl := World.block_lt_of_cell? w _ x0
          have y0 := Kept.cell S1.out (fun h => h) x0
          have y1 := Kept.cell S1.out (fun h => h) x1
          have y2 := Kept.cell S1.out (fun h => h) x2
          have X1' := hidden x1
          clear x0 x1 x2 hcs
          generalize (fl k).1 = kd at *
          generalize (fl k).2.1 = N at *
          generalize (fl k).2.2 = yb at *
          have q0 : (0 : Int) ≤ (k : Int) := Int.natCast_nonneg _
          have q1 : (k : Int) < (nl : Int) := by omega
          by_cases h1 : kd = 1
          · subst h1
            by_cases hN : 0 ≤ N ∧ N < c
            · obtain ⟨i, rfl⟩ := Int.eq_ofNat_of_zero_le hN.1
              have hi' : i < c := by omega
              have q2 : (0 : Int) ≤ (i : Int) := Int.natCast_nonneg _
              have q3 : (i : Int) < (c : Int) := by omega
              clear hN
              go_wp2_with (first
                | (go_at_call 24; refine (filled_any n yb _ (by omega) hy).mono ?_; rintro e w4 ⟨u4, rfl, o4, k4'⟩; have k4 : Same wr w4 := Kept.trans (Kept.refl _ wr) (by exact k4'); have OB := hidden o4; obtain ⟨ua, uc, hue⟩ := o4.byt.form; rw [flTo_len] at hue; subst hue; have F4 := hidden (F1.out.same k4); have S4 := hidden (Kept.trans S0.out k4); have t1 : w4.cell? ⟨b, off + k * 5 + 1, none⟩ = some (.int .i64 i) := Kept.cell k4 (fun h => h) y1; clear o4 k4' k4)
                | (go_at_call 23; refine (xd_write F4.out.xd (by omega) S4.out.size i hi' _ (flTo n yb (min n 40)) OB.out.byt (flTo_len _ _ _)).mono ?_; rintro e w5 ⟨rfl, W5, k5, d5⟩; have F5 := hidden (F4.out.wrote W5 k5 d5 ((OB.out.kt k5).weak (Nat.zero_le _)) hi'); have S5 := hidden (KT.same S4.out k5 (Nat.le_refl _)); have r1 : w5.cell? ⟨b, off + k * 5 + 1, none⟩ = some (.int .i64 i) := Kept.cell (Kept.trans K0.out S5.out) (fun h => h) X1'.out; obtain ⟨p1, p2⟩ := own_cell (i := i) (F4.out.xd.row d5 F4.out.hg F4.out.hp F4.out.hr F4.out.hn F4.out.now) (ns[i]'(by have := F4.out.now.1; omega)) (List.getElem?_eq_getElem _); obtain ⟨p3, p4⟩ := own_cell (i := i) (F4.out.xd.row d5 F4.out.hg F4.out.hp F4.out.hr F4.out.hl F4.out.last) (ls[i]'(by have := F4.out.last.1; omega)) (List.getElem?_eq_getElem _); have ne1 := F4.out.ne; have ne2 := ne1.symm; have hs1 := K1b.out.size; have ne3 : b ≠ nb := (by omega); have ne4 : b ≠ lb := (by omega); have ne5 := ne3.symm; have ne6 := ne4.symm; clear W5 k5 d5))
              go_roundw
              case rel => exact ⟨k + 1, _, _, _, _, _, _, by omega, by go_num, rfl, F5.out, (S5.out.setNew (p := ⟨nb, i, none⟩) (by show w0.heap.size ≤ nb; omega) _).setNew (p := ⟨lb, i, none⟩) (by show w0.heap.size ≤ lb; omega) _⟩
              case measure => simp [intOf]; omega
            · go_wp2_with (first
                | (go_at_call 24; refine (filled_any n yb _ (by omega) hy).mono ?_; rintro e w4 ⟨u4, rfl, o4, k4'⟩; have k4 : Same wr w4 := Kept.trans (Kept.refl _ wr) (by exact k4'); have OB := hidden o4; obtain ⟨ua, uc, hue⟩ := o4.byt.form; rw [flTo_len] at hue; subst hue; have F4 := hidden (F1.out.same k4); have S4 := hidden (Kept.trans S0.out k4); have t1 : w4.cell? ⟨b, off + k * 5 + 1, none⟩ = some (.int .i64 N) := Kept.cell k4 (fun h => h) y1; clear o4 k4' k4)
                | (go_at_call 23; refine (d_writeNo g pb c c N _ _ F4.out.xd.cell1 hN).mono ?_; rintro e w5 ⟨rfl, rfl⟩))
              go_roundw
              case rel => exact ⟨k + 1, _, _, _, _, _, _, by omega, by go_num, rfl, F4.out.up (by omega), S4.out⟩
              case measure => simp [intOf]; omega
          · have e1 : (kd == 1) = false := by simpa using h1
            by_cases h3 : kd = 3
            · subst h3
              have hns : ns.length = c := by simpa using F1.out.now.1
              have ho2 : ∀ u ∈ ns, u.oneCell' = true := fun u hu => by
                obtain ⟨j, hj, rfl⟩ := List.getElem_of_mem hu
                obtain ⟨a, y, e⟩ := (F1.out.ln.2 j hj (by rw [app_len, F1.out.len]; omega)).byt.form
                rw [e]
                rfl
              have HO2 := hidden ho2
              clear ho2
              go_wp2_with (first
                | (go_at_call 25; refine (xd_flush F1.out.xd (by omega)).mono ?_; rintro e w4 ⟨rfl, W4, k4, d4⟩; have S4 := hidden (KT.same S0.out k4 (Nat.le_refl _)); have hn2 : ∀ o, ∀ j u, ns[j]? = some u → (w4.alloc o).cell? ((⟨nb, 0, none⟩ : Addr).add j) = some u := (fun o j u hu => by have := (own_cell ((F1.out.xd.row d4 F1.out.hg F1.out.hp F1.out.hr F1.out.hn F1.out.now).alloc o) u hu).1; rw [add_none, Nat.zero_add]; exact this); have HN2 := hidden hn2; have HW4 := hidden W4; have HK4 := hidden k4; have HD4 := hidden d4; clear W4 k4 d4 hn2)
                | (at_builtin; go_must (refine wpList_append_lies _ (by rfl) _ _ 52 (by rfl) w4.heap.size 22 i0 _ 1 24 Try.underlying52 hi hz0 hz1 hz2 rfl (by decide) _ _ _ (by rfl) (World.ownsRow_made w4 #[] 0 (Nat.le_refl _) (by decide) (by decide)) ⟨nb, 0, none⟩ c ncp ns (by rfl) (by omega) (HN2.out _) HO2.out (by omega) m1.out m2.out (by simp) (w4.heap.size + 1) (by simp) ?_); intro lb' lcp' w5 hown' hgrow hat hlt'))
              rw [Nat.zero_add, List.nil_append] at hown'
              have hnl' : w4.heap.size ≤ lb' := by
                rcases hat with h | h
                · simp [Value.ownBlock] at h; omega
                · omega
              have k5 : Same w4 w5 := ((Kept.refl (fun _ => False) w4).alloc _).grown hgrow (fun k hk hl => by simp [Value.ownBlock] at hk; omega)
              have F5 := hidden (F1.out.flushed HW4.out HK4.out HD4.out k5 hown' hnl')
              have S5 := hidden (Kept.trans S4.out k5)
              clear hown' hgrow hat hlt' k5
              go_roundw
              case rel => exact ⟨k + 1, _, _, _, _, _, _, by omega, by go_num, rfl, F5.out, S5.out⟩
              case measure => simp [intOf]; omega
            · have e3 : (kd == 3) = false := by simpa using h3
              go_wp2
              go_roundw
              case rel => exact ⟨k + 1, _, _, _, _, _, _, by omega, by go_num, rfl, F1.out.up (by omega), S0.out⟩
              case measure => simp [intOf]; omega
        · have q1 : ¬ (k : Int) < (nl : Int) := by omega
          clear HLC
          by_cases hyb : mayB pend.length 0 ks = true
          · go_wp2_with (first
              | (go_at_call 28; have _t := F1; refine (xd_crashYes F1.out.xd F1.out.len (by omega) _ ks (HKS.out _ S1.out) (fun a k c e h => Nat.lt_of_lt_of_le (HKB.out a k c e h) hB0) (by omega) hyb).mono ?_; rintro e w4 ⟨rfl, W4, k4, d4⟩; have E4 := hidden (F1.out.crashed W4 k4 d4 (selOf_mem hyb)); have K4 := hidden (KT.same S0.out k4 (Nat.le_refl _)); clear F1 W4 k4 d4)
              | (go_at_call 20; refine (xd_pending E4.out.xd (by omega)).mono ?_; rintro e w5 ⟨rfl, k5⟩; have E5 := hidden (E4.out.same k5); have K5 := hidden (Kept.trans K4.out k5); clear k5))
            clear S0 S1
            obtain ⟨w6, hw6⟩ : ∃ w6, w6 = w5 := ⟨_, rfl⟩
            subst hw6
            generalize rd (app (selOf pend ks) pl) pend (app pend pl) = rlF at E5
            generalize app (selOf pend ks) pl = plF at E5
            go_loopw [16] (fun i wr => ∃ j : Nat, j ≤ c ∧ i = .int .i64 j ∧ FE w0.heap.size n c g pb rb rc w1.heap.size (k + j) lb lcp plF rlF ls wr ∧ Same w0 wr) (fun i wr => c - (intOf i).toNat)
            case atStart => exact ⟨0, Nat.zero_le _, rfl, E5.out, K5.out⟩
            case round =>
              obtain ⟨j, hj, rfl, hE, hSj⟩ := hrel
              have hls : ls.length = c := by simpa using hE.last.1
              have hrl := hE.len
              have hlb := hE.hl
              have EJ := hidden hE
              have SJ := hidden hSj
              have r0 : (0 : Int) ≤ (j : Int) := Int.natCast_nonneg _
              by_cases hjc : j < c
              · have r1 : (j : Int) < (c : Int) := by omega
                obtain ⟨lj, hlj⟩ : ∃ lj, lj = ls[j] := ⟨_, rfl⟩
                have hrj : rlF[j].length = n := hE.xd.rn _ (List.getElem_mem _)
                have hlast := hE.ll j (by omega) (by omega)
                have HRJ := hidden hrj
                rw [← hlj] at hlast
                have hcj : ∀ w' : World, w'.ownsRow 0 22 1 (.slice (some ⟨lb, 0, none⟩) c lcp) c ls → w'.cell? ⟨lb, j, none⟩ = some lj := fun w' o => (own_cell o lj (by rw [hlj]; exact List.getElem?_eq_getElem (by omega))).1
                have HCJ := hidden hcj
                clear hE hSj hcj hrj
                rcases hlast with hl | hl
                · subst hl
                  clear hlj
                  go_wp2_with (go_at_call 29; refine (xd_read EJ.out.xd (by omega) j hjc (by omega)).mono ?_; rintro e w7 ⟨u7, rfl, o7, W7, k7, d7⟩; obtain ⟨ua7, uc7, hue7⟩ := o7.byt.form; rw [HRJ.out] at hue7; subst hue7; have E7 := hidden (EJ.out.go W7 k7 d7); have S7 := hidden (KT.same SJ.out k7 (Nat.le_refl _)); have cj := HCJ.out _ E7.out.last; clear o7 W7 k7 d7)
                  go_roundw
                  case rel => exact ⟨j + 1, by omega, by go_num, E7.out, S7.out⟩
                  case measure => simp [intOf]; omega
                · have OL := hidden hl
                  obtain ⟨gl, _, hlg, _⟩ := hl
                  rw [HRJ.out] at hlg
                  subst hlg
                  clear hlj
                  go_wp2_with (first
                    | (go_at_call 29; refine (xd_read EJ.out.xd (by omega) j hjc (by omega)).mono ?_; rintro e w7 ⟨u7, rfl, o7, W7, k7, d7⟩; obtain ⟨ua7, uc7, hue7⟩ := o7.byt.form; rw [HRJ.out] at hue7; subst hue7; have O7 := hidden o7; have OL7 := hidden (OL.out.kt k7); have E7 := hidden (EJ.out.go W7 k7 d7); have S7 := hidden (KT.same SJ.out k7 (Nat.le_refl _)); have cj := HCJ.out _ E7.out.last; clear o7 W7 k7 d7)
                    | (go_at_call 14; refine (same_eq _ _ rlF[j] _ O7.out.byt OL7.out.byt (by rw [HRJ.out]; omega)).mono ?_; rintro e w8 ⟨rfl, k8⟩; have E8 := hidden (E7.out.same k8); have S8 := hidden (Kept.trans S7.out k8); clear k8))
                  go_roundw
                  case rel => exact ⟨j + 1, by omega, by go_num, E8.out, S8.out⟩
                  case measure => simp [intOf]; omega
              · have r1 : ¬ (j : Int) < (c : Int) := by omega
                clear hE hSj
                go_wp2
                go_returns
                exact ⟨rfl, Kept.trans K0.out SJ.out⟩
          · have hy : mayB pend.length 0 ks = false := by simpa using hyb
            by_cases hpe : pend = []
            · subst hpe
              go_wp2_with (first
                | (go_at_call 28; have _t := F1; refine (xd_crashNo F1.out.xd (by omega) _ ks (HKS.out _ S1.out) (by omega) hy).mono ?_; rintro e w4 ⟨rfl, rfl⟩; have E4 := hidden F1.out.still; clear F1)
                | (go_at_call 20; refine (xd_pending E4.out.xd (by omega)).mono ?_; rintro e w5 ⟨rfl, k5⟩; have E5 := hidden (E4.out.same k5); have K5 := hidden (Kept.trans S0.out k5); clear k5))
              clear S0 S1
              obtain ⟨w6, hw6⟩ : ∃ w6, w6 = w5 := ⟨_, rfl⟩
              subst hw6
              obtain ⟨rlF, hrlF⟩ : ∃ rlF, rlF = pl := ⟨_, rfl⟩
              obtain ⟨plF, hplF⟩ : ∃ plF, plF = pl := ⟨_, rfl⟩
              have E6 : Hid (FE w0.heap.size n c g pb rb rc w1.heap.size k lb lcp plF rlF ls w6) := by rw [hplF, hrlF]; exact E5
              clear hplF hrlF E5 E4
              go_loopw [16] (fun i wr => ∃ j : Nat, j ≤ c ∧ i = .int .i64 j ∧ FE w0.heap.size n c g pb rb rc w1.heap.size (k + j) lb lcp plF rlF ls wr ∧ Same w0 wr) (fun i wr => c - (intOf i).toNat)
              case atStart => exact ⟨0, Nat.zero_le _, rfl, E6.out, K5.out⟩
              case round =>
                obtain ⟨j, hj, rfl, hE, hSj⟩ := hrel
                have hls : ls.length = c := by simpa using hE.last.1
                have hrl := hE.len
                have hlb := hE.hl
                have EJ := hidden hE
                have SJ := hidden hSj
                have r0 : (0 : Int) ≤ (j : Int) := Int.natCast_nonneg _
                by_cases hjc : j < c
                · have r1 : (j : Int) < (c : Int) := by omega
                  obtain ⟨lj, hlj⟩ : ∃ lj, lj = ls[j] := ⟨_, rfl⟩
                  have hrj : rlF[j].length = n := hE.xd.rn _ (List.getElem_mem _)
                  have hlast := hE.ll j (by omega) (by omega)
                  have HRJ := hidden hrj
                  rw [← hlj] at hlast
                  have hcj : ∀ w' : World, w'.ownsRow 0 22 1 (.slice (some ⟨lb, 0, none⟩) c lcp) c ls → w'.cell? ⟨lb, j, none⟩ = some lj := fun w' o => (own_cell o lj (by rw [hlj]; exact List.getElem?_eq_getElem (by omega))).1
                  have HCJ := hidden hcj
                  clear hE hSj hcj hrj
                  rcases hlast with hl | hl
                  · subst hl
                    clear hlj
                    go_wp2_with (go_at_call 29; refine (xd_read EJ.out.xd (by omega) j hjc (by omega)).mono ?_; rintro e w7 ⟨u7, rfl, o7, W7, k7, d7⟩; obtain ⟨ua7, uc7, hue7⟩ := o7.byt.form; rw [HRJ.out] at hue7; subst hue7; have E7 := hidden (EJ.out.go W7 k7 d7); have S7 := hidden (KT.same SJ.out k7 (Nat.le_refl _)); have cj := HCJ.out _ E7.out.last; clear o7 W7 k7 d7)
                    go_roundw
                    case rel => exact ⟨j + 1, by omega, by go_num, E7.out, S7.out⟩
                    case measure => simp [intOf]; omega
                  · have OL := hidden hl
                    obtain ⟨gl, _, hlg, _⟩ := hl
                    rw [HRJ.out] at hlg
                    subst hlg
                    clear hlj
                    go_wp2_with (first
                      | (go_at_call 29; refine (xd_read EJ.out.xd (by omega) j hjc (by omega)).mono ?_; rintro e w7 ⟨u7, rfl, o7, W7, k7, d7⟩; obtain ⟨ua7, uc7, hue7⟩ := o7.byt.form; rw [HRJ.out] at hue7; subst hue7; have O7 := hidden o7; have OL7 := hidden (OL.out.kt k7); have E7 := hidden (EJ.out.go W7 k7 d7); have S7 := hidden (KT.same SJ.out k7 (Nat.le_refl _)); have cj := HCJ.out _ E7.out.last; clear o7 W7 k7 d7)
                      | (go_at_call 14; refine (same_eq _ _ rlF[j] _ O7.out.byt OL7.out.byt (by rw [HRJ.out]; omega)).mono ?_; rintro e w8 ⟨rfl, k8⟩; have E8 := hidden (E7.out.same k8); have S8 := hidden (Kept.trans S7.out k8); clear k8))
                    go_roundw
                    case rel => exact ⟨j + 1, by omega, by go_num, E8.out, S8.out⟩
                    case measure => simp [intOf]; omega
                · have r1 : ¬ (j : Int) < (c : Int) := by omega
                  clear hE hSj
                  go_wp2
                  go_returns
                  exact ⟨rfl, Kept.trans K0.out SJ.out⟩
            · have hpl : 0 < pend.length := List.length_pos_iff.2 hpe
              have hpz : (pend.length : Int) ≠ 0 := by omega
              have hpz2 : ((pend.length : Int) == 0) = false := by simp; omega
              have hpb : ¬ pend.length = 0 := by omega
              go_wp2_with (first
                | (go_at_call 28; have _t := F1; refine (xd_crashNo F1.out.xd (by omega) _ ks (HKS.out _ S1.out) (by omega) hy).mono ?_; rintro e w4 ⟨rfl, rfl⟩; have F4 := F1; clear F1)
                | (go_at_call 20; refine (xd_pending F4.out.xd (by omega)).mono ?_; rintro e w5 ⟨rfl, k5⟩; have F5 := hidden (F4.out.same k5); have K5 := hidden (Kept.trans S0.out k5); clear k5 F4)
                | (go_at_call 28; refine (xd_crashYes F5.out.xd F5.out.len (by omega) (.slice none 0 0) [] (Or.inl ⟨rfl, rfl⟩) (fun a k c e => by cases e) (by simp) rfl).mono ?_; rintro e w6 ⟨rfl, W6, k6, d6⟩; have E7 := hidden (F5.out.crashed W6 k6 d6 (fun x hx => by cases hx)); have K7 := hidden (KT.same K5.out k6 (Nat.le_refl _)); clear F5 W6 k6 d6))
              clear S0 S1
              obtain ⟨w9, hw9⟩ : ∃ w9, w9 = w6 := ⟨_, rfl⟩
              subst hw9
              generalize rd (app (selOf pend []) pl) pend (app pend pl) = rlF at E7
              generalize app (selOf pend []) pl = plF at E7
              go_loopw [16] (fun i wr => ∃ j : Nat, j ≤ c ∧ i = .int .i64 j ∧ FE w0.heap.size n c g pb rb rc w1.heap.size (k + j) lb lcp plF rlF ls wr ∧ Same w0 wr) (fun i wr => c - (intOf i).toNat)
              case atStart => exact ⟨0, Nat.zero_le _, rfl, E7.out, K7.out⟩
              case round =>
                obtain ⟨j, hj, rfl, hE, hSj⟩ := hrel
                have hls : ls.length = c := by simpa using hE.last.1
                have hrl := hE.len
                have hlb := hE.hl
                have EJ := hidden hE
                have SJ := hidden hSj
                have r0 : (0 : Int) ≤ (j : Int) := Int.natCast_nonneg _
                by_cases hjc : j < c
                · have r1 : (j : Int) < (c : Int) := by omega
                  obtain ⟨lj, hlj⟩ : ∃ lj, lj = ls[j] := ⟨_, rfl⟩
                  have hrj : rlF[j].length = n := hE.xd.rn _ (List.getElem_mem _)
                  have hlast := hE.ll j (by omega) (by omega)
                  have HRJ := hidden hrj
                  rw [← hlj] at hlast
                  have hcj : ∀ w' : World, w'.ownsRow 0 22 1 (.slice (some ⟨lb, 0, none⟩) c lcp) c ls → w'.cell? ⟨lb, j, none⟩ = some lj := fun w' o => (own_cell o lj (by rw [hlj]; exact List.getElem?_eq_getElem (by omega))).1
                  have HCJ := hidden hcj
                  clear hE hSj hcj hrj
                  rcases hlast with hl | hl
                  · subst hl
                    clear hlj
                    go_wp2_with (go_at_call 29; refine (xd_read EJ.out.xd (by omega) j hjc (by omega)).mono ?_; rintro e w7 ⟨u7, rfl, o7, W7, k7, d7⟩; obtain ⟨ua7, uc7, hue7⟩ := o7.byt.form; rw [HRJ.out] at hue7; subst hue7; have E7' := hidden (EJ.out.go W7 k7 d7); have S7 := hidden (KT.same SJ.out k7 (Nat.le_refl _)); have cj := HCJ.out _ E7'.out.last; clear o7 W7 k7 d7)
                    go_roundw
                    case rel => exact ⟨j + 1, by omega, by go_num, E7'.out, S7.out⟩
                    case measure => simp [intOf]; omega
                  · have OL := hidden hl
                    obtain ⟨gl, _, hlg, _⟩ := hl
                    rw [HRJ.out] at hlg
                    subst hlg
                    clear hlj
                    go_wp2_with (first
                      | (go_at_call 29; refine (xd_read EJ.out.xd (by omega) j hjc (by omega)).mono ?_; rintro e w7 ⟨u7, rfl, o7, W7, k7, d7⟩; obtain ⟨ua7, uc7, hue7⟩ := o7.byt.form; rw [HRJ.out] at hue7; subst hue7; have O7 := hidden o7; have OL7 := hidden (OL.out.kt k7); have E7' := hidden (EJ.out.go W7 k7 d7); have S7 := hidden (KT.same SJ.out k7 (Nat.le_refl _)); have cj := HCJ.out _ E7'.out.last; clear o7 W7 k7 d7)
                      | (go_at_call 14; refine (same_eq _ _ rlF[j] _ O7.out.byt OL7.out.byt (by rw [HRJ.out]; omega)).mono ?_; rintro e w8 ⟨rfl, k8⟩; have E8 := hidden (E7'.out.same k8); have S8 := hidden (Kept.trans S7.out k8); clear k8))
                    go_roundw
                    case rel => exact ⟨j + 1, by omega, by go_num, E8.out, S8.out⟩
                    case measure => simp [intOf]; omega
                · have r1 : ¬ (j : Int) < (c : Int) := by omega
                  clear hE hSj
                  go_wp2
                  go_returns
                  exact ⟨rfl, Kept.trans K0.out SJ.out⟩
end Go.Proofs.Ytpfcggliibmdbaa
