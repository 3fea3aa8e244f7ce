/- pack: the law's 'laid' of what Take told. -/
import Derived.Test.YtafdkfieajdeiaaDoorPT3
/- pack: sectors laid over an image. -/
namespace Go.Proofs.YtafdkfieajdeiaaDoor
open Go.RowKit
set_option linter.unusedVariables false
set_option linter.unusedSimpArgs false
/-- The bytes now up to a place, as they were behind it. -/
def PSt.ov (s : PSt) (b : Nat) : List UInt8 := s.img.take b ++ s.last.drop b
theorem PSt.ov_len {s : PSt} (hk : s.Ok) (b : Nat) (h : b ≤ s.len) : (s.ov b).length = s.len := by
  unfold PSt.ov
  rw [List.length_append, List.length_take, List.length_drop, PSt.img_len hk, PSt.last_len hk]
  omega
theorem PSt.ov_zero (s : PSt) : s.ov 0 = s.last := by unfold PSt.ov; simp
theorem PSt.ov_all {s : PSt} (hk : s.Ok) : s.ov s.len = s.img := by
  unfold PSt.ov
  rw [List.take_of_length_le (by rw [PSt.img_len hk]; exact Nat.le_refl _), List.drop_of_length_le (by rw [PSt.last_len hk]; exact Nat.le_refl _), List.append_nil]
theorem PSt.ov_at {s : PSt} (hk : s.Ok) (b : Nat) (h : b < s.len) : (s.ov b)[b]? = s.last[b]? := by
  unfold PSt.ov
  rw [List.getElem?_append_right (by rw [List.length_take]; omega), List.length_take, PSt.img_len hk, Nat.min_eq_left (by omega), Nat.sub_self, List.getElem?_drop]
  rfl
theorem PSt.ov_set {s : PSt} (hk : s.Ok) (b : Nat) (h : b < s.img.length) : (s.ov b).set b s.img[b] = s.ov (b + 1) := by
  have hl : b < s.last.length := by rw [PSt.last_len hk, ← PSt.img_len hk]; exact h
  unfold PSt.ov
  have e : s.last.drop b = s.last[b] :: s.last.drop (b + 1) := by rw [List.drop_eq_getElem_cons hl]
  rw [e, List.set_append_right _ _ (by rw [List.length_take]; omega), List.length_take, Nat.min_eq_left (by omega), Nat.sub_self, List.set_cons_zero, List.take_add_one, List.getElem?_eq_getElem h, List.append_assoc]
  rfl
theorem secB_at {size : Nat} {b : List UInt8} {n k : Nat} (hk : k < size) : (secB size b n)[k]? = b[n * size + k]? := by
  unfold secB
  rw [List.getElem?_take, if_pos hk, List.getElem?_drop]
theorem PSt.ov_step {s : PSt} (hk : s.Ok) (n : Nat) (hn : n < s.sectors) (hd : s.diff n = false) : s.ov ((n + 1) * s.size) = s.ov (n * s.size) := by
  have e : secB s.size s.img n = secB s.size s.last n := by
    unfold PSt.diff at hd
    simpa using hd
  unfold secB at e
  unfold PSt.ov
  have h1 : s.img.take ((n + 1) * s.size) = s.img.take (n * s.size) ++ (s.img.drop (n * s.size)).take s.size := by
    rw [Nat.add_mul, Nat.one_mul, List.take_add]
  have h2 : (s.last.drop (n * s.size)).take s.size ++ s.last.drop ((n + 1) * s.size) = s.last.drop (n * s.size) := by
    rw [show (n + 1) * s.size = n * s.size + s.size by rw [Nat.add_mul]; omega, ← List.drop_drop, List.take_append_drop]
  rw [h1, e, List.append_assoc, h2]
theorem PSt.secs_same {s : PSt} (hk : s.Ok) : ∀ (d c : Nat), c + d ≤ s.sectors → s.secs (c + d) = s.secs c → s.ov ((c + d) * s.size) = s.ov (c * s.size)
  | 0, _, _, _ => rfl
  | d + 1, c, hc, he => by
    have hl := congrArg List.length he
    have hm : (s.secs c).length ≤ (s.secs (c + d)).length := by
      clear he hl hc
      induction d with
      | zero => exact Nat.le_refl _
      | succ d ih =>
        rw [show c + (d + 1) = (c + d) + 1 by omega, PSt.secs, List.length_append]
        omega
    rw [show c + (d + 1) = (c + d) + 1 by omega, PSt.secs] at he hl
    cases hd : s.diff (c + d) with
    | true =>
      rw [hd] at hl
      rw [List.length_append] at hl
      simp at hl
      omega
    | false =>
      rw [hd] at he
      have e2 : s.secs (c + d) = s.secs c := by simpa using he
      rw [show c + (d + 1) = (c + d) + 1 by omega, PSt.ov_step hk (c + d) (by omega) hd]
      exact PSt.secs_same hk d c (by omega) e2
theorem PSt.secs_ov {s : PSt} (hk : s.Ok) {a b : Nat} (ha : a ≤ s.sectors) (hb : b ≤ s.sectors) (h : s.secs a = s.secs b) : s.ov (a * s.size) = s.ov (b * s.size) := by
  rcases Nat.le_total a b with hl | hl
  · have := PSt.secs_same hk (b - a) a (by omega) (by rw [show a + (b - a) = b by omega]; exact h.symm)
    rw [show a + (b - a) = b by omega] at this
    exact this.symm
  · have := PSt.secs_same hk (a - b) b (by omega) (by rw [show b + (a - b) = a by omega]; exact h)
    rw [show b + (a - b) = a by omega] at this
    exact this
theorem PSt.secs_at (s : PSt) : ∀ (K i : Nat) (x : Nat × List UInt8), (s.secs K)[i]? = some x → (s.secs K).take i = s.secs x.1 ∧ x.1 < K ∧ x.2 = secB s.size s.img x.1 ∧ (s.secs K).take (i + 1) = s.secs (x.1 + 1)
  | 0, i, x, h => by simp [PSt.secs] at h
  | K + 1, i, x, h => by
    have hlt := (List.getElem?_eq_some_iff.1 h).1
    rw [PSt.secs] at h hlt ⊢
    rw [List.getElem?_append] at h
    split at h
    next hl =>
      obtain ⟨a, b, c, d⟩ := s.secs_at K i x h
      refine ⟨?_, by omega, c, ?_⟩
      · rw [List.take_append_of_le_length (by omega)]
        exact a
      · rw [List.take_append_of_le_length (by omega)]
        exact d
    next hl =>
      cases hd : s.diff K with
      | false => rw [hd] at h; simp at h
      | true =>
        rw [hd] at h hlt
        simp at h hlt
        have hi : i - (s.secs K).length = 0 := by omega
        rw [hi] at h
        simp at h
        subst h
        refine ⟨?_, by simp, rfl, ?_⟩
        · have : i = (s.secs K).length := by omega
          rw [this]
          simp
        · rw [PSt.secs, hd, List.take_of_length_le]
          simp
          omega
end Go.Proofs.YtafdkfieajdeiaaDoor
namespace Go.Proofs.YtafdkfieajdeiaaDoor
open Go.RowKit
set_option linter.unusedVariables false
set_option linter.unusedSimpArgs false
theorem TSecs.at {w : World} {v : Value} {ls : List (Nat × List UInt8)} {B : Nat} {us : List Value} (h : TSecs w v ls B us) {i : Nat} (hi : i < ls.length) :
    ∃ b c g, v = .slice (some ⟨b, 0, none⟩) ls.length c ∧ w.cell? ⟨b, i * 2, none⟩ = some (.int .i64 (ls[i].1 : Nat)) ∧ w.cell? ⟨b, i * 2 + 1, none⟩ = some (.slice (some ⟨g, 0, none⟩) ls[i].2.length ls[i].2.length) ∧ w.heap[g]? = some (.cells (ls[i].2.map U8).toArray 5 (0, 0)) ∧ B ≤ g ∧ us[i]? = some (.slice (some ⟨g, 0, none⟩) ls[i].2.length ls[i].2.length) := by
  have hu : i < us.length := by rw [h.len]; exact hi
  obtain ⟨g, hB, e, hb⟩ := (h.own i _ us[i] (List.getElem?_eq_getElem hi) (List.getElem?_eq_getElem hu)).lies
  rcases h.row.2 with ⟨_, h0⟩ | ⟨b, c, cur, rfl, _⟩
  · omega
  · obtain ⟨c1, c2⟩ := tCells_at (ls.map (·.1)) us i ls[i].1 us[i] (by rw [List.getElem?_map, List.getElem?_eq_getElem hi]; rfl) (List.getElem?_eq_getElem hu)
    have d1 := h.row.cells (g := b) rfl _ _ c1
    have d2 := h.row.cells (g := b) rfl _ _ c2
    rw [add_none, Nat.zero_add] at d1 d2
    rw [e] at d2
    exact ⟨b, c, g, rfl, d1, d2, hb, hB, by rw [List.getElem?_eq_getElem hu, e]⟩
theorem bytes_set (l : List UInt8) (b : Nat) (x : UInt8) : ((l.map U8).toArray).setIfInBounds b (U8 x) = ((l.set b x).map U8).toArray := by
  apply Array.ext'
  simp [List.map_set]
set_option maxHeartbeats 4000000 in
set_option maxRecDepth 100000 in
theorem laid_any {s : PSt} (hk : s.Ok) (ti : s.TI) (gi B : Nat) (v : Value) (us : List Value) (w : World) (hS : TSecs w v (s.secs s.sectors) B us) (hg : w.heap[gi]? = some (.cells (s.last.map U8).toArray 5 (0, 0))) (hgB : gi < B) :
    Calls Tryd.prog 29 #[.slice (some ⟨gi, 0, none⟩) s.len s.len, .int .i64 s.size, v] w fun e w' => e = .returned (.bool true) ∧ w'.heap[gi]? = some (.cells (s.img.map U8).toArray 5 (0, 0)) ∧ Kept (fun k => k = gi) w w' := by
  have HK := hidden hk
  have HTI := hidden ti
  have HT := hidden hS
  have hL : s.len ≤ 262144 := hk.room
  have hsz1 := hk.s1
  have hsz0 := hk.s0
  have hc1 := hk.c1
  obtain ⟨ls, hls⟩ : ∃ ls, s.secs s.sectors = ls := ⟨_, rfl⟩
  rw [hls] at HT
  have HLS := hidden hls
  have hn : ls.length ≤ 64 := by have := s.secs_le s.sectors; rw [hls] at this; omega
  obtain ⟨a0, c0, hv⟩ := own_form HT.out.row
  subst hv
  have HG : Hid (w.heap[gi]? = some (.cells ((s.ov 0).map U8).toArray 5 (0, 0))) := hidden (by rw [PSt.ov_zero]; exact hg)
  have HGB := hidden hgB
  have HQ := hidden (show s.size ≤ 4096 ∧ s.sectors ≤ 64 ∧ s.len ≤ 262144 ∧ 512 ≤ s.size from ⟨hsz1, hc1, hL, hsz0⟩)
  clear hk ti hS hls hg hgB
  obtain ⟨n, hnn⟩ : ∃ n, ls.length = n := ⟨_, rfl⟩
  have HN := hidden hnn
  rw [hnn] at hn ⊢
  clear hnn
  go_enter Tryd.func29, Tryd.ntmps29
  go_wp2
  go_loopw [7] (fun iv wr => ∃ i c : Nat, iv = .int .i64 i ∧ i ≤ n ∧ c ≤ s.sectors ∧ ls.take i = s.secs c ∧ wr.heap[gi]? = some (.cells ((s.ov (c * s.size)).map U8).toArray 5 (0, 0)) ∧ Kept (fun k => k = gi) w wr) (fun iv wr => n - (intOf iv).toNat)
  case atStart => exact ⟨0, 0, rfl, Nat.zero_le _, Nat.zero_le _, rfl, by rw [Nat.zero_mul]; exact HG.out, Kept.refl _ _⟩
  case round =>
    obtain ⟨i, c, rfl, hi, hc, htk, hg, hs⟩ := hrel
    obtain ⟨wo, rfl⟩ : ∃ x, x = wr := ⟨_, rfl⟩
    by_cases h1 : i < n
    · have hil : i < ls.length := by rw [HN.out]; exact h1
      have hT := HT.out.past hs HGB.out
      obtain ⟨b, c2, g, hv, x1, x2, hb, hB, hus⟩ := hT.at hil
      simp only [Value.slice.injEq] at hv
      obtain ⟨rfl, _, rfl⟩ := hv
      have hat := s.secs_at s.sectors i ls[i] (by rw [HLS.out]; exact List.getElem?_eq_getElem hil)
      rw [HLS.out] at hat
      obtain ⟨t1, t2, t3, t4⟩ := hat
      rw [t3] at x2 hb
      have hov := PSt.secs_ov HK.out hc (Nat.le_of_lt t2) (by rw [← htk, t1])
      rw [hov] at hg
      have hsl := secB_len (show s.img.length = s.size * s.sectors from PSt.img_len HK.out) _ t2
      rw [hsl] at x2
      obtain ⟨N, hN⟩ : ∃ N, ls[i].1 = N := ⟨_, rfl⟩
      rw [hN] at x1 hb t2 t4 hg
      obtain ⟨A, hA⟩ : ∃ A, N * s.size = A := ⟨_, rfl⟩
      obtain ⟨T, hTT⟩ : ∃ T, (N + 1) * s.size = T := ⟨_, rfl⟩
      have hAT : T = A + s.size := by rw [← hA, ← hTT, Nat.add_mul]; omega
      have hTL : T ≤ s.len := by
        rw [← hTT]
        have := Nat.mul_le_mul_right s.size t2
        unfold PSt.len
        rw [Nat.mul_comm s.size]
        exact this
      have hL := HQ.out.2.2.1
      have h512 := HQ.out.2.2.2
      rw [hA] at hg
      have w1' : IntKind.i64.wrap ((N : Int) * (s.size : Int)) = (A : Int) := by rw [← hA, IntKind.wrap_i64]; have : ((N * s.size : Nat) : Int) = (N : Int) * (s.size : Int) := Int.natCast_mul _ _; omega
      have w2' : IntKind.i64.wrap ((N : Int) + 1) = (N : Int) + 1 := by rw [IntKind.wrap_i64]; have := HQ.out.2.1; omega
      have w3' : IntKind.i64.wrap (((N : Int) + 1) * (s.size : Int)) = (T : Int) := by
        rw [← hTT, IntKind.wrap_i64]
        have : (((N + 1) * s.size : Nat) : Int) = ((N : Int) + 1) * (s.size : Int) := by rw [Int.natCast_mul, Int.natCast_add]; rfl
        omega
      have q0 : (0 : Int) ≤ (i : Int) := Int.natCast_nonneg _
      have q1 : (i : Int) < (n : Int) := by omega
      have q2 : ¬ (N : Int) < 0 := by omega
      have q3 : ¬ (s.len : Int) < (T : Int) := by omega
      have HB := hidden hb
      have HG1 := hidden hg
      have HS := hidden hs
      have HT4 := hidden t4
      have HT2 := hidden t2
      have HBB := hidden hB
      have HAT := hidden hAT
      have HTT := hidden hTT
      have HTL := hidden hTL
      have HA := hidden hA
      clear hb hg hs t1 t2 t3 t4 hB hAT hTT hTL hA hsl hov htk hT hN hL h512
      go_wp2
      go_loopw [9] (fun kv wi => ∃ k : Nat, kv = .int .i64 k ∧ k ≤ s.size ∧ wi.heap[gi]? = some (.cells ((s.ov (A + k)).map U8).toArray 5 (0, 0)) ∧ Kept (fun k => k = gi) wo wi) (fun kv wi => s.size - (intOf kv).toNat)
      case atStart => exact ⟨0, rfl, Nat.zero_le _, HG1.out, Kept.refl _ _⟩
      case round =>
        obtain ⟨k, rfl, hk, hg, hs⟩ := hrel
        by_cases h2 : k < s.size
        · obtain ⟨P, hP⟩ : ∃ P, A + k = P := ⟨_, rfl⟩
          rw [hP] at hg
          have hPL : P < s.len := by have := HAT.out; have := HTL.out; omega
          have hPi : P < s.img.length := by rw [PSt.img_len HK.out]; exact hPL
          have hPl : P < s.last.length := by rw [PSt.last_len HK.out]; exact hPL
          have hg0 : gi ≠ g := by have := HGB.out; have := HBB.out; omega
          have hb2 := blk_kept hs (fun e => hg0 e.symm) HB.out
          have hrow : b ≠ gi := fun e => by
            subst e
            have hT2 := HT.out.past HS.out HGB.out
            have := (hT2.row.lt b rfl).1
            have := HGB.out
            omega
          have z1 : wr.cell? ⟨b, i * 2 + 1, none⟩ = some (.slice (some ⟨g, 0, none⟩) s.size s.size) := Kept.cell hs hrow x2
          have e1 := PSt.ov_at HK.out P hPL
          rw [List.getElem?_eq_getElem hPl] at e1
          have z2 : wr.cell? ⟨gi, P, none⟩ = some (U8 s.last[P]) := by rw [blk_cell hg]; simp [e1]
          have e2 := secB_at (b := s.img) (n := N) h2
          rw [HA.out, hP, List.getElem?_eq_getElem hPi] at e2
          have z3 : wr.cell? ⟨g, k, none⟩ = some (U8 s.img[P]) := by rw [blk_cell hb2]; simp [e2]
          have z4 : wr.frozen? ⟨gi, P, none⟩ = false := blk_free hg
          have hset : ∀ m, ((wr.drewN m).setCell ⟨gi, P, none⟩ (U8 s.img[P])).heap[gi]? = some (.cells ((s.ov (P + 1)).map U8).toArray 5 (0, 0)) := fun m => by
            have h5 := blk_set (w := wr.drewN m) (j := P) hg (U8 s.img[P])
            rw [bytes_set, PSt.ov_set HK.out P hPi] at h5
            exact h5
          have hZ1 : ∀ m, (wr.drewN m).cell? ⟨b, i * 2 + 1, none⟩ = some (.slice (some ⟨g, 0, none⟩) s.size s.size) := fun m => Kept.cell (hs.drewN m) hrow x2
          have hld : s.last[P] ≠ 0 → s.last[P] = s.img[P] := fun hne => by
            obtain ⟨l1, l2⟩ := PSt.last_lead HK.out HTI.out
            rcases Nat.lt_or_ge P s.tend with h | h
            · have := congrArg (fun l => l[P]?) l1
              simp only [List.getElem?_take, if_pos h, List.getElem?_eq_getElem hPi, List.getElem?_eq_getElem hPl, Option.some.injEq] at this
              exact this.symm
            · refine absurd ?_ hne
              have := congrArg (fun l => l[P - s.tend]?) l2
              simp only [List.getElem?_drop, List.getElem?_replicate] at this
              rw [show s.tend + (P - s.tend) = P by omega, if_pos (by omega), List.getElem?_eq_getElem hPl] at this
              simpa using this
          obtain ⟨X, hX⟩ : ∃ X, s.last[P] = X := ⟨_, rfl⟩
          obtain ⟨Y, hY⟩ : ∃ Y, s.img[P] = Y := ⟨_, rfl⟩
          rw [hX] at z2 hld
          rw [hY] at z3 hset hld
          have hPb : P < 262144 := by have := HQ.out.2.2.1; omega
          have w4' : IntKind.i64.wrap ((A : Int) + (k : Int)) = (P : Int) := by rw [← hP, IntKind.wrap_i64]; omega
          have p0 : (0 : Int) ≤ (P : Int) := Int.natCast_nonneg _
          have p1 : (P : Int) < (s.len : Int) := by omega
          have p2 : (0 : Int) ≤ (k : Int) := Int.natCast_nonneg _
          have p3 : (k : Int) < (s.size : Int) := by omega
          have HSET := hidden hset
          have HKI := hidden hs
          have HPP := hidden hP
          have HX2 := hidden hld
          obtain ⟨y, hy⟩ : ∃ y : Int, (Y.toNat : Int) = y := ⟨_, rfl⟩
          have HYY := hidden hy
          have z5 : ∀ m, (wr.drewN m).cell? ⟨g, k, none⟩ = some (.int .u8 y) := fun m => by rw [← hy]; exact z3
          have z6 : ∀ m, (wr.drewN m).frozen? ⟨gi, P, none⟩ = false := fun m => blk_free hg
          have HU : Hid (U8 Y = .int .u8 y) := hidden (by rw [← hy]; rfl)
          have z3' : wr.cell? ⟨g, k, none⟩ = some (.int .u8 y) := by rw [← hy]; exact z3
          have hx0 : X = 0 ∨ X ≠ 0 := by by_cases h : X = 0; exact .inl h; exact .inr h
          rcases hx0 with h0 | h0
          · have z2' : ∀ m, (wr.drewN m).cell? ⟨gi, P, none⟩ = some (.int .u8 0) := fun m => by
              have : wr.cell? ⟨gi, P, none⟩ = some (.int .u8 0) := by rw [z2, h0]; rfl
              exact this
            have z2'' : wr.cell? ⟨gi, P, none⟩ = some (.int .u8 0) := z2' 0
            clear hX hY hld z2 z3 hset hs hP hPL hPi hPl hb2 e1 e2 hg h0 hy
            go_wp2
            go_quiet (fail)
            go_wp2
            go_roundw
            case rel =>
              have h5 := HSET.out nq
              rw [HU.out] at h5
              exact ⟨k + 1, by go_num, by omega, by rw [show A + (k + 1) = P + 1 by rw [← HPP.out]; rfl]; exact h5, (HKI.out.drewN _).setCell (p := ⟨gi, P, none⟩) rfl _⟩
            case measure => simp [intOf]; omega
          · have hxy := hld h0
            have hy0 : y ≠ 0 := by
              rw [← hy]
              intro e
              refine h0 ?_
              rw [hxy, ← UInt8.toNat_inj]
              simpa using e
            have y1 : (y == 0) = false := by rw [beq_eq_false_iff_ne]; exact hy0
            have y2 : (y == y) = true := by simp
            have y3 : ¬ y = 0 := hy0
            have z2' : ∀ m, (wr.drewN m).cell? ⟨gi, P, none⟩ = some (.int .u8 y) := fun m => by
              have : wr.cell? ⟨gi, P, none⟩ = some (.int .u8 y) := by rw [z2, hxy, ← hy]; rfl
              exact this
            have z2'' : wr.cell? ⟨gi, P, none⟩ = some (.int .u8 y) := z2' 0
            clear hX hY hld z2 z3 hset hs hP hPL hPi hPl hb2 e1 e2 hg h0 hy hxy hy0
            go_wp2
            go_quiet (fail)
            go_wp2
            go_roundw
            case rel =>
              have h5 := HSET.out nq
              rw [HU.out] at h5
              exact ⟨k + 1, by go_num, by omega, by rw [show A + (k + 1) = P + 1 by rw [← HPP.out]; rfl]; exact h5, (HKI.out.drewN _).setCell (p := ⟨gi, P, none⟩) rfl _⟩
            case measure => simp [intOf]; omega
        · have he : k = s.size := by omega
          subst he
          have p3 : ¬ (s.size : Int) < (s.size : Int) := by omega
          have e : A + s.size = (N + 1) * s.size := by rw [← HA.out, Nat.add_mul]; omega
          rw [e] at hg
          have hg' := hidden hg
          have hs' := hidden (HS.out.trans hs)
          clear hg hs e
          go_wp2
          go_roundw
          case rel => exact ⟨i + 1, N + 1, by go_num, by omega, HT2.out, HT4.out, hg'.out, hs'.out⟩
          case measure => simp [intOf]; omega
    · have he : i = n := by omega
      subst he
      have q1 : ¬ (i : Int) < (i : Int) := by omega
      have e1 : s.secs c = s.secs s.sectors := by rw [HLS.out, ← htk, List.take_of_length_le (by rw [HN.out]; exact Nat.le_refl _)]
      rw [PSt.secs_ov HK.out hc (Nat.le_refl _) e1, Nat.mul_comm, show s.size * s.sectors = s.len from rfl, PSt.ov_all HK.out] at hg
      have hg' := hidden hg
      have hs' := hidden hs
      clear hg hs e1 htk
      go_wp2
      go_returns
      exact ⟨rfl, hg'.out, hs'.out⟩
end Go.Proofs.YtafdkfieajdeiaaDoor
