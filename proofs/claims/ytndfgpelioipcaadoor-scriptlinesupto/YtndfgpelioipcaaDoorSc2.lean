/- script: Quote of both sides, walked. (Made by mksc2.py.) -/
import Derived.Test.YtndfgpelioipcaaDoorSc1
namespace Go.Proofs.YtndfgpelioipcaaDoor
open Go.RowKit
set_option linter.unusedVariables false
set_option linter.unusedSimpArgs false
theorem and15 (b : Nat) (h : b < 256) : bits .and .u8 (b : Int) 15 = ((b % 16 : Nat) : Int) := by
  have : ∀ i : Fin 256, bits .and .u8 (i.val : Int) 15 = ((i.val % 16 : Nat) : Int) := by decide +kernel
  exact this ⟨b, h⟩
theorem qb_take {P : List UInt8} {k : Nat} {b : UInt8} (h : P[k]? = some b) : qb (P.take (k + 1)) = qb (P.take k) ++ q1 b := by
  have hk := (List.getElem?_eq_some_iff.1 h).1
  rw [List.take_succ_eq_append_getElem hk, (List.getElem?_eq_some_iff.1 h).2, qb_snoc]
theorem ql_take {P : List UInt8} {k : Nat} {b : UInt8} (h : P[k]? = some b) (c : List UInt8) (hc : q1 b = c) : (34 :: qb (P.take (k + 1))).map U8 = (34 :: qb (P.take k)).map U8 ++ c.map U8 := by
  rw [qb_take h, hc]
  simp
theorem qlen_le (P : List UInt8) (k : Nat) : (qb (P.take k)).length ≤ 4 * k := by
  have := (qb_len (P.take k)).2
  rw [List.length_take] at this
  omega

set_option maxHeartbeats 1000000 in
set_option maxRecDepth 100000 in
theorem quote_any (s : ByteArray) (hs : s.size ≤ 17592186044416) (w : World) : Calls Tryd.prog 9 #[.string s] w fun e w' => e = .returned (.string (BA (quoteL s.data.toList))) ∧ Same w w' := by
  obtain ⟨i0, hi0, hz0, hz1, hz2⟩ := info_parts infoB
  have hsl : s.data.toList.length = s.size := size_list s
  have HAt := hidden (str_at s)
  obtain ⟨P, hP⟩ : ∃ P, P = s.data.toList := ⟨_, rfl⟩
  rw [← hP] at hsl HAt ⊢
  obtain ⟨m, hm⟩ : ∃ m, m = s.size := ⟨_, rfl⟩
  rw [← hm] at hsl hs
  have HLl := hidden hsl
  have hms : (s.size : Int) = (m : Int) := by omega
  clear hP hsl hm
  have HPl := hidden plain_any
  go_enter Tryd.func9, Tryd.ntmps9
  go_wp2
  go_loopw [3, 9] (fun u x wr => ∃ (k n c : Nat) (ao : Option Addr), k ≤ m ∧ x = .int .i64 k ∧ u = .slice ao n c ∧ n ≤ 1 + 4 * k ∧ wr.ownsRow w.heap.size 5 1 (.slice ao n c) n ((34 :: qb (P.take k)).map U8) ∧ Same w wr) (fun _ x _ => m - (intOf x).toNat)
  case atStart =>
    refine ⟨0, 1, 1, some ⟨w.heap.size, 0, none⟩, Nat.zero_le _, rfl, rfl, by omega, ?_, same_alloc _ _⟩
    exact World.ownsRow_lit w #[.int .u8 34] 1 (Nat.le_refl _) (by decide) rfl
  case round =>
    obtain ⟨k, n, c, ao, hk, rfl, rfl, hn, hO, hS⟩ := hrel
    have HO := hidden hO
    have HS := hidden hS
    clear hO hS
    by_cases h1 : k < m
    · obtain ⟨b, hb⟩ : ∃ b, P[k]? = some b := ⟨_, List.getElem?_eq_getElem (by rw [HLl.out]; exact h1)⟩
      have x1 := fun W => HAt.out W k b hb
      have q0 : (k : Int) < (m : Int) := by omega
      have e1 : IntKind.i64.wrap (k : Int) = (k : Int) := by rw [IntKind.wrap_i64]; omega
      have HQ := hidden (fun c hc => ql_take hb c hc)
      have HPb := hidden (HPl.out b)
      clear hb HAt
      cases hp : plainB b
      · rw [hp] at HPb
        by_cases h2 : b = 34 ∨ b = 92
        · have HQ2 := hidden (HQ.out [92, b] (by unfold q1; rw [hp, if_neg (by simp), if_pos h2]))
          rcases h2 with rfl | rfl
          · rw [show (((34 : UInt8).toNat : Nat) : Int) = 34 from rfl] at x1
            rw [show (((34 : UInt8).toNat : Nat) : Int) = 34 from rfl] at HPb
            go_wp2_with (first
              | (go_at_call 20; refine (HPb.out _).mono ?_; rintro e w1 ⟨rfl, rfl⟩)
              | (at_builtin; go_must (refine wpList_append_any (by rfl) _ _ 42 (by rfl) w.heap.size 5 i0 _ 1 1 Tryd.underlying42 hi0 hz0 hz1 hz2 rfl (by decide) _ _ _ _ (by rfl) (HO.out.alloc _) (some ⟨wr.heap.size, 0, none⟩) 2 2 (([92, 34] : List UInt8).map U8) (by rfl) (by rfl) (lies_of (World.news_of_block (heap_alloc_new wr _))) (u8_one _) (by unfold maxLen; omega) (by omega) (by simp; have := HS.out.size; omega) ?_; intro a3 c3 w3 hown hgrow; have R3 := hidden (same_grown (m := 0) (HS.out.alloc _) (HO.out.alloc _) hgrow); have O3 := hidden hown; clear hown hgrow)))
            go_roundw
            case rel => exact ⟨k + 1, n + 2, c3, a3, by omega, by go_num, rfl, by omega, by rw [HQ2.out]; exact O3.out, R3.out⟩
            case measure => simp [intOf]; omega
          · rw [show (((92 : UInt8).toNat : Nat) : Int) = 92 from rfl] at x1
            rw [show (((92 : UInt8).toNat : Nat) : Int) = 92 from rfl] at HPb
            go_wp2_with (first
              | (go_at_call 20; refine (HPb.out _).mono ?_; rintro e w1 ⟨rfl, rfl⟩)
              | (at_builtin; go_must (refine wpList_append_any (by rfl) _ _ 42 (by rfl) w.heap.size 5 i0 _ 1 1 Tryd.underlying42 hi0 hz0 hz1 hz2 rfl (by decide) _ _ _ _ (by rfl) (HO.out.alloc _) (some ⟨wr.heap.size, 0, none⟩) 2 2 (([92, 92] : List UInt8).map U8) (by rfl) (by rfl) (lies_of (World.news_of_block (heap_alloc_new wr _))) (u8_one _) (by unfold maxLen; omega) (by omega) (by simp; have := HS.out.size; omega) ?_; intro a3 c3 w3 hown hgrow; have R3 := hidden (same_grown (m := 0) (HS.out.alloc _) (HO.out.alloc _) hgrow); have O3 := hidden hown; clear hown hgrow)))
            go_roundw
            case rel => exact ⟨k + 1, n + 2, c3, a3, by omega, by go_num, rfl, by omega, by rw [HQ2.out]; exact O3.out, R3.out⟩
            case measure => simp [intOf]; omega
        · have HQ2 := hidden (HQ.out _ (by unfold q1; rw [hp, if_neg (by simp), if_neg h2]))
          have h3 : ¬ (b.toNat : Int) = 34 := fun e => h2 (.inl (UInt8.toNat_inj.1 (by simpa using Int.ofNat.inj e)))
          have h4 : ¬ (b.toNat : Int) = 92 := fun e => h2 (.inr (UInt8.toNat_inj.1 (by simpa using Int.ofNat.inj e)))
          have hb := b.toNat_lt
          have d3 : ((b.toNat : Int) == 34) = false := by simpa using h3
          have d4 : ((b.toNat : Int) == 92) = false := by simpa using h4
          clear h2 HQ hp
          generalize b.toNat = z at *
          obtain ⟨n1, hn1⟩ : ∃ n1, n1 = z / 16 := ⟨_, rfl⟩
          obtain ⟨n2, hn2⟩ : ∃ n2, n2 = z % 16 := ⟨_, rfl⟩
          rw [← hn1, ← hn2] at HQ2
          have H1 := hidden (fun W => run_hex W .u8 n1 (by omega))
          have H2 := hidden (fun W => run_hex W .u8 n2 (by omega))
          have a1 : (z : Int) / 16 = (n1 : Int) := by omega
          have a2 := and15 z hb
          rw [← hn2] at a2
          have Hm1 : Hid (n + 4 ≤ maxLen) := hidden (by unfold maxLen; omega)
          have Hb1 : Hid ((n + 4) * 1 ≤ 140737488355328) := hidden (by omega)
          have Hsz : Hid (w.heap.size ≤ wr.heap.size) := hidden HS.out.size
          clear hn1 hn2
          go_wp2_with (go_at_call 20; refine (HPb.out _).mono ?_; rintro e w1 ⟨rfl, rfl⟩)
          refine wp_region_any hmx ?_
          change wpAny Tryd.prog _ _ _ _ _ _ wr.drew
          refine wpAny_take (i := 0) (v := .slice ao n c) rfl (by kernel_rfl) (by kernel_rfl) (by kernel_rfl) (fun _ _ _ h => h) (Or.inl ⟨by rfl, (by intro w; go_simp; try rfl)⟩) ?_; (try go_simp)
          refine wpAny_take (i := 1) (v := (.int .u8 (z : Int))) rfl (by kernel_rfl) (by kernel_rfl) (by kernel_rfl) (fun _ _ _ h => h) (Or.inl ⟨by rfl, (by intro w; go_simp; try rfl)⟩) ?_; (try go_simp)
          refine wpAny_take (i := 2) (v := (.int .u8 (n1 : Int))) rfl (by kernel_rfl) (by kernel_rfl) (by kernel_rfl) (fun _ _ _ h => h) (Or.inl ⟨by rfl, (by intro w; go_simp; try rfl)⟩) ?_; (try go_simp)
          refine wpAny_take (i := 3) (v := (.int .u8 ((hexD n1).toNat : Int))) rfl (by kernel_rfl) (by kernel_rfl) (by kernel_rfl) (fun _ _ _ h => h) (Or.inl ⟨by rfl, yi rfl rfl rfl H1.out⟩) ?_; (try go_simp)
          refine wpAny_take (i := 4) (v := (.int .u8 (z : Int))) rfl (by kernel_rfl) (by kernel_rfl) (by kernel_rfl) (fun _ _ _ h => h) (Or.inl ⟨by rfl, (by intro w; go_simp; try rfl)⟩) ?_; (try go_simp)
          refine wpAny_take (i := 5) (v := (.int .u8 (n2 : Int))) rfl (by kernel_rfl) (by kernel_rfl) (by kernel_rfl) (fun _ _ _ h => h) (Or.inl ⟨by rfl, (by intro w; go_simp; try rfl)⟩) ?_; (try go_simp)
          refine wpAny_take (i := 6) (v := (.int .u8 ((hexD n2).toNat : Int))) rfl (by kernel_rfl) (by kernel_rfl) (by kernel_rfl) (fun _ _ _ h => h) (Or.inl ⟨by rfl, yi rfl rfl rfl H2.out⟩) ?_; (try go_simp)
          refine wpAny_ready (rs := [7]) (by kernel_rfl) (by simp) ?_; refine AllReady.cons rfl (fun K hK => ?_) AllReady.nil
          go_simp
          refine hK _ _ ?_; clear hK K; (try go_simp)
          refine wpAny_ready (rs := [8]) (by kernel_rfl) (by simp) ?_; refine AllReady.cons rfl (fun K hK => ?_) AllReady.nil
          refine step_append_any (by rfl) _ _ 42 (by rfl) w.heap.size 5 i0 (.int .u8 0) 1 1 Tryd.underlying42 hi0 hz0 hz1 hz2 rfl (by decide) ao n c _ (by rfl) (ownsRow_heap (w := wr.alloc _) rfl (HO.out.alloc _)) (some ⟨wr.heap.size, 0, none⟩) 4 4 (([92, 120, hexD n1, hexD n2] : List UInt8).map U8) (by rfl) (by rfl) (lies_of (World.news_of_block (heap_alloc_new wr _))) (u8_one _) Hm1.out Hb1.out (by have := Hsz.out; simp; omega) ?_
          intro a3 c3 w3 hown' hgrow
          have O3 := hidden hown'
          have R3 : Hid (Same w w3) := hidden ((HS.out.drew.alloc _).grown (row := (Value.slice ao n c).ownBlock) hgrow (fun k hk hl => by have := (HO.out.lt k hk).1; omega))
          clear hown' hgrow
          refine hK _ _ ?_; clear hK K; (try go_simp)
          refine wpAny_ready (rs := [9]) (by kernel_rfl) (by simp) ?_; refine AllReady.cons rfl (fun K hK => ?_) AllReady.nil
          go_simp
          refine hK _ _ ?_; clear hK K; (try go_simp)
          refine wpAny_done (by kernel_rfl) ?_ _
          go_wp2
          go_roundw
          case rel => exact ⟨k + 1, n + 4, c3, a3, by omega, by go_num, rfl, by omega, by rw [HQ2.out]; exact O3.out, R3.out⟩
          case measure => simp [intOf]; omega
      · rw [hp] at HPb
        have HQ2 := hidden (HQ.out [b] (by unfold q1; rw [hp, if_pos rfl]))
        go_wp2_with (first
          | (go_at_call 20; refine (HPb.out _).mono ?_; rintro e w1 ⟨rfl, rfl⟩)
          | (at_builtin; go_must (refine wpList_append_any (by rfl) _ _ 42 (by rfl) w.heap.size 5 i0 _ 1 1 Tryd.underlying42 hi0 hz0 hz1 hz2 rfl (by decide) _ _ _ _ (by rfl) (HO.out.alloc _) (some ⟨wr.heap.size, 0, none⟩) 1 1 (([b] : List UInt8).map U8) (by rfl) (by rfl) (lies_of (World.news_of_block (heap_alloc_new wr _))) (u8_one _) (by unfold maxLen; omega) (by omega) (by simp; have := HS.out.size; omega) ?_; intro a3 c3 w3 hown hgrow; have R3 := hidden (same_grown (m := 0) (HS.out.alloc _) (HO.out.alloc _) hgrow); have O3 := hidden hown; clear hown hgrow)))
        go_roundw
        case rel => exact ⟨k + 1, n + 1, c3, a3, by omega, by go_num, rfl, by omega, by rw [HQ2.out]; exact O3.out, R3.out⟩
        case measure => simp [intOf]; omega
    · obtain rfl : k = m := by omega
      have q0 : ¬ (k : Int) < (k : Int) := by omega
      have HT := hidden (show P.take k = P from List.take_of_length_le (by rw [HLl.out]; exact Nat.le_refl _))
      go_wp2_with (at_builtin; go_must (refine wpList_append_any (by rfl) _ _ 42 (by rfl) w.heap.size 5 i0 _ 1 1 Tryd.underlying42 hi0 hz0 hz1 hz2 rfl (by decide) _ _ _ _ (by rfl) (HO.out.alloc _) (some ⟨wr.heap.size, 0, none⟩) 1 1 (([34] : List UInt8).map U8) (by rfl) (by rfl) (lies_of (World.news_of_block (heap_alloc_new wr _))) (u8_one _) (by unfold maxLen; omega) (by omega) (by simp; have := HS.out.size; omega) ?_; intro a3 c3 w3 hown hgrow; have R3 := hidden (same_grown (m := 0) (HS.out.alloc _) (HO.out.alloc _) hgrow); have O3 := hidden hown; clear hown hgrow; have hcv : (convert 42 9 (.slice a3 (n + 1) c3)).run Tryd.prog w3 = .ok (.string (BA (quoteL P))) w3 := (by have h := O3.out; rw [HT.out, ← List.map_append] at h; exact own_text h)))
      go_returns
      exact ⟨rfl, R3.out⟩
set_option maxHeartbeats 1000000 in
set_option maxRecDepth 100000 in
theorem quoteD_any (s : ByteArray) (hs : s.size ≤ 17592186044416) (w : World) : Calls Tryd.prog 12 #[.string s] w fun e w' => e = .returned (.string (BA (quoteL s.data.toList))) ∧ Same w w' := by
  obtain ⟨i0, hi0, hz0, hz1, hz2⟩ := info_parts infoB
  have hsl : s.data.toList.length = s.size := size_list s
  have HAt := hidden (str_at s)
  obtain ⟨P, hP⟩ : ∃ P, P = s.data.toList := ⟨_, rfl⟩
  rw [← hP] at hsl HAt ⊢
  obtain ⟨m, hm⟩ : ∃ m, m = s.size := ⟨_, rfl⟩
  rw [← hm] at hsl hs
  have HLl := hidden hsl
  have hms : (s.size : Int) = (m : Int) := by omega
  clear hP hsl hm
  go_enter Tryd.func12, Tryd.ntmps12
  go_wp2
  go_loopw [3, 4] (fun u x wr => ∃ (k n c : Nat) (ao : Option Addr), k ≤ m ∧ x = .int .i64 k ∧ u = .slice ao n c ∧ n ≤ 1 + 4 * k ∧ wr.ownsRow w.heap.size 5 1 (.slice ao n c) n ((34 :: qb (P.take k)).map U8) ∧ Same w wr) (fun _ x _ => m - (intOf x).toNat)
  case atStart =>
    refine ⟨0, 1, 1, some ⟨w.heap.size, 0, none⟩, Nat.zero_le _, rfl, rfl, by omega, ?_, same_alloc _ _⟩
    exact World.ownsRow_lit w #[.int .u8 34] 1 (Nat.le_refl _) (by decide) rfl
  case round =>
    obtain ⟨k, n, c, ao, hk, rfl, rfl, hn, hO, hS⟩ := hrel
    have HO := hidden hO
    have HS := hidden hS
    clear hO hS
    by_cases h1 : k < m
    · obtain ⟨b, hb⟩ : ∃ b, P[k]? = some b := ⟨_, List.getElem?_eq_getElem (by rw [HLl.out]; exact h1)⟩
      have x1 := fun W => HAt.out W k b hb
      have q0 : (k : Int) < (m : Int) := by omega
      have e1 : IntKind.i64.wrap (k : Int) = (k : Int) := by rw [IntKind.wrap_i64]; omega
      have HQ := hidden (fun c hc => ql_take hb c hc)
      clear hb HAt
      cases hp : plainB b
      · by_cases h2 : b = 34 ∨ b = 92
        · have HQ2 := hidden (HQ.out [92, b] (by unfold q1; rw [hp, if_neg (by simp), if_pos h2]))
          rcases h2 with rfl | rfl
          · rw [show (((34 : UInt8).toNat : Nat) : Int) = 34 from rfl] at x1
            go_wp2_with (at_builtin; go_must (refine wpList_append_any (by rfl) _ _ 42 (by rfl) w.heap.size 5 i0 _ 1 1 Tryd.underlying42 hi0 hz0 hz1 hz2 rfl (by decide) _ _ _ _ (by rfl) (HO.out.alloc _) (some ⟨wr.heap.size, 0, none⟩) 2 2 (([92, 34] : List UInt8).map U8) (by rfl) (by rfl) (lies_of (World.news_of_block (heap_alloc_new wr _))) (u8_one _) (by unfold maxLen; omega) (by omega) (by simp; have := HS.out.size; omega) ?_; intro a3 c3 w3 hown hgrow; have R3 := hidden (same_grown (m := 0) (HS.out.alloc _) (HO.out.alloc _) hgrow); have O3 := hidden hown; clear hown hgrow))
            go_roundw
            case rel => exact ⟨k + 1, n + 2, c3, a3, by omega, by go_num, rfl, by omega, by rw [HQ2.out]; exact O3.out, R3.out⟩
            case measure => simp [intOf]; omega
          · rw [show (((92 : UInt8).toNat : Nat) : Int) = 92 from rfl] at x1
            go_wp2_with (at_builtin; go_must (refine wpList_append_any (by rfl) _ _ 42 (by rfl) w.heap.size 5 i0 _ 1 1 Tryd.underlying42 hi0 hz0 hz1 hz2 rfl (by decide) _ _ _ _ (by rfl) (HO.out.alloc _) (some ⟨wr.heap.size, 0, none⟩) 2 2 (([92, 92] : List UInt8).map U8) (by rfl) (by rfl) (lies_of (World.news_of_block (heap_alloc_new wr _))) (u8_one _) (by unfold maxLen; omega) (by omega) (by simp; have := HS.out.size; omega) ?_; intro a3 c3 w3 hown hgrow; have R3 := hidden (same_grown (m := 0) (HS.out.alloc _) (HO.out.alloc _) hgrow); have O3 := hidden hown; clear hown hgrow))
            go_roundw
            case rel => exact ⟨k + 1, n + 2, c3, a3, by omega, by go_num, rfl, by omega, by rw [HQ2.out]; exact O3.out, R3.out⟩
            case measure => simp [intOf]; omega
        · have HQ2 := hidden (HQ.out _ (by unfold q1; rw [hp, if_neg (by simp), if_neg h2]))
          have h3 : ¬ (b.toNat : Int) = 34 := fun e => h2 (.inl (UInt8.toNat_inj.1 (by simpa using Int.ofNat.inj e)))
          have h4 : ¬ (b.toNat : Int) = 92 := fun e => h2 (.inr (UInt8.toNat_inj.1 (by simpa using Int.ofNat.inj e)))
          have hb := b.toNat_lt
          have d3 : ((b.toNat : Int) == 34) = false := by simpa using h3
          have d4 : ((b.toNat : Int) == 92) = false := by simpa using h4
          have hpd : ¬ ((32 : Int) ≤ (b.toNat : Int) ∧ (b.toNat : Int) ≤ 126) := fun ⟨g1, g2⟩ => by
            unfold plainB at hp
            have a1 : 32 ≤ b.toNat := by omega
            have a2 : b.toNat ≤ 126 := by omega
            have a3 : b.toNat ≠ 34 := by omega
            have a4 : b.toNat ≠ 92 := by omega
            simp [a1, a2, a3, a4] at hp
          clear h2 HQ hp
          generalize b.toNat = z at *
          obtain ⟨n1, hn1⟩ : ∃ n1, n1 = z / 16 := ⟨_, rfl⟩
          obtain ⟨n2, hn2⟩ : ∃ n2, n2 = z % 16 := ⟨_, rfl⟩
          rw [← hn1, ← hn2] at HQ2
          have H1 := hidden (fun W => run_hex W .u8 n1 (by omega))
          have H2 := hidden (fun W => run_hex W .u8 n2 (by omega))
          have a1 : IntKind.u8.wrap ((z : Int).tdiv 16) = (n1 : Int) := by rw [show (z : Int).tdiv 16 = ((z / 16 : Nat) : Int) from rfl, ← hn1]; simp [IntKind.wrap, IntKind.signed, IntKind.bits]; omega
          have a2 : IntKind.u8.wrap ((z : Int).tmod 16) = (n2 : Int) := by rw [show (z : Int).tmod 16 = ((z % 16 : Nat) : Int) from rfl, ← hn2]; simp [IntKind.wrap, IntKind.signed, IntKind.bits]; omega
          have a5 : IntKind.u8.wrap (n1 : Int) = (n1 : Int) := by simp [IntKind.wrap, IntKind.signed, IntKind.bits]; omega
          have a6 : IntKind.u8.wrap (n2 : Int) = (n2 : Int) := by simp [IntKind.wrap, IntKind.signed, IntKind.bits]; omega
          have a3 : (z : Int).tdiv 16 = (n1 : Int) := by rw [show (z : Int).tdiv 16 = ((z / 16 : Nat) : Int) from rfl, ← hn1]
          have a4 : (z : Int).tmod 16 = (n2 : Int) := by rw [show (z : Int).tmod 16 = ((z % 16 : Nat) : Int) from rfl, ← hn2]
          have Hm1 : Hid (n + 4 ≤ maxLen) := hidden (by unfold maxLen; omega)
          have Hb1 : Hid ((n + 4) * 1 ≤ 140737488355328) := hidden (by omega)
          have Hsz : Hid (w.heap.size ≤ wr.heap.size) := hidden HS.out.size
          clear hn1 hn2
          have go : ∀ (hc : ¬ ((32 : Int) ≤ (z : Int) ∧ (z : Int) ≤ 126)), True := fun _ => trivial
          by_cases g1 : (32 : Int) ≤ (z : Int)
          · have g2 : ¬ (z : Int) ≤ 126 := fun g2 => hpd ⟨g1, g2⟩
            clear hpd go
            go_wp2
            refine wp_region_any hmx ?_
            change wpAny Tryd.prog _ _ _ _ _ _ wr.drew
            refine wpAny_take (i := 0) (v := .slice ao n c) rfl (by kernel_rfl) (by kernel_rfl) (by kernel_rfl) (fun _ _ _ h => h) (Or.inl ⟨by rfl, (by intro w; go_simp; try rfl)⟩) ?_; (try go_simp)
            refine wpAny_take (i := 1) (v := (.int .u8 (z : Int))) rfl (by kernel_rfl) (by kernel_rfl) (by kernel_rfl) (fun _ _ _ h => h) (Or.inl ⟨by rfl, (by intro w; go_simp; try rfl)⟩) ?_; (try go_simp)
            refine wpAny_take (i := 2) (v := (.int .u8 (n1 : Int))) rfl (by kernel_rfl) (by kernel_rfl) (by kernel_rfl) (fun _ _ _ h => h) (Or.inl ⟨by rfl, (by intro w; go_simp; try rfl)⟩) ?_; (try go_simp)
            refine wpAny_take (i := 3) (v := (.int .u8 ((hexD n1).toNat : Int))) rfl (by kernel_rfl) (by kernel_rfl) (by kernel_rfl) (fun _ _ _ h => h) (Or.inl ⟨by rfl, yi rfl rfl rfl H1.out⟩) ?_; (try go_simp)
            refine wpAny_take (i := 4) (v := (.int .u8 (z : Int))) rfl (by kernel_rfl) (by kernel_rfl) (by kernel_rfl) (fun _ _ _ h => h) (Or.inl ⟨by rfl, (by intro w; go_simp; try rfl)⟩) ?_; (try go_simp)
            refine wpAny_take (i := 5) (v := (.int .u8 (n2 : Int))) rfl (by kernel_rfl) (by kernel_rfl) (by kernel_rfl) (fun _ _ _ h => h) (Or.inl ⟨by rfl, (by intro w; go_simp; try rfl)⟩) ?_; (try go_simp)
            refine wpAny_take (i := 6) (v := (.int .u8 ((hexD n2).toNat : Int))) rfl (by kernel_rfl) (by kernel_rfl) (by kernel_rfl) (fun _ _ _ h => h) (Or.inl ⟨by rfl, yi rfl rfl rfl H2.out⟩) ?_; (try go_simp)
            refine wpAny_ready (rs := [7]) (by kernel_rfl) (by simp) ?_; refine AllReady.cons rfl (fun K hK => ?_) AllReady.nil
            go_simp
            refine hK _ _ ?_; clear hK K; (try go_simp)
            refine wpAny_ready (rs := [8]) (by kernel_rfl) (by simp) ?_; refine AllReady.cons rfl (fun K hK => ?_) AllReady.nil
            refine step_append_any (by rfl) _ _ 42 (by rfl) w.heap.size 5 i0 (.int .u8 0) 1 1 Tryd.underlying42 hi0 hz0 hz1 hz2 rfl (by decide) ao n c _ (by rfl) (ownsRow_heap (w := wr.alloc _) rfl (HO.out.alloc _)) (some ⟨wr.heap.size, 0, none⟩) 4 4 (([92, 120, hexD n1, hexD n2] : List UInt8).map U8) (by rfl) (by rfl) (lies_of (World.news_of_block (heap_alloc_new wr _))) (u8_one _) Hm1.out Hb1.out (by have := Hsz.out; simp; omega) ?_
            intro a3 c3 w3 hown' hgrow
            have O3 := hidden hown'
            have R3 : Hid (Same w w3) := hidden ((HS.out.drew.alloc _).grown (row := (Value.slice ao n c).ownBlock) hgrow (fun k hk hl => by have := (HO.out.lt k hk).1; omega))
            clear hown' hgrow
            refine hK _ _ ?_; clear hK K; (try go_simp)
            refine wpAny_ready (rs := [9]) (by kernel_rfl) (by simp) ?_; refine AllReady.cons rfl (fun K hK => ?_) AllReady.nil
            go_simp
            refine hK _ _ ?_; clear hK K; (try go_simp)
            refine wpAny_done (by kernel_rfl) ?_ _
            go_wp2
            go_roundw
            case rel => exact ⟨k + 1, n + 4, c3, a3, by omega, by go_num, rfl, by omega, by rw [HQ2.out]; exact O3.out, R3.out⟩
            case measure => simp [intOf]; omega
          · clear hpd go
            go_wp2
            refine wp_region_any hmx ?_
            change wpAny Tryd.prog _ _ _ _ _ _ wr.drew
            refine wpAny_take (i := 0) (v := .slice ao n c) rfl (by kernel_rfl) (by kernel_rfl) (by kernel_rfl) (fun _ _ _ h => h) (Or.inl ⟨by rfl, (by intro w; go_simp; try rfl)⟩) ?_; (try go_simp)
            refine wpAny_take (i := 1) (v := (.int .u8 (z : Int))) rfl (by kernel_rfl) (by kernel_rfl) (by kernel_rfl) (fun _ _ _ h => h) (Or.inl ⟨by rfl, (by intro w; go_simp; try rfl)⟩) ?_; (try go_simp)
            refine wpAny_take (i := 2) (v := (.int .u8 (n1 : Int))) rfl (by kernel_rfl) (by kernel_rfl) (by kernel_rfl) (fun _ _ _ h => h) (Or.inl ⟨by rfl, (by intro w; go_simp; try rfl)⟩) ?_; (try go_simp)
            refine wpAny_take (i := 3) (v := (.int .u8 ((hexD n1).toNat : Int))) rfl (by kernel_rfl) (by kernel_rfl) (by kernel_rfl) (fun _ _ _ h => h) (Or.inl ⟨by rfl, yi rfl rfl rfl H1.out⟩) ?_; (try go_simp)
            refine wpAny_take (i := 4) (v := (.int .u8 (z : Int))) rfl (by kernel_rfl) (by kernel_rfl) (by kernel_rfl) (fun _ _ _ h => h) (Or.inl ⟨by rfl, (by intro w; go_simp; try rfl)⟩) ?_; (try go_simp)
            refine wpAny_take (i := 5) (v := (.int .u8 (n2 : Int))) rfl (by kernel_rfl) (by kernel_rfl) (by kernel_rfl) (fun _ _ _ h => h) (Or.inl ⟨by rfl, (by intro w; go_simp; try rfl)⟩) ?_; (try go_simp)
            refine wpAny_take (i := 6) (v := (.int .u8 ((hexD n2).toNat : Int))) rfl (by kernel_rfl) (by kernel_rfl) (by kernel_rfl) (fun _ _ _ h => h) (Or.inl ⟨by rfl, yi rfl rfl rfl H2.out⟩) ?_; (try go_simp)
            refine wpAny_ready (rs := [7]) (by kernel_rfl) (by simp) ?_; refine AllReady.cons rfl (fun K hK => ?_) AllReady.nil
            go_simp
            refine hK _ _ ?_; clear hK K; (try go_simp)
            refine wpAny_ready (rs := [8]) (by kernel_rfl) (by simp) ?_; refine AllReady.cons rfl (fun K hK => ?_) AllReady.nil
            refine step_append_any (by rfl) _ _ 42 (by rfl) w.heap.size 5 i0 (.int .u8 0) 1 1 Tryd.underlying42 hi0 hz0 hz1 hz2 rfl (by decide) ao n c _ (by rfl) (ownsRow_heap (w := wr.alloc _) rfl (HO.out.alloc _)) (some ⟨wr.heap.size, 0, none⟩) 4 4 (([92, 120, hexD n1, hexD n2] : List UInt8).map U8) (by rfl) (by rfl) (lies_of (World.news_of_block (heap_alloc_new wr _))) (u8_one _) Hm1.out Hb1.out (by have := Hsz.out; simp; omega) ?_
            intro a3 c3 w3 hown' hgrow
            have O3 := hidden hown'
            have R3 : Hid (Same w w3) := hidden ((HS.out.drew.alloc _).grown (row := (Value.slice ao n c).ownBlock) hgrow (fun k hk hl => by have := (HO.out.lt k hk).1; omega))
            clear hown' hgrow
            refine hK _ _ ?_; clear hK K; (try go_simp)
            refine wpAny_ready (rs := [9]) (by kernel_rfl) (by simp) ?_; refine AllReady.cons rfl (fun K hK => ?_) AllReady.nil
            go_simp
            refine hK _ _ ?_; clear hK K; (try go_simp)
            refine wpAny_done (by kernel_rfl) ?_ _
            go_wp2
            go_roundw
            case rel => exact ⟨k + 1, n + 4, c3, a3, by omega, by go_num, rfl, by omega, by rw [HQ2.out]; exact O3.out, R3.out⟩
            case measure => simp [intOf]; omega
      · have HQ2 := hidden (HQ.out [b] (by unfold q1; rw [hp, if_pos rfl]))
        have h3 : ¬ (b.toNat : Int) = 34 := fun e => by
          obtain rfl : b = 34 := UInt8.toNat_inj.1 (by simpa using Int.ofNat.inj e)
          revert hp; decide
        have h4 : ¬ (b.toNat : Int) = 92 := fun e => by
          obtain rfl : b = 92 := UInt8.toNat_inj.1 (by simpa using Int.ofNat.inj e)
          revert hp; decide
        have h5 : (32 : Int) ≤ (b.toNat : Int) ∧ (b.toNat : Int) ≤ 126 := by
          unfold plainB at hp
          simp only [Bool.and_eq_true, decide_eq_true_eq] at hp
          omega
        obtain ⟨h5, h6⟩ := h5
        have d3 : ((b.toNat : Int) == 34) = false := by simpa using h3
        have d4 : ((b.toNat : Int) == 92) = false := by simpa using h4
        clear hp
        go_wp2_with (at_builtin; go_must (refine wpList_append_any (by rfl) _ _ 42 (by rfl) w.heap.size 5 i0 _ 1 1 Tryd.underlying42 hi0 hz0 hz1 hz2 rfl (by decide) _ _ _ _ (by rfl) (HO.out.alloc _) (some ⟨wr.heap.size, 0, none⟩) 1 1 (([b] : List UInt8).map U8) (by rfl) (by rfl) (lies_of (World.news_of_block (heap_alloc_new wr _))) (u8_one _) (by unfold maxLen; omega) (by omega) (by simp; have := HS.out.size; omega) ?_; intro a3 c3 w3 hown hgrow; have R3 := hidden (same_grown (m := 0) (HS.out.alloc _) (HO.out.alloc _) hgrow); have O3 := hidden hown; clear hown hgrow))
        go_roundw
        case rel => exact ⟨k + 1, n + 1, c3, a3, by omega, by go_num, rfl, by omega, by rw [HQ2.out]; exact O3.out, R3.out⟩
        case measure => simp [intOf]; omega
    · obtain rfl : k = m := by omega
      have q0 : ¬ (k : Int) < (k : Int) := by omega
      have HT := hidden (show P.take k = P from List.take_of_length_le (by rw [HLl.out]; exact Nat.le_refl _))
      go_wp2_with (at_builtin; go_must (refine wpList_append_any (by rfl) _ _ 42 (by rfl) w.heap.size 5 i0 _ 1 1 Tryd.underlying42 hi0 hz0 hz1 hz2 rfl (by decide) _ _ _ _ (by rfl) (HO.out.alloc _) (some ⟨wr.heap.size, 0, none⟩) 1 1 (([34] : List UInt8).map U8) (by rfl) (by rfl) (lies_of (World.news_of_block (heap_alloc_new wr _))) (u8_one _) (by unfold maxLen; omega) (by omega) (by simp; have := HS.out.size; omega) ?_; intro a3 c3 w3 hown hgrow; have R3 := hidden (same_grown (m := 0) (HS.out.alloc _) (HO.out.alloc _) hgrow); have O3 := hidden hown; clear hown hgrow; have hcv : (convert 42 9 (.slice a3 (n + 1) c3)).run Tryd.prog w3 = .ok (.string (BA (quoteL P))) w3 := (by have h := O3.out; rw [HT.out, ← List.map_append] at h; exact own_text h)))
      go_returns
      exact ⟨rfl, R3.out⟩
end Go.Proofs.YtndfgpelioipcaaDoor
