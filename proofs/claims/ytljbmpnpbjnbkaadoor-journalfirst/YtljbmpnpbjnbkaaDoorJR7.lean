/- journal: the document's Scan, walked. -/
import Derived.Test.YtljbmpnpbjnbkaaDoorJR6
namespace Go.Proofs.YtljbmpnpbjnbkaaDoor
open Go.RowKit
set_option linter.unusedVariables false
set_option linter.unusedSimpArgs false
theorem rtJ_len {n gen i : Nat} {b r : List UInt8} (h : rtJ n gen i b = some r) : r.length ≤ n - 24 := by
  unfold rtJ at h
  split at h
  · rename_i g
    obtain rfl := Option.some.inj h
    unfold roomJ
    rw [List.length_drop, List.length_take]
    omega
  · cases h
theorem flat_len (B : Nat) : ∀ L : List (List UInt8), (∀ r ∈ L, r.length ≤ B) → L.flatten.length ≤ B * L.length
  | [], _ => by simp
  | r :: L, h => by
    have h1 := flat_len B L (fun x hx => h x (by simp [hx]))
    have h2 := h r (by simp)
    rw [List.flatten_cons, List.length_append, List.length_cons, Nat.mul_succ]
    omega
theorem rooms_flat {n gen : Nat} (h2 : n ≤ 4096) (img : List UInt8) (c : Nat) (hc : c ≤ 4096) (i : Nat) : ((roomsJ n gen img c 0).take i).flatten.length ≤ 16777216 := by
  have h1 := flat_len 4072 ((roomsJ n gen img c 0).take i) (fun r hr => by
    obtain ⟨k, hk⟩ := List.mem_iff_getElem?.1 (List.mem_of_mem_take hr)
    have := rtJ_len (roomsJ_at n gen img c 0 k r hk)
    omega)
  have h3 := roomsJ_len n gen img c 0
  have h4 : ((roomsJ n gen img c 0).take i).length ≤ 4096 := by rw [List.length_take]; omega
  have h5 : 4072 * ((roomsJ n gen img c 0).take i).length ≤ 4072 * 4096 := Nat.mul_le_mul_left _ h4
  omega
/-- What Scan tells. -/
def scanJ (n gen : Nat) (img : List UInt8) (c : Nat) : List (List UInt8) := recs (roomsJ n gen img c 0).flatten
set_option maxHeartbeats 1000000 in
set_option maxRecDepth 100000 in
theorem scanD_any (n gen c L : Nat) (ad : Addr) (cap : Nat) (img : List UInt8) (w : World) (hb : Bt w (.slice (some ad) L cap) img) (hM : MayJ n L) (hL : L = n * c) (h1 : 512 ≤ n) (h2 : n ≤ 4096) (hc : c ≤ 4096) (hg : gen < 18446744073709551616) :
    Calls Tryd.prog 21 #[.int .i64 n, .int .u64 gen, .slice (some ad) L cap] w fun e w' => (∃ v, e = .returned (.tuple #[v, .int .i64 0]) ∧ w'.ownsRow w.heap.size 9 1 v (scanJ n gen img c).length (TJ (scanJ n gen img c))) ∧ Same w w' := by
  obtain ⟨i0, hi0, hz0, hz1, hz2⟩ := info_parts infoSt
  have hLb : L ≤ 16777216 := by rw [hL]; exact Nat.mul_le_mul h2 hc
  have HSec := hidden (sectorsD_any n gen c L ad cap img w hb hM hL h1 h2 hc hg)
  have HR := hidden (fun place p1 cp b W hb hp => rightD_any n gen place p1 cp b W hb h1 h2 hg hp)
  have HB := hidden hb
  have HL := hidden hL
  have hrl := roomsJ_len n gen img c 0
  have hfl := rooms_flat (gen := gen) h2 img c hc
  have hat := fun k r h => roomsJ_at n gen img c 0 k r h
  unfold scanJ
  obtain ⟨R0, hR0⟩ : ∃ R0, R0 = roomsJ n gen img c 0 := ⟨_, rfl⟩
  rw [← hR0] at hrl hfl hat HSec ⊢
  have HFl := hidden hfl
  have HAt := hidden hat
  obtain ⟨m, hm⟩ : ∃ m, m = R0.length := ⟨_, rfl⟩
  rw [← hm] at hrl HSec
  have HM := hidden hm
  clear hb hL hR0 hM hfl hat hm
  go_enter Tryd.func21, Tryd.ntmps21
  go_wp2_with (go_at_call 23; refine (HSec.out).mono ?_; rintro e w1 ⟨rfl, k1⟩; have K1 := hidden k1; clear k1)
  go_loopw [10, 11] (fun u v wr => ∃ i : Nat, v = .int .i64 i ∧ i ≤ m ∧ Gr w wr u (R0.take i).flatten) (fun _ v _ => m - (intOf v).toNat)
  case atStart => exact ⟨0, rfl, Nat.zero_le _, ⟨by simpa using OwnM.nil w1 5 1, fun k hk => by simp [Value.ownBlock] at hk, K1.out⟩⟩
  case round =>
    obtain ⟨i, rfl, hi, hG⟩ := hrel
    have HG := hidden hG
    clear hG
    by_cases g1 : i < m
    · obtain ⟨r, hr⟩ : ∃ r, R0[i]? = some r := ⟨_, List.getElem?_eq_getElem (by rw [← HM.out]; exact g1)⟩
      have hrt := HAt.out i r hr
      rw [Nat.zero_add] at hrt
      have hrl2 := rtJ_len hrt
      have HF2 := hidden (show (R0.take (i + 1)).flatten = (R0.take i).flatten ++ r by rw [List.take_add_one, hr]; simp)
      have hfb := HFl.out i
      obtain ⟨p, hp⟩ : ∃ p, p = i * n := ⟨_, rfl⟩
      obtain ⟨q, hq⟩ : ∃ q, q = (i + 1) * n := ⟨_, rfl⟩
      have hqp : q = p + n := by rw [hq, hp, Nat.succ_mul]
      have hqb : q ≤ L := by rw [hq, HL.out, Nat.mul_comm n c]; exact Nat.mul_le_mul_right _ (by omega)
      have e1 : ((i : Int) + 1) * (n : Int) = (q : Int) := by rw [hq]; push_cast; rfl
      have e2 : (i : Int) * (n : Int) = (p : Int) := by rw [hp]; push_cast; rfl
      have a0 : IntKind.i64.wrap ((i : Int) + 1) = (i : Int) + 1 := by rw [IntKind.wrap_i64]; omega
      have a1 : IntKind.i64.wrap (((i : Int) + 1) * (n : Int)) = (q : Int) := by rw [e1, IntKind.wrap_i64]; omega
      have a2 : IntKind.i64.wrap ((i : Int) * (n : Int)) = (p : Int) := by rw [e2, IntKind.wrap_i64]; omega
      have hsec : (img.take q).drop p = secP n i img := by unfold secP; rw [hq, hp]
      clear hq hp e1 e2
      have q1 : (i : Int) < (m : Int) := by omega
      obtain ⟨p1, r1, t1⟩ := HB.out.subS (i := p) (j := q) (by omega) (by omega) (p : Int) (q : Int) rfl rfl
      rw [hsec, show q - p = n by omega] at t1
      rw [show q - p = n by omega] at r1
      have HRi := hidden (fun W (k : Same w W) => HR.out i p1 (cap - p) (secP n i img) W (t1 W k) (by omega))
      rw [hrt] at HRi
      have hl2 : (R0.take i).flatten.length + r.length ≤ 1099511627776 := by omega
      clear hsec t1 hqp hqb hr hrt hrl2 hfb
      go_wp2_with (first
        | (go_at_call 44; refine (HRi.out _ HG.out.same).mono ?_; rintro e w2 ⟨⟨u, rfl, hu⟩, k2⟩; have B2 := hidden (hu r rfl); have G2 := hidden (HG.out.on k2); clear k2 hu)
        | (at_builtin; go_must (refine wl_app rfl _ _ rfl _ _ _ _ rfl G2.out rfl B2.out hl2 ?_; intro v3 w3 g3 _ _; have G3 := hidden g3; clear g3)))
      go_roundw
      case rel => exact ⟨i + 1, by go_num, by omega, by rw [HF2.out]; exact G3.out⟩
      case measure => simp [intOf]; omega
    · have q1 : ¬ (i : Int) < (m : Int) := by omega
      have ht : R0.take i = R0 := List.take_of_length_le (by rw [← HM.out]; omega)
      have hfb := HFl.out i
      have hbt := HG.out.bt
      have HS1 := hidden HG.out.same
      have hsz1 := HG.out.same.size
      rw [ht] at hfb hbt
      obtain ⟨S0, hS0⟩ : ∃ S0, S0 = R0.flatten := ⟨_, rfl⟩
      rw [← hS0] at hbt hfb
      have HS0 := hidden hS0
      obtain ⟨ao, gcap, hform, _⟩ := hbt.form
      subst hform
      obtain ⟨W1, hW1⟩ : ∃ W1, W1 = wr := ⟨_, rfl⟩
      rw [← hW1] at hbt HS1 hsz1 ⊢
      have HBt := hidden hbt
      clear hW1 ht hbt HG hS0
      go_wp2
      go_loopw [10, 14] (fun u v wr => ∃ (k cp : Nat) (vo : Option Addr) (done : List (List UInt8)) (r : List UInt8) (so : Option Addr) (sc : Nat), u = .slice so r.length sc ∧ v = .slice vo k cp ∧ k = done.length ∧ k + r.length ≤ S0.length ∧ recs S0 = done ++ recs r ∧ Bt W1 (.slice so r.length sc) r ∧ wr.ownsRow W1.heap.size 9 1 (.slice vo k cp) k (TJ done) ∧ Same W1 wr) (fun _ v _ => S0.length + 1 - slcLen v)
      case atStart => exact ⟨0, 0, none, [], S0, ao, gcap, rfl, rfl, rfl, by simp, rfl, HBt.out, World.ownsRow_nil _ _ _ _, Kept.refl _ _⟩
      case round =>
        obtain ⟨k, cp, vo, done, r, so, sc, rfl, rfl, hk, hkr, hW, hB, hO, hS⟩ := hrel
        have HK := hidden hk
        have HW := hidden hW
        have HB1 := hidden hB
        have HO := hidden hO
        have HS := hidden hS
        have HEnd := hidden (fun h => show recs S0 = done by rw [HW.out, recs_end (s := r) h, List.append_nil])
        have HCon := hidden (fun h1 h2 h3 => recs_cons (s := r) h1 h2 h3)
        have hN := num4_lt r
        obtain ⟨rl, hrl3⟩ : ∃ rl, rl = r.length := ⟨_, rfl⟩
        have HRl := hidden hrl3
        rw [← hrl3] at HB1 hkr HEnd HCon ⊢
        clear hk hW hB hO hS hrl3
        by_cases g0 : rl < 4
        · have q0 : ¬ (4 : Int) ≤ (rl : Int) := by omega
          have HE := hidden (HEnd.out (.inl g0))
          go_wp2
          go_returns
          refine ⟨⟨_, rfl, ?_⟩, HS1.out.trans HS.out⟩
          rw [← HS0.out, HE.out, ← HK.out]
          exact own_mono HO.out hsz1
        · have q0 : (4 : Int) ≤ (rl : Int) := by omega
          obtain ⟨p4, r4, t4⟩ := HB1.out.head (j := 4) (by omega) 4 rfl
          have HNu := hidden (fun W (kk : Same W1 W) => number_any (.slice p4 4 sc) (r.take 4) W (t4 W kk) (by rw [List.length_take]; omega))
          clear t4
          have HSb := hidden (fun (h : ¬ rl - 4 < num (r.take 4)) => HB1.out.sub (i := 4) (j := 4 + num (r.take 4)) (by omega) (by omega) 4 (4 + (num (r.take 4) : Int)) rfl (by omega))
          have HTl := hidden (fun (h : ¬ rl - 4 < num (r.take 4)) => HB1.out.tail (i := 4 + num (r.take 4)) (by omega) (4 + (num (r.take 4) : Int)) (by omega))
          have HTk := hidden (show (r.take (4 + num (r.take 4))).drop 4 = (r.drop 4).take (num (r.take 4)) by rw [List.take_drop, Nat.add_comm])
          have HDl := hidden (show (r.drop (4 + num (r.take 4))).length = rl - (4 + num (r.take 4)) by rw [List.length_drop, HRl.out])
          obtain ⟨N, hNN⟩ : ∃ N, N = num (r.take 4) := ⟨_, rfl⟩
          rw [← hNN] at HNu hN HEnd HCon HSb HTl HTk HDl
          clear hNN
          have a1 : IntKind.i64.wrap (N : Int) = (N : Int) := by rw [IntKind.wrap_i64]; omega
          have a2 : IntKind.i64.wrap ((rl : Int) - 4) = (rl : Int) - 4 := by rw [IntKind.wrap_i64]; omega
          have a3 : IntKind.i64.wrap (4 + (N : Int)) = 4 + (N : Int) := by rw [IntKind.wrap_i64]; omega
          by_cases g1 : 65536 < N
          · have q1 : (65536 : Int) < (N : Int) := by omega
            have d1 : decide ((65536 : Int) < (N : Int)) = true := decide_eq_true q1
            have HE := hidden (HEnd.out (.inr (.inl g1)))
            go_wp2_with (go_at_call 45; refine (HNu.out _ HS.out).mono ?_; rintro e w2 ⟨rfl, rfl⟩)
            go_returns
            refine ⟨⟨_, rfl, ?_⟩, HS1.out.trans HS.out⟩
            rw [← HS0.out, HE.out, ← HK.out]
            exact own_mono HO.out hsz1
          · have q1 : ¬ (65536 : Int) < (N : Int) := by omega
            have d1 : decide ((65536 : Int) < (N : Int)) = false := decide_eq_false q1
            by_cases g2 : rl - 4 < N
            · have q2 : (rl : Int) - 4 < (N : Int) := by omega
              have d2 : decide ((rl : Int) - 4 < (N : Int)) = true := decide_eq_true q2
              have HE := hidden (HEnd.out (.inr (.inr g2)))
              go_wp2_with (go_at_call 45; refine (HNu.out _ HS.out).mono ?_; rintro e w2 ⟨rfl, rfl⟩)
              go_returns
              refine ⟨⟨_, rfl, ?_⟩, HS1.out.trans HS.out⟩
              rw [← HS0.out, HE.out, ← HK.out]
              exact own_mono HO.out hsz1
            · have q2 : ¬ (rl : Int) - 4 < (N : Int) := by omega
              have d2 : decide ((rl : Int) - 4 < (N : Int)) = false := decide_eq_false q2
              have hC := HCon.out g0 g1 g2
              obtain ⟨p5, r5, t5⟩ := HSb.out g2
              obtain ⟨p6, r6, t6⟩ := HTl.out g2
              have htx := (t5 wr HS.out).text
              rw [HTk.out] at htx
              have hb6 := t6 W1 (Kept.refl _ _)
              have hdl := HDl.out
              obtain ⟨X, hX⟩ : ∃ X, X = (r.drop 4).take N := ⟨_, rfl⟩
              rw [← hX] at hC htx
              obtain ⟨r2, hr2⟩ : ∃ r2, r2 = r.drop (4 + N) := ⟨_, rfl⟩
              rw [← hr2] at hC hdl hb6
              have hks : k < S0.length := by omega
              have hk1 : k + 1 + r2.length ≤ S0.length := by omega
              rw [← hdl] at r6 hb6
              have HB6 := hidden hb6
              have HC := hidden hC
              have HHS := HS.out.size
              clear hC hX hr2 g1 g2 t5 t6 hb6 hdl
              generalize 4 + N - 4 = n4 at *
              go_wp2_with (first
                | (go_at_call 45; refine (HNu.out _ HS.out).mono ?_; rintro e w2 ⟨rfl, rfl⟩)
                | (at_builtin; go_must (refine wpList_append_any (by rfl) _ _ 47 (by rfl) W1.heap.size 9 i0 _ 1 16 Tryd.underlying47 hi0 hz0 hz1 hz2 rfl (by decide) _ _ _ _ (by rfl) (HO.out.alloc _) (some ⟨wr.heap.size, 0, none⟩) 1 1 (TJ [X]) (by rfl) (by rfl) (lies_of (World.news_of_block (heap_alloc_new wr _))) (TJ_one _) (by unfold maxLen; omega) (by omega) (by simp; omega) ?_; intro a7 c7 w7 hown hgrow; have S7 := hidden (same_grown (m := 0) (HS.out.alloc _) (HO.out.alloc _) hgrow); have O7 := hidden hown; clear hown hgrow)))
              go_roundw
              case rel => exact ⟨k + 1, c7, a7, done ++ [X], r2, _, _, rfl, rfl, by rw [HK.out]; simp, hk1, by rw [HW.out, HC.out]; simp, HB6.out, by have h := O7.out; simpa [TJ] using h, S7.out⟩
              case measure => simp [slcLen]; omega
end Go.Proofs.YtljbmpnpbjnbkaaDoor
