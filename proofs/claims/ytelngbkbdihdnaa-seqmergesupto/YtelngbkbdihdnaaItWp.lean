/- The program's Without. -/
import Derived.Test.YtelngbkbdihdnaaItSrt
namespace Go.Proofs.Ytelngbkbdihdnaa
open Go.RowKit
set_option linter.unusedVariables false
/-- What is left is what is kept of the rest, item by item. -/
theorem sortL_bhd : ∀ (l : List Kv), 0 < l.length → ∀ (h : 0 < l.length), sortL l = l[0] :: sortL (bhd l)
  | p :: t, _, _ => by
    show sortGo (p :: t) none = p :: sortL (bhd (p :: t))
    have key : ∀ (u : List Kv), sortGo u (some p.1) = sortL (abv p.1 u) := by
      intro u
      induction u with
      | nil => rfl
      | cons q u ih =>
        unfold abv
        by_cases hq : ltS p.1 q.1 = true
        · rw [List.dropWhile_cons_of_neg (by simpa using hq)]
          simp [sortGo, hq, sortL]
        · have hq' : ltS p.1 q.1 = false := by simpa using hq
          rw [List.dropWhile_cons_of_pos (by simpa using hq')]
          simp only [sortGo, hq', Bool.false_eq_true, if_false]
          exact ih
    have e : bhd (p :: t) = abv p.1 t := by
      show abv p.1 (p :: t) = abv p.1 t
      unfold abv
      rw [List.dropWhile_cons_of_pos (by simp [ordS.rf])]
    rw [e, ← key t]
    rfl
theorem bhd_lt {l : List Kv} (h : 0 < l.length) : (bhd l).length < l.length := by
  cases l with
  | nil => simp at h
  | cons p t =>
    have e : bhd (p :: t) = abv p.1 t := by
      show abv p.1 (p :: t) = abv p.1 t
      unfold abv
      rw [List.dropWhile_cons_of_pos (by simp [ordS.rf])]
    rw [e]
    have : (abv p.1 t).length ≤ t.length := (List.dropWhile_sublist _).length_le
    simp
    omega
theorem strs_own {B n : Nat} {w : World} {v : Value} {l : List ByteArray} (h : w.ownsRow B 9 1 v n (l.map Value.string)) (hn : l.length = n) : Strs w v l := by
  subst hn
  rcases h.2 with ⟨e, h0⟩ | ⟨g, cap, cur, e, hb, hg, hn, _⟩
  · exact Or.inl ⟨e, List.length_eq_zero_iff.1 h0⟩
  · refine Or.inr ⟨⟨g, 0, none⟩, cap, e, fun j hj => ?_⟩
    exact World.ownsRow.cells h (g := g) (by rw [e]; rfl) j _ (by rw [List.getElem?_map, List.getElem?_eq_getElem hj]; rfl)
set_option maxHeartbeats 1000000 in
set_option maxRecDepth 100000 in
theorem withoutP_any {l : List Kv} {v kv : Value} {ks : List ByteArray} {w : World} (h : Itc w v l) (hk : Strs w kv ks) (hl : (l.length + 1) * 24 ≤ 140737488355328) (hks : ks.length * 16 ≤ 140737488351232) :
    Calls Try.prog 36 #[v, kv] w fun e w' => ∃ u, e = .returned u ∧ ItS w.heap.size w' u (wo ks (sortL l)) ∧ Same w w' := by
  have HR : Hid (∀ W, Same w W → Itc W v l) := fun W kk => h.same kk
  obtain ⟨ka, kc, rfl⟩ := hk.form
  obtain ⟨i0, hi0, hz0, hz1, hz2⟩ := info_parts infoItemS
  have HSD : Hid (Calls Try.prog 67 #[.func (.func 85) #[] #[.pointer (some ⟨w.heap.size, 0, none⟩)]] (w.alloc (.cells #[.slice ka ks.length kc] 32)) fun e w' => ∃ u, e = .returned u ∧ w'.ownsRow (w.alloc (.cells #[.slice ka ks.length kc] 32)).heap.size 9 1 u ks.length ((srtB ks).map Value.string) ∧ Same (w.alloc (.cells #[.slice ka ks.length kc] 32)) w') :=
    sorted_any (l := ks) (a := ka) (cap := kc) (blk_cell (heap_alloc_new w _)) (by omega) (fun j hj => by
      rcases hk with ⟨_, e⟩ | ⟨a, cap, e, hc⟩
      · rw [e] at hj; simp at hj
      · simp only [Value.slice.injEq] at e
        exact ⟨a, e.1, Kept.cell (same_alloc w _) (fun h => h) (hc j hj)⟩)
  have HV : Hid (∀ W, Calls Try.prog 68 #[.slice ka ks.length kc] W fun e w' => e = .returned (.func (.func 85) #[] #[.pointer (some ⟨W.heap.size, 0, none⟩)]) ∧ W.alloc (.cells #[.slice ka ks.length kc] 32) = w') := fun W => values_fn ka ks.length kc W
  obtain ⟨va, vc, rfl, hvc, _⟩ := id h
  obtain ⟨m, hm⟩ : ∃ m, ks.length = m := ⟨_, rfl⟩
  have HM := hidden hm
  rw [hm] at HSD HV hks ⊢
  clear h hk hm
  go_enter Try.func36, Try.ntmps36
  go_wp2_with (first
    | (go_at_call 68; go_must (refine (HV.out _).mono ?_; rintro e w1 ⟨rfl, rfl⟩))
    | (go_at_call 67; go_must (refine (HSD.out).mono ?_; rintro e w2 ⟨u, rfl, o2, k2⟩; have K2 := hidden ((same_alloc w _).trans k2); have O2 := hidden o2; clear o2 k2)))
  have HST : Hid (∀ W, Same w2 W → Strs W u (srtB ks)) := fun W kk => (strs_own O2.out (by rw [srtB_len]; exact HM.out)).same kk
  obtain ⟨ua, uc, rfl⟩ := (HST.out w2 (Kept.refl _ _)).form
  obtain ⟨sl, hsl⟩ : ∃ sl, (srtB ks).length = sl := ⟨_, rfl⟩
  have HBS : Hid (∀ W, Same w2 W → ∀ k, Calls Try.prog 69 #[.slice ua sl uc, .string k] W fun e w' => ∃ i : Nat, e = .returned (.tuple #[.int .i64 i, .bool (memS ks k)]) ∧ W = w') := fun W kk k => by
    have := bs_any k (HST.out W kk) (srtB_rise ks) (by rw [srtB_len, HM.out]; omega)
    rw [srtB_mem, hsl] at this
    exact this
  rw [hsl]
  have hw2 : w.heap.size ≤ w2.heap.size := K2.out.size
  obtain ⟨n, hn⟩ : ∃ n, l.length = n := ⟨_, rfl⟩
  have HN := hidden hn
  have HI0 : Hid (Itc w2 (.slice va n vc) l ∧ ∀ b, (Value.slice va n vc).ownBlock = some b → 0 < n → b < w2.heap.size) := by
    have h9 := HR.out w2 K2.out
    rw [hn] at h9
    refine ⟨h9, fun b hb hp => ?_⟩
    obtain ⟨a', c', e, _, hc⟩ := h9
    obtain ⟨b2, off, e2, hce⟩ := hc (by omega)
    simp only [Value.slice.injEq] at e
    rw [e.1, e2] at hb
    simp [Value.ownBlock] at hb
    subst hb
    exact World.block_lt_of_cell? w2 _ (hce 0 (by omega)).1
  rw [hn] at hl hvc ⊢
  clear hn hsl
  go_loopw [6, 7] (fun ov rv wr => ∃ (dn r : List Kv) (a ra : Option Addr) (mm c rl rc : Nat), ov = .slice a mm c ∧ rv = .slice ra rl rc ∧ r.length = rl ∧ (wo ks dn).length = mm ∧ dn.length + r.length ≤ n ∧ mm ≤ dn.length ∧ sortL l = dn ++ sortL r ∧ wr.ownsRow w2.heap.size 54 2 (.slice a mm c) mm (flat (wo ks dn)) ∧ Itc wr (.slice ra rl rc) r ∧ (∀ b, (Value.slice ra rl rc).ownBlock = some b → 0 < rl → b < w2.heap.size) ∧ Same w2 wr) (fun ov rv wr => (match rv with | .slice _ k _ => k | _ => 0))
  case atStart => exact ⟨[], l, none, va, 0, 0, n, vc, rfl, rfl, HN.out, rfl, by rw [HN.out]; simp, Nat.le_refl _, rfl, World.ownsRow_nil _ _ _ _, HI0.out.1, HI0.out.2, Kept.refl _ _⟩
  case round =>
    obtain ⟨dn, r, a, ra, mm, c, rl, rc, rfl, rfl, hrl, hmm, hdl, hmd, hsd, hO, hI, hob, hK⟩ := hrel
    have HO := hidden hO
    have HI := hidden hI
    have HOB := hidden hob
    have HK := hidden hK
    have HSD2 := hidden hsd
    have HMM := hidden hmm
    have HRL := hidden hrl
    have HDL := hidden hdl
    have hsz := hK.size
    rw [hrl] at hdl
    clear hO hI hob hK hsd hmm hrl
    by_cases h1 : 0 < rl
    · have hrp : 0 < r.length := by rw [HRL.out]; exact h1
      obtain ⟨a', c', e, hcc, hc⟩ := HI.out
      obtain ⟨b, off, rfl, hce⟩ := hc hrp
      obtain ⟨y0, y1⟩ := hce 0 hrp
      simp only [Value.slice.injEq] at e
      obtain ⟨rfl, -, rfl⟩ := e
      obtain ⟨⟨k, z⟩, hay⟩ : ∃ e, r[0] = e := ⟨_, rfl⟩
      have HS0 := hidden (sortL_bhd r hrp hrp)
      rw [hay] at y0 y1 HS0
      simp only [Nat.zero_mul, Nat.add_zero] at y0 y1
      have hblt := HOB.out b rfl h1
      have hbl := bhd_lt hrp
      have HBL := hidden hbl
      have HT := hidden (wo_snoc ks dn (k, z))
      have q1 : (0 : Int) < (rl : Int) := by omega
      have HB := hidden (HBS.out wr HK.out k)
      have HBH : Hid (∀ W, Itc W (.slice (some ⟨b, off, none⟩) rl rc) r → Calls Try.prog 64 #[.slice (some ⟨b, off, none⟩) rl rc] W fun e w' => ∃ u, e = .returned u ∧ Itc w' u (bhd r) ∧ Same W w' ∧ (∀ b', u.ownBlock = some b' → (Value.slice (some ⟨b, off, none⟩) rl rc).ownBlock = some b')) := fun W hi => behind_any hi (by rw [HRL.out]; omega) hrp
      have HSN : Hid (sortL l = (dn ++ [(k, z)]) ++ sortL (bhd r)) := by rw [Hid, HSD2.out, HS0.out]; simp
      generalize hmb : memS ks k = bo at HB HT
      clear hay hce hc hcc hmb hbl
      cases bo
      · have HB2 := hidden (heap_alloc_new wr (.cells #[.string k, .int .i64 z] 54))
        go_wp2_with (first
          | (go_at_call 69; go_must (refine (HB.out).mono ?_; rintro e w4 ⟨i, rfl, rfl⟩))
          | (at_builtin; go_must (refine wpList_append_any (by rfl) _ _ 58 (by rfl) w2.heap.size 54 i0 _ 2 24 Try.underlying58 hi0 hz0 hz1 hz2 rfl (by decide) _ _ _ _ (by rfl) (HO.out.alloc _) (some ⟨wr.heap.size, 0, none⟩) 1 1 (flat [(k, z)]) (by rfl) (by rfl) (lies_of (World.news_of_block HB2.out)) (flat_one _) (by unfold maxLen; omega) (by omega) (by simp; omega) ?_; intro a3 c3 w3 hown hgrow; have R3 := hidden (same_grown (m := 0) (HK.out.alloc _) (HO.out.alloc _) hgrow); have I3 : Hid (Itc w3 (.slice (some ⟨b, off, none⟩) rl rc) r) := HI.out.kept (((Kept.refl (fun x => (Value.slice a mm c).ownBlock = some x) wr).alloc _).grown hgrow (fun q hq _ => hq)) (fun b' hb' hs => by have := (HO.out.lt b' hs).1; simp [Value.ownBlock] at hb'; omega); rw [← flat_app] at hown; have O3 := hidden hown; clear hown hgrow))
          | (go_at_call 64; go_must (refine (HBH.out _ I3.out).mono ?_; rintro e w5 ⟨u5, rfl, i5, k5, o5⟩; have I5 := hidden i5; have K5 := hidden (R3.out.trans k5); have O5 := hidden o5; have O6 := hidden (own_kept O3.out k5 (fun _ _ h => h)); obtain ⟨ra5, rc5, rfl, _⟩ := id i5; clear i5 k5 o5)))
        go_roundw
        case rel => exact ⟨dn ++ [(k, z)], bhd r, a3, ra5, mm + 1, c3, (bhd r).length, rc5, rfl, rfl, rfl, by rw [HT.out, List.length_append, HMM.out]; rfl, by have h8 := HBL.out; have h9 := HRL.out; simp; omega, by simp; omega, HSN.out, by rw [HT.out]; exact O6.out, I5.out, fun b' hb' _ => by have h8 := O5.out b' hb'; simp [Value.ownBlock] at h8; omega, K5.out⟩
        case measure => have := HBL.out; have := HRL.out; simp; omega
      · go_wp2_with (first
          | (go_at_call 69; go_must (refine (HB.out).mono ?_; rintro e w4 ⟨i, rfl, rfl⟩))
          | (go_at_call 64; go_must (refine (HBH.out _ HI.out).mono ?_; rintro e w5 ⟨u5, rfl, i5, k5, o5⟩; have I5 := hidden i5; have K5 := hidden (HK.out.trans k5); have O5 := hidden o5; have O6 := hidden (own_kept HO.out k5 (fun _ _ h => h)); obtain ⟨ra5, rc5, rfl, _⟩ := id i5; clear i5 k5 o5)))
        go_roundw
        case rel => exact ⟨dn ++ [(k, z)], bhd r, a, ra5, mm, c, (bhd r).length, rc5, rfl, rfl, rfl, by rw [HT.out]; simpa using HMM.out, by have h8 := HBL.out; have h9 := HRL.out; simp; omega, by simp; omega, HSN.out, by rw [HT.out]; simpa using O6.out, I5.out, fun b' hb' _ => by have h8 := O5.out b' hb'; simp [Value.ownBlock] at h8; omega, K5.out⟩
        case measure => have := HBL.out; have := HRL.out; simp; omega
    · obtain rfl : rl = 0 := by omega
      have hr0 : r = [] := List.length_eq_zero_iff.1 HRL.out
      have q1 : ¬ (0 : Int) < ((0 : Nat) : Int) := by omega
      go_wp2
      go_returns
      refine ⟨_, rfl, ?_, K2.out.trans HK.out⟩
      have hs := HSD2.out
      rw [hr0] at hs
      have hs2 : sortL l = dn := by rw [hs]; simp [sortL, sortGo]
      unfold ItS
      rw [hs2, HMM.out]
      exact own_mono HO.out hw2
end Go.Proofs.Ytelngbkbdihdnaa
