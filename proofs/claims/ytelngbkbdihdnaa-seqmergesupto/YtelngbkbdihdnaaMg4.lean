/- The document's Merge. -/
import Derived.Test.YtelngbkbdihdnaaSMg
namespace Go.Proofs.Ytelngbkbdihdnaa
open Go.RowKit
set_option linter.unusedVariables false
theorem lk_ins (j k : ByteArray) (x : Int) : ∀ l : List Kv, lk j (insL k x l) = if eqK k j then some x else lk j l
  | [] => by
    unfold insL
    cases h : eqK k j
    · rw [lk_tail h]; simp
    · obtain rfl := eqK_eq h
      rw [lk_head]; simp
  | (p, q) :: l => by
    have ih := lk_ins j k x l
    unfold insL
    cases h1 : ltS k p
    · cases h2 : ltS p k
      · obtain rfl : k = p := bytes_ext (ltS_eq h1 h2)
        simp only [Bool.false_eq_true, if_false]
        cases h : eqK k j
        · rw [lk_tail h, lk_tail h]; simp
        · obtain rfl := eqK_eq h
          rw [lk_head]; simp
      · simp only [Bool.false_eq_true, if_false, if_true]
        cases h3 : eqK p j
        · rw [lk_tail h3, lk_tail h3, ih]
        · obtain rfl := eqK_eq h3
          rw [lk_head, lk_head, eqK_gt h2]; simp
    · simp only [if_true]
      cases h : eqK k j
      · rw [lk_tail h]; simp
      · obtain rfl := eqK_eq h
        rw [lk_head]; simp
theorem sel_app (S : List (List Kv)) (l : List Kv) (k : ByteArray) : sel (S ++ [l]) k = (sel S k).or (lk k l) := by
  unfold sel
  rw [List.findSome?_append]
  congr 1
  cases h : lk k l <;> simp [h]
theorem lk_take {L : List Kv} (hs : Srt L) {j : Nat} (hj : j < L.length) (k : ByteArray) : lk k (L.take (j + 1)) = if eqK L[j].1 k then some L[j].2 else lk k (L.take j) := by
  rw [take_snoc hj]
  cases h : eqK L[j].1 k
  · have := lk_snoc_no (z := L[j].2) (out := L.take j) h
    rw [if_neg (by simp)]
    exact this
  · have e := eqK_eq h
    have hn : lk k (L.take j) = none := lk_no (fun a ha => by
      obtain ⟨i, hi, rfl⟩ := List.getElem_of_mem ha
      rw [List.getElem_take, ← e]
      simp at hi
      exact eqK_lt (List.pairwise_iff_getElem.1 hs i j (by omega) hj (by omega)))
    unfold lk at hn ⊢
    rw [Option.map_eq_none_iff] at hn
    rw [List.find?_append, hn, Option.none_or, List.find?_cons_of_pos (by exact h)]
    simp
theorem lk_take_no {L : List Kv} (hs : Srt L) {j : Nat} (hj : j < L.length) : lk L[j].1 (L.take j) = none := lk_no (fun a ha => by
  obtain ⟨i, hi, rfl⟩ := List.getElem_of_mem ha
  rw [List.getElem_take]
  simp at hi
  exact eqK_lt (List.pairwise_iff_getElem.1 hs i j (by omega) hj (by omega)))
/-- One more of a list is looked at: it was there. -/
theorem mg_old {S : List (List Kv)} {L O : List Kv} (hs : Srt L) {j : Nat} (hj : j < L.length) (h : ∀ k, lk k O = (sel S k).or (lk k (L.take j))) (hx : (lk L[j].1 O).isSome = true) : ∀ k, lk k O = (sel S k).or (lk k (L.take (j + 1))) := fun k => by
  rw [lk_take hs hj]
  cases he : eqK L[j].1 k
  · simpa using h k
  · have e := eqK_eq he
    subst e
    have h1 := h L[j].1
    rw [lk_take_no hs hj, Option.or_none] at h1
    rw [h1] at hx ⊢
    cases hq : sel S L[j].1
    · rw [hq] at hx; cases hx
    · simp
theorem mg_new {S : List (List Kv)} {L O : List Kv} (hs : Srt L) {j : Nat} (hj : j < L.length) (h : ∀ k, lk k O = (sel S k).or (lk k (L.take j))) (hx : (lk L[j].1 O).isSome = false) : ∀ k, lk k (insL L[j].1 L[j].2 O) = (sel S k).or (lk k (L.take (j + 1))) := fun k => by
  rw [lk_take hs hj, lk_ins]
  cases he : eqK L[j].1 k
  · simpa using h k
  · have e := eqK_eq he
    subst e
    have h1 := h L[j].1
    rw [lk_take_no hs hj, Option.or_none] at h1
    rw [h1] at hx
    cases hq : sel S L[j].1
    · simp
    · rw [hq] at hx; cases hx
set_option maxHeartbeats 1000000 in
set_option maxRecDepth 100000 in
theorem mergeD_any {Ls : List (List Kv)} {vs : List Value} {la : Option Addr} {lc : Nat} {w : World} (hvl : vs.length = Ls.length)
    (hce : ∀ j (hj : j < Ls.length), ∃ b o, la = some ⟨b, o, none⟩ ∧ w.cell? ⟨b, o + j, none⟩ = some (vs[j]'(by omega)))
    (hIt : ∀ j (hj : j < Ls.length), Its w (vs[j]'(by omega)) Ls[j]) (hn : Ls.length ≤ 1073741824) (htot : (Ls.flatten.length + 1) * 24 ≤ 140737488355328) :
    Calls Try.prog 34 #[.slice la Ls.length lc] w fun e w' => ∃ u, e = .returned u ∧ ∃ M, ItR 0 w' u M ∧ Srt M ∧ (∀ k, lk k M = sel (Ls.map sortL) k) ∧ M.length ≤ Ls.flatten.length ∧ Same w w' := by
  have HCE : Hid (∀ j (hj : j < Ls.length), ∃ b o, la = some ⟨b, o, none⟩ ∧ ∀ W, Same w W → W.cell? ⟨b, o + j, none⟩ = some (vs[j]'(by omega))) := fun j hj => let ⟨b, o, e, h⟩ := hce j hj; ⟨b, o, e, fun W kk => Kept.cell kk (fun h => h) h⟩
  have HIT : Hid (∀ j (hj : j < Ls.length), ∀ W, Same w W → Its W (vs[j]'(by omega)) Ls[j]) := fun j hj W kk => (hIt j hj).same kk
  have HTB : Hid (∀ i, i < Ls.length → (Ls.take (i + 1)).flatten.length ≤ Ls.flatten.length) := fun i _ => by
    conv => rhs; rw [← List.take_append_drop (i + 1) Ls, List.flatten_append, List.length_append]
    omega
  obtain ⟨tot, htt⟩ : ∃ tot, Ls.flatten.length = tot := ⟨_, rfl⟩
  rw [htt] at htot HTB ⊢
  have HTT := hidden htt
  have HTOT := hidden htot
  obtain ⟨n, hnn⟩ : ∃ n, Ls.length = n := ⟨_, rfl⟩
  have HN := hidden hnn
  rw [hnn] at hn ⊢
  clear hce hIt hnn htt
  go_enter Try.func34, Try.ntmps34
  go_wp2
  go_loopw [3, 12] (fun ov iv wr => ∃ (i oc : Nat) (oa : Option Addr) (O : List Kv), i ≤ n ∧ iv = .int .i64 i ∧ ov = .slice oa O.length oc ∧ ItR 0 wr (.slice oa O.length oc) O ∧ Srt O ∧ (∀ k, lk k O = sel ((Ls.take i).map sortL) k) ∧ O.length ≤ (Ls.take i).flatten.length ∧ Same w wr) (fun ov iv wr => n - (intOf iv).toNat)
  case atStart => exact ⟨0, 0, none, [], Nat.zero_le _, rfl, rfl, World.ownsRow_nil _ _ _ _, List.Pairwise.nil, fun k => rfl, Nat.zero_le _, Kept.refl _ _⟩
  case round =>
    obtain ⟨i, oc, oa, O, hi, rfl, rfl, hO, hS, hk, hl, hK⟩ := hrel
    have HO := hidden hO
    have HS := hidden hS
    have HKK := hidden hk
    have HL := hidden hl
    have HK := hidden hK
    clear hO hS hk hl hK
    by_cases h1 : i < n
    · have hil : i < Ls.length := by rw [HN.out]; exact h1
      obtain ⟨lb, lo, rfl, hcw⟩ := HCE.out i hil
      have y0 := hcw wr HK.out
      have HI := hidden (HIT.out i hil wr HK.out)
      obtain ⟨v, hvv⟩ : ∃ v, vs[i]'(by omega) = v := ⟨_, rfl⟩
      have HTK := hidden (show Ls.take (i + 1) = Ls.take i ++ [Ls[i]] from (List.take_append_getElem hil).symm)
      have htb := HTB.out i hil
      rw [hvv] at y0 HI
      obtain ⟨l, hll⟩ : ∃ l, Ls[i] = l := ⟨_, rfl⟩
      rw [hll] at HI HTK
      have hfl : (Ls.take (i + 1)).flatten.length = (Ls.take i).flatten.length + l.length := by rw [HTK.out]; simp
      obtain ⟨va, vc, rfl, _⟩ := id HI.out
      have hlb : (Ls.take i).flatten.length + l.length ≤ tot := by omega
      have HLB := hidden hlb
      have HFL := hidden hfl
      obtain ⟨ml, hml⟩ : ∃ ml, l.length = ml := ⟨_, rfl⟩
      have HSO := hidden (sortOut_any HI.out (by have := HLB.out; have := HTOT.out; omega))
      rw [hml] at y0 HI HSO hlb
      have q1 : (i : Int) < (n : Int) := by omega
      have q0 : (0 : Int) ≤ (i : Int) := Int.natCast_nonneg _
      have HML := hidden hml
      clear hcw hll hvv hml hfl htb hlb
      go_wp2_with (go_at_call 38; go_must (refine (HSO.out).mono ?_; rintro e w1 ⟨u, rfl, i1, l1, k1⟩; have I1 := hidden i1; have L1 := hidden l1; have K1 := hidden k1; obtain ⟨ua, uc, rfl, huc, hub⟩ := i1.form; have HUB := hidden hub; clear i1 l1 k1 hub))
      obtain ⟨L, hL⟩ : ∃ L, sortL l = L := ⟨_, rfl⟩
      have HSL : Hid (Srt L) := by rw [Hid, ← hL]; exact sortL_srt l
      rw [hL] at I1 L1 huc HUB ⊢
      obtain ⟨m, hm⟩ : ∃ m, L.length = m := ⟨_, rfl⟩
      have HM := hidden hm
      have HL0 := hidden hL
      rw [hm] at I1 L1 huc HUB ⊢
      have hmb : m ≤ tot := by have h7 := L1.out; have h8 := HLB.out; have h9 := HML.out; omega
      clear hm hL
      go_loopw [3, 19] (fun ov jv wz => ∃ (j oc : Nat) (oa : Option Addr) (O : List Kv), j ≤ m ∧ jv = .int .i64 j ∧ ov = .slice oa O.length oc ∧ ItR 0 wz (.slice oa O.length oc) O ∧ Srt O ∧ (∀ k, lk k O = (sel ((Ls.take i).map sortL) k).or (lk k (L.take j))) ∧ O.length ≤ (Ls.take i).flatten.length + j ∧ Same w1 wz) (fun ov jv wz => m - (intOf jv).toNat)
      case atStart => exact ⟨0, oc, oa, O, Nat.zero_le _, rfl, rfl, HO.out.same K1.out, HS.out, fun k => by rw [HKK.out k, List.take_zero, lk_nil, Option.or_none], HL.out, Kept.refl _ _⟩
      case round =>
        obtain ⟨j, oc, oa, O, hj, rfl, rfl, hO, hS, hk, hl, hK⟩ := hrel
        have HO := hidden hO
        have HS := hidden hS
        have HKK := hidden hk
        have HL := hidden hl
        have HK2 := hidden hK
        clear hO hS hk hl hK
        by_cases h2 : j < m
        · have hjl : j < L.length := by rw [HM.out]; exact h2
          obtain ⟨b, rfl⟩ := HUB.out (by omega)
          have hrow := I1.out.same HK2.out
          obtain ⟨x0, x1⟩ := hrow.at j hjl
          have HOLD := hidden (mg_old HSL.out hjl HKK.out)
          have HNEW := hidden (mg_new HSL.out hjl HKK.out)
          obtain ⟨⟨k, z⟩, hkz⟩ : ∃ e, L[j] = e := ⟨_, rfl⟩
          rw [hkz] at x0 x1
          simp only [hkz] at HOLD HNEW
          have q2 : (j : Int) < (m : Int) := by omega
          have q3 : (0 : Int) ≤ (j : Int) := Int.natCast_nonneg _
          have hob : (O.length + 1) * 24 ≤ 140737488355328 := by
            have h6 := HL.out
            have h7 := HLB.out
            have h8 := HTOT.out
            have h9 := L1.out
            have h5 := HML.out
            omega
          have HFI : Hid (∀ W, ItR 0 W (.slice oa O.length oc) O → Calls Try.prog 40 #[.slice oa O.length oc, .string k] W fun e w' => e = .returned (.tuple #[.int .i64 (rkL k O), .bool (lk k O).isSome]) ∧ Same W w') := fun W hi => findD_any k hi.itc.its HS.out (by omega)
          have HPU : Hid (∀ W, ItR 0 W (.slice oa O.length oc) O → Calls Try.prog 51 #[.slice oa O.length oc, It k z] W fun e w' => ∃ u o, e = .returned (.tuple #[u, It o ((lk k O).getD 0), .bool (lk k O).isSome]) ∧ ItR 0 w' u (insL k z O) ∧ Same W w') := fun W hi => putD_any k z hi HS.out hob
          generalize hbo : (lk k O).isSome = bo at HFI HPU HOLD HNEW
          clear hkz hrow hbo
          cases bo
          · go_wp2_with (first
              | (go_at_call 40; go_must (refine (HFI.out _ (HO.out.same (same_alloc _ _))).mono ?_; rintro e w3 ⟨rfl, k3⟩; have K3 := hidden ((same_alloc _ _).trans k3); have d0 := Kept.cell k3 (fun h => h) (blk_cell (j := 0) (heap_alloc_new _ _)); have d1 := Kept.cell k3 (fun h => h) (blk_cell (j := 1) (heap_alloc_new _ _)); clear k3)))
            refine (HPU.out _ (HO.out.same K3.out)).mono ?_
            rintro e w4 ⟨u4, o4, rfl, i4, k4⟩
            obtain ⟨a4, c4, rfl, -, -⟩ := i4.form
            have I4 := hidden i4
            have K4 := hidden (K3.out.trans k4)
            clear i4 k4
            go_wp2
            go_roundw
            case rel => exact ⟨j + 1, c4, a4, insL k z O, by omega, by go_num, rfl, I4.out, HS.out.ins k z, HNEW.out (by simp), by have h8 := HL.out; have h9 := insL_len k z O; omega, HK2.out.trans K4.out⟩
            case measure => simp [intOf]; omega
          · go_wp2_with (first
              | (go_at_call 40; go_must (refine (HFI.out _ (HO.out.same (same_alloc _ _))).mono ?_; rintro e w3 ⟨rfl, k3⟩; have K3 := hidden ((same_alloc _ _).trans k3); have d0 := Kept.cell k3 (fun h => h) (blk_cell (j := 0) (heap_alloc_new _ _)); have d1 := Kept.cell k3 (fun h => h) (blk_cell (j := 1) (heap_alloc_new _ _)); clear k3)))
            go_roundw
            case rel => exact ⟨j + 1, oc, oa, O, by omega, by go_num, rfl, HO.out.same K3.out, HS.out, HOLD.out (by simp), by have h8 := HL.out; omega, HK2.out.trans K3.out⟩
            case measure => simp [intOf]; omega
        · obtain rfl : j = m := by omega
          have q2 : ¬ (j : Int) < (j : Int) := by omega
          go_wp2
          go_roundw
          case rel =>
            refine ⟨i + 1, oc, oa, O, by omega, by go_num, rfl, HO.out, HS.out, fun k => ?_, ?_, HK.out.trans (K1.out.trans HK2.out)⟩
            · rw [HKK.out k, HTK.out, List.map_append, List.map_cons, List.map_nil, sel_app, HL0.out, ← HM.out, List.take_length]
            · have h6 := HL.out
              have h7 := HFL.out
              have h8 := L1.out
              have h9 := HML.out
              omega
          case measure => simp [intOf]; omega
    · obtain rfl : i = n := by omega
      have q1 : ¬ (i : Int) < (i : Int) := by omega
      go_wp2
      go_returns
      refine ⟨_, rfl, O, HO.out, HS.out, fun k => ?_, ?_, HK.out⟩
      · rw [HKK.out k, ← HN.out, List.take_length]
      · have h6 := HL.out
        rw [← HN.out, List.take_length, HTT.out] at h6
        exact h6
end Go.Proofs.Ytelngbkbdihdnaa
