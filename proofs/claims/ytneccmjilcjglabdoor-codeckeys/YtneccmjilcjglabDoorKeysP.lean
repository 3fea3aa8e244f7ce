/-
  CodecKeys (P2.4): for every prefix, every list of numbers and every name Key tells what the document says and Split of it tells the parts again; the numbers that were handed in stay: the law's call returns true and leaves its arguments as they were.
  Condition: the table crcSteps holds what the program's text lays (the card ties it).
-/
import Derived.Test.YtneccmjilcjglabDoorCTab
import Derived.Test.YtneccmjilcjglabDoorKeyR
import Derived.Laws.AppendOwnNone
namespace Go.Proofs.YtneccmjilcjglabDoor
open Go.RowKit
set_option linter.unusedVariables false

/-! ### Split of Key, of no program -/
theorem be_succ (s n : Nat) : be (s + 1) n = be s (n / 256) ++ [UInt8.ofNat n] := by
  unfold be
  rw [List.range_succ, List.map_append, List.map_singleton]
  congr 1
  · apply List.map_congr_left
    intro i hi
    have hi' : i < s := List.mem_range.1 hi
    congr 1
    rw [show s + 1 - 1 - i = (s - 1 - i) + 1 by omega, Nat.mul_add, Nat.pow_add, Nat.mul_comm, ← Nat.div_div_eq_div_mul]
  · simp
theorem num_be : ∀ (s n : Nat), num (be s n) = n % 256 ^ s := by
  intro s
  induction s with
  | zero => intro n; simp [be, num, Nat.mod_one]
  | succ s ih =>
    intro n
    have e : (256 : Nat) ^ (s + 1) = 256 * 256 ^ s := by rw [Nat.pow_succ, Nat.mul_comm]
    rw [be_succ, num_snoc, ih, UInt8.toNat_ofNat', e, Nat.mod_mul]
    generalize n / 256 % 256 ^ s = m
    omega
theorem keyL_drop (p : Nat) (l : List Nat) (name : ByteArray) : (keyL p l name).drop (1 + 8 * l.length) = name.data.toList := by
  unfold keyL
  rw [List.drop_append_of_le_length (by rw [List.length_append, be_length, numsL_len]; exact Nat.le_refl _), List.drop_of_length_le (by rw [List.length_append, be_length, numsL_len]; exact Nat.le_refl _)]
  rfl
theorem numsL_at : ∀ (l : List Nat) (i : Nat) (rest : List UInt8), i < l.length → ((numsL l ++ rest).drop (8 * i)).take 8 = be 8 (l.getD i 0) := by
  intro l
  induction l with
  | nil => intro i rest h; simp at h
  | cons a l ih =>
    intro i rest h
    have e : numsL (a :: l) = be 8 a ++ numsL l := by simp [numsL]
    rw [e, List.append_assoc]
    cases i with
    | zero =>
      simp only [Nat.mul_zero, List.drop_zero]
      rw [List.take_left' (be_length 8 a)]
      rfl
    | succ i =>
      rw [show 8 * (i + 1) = 8 + 8 * i by omega, ← List.drop_drop, List.drop_left' (be_length 8 a)]
      exact ih i rest (by simpa using h)
theorem keyL_nums (p : Nat) (l : List Nat) (name : ByteArray) (hl : ∀ x ∈ l, x < 18446744073709551616) : knums (keyL p l name) l.length = l := by
  apply List.ext_getElem
  · rw [knums_len]
  · intro i h1 h2
    simp only [knums, List.getElem_map, List.getElem_range]
    unfold keyL
    rw [← List.drop_drop, List.append_assoc, List.drop_left' (be_length 1 p), numsL_at l i _ h2, num_be]
    have := hl l[i] (List.getElem_mem h2)
    simp only [List.getD_eq_getElem?_getD, List.getElem?_eq_getElem h2, Option.getD_some]
    exact Nat.mod_eq_of_lt (Nat.lt_of_lt_of_le this (by decide))
theorem spl_key (p : Nat) (l : List Nat) (name : ByteArray) (hp : p < 256) (hl : ∀ x ∈ l, x < 18446744073709551616) : spl ⟨(keyL p l name).toArray⟩ l.length = (p, l, name, 0) := by
  have hz : (⟨(keyL p l name).toArray⟩ : ByteArray).size = 1 + 8 * l.length + name.size := by rw [arr_size, keyL_len]
  unfold spl
  rw [if_neg (by rw [hz]; omega), arr_list, keyL_nums p l name hl]
  have e1 : num ((keyL p l name).take 1) = p := by
    unfold keyL
    rw [List.append_assoc, List.take_left' (be_length 1 p), num_be]
    exact Nat.mod_eq_of_lt (by omega)
  have e2 : (⟨(keyL p l name).toArray⟩ : ByteArray).extract (1 + 8 * l.length) (⟨(keyL p l name).toArray⟩ : ByteArray).size = name := by
    apply ba_ext
    rw [Lib.extract_to_end, arr_list, keyL_drop]
  rw [e1, e2]

/-! ### The law -/
/-- A slice of numbers that came in. -/
def InS (w : World) (v : Value) (l : List Nat) : Prop :=
  (v = .slice none 0 0 ∧ l = []) ∨ ∃ (ad : Addr) (cap : Nat), v = .slice (some ad) l.length cap ∧ ∀ j, j < l.length → w.cell? (ad.add j) = some (W64 (l.getD j 0))
theorem InS.cells {w : World} {v : Value} {l : List Nat} (h : InS w v l) : Cells w v l := by
  rcases h with ⟨rfl, rfl⟩ | ⟨⟨b, off, spot⟩, cap, rfl, hc⟩
  · exact ⟨none, 0, rfl, fun h => absurd rfl h⟩
  · refine ⟨_, cap, rfl, fun hn => ?_⟩
    have h0 : 0 < l.length := List.length_pos_iff.2 hn
    have hspot : spot = none := by simpa [Addr.add] using World.cell?_spot (hc 0 h0)
    subst hspot
    refine ⟨b, off, rfl, fun j hj => ?_⟩
    have hadd : (⟨b, off, none⟩ : Addr).add j = ⟨b, off + j, none⟩ := by unfold Addr.add; split <;> simp_all
    rw [← hadd]
    exact hc j hj
set_option maxHeartbeats 4000000 in
set_option maxRecDepth 100000 in
theorem keys_walk (p : Nat) (v : Value) (l : List Nat) (name : ByteArray) (w : World) (hp : p < 256) (hv : InS w v l) (hl : ∀ x ∈ l, x < 18446744073709551616) (hll : l.length * 8 ≤ 140737488351232) (hs : name.size ≤ 140737488351232) (hT : Tab w) :
    Calls Tryd.prog 8 #[.int .u8 p, v, .string name] w fun e w' => e = .returned (.bool true) ∧ Same w w' := by
  obtain ⟨i0, hi, hz0, hz1, hz2⟩ := info_parts info64
  have hcin := InS.cells hv
  have hsp := fun w => split_in ⟨(keyL p l name).toArray⟩ l.length w (by rw [arr_size, keyL_len]; omega)
  rw [spl_key p l name hp hl] at hsp
  have g1 := fun v w hv h => key_in p v l name w hp hv h hl hs
  have g2 := fun v w hv h => refKey_in p v l name w hp hv h hl hs
  have g3 := fun v w hv h => key_many p v l name w hv h (by omega)
  have g4 := fun v w hv h => refKey_many p v l name w hv h (by omega)
  have g5 := fun v1 v2 w h1 h2 => same_any v1 v2 l w h1 h2 (by omega)
  generalize (⟨(keyL p l name).toArray⟩ : ByteArray) = K at hsp g1 g2
  have HT := hidden hT
  have HCI := hidden hcin
  have HSP := hidden hsp
  have G1 := hidden g1
  have G2 := hidden g2
  have G3 := hidden g3
  have G4 := hidden g4
  have G5 := hidden g5
  have HV := hidden hv
  clear hT hcin hsp g1 g2 g3 g4 g5 hv
  have hm1 : Hid (0 + l.length ≤ maxLen) := by rw [Hid]; unfold maxLen; omega
  have hm2 : Hid ((0 + l.length) * 8 ≤ 140737488355328) := by rw [Hid]; omega
  have hnewO : ∀ W : World, (W.alloc (.cells #[] 34)).ownsRow W.heap.size 34 1 (.slice (some ⟨W.heap.size, 0, none⟩) 0 0) 0 [] := fun W => World.ownsRow_made W #[] 0 (Nat.le_refl _) (Nat.zero_le _) rfl
  have HO := hidden hnewO
  clear hnewO
  rcases HV.out with ⟨rfl, rfl⟩ | ⟨ad, cap, rfl, hc⟩
  · have h4 : ([] : List Nat).length ≤ 4 := by decide
    clear HV
    go_enter Tryd.func8, Tryd.ntmps8
    go_wp2_with (first
      | (go_at_call 15; refine (awake_any _ HT.out).mono ?_; rintro e w0 ⟨rfl, k0⟩)
      | (at_builtin; refine wpList_append_own_none (by rfl) (.tmp 17) (.tmp 18) 62 (by rfl) w0.heap.size 34 i0 1 Tryd.underlying62 hi _ 0 [] (by rfl) (HO.out w0) (by rfl) ?_; have n1 : Nums w0.heap.size (.slice (some ⟨w0.heap.size, 0, none⟩) 0 0) [] (w0.alloc (.cells #[] 34)) := HO.out w0; have k1 : Same w0 (w0.alloc (.cells #[] 34)) := (Kept.refl (fun _ => False) w0).alloc _; have N1 := hidden (Nums.cells n1); have K1 := hidden (Kept.trans k0 k1); clear n1 k1 k0)
      | (go_at_call 33; refine (G1.out _ _ N1.out h4).mono ?_; rintro e w2 ⟨rfl, k2⟩)
      | (go_at_call 34; refine (G2.out _ _ (Cells.same (Cells.same HCI.out K1.out) k2) h4).mono ?_; rintro e w3 ⟨rfl, k3⟩; have t1 : True := trivial)
      | (go_at_call 35; have _t := t1; refine (G5.out _ _ _ (Cells.same (Cells.same N1.out k2) k3) (Cells.same (Cells.same (Cells.same HCI.out K1.out) k2) k3)).mono ?_; rintro e w4 ⟨rfl, nq, rfl⟩; have K4 := hidden (Kept.drewN (Kept.trans (Kept.trans K1.out k2) k3) nq); clear t1 k2 k3)
      | (go_at_call 36; refine (HSP.out _ h4).mono ?_; rintro e w5 ⟨v5, rfl, n5, k5⟩; have N5 := hidden (Nums.cells n5); have K5 := hidden (Kept.trans K4.out k5); clear n5 k5)
      | (go_at_call 35; refine (G5.out _ _ _ N5.out (Cells.same HCI.out K5.out)).mono ?_; rintro e w6 ⟨rfl, nr, rfl⟩))
    go_returns
    exact ⟨rfl, Kept.drewN K5.out nr⟩
  · have hnews : ∀ w0 : World, Same w w0 → ∀ (j : Nat) (u : Value), (l.map W64)[j]? = some u → (w0.alloc (.cells #[] 34)).cell? (ad.add j) = some u := fun w0 k0 j u hu => by
      have hj : j < l.length := by
        have := (List.getElem?_eq_some_iff.1 hu).1
        simpa using this
      have e : (l.map W64)[j]? = some (W64 (l.getD j 0)) := by simp [hj]
      rw [e] at hu
      rw [← hu]
      exact Kept.cell (Kept.alloc k0 _) (fun h => h) (hc j hj)
    have HN := hidden hnews
    have HW1 : Hid (∀ u ∈ l.map W64, u.oneCell' = true) := hidden (fun u hu => by obtain ⟨n, _, rfl⟩ := List.mem_map.1 hu; rfl)
    clear hnews hc HV
    by_cases h4 : l.length ≤ 4
    · skip
      go_enter Tryd.func8, Tryd.ntmps8
      go_wp2_with (first
        | (go_at_call 15; refine (awake_any _ HT.out).mono ?_; rintro e w0 ⟨rfl, k0⟩)
        | (at_builtin; refine wpList_append_own _ (by rfl) (.tmp 17) (.tmp 18) 62 (by rfl) w0.heap.size 34 i0 (.int .u64 0) 1 8 Tryd.underlying62 hi hz0 hz1 hz2 rfl (by decide) _ 0 [] (by rfl) (HO.out w0) ad l.length cap (l.map W64) (by rfl) (by simp) (HN.out w0 k0) HW1.out hm1.out hm2.out (by simp) ?_; intro v' w1 hown' hgrow hat; have n1 : Nums w0.heap.size v' l w1 := (by unfold Nums; simpa using hown'); have k1 : Same w0 w1 := ((Kept.refl (fun _ => False) w0).alloc _).grown hgrow (fun k hk hlt => by simp [Value.ownBlock] at hk; omega); obtain ⟨a', cp', hv'⟩ := own_form n1; rw [hv'] at n1; rw [hv']; have N1 := hidden (Nums.cells n1); have K1 := hidden (Kept.trans k0 k1); clear n1 k1 k0 hown' hgrow hat hv')
        | (go_at_call 33; refine (G1.out _ _ N1.out h4).mono ?_; rintro e w2 ⟨rfl, k2⟩)
        | (go_at_call 34; refine (G2.out _ _ (Cells.same (Cells.same HCI.out K1.out) k2) h4).mono ?_; rintro e w3 ⟨rfl, k3⟩; have t1 : True := trivial)
        | (go_at_call 35; have _t := t1; refine (G5.out _ _ _ (Cells.same (Cells.same N1.out k2) k3) (Cells.same (Cells.same (Cells.same HCI.out K1.out) k2) k3)).mono ?_; rintro e w4 ⟨rfl, nq, rfl⟩; have K4 := hidden (Kept.drewN (Kept.trans (Kept.trans K1.out k2) k3) nq); clear t1 k2 k3)
        | (go_at_call 36; refine (HSP.out _ h4).mono ?_; rintro e w5 ⟨v5, rfl, n5, k5⟩; have N5 := hidden (Nums.cells n5); have K5 := hidden (Kept.trans K4.out k5); clear n5 k5)
        | (go_at_call 35; refine (G5.out _ _ _ N5.out (Cells.same HCI.out K5.out)).mono ?_; rintro e w6 ⟨rfl, nr, rfl⟩))
      go_returns
      exact ⟨rfl, Kept.drewN K5.out nr⟩
    · have h4 : 4 < l.length := by omega
      go_enter Tryd.func8, Tryd.ntmps8
      go_wp2_with (first
        | (go_at_call 15; refine (awake_any _ HT.out).mono ?_; rintro e w0 ⟨rfl, k0⟩)
        | (at_builtin; refine wpList_append_own _ (by rfl) (.tmp 17) (.tmp 18) 62 (by rfl) w0.heap.size 34 i0 (.int .u64 0) 1 8 Tryd.underlying62 hi hz0 hz1 hz2 rfl (by decide) _ 0 [] (by rfl) (HO.out w0) ad l.length cap (l.map W64) (by rfl) (by simp) (HN.out w0 k0) HW1.out hm1.out hm2.out (by simp) ?_; intro v' w1 hown' hgrow hat; have n1 : Nums w0.heap.size v' l w1 := (by unfold Nums; simpa using hown'); have k1 : Same w0 w1 := ((Kept.refl (fun _ => False) w0).alloc _).grown hgrow (fun k hk hlt => by simp [Value.ownBlock] at hk; omega); obtain ⟨a', cp', hv'⟩ := own_form n1; rw [hv'] at n1; rw [hv']; have N1 := hidden (Nums.cells n1); have K1 := hidden (Kept.trans k0 k1); clear n1 k1 k0 hown' hgrow hat hv')
        | (go_at_call 33; refine (G3.out _ _ N1.out h4).mono ?_; rintro e w2 ⟨rfl, k2⟩)
        | (go_at_call 34; refine (G4.out _ _ (Cells.same (Cells.same HCI.out K1.out) k2) h4).mono ?_; rintro e w3 ⟨rfl, k3⟩)
        | (go_at_call 35; refine (G5.out _ _ _ (Cells.same (Cells.same N1.out k2) k3) (Cells.same (Cells.same (Cells.same HCI.out K1.out) k2) k3)).mono ?_; rintro e w4 ⟨rfl, nq, rfl⟩; have K4 := hidden (Kept.drewN (Kept.trans (Kept.trans K1.out k2) k3) nq)))
      go_returns
      exact ⟨rfl, K4.out⟩
theorem cells64 : Tryd.prog.cellsOf 34 = 1 := by kernel_rfl
theorem bytes64 : Tryd.prog.bytesOf 34 = 8 := by kernel_rfl
set_option maxRecDepth 100000 in
open Go.ChangeShapes Go.WideShapes Go.ChangeAt in
/-- A slice of numbers among the arguments, opened. -/
theorem nums_open {H : Type} {enc : TypeId × Value → H} {W : World} {base : Nat} {v : Value} {d : DataW H} {p : List MemPlace} (hv : Value.okWide Tryd.prog W .any base 62 v) (h : DataW.Trod enc Tryd.prog W 0 (fun _ => true) true 62 v d p) :
    ∃ l : List Nat, InS W v l ∧ (∀ x ∈ l, x < 18446744073709551616) ∧
      ∀ (ts : List TypeId) (ds : List (DataW H)) (j : Nat), (DataW.weightsEach Tryd.prog ts ds).all (· ≤ reachBytes) = true → ts[j]? = some 62 → ds[j]? = some d → l.length * 8 ≤ 140737488351232 := by
  obtain ⟨a1, len1, cap1, rfl⟩ := okWide_slice Tryd.underlying62 hv
  obtain ⟨fuel, hf⟩ := h
  rcases open_ints Tryd.underlying62 Tryd.underlying34 cells64 hf with ⟨hcs, hx⟩ | ⟨a, len, cap, zs, hcs, _, hl, hm, hz, hx, hcell, hwz⟩
  · simp [Value.cells] at hcs
    obtain ⟨rfl, rfl, rfl⟩ := hcs
    exact ⟨[], Or.inl ⟨rfl, rfl⟩, fun x hx => by simp at hx, fun _ _ _ _ _ _ => by simp⟩
  · simp [Value.cells] at hcs
    obtain ⟨rfl, rfl, rfl⟩ := hcs
    simp only [if_pos] at hz
    have hb : ∀ z ∈ zs, 0 ≤ z ∧ z ≤ 18446744073709551615 := fun z hz' => by simpa [Lit.wf, IntKind.min, IntKind.max, IntKind.signed, IntKind.bits] using hwz z hz'
    have hlen : ((zs.take len1).map Int.toNat).length = len1 := by rw [List.length_map, List.length_take]; omega
    refine ⟨(zs.take len1).map Int.toNat, Or.inr ⟨a, cap1, by rw [hlen], fun j hj => ?_⟩, ?_, ?_⟩
    · rw [hlen] at hj
      have hjz : j < zs.length := by omega
      rw [hcell j hjz]
      have h1 : zs.getD j 0 = zs[j] := by simp [hjz]
      have h2 : ((zs.take len1).map Int.toNat).getD j 0 = zs[j].toNat := by simp [hj, hjz]
      have h3 := (hb zs[j] (List.getElem_mem hjz)).1
      rw [h1, h2]
      unfold W64
      rw [Int.toNat_of_nonneg h3]
    · intro x hx'
      obtain ⟨z, hz', rfl⟩ := List.mem_map.1 hx'
      have := hb z (List.mem_of_mem_take hz')
      omega
    · intro ts ds j hall hts hds
      have hd : d = .slice (lits .u64 (zs.take len1)) (lits .u64 (zs.drop len1)) := congrArg Prod.fst hx
      rw [hd] at hds
      have := sized_slice hall (j := j) hts hds Tryd.underlying62
      rw [bytes64] at this
      simp only [lits, List.length_map, List.length_take, List.length_drop, reachBytes] at this
      rw [hlen]
      omega
end Go.Proofs.YtneccmjilcjglabDoor
namespace Go.Proofs.YtneccmjilcjglabDoor.CodecKeys
open Go.ChangeShapes Go.WideShapes Go.ChangeAt Go.RowKit Go.Joins Go.ChangeMaps
set_option maxRecDepth 100000 in
theorem contract (H : Type) (enc : TypeId × Value → H) (W : World) (base : Nat) (args : Array Value) (ds gs : List (DataW H)) (before : List MemPlace)
    (hval : ∀ (j : Nat) t v, Tryd.f8.params[j]? = some t → args[j]? = some v → Value.okWide Tryd.prog W .any base t v)
    (hW : DataW.Whole enc Tryd.prog Tryd.f8.params.toList Rows.codecKeysSpec.vars false W args.toList ds gs before)
    (hsz : (DataW.weightsEach Tryd.prog (Tryd.f8.params.toList ++ (OpenSpec.ofChange Rows.codecKeysSpec).bare.plain.varTypes Tryd.prog) (ds ++ gs)).all (· ≤ reachBytes) = true)
    (hL : laidMetH Tryd.prog Rows.codecKeysRow.laid W) :
    Calls Tryd.prog 8 args W fun e W' => ∃ v, e = .returned v ∧ Rows.codecKeysSpec.post enc Tryd.prog Tryd.f8 false true false false W args v W' := by
  have hW' := hW
  obtain ⟨p, q, hA0, hV, rfl, hfz, hnd⟩ := hW
  have hA : DataW.TrodAll enc Tryd.prog W 0 (fun _ => true) true Tryd.f8.params.toList args.toList ds p := hA0
  rw [Tryd.params8] at hA hval hsz
  obtain ⟨v0, vs0, d0, ds0, p0, q0, hargs, rfl, rfl, h0, r0⟩ := trodAll_cons hA
  obtain ⟨v1, vs1, d1, ds1, p1, q1, rfl, rfl, rfl, h1, r1⟩ := trodAll_cons r0
  obtain ⟨v2, vs2, d2, ds2, p2, q2, rfl, rfl, rfl, h2, r2⟩ := trodAll_cons r1
  obtain ⟨rfl, rfl, rfl⟩ := trodAll_nil r2
  obtain rfl : args = #[v0, v1, v2] := by cases args; simp_all
  obtain ⟨rfl, rfl⟩ := trodVars_none hV
  obtain ⟨p, rfl, rfl, rfl, w_p⟩ := open_int Tryd.underlying5 (hval 0 5 v0 rfl rfl) h0
  have b_p : 0 ≤ p ∧ p ≤ 255 := by simpa [Lit.wf, IntKind.min, IntKind.max, IntKind.signed, IntKind.bits] using w_p
  obtain ⟨p, rfl⟩ := Int.eq_ofNat_of_zero_le b_p.1
  obtain ⟨l_v, in_v, lt_v, sz_v⟩ := nums_open (hval 1 62 v1 rfl rfl) h1
  obtain ⟨name, rfl, rfl, rfl, _⟩ := open_string Tryd.underlying9 (hval 2 9 v2 rfl rfl) h2
  have l_name : name.size ≤ 140737488351232 := by
    have h2 := sized_string hsz (j := 2) (t := 9) (bytes := name.data.toList) rfl rfl
    rw [size_list] at h2
    unfold reachBytes at h2
    omega
  refine (keys_walk p v1 l_v name W (show p < 256 by have := b_p.2; omega) in_v lt_v (sz_v _ _ 1 hsz rfl rfl) l_name (tab_laid hL)).mono fun e W' ⟨he, hg⟩ => ?_
  subst he
  exact ⟨_, rfl, law_post laidOut (by rw [Tryd.params8]; decide +kernel) rfl hW' rfl Tryd.underlying4 ⟨rfl, rfl, rfl⟩ (hg.below (Nat.le_refl _) fun _ h => h.elim)⟩
set_option maxRecDepth 100000 in
theorem lifted (os : Os) (started : os.Started) (H : Type) (enc : TypeId × Value → H) (F : Stop.Interp) :
    ReturnsInHanded {} Tryd.checked os 8 .any ((OpenSpec.ofChange Rows.codecKeysSpec).preRow enc Tryd.prog Tryd.f8 Rows.codecKeysRow.domain false Rows.codecKeysRow.laid) (((OpenSpec.ofChange Rows.codecKeysSpec).at F).post enc Tryd.prog Tryd.f8 false true false false) := by
  refine returnsInHanded_of_row (C := Tryd.checked) (s := OpenSpec.ofChange Rows.codecKeysSpec) own started (by kernel_rfl) Tryd.func8
    (witness_row_at (enc := enc) (C := Tryd.checked) false ({ World.holding Tryd.prog os ⟨#[], #[], []⟩ with heap := (World.holding Tryd.prog os ⟨#[], #[], []⟩).heap.modify tabBlock fun | .cells _ t frozen => .cells (tabInts.map (Value.int .u32)).toArray t frozen | o => o }) #[.int .u8 0, .slice none 0 0, .string ⟨#[]⟩] rfl (by kernel_rfl) (by kernel_rfl) (by kernel_rfl)
      (OpenSpec.preRow_of_cond (x := ([.lit (.int .u8 0), .nil, .lit (.string [])], [], [])) 8 (by kernel_rfl) (by kernel_rfl) (fun k hk => by cases hk) (by kernel_rfl) (laidMet_of_run' 8 (by kernel_rfl) (by kernel_rfl)))) ?_
  intro W base args ds gs before hval hW _ _ hsz hL _ _
  exact contract H enc W base args ds gs before hval hW hsz hL
theorem said : Rows.CodecKeysSaid :=
  OpenClaim.holds_of_cond 8 Tryd.f8 rfl rfl rfl rfl rfl rfl rfl ⟨rfl, rfl, rfl, rfl, rfl⟩ rfl rfl rfl rfl rfl (by kernel_rfl) Tryd.func8 (by kernel_rfl)
    (of_decide_eq_true (by kernel_rfl)) (by unfold Func.isWrapper; first | (rw [if_pos (by decide +kernel)]; kernel_rfl) | (rw [if_neg (by decide +kernel)]; exact ⟨rfl, rfl⟩))
    (fun os started H enc _ F => by rw [OpenClaim.pre_eq_preRow]; exact lifted os started H enc F)
theorem plain (f : FuncId) (fn : Func) (hf : Tryd.pinned.checked.prog.funcNamed Rows.codecKeysRow.func = some f) (hfn : Tryd.pinned.checked.prog.funcs[f]? = some fn) :
    false = Tryd.pinned.checked.prog.looks [] ∧ ∀ (j : Nat) t, fn.params[j]? = some t → Tryd.pinned.checked.prog.wantsStandIn t = false := by
  obtain rfl : f = 8 := Option.some.inj ((show Tryd.prog.funcNamed Rows.codecKeysRow.func = some 8 by kernel_rfl).symm.trans hf) |>.symm
  obtain rfl : fn = Tryd.f8 := (Option.some.inj (Tryd.func8.symm.trans hfn)).symm
  refine ⟨by kernel_rfl, fun j t ht => ?_⟩
  rw [Tryd.params8] at ht
  have hm : t ∈ [5, 62, 9] := by simpa using Array.mem_of_getElem? ht
  have hall : [5, 62, 9].all (fun t => !Tryd.prog.wantsStandIn t) = true := by kernel_rfl
  have h1 := List.all_eq_true.1 hall t hm
  have h2 : Tryd.prog.wantsStandIn t = false := by simpa using h1
  exact h2
theorem card : Rows.CodecKeysCardSaid :=
  Claim7.holds_tied_plain_at .later [] _ _ _ _ said (fun _ h => by cases h) (by kernel_rfl) (fun _ h => by cases h) codecKeys_row_tie rfl ⟨rfl, rfl⟩ (by kernel_rfl) rfl plain (by kernel_rfl)
end Go.Proofs.YtneccmjilcjglabDoor.CodecKeys
namespace Go.Proofs.YtneccmjilcjglabDoor
theorem codecKeys_card : Rows.CodecKeysCardSaid := CodecKeys.card
end Go.Proofs.YtneccmjilcjglabDoor
