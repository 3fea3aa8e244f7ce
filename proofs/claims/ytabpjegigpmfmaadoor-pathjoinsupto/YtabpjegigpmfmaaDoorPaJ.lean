/- path: Join, Slash, Name of both sides. -/
import Derived.Test.YtabpjegigpmfmaaDoorPa2
namespace Go.Proofs.YtabpjegigpmfmaaDoor
open Go.RowKit
set_option linter.unusedVariables false
set_option linter.unusedSimpArgs false
theorem BA_size (l : List UInt8) : (BA l).size = l.length := by rw [← size_list, BA_data]
theorem str_add (a b : List UInt8) (W : World) (h : a.length + b.length ≤ 9223372036854775807) : (Op.stringOp .add (BA a) (BA b)).run Tryd.prog W = .ok (.string (BA (a ++ b))) W := by
  rw [run_string_add_sum W _ _ (by rw [BA_size, BA_size]; exact h)]
  congr 2
theorem join_is (l : List (List UInt8)) : 47 :: Lib.join l [47] = joinP l := by
  cases l with
  | nil => rfl
  | cons x r =>
    rw [Lib.join_cons]
    have : Lib.joinTail [47] r = joinL r := rfl
    rw [this]
    exact (joinL_cons x r).symm
theorem join_len (l : List (List UInt8)) : (Lib.join l [47]).length ≤ wsum l := by
  have h := congrArg List.length (join_is l)
  cases l with
  | nil => simp [Lib.join_nil]
  | cons x r =>
    have e : joinP (x :: r) = joinL (x :: r) := rfl
    rw [e, joinL_len] at h
    simp at h
    omega
theorem map_data (l : List (List UInt8)) : (l.map BA).map (·.data.toList) = l := by
  rw [List.map_map]
  conv => rhs; rw [← List.map_id l]
  exact List.map_congr_left fun x _ => BA_data x
theorem len_wsum (l : List (List UInt8)) : l.length ≤ wsum l := by
  induction l with
  | nil => simp
  | cons x l ih => simp [wsum] at *; omega
theorem extra : Builder.Extra Tryd.prog joinLay_ren := { sizeBuilder := by kernel_rfl, liesBuilder := by kernel_rfl, t5 := Tryd.underlying5, a5 := Tryd.isAgg5, z5 := Tryd.sizeOf5, v5 := Tryd.zeroValue5, infoByte := by kernel_rfl, cellsByte := by kernel_rfl, sizeByte := by kernel_rfl, neB5 := by decide }
set_option maxHeartbeats 1000000 in
set_option maxRecDepth 100000 in
theorem sjoin_any (l : List (List UInt8)) (a : Option Addr) (n c : Nat) (w : World) (r : Row w (.slice a n c) (TS (l.map BA))) (hl : wsum l ≤ 140737488355328) :
    Calls Tryd.prog 34 #[.slice a n c, .string ⟨#[47]⟩] w fun e w' => e = .returned (.string (BA (Lib.join l [47]))) ∧ Same w w' := by
  have e1 := r.tl
  have e2 := r.len.2
  have e3 := len_wsum l
  rw [List.length_map] at e1
  by_cases h0 : n = 0
  · subst h0
    obtain rfl := List.length_eq_zero_iff.1 e1
    exact (Any.strings_Join_none joinLay extra a c ⟨#[47]⟩ w).mono fun e w' ⟨h1, h2⟩ => ⟨h1, h2 ▸ Kept.refl _ _⟩
  · obtain ⟨b1, o1, rfl, hc1⟩ := r.at (by rw [TS_len, List.length_map]; omega)
    have hcl : ∀ (j : Nat) x, (l.map BA)[j]? = some x → w.cell? ⟨b1, o1 + j, none⟩ = some (.string x) := fun j x hj => hc1 j _ (by unfold TS; rw [List.getElem?_map, hj]; rfl)
    have hbk : b1 < w.heap.size := by
      have h := hcl 0 _ (List.getElem?_eq_getElem (by rw [List.length_map]; omega))
      exact World.block_lt_of_cell? w _ h
    have hj := join_len l
    have hmd := map_data l
    have := Any.strings_Join joinLay extra b1 o1 c (l.map BA) ⟨#[47]⟩ w hcl hbk (by rw [List.length_map]; omega) (by rw [List.length_map]; omega) (by rw [hmd]; exact Nat.le_trans hj hl)
    rw [hmd, List.length_map, e1] at this
    exact this.mono fun e w' ⟨h1, h2⟩ => ⟨h1, same_of_below h2⟩
set_option maxHeartbeats 1000000 in
set_option maxRecDepth 100000 in
theorem joinA_any (l : List (List UInt8)) (a : Option Addr) (n c : Nat) (w : World) (r : Row w (.slice a n c) (TS (l.map BA))) (hl : wsum l ≤ 140737488355328) :
    Calls Tryd.prog 21 #[.slice a n c] w fun e w' => e = .returned (.string (BA (joinP l))) ∧ Same w w' := by
  have HJ := hidden (sjoin_any l a n c w r hl)
  have hj := join_len l
  have hadd : ∀ W : World, (Op.stringOp .add ⟨#[47]⟩ (BA (Lib.join l [47]))).run Tryd.prog W = .ok (.string (BA (joinP l))) W := fun W => by
    have := str_add [47] (Lib.join l [47]) W (by simp; omega)
    rw [List.singleton_append, join_is] at this
    exact this
  generalize BA (Lib.join l [47]) = y at HJ hadd
  generalize BA (joinP l) = z at hadd ⊢
  clear r hj
  go_enter Tryd.func21, Tryd.ntmps21
  go_wp2_with (go_at_call 34; refine (HJ.out).mono ?_; rintro e w1 ⟨rfl, k1⟩; have HK := hidden k1; clear k1)
  go_returns
  exact ⟨rfl, HK.out⟩
set_option maxHeartbeats 1000000 in
set_option maxRecDepth 100000 in
theorem joinD_any (l : List (List UInt8)) (a : Option Addr) (n c : Nat) (w : World) (r : Row w (.slice a n c) (TS (l.map BA))) (hl : wsum l ≤ 140737488355328) :
    Calls Tryd.prog 22 #[.slice a n c] w fun e w' => e = .returned (.string (BA (joinP l))) ∧ w = w' := by
  have e1 := r.tl
  have e3 := len_wsum l
  rw [List.length_map] at e1
  by_cases h0 : n = 0
  · subst h0
    obtain rfl := List.length_eq_zero_iff.1 e1
    clear r
    go_enter Tryd.func22, Tryd.ntmps22
    go_wp2
    go_returns
    exact ⟨rfl, rfl⟩
  have q0 : ¬ (n : Int) = 0 := by omega
  have hJ : joinP l = joinL l := by cases l; (simp at e1; omega); rfl
  rw [hJ]
  have HR := hidden r
  have HE1 := hidden e1
  have HL := hidden hl
  have hnb : n ≤ 140737488355328 := by omega
  clear r e1 e3 hJ hl
  go_enter Tryd.func22, Tryd.ntmps22
  go_wp2
  go_loop [3, 11] (fun s i => ∃ k : Nat, k ≤ n ∧ i = .int .i64 k ∧ s = .string (BA (joinL (l.take k)))) (fun _ i => n - (intOf i).toNat)
  case atStart => exact ⟨0, Nat.zero_le _, rfl, rfl⟩
  case round =>
    obtain ⟨k, hk, rfl, rfl⟩ := hrel
    by_cases h1 : k < n
    · have hkl : k < l.length := by rw [HE1.out]; exact h1
      obtain ⟨g, off, rfl, hc⟩ := HR.out.text (j := k) (by rw [List.length_map]; exact hkl)
      rw [List.getElem_map] at hc
      have HX := hidden (show l.take (k + 1) = l.take k ++ [l[k]] from List.take_succ_eq_append_getElem hkl)
      obtain ⟨x, hx⟩ : ∃ x, l[k] = x := ⟨_, rfl⟩
      rw [hx] at hc HX
      have hb : wsum (l.take k) + (x.length + 1) ≤ wsum l := by
        have h5 : wsum l = wsum (l.take k) + wsum (l.drop k) := by rw [← wsum_app, List.take_append_drop]
        rw [h5, List.drop_eq_getElem_cons hkl, hx]
        simp [wsum]
      have hlb := HL.out
      have a1 : ∀ W : World, (Op.stringOp .add ⟨#[47]⟩ (BA x)).run Tryd.prog W = .ok (.string (BA (47 :: x))) W := fun W => str_add [47] x W (by simp; omega)
      have a2 : ∀ W : World, (Op.stringOp .add (BA (joinL (l.take k))) (BA (47 :: x))).run Tryd.prog W = .ok (.string (BA (joinL (l.take (k + 1))))) W := fun W => by
        rw [HX.out, joinL_snoc]
        exact str_add _ _ W (by rw [joinL_len]; simp; omega)
      generalize BA (joinL (l.take k)) = y at a2
      obtain ⟨z, hz⟩ : ∃ z, z = BA (joinL (l.take (k + 1))) := ⟨_, rfl⟩
      rw [← hz] at a2
      have HZ := hidden hz
      generalize BA (47 :: x) = y2 at a1 a2
      generalize BA x = y3 at a1 hc
      have q2 : (k : Int) < (n : Int) := by omega
      have q3 : (0 : Int) ≤ (k : Int) := Int.natCast_nonneg _
      clear hx hb hlb hz
      go_wp2
      refine ⟨⟨k + 1, by omega, by go_num, by rw [← HZ.out]⟩, by simp [intOf]; omega⟩
    · obtain rfl : k = n := by omega
      have q2 : ¬ (k : Int) < (k : Int) := by omega
      go_wp2
      go_returns
      refine ⟨?_, rfl⟩
      rw [List.take_of_length_le (by rw [HE1.out]; exact Nat.le_refl _)]
      rfl
/-- Ends with a slash, and has a part. -/
def slashP (P : List UInt8) : Bool := [47].isSuffixOf P && !(pc [] P).isEmpty
theorem dropWhile_head {p : UInt8 → Bool} : ∀ l : List UInt8, l.dropWhile p = [] ∨ ∃ a r, l.dropWhile p = a :: r ∧ p a = false
  | [] => .inl rfl
  | a :: r => by
    cases h : p a
    · exact .inr ⟨a, r, by rw [List.dropWhile_cons, h]; rfl, h⟩
    · rw [List.dropWhile_cons, h]
      exact dropWhile_head r
theorem dropWhile_all {p : UInt8 → Bool} : ∀ l : List UInt8, l.dropWhile p = [] ↔ ∀ b ∈ l, p b = true
  | [] => by simp
  | a :: r => by
    have ih := dropWhile_all (p := p) r
    rw [List.dropWhile_cons]
    cases h : p a
    · simp [h]
    · simp [h, ih]
theorem trim_none (P : List UInt8) : Lib.trimB P 47 = [] ↔ pc [] P = [] := by
  rw [pc_none]
  unfold Lib.trimB Lib.trimLeftB Lib.trimRightB
  rw [dropWhile_all]
  constructor
  · intro h
    refine ⟨rfl, ?_⟩
    rcases dropWhile_head (p := (· == 47)) P.reverse with e | ⟨a, r, e, ha⟩
    · intro b hb
      have := (dropWhile_all P.reverse).1 e b (by simp [hb])
      simpa using this
    · rw [e] at h
      have := h a (by simp)
      rw [ha] at this
      cases this
  · rintro ⟨_, h⟩ b hb
    have : b ∈ P.reverse := (List.dropWhile_sublist _).subset (by simpa using hb)
    simpa using h b (by simpa using this)
theorem trim_empty (P : List UInt8) (W : World) : ((BA (Lib.trimB P 47)).toList == []) = (pc [] P).isEmpty := by
  rw [Lib.toList_data, BA_data]
  have := trim_none P
  cases h : pc [] P with
  | nil => rw [this.2 h]; rfl
  | cons x l =>
    have : Lib.trimB P 47 ≠ [] := fun e => by rw [this.1 e] at h; cases h
    simpa using this
set_option maxHeartbeats 1000000 in
set_option maxRecDepth 100000 in
theorem slash_any (p : ByteArray) (hp : p.size ≤ 140737488355328) (w : World) : Calls Tryd.prog 16 #[.string p] w fun e w' => e = .returned (.bool (slashP p.data.toList)) ∧ Same w w' := by
  have HS := hidden (fun W => Any.strings_HasSuffix sufLay p ⟨#[47]⟩ W (by omega))
  have HT := hidden (fun W => Any.strings_Trim_one trimLay p 47 (by decide) W (by omega))
  have ht := trim_empty p.data.toList w
  obtain ⟨P, hP⟩ : ∃ P, P = p.data.toList := ⟨_, rfl⟩
  rw [← hP] at HS HT ht ⊢
  have HT2 : Hid (∀ W, Calls Tryd.prog 32 #[.string p, .string ⟨#[47]⟩] W fun e w' => e = .returned (.string (BA (Lib.trimB P 47))) ∧ Same W w') := hidden (fun W => (HT.out W).mono fun e w' ⟨h1, h2⟩ => ⟨h1, by rcases h2 with h | h; (rw [h]; exact Kept.refl _ _); (rw [h]; exact (Kept.refl _ _).drew)⟩)
  have HS2 : Hid (∀ W, Calls Tryd.prog 31 #[.string p, .string ⟨#[47]⟩] W fun e w' => e = .returned (.bool ([47].isSuffixOf P)) ∧ W = w') := hidden (fun W => (HS.out W).mono fun e w' ⟨h1, h2⟩ => ⟨h1, h2.symm⟩)
  clear HS HT hP
  unfold slashP
  generalize [47].isSuffixOf P = t1 at HS2
  generalize BA (Lib.trimB P 47) = y at HT2 ht
  generalize (pc [] P).isEmpty = t2 at ht
  cases t1
  · go_enter Tryd.func16, Tryd.ntmps16
    go_wp2_with (go_at_call 31; refine (HS2.out _).mono ?_; rintro e w1 ⟨rfl, rfl⟩)
    go_returns
    exact ⟨rfl, Kept.refl _ _⟩
  · cases t2
    · have h2 : ¬ y.toList = [] := by simpa using ht
      have h3 : y.toList.isEmpty = false := by simpa using ht
      go_enter Tryd.func16, Tryd.ntmps16
      go_wp2_with (first
        | (go_at_call 31; refine (HS2.out _).mono ?_; rintro e w1 ⟨rfl, rfl⟩)
        | (go_at_call 32; refine (HT2.out _).mono ?_; rintro e w1 ⟨rfl, k1⟩; have HK := hidden k1; clear k1))
      go_returns
      exact ⟨rfl, HK.out⟩
    · have h2 : y.toList = [] := by simpa using ht
      have h3 : y.toList.isEmpty = true := by simpa using ht
      go_enter Tryd.func16, Tryd.ntmps16
      go_wp2_with (first
        | (go_at_call 31; refine (HS2.out _).mono ?_; rintro e w1 ⟨rfl, rfl⟩)
        | (go_at_call 32; refine (HT2.out _).mono ?_; rintro e w1 ⟨rfl, k1⟩; have HK := hidden k1; clear k1))
      go_returns
      exact ⟨rfl, HK.out⟩
theorem suffix_last (P : List UInt8) (k : Nat) (hk : P.length = k + 1) (b : UInt8) (hb : P[k]? = some b) : [47].isSuffixOf P = decide (b = 47) := by
  rcases List.eq_nil_or_concat P with rfl | ⟨l, c, rfl⟩
  · simp at hk
  · rw [List.concat_eq_append] at *
    have hl : l.length = k := by simpa using hk
    subst hl
    simp at hb
    subst hb
    simp only [List.isSuffixOf, List.reverse_append, List.reverse_cons, List.reverse_nil, List.nil_append, List.singleton_append, List.isPrefixOf]
    simp
    exact decide_eq_decide.2 ⟨fun h => h.symm, fun h => h.symm⟩
set_option maxHeartbeats 1000000 in
set_option maxRecDepth 100000 in
theorem slashD_any (p : ByteArray) (hp : p.size ≤ 1099511627776) (w : World) : Calls Tryd.prog 17 #[.string p] w fun e w' => e = .returned (.bool (slashP p.data.toList)) ∧ Same w w' := by
  have hsl : p.data.toList.length = p.size := size_list p
  have HAt := hidden (str_at p)
  have HPc := hidden (piecesD_any p hp)
  obtain ⟨P, hP⟩ : ∃ P, P = p.data.toList := ⟨_, rfl⟩
  rw [← hP] at hsl HAt HPc ⊢
  obtain ⟨m, hm⟩ : ∃ m, m = p.size := ⟨_, rfl⟩
  rw [← hm] at hsl hp
  have hms : (p.size : Int) = (m : Int) := by omega
  clear hP hm
  unfold slashP
  by_cases h0 : m = 0
  · have q0 : ¬ (0 : Int) < (m : Int) := by omega
    obtain rfl := List.length_eq_zero_iff.1 (hsl.trans h0)
    clear hsl
    go_enter Tryd.func17, Tryd.ntmps17
    go_wp2
    go_returns
    exact ⟨rfl, Kept.refl _ _⟩
  have q0 : (0 : Int) < (m : Int) := by omega
  obtain ⟨k, rfl⟩ : ∃ k, m = k + 1 := ⟨m - 1, by omega⟩
  obtain ⟨b, hb⟩ : ∃ b, P[k]? = some b := ⟨_, List.getElem?_eq_getElem (by omega)⟩
  have x1 := fun W => HAt.out W k b hb
  have q1 : ((k + 1 : Nat) : Int) - 1 = (k : Int) := by omega
  have q1' : (k : Int) + 1 - 1 = (k : Int) := by omega
  have q1w : IntKind.i64.wrap (k : Int) = (k : Int) := by rw [IntKind.wrap_i64]; omega
  rw [suffix_last P k hsl b hb]
  have hpl : (pc [] P).length ≤ k + 2 := by have := pc_len P []; rw [hsl] at this; simpa using this
  clear hb hsl
  by_cases h1 : b = 47
  · subst h1
    rw [show ((47 : UInt8).toNat : Int) = 47 from rfl] at x1
    obtain ⟨L, hL⟩ : ∃ L, L = pc [] P := ⟨_, rfl⟩
    rw [← hL] at hpl HPc ⊢
    clear hL
    go_enter Tryd.func17, Tryd.ntmps17
    go_wp2_with (go_at_call 30; refine (HPc.out _).mono ?_; rintro e w1 ⟨u, rfl, ho, k1⟩; have HK := hidden k1; obtain ⟨va, vc, rfl⟩ := ho.form; rw [List.length_map]; clear k1 ho)
    go_returns
    refine ⟨?_, HK.out⟩
    show Ending.returned (.bool (decide (0 < L.length))) = _
    cases L <;> simp
  · have q2 : ¬ (b.toNat : Int) = 47 := fun e => h1 (UInt8.toNat_inj.1 (by simpa using Int.ofNat.inj e))
    rw [decide_eq_false h1]
    go_enter Tryd.func17, Tryd.ntmps17
    go_wp2
    go_returns
    exact ⟨rfl, Kept.refl _ _⟩
/-- Why a name may not be given. -/
def nameE (P : List UInt8) : Int := if P = [] ∨ P = [46] ∨ P = [46, 46] ∨ 47 ∈ P ∨ 0 ∈ P then 236 else if 32 < P.length then 241 else 0
theorem str_ne {p : ByteArray} {l : List UInt8} (h : p.data.toList ≠ l) : p.toList ≠ l ∧ (p.toList == l) = false := by
  have e : p.toList = p.data.toList := Lib.toList_data p
  rw [e]
  exact ⟨h, beq_eq_false_iff_ne.2 h⟩
theorem eq_BA {p : ByteArray} {l : List UInt8} (h : p.data.toList = l) : p = BA l := by rw [← h, BA_of]
set_option maxHeartbeats 1000000 in
set_option maxRecDepth 100000 in
theorem name_any (p : ByteArray) (hp : p.size ≤ 140737488355328) (w : World) : Calls Tryd.prog 18 #[.string p] w fun e w' => e = .returned (.int .i64 (nameE p.data.toList)) ∧ w = w' := by
  have hsl : p.data.toList.length = p.size := size_list p
  have HAt := hidden (str_at p)
  have HNe := hidden (fun l (h : p.data.toList ≠ l) => str_ne h)
  have HEq := hidden (fun l (h : p.data.toList = l) => eq_BA h)
  obtain ⟨P, hP⟩ : ∃ P, P = p.data.toList := ⟨_, rfl⟩
  rw [← hP] at hsl HAt HNe HEq ⊢
  obtain ⟨m, hm⟩ : ∃ m, m = p.size := ⟨_, rfl⟩
  rw [← hm] at hsl hp
  have HLl := hidden hsl
  have hms : (p.size : Int) = (m : Int) := by omega
  clear hP hm hsl
  by_cases h : P = []
  · obtain rfl : p = ⟨#[]⟩ := HEq.out _ h
    have hE0 := hidden (show nameE P = 236 by unfold nameE; rw [if_pos (.inl h)])
    have hm0 : m = 0 := by rw [← HLl.out, h]; rfl
    clear h HEq HNe
    go_enter Tryd.func18, Tryd.ntmps18
    go_wp2
    go_step3
    go_wp2
    go_step3
    go_wp2
    go_loop [3, 17] (fun o i => ∃ k : Nat, k ≤ m ∧ i = .int .i64 k ∧ o = .bool true ∧ ∀ b ∈ P.take k, b ≠ 47 ∧ b ≠ 0) (fun _ i => m - (intOf i).toNat)
    case atStart => exact ⟨0, Nat.zero_le _, rfl, rfl, by simp⟩
    case round =>
      obtain ⟨k, hk, rfl, rfl, hn⟩ := hrel
      have HN := hidden hn
      clear hn
      by_cases g1 : k < m
      · exfalso
        omega
      · obtain rfl : k = m := by omega
        have q1 : ¬ (k : Int) < (k : Int) := by omega
        have hE : nameE P = 236 := hE0.out
        go_wp2
        try rw [Exit.noGoto_ret]
        go_returns
        exact ⟨by rw [hE]; rfl, rfl⟩
  have n0 := hidden h
  obtain ⟨y0, z0⟩ := HNe.out _ h
  clear h
  by_cases h : P = [46]
  · obtain rfl : p = ⟨#[46]⟩ := HEq.out _ h
    have hE0 := hidden (show nameE P = 236 by unfold nameE; rw [if_pos (.inr (.inl h))])
    have hm1 : m = 1 := by rw [← HLl.out, h]; rfl
    clear h HEq HNe
    go_enter Tryd.func18, Tryd.ntmps18
    go_wp2
    go_step3
    go_wp2
    go_step3
    go_wp2
    go_loop [3, 17] (fun o i => ∃ k : Nat, k ≤ m ∧ i = .int .i64 k ∧ o = .bool true ∧ ∀ b ∈ P.take k, b ≠ 47 ∧ b ≠ 0) (fun _ i => m - (intOf i).toNat)
    case atStart => exact ⟨0, Nat.zero_le _, rfl, rfl, by simp⟩
    case round =>
      obtain ⟨k, hk, rfl, rfl, hn⟩ := hrel
      have HN := hidden hn
      clear hn
      by_cases g1 : k < m
      · obtain ⟨b, hb⟩ : ∃ b, P[k]? = some b := ⟨_, List.getElem?_eq_getElem (by rw [HLl.out]; exact g1)⟩
        have x1 := fun W => HAt.out W k b hb
        have q1 : (k : Int) < (m : Int) := by omega
        have HB := hidden hb
        clear hb
        by_cases g2 : b = 47
        · subst g2
          have hE : nameE P = 236 := by unfold nameE; rw [if_pos (.inr (.inr (.inr (.inl (List.mem_of_getElem? HB.out)))))]
          rw [show ((47 : UInt8).toNat : Int) = 47 from rfl] at x1
          go_wp2
          try rw [Exit.noGoto_ret]
          go_returns
          exact ⟨by rw [hE]; rfl, rfl⟩
        · have q2 : ¬ (b.toNat : Int) = 47 := fun e => g2 (UInt8.toNat_inj.1 (by simpa using Int.ofNat.inj e))
          by_cases g3 : b = 0
          · subst g3
            have hE : nameE P = 236 := by unfold nameE; rw [if_pos (.inr (.inr (.inr (.inr (List.mem_of_getElem? HB.out)))))]
            rw [show ((0 : UInt8).toNat : Int) = 0 from rfl] at x1
            go_wp2
            try rw [Exit.noGoto_ret]
            go_returns
            exact ⟨by rw [hE]; rfl, rfl⟩
          · have q3 : ¬ (b.toNat : Int) = 0 := fun e => g3 (UInt8.toNat_inj.1 (by simpa using Int.ofNat.inj e))
            go_wp2
            refine ⟨⟨k + 1, by omega, by go_num, rfl, ?_⟩, by simp [intOf]; omega⟩
            have hk2 := (List.getElem?_eq_some_iff.1 HB.out).1
            rw [List.take_succ_eq_append_getElem hk2, (List.getElem?_eq_some_iff.1 HB.out).2]
            intro z hz
            rcases List.mem_append.1 hz with h | h
            · exact HN.out z h
            · simp at h
              subst h
              exact ⟨g2, g3⟩
      · obtain rfl : k = m := by omega
        have q1 : ¬ (k : Int) < (k : Int) := by omega
        have hE : nameE P = 236 := hE0.out
        go_wp2
        try rw [Exit.noGoto_ret]
        go_returns
        exact ⟨by rw [hE]; rfl, rfl⟩
  have n1 := hidden h
  obtain ⟨y1, z1⟩ := HNe.out _ h
  clear h
  by_cases h : P = [46, 46]
  · obtain rfl : p = ⟨#[46, 46]⟩ := HEq.out _ h
    have hE0 := hidden (show nameE P = 236 by unfold nameE; rw [if_pos (.inr (.inr (.inl h)))])
    have hm2 : m = 2 := by rw [← HLl.out, h]; rfl
    clear h HEq HNe
    go_enter Tryd.func18, Tryd.ntmps18
    go_wp2
    go_step3
    go_wp2
    go_step3
    go_wp2
    go_loop [3, 17] (fun o i => ∃ k : Nat, k ≤ m ∧ i = .int .i64 k ∧ o = .bool true ∧ ∀ b ∈ P.take k, b ≠ 47 ∧ b ≠ 0) (fun _ i => m - (intOf i).toNat)
    case atStart => exact ⟨0, Nat.zero_le _, rfl, rfl, by simp⟩
    case round =>
      obtain ⟨k, hk, rfl, rfl, hn⟩ := hrel
      have HN := hidden hn
      clear hn
      by_cases g1 : k < m
      · obtain ⟨b, hb⟩ : ∃ b, P[k]? = some b := ⟨_, List.getElem?_eq_getElem (by rw [HLl.out]; exact g1)⟩
        have x1 := fun W => HAt.out W k b hb
        have q1 : (k : Int) < (m : Int) := by omega
        have HB := hidden hb
        clear hb
        by_cases g2 : b = 47
        · subst g2
          have hE : nameE P = 236 := by unfold nameE; rw [if_pos (.inr (.inr (.inr (.inl (List.mem_of_getElem? HB.out)))))]
          rw [show ((47 : UInt8).toNat : Int) = 47 from rfl] at x1
          go_wp2
          try rw [Exit.noGoto_ret]
          go_returns
          exact ⟨by rw [hE]; rfl, rfl⟩
        · have q2 : ¬ (b.toNat : Int) = 47 := fun e => g2 (UInt8.toNat_inj.1 (by simpa using Int.ofNat.inj e))
          by_cases g3 : b = 0
          · subst g3
            have hE : nameE P = 236 := by unfold nameE; rw [if_pos (.inr (.inr (.inr (.inr (List.mem_of_getElem? HB.out)))))]
            rw [show ((0 : UInt8).toNat : Int) = 0 from rfl] at x1
            go_wp2
            try rw [Exit.noGoto_ret]
            go_returns
            exact ⟨by rw [hE]; rfl, rfl⟩
          · have q3 : ¬ (b.toNat : Int) = 0 := fun e => g3 (UInt8.toNat_inj.1 (by simpa using Int.ofNat.inj e))
            go_wp2
            refine ⟨⟨k + 1, by omega, by go_num, rfl, ?_⟩, by simp [intOf]; omega⟩
            have hk2 := (List.getElem?_eq_some_iff.1 HB.out).1
            rw [List.take_succ_eq_append_getElem hk2, (List.getElem?_eq_some_iff.1 HB.out).2]
            intro z hz
            rcases List.mem_append.1 hz with h | h
            · exact HN.out z h
            · simp at h
              subst h
              exact ⟨g2, g3⟩
      · obtain rfl : k = m := by omega
        have q1 : ¬ (k : Int) < (k : Int) := by omega
        have hE : nameE P = 236 := hE0.out
        go_wp2
        try rw [Exit.noGoto_ret]
        go_returns
        exact ⟨by rw [hE]; rfl, rfl⟩
  have n2 := hidden h
  obtain ⟨y2, z2⟩ := HNe.out _ h
  clear h
  have y3 : p.toList.isEmpty = false := by simpa using y0
  · clear HEq HNe
    go_enter Tryd.func18, Tryd.ntmps18
    go_wp2
    go_step3
    go_wp2
    go_step3
    go_wp2
    go_loop [3, 17] (fun o i => ∃ k : Nat, k ≤ m ∧ i = .int .i64 k ∧ o = .bool false ∧ ∀ b ∈ P.take k, b ≠ 47 ∧ b ≠ 0) (fun _ i => m - (intOf i).toNat)
    case atStart => exact ⟨0, Nat.zero_le _, rfl, rfl, by simp⟩
    case round =>
      obtain ⟨k, hk, rfl, rfl, hn⟩ := hrel
      have HN := hidden hn
      clear hn
      by_cases g1 : k < m
      · obtain ⟨b, hb⟩ : ∃ b, P[k]? = some b := ⟨_, List.getElem?_eq_getElem (by rw [HLl.out]; exact g1)⟩
        have x1 := fun W => HAt.out W k b hb
        have q1 : (k : Int) < (m : Int) := by omega
        have HB := hidden hb
        clear hb
        by_cases g2 : b = 47
        · subst g2
          have hE : nameE P = 236 := by unfold nameE; rw [if_pos (.inr (.inr (.inr (.inl (List.mem_of_getElem? HB.out)))))]
          rw [show ((47 : UInt8).toNat : Int) = 47 from rfl] at x1
          go_wp2
          try rw [Exit.noGoto_ret]
          go_returns
          exact ⟨by rw [hE]; rfl, rfl⟩
        · have q2 : ¬ (b.toNat : Int) = 47 := fun e => g2 (UInt8.toNat_inj.1 (by simpa using Int.ofNat.inj e))
          by_cases g3 : b = 0
          · subst g3
            have hE : nameE P = 236 := by unfold nameE; rw [if_pos (.inr (.inr (.inr (.inr (List.mem_of_getElem? HB.out)))))]
            rw [show ((0 : UInt8).toNat : Int) = 0 from rfl] at x1
            go_wp2
            try rw [Exit.noGoto_ret]
            go_returns
            exact ⟨by rw [hE]; rfl, rfl⟩
          · have q3 : ¬ (b.toNat : Int) = 0 := fun e => g3 (UInt8.toNat_inj.1 (by simpa using Int.ofNat.inj e))
            go_wp2
            refine ⟨⟨k + 1, by omega, by go_num, rfl, ?_⟩, by simp [intOf]; omega⟩
            have hk2 := (List.getElem?_eq_some_iff.1 HB.out).1
            rw [List.take_succ_eq_append_getElem hk2, (List.getElem?_eq_some_iff.1 HB.out).2]
            intro z hz
            rcases List.mem_append.1 hz with h | h
            · exact HN.out z h
            · simp at h
              subst h
              exact ⟨g2, g3⟩
      · obtain rfl : k = m := by omega
        have q1 : ¬ (k : Int) < (k : Int) := by omega
        have hall := HN.out
        rw [List.take_of_length_le (by rw [HLl.out]; exact Nat.le_refl _)] at hall
        have hno : ¬ (P = [] ∨ P = [46] ∨ P = [46, 46] ∨ 47 ∈ P ∨ 0 ∈ P) := by
          rintro (h | h | h | h | h)
          · exact n0.out h
          · exact n1.out h
          · exact n2.out h
          · exact (hall _ h).1 rfl
          · exact (hall _ h).2 rfl
        have HNo := hidden hno
        clear hno hall
        by_cases g4 : 32 < k
        · have q4 : (32 : Int) < (k : Int) := by omega
          have hE : nameE P = 241 := by unfold nameE; rw [if_neg HNo.out, HLl.out, if_pos g4]
          go_wp2
          try rw [Exit.noGoto_ret]
          go_returns
          exact ⟨by rw [hE]; rfl, rfl⟩
        · have q4 : ¬ (32 : Int) < (k : Int) := by omega
          have hE : nameE P = 0 := by unfold nameE; rw [if_neg HNo.out, HLl.out, if_neg g4]
          go_wp2
          try rw [Exit.noGoto_ret]
          go_returns
          exact ⟨by rw [hE]; rfl, rfl⟩
set_option maxHeartbeats 1000000 in
set_option maxRecDepth 100000 in
theorem nameD_any (p : ByteArray) (hp : p.size ≤ 140737488355328) (w : World) : Calls Tryd.prog 19 #[.string p] w fun e w' => e = .returned (.int .i64 (nameE p.data.toList)) ∧ w = w' := by
  have hsl : p.data.toList.length = p.size := size_list p
  have HAt := hidden (str_at p)
  have HNe := hidden (fun l (h : p.data.toList ≠ l) => str_ne h)
  have HEq := hidden (fun l (h : p.data.toList = l) => eq_BA h)
  have H47 : Hid (∀ W, Calls Tryd.prog 29 #[.string p, .int .u8 47] W fun e w' => e = .returned (.bool (decide (47 ∈ p.data.toList))) ∧ W = w') := hidden (has_any p hp 47)
  have H0 : Hid (∀ W, Calls Tryd.prog 29 #[.string p, .int .u8 0] W fun e w' => e = .returned (.bool (decide (0 ∈ p.data.toList))) ∧ W = w') := hidden (has_any p hp 0)
  obtain ⟨P, hP⟩ : ∃ P, P = p.data.toList := ⟨_, rfl⟩
  rw [← hP] at hsl HAt HNe HEq H47 H0 ⊢
  obtain ⟨m, hm⟩ : ∃ m, m = p.size := ⟨_, rfl⟩
  rw [← hm] at hsl hp
  have HLl := hidden hsl
  have hms : (p.size : Int) = (m : Int) := by omega
  clear hP hm hsl
  by_cases h : P = []
  · obtain rfl : p = ⟨#[]⟩ := HEq.out _ h
    have hE0 := hidden (show nameE P = 236 by unfold nameE; rw [if_pos (.inl h)])
    have hm0 : m = 0 := by rw [← HLl.out, h]; rfl
    clear h HEq HNe
    go_enter Tryd.func19, Tryd.ntmps19
    go_wp2
    go_returns
    exact ⟨by rw [hE0.out]; rfl, rfl⟩
  have n0 := hidden h
  obtain ⟨y0, z0⟩ := HNe.out _ h
  clear h
  by_cases h : P = [46]
  · obtain rfl : p = ⟨#[46]⟩ := HEq.out _ h
    have hE0 := hidden (show nameE P = 236 by unfold nameE; rw [if_pos (.inr (.inl h))])
    have hm1 : m = 1 := by rw [← HLl.out, h]; rfl
    clear h HEq HNe
    go_enter Tryd.func19, Tryd.ntmps19
    go_wp2
    go_returns
    exact ⟨by rw [hE0.out]; rfl, rfl⟩
  have n1 := hidden h
  obtain ⟨y1, z1⟩ := HNe.out _ h
  clear h
  by_cases h : P = [46, 46]
  · obtain rfl : p = ⟨#[46, 46]⟩ := HEq.out _ h
    have hE0 := hidden (show nameE P = 236 by unfold nameE; rw [if_pos (.inr (.inr (.inl h)))])
    have hm2 : m = 2 := by rw [← HLl.out, h]; rfl
    clear h HEq HNe
    go_enter Tryd.func19, Tryd.ntmps19
    go_wp2
    go_returns
    exact ⟨by rw [hE0.out]; rfl, rfl⟩
  have n2 := hidden h
  obtain ⟨y2, z2⟩ := HNe.out _ h
  clear h
  have y3 : p.toList.isEmpty = false := by simpa using y0
  clear HEq HNe HAt
  by_cases g1 : 47 ∈ P
  · have hE := hidden (show nameE P = 236 by unfold nameE; rw [if_pos (.inr (.inr (.inr (.inl g1))))])
    rw [decide_eq_true g1] at H47
    clear H0
    go_enter Tryd.func19, Tryd.ntmps19
    have t1 : True := trivial
    go_wp2_with (first
      | (go_at_call 29; have _t := t1; refine (H47.out _).mono ?_; rintro e w1 ⟨rfl, rfl⟩; clear t1 _t))
    go_returns
    exact ⟨by rw [hE.out]; rfl, rfl⟩
  rw [decide_eq_false g1] at H47
  by_cases g2 : 0 ∈ P
  · have hE := hidden (show nameE P = 236 by unfold nameE; rw [if_pos (.inr (.inr (.inr (.inr g2))))])
    rw [decide_eq_true g2] at H0
    go_enter Tryd.func19, Tryd.ntmps19
    have t1 : True := trivial
    go_wp2_with (first
      | (go_at_call 29; have _t := t1; refine (H47.out _).mono ?_; rintro e w1 ⟨rfl, rfl⟩; clear t1 _t)
      | (go_at_call 29; refine (H0.out _).mono ?_; rintro e w1 ⟨rfl, rfl⟩))
    go_returns
    exact ⟨by rw [hE.out]; rfl, rfl⟩
  rw [decide_eq_false g2] at H0
  have HNo := hidden (show ¬ (P = [] ∨ P = [46] ∨ P = [46, 46] ∨ 47 ∈ P ∨ 0 ∈ P) by
    rintro (h | h | h | h | h)
    · exact n0.out h
    · exact n1.out h
    · exact n2.out h
    · exact g1 h
    · exact g2 h)
  by_cases g4 : 32 < m
  · have q4 : (32 : Int) < (m : Int) := by omega
    have hE := hidden (show nameE P = 241 by unfold nameE; rw [if_neg HNo.out, HLl.out, if_pos g4])
    go_enter Tryd.func19, Tryd.ntmps19
    have t1 : True := trivial
    go_wp2_with (first
      | (go_at_call 29; have _t := t1; refine (H47.out _).mono ?_; rintro e w1 ⟨rfl, rfl⟩; clear t1 _t)
      | (go_at_call 29; refine (H0.out _).mono ?_; rintro e w1 ⟨rfl, rfl⟩))
    go_returns
    exact ⟨by rw [hE.out]; rfl, rfl⟩
  · have q4 : ¬ (32 : Int) < (m : Int) := by omega
    have hE := hidden (show nameE P = 0 by unfold nameE; rw [if_neg HNo.out, HLl.out, if_neg g4])
    go_enter Tryd.func19, Tryd.ntmps19
    have t1 : True := trivial
    go_wp2_with (first
      | (go_at_call 29; have _t := t1; refine (H47.out _).mono ?_; rintro e w1 ⟨rfl, rfl⟩; clear t1 _t)
      | (go_at_call 29; refine (H0.out _).mono ?_; rintro e w1 ⟨rfl, rfl⟩))
    go_returns
    exact ⟨by rw [hE.out]; rfl, rfl⟩
end Go.Proofs.YtabpjegigpmfmaaDoor
