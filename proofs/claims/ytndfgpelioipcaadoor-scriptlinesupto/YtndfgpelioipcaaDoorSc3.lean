/- script: firstQuoted and Unquote, walked. -/
import Derived.Test.YtndfgpelioipcaaDoorSc2
import Derived.Test.YtndfgpelioipcaaDoorScSh
namespace Go.Proofs.YtndfgpelioipcaaDoor
open Go.RowKit
set_option linter.unusedVariables false
set_option linter.unusedSimpArgs false
theorem hex_index : ∀ c : UInt8, Lib.indexByte [48, 49, 50, 51, 52, 53, 54, 55, 56, 57, 97, 98, 99, 100, 101, 102] c = hexI c := by
  have : ∀ i : Fin 256, Lib.indexByte [48, 49, 50, 51, 52, 53, 54, 55, 56, 57, 97, 98, 99, 100, 101, 102] (UInt8.ofNat i.val) = hexI (UInt8.ofNat i.val) := by decide +kernel
  intro c
  have h := this ⟨c.toNat, c.toNat_lt⟩
  simpa using h
theorem index_any (c : UInt8) (w : World) : Calls Tryd.prog 36 #[.string ⟨#[48, 49, 50, 51, 52, 53, 54, 55, 56, 57, 97, 98, 99, 100, 101, 102]⟩, .int .u8 (c.toNat : Int)] w fun e w' => e = .returned (.int .i64 (hexI c)) ∧ w = w' :=
  (Any.strings_IndexByte ibLay ⟨#[48, 49, 50, 51, 52, 53, 54, 55, 56, 57, 97, 98, 99, 100, 101, 102]⟩ (c.toNat : Int) w).mono fun e w' ⟨h1, h2⟩ => ⟨by rw [h1, Int.toNat_natCast]; congr 2; rw [← hex_index]; congr 1; simp, h2.symm⟩
theorem hx_or (h l : Int) (h0 : -1 ≤ h) (h1 : h ≤ 15) (l0 : -1 ≤ l) (l1 : l ≤ 15) : bits .or .i64 (h * 16) l % 256 = ((hx h l).toNat : Int) := by
  have : ∀ i j : Fin 17, bits .or .i64 (((i.val : Int) - 1) * 16) ((j.val : Int) - 1) % 256 = ((hx ((i.val : Int) - 1) ((j.val : Int) - 1)).toNat : Int) := by decide +kernel
  have g := this ⟨(h + 1).toNat, by omega⟩ ⟨(l + 1).toNat, by omega⟩
  simp only at g
  rwa [show (((h + 1).toNat : Nat) : Int) - 1 = h by omega, show (((l + 1).toNat : Nat) : Int) - 1 = l by omega] at g
theorem byte_ne {b : UInt8} {k : Nat} (hk : k < 256) (h : b ≠ UInt8.ofNat k) : ¬ (b.toNat : Int) = (k : Int) := fun e => h (UInt8.toNat_inj.1 (by rw [Int.ofNat.inj e]; simp; omega))
set_option maxHeartbeats 1000000 in
set_option maxRecDepth 100000 in
theorem first_any (s : ByteArray) (hs : s.size ≤ 17592186044416) (hne : s.data.toList ≠ []) (w : World) :
    Calls Tryd.prog 21 #[.string s] w fun e w' => e = .returned (.tuple #[.int .u8 ((dec1 s.data.toList).1.toNat : Int), .int .i64 ((dec1 s.data.toList).2 : Int)]) ∧ Same w w' := by
  have hsl : s.data.toList.length = s.size := size_list s
  have HAt := hidden (str_at s)
  have HIx := hidden index_any
  obtain ⟨P, hP⟩ : ∃ P, P = s.data.toList := ⟨_, rfl⟩
  rw [← hP] at hsl HAt hne ⊢
  obtain ⟨m, hm⟩ : ∃ m, m = s.size := ⟨_, rfl⟩
  rw [← hm] at hsl hs
  have hms : (s.size : Int) = (m : Int) := by omega
  clear hP hm
  obtain ⟨c, r, rfl⟩ := List.exists_cons_of_ne_nil hne
  have x0 : ∀ W : World, (Instr.index 9 (.string s) (.int .i64 0)).run Tryd.prog W = .ok (.int .u8 (c.toNat : Int)) W := fun W => HAt.out W 0 c rfl
  rw [List.length_cons] at hsl
  clear hne
  by_cases h1 : c = 92
  · subst h1
    rw [show (((92 : UInt8).toNat : Nat) : Int) = 92 from rfl] at x0
    cases r with
    | nil =>
      have q1 : (m : Int) = 1 := by simp at hsl; omega
      have d1 : ((m : Int) == 1) = true := by simpa using q1
      clear HAt hsl
      go_enter Tryd.func21, Tryd.ntmps21
      go_wp2
      go_returns
      exact ⟨rfl, Kept.refl _ _⟩
    | cons d r2 =>
      have q1 : ¬ (m : Int) = 1 := by rw [List.length_cons] at hsl; omega
      have x1 : ∀ W : World, (Instr.index 9 (.string s) (.int .i64 1)).run Tryd.prog W = .ok (.int .u8 (d.toNat : Int)) W := fun W => HAt.out W 1 d rfl
      by_cases h2 : d = 120
      · subst h2
        rw [show (((120 : UInt8).toNat : Nat) : Int) = 120 from rfl] at x1
        by_cases h3 : r2.length < 2
        · have q2 : (m : Int) < 4 := by rw [List.length_cons] at hsl; omega
          have d2 : decide ((m : Int) < 4) = true := decide_eq_true q2
          have hE : dec1 (92 :: 120 :: r2) = (120, 2) := by simp [dec1, h3]
          rw [hE]
          clear HAt hsl
          go_enter Tryd.func21, Tryd.ntmps21
          go_wp2
          go_returns
          exact ⟨rfl, Kept.refl _ _⟩
        · have q2 : ¬ (m : Int) < 4 := by rw [List.length_cons] at hsl; omega
          have d2 : decide ((m : Int) < 4) = false := decide_eq_false q2
          obtain ⟨u, r3, rfl⟩ := List.exists_cons_of_ne_nil (fun e => h3 (by rw [e]; decide) : r2 ≠ [])
          obtain ⟨v, r4, rfl⟩ := List.exists_cons_of_ne_nil (fun e => h3 (by rw [e]; simp) : r3 ≠ [])
          have x2 : ∀ W : World, (Instr.index 9 (.string s) (.int .i64 2)).run Tryd.prog W = .ok (.int .u8 (u.toNat : Int)) W := fun W => HAt.out W 2 u rfl
          have x3 : ∀ W : World, (Instr.index 9 (.string s) (.int .i64 3)).run Tryd.prog W = .ok (.int .u8 (v.toNat : Int)) W := fun W => HAt.out W 3 v rfl
          have hE : dec1 (92 :: 120 :: u :: v :: r4) = (hx (hexI u) (hexI v), 4) := by simp [dec1]
          rw [hE]
          have HI1 := hidden (HIx.out u)
          have HI2 := hidden (HIx.out v)
          have hr1 := hexI_range u
          have hr2 := hexI_range v
          have ho := hx_or (hexI u) (hexI v) hr1.1 hr1.2 hr2.1 hr2.2
          generalize hexI u = y1 at *
          generalize hexI v = y2 at *
          clear HAt hsl HIx hE h3
          go_enter Tryd.func21, Tryd.ntmps21
          go_wp2
          go_quiet (first
            | (go_at_call 36; exact Calls.quiet_of_same ((HI1.out _).mono fun _ _ ⟨a, b⟩ => ⟨a, b.symm⟩))
            | (go_at_call 36; exact Calls.quiet_of_same ((HI2.out _).mono fun _ _ ⟨a, b⟩ => ⟨a, b.symm⟩)))
          go_wp2
          go_returns
          refine ⟨?_, (Kept.refl _ _).drewN _⟩
          rw [← ho]
          rfl
      · have q2 : ¬ (d.toNat : Int) = 120 := byte_ne (by decide) h2
        have hE : dec1 (92 :: d :: r2) = (d, 2) := by simp [dec1, h2]
        rw [hE]
        clear HAt hsl
        go_enter Tryd.func21, Tryd.ntmps21
        go_wp2
        go_returns
        exact ⟨rfl, Kept.refl _ _⟩
  · have q2 : ¬ (c.toNat : Int) = 92 := byte_ne (by decide) h1
    have hE : dec1 (c :: r) = (c, 1) := by simp [dec1, h1]
    rw [hE]
    clear HAt hsl
    go_enter Tryd.func21, Tryd.ntmps21
    go_wp2
    go_returns
    exact ⟨rfl, Kept.refl _ _⟩
theorem str_from (s : ByteArray) (W : World) (i : Nat) (h : i ≤ s.size) : (Instr.sliceAt 9 (.string s) (some (.int .i64 (i : Int))) none none).run Tryd.prog W = .ok (.string (BA (s.data.toList.drop i))) W := by
  rw [run_sliceAt_string (h := Tryd.underlying9), run_slice_string_l (ht := Tryd.underlying9) (h0 := by omega) (h1 := by omega)]
  have e : s.extract i s.size = BA (s.data.toList.drop i) := by
    unfold BA
    apply ByteArray.ext
    rw [ByteArray.data_extract]
    apply Array.ext'
    simp only [Array.toList_extract, List.extract_eq_take_drop]
    exact List.take_of_length_le (by rw [List.length_drop, size_list]; exact Nat.le_refl _)
  simp only [Int.toNat_natCast]
  rw [e]
/-- How long a text is. -/
def strLen : Value → Nat
  | .string s => s.size
  | _ => 0
/-- What Unquote tells. -/
def uqV : Option (List UInt8) → Value
  | some l => .tuple #[.string (BA l), .bool true]
  | none => .tuple #[.string ⟨#[]⟩, .bool false]
theorem toList_BA (l : List UInt8) : (BA l).toList = l := by rw [Lib.toList_data, BA_data]
theorem decL_step {n : Nat} {r : List UInt8} (h : r ≠ []) (hn : r.length ≤ n) : decL n r = (dec1 r).1 :: decL n (r.drop (dec1 r).2) := by
  obtain ⟨c, r', rfl⟩ := List.exists_cons_of_ne_nil h
  obtain ⟨m, rfl⟩ : ∃ m, n = m + 1 := ⟨n - 1, by rw [List.length_cons] at hn; omega⟩
  have := dec1_size c r'
  conv => lhs; unfold decL
  rw [if_neg (by simp)]
  congr 1
  exact decL_more _ _ _ (by rw [List.length_drop]; omega) (by rw [List.length_drop]; omega)
theorem decL_nil (n : Nat) : decL n [] = [] := by cases n <;> simp [decL]
set_option maxHeartbeats 1000000 in
set_option maxRecDepth 100000 in
theorem unquote_any (s : ByteArray) (hs : s.size ≤ 17592186044416) (w : World) : Calls Tryd.prog 10 #[.string s] w fun e w' => e = .returned (uqV (unq s.data.toList)) ∧ Same w w' := by
  obtain ⟨i0, hi0, hz0, hz1, hz2⟩ := info_parts infoB
  have hsl : s.data.toList.length = s.size := size_list s
  have HSl := hidden (fun W => str_slice s W 1 (s.size - 1))
  have HF := hidden first_any
  have HQ := hidden quote_any
  have hEq : s.toList = s.data.toList := Lib.toList_data s
  obtain ⟨P, hP⟩ : ∃ P, P = s.data.toList := ⟨_, rfl⟩
  rw [← hP] at hsl HSl hEq ⊢
  obtain ⟨m, hm⟩ : ∃ m, m = s.size := ⟨_, rfl⟩
  rw [← hm] at hsl hs HSl
  have HLl := hidden hsl
  have HEq := hidden hEq
  have hms : (s.size : Int) = (m : Int) := by omega
  clear hP hm hEq
  by_cases h1 : m < 2
  · have q1 : (m : Int) < 2 := by omega
    have hU : unq P = none := by unfold unq; rw [if_pos (by omega)]
    rw [hU]
    clear hsl
    go_enter Tryd.func10, Tryd.ntmps10
    go_wp2
    go_returns
    exact ⟨rfl, Kept.refl _ _⟩
  · have q1 : ¬ (m : Int) < 2 := by omega
    have x1 : ∀ W : World, (Instr.sliceAt 9 (.string s) (some (.int .i64 1)) (some (.int .i64 ((m : Int) - 1))) none).run Tryd.prog W = .ok (.string (BA (mid P))) W := fun W => by
      have := HSl.out W (by omega) (by omega)
      rw [show ((m - 1 : Nat) : Int) = (m : Int) - 1 by omega] at this
      unfold mid
      rw [HLl.out]
      exact this
    have e1 : IntKind.i64.wrap ((m : Int) - 1) = (m : Int) - 1 := by rw [IntKind.wrap_i64]; omega
    have HMl := hidden (show (mid P).length ≤ m by unfold mid; rw [List.length_drop, List.length_take]; omega)
    have HU := hidden (show unq P = if quoteL (decL m (mid P)) = P then some (decL m (mid P)) else none by unfold unq; rw [HLl.out, if_neg h1])
    have HDl := hidden (decL_len m (mid P))
    obtain ⟨M, hM⟩ : ∃ M, M = mid P := ⟨_, rfl⟩
    rw [← hM] at x1 HMl HU HDl
    clear hM hsl HSl
    go_enter Tryd.func10, Tryd.ntmps10
    go_wp2
    go_loopw [4, 5] (fun u v wr => ∃ (n c : Nat) (ao : Option Addr) (done r : List UInt8), u = .slice ao n c ∧ v = .string (BA r) ∧ n = done.length ∧ n + r.length ≤ m ∧ decL m M = done ++ decL m r ∧ wr.ownsRow w.heap.size 5 1 (.slice ao n c) n (done.map U8) ∧ Same w wr) (fun _ v _ => strLen v)
    case atStart =>
      exact ⟨0, 0, none, [], M, rfl, rfl, rfl, by have := HMl.out; simp; omega, rfl, World.ownsRow_nil _ _ _ _, Kept.refl _ _⟩
    case round =>
      obtain ⟨n, c, ao, done, r, rfl, rfl, hn, hr, hd, hO, hS⟩ := hrel
      have HO := hidden hO
      have HS := hidden hS
      have HN := hidden hn
      have HD := hidden hd
      clear hO hS hn hd
      by_cases h2 : r = []
      · subst h2
        have HD2 := hidden (show decL m M = done by rw [HD.out, decL_nil, List.append_nil])
        have hcv : (convert 42 9 (.slice ao n c)).run Tryd.prog wr = .ok (.string (BA done)) wr := own_text HO.out
        have hsz : (BA done).size ≤ 17592186044416 := by rw [BA_size, ← HN.out]; omega
        have HQ1 := hidden (fun W => HQ.out (BA done) hsz W)
        rw [BA_data] at HQ1
        have HU2 := HU
        rw [HD2.out] at HU2
        have hnil : (BA []).toList = [] := toList_BA _
        have hnb : BA [] = ⟨#[]⟩ := rfl
        rw [hnb]
        by_cases h3 : quoteL done = P
        · have h4 : (BA (quoteL done)).toList = s.toList := by rw [toList_BA, HEq.out, h3]
          have HU3 := hidden (show unq P = some done by rw [HU2.out, if_pos h3])
          generalize BA (quoteL done) = y at *
          have d4 : (y.toList == s.toList) = true := by simpa using h4
          clear hr HU2 h3 hsz
          go_wp2_with (go_at_call 9; refine (HQ1.out _).mono ?_; rintro e w1 ⟨rfl, k1⟩; have K1 := hidden k1; clear k1; have hcv2 : (convert 42 9 (.slice ao n c)).run Tryd.prog w1 = .ok (.string (BA done)) w1 := (own_text (own_kept HO.out K1.out (fun _ _ h => h))))
          go_returns
          exact ⟨by rw [HU3.out]; rfl, HS.out.trans K1.out⟩
        · have h4 : ¬ (BA (quoteL done)).toList = s.toList := by rw [toList_BA, HEq.out]; exact h3
          have HU3 := hidden (show unq P = none by rw [HU2.out, if_neg h3])
          generalize BA (quoteL done) = y at *
          have d4 : (y.toList == s.toList) = false := by simpa using h4
          clear hr HU2 h3 hsz
          go_wp2_with (go_at_call 9; refine (HQ1.out _).mono ?_; rintro e w1 ⟨rfl, k1⟩; have K1 := hidden k1; clear k1)
          go_returns
          exact ⟨by rw [HU3.out]; rfl, HS.out.trans K1.out⟩
      · have hrl : 0 < r.length := List.length_pos_iff.2 h2
        have h3 : ¬ (BA r).toList = [] := by rw [toList_BA]; exact h2
        have hsz : (BA r).size ≤ 17592186044416 := by rw [BA_size]; omega
        have HF1 := hidden (fun W => HF.out (BA r) hsz (by rw [BA_data]; exact h2) W)
        rw [BA_data] at HF1
        have hd1 : 1 ≤ (dec1 r).2 ∧ (dec1 r).2 ≤ r.length := by
          obtain ⟨c', r', rfl⟩ := List.exists_cons_of_ne_nil h2
          exact dec1_size c' r'
        have HD2 := hidden (show decL m M = (done ++ [(dec1 r).1]) ++ decL m (r.drop (dec1 r).2) by rw [HD.out, decL_step h2 (by omega)]; simp)
        have x2 := fun W => str_from (BA r) W (dec1 r).2 (by rw [BA_size]; exact hd1.2)
        rw [BA_data] at x2
        have HR2 := hidden (show (r.drop (dec1 r).2).length + (dec1 r).2 = r.length by rw [List.length_drop]; omega)
        generalize (dec1 r).1 = b at *
        generalize (dec1 r).2 = z at *
        have HSz := hidden (show strLen (.string (BA r)) = r.length from BA_size r)
        generalize r.drop z = r2 at *
        generalize BA r = y at *
        have d3 : (y.toList == []) = false := by simpa using h3
        have hzz : (0 : Int) ≤ (z : Int) := Int.natCast_nonneg _
        clear h2 hsz
        go_wp2_with (first
          | (go_at_call 21; refine (HF1.out _).mono ?_; rintro e w1 ⟨rfl, k1⟩; have S1 := hidden (HS.out.trans k1); have O1 := hidden (own_kept HO.out k1 (fun _ _ h => h)); clear k1)
          | (at_builtin; go_must (refine wpList_append_any (by rfl) _ _ 42 (by rfl) w.heap.size 5 i0 _ 1 1 Tryd.underlying42 hi0 hz0 hz1 hz2 rfl (by decide) _ _ _ _ (by rfl) (O1.out.alloc _) (some ⟨w1.heap.size, 0, none⟩) 1 1 (([b] : List UInt8).map U8) (by rfl) (by rfl) (lies_of (World.news_of_block (heap_alloc_new w1 _))) (u8_one _) (by unfold maxLen; omega) (by omega) (by simp; have := S1.out.size; omega) ?_; intro a3 c3 w3 hown hgrow; have R3 := hidden (same_grown (m := 0) (S1.out.alloc _) (O1.out.alloc _) hgrow); have O3 := hidden hown; clear hown hgrow)))
        go_roundw
        case rel => exact ⟨n + 1, c3, a3, done ++ [b], r2, rfl, rfl, by rw [HN.out]; simp, by have := HR2.out; omega, HD2.out, by rw [List.map_append]; exact O3.out, R3.out⟩
        case measure => rw [HSz.out]; simp [strLen, BA_size]; have := HR2.out; omega
end Go.Proofs.YtndfgpelioipcaaDoor
