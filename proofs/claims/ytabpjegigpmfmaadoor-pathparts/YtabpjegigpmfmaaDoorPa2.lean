/- path: has, Split of both sides. -/
import Derived.Test.YtabpjegigpmfmaaDoorPa1
import Derived.Test.YtabpjegigpmfmaaDoorPSh
import Derived.Lib.IndexLaws
namespace Go.Proofs.YtabpjegigpmfmaaDoor
open Go.RowKit
set_option linter.unusedVariables false
set_option linter.unusedSimpArgs false
set_option maxHeartbeats 1000000 in
set_option maxRecDepth 100000 in
theorem has_any (p : ByteArray) (hp : p.size ≤ 140737488355328) (c : UInt8) (w : World) : Calls Tryd.prog 29 #[.string p, .int .u8 (c.toNat : Int)] w fun e w' => e = .returned (.bool (decide (c ∈ p.data.toList))) ∧ w = w' := by
  have hsl : p.data.toList.length = p.size := size_list p
  have HAt := hidden (str_at p)
  obtain ⟨P, hP⟩ : ∃ P, P = p.data.toList := ⟨_, rfl⟩
  rw [← hP] at hsl HAt ⊢
  obtain ⟨m, hm⟩ : ∃ m, m = p.size := ⟨_, rfl⟩
  rw [← hm] at hsl hp
  have HLl := hidden hsl
  clear hP hsl
  have hms : (p.size : Int) = (m : Int) := by omega
  clear hm
  go_enter Tryd.func29, Tryd.ntmps29
  go_wp2
  go_loop [5] (fun i => ∃ k : Nat, k ≤ m ∧ i = .int .i64 k ∧ c ∉ P.take k) (fun i => m - (intOf i).toNat)
  case atStart => exact ⟨0, Nat.zero_le _, rfl, by simp⟩
  case round =>
    obtain ⟨k, hk, rfl, hn⟩ := hrel
    have HN := hidden hn
    clear hn
    by_cases h1 : k < m
    · obtain ⟨b, hb⟩ : ∃ b, P[k]? = some b := ⟨_, List.getElem?_eq_getElem (by rw [HLl.out]; exact h1)⟩
      have x1 := fun W => HAt.out W k b hb
      have q1 : (k : Int) < (m : Int) := by omega
      have HB := hidden hb
      clear hb
      by_cases h2 : b = c
      · subst h2
        go_wp2
        go_returns
        refine ⟨?_, rfl⟩
        rw [decide_eq_true (List.mem_of_getElem? HB.out)]
        rfl
      · have q2 : ¬ (b.toNat : Int) = (c.toNat : Int) := fun e => h2 (UInt8.toNat_inj.1 (by omega))
        go_wp2
        refine ⟨⟨k + 1, by omega, by go_num, ?_⟩, by simp [intOf]; omega⟩
        have hk2 := (List.getElem?_eq_some_iff.1 HB.out).1
        rw [List.take_succ_eq_append_getElem hk2, (List.getElem?_eq_some_iff.1 HB.out).2]
        intro hm
        rcases List.mem_append.1 hm with h | h
        · exact HN.out h
        · simp at h
          exact h2 h.symm
    · obtain rfl : k = m := by omega
      have q1 : ¬ (k : Int) < (k : Int) := by omega
      go_wp2
      go_returns
      refine ⟨?_, rfl⟩
      have := HN.out
      rw [List.take_of_length_le (by rw [HLl.out]; exact Nat.le_refl _)] at this
      rw [decide_eq_false this]
      rfl
theorem ib_zero (P : List UInt8) : (decide (0 ≤ Lib.indexByte P 0)) = decide (0 ∈ P) := by
  have hg := Lib.indexByte_ge P 0
  by_cases h : Lib.indexByte P 0 = -1
  · have := Lib.indexByte_none h
    rw [h, decide_eq_false (by decide), decide_eq_false]
    intro hm
    obtain ⟨k, hk, e⟩ := List.mem_iff_getElem.1 hm
    exact this k (by rw [List.getElem?_eq_getElem hk, e])
  · obtain ⟨o, ho⟩ : ∃ o : Nat, Lib.indexByte P 0 = o := ⟨(Lib.indexByte P 0).toNat, by omega⟩
    have := (Lib.indexByte_some ho).1
    rw [ho, decide_eq_true (by omega), decide_eq_true (List.mem_of_getElem? this)]
set_option maxHeartbeats 1000000 in
theorem ib_any (p : ByteArray) (w : World) : Calls Tryd.prog 27 #[.string p, .int .u8 0] w fun e w' => e = .returned (.int .i64 (Lib.indexByte p.data.toList 0)) ∧ w = w' :=
  (Any.strings_IndexByte ibLay p 0 w).mono fun e w' ⟨h1, h2⟩ => ⟨h1, h2.symm⟩
/-- What Split tells. -/
structure SpR (B : Nat) (w : World) (u : Value) (P : List UInt8) : Prop where
  ex : ∃ v, u = .tuple #[v, .int .i64 (splE P)] ∧ OwnT B w v ((splL P).map BA)
theorem SpR.no {B : Nat} {w : World} {P : List UInt8} {z : Int} (h : splE P = z) (h0 : z ≠ 0) : SpR B w (.tuple #[.slice none 0 0, .int .i64 z]) P := by
  refine ⟨.slice none 0 0, by rw [h], ?_⟩
  unfold splL
  rw [if_neg (by rw [h]; exact h0)]
  exact OwnT.nil _ _
theorem fits_not {P : List UInt8} {x : List UInt8} (h : x ∈ pc [] P) (hx : 32 < x.length) : fits P = false := by
  cases hf : fits P
  · rfl
  · have := List.all_eq_true.1 hf x h
    simp at this
    omega
theorem empty_facts {p : ByteArray} (h : p.data.toList.length ≠ 0) : p.toList ≠ [] ∧ (p.toList == []) = false ∧ p.toList.isEmpty = false := by
  have e : p.toList = p.data.toList := Lib.toList_data p
  rw [e]
  have h1 : p.data.toList ≠ [] := fun e => h (by rw [e]; rfl)
  exact ⟨h1, by simpa using h1, by simpa using h1⟩
set_option maxHeartbeats 1000000 in
set_option maxRecDepth 100000 in
theorem split_any (p : ByteArray) (hp : p.size ≤ 140737488355328) (w : World) : Calls Tryd.prog 10 #[.string p] w fun e w' => ∃ u, e = .returned u ∧ SpR w.heap.size w' u p.data.toList ∧ Same w w' := by
  have hsl : p.data.toList.length = p.size := size_list p
  have HEm := hidden (@empty_facts p)
  have HAt := hidden (str_at p)
  have HIb := hidden (ib_any p)
  have HPc := hidden (pieces_any p)
  have HZ := hidden (ib_zero p.data.toList)
  have HE0 : Hid (p.data.toList.length = 0 → p = ⟨#[]⟩) := hidden (fun h => by have := BA_of p; rw [List.length_eq_zero_iff.1 h] at this; exact this.symm)
  obtain ⟨P, hP⟩ : ∃ P, P = p.data.toList := ⟨_, rfl⟩
  rw [← hP] at hsl HAt HIb HPc HZ HEm HE0 ⊢
  obtain ⟨m, hm⟩ : ∃ m, m = p.size := ⟨_, rfl⟩
  rw [← hm] at hsl hp HPc
  have HLl := hidden hsl
  clear hP
  have hms : (p.size : Int) = (m : Int) := by omega
  clear hm
  by_cases h0 : m = 0
  · have hE : splE P = 231 := by unfold splE; rw [if_pos (by omega)]
    obtain rfl := HE0.out (by omega)
    go_enter Tryd.func10, Tryd.ntmps10
    go_wp2
    go_returns
    exact ⟨_, rfl, SpR.no hE (by decide), Kept.refl _ _⟩
  obtain ⟨z1, z2, z3⟩ := HEm.out (by omega)
  by_cases h1 : 512 < m
  · have q1 : (512 : Int) < (m : Int) := by omega
    have hE : splE P = 241 := by unfold splE; rw [if_neg (by omega), if_pos (by omega)]
    go_enter Tryd.func10, Tryd.ntmps10
    go_wp2
    go_returns
    exact ⟨_, rfl, SpR.no hE (by decide), Kept.refl _ _⟩
  have q1 : ¬ (512 : Int) < (m : Int) := by omega
  obtain ⟨b, hb⟩ : ∃ b, P[0]? = some b := ⟨_, List.getElem?_eq_getElem (by omega)⟩
  have x1 := fun W => HAt.out W 0 b hb
  have hbd : P.headD 0 = b := by cases P; simp at hb; simpa using hb
  rw [show ((0 : Nat) : Int) = 0 from rfl] at x1
  by_cases h2 : b = 47
  · subst h2
    by_cases h3 : 0 ∈ P
    · have hE : splE P = 236 := by unfold splE; rw [if_neg (by omega), if_neg (by omega), if_pos (.inr h3)]
      have q3 : 0 ≤ Lib.indexByte P 0 := by have := HZ.out; rw [decide_eq_true h3] at this; exact of_decide_eq_true this
      generalize Lib.indexByte P 0 = y at HIb q3 HZ
      clear hb
      go_enter Tryd.func10, Tryd.ntmps10
      go_wp2_with (go_at_call 27; refine (HIb.out _).mono ?_; rintro e w1 ⟨rfl, rfl⟩)
      go_returns
      exact ⟨_, rfl, SpR.no hE (by decide), Kept.refl _ _⟩
    · have q3 : ¬ 0 ≤ Lib.indexByte P 0 := by have := HZ.out; rw [decide_eq_false h3] at this; exact of_decide_eq_false this
      generalize Lib.indexByte P 0 = y at HIb q3 HZ
      have hEf : splE P = if fits P then 0 else 241 := by unfold splE; rw [if_neg (by omega), if_neg (by omega), if_neg (by rintro (h | h); exact h hbd; exact h3 h)]
      have HEf := hidden hEf
      have HP2 := HPc.out (by omega)
      have HPP := hidden HP2
      clear hb HP2 hEf
      cases hf : fits P
      · have hE : splE P = 241 := by rw [HEf.out, hf]; rfl
        go_enter Tryd.func10, Tryd.ntmps10
        go_wp2_with (first
          | (go_at_call 27; refine (HIb.out _).mono ?_; rintro e w1 ⟨rfl, rfl⟩)
          | (go_at_call 28; refine (HPP.out _).mono ?_; rintro e w1 ⟨u, rfl, ⟨v, hu, ho⟩, k1⟩; rw [hf] at hu ho; subst hu; have HK := hidden k1; clear k1 ho))
        go_returns
        exact ⟨_, rfl, SpR.no hE (by decide), HK.out⟩
      · have hE : splE P = 0 := by rw [HEf.out, hf]; rfl
        go_enter Tryd.func10, Tryd.ntmps10
        go_wp2_with (first
          | (go_at_call 27; refine (HIb.out _).mono ?_; rintro e w1 ⟨rfl, rfl⟩)
          | (go_at_call 28; refine (HPP.out _).mono ?_; rintro e w1 ⟨u, rfl, ⟨v, hu, ho⟩, k1⟩; rw [hf] at hu; rw [hf, if_pos rfl] at ho; subst hu; have HK := hidden k1; have HO := hidden ho; obtain ⟨va, vc, rfl⟩ := ho.form; clear k1 ho))
        go_returns
        refine ⟨_, rfl, ⟨_, by rw [hE]; rfl, ?_⟩, HK.out⟩
        unfold splL
        rw [if_pos hE]
        have h8 := HO.out
        rw [List.length_map] at h8
        exact h8
  · have q2 : ¬ (b.toNat : Int) = 47 := fun e => h2 (UInt8.toNat_inj.1 (by simpa using Int.ofNat.inj e))
    have hE : splE P = 236 := by unfold splE; rw [if_neg (by omega), if_neg (by omega), if_pos (.inl (by rw [hbd]; exact h2))]
    clear hb
    go_enter Tryd.func10, Tryd.ntmps10
    go_wp2
    go_returns
    exact ⟨_, rfl, SpR.no hE (by decide), Kept.refl _ _⟩
set_option maxHeartbeats 1000000 in
set_option maxRecDepth 100000 in
theorem splitD_any (p : ByteArray) (hp : p.size ≤ 140737488355328) (w : World) : Calls Tryd.prog 11 #[.string p] w fun e w' => ∃ u, e = .returned u ∧ SpR w.heap.size w' u p.data.toList ∧ Same w w' := by
  have hsl : p.data.toList.length = p.size := size_list p
  have HEm := hidden (@empty_facts p)
  have HAt := hidden (str_at p)
  have HIb := hidden (has_any p hp 0)
  have HPc := hidden (piecesD_any p)
  have HE0 : Hid (p.data.toList.length = 0 → p = ⟨#[]⟩) := hidden (fun h => by have := BA_of p; rw [List.length_eq_zero_iff.1 h] at this; exact this.symm)
  obtain ⟨P, hP⟩ : ∃ P, P = p.data.toList := ⟨_, rfl⟩
  rw [← hP] at hsl HAt HIb HPc HEm HE0 ⊢
  obtain ⟨m, hm⟩ : ∃ m, m = p.size := ⟨_, rfl⟩
  rw [← hm] at hsl hp HPc
  have HLl := hidden hsl
  clear hP
  have hms : (p.size : Int) = (m : Int) := by omega
  clear hm
  by_cases h0 : m = 0
  · have hE : splE P = 231 := by unfold splE; rw [if_pos (by omega)]
    obtain rfl := HE0.out (by omega)
    go_enter Tryd.func11, Tryd.ntmps11
    go_wp2
    go_returns
    exact ⟨_, rfl, SpR.no hE (by decide), Kept.refl _ _⟩
  obtain ⟨z1, z2, z3⟩ := HEm.out (by omega)
  by_cases h1 : 512 < m
  · have q1 : (512 : Int) < (m : Int) := by omega
    have hE : splE P = 241 := by unfold splE; rw [if_neg (by omega), if_pos (by omega)]
    go_enter Tryd.func11, Tryd.ntmps11
    go_wp2
    go_returns
    exact ⟨_, rfl, SpR.no hE (by decide), Kept.refl _ _⟩
  have q1 : ¬ (512 : Int) < (m : Int) := by omega
  obtain ⟨b, hb⟩ : ∃ b, P[0]? = some b := ⟨_, List.getElem?_eq_getElem (by omega)⟩
  have x1 := fun W => HAt.out W 0 b hb
  have hbd : P.headD 0 = b := by cases P; simp at hb; simpa using hb
  rw [show ((0 : Nat) : Int) = 0 from rfl] at x1
  have HIb2 : Hid (∀ W, Calls Tryd.prog 29 #[.string p, .int .u8 0] W fun e w' => e = .returned (.bool (decide (0 ∈ P))) ∧ W = w') := HIb
  by_cases h2 : b = 47
  · subst h2
    by_cases h3 : 0 ∈ P
    · have hE : splE P = 236 := by unfold splE; rw [if_neg (by omega), if_neg (by omega), if_pos (.inr h3)]
      have q3 : decide (0 ∈ P) = true := decide_eq_true h3
      rw [q3] at HIb2
      clear hb HIb
      go_enter Tryd.func11, Tryd.ntmps11
      go_wp2_with (go_at_call 29; refine (HIb2.out _).mono ?_; rintro e w1 ⟨rfl, rfl⟩)
      go_returns
      exact ⟨_, rfl, SpR.no hE (by decide), Kept.refl _ _⟩
    · have q3 : decide (0 ∈ P) = false := decide_eq_false h3
      rw [q3] at HIb2
      have HEf := hidden (show splE P = if fits P then 0 else 241 by unfold splE; rw [if_neg (by omega), if_neg (by omega), if_neg (by rintro (h | h); exact h hbd; exact h3 h)])
      have HPP := hidden (HPc.out (by omega))
      have hpl : (pc [] P).length ≤ m + 1 := by have := pc_len P []; rw [HLl.out] at this; simpa using this
      clear hb HIb hbd h3
      go_enter Tryd.func11, Tryd.ntmps11
      go_wp2_with (first
        | (go_at_call 29; refine (HIb2.out _).mono ?_; rintro e w1 ⟨rfl, rfl⟩)
        | (go_at_call 30; refine (HPP.out _).mono ?_; rintro e w1 ⟨u, rfl, ho, k1⟩; have HK := hidden k1; have HO := hidden ho; obtain ⟨va, vc, rfl⟩ := ho.form; clear k1 ho))
      obtain ⟨L, hL⟩ : ∃ L, L = pc [] P := ⟨_, rfl⟩
      obtain ⟨n, hn⟩ : ∃ n, n = L.length := ⟨_, rfl⟩
      rw [← hL] at HO hpl ⊢
      rw [← hn]
      have hRow := HO.out.row
      rw [List.length_map, ← hn] at hRow
      have HR := hidden hRow
      have hnl : n = L.length := hn
      have HNL := hidden hnl
      have HLd := hidden hL
      have hnb : n ≤ m + 1 := by omega
      clear hRow hn hnl hpl hL
      go_loop [23] (fun i => ∃ k : Nat, k ≤ n ∧ i = .int .i64 k ∧ ∀ x ∈ L.take k, x.length ≤ 32) (fun i => n - (intOf i).toNat)
      case atStart => exact ⟨0, Nat.zero_le _, rfl, by simp⟩
      case round =>
        obtain ⟨k, hk, rfl, hd⟩ := hrel
        have HD := hidden hd
        clear hd
        by_cases h4 : k < n
        · have hkl : k < L.length := by rw [← HNL.out]; exact h4
          obtain ⟨bk, off, rfl, hc⟩ := HR.out.text (j := k) (by rw [List.length_map]; exact hkl)
          obtain ⟨x, hx⟩ : ∃ x, x = L[k] := ⟨_, rfl⟩
          have hgx : (L.map BA)[k]'(by rw [List.length_map]; exact hkl) = BA x := by rw [List.getElem_map, hx]
          rw [hgx] at hc
          have HX := hidden (show L.take (k + 1) = L.take k ++ [x] by rw [List.take_succ_eq_append_getElem hkl, hx])
          have HM := hidden (show x ∈ pc [] P by rw [← HLd.out, hx]; exact List.getElem_mem hkl)
          obtain ⟨y, hy⟩ : ∃ y, y = BA x := ⟨_, rfl⟩
          have hys : y.size = x.length := by rw [hy, ← size_list, BA_data]
          rw [← hy] at hc
          obtain ⟨d, hdd⟩ : ∃ d, d = x.length := ⟨_, rfl⟩
          rw [← hdd] at hys
          have hyi : (y.size : Int) = (d : Int) := by omega
          have q4 : (k : Int) < (n : Int) := by omega
          have q5 : (0 : Int) ≤ (k : Int) := Int.natCast_nonneg _
          have HDD := hidden hdd
          clear hx hgx hy hdd hys
          by_cases h5 : 32 < d
          · have q6 : (32 : Int) < (d : Int) := by omega
            have hE : splE P = 241 := by rw [HEf.out, fits_not HM.out (by rw [← HDD.out]; exact h5)]; rfl
            go_wp2
            go_returns
            exact ⟨_, rfl, SpR.no hE (by decide), HK.out⟩
          · have q6 : ¬ (32 : Int) < (d : Int) := by omega
            go_wp2
            refine ⟨⟨k + 1, by omega, by go_num, ?_⟩, by simp [intOf]; omega⟩
            rw [HX.out]
            intro z hz
            rcases List.mem_append.1 hz with h | h
            · exact HD.out z h
            · simp at h
              rw [h, ← HDD.out]
              omega
        · obtain rfl : k = n := by omega
          have q4 : ¬ (k : Int) < (k : Int) := by omega
          have hf : fits P = true := by
            unfold fits
            rw [← HLd.out]
            refine List.all_eq_true.2 fun x hx => ?_
            have := HD.out x (by rw [List.take_of_length_le (by rw [HNL.out]; exact Nat.le_refl _)]; exact hx)
            simpa using this
          have hE : splE P = 0 := by rw [HEf.out, hf]; rfl
          go_wp2
          go_returns
          refine ⟨_, rfl, ⟨_, by rw [hE]; rfl, ?_⟩, HK.out⟩
          unfold splL
          rw [if_pos hE, ← HLd.out]
          have := HO.out
          rw [List.length_map, ← HNL.out] at this
          exact this
  · have q2 : ¬ (b.toNat : Int) = 47 := fun e => h2 (UInt8.toNat_inj.1 (by simpa using Int.ofNat.inj e))
    have hE : splE P = 236 := by unfold splE; rw [if_neg (by omega), if_neg (by omega), if_pos (.inl (by rw [hbd]; exact h2))]
    clear hb
    go_enter Tryd.func11, Tryd.ntmps11
    go_wp2
    go_returns
    exact ⟨_, rfl, SpR.no hE (by decide), Kept.refl _ _⟩
end Go.Proofs.YtabpjegigpmfmaaDoor
