/- script: a line's words, walked. -/
import Derived.Test.YtndfgpelioipcaaDoorSc6
import Derived.Test.YtndfgpelioipcaaDoorSc3
namespace Go.Proofs.YtndfgpelioipcaaDoor
open Go.RowKit
set_option linter.unusedVariables false
set_option linter.unusedSimpArgs false
/-- Where the first blank stands that parts words. -/
def sc : Bool → List UInt8 → Option Nat
  | _, [] => none
  | q, c :: r => if q = true ∧ c = 92 then (match r with | [] => none | _ :: r2 => (sc q r2).map (· + 2)) else if c = 34 then (sc (!q) r).map (· + 1) else if c = 32 ∧ q = false then some 0 else (sc q r).map (· + 1)
theorem sc_lt : ∀ (q : Bool) (P : List UInt8) (i : Nat), sc q P = some i → i < P.length
  | _, [], i, h => by simp [sc] at h
  | q, [c], i, h => by
    unfold sc at h
    split at h
    · cases h
    · split at h
      · simp [sc] at h
      · split at h
        · cases h; simp
        · simp [sc] at h
  | q, c :: d :: r, i, h => by
    unfold sc at h
    split at h
    · cases hs : sc q r with
      | none => simp [hs] at h
      | some j => have := sc_lt q r j hs; simp [hs] at h; simp; omega
    · split at h
      · cases hs : sc (!q) (d :: r) with
        | none => simp [hs] at h
        | some j => have := sc_lt (!q) (d :: r) j hs; simp [hs] at h; simp at *; omega
      · split at h
        · cases h; simp
        · cases hs : sc q (d :: r) with
          | none => simp [hs] at h
          | some j => have := sc_lt q (d :: r) j hs; simp [hs] at h; simp at *; omega
/-- A line's words. -/
def wl : Nat → List UInt8 → List (List UInt8)
  | 0, P => [P]
  | n + 1, P => match sc false P with
    | none => [P]
    | some i => P.take i :: wl n (P.drop (i + 1))
theorem wl_more : ∀ (n m : Nat) (P : List UInt8), P.length ≤ n → P.length ≤ m → wl n P = wl m P
  | 0, 0, P, _, _ => rfl
  | 0, m + 1, P, h, _ => by
    obtain rfl : P = [] := List.eq_nil_of_length_eq_zero (by omega)
    simp [wl, sc]
  | n + 1, 0, P, _, h => by
    obtain rfl : P = [] := List.eq_nil_of_length_eq_zero (by omega)
    simp [wl, sc]
  | n + 1, m + 1, P, h1, h2 => by
    unfold wl
    cases hs : sc false P with
    | none => rfl
    | some i =>
      have := sc_lt _ _ _ hs
      simp only
      rw [wl_more n m _ (by rw [List.length_drop]; omega) (by rw [List.length_drop]; omega)]
def wordsL (P : List UInt8) : List (List UInt8) := wl P.length P
theorem words_end {P : List UInt8} (h : sc false P = none) : wordsL P = [P] := by
  unfold wordsL
  cases hp : P.length with
  | zero => rfl
  | succ n => unfold wl; rw [h]
theorem words_cut {P : List UInt8} {i : Nat} (h : sc false P = some i) : wordsL P = P.take i :: wordsL (P.drop (i + 1)) := by
  have hi := sc_lt _ _ _ h
  unfold wordsL
  obtain ⟨n, hn⟩ : ∃ n, P.length = n + 1 := ⟨P.length - 1, by omega⟩
  rw [hn]
  conv => lhs; unfold wl
  rw [h]
  simp only
  rw [wl_more n _ _ (by rw [List.length_drop]; omega) (Nat.le_refl _)]
/-- How far the look for a blank is. -/
structure SC (P : List UInt8) (k : Nat) (q : Bool) : Prop where
  eq : sc false P = (sc q (P.drop k)).map (· + k)
theorem SC.zero (P : List UInt8) : SC P 0 false := ⟨by rw [List.drop_zero]; cases sc false P <;> rfl⟩
theorem SC.esc {P : List UInt8} {k : Nat} (h : SC P k true) (hb : P[k]? = some 92) : SC P (k + 2) true := by
  have hk := (List.getElem?_eq_some_iff.1 hb).1
  refine ⟨?_⟩
  rw [h.eq, List.drop_eq_getElem_cons hk, (List.getElem?_eq_some_iff.1 hb).2]
  by_cases h2 : k + 1 < P.length
  · rw [List.drop_eq_getElem_cons h2]
    simp only [sc]
    rw [if_pos (by simp), Option.map_map]
    congr 1
    funext x
    simp; omega
  · rw [List.drop_of_length_le (by omega), List.drop_of_length_le (by omega)]
    simp [sc]
theorem SC.quo {P : List UInt8} {k : Nat} {q : Bool} (h : SC P k q) (hb : P[k]? = some 34) : SC P (k + 1) (!q) := by
  have hk := (List.getElem?_eq_some_iff.1 hb).1
  refine ⟨?_⟩
  rw [h.eq, List.drop_eq_getElem_cons hk, (List.getElem?_eq_some_iff.1 hb).2]
  conv => lhs; unfold sc
  rw [if_neg (by simp), if_pos rfl, Option.map_map]
  congr 1
  funext x
  simp; omega
theorem SC.go {P : List UInt8} {k : Nat} {q : Bool} {b : UInt8} (h : SC P k q) (hb : P[k]? = some b) (h1 : ¬ (q = true ∧ b = 92)) (h2 : b ≠ 34) (h3 : ¬ (b = 32 ∧ q = false)) : SC P (k + 1) q := by
  have hk := (List.getElem?_eq_some_iff.1 hb).1
  refine ⟨?_⟩
  rw [h.eq, List.drop_eq_getElem_cons hk, (List.getElem?_eq_some_iff.1 hb).2]
  conv => lhs; unfold sc
  rw [if_neg h1, if_neg h2, if_neg h3, Option.map_map]
  congr 1
  funext x
  simp; omega
theorem SC.cut {P : List UInt8} {k : Nat} (h : SC P k false) (hb : P[k]? = some 32) : sc false P = some k := by
  have hk := (List.getElem?_eq_some_iff.1 hb).1
  rw [h.eq, List.drop_eq_getElem_cons hk, (List.getElem?_eq_some_iff.1 hb).2]
  conv => lhs; unfold sc
  simp
theorem SC.none {P : List UInt8} {k : Nat} {q : Bool} (h : SC P k q) (hk : P.length ≤ k) : sc false P = .none := by
  rw [h.eq, List.drop_of_length_le hk]
  simp [sc]
theorem str_to (s : ByteArray) (W : World) (j : Nat) (hj : j ≤ s.size) : (Instr.sliceAt 9 (.string s) none (some (.int .i64 (j : Int))) none).run Tryd.prog W = .ok (.string (BA (s.data.toList.take j))) W := by
  rw [run_sliceAt_string (h := Tryd.underlying9), run_slice_string_h (ht := Tryd.underlying9) (h0 := by omega) (h2 := by omega)]
  have e : s.extract 0 j = BA (s.data.toList.take j) := by
    unfold BA
    apply ByteArray.ext
    rw [ByteArray.data_extract]
    apply Array.ext'
    simp
  simp only [Int.toNat_natCast]
  rw [e]
/-- Texts in a row of the call's own. -/
structure OwnT (B : Nat) (w : World) (v : Value) (l : List (List UInt8)) : Prop where
  own : w.ownsRow B 9 1 v l.length (TS (l.map BA))
theorem OwnT.form {B : Nat} {w : World} {v : Value} {l : List (List UInt8)} (h : OwnT B w v l) : ∃ a c, v = .slice a l.length c := own_form h.own
theorem OwnT.row {B : Nat} {w : World} {v : Value} {l : List (List UInt8)} (h : OwnT B w v l) : Row w v (TS (l.map BA)) := Row.own h.own
theorem OwnT.same {B : Nat} {w w' : World} {v : Value} {l : List (List UInt8)} (h : OwnT B w v l) (k : Same w w') : OwnT B w' v l := ⟨own_kept h.own k (fun _ _ h => h)⟩
set_option maxHeartbeats 1000000 in
set_option maxRecDepth 100000 in
theorem words_any (s : ByteArray) (hs : s.size ≤ 1099511627776) (w : World) : Calls Tryd.prog 29 #[.string s] w fun e w' => (∃ v, e = .returned v ∧ OwnT w.heap.size w' v (wordsL s.data.toList)) ∧ Same w w' := by
  obtain ⟨i0, hi0, hz0, hz1, hz2⟩ := info_parts infoS
  have hsl : s.data.toList.length = s.size := size_list s
  obtain ⟨P0, hP0⟩ : ∃ P0, P0 = s.data.toList := ⟨_, rfl⟩
  have hsP : s = BA P0 := by rw [hP0, BA_of]
  rw [← hP0] at hsl ⊢
  subst hsP
  rw [BA_size] at hs
  clear hsl hP0
  go_enter Tryd.func29, Tryd.ntmps29
  go_wp2
  go_step3
  go_wp2
  go_step3
  go_wp2
  go_loopw [0, 3] (fun x u wr => ∃ (n c : Nat) (ao : Option Addr) (done : List (List UInt8)) (R : List UInt8), x = .string (BA R) ∧ u = .slice ao n c ∧ n = done.length ∧ n + R.length ≤ P0.length ∧ wordsL P0 = done ++ wordsL R ∧ wr.ownsRow w.heap.size 9 1 (.slice ao n c) n (TS (done.map BA)) ∧ Same w wr) (fun x _ _ => strLen x)
  case atStart => exact ⟨0, 0, none, [], P0, rfl, rfl, rfl, by simp, rfl, World.ownsRow_nil _ _ _ _, Kept.refl _ _⟩
  case round =>
    obtain ⟨n, c, ao, done, R, rfl, rfl, hn, hnR, hW, hO, hS⟩ := hrel
    have HN := hidden hn
    have HW := hidden hW
    have HO := hidden hO
    have HS := hidden hS
    clear hn hW hO hS
    obtain ⟨wo, hwo⟩ : ∃ wo, wo = wr := ⟨_, rfl⟩
    rw [← hwo] at HO HS ⊢
    clear hwo
    obtain ⟨m, hm⟩ : ∃ m, m = R.length := ⟨_, rfl⟩
    have hms : ((BA R).size : Int) = (m : Int) := by rw [BA_size, hm]
    have HAt := hidden (fun W j b h => str_at (BA R) W j b h)
    have HTo := hidden (fun W j h => str_to (BA R) W j h)
    have HFr := hidden (fun W j h => str_from (BA R) W j h)
    rw [BA_data] at HAt HTo HFr
    have HSz := hidden (show strLen (.string (BA R)) = m by rw [hm]; exact BA_size R)
    have HBs := hidden (show (BA R).size = m by rw [hm]; exact BA_size R)
    rw [HBs.out] at HTo HFr
    have HM := hidden hm
    obtain ⟨y, hy⟩ : ∃ y, y = BA R := ⟨_, rfl⟩
    rw [← hy] at hms HAt HTo HFr HSz HBs ⊢
    have HY := hidden hy
    rw [← hm] at hnR
    clear hm hy
    go_wp2
    go_loopw [0, 3, 4, 5] (fun v0 v3 b x wr => ∃ (k : Nat) (q : Bool), v0 = .string y ∧ v3 = .slice ao n c ∧ b = .bool q ∧ x = .int .i64 k ∧ k ≤ m + 1 ∧ SC R k q ∧ wr = wo) (fun _ _ _ x _ => m + 1 - (intOf x).toNat)
    case atStart => exact ⟨0, false, rfl, rfl, rfl, rfl, by omega, SC.zero R, rfl⟩
    case round =>
      obtain ⟨k, q, rfl, rfl, rfl, rfl, hk, hC, rfl⟩ := hrel
      have HC := hidden hC
      clear hC
      by_cases h1 : k < m
      · obtain ⟨b, hb⟩ : ∃ b, R[k]? = some b := ⟨_, List.getElem?_eq_getElem (by rw [← HM.out]; exact h1)⟩
        have x1 := fun W => HAt.out W k b hb
        have q1 : (k : Int) < (m : Int) := by omega
        have d1 : decide ((k : Int) < (m : Int)) = true := decide_eq_true q1
        have w1 : IntKind.i64.wrap ((k : Int) + 1) = (k : Int) + 1 := by rw [IntKind.wrap_i64]; omega
        by_cases h92 : q = true ∧ b = 92
        · obtain ⟨rfl, rfl⟩ := h92
          have HC2 := hidden (HC.out.esc hb)
          rw [show (((92 : UInt8).toNat : Nat) : Int) = 92 from rfl] at x1
          clear hb
          go_wp2
          go_roundw
          case rel => exact ⟨k + 2, true, rfl, rfl, rfl, by go_num, by omega, HC2.out, trivial⟩
          case measure => simp [intOf]; omega
        by_cases h34 : b = 34
        · subst h34
          have HC2 := hidden (HC.out.quo hb)
          rw [show (((34 : UInt8).toNat : Nat) : Int) = 34 from rfl] at x1
          clear hb h92
          cases q
          · go_wp2
            go_roundw
            case rel => exact ⟨k + 1, true, rfl, rfl, rfl, by go_num, by omega, HC2.out, trivial⟩
            case measure => simp [intOf]; omega
          · go_wp2
            go_roundw
            case rel => exact ⟨k + 1, false, rfl, rfl, rfl, by go_num, by omega, HC2.out, trivial⟩
            case measure => simp [intOf]; omega
        have n34 : ¬ (b.toNat : Int) = 34 := byte_ne (by decide) h34
        by_cases h32 : b = 32 ∧ q = false
        · obtain ⟨rfl, rfl⟩ := h32
          have HCt := hidden (HC.out.cut hb)
          have HW2 := hidden (words_cut HCt.out)
          rw [show (((32 : UInt8).toNat : Nat) : Int) = 32 from rfl] at x1
          have x2 := fun W => HTo.out W k (by omega)
          have x3 : ∀ W : World, (Instr.sliceAt 9 (.string y) (some (.int .i64 ((k : Int) + 1))) none none).run Tryd.prog W = .ok (.string (BA (R.drop (k + 1)))) W := fun W => HFr.out W (k + 1) (by omega)
          have HL2 := hidden (show (R.drop (k + 1)).length + (k + 1) = m by rw [List.length_drop, ← HM.out]; omega)
          clear hb h92 h34 n34
          obtain ⟨R2, hR2⟩ : ∃ R2, R2 = R.drop (k + 1) := ⟨_, rfl⟩
          rw [← hR2] at x3 HL2 HW2
          clear hR2
          obtain ⟨X, hX⟩ : ∃ X, X = R.take k := ⟨_, rfl⟩
          rw [← hX] at x2 HW2
          clear hX
          have z1 : ∀ W : World, True := fun _ => trivial
          go_wp2_with (at_builtin; go_must (refine wpList_append_any (by rfl) _ _ 37 (by rfl) w.heap.size 9 i0 _ 1 16 Tryd.underlying37 hi0 hz0 hz1 hz2 rfl (by decide) _ _ _ _ (by rfl) (HO.out.alloc _) (some ⟨wr.heap.size, 0, none⟩) 1 1 (TS [BA X]) (by rfl) (by rfl) (lies_of (World.news_of_block (heap_alloc_new wr _))) (TS_one _) (by unfold maxLen; omega) (by omega) (by simp; have := HS.out.size; omega) ?_; intro a3 c3 w3 hown hgrow; have R3 := hidden (same_grown (m := 0) (HS.out.alloc _) (HO.out.alloc _) hgrow); have O3 := hidden hown; clear hown hgrow))
          go_roundw
          case rel => exact ⟨n + 1, c3, a3, done ++ [X], R2, rfl, rfl, by rw [HN.out]; simp, by have := HL2.out; omega, by rw [HW.out, HW2.out]; simp, by have h := O3.out; simpa [TS] using h, R3.out⟩
          case measure => rw [HSz.out]; simp [strLen, BA_size]; have := HL2.out; omega
        · have HC2 := hidden (HC.out.go hb h92 h34 h32)
          cases q
          · have n32 : ¬ (b.toNat : Int) = 32 := byte_ne (by decide) (fun e => h32 ⟨e, rfl⟩)
            clear hb h92 h34 h32
            go_wp2
            go_roundw
            case rel => exact ⟨k + 1, false, rfl, rfl, rfl, by go_num, by omega, HC2.out, trivial⟩
            case measure => simp [intOf]; omega
          · have n92 : ¬ (b.toNat : Int) = 92 := byte_ne (by decide) (fun e => h92 ⟨rfl, e⟩)
            clear hb h92 h34 h32
            by_cases g32 : (b.toNat : Int) = 32
            · go_wp2
              go_roundw
              case rel => exact ⟨k + 1, true, rfl, rfl, rfl, by go_num, by omega, HC2.out, trivial⟩
              case measure => simp [intOf]; omega
            · go_wp2
              go_roundw
              case rel => exact ⟨k + 1, true, rfl, rfl, rfl, by go_num, by omega, HC2.out, trivial⟩
              case measure => simp [intOf]; omega
      · have q1 : ¬ (k : Int) < (m : Int) := by omega
        have d1 : decide ((k : Int) < (m : Int)) = false := decide_eq_false q1
        have HW2 := hidden (words_end (HC.out.none (by rw [← HM.out]; omega)))
        go_wp2_with (at_builtin; go_must (refine wpList_append_any (by rfl) _ _ 37 (by rfl) w.heap.size 9 i0 _ 1 16 Tryd.underlying37 hi0 hz0 hz1 hz2 rfl (by decide) _ _ _ _ (by rfl) (HO.out.alloc _) (some ⟨wr.heap.size, 0, none⟩) 1 1 (TS [y]) (by rfl) (by rfl) (lies_of (World.news_of_block (heap_alloc_new wr _))) (TS_one _) (by unfold maxLen; omega) (by omega) (by simp; have := HS.out.size; omega) ?_; intro a3 c3 w3 hown hgrow; have R3 := hidden (same_grown (m := 0) (HS.out.alloc _) (HO.out.alloc _) hgrow); have O3 := hidden hown; clear hown hgrow))
        try rw [Exit.noGoto_ret]
        go_returns
        refine ⟨⟨_, rfl, ⟨?_⟩⟩, R3.out⟩
        rw [HW.out, HW2.out, List.length_append, ← HN.out]
        have h := O3.out
        rw [HY.out] at h
        simpa [TS] using h
end Go.Proofs.YtndfgpelioipcaaDoor
