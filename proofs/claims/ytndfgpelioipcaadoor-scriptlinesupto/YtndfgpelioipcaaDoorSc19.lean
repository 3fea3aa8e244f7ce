/- script: the document's split, walked. -/
import Derived.Test.YtndfgpelioipcaaDoorSc9
namespace Go.Proofs.YtndfgpelioipcaaDoor
open Go.RowKit
set_option linter.unusedVariables false
set_option linter.unusedSimpArgs false
/-- The pieces that the document's split tells: the piece so far, whether it is quoted, what is left. -/
def spD : Nat → List UInt8 → Bool → List UInt8 → List (List UInt8)
  | 0, cur, q, R => [cur ++ R]
  | n + 1, cur, q, [] => [cur]
  | n + 1, cur, q, c :: R =>
    if c = 32 ∧ q = false then cur :: spD n [] false R
    else if c = 92 ∧ q = true then
      match R with
      | [] => [cur ++ [c]]
      | d :: R2 => spD n (cur ++ [c, d]) q R2
    else if c = 34 ∧ (q = true ∨ cur = []) then spD n (cur ++ [c]) (!q) R
    else spD n (cur ++ [c]) q R
theorem spD_more : ∀ (n k : Nat) (cur : List UInt8) (q : Bool) (R : List UInt8), R.length < n → R.length < k → spD n cur q R = spD k cur q R
  | 0, _, _, _, _, h, _ => absurd h (Nat.not_lt_zero _)
  | _, 0, _, _, _, _, h => absurd h (Nat.not_lt_zero _)
  | n + 1, k + 1, cur, q, [], _, _ => rfl
  | n + 1, k + 1, cur, q, c :: R, h, g => by
    rw [List.length_cons] at h g
    unfold spD
    rw [spD_more n k [] false R (by omega) (by omega), spD_more n k (cur ++ [c]) (!q) R (by omega) (by omega), spD_more n k (cur ++ [c]) q R (by omega) (by omega)]
    cases R with
    | nil => rfl
    | cons d R2 =>
      rw [List.length_cons] at h g
      simp only
      rw [spD_more n k (cur ++ [c, d]) q R2 (by omega) (by omega)]
def spR (cur : List UInt8) (q : Bool) (R : List UInt8) : List (List UInt8) := spD (R.length + 1) cur q R
def splitL (P : List UInt8) : List (List UInt8) := spR [] false P
theorem spR_nil (cur : List UInt8) (q : Bool) : spR cur q [] = [cur] := rfl
theorem spR_cons (cur : List UInt8) (q : Bool) (c : UInt8) (R : List UInt8) : spR cur q (c :: R) = if c = 32 ∧ q = false then cur :: spR [] false R
    else if c = 92 ∧ q = true then
      match R with
      | [] => [cur ++ [c]]
      | d :: R2 => spR (cur ++ [c, d]) q R2
    else if c = 34 ∧ (q = true ∨ cur = []) then spR (cur ++ [c]) (!q) R
    else spR (cur ++ [c]) q R := by
  unfold spR
  rw [List.length_cons]
  conv => lhs; unfold spD
  cases R with
  | nil => rfl
  | cons d R2 =>
    simp only [List.length_cons]
    rw [spD_more (R2.length + 1 + 1) (R2.length + 1) (cur ++ [c, d]) q R2 (by omega) (by omega)]
/-- How far the splitting of P is: i bytes looked at, the piece begun at f. -/
def SP (P : List UInt8) (i f : Nat) (q : Bool) : List (List UInt8) := spR ((P.take i).drop f) q (P.drop i)
theorem cur_more {P : List UInt8} {i f : Nat} {b : UInt8} (hb : P[i]? = some b) (hf : f ≤ i) : (P.take (i + 1)).drop f = (P.take i).drop f ++ [b] := by
  obtain ⟨h, e⟩ := List.getElem?_eq_some_iff.1 hb
  rw [List.take_add_one, hb, Option.toList_some, List.drop_append_of_le_length (by rw [List.length_take]; omega)]
theorem drop_more {P : List UInt8} {i : Nat} {b : UInt8} (hb : P[i]? = some b) : P.drop i = b :: P.drop (i + 1) := by
  obtain ⟨h, e⟩ := List.getElem?_eq_some_iff.1 hb
  rw [List.drop_eq_getElem_cons h, e]
theorem cur_nil {P : List UInt8} {i f : Nat} (hi : i ≤ P.length) (hf : f ≤ i) : (P.take i).drop f = [] ↔ f = i := by
  constructor
  · intro h
    have := congrArg List.length h
    simp [List.length_drop, List.length_take] at this
    omega
  · rintro rfl
    rw [List.drop_eq_nil_of_le]
    rw [List.length_take]; omega
theorem SP.cut {P : List UInt8} {i f : Nat} (hb : P[i]? = some 32) (hf : f ≤ i) : SP P i f false = (P.take i).drop f :: SP P (i + 1) (i + 1) false := by
  unfold SP
  rw [drop_more hb, spR_cons, if_pos ⟨rfl, rfl⟩]
  congr 2
  rw [List.drop_eq_nil_of_le]
  rw [List.length_take]; omega
theorem SP.esc {P : List UInt8} {i f : Nat} (hb : P[i]? = some 92) (hf : f ≤ i) (h : i + 1 < P.length) : SP P i f true = SP P (i + 2) f true := by
  obtain ⟨d, hd⟩ : ∃ d, P[i + 1]? = some d := ⟨_, List.getElem?_eq_getElem h⟩
  unfold SP
  rw [drop_more hb, drop_more hd, spR_cons, if_neg (by decide), if_pos ⟨rfl, rfl⟩]
  simp only
  rw [cur_more hd (by omega), cur_more hb hf, List.append_assoc]
  rfl
theorem SP.esc_end {P : List UInt8} {i f : Nat} (hb : P[i]? = some 92) (hf : f ≤ i) (h : ¬ i + 1 < P.length) : SP P i f true = SP P (i + 1) f true := by
  unfold SP
  rw [drop_more hb, List.drop_eq_nil_of_le (by omega : P.length ≤ i + 1), spR_cons, if_neg (by decide), if_pos ⟨rfl, rfl⟩, cur_more hb hf]
  rfl
theorem SP.quo {P : List UInt8} {i f : Nat} {q : Bool} (hb : P[i]? = some 34) (hf : f ≤ i) (h : q = true ∨ f = i) : SP P i f q = SP P (i + 1) f (!q) := by
  obtain ⟨hi, _⟩ := List.getElem?_eq_some_iff.1 hb
  unfold SP
  rw [drop_more hb, spR_cons, if_neg (fun h => absurd h.1 (by decide)), if_neg (fun h => absurd h.1 (by decide)), if_pos ⟨rfl, h.imp id (fun e => (cur_nil (by omega) hf).2 e)⟩, cur_more hb hf]
theorem SP.go {P : List UInt8} {i f : Nat} {q : Bool} {b : UInt8} (hb : P[i]? = some b) (hf : f ≤ i) (h1 : ¬ (b = 32 ∧ q = false)) (h2 : ¬ (b = 92 ∧ q = true)) (h3 : ¬ (b = 34 ∧ (q = true ∨ f = i))) : SP P i f q = SP P (i + 1) f q := by
  obtain ⟨hi, _⟩ := List.getElem?_eq_some_iff.1 hb
  unfold SP
  rw [drop_more hb, spR_cons, if_neg h1, if_neg h2, if_neg (fun h => h3 ⟨h.1, h.2.imp id (fun e => (cur_nil (by omega) hf).1 e)⟩), cur_more hb hf]
theorem SP.last {P : List UInt8} {f : Nat} {q : Bool} {i : Nat} (h : i = P.length) : SP P i f q = [(P.take i).drop f] := by
  unfold SP
  rw [List.drop_eq_nil_of_le (by omega : P.length ≤ i), spR_nil]
set_option maxHeartbeats 1000000 in
set_option maxRecDepth 100000 in
theorem split_any (P : List UInt8) (hs : P.length ≤ 1099511627776) (w : World) : Calls Tryd.prog 30 #[.string (BA P)] w fun e w' => (∃ v, e = .returned v ∧ OwnT w.heap.size w' v (splitL P)) ∧ Same w w' := by
  obtain ⟨i0, hi0, hz0, hz1, hz2⟩ := info_parts infoS
  have HAt := hidden (fun W j b h => str_at (BA P) W j b h)
  have HSl := hidden (fun W i j h g => str_slice (BA P) W i j h g)
  rw [BA_data] at HAt HSl
  obtain ⟨m, hm⟩ : ∃ m, m = P.length := ⟨_, rfl⟩
  have HBs := hidden (show (BA P).size = m by rw [hm]; exact BA_size P)
  rw [HBs.out] at HSl
  have hms : ((BA P).size : Int) = (m : Int) := by rw [HBs.out]
  have HM := hidden hm
  rw [← hm] at hs
  generalize BA P = y at *
  clear hm
  go_enter Tryd.func30, Tryd.ntmps30
  go_wp2
  go_loopw [3, 4, 5, 6] (fun u a b x wr => ∃ (n c i f : Nat) (ao : Option Addr) (done : List (List UInt8)) (q : Bool), u = .slice ao n c ∧ a = .int .i64 (f : Int) ∧ b = .bool q ∧ x = .int .i64 (i : Int) ∧ n = done.length ∧ n ≤ i ∧ i ≤ m + 1 ∧ f ≤ i ∧ splitL P = done ++ (if i ≤ m then SP P i f q else []) ∧ wr.ownsRow w.heap.size 9 1 (.slice ao n c) n (TS (done.map BA)) ∧ Same w wr) (fun _ _ _ x _ => m + 1 - (intOf x).toNat)
  case atStart => exact ⟨0, 0, 0, 0, none, [], false, rfl, rfl, rfl, rfl, rfl, by omega, by omega, by omega, by rw [if_pos (by omega)]; simp [SP, splitL], World.ownsRow_nil _ _ _ _, Kept.refl _ _⟩
  case round =>
    obtain ⟨n, c, i, f, ao, done, q, rfl, rfl, rfl, rfl, hn, hni, hi, hf, hW, hO, hS⟩ := hrel
    have HN := hidden hn
    have HO := hidden hO
    have HS := hidden hS
    clear hn hO hS
    by_cases h1 : i ≤ m
    · rw [if_pos h1] at hW
      have HW := hidden hW
      clear hW
      have q1 : (i : Int) ≤ (m : Int) := by omega
      have w1 : IntKind.i64.wrap ((i : Int) + 1) = (i : Int) + 1 := by rw [IntKind.wrap_i64]; omega
      by_cases h2 : i = m
      · have HW2 := hidden (show splitL P = done ++ [(P.take i).drop f] by rw [HW.out, SP.last (by rw [h2]; exact HM.out)])
        subst h2
        have x2 := fun W => HSl.out W f i hf h1
        obtain ⟨X, hX⟩ : ∃ X, X = (P.take i).drop f := ⟨_, rfl⟩
        rw [← hX] at x2 HW2
        clear hX HW HSl HAt
        go_wp2_with (at_builtin; go_must (refine wpList_append_any (by rfl) _ _ 37 (by rfl) w.heap.size 9 i0 _ 1 16 Tryd.underlying37 hi0 hz0 hz1 hz2 rfl (by decide) _ _ _ _ (by rfl) (HO.out.alloc _) (some ⟨wr.heap.size, 0, none⟩) 1 1 (TS [BA X]) (by rfl) (by rfl) (lies_of (World.news_of_block (heap_alloc_new wr _))) (TS_one _) (by unfold maxLen; omega) (by omega) (by simp; have := HS.out.size; omega) ?_; intro a3 c3 w3 hown hgrow; have R3 := hidden (same_grown (m := 0) (HS.out.alloc _) (HO.out.alloc _) hgrow); have O3 := hidden hown; clear hown hgrow))
        go_roundw
        case rel => exact ⟨n + 1, c3, i + 1, i + 1, a3, done ++ [X], q, rfl, by go_num, rfl, by go_num, by rw [HN.out]; simp, by omega, by omega, by omega, by rw [HW2.out, if_neg (by omega)]; simp, by have h := O3.out; simpa [TS] using h, R3.out⟩
        case measure => simp [intOf]
      have q2 : ¬ (i : Int) = (m : Int) := by omega
      have d2 : ((i : Int) == (m : Int)) = false := by simpa using q2
      obtain ⟨b, hb⟩ : ∃ b, P[i]? = some b := ⟨_, List.getElem?_eq_getElem (by rw [← HM.out]; omega)⟩
      have x1 := fun W => HAt.out W i b hb
      by_cases h32 : b = 32 ∧ q = false
      · obtain ⟨rfl, rfl⟩ := h32
        have HW2 := hidden (show splitL P = done ++ (P.take i).drop f :: SP P (i + 1) (i + 1) false by rw [HW.out, SP.cut hb hf])
        have x2 := fun W => HSl.out W f i hf h1
        rw [show (((32 : UInt8).toNat : Nat) : Int) = 32 from rfl] at x1
        obtain ⟨X, hX⟩ : ∃ X, X = (P.take i).drop f := ⟨_, rfl⟩
        rw [← hX] at x2 HW2
        clear hX HW HSl HAt hb
        go_wp2_with (at_builtin; go_must (refine wpList_append_any (by rfl) _ _ 37 (by rfl) w.heap.size 9 i0 _ 1 16 Tryd.underlying37 hi0 hz0 hz1 hz2 rfl (by decide) _ _ _ _ (by rfl) (HO.out.alloc _) (some ⟨wr.heap.size, 0, none⟩) 1 1 (TS [BA X]) (by rfl) (by rfl) (lies_of (World.news_of_block (heap_alloc_new wr _))) (TS_one _) (by unfold maxLen; omega) (by omega) (by simp; have := HS.out.size; omega) ?_; intro a3 c3 w3 hown hgrow; have R3 := hidden (same_grown (m := 0) (HS.out.alloc _) (HO.out.alloc _) hgrow); have O3 := hidden hown; clear hown hgrow))
        go_roundw
        case rel => exact ⟨n + 1, c3, i + 1, i + 1, a3, done ++ [X], false, rfl, by go_num, rfl, by go_num, by rw [HN.out]; simp, by omega, by omega, by omega, by rw [HW2.out, if_pos (by omega)]; simp, by have h := O3.out; simpa [TS] using h, R3.out⟩
        case measure => simp [intOf]; omega
      by_cases h92 : b = 92 ∧ q = true
      · obtain ⟨rfl, rfl⟩ := h92
        rw [show (((92 : UInt8).toNat : Nat) : Int) = 92 from rfl] at x1
        have w3 : IntKind.i64.wrap ((m : Int) - 1) = (m : Int) - 1 := by rw [IntKind.wrap_i64]; omega
        have w4 : IntKind.i64.wrap ((m : Int) - 1 + 1) = (m : Int) := by rw [IntKind.wrap_i64]; omega
        have w5 : IntKind.i64.wrap ((i : Int) + 1 + 1) = (i : Int) + 2 := by rw [IntKind.wrap_i64]; omega
        by_cases h3 : i + 1 < m
        · have HW2 := hidden (show splitL P = done ++ SP P (i + 2) f true by rw [HW.out, SP.esc hb hf (by rw [← HM.out]; exact h3)])
          have q3 : ¬ (m : Int) ≤ (i : Int) + 1 := by omega
          clear HW HSl HAt hb h32
          go_wp2
          go_roundw
          case rel => exact ⟨n, c, i + 2, f, ao, done, true, rfl, rfl, rfl, by go_num, HN.out, by omega, by omega, by omega, by rw [HW2.out, if_pos (by omega)], HO.out, HS.out⟩
          case measure => simp [intOf]; omega
        · have HW2 := hidden (show splitL P = done ++ SP P (i + 1) f true by rw [HW.out, SP.esc_end hb hf (by rw [← HM.out]; exact h3)])
          have q3 : (m : Int) ≤ (i : Int) + 1 := by omega
          clear HW HSl HAt hb h32
          go_wp2
          go_roundw
          case rel => exact ⟨n, c, i + 1, f, ao, done, true, rfl, rfl, rfl, by congr 1; omega, HN.out, by omega, by omega, by omega, by rw [HW2.out, if_pos (by omega)], HO.out, HS.out⟩
          case measure => simp [intOf]; omega
      by_cases h34 : b = 34 ∧ (q = true ∨ f = i)
      · obtain ⟨rfl, h34⟩ := h34
        rw [show (((34 : UInt8).toNat : Nat) : Int) = 34 from rfl] at x1
        have HW2 := hidden (show splitL P = done ++ SP P (i + 1) f (!q) by rw [HW.out, SP.quo hb hf h34])
        clear HW HSl HAt hb h32 h92
        cases q
        · obtain rfl : f = i := h34.resolve_left (by decide)
          go_wp2
          go_roundw
          case rel => exact ⟨n, c, f + 1, f, ao, done, true, rfl, rfl, rfl, by go_num, HN.out, by omega, by omega, by omega, by rw [HW2.out, if_pos (by omega)]; rfl, HO.out, HS.out⟩
          case measure => simp [intOf]; omega
        · go_wp2
          go_roundw
          case rel => exact ⟨n, c, i + 1, f, ao, done, false, rfl, rfl, rfl, by go_num, HN.out, by omega, by omega, by omega, by rw [HW2.out, if_pos (by omega)]; rfl, HO.out, HS.out⟩
          case measure => simp [intOf]; omega
      have HW2 := hidden (show splitL P = done ++ SP P (i + 1) f q by rw [HW.out, SP.go hb hf h32 h92 h34])
      clear HW HSl HAt hb
      cases q
      · have n32 : ¬ (b.toNat : Int) = 32 := byte_ne (by decide) (fun e => h32 ⟨e, rfl⟩)
        by_cases g34 : b = 34
        · have q4 : ¬ (i : Int) = (f : Int) := fun e => h34 ⟨g34, .inr (by omega)⟩
          subst g34
          rw [show (((34 : UInt8).toNat : Nat) : Int) = 34 from rfl] at x1 n32
          clear h32 h92 h34
          go_wp2
          go_roundw
          case rel => exact ⟨n, c, i + 1, f, ao, done, false, rfl, rfl, rfl, by go_num, HN.out, by omega, by omega, by omega, by rw [HW2.out, if_pos (by omega)], HO.out, HS.out⟩
          case measure => simp [intOf]; omega
        · have n34 : ¬ (b.toNat : Int) = 34 := byte_ne (by decide) g34
          clear h32 h92 h34 g34
          by_cases n92 : (b.toNat : Int) = 92
          · rw [n92] at x1 n32 n34
            clear n92
            go_wp2
            go_roundw
            case rel => exact ⟨n, c, i + 1, f, ao, done, false, rfl, rfl, rfl, by go_num, HN.out, by omega, by omega, by omega, by rw [HW2.out, if_pos (by omega)], HO.out, HS.out⟩
            case measure => simp [intOf]; omega
          · go_wp2
            go_roundw
            case rel => exact ⟨n, c, i + 1, f, ao, done, false, rfl, rfl, rfl, by go_num, HN.out, by omega, by omega, by omega, by rw [HW2.out, if_pos (by omega)], HO.out, HS.out⟩
            case measure => simp [intOf]; omega
      · have n92 : ¬ (b.toNat : Int) = 92 := byte_ne (by decide) (fun e => h92 ⟨e, rfl⟩)
        have n34 : ¬ (b.toNat : Int) = 34 := byte_ne (by decide) (fun e => h34 ⟨e, .inl rfl⟩)
        clear h32 h92 h34
        by_cases n32 : (b.toNat : Int) = 32
        · rw [n32] at x1 n92 n34
          clear n32
          go_wp2
          go_roundw
          case rel => exact ⟨n, c, i + 1, f, ao, done, true, rfl, rfl, rfl, by go_num, HN.out, by omega, by omega, by omega, by rw [HW2.out, if_pos (by omega)], HO.out, HS.out⟩
          case measure => simp [intOf]; omega
        · go_wp2
          go_roundw
          case rel => exact ⟨n, c, i + 1, f, ao, done, true, rfl, rfl, rfl, by go_num, HN.out, by omega, by omega, by omega, by rw [HW2.out, if_pos (by omega)], HO.out, HS.out⟩
          case measure => simp [intOf]; omega
    · rw [if_neg h1, List.append_nil] at hW
      have HW := hidden hW
      clear hW
      have q1 : ¬ (i : Int) ≤ (m : Int) := by omega
      clear HSl HAt
      go_wp2
      go_returns
      refine ⟨⟨_, rfl, ⟨?_⟩⟩, HS.out⟩
      rw [HW.out, ← HN.out]
      exact HO.out
end Go.Proofs.YtndfgpelioipcaaDoor
