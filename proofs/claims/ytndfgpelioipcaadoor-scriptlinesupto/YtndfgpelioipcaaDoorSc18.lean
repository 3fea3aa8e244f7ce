/- script: the document's ReadNumber, walked. -/
import Derived.Test.YtndfgpelioipcaaDoorSc15
namespace Go.Proofs.YtndfgpelioipcaaDoor
open Go.RowKit
set_option linter.unusedVariables false
set_option linter.unusedSimpArgs false
def digs : Nat → List UInt8 → Option Nat
  | n, [] => some n
  | n, c :: l => if 48 ≤ c.toNat ∧ c.toNat ≤ 57 then digs (10 * n + (c.toNat - 48)) l else none
theorem digs_cons (n : Nat) (c : UInt8) (l : List UInt8) : digs n (c :: l) = if 48 ≤ c.toNat ∧ c.toNat ≤ 57 then digs (10 * n + (c.toNat - 48)) l else none := rfl
def rdU (P : List UInt8) : Option Nat := if 18 < P.length then none else if 1 < P.length ∧ P.head? = some 48 then none else digs 0 P
def rdV : Option Nat → Int × Bool
  | some n => ((n : Int), true)
  | none => (0, false)
def rdN : List UInt8 → Int × Bool
  | [] => (0, false)
  | [c] => rdV (rdU [c])
  | c :: d :: l => if c = 45 then (-(rdN (d :: l)).1, (rdN (d :: l)).2 && decide (0 < (rdN (d :: l)).1)) else rdV (rdU (c :: d :: l))
theorem digs_lt : ∀ (l : List UInt8) (n m k : Nat), n < 10 ^ k → digs n l = some m → m < 10 ^ (k + l.length)
  | [], n, m, k, h, e => by cases e; simpa using h
  | c :: l, n, m, k, h, e => by
    unfold digs at e
    split at e
    · have := digs_lt l _ _ (k + 1) (by rw [Nat.pow_succ]; omega) e
      rw [List.length_cons]
      rwa [show k + (l.length + 1) = k + 1 + l.length by omega]
    · cases e
theorem rdV_lt (P : List UInt8) : -1000000000000000000 < (rdV (rdU P)).1 ∧ (rdV (rdU P)).1 < 1000000000000000000 := by
  cases h : rdU P with
  | none => exact ⟨by decide, by decide⟩
  | some n =>
    unfold rdU at h
    split at h
    · cases h
    · split at h
      · cases h
      · have h1 := digs_lt P 0 n 0 (by decide) h
        have h2 : 10 ^ (0 + P.length) ≤ 10 ^ 18 := Nat.pow_le_pow_right (by decide) (by omega)
        simp only [rdV]
        have : (10 : Nat) ^ 18 = 1000000000000000000 := by decide
        omega
theorem rdN_lt : ∀ P : List UInt8, -1000000000000000000 < (rdN P).1 ∧ (rdN P).1 < 1000000000000000000
  | [] => ⟨by decide, by decide⟩
  | [c] => by unfold rdN; exact rdV_lt _
  | c :: d :: l => by
    have h := rdN_lt (d :: l)
    unfold rdN
    split
    · simp only; omega
    · exact rdV_lt _
def rnV (p : Int × Bool) : Value := .tuple #[.int .i64 p.1, .bool p.2]
set_option maxHeartbeats 1000000 in
set_option maxRecDepth 100000 in
theorem rn_nil (w : World) : Calls Tryd.prog 31 #[.string (BA ([]))] w fun e w' => e = .returned (rnV (rdN [])) ∧ w = w' := by
    have hms : ((BA []).size : Int) = 0 := by rw [BA_size]; rfl
    generalize BA [] = s at *
    unfold rdN rnV
    go_enter Tryd.func31, Tryd.ntmps31
    go_wp2
    go_returns
    exact ⟨rfl, rfl⟩
set_option maxHeartbeats 1000000 in
set_option maxRecDepth 100000 in
theorem rn_one (c : UInt8) (w : World) : Calls Tryd.prog 31 #[.string (BA ([c]))] w fun e w' => e = .returned (rnV (rdN [c])) ∧ w = w' := by
    have HAt := hidden (str_at (BA [c]))
    rw [BA_data] at HAt
    have hms : ((BA [c]).size : Int) = ((1 : Nat) : Int) := by rw [BA_size]; rfl
    have hU : rdU [c] = digs 0 [c] := by simp [rdU]
    have hR : rdN [c] = rdV (rdU [c]) := by unfold rdN; rfl
    rw [hR]
    obtain ⟨P, hP⟩ : ∃ P, P = [c] := ⟨_, rfl⟩
    have hl : P.length = 1 := by rw [hP]; rfl
    rw [← hP] at hU HAt hms ⊢
    generalize BA P = s at *
    obtain ⟨m, hm⟩ : ∃ m, m = 1 := ⟨_, rfl⟩
    rw [← hm] at hms hl
    have p1 : ¬ (1 : Int) < (m : Int) := by omega
    have p2 : ¬ (m : Int) < 1 := by omega
    have p3 : ¬ (18 : Int) < (m : Int) := by omega
    have HU := hidden hU
    clear hP hR hU
    unfold rnV
    go_enter Tryd.func31, Tryd.ntmps31
    go_wp2
    go_loopw [6, 7] (fun u x wr => ∃ (k j : Nat), u = .int .i64 (k : Int) ∧ x = .int .i64 (j : Int) ∧ j ≤ m ∧ k < 10 ^ j ∧ digs 0 P = digs k (P.drop j) ∧ wr = w) (fun _ x _ => m - (intOf x).toNat)
    case atStart => exact ⟨0, 0, rfl, rfl, by omega, by decide, rfl, rfl⟩
    case round =>
      obtain ⟨k, j, rfl, rfl, hjm, hk, hD, rfl⟩ := hrel
      by_cases g1 : j < m
      · have q1 : (j : Int) < (m : Int) := by omega
        have hp : 10 ^ j ≤ 10 ^ 17 := Nat.pow_le_pow_right (by decide) (by omega)
        rw [show (10 : Nat) ^ 17 = 100000000000000000 by decide] at hp
        obtain ⟨b, hb⟩ : ∃ b, P[j]? = some b := ⟨P[j], List.getElem?_eq_getElem (by omega)⟩
        have x1 : ∀ W : World, (Instr.index 9 (.string s) (.int .i64 (j : Int))).run Tryd.prog W = .ok (.int .u8 (b.toNat : Int)) W := fun W => HAt.out W j b hb
        rw [List.drop_eq_getElem_cons (by omega : j < P.length), show P[j] = b from (List.getElem?_eq_some_iff.1 hb).2] at hD
        rw [digs_cons] at hD
        have hbl := b.toNat_lt
        have a0 : IntKind.i64.wrap ((j : Int) + 1) = (j : Int) + 1 := by rw [IntKind.wrap_i64]; omega
        generalize b.toNat = c at *
        by_cases g2 : 48 ≤ c ∧ c ≤ 57
        · rw [if_pos g2] at hD
          have q2 : ¬ (c : Int) < 48 := by omega
          have q3 : ¬ (57 : Int) < (c : Int) := by omega
          have q4 : (c : Int) ≤ 57 := by omega
          have a1 : IntKind.u8.wrap ((c : Int) - 48) = (c : Int) - 48 := by simp [IntKind.wrap, IntKind.signed, IntKind.bits]; omega
          have a2 : IntKind.i64.wrap ((c : Int) - 48) = (c : Int) - 48 := by rw [IntKind.wrap_i64]; omega
          have a3 : IntKind.i64.wrap (10 * (k : Int)) = 10 * (k : Int) := by rw [IntKind.wrap_i64]; omega
          have a4 : IntKind.i64.wrap (10 * (k : Int) + ((c : Int) - 48)) = 10 * (k : Int) + ((c : Int) - 48) := by rw [IntKind.wrap_i64]; omega
          have HD := hidden hD
          clear hD
          go_wp2
          go_roundw
          case rel => exact ⟨10 * k + (c - 48), j + 1, by congr 1; omega, by congr 1, by omega, by rw [Nat.pow_succ]; omega, HD.out, by first | rfl | trivial⟩
          case measure => simp [intOf]; omega
        · rw [if_neg g2] at hD
          have hE : rdV (rdU P) = (0, false) := by rw [HU.out, hD]; rfl
          have HE := hidden hE
          clear hD hE
          by_cases g3 : c < 48
          · have q2 : (c : Int) < 48 := by omega
            go_wp2
            go_returns
            exact ⟨by rw [HE.out]; rfl, rfl⟩
          · have q2 : ¬ (c : Int) < 48 := by omega
            have q3 : (57 : Int) < (c : Int) := by omega
            go_wp2
            go_returns
            exact ⟨by rw [HE.out]; rfl, rfl⟩
      · have q1 : ¬ (j : Int) < (m : Int) := by omega
        have hE : rdV (rdU P) = ((k : Int), true) := by rw [HU.out, hD, List.drop_eq_nil_of_le (by omega)]; rfl
        have HE := hidden hE
        clear hD hE
        go_wp2
        go_returns
        exact ⟨by rw [HE.out]; rfl, rfl⟩
set_option maxHeartbeats 1000000 in
set_option maxRecDepth 100000 in
theorem rn_more (c d : UInt8) (l : List UInt8) (hs : (c :: d :: l).length ≤ 17592186044416) (w : World) (ih : Calls Tryd.prog 31 #[.string (BA (d :: l))] w fun e w' => e = .returned (rnV (rdN (d :: l))) ∧ w = w') : Calls Tryd.prog 31 #[.string (BA (c :: d :: l))] w fun e w' => e = .returned (rnV (rdN (c :: d :: l))) ∧ w = w' := by
    have HAt := hidden (str_at (BA (c :: d :: l)))
    have HSl := hidden (str_from (BA (c :: d :: l)))
    rw [BA_data] at HAt HSl
    have x0 : ∀ W : World, (Instr.index 9 (.string (BA (c :: d :: l))) (.int .i64 0)).run Tryd.prog W = .ok (.int .u8 (c.toNat : Int)) W := fun W => HAt.out W 0 c rfl
    obtain ⟨m, hm⟩ : ∃ m, m = (c :: d :: l).length := ⟨_, rfl⟩
    have hms : ((BA (c :: d :: l)).size : Int) = (m : Int) := by rw [BA_size, hm]
    have p1 : (1 : Int) < (m : Int) := by rw [hm]; simp only [List.length_cons]; omega
    have p2 : ¬ (m : Int) < 1 := by omega
    rw [← hm] at hs
    by_cases h1 : c = 45
    · have IH := hidden ih
      clear ih
      have hlt := rdN_lt (d :: l)
      have y1 : ∀ W : World, (Instr.sliceAt 9 (.string (BA (c :: d :: l))) (some (.int .i64 1)) none none).run Tryd.prog W = .ok (.string (BA (d :: l))) W := fun W => HSl.out W 1 (by rw [BA_size]; simp)
      have hR : rdN (c :: d :: l) = (-(rdN (d :: l)).1, (rdN (d :: l)).2 && decide (0 < (rdN (d :: l)).1)) := by conv => lhs; unfold rdN
                                                                                                                 rw [if_pos h1]
      rw [hR]
      subst h1
      rw [show (((45 : UInt8).toNat : Nat) : Int) = 45 from rfl] at x0
      generalize rdN (d :: l) = z at *
      obtain ⟨n, ok⟩ := z
      simp only at hlt ⊢
      have a1 : IntKind.i64.wrap (-n) = -n := by rw [IntKind.wrap_i64]; omega
      generalize BA (45 :: d :: l) = s at *
      generalize BA (d :: l) = s2 at *
      clear hR HSl HAt hm
      unfold rnV at IH ⊢
      cases ok with
      | false =>
        go_enter Tryd.func31, Tryd.ntmps31
        go_wp2_with (go_at_call 31; refine IH.out.mono ?_; rintro e w1 ⟨rfl, rfl⟩; dsimp only)
        go_returns
        exact ⟨rfl, rfl⟩
      | true =>
        by_cases g1 : 0 < n
        · go_enter Tryd.func31, Tryd.ntmps31
          go_wp2_with (go_at_call 31; refine IH.out.mono ?_; rintro e w1 ⟨rfl, rfl⟩; dsimp only)
          go_returns
          exact ⟨by simp [g1], rfl⟩
        · go_enter Tryd.func31, Tryd.ntmps31
          go_wp2_with (go_at_call 31; refine IH.out.mono ?_; rintro e w1 ⟨rfl, rfl⟩; dsimp only)
          go_returns
          exact ⟨by simp [g1], rfl⟩
    · have hR : rdN (c :: d :: l) = rdV (rdU (c :: d :: l)) := by conv => lhs; unfold rdN
                                                                  rw [if_neg h1]
      rw [hR]
      have n1 := byte_ne (k := 45) (by decide) h1
      by_cases h2 : 18 < m
      · have hE : rdU (c :: d :: l) = none := by unfold rdU; rw [if_pos (by omega)]
        rw [hE]
        have p3 : (18 : Int) < (m : Int) := by omega
        generalize BA (c :: d :: l) = s at *
        clear hR HSl HAt hm hE
        unfold rnV
        go_enter Tryd.func31, Tryd.ntmps31
        go_wp2
        go_returns
        exact ⟨rfl, rfl⟩
      · have p3 : ¬ (18 : Int) < (m : Int) := by omega
        by_cases h3 : c = 48
        · have hE : rdU (c :: d :: l) = none := by unfold rdU; rw [if_neg (by omega), if_pos ⟨by omega, by rw [h3]; rfl⟩]
          rw [hE]
          subst h3
          rw [show (((48 : UInt8).toNat : Nat) : Int) = 48 from rfl] at x0 n1
          generalize BA (48 :: d :: l) = s at *
          clear hR HSl HAt hm hE
          unfold rnV
          go_enter Tryd.func31, Tryd.ntmps31
          go_wp2
          go_returns
          exact ⟨rfl, rfl⟩
        · have n2 := byte_ne (k := 48) (by decide) h3
          have hU : rdU (c :: d :: l) = digs 0 (c :: d :: l) := by unfold rdU; rw [if_neg (by omega), if_neg (fun h => h3 (by simpa using h.2))]
          clear hR HSl
          obtain ⟨P, hP⟩ : ∃ P, P = c :: d :: l := ⟨_, rfl⟩
          rw [← hP] at hU HAt hms hm x0 ⊢
          have hl : P.length = m := hm.symm
          generalize BA P = s at *
          have HU := hidden hU
          clear hP hm hs hU
          unfold rnV
          go_enter Tryd.func31, Tryd.ntmps31
          go_wp2
          go_loopw [6, 7] (fun u x wr => ∃ (k j : Nat), u = .int .i64 (k : Int) ∧ x = .int .i64 (j : Int) ∧ j ≤ m ∧ k < 10 ^ j ∧ digs 0 P = digs k (P.drop j) ∧ wr = w) (fun _ x _ => m - (intOf x).toNat)
          case atStart => exact ⟨0, 0, rfl, rfl, by omega, by decide, rfl, rfl⟩
          case round =>
            obtain ⟨k, j, rfl, rfl, hjm, hk, hD, rfl⟩ := hrel
            by_cases g1 : j < m
            · have q1 : (j : Int) < (m : Int) := by omega
              have hp : 10 ^ j ≤ 10 ^ 17 := Nat.pow_le_pow_right (by decide) (by omega)
              rw [show (10 : Nat) ^ 17 = 100000000000000000 by decide] at hp
              obtain ⟨b, hb⟩ : ∃ b, P[j]? = some b := ⟨P[j], List.getElem?_eq_getElem (by omega)⟩
              have x1 : ∀ W : World, (Instr.index 9 (.string s) (.int .i64 (j : Int))).run Tryd.prog W = .ok (.int .u8 (b.toNat : Int)) W := fun W => HAt.out W j b hb
              rw [List.drop_eq_getElem_cons (by omega : j < P.length), show P[j] = b from (List.getElem?_eq_some_iff.1 hb).2] at hD
              rw [digs_cons] at hD
              have hbl := b.toNat_lt
              have a0 : IntKind.i64.wrap ((j : Int) + 1) = (j : Int) + 1 := by rw [IntKind.wrap_i64]; omega
              generalize b.toNat = c at *
              by_cases g2 : 48 ≤ c ∧ c ≤ 57
              · rw [if_pos g2] at hD
                have q2 : ¬ (c : Int) < 48 := by omega
                have q3 : ¬ (57 : Int) < (c : Int) := by omega
                have q4 : (c : Int) ≤ 57 := by omega
                have a1 : IntKind.u8.wrap ((c : Int) - 48) = (c : Int) - 48 := by simp [IntKind.wrap, IntKind.signed, IntKind.bits]; omega
                have a2 : IntKind.i64.wrap ((c : Int) - 48) = (c : Int) - 48 := by rw [IntKind.wrap_i64]; omega
                have a3 : IntKind.i64.wrap (10 * (k : Int)) = 10 * (k : Int) := by rw [IntKind.wrap_i64]; omega
                have a4 : IntKind.i64.wrap (10 * (k : Int) + ((c : Int) - 48)) = 10 * (k : Int) + ((c : Int) - 48) := by rw [IntKind.wrap_i64]; omega
                have HD := hidden hD
                clear hD
                go_wp2
                go_roundw
                case rel => exact ⟨10 * k + (c - 48), j + 1, by congr 1; omega, by congr 1, by omega, by rw [Nat.pow_succ]; omega, HD.out, by first | rfl | trivial⟩
                case measure => simp [intOf]; omega
              · rw [if_neg g2] at hD
                have hE : rdV (rdU P) = (0, false) := by rw [HU.out, hD]; rfl
                have HE := hidden hE
                clear hD hE
                by_cases g3 : c < 48
                · have q2 : (c : Int) < 48 := by omega
                  go_wp2
                  go_returns
                  exact ⟨by rw [HE.out]; rfl, rfl⟩
                · have q2 : ¬ (c : Int) < 48 := by omega
                  have q3 : (57 : Int) < (c : Int) := by omega
                  go_wp2
                  go_returns
                  exact ⟨by rw [HE.out]; rfl, rfl⟩
            · have q1 : ¬ (j : Int) < (m : Int) := by omega
              have hE : rdV (rdU P) = ((k : Int), true) := by rw [HU.out, hD, List.drop_eq_nil_of_le (by omega)]; rfl
              have HE := hidden hE
              clear hD hE
              go_wp2
              go_returns
              exact ⟨by rw [HE.out]; rfl, rfl⟩
theorem readNumber_any : ∀ (P : List UInt8) (hs : P.length ≤ 17592186044416) (w : World), Calls Tryd.prog 31 #[.string (BA P)] w fun e w' => e = .returned (rnV (rdN P)) ∧ w = w'
  | [], hs, w => rn_nil w
  | [c], hs, w => rn_one c w
  | c :: d :: l, hs, w => rn_more c d l hs w (readNumber_any (d :: l) (by rw [List.length_cons] at hs ⊢; rw [List.length_cons] at hs; omega) w)
end Go.Proofs.YtndfgpelioipcaaDoor
