/- script: the document's Number, walked. -/
import Derived.Test.YtndfgpelioipcaaDoorSc6
import Derived.Test.YtndfgpelioipcaaDoorSc3
namespace Go.Proofs.YtndfgpelioipcaaDoor
open Go.RowKit
set_option linter.unusedVariables false
set_option linter.unusedSimpArgs false
theorem str_add (a b : List UInt8) (W : World) (h : a.length + b.length ≤ 9223372036854775807) : (Op.stringOp .add (BA a) (BA b)).run Tryd.prog W = .ok (.string (BA (a ++ b))) W := by
  rw [run_string_add_sum W _ _ (by rw [BA_size, BA_size]; exact h)]
  congr 2
theorem one_str (p : Nat) (hp : p < 256) (W : World) : (convert 42 9 (.slice (some ⟨W.heap.size, 0, none⟩) 1 1)).run Tryd.prog (W.alloc (.cells #[.int .u8 (p : Int)] 5)) = .ok (.string (BA [UInt8.ofNat p])) (W.alloc (.cells #[.int .u8 (p : Int)] 5)) := by
  have h := World.ownsRow_lit (base := 0) (e := 5) (size := 1) W #[.int .u8 (p : Int)] 1 (Nat.zero_le _) (by decide) rfl
  have e : (#[Value.int .u8 (p : Int)] : Array Value).toList = ([UInt8.ofNat p] : List UInt8).map U8 := by
    simp only [U8, List.map_cons, List.map_nil, UInt8.toNat_ofNat']
    rw [Nat.mod_eq_of_lt (by omega)]
  rw [e] at h
  exact own_text h
theorem dec_step (m : Nat) (h : 9 < m) : Lib.decDigits m = Lib.decDigits (m / 10) ++ [UInt8.ofNat (48 + m % 10)] := by
  conv => lhs; unfold Lib.decDigits
  rw [dif_neg (by omega)]
theorem dec_len (m : Nat) (h : m < 18446744073709551616) : (Lib.decDigits m).length ≤ 20 := by
  rw [Lib.decDigits_length]
  by_cases h0 : m = 0
  · subst h0; rw [Lib.nDigits_small (by decide)]; decide
  · rcases Nat.lt_or_ge 20 (Lib.nDigits m) with h1 | h1
    · exfalso
      have : ∀ (k u : Nat), k < Lib.nDigits u → 10 ^ k ≤ u ∨ u = 0 := by
        intro k
        induction k with
        | zero => intro u _; omega
        | succ k ih =>
          intro u hu
          by_cases hs : u < 10
          · rw [Lib.nDigits_small hs] at hu; omega
          · rw [Lib.nDigits_big hs] at hu
            rcases ih (u / 10) (by omega) with h | h
            · left; rw [Nat.pow_succ]; omega
            · omega
      rcases this 20 m h1 with h2 | h2
      · have : (10 : Nat) ^ 20 = 100000000000000000000 := by decide
        omega
      · exact h0 h2
    · exact h1
set_option maxHeartbeats 1000000 in
set_option maxRecDepth 100000 in
theorem number_any (n : Int) (h0 : -9223372036854775808 ≤ n) (h1 : n ≤ 9223372036854775807) (w : World) : Calls Tryd.prog 27 #[.int .i64 n] w fun e w' => e = .returned (.string (BA (Lib.itoa n))) ∧ Same w w' := by
  have key : ∀ (M : Nat) (sg : List UInt8), (Lib.itoa n = sg ++ Lib.decDigits M) → M < 18446744073709551616 → sg.length ≤ 1 → (if n < 0 then sg = [45] ∧ IntKind.u64.wrap (-(IntKind.u64.wrap n)) = (M : Int) else sg = [] ∧ IntKind.u64.wrap n = (M : Int)) →
      Calls Tryd.prog 27 #[.int .i64 n] w fun e w' => e = .returned (.string (BA (Lib.itoa n))) ∧ Same w w' := by
    intro M sg hI hM hsg hc
    have HI := hidden hI
    have HOne := hidden one_str
    have HAdd := hidden str_add
    have hML := dec_len M hM
    by_cases hn : n < 0
    · rw [if_pos hn] at hc
      obtain ⟨rfl, hw⟩ := hc
      have d0 : decide (n < 0) = true := decide_eq_true hn
      clear hI hn
      go_enter Tryd.func27, Tryd.ntmps27
      go_wp2
      go_loopw [4, 5] (fun u v wr => ∃ (m : Nat) (S : List UInt8), u = .string (BA S) ∧ v = .int .u64 (m : Int) ∧ m ≤ M ∧ Lib.decDigits M = Lib.decDigits m ++ S ∧ Same w wr) (fun _ v _ => (intOf v).toNat)
      case atStart => exact ⟨M, [], rfl, rfl, Nat.le_refl _, by simp, Kept.refl _ _⟩
      case round =>
        obtain ⟨m, S, rfl, rfl, hmM, hD, hS⟩ := hrel
        have hSl : S.length ≤ 20 := by have := congrArg List.length hD; rw [List.length_append] at this; omega
        have HD := hidden hD
        have HS := hidden hS
        clear hD hS
        by_cases g1 : 9 < m
        · have q1 : (9 : Int) < (m : Int) := by omega
          obtain ⟨d, hd⟩ : ∃ d, d = m % 10 := ⟨_, rfl⟩
          obtain ⟨m2, hm2⟩ : ∃ m2, m2 = m / 10 := ⟨_, rfl⟩
          have a1 : (m : Int).tmod 10 = (d : Int) := by rw [hd]; rfl
          have a2 : (m : Int).tdiv 10 = (m2 : Int) := by rw [hm2]; rfl
          have a3 : IntKind.u64.wrap (d : Int) = (d : Int) := by simp [IntKind.wrap, IntKind.signed, IntKind.bits]; omega
          have a4 : IntKind.u64.wrap (m2 : Int) = (m2 : Int) := by simp [IntKind.wrap, IntKind.signed, IntKind.bits]; omega
          have a5 : IntKind.u64.wrap (48 + (d : Int)) = 48 + (d : Int) := by simp [IntKind.wrap, IntKind.signed, IntKind.bits]; omega
          have a6 : IntKind.u8.wrap (48 + (d : Int)) = 48 + (d : Int) := by simp [IntKind.wrap, IntKind.signed, IntKind.bits]; omega
          have b1 : (m : Int) % 10 = (d : Int) := by omega
          have b2 : (m : Int) / 10 = (m2 : Int) := by omega
          have o1 := HOne.out (48 + d) (by omega) wr
          rw [show ((48 + d : Nat) : Int) = 48 + (d : Int) by omega] at o1
          have s1 := fun W => HAdd.out [UInt8.ofNat (48 + d)] S W (by simp; omega)
          have HD2 := hidden (show Lib.decDigits M = Lib.decDigits m2 ++ ([UInt8.ofNat (48 + d)] ++ S) by rw [HD.out, dec_step m g1, hm2, hd]; simp)
          have hlt : m2 < m := by omega
          clear hd hm2
          generalize [UInt8.ofNat (48 + d)] = X at *
          go_wp2
          go_roundw
          case rel => exact ⟨m2, X ++ S, rfl, rfl, by omega, HD2.out, HS.out.alloc _⟩
          case measure => simp [intOf]; omega
        · have q1 : ¬ (9 : Int) < (m : Int) := by omega
          have a5 : IntKind.u64.wrap (48 + (m : Int)) = 48 + (m : Int) := by simp [IntKind.wrap, IntKind.signed, IntKind.bits]; omega
          have a6 : IntKind.u8.wrap (48 + (m : Int)) = 48 + (m : Int) := by simp [IntKind.wrap, IntKind.signed, IntKind.bits]; omega
          have o1 := HOne.out (48 + m) (by omega) wr
          rw [show ((48 + m : Nat) : Int) = 48 + (m : Int) by omega] at o1
          have s1 : ∀ W : World, (Op.stringOp .add ⟨#[45]⟩ (BA [UInt8.ofNat (48 + m)])).run Tryd.prog W = .ok (.string (BA (([45] : List UInt8) ++ [UInt8.ofNat (48 + m)]))) W := fun W => HAdd.out ([45] : List UInt8) [UInt8.ofNat (48 + m)] W (by simp)
          have s2 := fun W => HAdd.out (([45] : List UInt8) ++ [UInt8.ofNat (48 + m)]) S W (by simp; omega)
          have HE := hidden (show Lib.itoa n = ([45] : List UInt8) ++ [UInt8.ofNat (48 + m)] ++ S by rw [HI.out, HD.out, Lib.decDigits_one (by omega)]; simp)
          generalize ([45] : List UInt8) ++ [UInt8.ofNat (48 + m)] = Y at *
          generalize [UInt8.ofNat (48 + m)] = X at *
          go_wp2
          go_returns
          exact ⟨by rw [HE.out]; rfl, HS.out.alloc _⟩
    · rw [if_neg hn] at hc
      obtain ⟨rfl, hw⟩ := hc
      have d0 : decide (n < 0) = false := decide_eq_false hn
      clear hI hn
      go_enter Tryd.func27, Tryd.ntmps27
      go_wp2
      go_loopw [4, 5] (fun u v wr => ∃ (m : Nat) (S : List UInt8), u = .string (BA S) ∧ v = .int .u64 (m : Int) ∧ m ≤ M ∧ Lib.decDigits M = Lib.decDigits m ++ S ∧ Same w wr) (fun _ v _ => (intOf v).toNat)
      case atStart => exact ⟨M, [], rfl, rfl, Nat.le_refl _, by simp, Kept.refl _ _⟩
      case round =>
        obtain ⟨m, S, rfl, rfl, hmM, hD, hS⟩ := hrel
        have hSl : S.length ≤ 20 := by have := congrArg List.length hD; rw [List.length_append] at this; omega
        have HD := hidden hD
        have HS := hidden hS
        clear hD hS
        by_cases g1 : 9 < m
        · have q1 : (9 : Int) < (m : Int) := by omega
          obtain ⟨d, hd⟩ : ∃ d, d = m % 10 := ⟨_, rfl⟩
          obtain ⟨m2, hm2⟩ : ∃ m2, m2 = m / 10 := ⟨_, rfl⟩
          have a1 : (m : Int).tmod 10 = (d : Int) := by rw [hd]; rfl
          have a2 : (m : Int).tdiv 10 = (m2 : Int) := by rw [hm2]; rfl
          have a3 : IntKind.u64.wrap (d : Int) = (d : Int) := by simp [IntKind.wrap, IntKind.signed, IntKind.bits]; omega
          have a4 : IntKind.u64.wrap (m2 : Int) = (m2 : Int) := by simp [IntKind.wrap, IntKind.signed, IntKind.bits]; omega
          have a5 : IntKind.u64.wrap (48 + (d : Int)) = 48 + (d : Int) := by simp [IntKind.wrap, IntKind.signed, IntKind.bits]; omega
          have a6 : IntKind.u8.wrap (48 + (d : Int)) = 48 + (d : Int) := by simp [IntKind.wrap, IntKind.signed, IntKind.bits]; omega
          have b1 : (m : Int) % 10 = (d : Int) := by omega
          have b2 : (m : Int) / 10 = (m2 : Int) := by omega
          have o1 := HOne.out (48 + d) (by omega) wr
          rw [show ((48 + d : Nat) : Int) = 48 + (d : Int) by omega] at o1
          have s1 := fun W => HAdd.out [UInt8.ofNat (48 + d)] S W (by simp; omega)
          have HD2 := hidden (show Lib.decDigits M = Lib.decDigits m2 ++ ([UInt8.ofNat (48 + d)] ++ S) by rw [HD.out, dec_step m g1, hm2, hd]; simp)
          have hlt : m2 < m := by omega
          clear hd hm2
          generalize [UInt8.ofNat (48 + d)] = X at *
          go_wp2
          go_roundw
          case rel => exact ⟨m2, X ++ S, rfl, rfl, by omega, HD2.out, HS.out.alloc _⟩
          case measure => simp [intOf]; omega
        · have q1 : ¬ (9 : Int) < (m : Int) := by omega
          have a5 : IntKind.u64.wrap (48 + (m : Int)) = 48 + (m : Int) := by simp [IntKind.wrap, IntKind.signed, IntKind.bits]; omega
          have a6 : IntKind.u8.wrap (48 + (m : Int)) = 48 + (m : Int) := by simp [IntKind.wrap, IntKind.signed, IntKind.bits]; omega
          have o1 := HOne.out (48 + m) (by omega) wr
          rw [show ((48 + m : Nat) : Int) = 48 + (m : Int) by omega] at o1
          have s1 : ∀ W : World, (Op.stringOp .add ⟨#[]⟩ (BA [UInt8.ofNat (48 + m)])).run Tryd.prog W = .ok (.string (BA (([] : List UInt8) ++ [UInt8.ofNat (48 + m)]))) W := fun W => HAdd.out ([] : List UInt8) [UInt8.ofNat (48 + m)] W (by simp)
          have s2 := fun W => HAdd.out (([] : List UInt8) ++ [UInt8.ofNat (48 + m)]) S W (by simp; omega)
          have HE := hidden (show Lib.itoa n = ([] : List UInt8) ++ [UInt8.ofNat (48 + m)] ++ S by rw [HI.out, HD.out, Lib.decDigits_one (by omega)]; simp)
          generalize ([] : List UInt8) ++ [UInt8.ofNat (48 + m)] = Y at *
          generalize [UInt8.ofNat (48 + m)] = X at *
          go_wp2
          go_returns
          exact ⟨by rw [HE.out]; rfl, HS.out.alloc _⟩
  by_cases hn : n < 0
  · refine key n.natAbs [45] (by unfold Lib.itoa; rw [if_pos hn]; rfl) (by omega) (by simp) ?_
    rw [if_pos hn]
    refine ⟨rfl, ?_⟩
    simp [IntKind.wrap, IntKind.signed, IntKind.bits]
    omega
  · refine key n.toNat [] (by unfold Lib.itoa; rw [if_neg hn]; rfl) (by omega) (by simp) ?_
    rw [if_neg hn]
    refine ⟨rfl, ?_⟩
    simp [IntKind.wrap, IntKind.signed, IntKind.bits]
    omega
end Go.Proofs.YtndfgpelioipcaaDoor
