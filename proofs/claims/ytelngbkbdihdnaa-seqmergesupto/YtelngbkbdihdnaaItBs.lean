/- slices.BinarySearch of strings. -/
import Derived.Test.YtelngbkbdihdnaaItSea
import Derived.Test.YtelngbkbdihdnaaItWo
namespace Go.Proofs.Ytelngbkbdihdnaa
open Go.RowKit
set_option linter.unusedVariables false
/-- Texts that do not fall. -/
def Rise (l : List ByteArray) : Prop := ∀ i j (hi : i < l.length) (hj : j < l.length), i ≤ j → ltS l[j] l[i] = false
theorem memS_at {l : List ByteArray} {x : ByteArray} (hs : Rise l) {i : Nat} (hi : i ≤ l.length) (h1 : ∀ j (hj : j < l.length), j < i → ltS l[j] x = true) (h2 : ∀ j (hj : j < l.length), i ≤ j → ltS l[j] x = false) :
    (∀ (h : i < l.length), memS l x = (l[i].toList == x.toList)) ∧ (¬ i < l.length → memS l x = false) := by
  have hlow : ∀ j (hj : j < l.length), j < i → (l[j].toList == x.toList) = false := fun j hj hji => by
    rw [beq_eq_false_iff_ne]
    intro e
    have h3 := h1 j hj hji
    rw [bytes_ext e, ordS.rf] at h3
    cases h3
  constructor
  · intro h
    cases hb : (l[i].toList == x.toList)
    · unfold memS
      rw [List.any_eq_false]
      intro k hk
      obtain ⟨j, hj, rfl⟩ := List.getElem_of_mem hk
      by_cases hji : j < i
      · rw [hlow j hj hji]; simp
      · have e1 : ltS x l[i] = true := by
          cases h' : ltS x l[i]
          · have := ltS_eq (h2 i h (Nat.le_refl _)) h'
            rw [this] at hb
            simp at hb
          · rfl
        have e2 : ltS x l[j] = true := ordS.lt_le e1 (hs i j h hj (by omega))
        have e3 : (l[j].toList == x.toList) = false := by
          rw [beq_eq_false_iff_ne]
          intro e
          rw [bytes_ext e, ordS.rf] at e2
          cases e2
        rw [e3]; simp
    · unfold memS
      rw [List.any_eq_true]
      exact ⟨l[i], List.getElem_mem _, hb⟩
  · intro h
    unfold memS
    rw [List.any_eq_false]
    intro k hk
    obtain ⟨j, hj, rfl⟩ := List.getElem_of_mem hk
    rw [hlow j hj (by omega)]
    simp
set_option maxHeartbeats 1000000 in
set_option maxRecDepth 100000 in
theorem isNaN_s (x : ByteArray) (w : World) : Calls Try.prog 86 #[.string x] w fun e w' => e = .returned (.bool false) ∧ w = w' := by
  have h1 : (x.toList == x.toList) = true := by simp
  go_enter Try.func86, Try.ntmps86
  go_wp2
  go_returns
  exact ⟨by first | rfl | simp, rfl⟩
set_option maxHeartbeats 1000000 in
set_option maxRecDepth 100000 in
theorem bs_any (k : ByteArray) {l : List ByteArray} {v : Value} {w : World} (h : Strs w v l) (hs : Rise l) (hl : l.length * 16 ≤ 140737488355328) :
    Calls Try.prog 69 #[v, .string k] w fun e w' => ∃ i : Nat, e = .returned (.tuple #[.int .i64 i, .bool (memS l k)]) ∧ w = w' := by
  have HR := hidden h
  obtain ⟨a0, c0, rfl⟩ := h.form
  have HRS := hidden hs
  obtain ⟨n, hn⟩ : ∃ n, l.length = n := ⟨_, rfl⟩
  have HN := hidden hn
  have HCE : Hid (∀ i (hi : i < l.length), ∃ a, a0 = some a ∧ w.cell? (a.add i) = some (.string l[i])) := fun i hi => by
    rcases HR.out with ⟨_, e⟩ | ⟨a, cap, e, hc⟩
    · rw [e] at hi; simp at hi
    · simp only [Value.slice.injEq] at e
      exact ⟨a, e.1, hc i hi⟩
  rw [hn] at hl ⊢
  clear h hn hs
  go_enter Try.func69, Try.ntmps69
  go_wp2
  go_loop [7, 8] (fun iv jv => ∃ (i j : Nat), i ≤ j ∧ j ≤ n ∧ iv = .int .i64 i ∧ jv = .int .i64 j ∧ (∀ t (ht : t < l.length), t < i → ltS l[t] k = true) ∧ (∀ t (ht : t < l.length), j ≤ t → ltS l[t] k = false)) (fun iv jv => (intOf jv).toNat - (intOf iv).toNat)
  case atStart => exact ⟨0, n, Nat.zero_le _, Nat.le_refl _, rfl, rfl, fun t ht h => by omega, fun t ht h => by rw [HN.out] at ht; omega⟩
  case round =>
    obtain ⟨i, j, hij, hjn, rfl, rfl, hS1, hS2⟩ := hrel
    have H1 := hidden hS1
    have H2 := hidden hS2
    clear hS1 hS2
    by_cases h1 : i < j
    · obtain ⟨m, hm⟩ : ∃ m, (i + j) / 2 = m := ⟨_, rfl⟩
      have hml : m < l.length := by rw [HN.out]; omega
      obtain ⟨ad, rfl, y0⟩ := HCE.out m hml
      obtain ⟨a, hay⟩ : ∃ e, l[m] = e := ⟨_, rfl⟩
      rw [hay] at y0
      have HAY := hidden hay
      have q1 : (i : Int) < (j : Int) := by omega
      have q2 : ((i : Int) + (j : Int)) / 2 = (m : Int) := by omega
      have q3 : (m : Int) < (n : Int) := by omega
      have q4 : (0 : Int) ≤ (m : Int) := Int.natCast_nonneg _
      have HQM : Hid (i ≤ m ∧ m < j) := by rw [Hid, ← hm]; exact half_lt h1
      have HC : Hid (∀ W, Calls Try.prog 46 #[.string a, .string k] W fun e w' => e = .returned (.bool (ltS a k)) ∧ W = w') := fun W => less_str a k W
      generalize hlt : ltS a k = bo at HC
      clear hay
      cases bo
      · go_wp2_with (go_at_call 46; go_must (refine (HC.out _).mono ?_; rintro e w1 ⟨rfl, rfl⟩))
        refine ⟨⟨i, m, HQM.out.1, by have := HQM.out; omega, rfl, rfl, H1.out, fun t ht hti => ?_⟩, by have := HQM.out; simp [intOf]; omega⟩
        exact ordS.tr _ _ _ (show ltS l[m] k = false by rw [HAY.out]; exact hlt) (HRS.out m t hml ht (by omega))
      · go_wp2_with (go_at_call 46; go_must (refine (HC.out _).mono ?_; rintro e w1 ⟨rfl, rfl⟩))
        refine ⟨⟨m + 1, j, by have := HQM.out; omega, hjn, by go_num, rfl, fun t ht hti => ?_, H2.out⟩, by have := HQM.out; simp [intOf]; omega⟩
        exact ordS.le_lt (HRS.out t m ht hml (by omega)) (show ltS l[m] k = true by rw [HAY.out]; exact hlt)
    · obtain rfl : i = j := by omega
      have q1 : ¬ (i : Int) < (i : Int) := by omega
      obtain ⟨hat, hou⟩ := memS_at (x := k) HRS.out (i := i) (by rw [HN.out]; exact hjn) H1.out H2.out
      by_cases h2 : i < n
      · have hil : i < l.length := by rw [HN.out]; exact h2
        have hb2 := hat hil
        obtain ⟨ad, rfl, y0⟩ := HCE.out i hil
        obtain ⟨a, hay⟩ : ∃ e, l[i] = e := ⟨_, rfl⟩
        rw [hay] at y0 hb2
        have q2 : (i : Int) < (n : Int) := by omega
        have q4 : (0 : Int) ≤ (i : Int) := Int.natCast_nonneg _
        have HB2 := hidden hb2
        clear hay hat hou hb2
        generalize hbo : (a.toList == k.toList) = bo at HB2
        cases bo
        · go_wp2_with (go_at_call 86; go_must (refine (isNaN_s _ _).mono ?_; rintro e w1 ⟨rfl, rfl⟩))
          go_returns
          first | exact ⟨i, by rw [HB2.out]; first | rfl | simp, rfl⟩ | exact ⟨⟨i, by rw [HB2.out]; first | rfl | simp⟩, rfl⟩
        · go_wp2_with (go_at_call 86; go_must (refine (isNaN_s _ _).mono ?_; rintro e w1 ⟨rfl, rfl⟩))
          go_returns
          first | exact ⟨i, by rw [HB2.out]; first | rfl | simp, rfl⟩ | exact ⟨⟨i, by rw [HB2.out]; first | rfl | simp⟩, rfl⟩
      · have q2 : ¬ (i : Int) < (n : Int) := by omega
        have HB2 := hidden (hou (by rw [HN.out]; exact h2))
        clear hat hou
        go_wp2
        go_returns
        first | exact ⟨i, by rw [HB2.out]; first | rfl | simp, rfl⟩ | exact ⟨⟨i, by rw [HB2.out]; first | rfl | simp⟩, rfl⟩
end Go.Proofs.Ytelngbkbdihdnaa
