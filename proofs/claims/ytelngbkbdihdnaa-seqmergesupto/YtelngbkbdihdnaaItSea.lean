/- The program's Search. -/
import Derived.Test.YtelngbkbdihdnaaItBe
namespace Go.Proofs.Ytelngbkbdihdnaa
open Go.RowKit
set_option linter.unusedVariables false
def cmpS (a k : ByteArray) : Int := if ltS a k then -1 else if ltS k a then 1 else 0
theorem cmpS_lt (a k : ByteArray) : ltS a k = decide (cmpS a k < 0) := by
  unfold cmpS
  cases ltS a k
  · cases ltS k a <;> simp
  · simp
set_option maxHeartbeats 1000000 in
set_option maxRecDepth 100000 in
theorem sea_cmp (a : ByteArray) (z : Int) (k : ByteArray) (w : World) : Calls Try.prog 71 #[It a z, .string k] w fun e w' => e = .returned (.int .i64 (cmpS a k)) ∧ Same w w' := by
  have HC : Hid (∀ W, Calls Try.prog 72 #[.string a, .string k] W fun e w' => e = .returned (.int .i64 (cmpS a k)) ∧ W = w') := fun W => cmp_str a k W
  generalize cmpS a k = c at HC ⊢
  have hbe := heap_alloc_new w (.cells #[.string a, .int .i64 z] 54)
  have d0 : (w.alloc (.cells #[.string a, .int .i64 z] 54)).cell? ⟨w.heap.size, 0, none⟩ = some (.string a) := blk_cell hbe
  clear hbe
  go_enter Try.func71, Try.ntmps71
  go_wp2_with (go_at_call 72; go_must (refine (HC.out _).mono ?_; rintro e w1 ⟨rfl, rfl⟩))
  go_returns
  exact ⟨rfl, same_alloc _ _⟩
/-- Where the search ends. -/
structure Sea (l : List Kv) (k : ByteArray) (i : Nat) (b : Bool) : Prop where
  le : i ≤ l.length
  at_ : ∀ (hi : i < l.length), b = (l[i].1.toList == k.toList)
  out : ¬ i < l.length → b = false
  srt : Srt l → i = rkL k l ∧ b = (lk k l).isSome
theorem sea_of {l : List Kv} {k : ByteArray} {i : Nat} (hi : i ≤ l.length) (h : Srt l → (∀ j (hj : j < l.length), j < i → ltS l[j].1 k = true) ∧ (∀ j (hj : j < l.length), i ≤ j → ltS l[j].1 k = false)) :
    ∃ b, Sea l k i b ∧ (∀ (hi : i < l.length), b = (l[i].1.toList == k.toList)) ∧ (¬ i < l.length → b = false) := by
  by_cases h1 : i < l.length
  · refine ⟨l[i].1.toList == k.toList, ⟨hi, fun _ => rfl, fun h => absurd h1 h, fun hs => ?_⟩, fun _ => rfl, fun h => absurd h1 h⟩
    obtain ⟨a, b⟩ := h hs
    obtain ⟨e1, e2⟩ := find_pure hs h1 a (b i h1 (Nat.le_refl _))
    exact ⟨e1.symm, e2.symm⟩
  · refine ⟨false, ⟨hi, fun h => absurd h h1, fun _ => rfl, fun hs => ?_⟩, fun h => absurd h h1, fun _ => rfl⟩
    obtain ⟨a, b⟩ := h hs
    obtain ⟨e1, e2⟩ := find_pure_end (k := k) (l := l) (fun j hj => a j hj (by omega))
    exact ⟨by omega, e2.symm⟩
theorem cmp0 {a k : ByteArray} : (cmpS a k == 0) = (a.toList == k.toList) := by
  unfold cmpS
  by_cases e : a = k
  · subst e
    have := ordS.rf a
    simp [this]
  · have h2 : (a.toList == k.toList) = false := by rw [beq_eq_false_iff_ne]; exact fun x => e (bytes_ext x)
    rw [h2]
    cases h : ltS a k
    · cases h' : ltS k a
      · exact absurd (bytes_ext (ltS_eq h h')) e
      · simp
    · simp
theorem half_lt {i j : Nat} (h : i < j) : i ≤ (i + j) / 2 ∧ (i + j) / 2 < j := by omega
set_option maxHeartbeats 1000000 in
set_option maxRecDepth 100000 in
theorem bsf_any (k : ByteArray) {l : List Kv} {v : Value} {w : World} (h : Its w v l) (hl : (l.length + 1) * 24 ≤ 140737488355328) :
    Calls Try.prog 70 #[v, .string k, .func (.func 71) #[] #[]] w fun e w' => ∃ i b, e = .returned (.tuple #[.int .i64 (i : Nat), .bool b]) ∧ Sea l k i b ∧ Same w w' := by
  have HR : Hid (∀ W, Same w W → Its W v l) := fun W kk => h.same kk
  obtain ⟨a0, c0, rfl, hb⟩ := h
  obtain ⟨n, hn⟩ : ∃ n, l.length = n := ⟨_, rfl⟩
  have HN := hidden hn
  rw [hn] at hl ⊢
  clear hb hn
  have HCE : Hid (∀ W, Same w W → ∀ i (hi : i < l.length), ∃ b off, a0 = some ⟨b, off, none⟩ ∧ W.cell? ⟨b, off + i * 2, none⟩ = some (.string l[i].1) ∧ W.cell? ⟨b, off + i * 2 + 1, none⟩ = some (.int .i64 l[i].2)) := fun W kk i hi => by
    obtain ⟨a1, c1, e1, hc⟩ := HR.out W kk
    obtain ⟨b, off, rfl, hce⟩ := hc (by omega)
    rw [HN.out] at e1
    simp only [Value.slice.injEq] at e1
    exact ⟨b, off, e1.1, hce i hi⟩
  go_enter Try.func70, Try.ntmps70
  go_wp2
  go_loopw [9, 10] (fun iv jv wr => ∃ (i j : Nat), i ≤ j ∧ j ≤ n ∧ iv = .int .i64 i ∧ jv = .int .i64 j ∧ (Srt l → (∀ t (ht : t < l.length), t < i → ltS l[t].1 k = true) ∧ (∀ t (ht : t < l.length), j ≤ t → ltS l[t].1 k = false)) ∧ Same w wr) (fun iv jv wr => (intOf jv).toNat - (intOf iv).toNat)
  case atStart => exact ⟨0, n, Nat.zero_le _, Nat.le_refl _, rfl, rfl, fun _ => ⟨fun t ht h => by omega, fun t ht h => by rw [HN.out] at ht; omega⟩, Kept.refl _ _⟩
  case round =>
    obtain ⟨i, j, hij, hjn, rfl, rfl, hS, hK⟩ := hrel
    have HS := hidden hS
    have HK := hidden hK
    clear hS hK
    by_cases h1 : i < j
    · obtain ⟨m, hm⟩ : ∃ m, (i + j) / 2 = m := ⟨_, rfl⟩
      have hml : m < l.length := by rw [HN.out]; omega
      obtain ⟨b, off, rfl, y0, y1⟩ := HCE.out wr HK.out m hml
      obtain ⟨⟨a, z⟩, hay⟩ : ∃ e, l[m] = e := ⟨_, rfl⟩
      rw [hay] at y0 y1
      have HAY := hidden hay
      have q1 : (i : Int) < (j : Int) := by omega
      have q2 : ((i : Int) + (j : Int)) / 2 = (m : Int) := by omega
      have q3 : (m : Int) < (n : Int) := by omega
      have q4 : (0 : Int) ≤ (m : Int) := Int.natCast_nonneg _
      have HC : Hid (∀ W, Calls Try.prog 71 #[It a z, .string k] W fun e w' => e = .returned (.int .i64 (cmpS a k)) ∧ Same W w') := fun W => sea_cmp a z k W
      have HLT := hidden (cmpS_lt a k)
      generalize cmpS a k = c at HC HLT
      clear hay
      have HQM : Hid (i ≤ m ∧ m < j) := by rw [Hid, ← hm]; exact half_lt h1
      by_cases hc0 : c < 0
      · go_wp2_with (go_at_call 71; go_must (refine (HC.out _).mono ?_; rintro e w1 ⟨rfl, k1⟩; have K1 := hidden (HK.out.trans k1); clear k1))
        refine ⟨⟨m + 1, j, by have := HQM.out; omega, hjn, by go_num, rfl, fun hs => ⟨fun t ht hti => ?_, (HS.out hs).2⟩, K1.out⟩, by have := HQM.out; simp [intOf]; omega⟩
        have hm2 : ltS l[m].1 k = true := by rw [HAY.out]; show ltS a k = true; rw [HLT.out]; simpa using hc0
        by_cases e : t = m
        · subst e; exact hm2
        · exact ordS.lt_lt (List.pairwise_iff_getElem.1 hs t m ht hml (by omega)) hm2
      · go_wp2_with (go_at_call 71; go_must (refine (HC.out _).mono ?_; rintro e w1 ⟨rfl, k1⟩; have K1 := hidden (HK.out.trans k1); clear k1))
        refine ⟨⟨i, m, HQM.out.1, by have := HQM.out; omega, rfl, rfl, fun hs => ⟨(HS.out hs).1, fun t ht hti => ?_⟩, K1.out⟩, by have := HQM.out; simp [intOf]; omega⟩
        have hm2 : ltS l[m].1 k = false := by rw [HAY.out]; show ltS a k = false; rw [HLT.out]; simpa using hc0
        by_cases e : t = m
        · subst e; exact hm2
        · exact ordS.tr _ _ _ hm2 (ordS.as _ _ (List.pairwise_iff_getElem.1 hs m t hml ht (by omega)))
    · obtain rfl : i = j := by omega
      have q1 : ¬ (i : Int) < (i : Int) := by omega
      obtain ⟨bo, hbo, hat, hou⟩ := sea_of (k := k) (l := l) (i := i) (by rw [HN.out]; exact hjn) HS.out
      have HBO := hidden hbo
      by_cases h2 : i < n
      · have hil : i < l.length := by rw [HN.out]; exact h2
        have hb2 := hat hil
        obtain ⟨b, off, rfl, y0, y1⟩ := HCE.out wr HK.out i hil
        obtain ⟨⟨a, z⟩, hay⟩ : ∃ e, l[i] = e := ⟨_, rfl⟩
        rw [hay] at y0 y1 hb2
        rw [← cmp0] at hb2
        have HC : Hid (∀ W, Calls Try.prog 71 #[It a z, .string k] W fun e w' => e = .returned (.int .i64 (cmpS a k)) ∧ Same W w') := fun W => sea_cmp a z k W
        generalize cmpS a k = c at HC hb2
        have q2 : (i : Int) < (n : Int) := by omega
        have q4 : (0 : Int) ≤ (i : Int) := Int.natCast_nonneg _
        have HB2 := hidden hb2
        clear hay hat hou hbo hb2
        go_wp2_with (go_at_call 71; go_must (refine (HC.out _).mono ?_; rintro e w1 ⟨rfl, k1⟩; have K1 := hidden (HK.out.trans k1); clear k1))
        refine bodyPost_ret (v := .tuple #[.int .i64 (i : Nat), .bool bo]) ?_ rfl ⟨i, bo, rfl, HBO.out, K1.out⟩
        have hbz := HB2.out
        simp [results, Try.results70, go_sem, hbz]
      · have q2 : ¬ (i : Int) < (n : Int) := by omega
        have hb2 : bo = false := hou (by rw [HN.out]; exact h2)
        have HB2 := hidden hb2
        clear hat hou hbo hb2
        go_wp2
        refine bodyPost_ret (v := .tuple #[.int .i64 (i : Nat), .bool false]) ?_ rfl ⟨i, .inl ⟨rfl, by have h := HBO.out; rw [HB2.out] at h; exact h, HK.out⟩⟩
        simp [results, Try.results70, go_sem]
set_option maxHeartbeats 1000000 in
set_option maxRecDepth 100000 in
theorem search_any (k : ByteArray) {l : List Kv} {v : Value} {w : World} (h : Its w v l) (hl : (l.length + 1) * 24 ≤ 140737488355328) :
    Calls Try.prog 39 #[v, .string k] w fun e w' => ∃ i b, e = .returned (.tuple #[.int .i64 (i : Nat), .bool b]) ∧ Sea l k i b ∧ Same w w' := by
  have HB := hidden (bsf_any k h hl)
  clear h
  go_enter Try.func39, Try.ntmps39
  go_wp2_with (go_at_call 70; go_must (refine (HB.out).mono ?_; rintro e w1 ⟨i, b, rfl, hs, k1⟩; have HS := hidden hs; have K1 := hidden k1; clear hs k1))
  go_returns
  exact ⟨i, b, rfl, HS.out, K1.out⟩
end Go.Proofs.Ytelngbkbdihdnaa
