/- Steps opened under the bounded form's bound; what a step makes of a Writer and of the law's text. -/
import Derived.Test.YtfeaaielopaonaaDoorOpsK
import Derived.Test.YtfeaaielopaonaaDoorRefW
namespace Go.Proofs.YtfeaaielopaonaaDoor
open Go.ChangeShapes Go.WideShapes Go.ChangeAt Go.RowKit Go.Joins Go.ChangeMaps
set_option linter.unusedVariables false
theorem bulk_pos {H : Type} : ∀ d : DataW H, 1 ≤ Rows.uptoBulk d
  | .lit (.string _) => by simp [Rows.uptoBulk]
  | .lit (.bool _) => by simp [Rows.uptoBulk]
  | .lit _ => by unfold Rows.uptoBulk; split <;> omega
  | .nil => by simp [Rows.uptoBulk]
  | .ptr _ => by simp [Rows.uptoBulk]
  | .slice _ _ => by simp [Rows.uptoBulk]
  | .agg _ => by simp [Rows.uptoBulk]
  | .iface _ _ => by simp [Rows.uptoBulk]
  | .map _ => by simp [Rows.uptoBulk]
  | .held _ => by simp [Rows.uptoBulk]
theorem bulk_len {H : Type} : ∀ l : List (DataW H), l.length ≤ Rows.uptoBulkAll l
  | [] => Nat.zero_le _
  | d :: l => by
    have h1 := bulk_pos d
    have h2 := bulk_len l
    simp only [Rows.uptoBulkAll, List.length_cons]
    omega
/-- What is weighed item by item is weighed in all. -/
theorem bulk_sum {H : Type} : ∀ (E : List (DataW H)) (f : Nat → Nat), (∀ i (h : i < E.length), f i ≤ Rows.uptoBulk E[i]) → ((List.range E.length).map f).sum ≤ Rows.uptoBulkAll E
  | [], _, _ => by simp
  | d :: E, f, hf => by
    have h0 := hf 0 (by simp)
    have h1 := bulk_sum E (fun i => f (i + 1)) (fun i hi => hf (i + 1) (by simpa using hi))
    simp only [List.length_cons, List.range_succ_eq_map, List.map_cons, List.sum_cons, List.map_map, Rows.uptoBulkAll]
    have e : (List.map (f ∘ Nat.succ) (List.range E.length)).sum = ((List.range E.length).map fun i => f (i + 1)).sum := rfl
    rw [e]
    simp only [List.getElem_cons_zero] at h0
    omega
theorem op_trodU {H : Type} {enc : TypeId × Value → H} {W : World} {base : Nat} {sp : Nat → Bool} {held : Bool} {fuel : Nat} {c0 c1 c2 : Value} {x : DataW H × List MemPlace} (h : DataW.trod enc Tryd.prog W base sp held fuel 28 [c0, c1, c2] = some x) :
    ∃ (kind : Int) (N : Nat) (S : ByteArray), c0 = .int .i64 kind ∧ c1 = .int .u64 N ∧ c2 = .string S ∧ N < 18446744073709551616 ∧ S.size + 1 ≤ Rows.uptoBulk x.1 := by
  obtain ⟨xs, n, _, hx, _, hlen, hf⟩ := DataW.trod_struct Tryd.underlying28 h
  have hl : xs.length = 3 := hlen
  match xs, hl with
  | [x0, x1, x2], _ =>
    have h0 : DataW.trod enc Tryd.prog W base sp held n 3 (List.take (Tryd.prog.cellsOf 3) (List.drop 0 [c0, c1, c2])) = some x0 := hf 0 _ rfl
    have h1 : DataW.trod enc Tryd.prog W base sp held n 26 (List.take (Tryd.prog.cellsOf 26) (List.drop 1 [c0, c1, c2])) = some x1 := hf 1 _ rfl
    have h2 : DataW.trod enc Tryd.prog W base sp held n 9 (List.take (Tryd.prog.cellsOf 9) (List.drop 2 [c0, c1, c2])) = some x2 := hf 2 _ rfl
    rw [cellsI1] at h0
    rw [cellsU1] at h1
    rw [cellsS1] at h2
    obtain ⟨a, q0, _, _⟩ := DataW.trod_int Tryd.underlying3 h0
    obtain ⟨d, q1, _, w1⟩ := DataW.trod_int Tryd.underlying26 h1
    obtain ⟨s, q2, hx2, _⟩ := DataW.trod_string Tryd.underlying9 h2
    simp at q0 q1 q2
    have b1 : 0 ≤ d ∧ d ≤ 18446744073709551615 := by simpa [Lit.wf, IntKind.min, IntKind.max, IntKind.signed, IntKind.bits] using w1
    obtain ⟨m, rfl⟩ := Int.eq_ofNat_of_zero_le b1.1
    refine ⟨a, m, s, q0, q1, q2, by omega, ?_⟩
    have e : x.1 = .agg [x0.1, x1.1, x2.1] := by rw [hx]; rfl
    rw [e, hx2]
    have p0 := bulk_pos x0.1
    have p1 := bulk_pos x1.1
    simp only [Rows.uptoBulk, Rows.uptoBulkAll, size_list]
    omega
set_option maxRecDepth 100000 in
theorem ops_openU {H : Type} {enc : TypeId × Value → H} {W : World} {base : Nat} {v : Value} {d : DataW H} {p : List MemPlace} (hv : Value.okWide Tryd.prog W .any base 22 v) (h : DataW.Trod enc Tryd.prog W 0 (fun _ => true) true 22 v d p)
    (ts : List TypeId) (ds : List (DataW H)) (j : Nat) (hall : (DataW.weightsEach Tryd.prog ts ds).all (· ≤ reachBytes) = true) (hts : ts[j]? = some 22) (hds : ds[j]? = some d) :
    ∃ (n : Nat) (f : Nat → Int × Nat × ByteArray), OpsAt W v n f ∧ ((List.range n).map fun i => (f i).2.2.size + 1).sum ≤ Rows.uptoBulk d := by
  obtain ⟨a1, len1, cap1, rfl⟩ := okWide_slice Tryd.underlying22 hv
  obtain ⟨fuel, hf⟩ := h
  rcases DataW.trod_slice Tryd.underlying22 hf with ⟨hcs, hx⟩ | ⟨a, len, cap, elems, rest, n, _, hcs, hx, _, hl, hm, he, hel, _, _⟩
  · simp [Value.cells] at hcs
    obtain ⟨rfl, rfl, rfl⟩ := hcs
    exact ⟨0, fun _ => (0, 0, ⟨#[]⟩), ⟨none, 0, rfl, fun h => by omega⟩, by simp⟩
  · simp [Value.cells] at hcs
    obtain ⟨rfl, rfl, rfl⟩ := hcs
    rw [cellsOp3] at hel
    have hd : d = .slice (elems.map (·.1)) (rest.map (·.1)) := congrArg Prod.fst hx
    rw [hd] at hds
    have key : ∀ i, i < len1 → ∃ q : Int × Nat × ByteArray, (∀ h : i < elems.length, q.2.2.size + 1 ≤ Rows.uptoBulk elems[i].1) ∧ q.2.1 < 18446744073709551616 ∧ q.2.2.size ≤ 140737488351232 ∧ W.cell? (a.add (i * 3)) = some (.int .i64 q.1) ∧ W.cell? ((a.add (i * 3)).add 1) = some (.int .u64 q.2.1) ∧ W.cell? ((a.add (i * 3)).add 2) = some (.string q.2.2) := by
      intro i hi
      have h1 := hel i hi
      have h2 : elems[i]? = some elems[i] := List.getElem?_eq_getElem (by omega)
      rw [h2] at h1
      obtain ⟨cs, hc, ht⟩ := Option.bind_eq_some_iff.1 h1
      obtain ⟨_, hcl, hcc⟩ := World.cells?_some hc
      match cs, hcl with
      | [c0, c1, c2], _ =>
        obtain ⟨kind, N, S, rfl, rfl, rfl, hN, hSU⟩ := op_trodU ht
        obtain ⟨kind', N', S', q0, q1, q2, _, hS⟩ := op_trod2 ht
        obtain rfl : S = S' := by simpa using q2
        have z0 := hcc 0 (by decide)
        have hw : S.data.toList.length ∈ DataW.weights Tryd.prog 22 (DataW.slice (elems.map (·.1)) (rest.map (·.1))) := by
          have hm := weights_all_mem hS (elems.map (·.1)) (List.mem_map.2 ⟨elems[i], List.getElem_mem _, rfl⟩)
          simp only [DataW.weights, Tryd.underlying22]
          exact List.mem_cons_of_mem _ (List.mem_append_left _ hm)
        have hle := of_decide_eq_true (List.all_eq_true.1 hall _ (DataW.weights_mem_each hts hds _ hw))
        unfold reachBytes at hle
        rw [size_list] at hle
        exact ⟨(kind, N, S), fun _ => hSU, hN, by show S.size ≤ _; omega, by simpa [Addr.add] using z0, hcc 1 (by decide), hcc 2 (by decide)⟩
    obtain ⟨f, hfk⟩ := Go.Deep.choose_lt key
    refine ⟨len1, f, ⟨some a, cap1, rfl, fun hpos => ?_⟩, ?_⟩
    · obtain ⟨b, off, spot⟩ := a
      have hspot : spot = none := by
        obtain ⟨_, _, _, h0, _⟩ := hfk 0 hpos
        simpa [Addr.add] using World.cell?_spot h0
      subst hspot
      refine ⟨b, off, rfl, fun i hi => ?_⟩
      obtain ⟨_, hN, hS, h0, h1, h2⟩ := hfk i hi
      rw [add_plain] at h0 h1 h2
      rw [add_plain] at h1 h2
      exact ⟨hN, hS, h0, h1, h2⟩
    · rw [hd]
      have hle : ((List.range elems.length).map fun i => (f i).2.2.size + 1).sum ≤ Rows.uptoBulkAll (elems.map (·.1)) := by
        have := bulk_sum (elems.map (·.1)) (fun i => (f i).2.2.size + 1) (fun i hi => by
          rw [List.length_map] at hi
          rw [List.getElem_map]
          exact (hfk i (by omega)).1 hi)
        rwa [List.length_map] at this
      have hlen : len1 = elems.length := by omega
      rw [hlen]
      simp only [Rows.uptoBulk]
      omega

theorem wput_lop (most : Int) (st : List UInt8 × Bool) (b : List UInt8) (h1 : st.2 = true → st.1 = []) (h2 : (st.1.length : Int) ≤ max most 0) : wput (max most 0) st b = lop most st b := by
  obtain ⟨bs, ov⟩ := st
  cases ov with
  | true =>
    obtain rfl : bs = [] := h1 rfl
    simp [wput, wOk, lop]
  | false =>
    simp only at h2
    unfold wput lop wOk
    simp only [Bool.not_false, Bool.true_and, decide_eq_true_eq, Bool.false_eq_true, if_false]
    by_cases h : (b.length : Int) ≤ max most 0 - bs.length
    · rw [if_pos h, if_neg (by omega)]
    · rw [if_neg h, if_pos (by omega)]
theorem lop_inv (most : Int) (st : List UInt8 × Bool) (b : List UInt8) (h1 : st.2 = true → st.1 = []) (h2 : (st.1.length : Int) ≤ max most 0) : ((lop most st b).2 = true → (lop most st b).1 = []) ∧ ((lop most st b).1.length : Int) ≤ max most 0 ∧ (lop most st b).1.length ≤ st.1.length + b.length := by
  obtain ⟨bs, ov⟩ := st
  cases ov with
  | true =>
    obtain rfl : bs = [] := h1 rfl
    simp [lop]
    omega
  | false =>
    simp only at h2
    unfold lop
    simp only [Bool.false_eq_true, if_false]
    split
    · exact ⟨fun _ => rfl, by simp; omega, by simp⟩
    · refine ⟨(fun h => by cases h), ?_, by simp⟩
      simp only [List.length_append]
      omega
theorem lop_lop (most : Int) (st : List UInt8 × Bool) (a b : List UInt8) (h1 : st.2 = true → st.1 = []) (h2 : (st.1.length : Int) ≤ max most 0) (ha : 1 ≤ a.length) : lop most (lop most st a) b = lop most st (a ++ b) := by
  obtain ⟨bs, ov⟩ := st
  cases ov with
  | true => simp [lop]
  | false =>
    simp only at h2
    unfold lop
    simp only [Bool.false_eq_true, if_false, List.length_append]
    by_cases h : (a.length : Int) > most - bs.length ∧ a.length > 0
    · rw [if_pos h]
      simp only [if_true]
      rw [if_pos (by omega)]
    · rw [if_neg h]
      simp only [Bool.false_eq_true, if_false, List.length_append]
      by_cases h3 : (b.length : Int) > most - (bs.length + a.length : Nat) ∧ b.length > 0
      · rw [if_pos h3, if_pos (by omega)]
      · rw [if_neg h3, if_neg (by omega), List.append_assoc]
theorem wop_lop (most : Int) (st : List UInt8 × Bool) (kind : Int) (N : Nat) (S : ByteArray) (h1 : st.2 = true → st.1 = []) (h2 : (st.1.length : Int) ≤ max most 0) : wop (max most 0) st kind N S = lop most st (opB kind N S) := by
  have hp := fun b => wput_lop most st b h1 h2
  have hnil : lop most st [] = st := by
    obtain ⟨bs, ov⟩ := st
    cases ov with
    | true => simp [lop]
    | false => simp [lop]
  unfold wop opB
  by_cases k0 : kind = 0
  · rw [if_pos k0, if_pos k0, hp]
  rw [if_neg k0, if_neg k0]
  by_cases k1 : kind = 1
  · rw [if_pos k1, if_pos k1, hp]
  rw [if_neg k1, if_neg k1]
  by_cases k2 : kind = 2
  · rw [if_pos k2, if_pos k2, hp]
  rw [if_neg k2, if_neg k2]
  by_cases k3 : kind = 3
  · rw [if_pos k3, if_pos k3, hp]
  rw [if_neg k3, if_neg k3]
  by_cases k4 : kind = 4
  · rw [if_pos k4, if_pos k4, hp]
  rw [if_neg k4, if_neg k4]
  by_cases k5 : kind = 5
  · rw [if_pos k5, if_pos k5, hp]
    obtain ⟨i1, i2, _⟩ := lop_inv most st (vbytes S.size) h1 h2
    rw [wput_lop most _ _ i1 i2, lop_lop most st (vbytes S.size) _ h1 h2 (vb_pos 9 S.size)]
  rw [if_neg k5, if_neg k5]
  by_cases k6 : kind = 6
  · rw [if_pos k6, if_pos k6, hp]
  rw [if_neg k6, if_neg k6, hnil]
def sumZ (f : Nat → Int × Nat × ByteArray) : Nat → Nat
  | 0 => 0
  | k + 1 => sumZ f k + ((f k).2.2.size + 10)
theorem sumZ_le (f : Nat → Int × Nat × ByteArray) : ∀ n, sumZ f n ≤ 10 * ((List.range n).map fun i => (f i).2.2.size + 1).sum
  | 0 => by simp [sumZ]
  | n + 1 => by
    have := sumZ_le f n
    rw [List.range_succ, List.map_append, List.sum_append]
    simp only [sumZ, List.map_cons, List.map_nil, List.sum_cons, List.sum_nil]
    omega
theorem sumZ_mono (f : Nat → Int × Nat × ByteArray) {k n : Nat} (h : k ≤ n) : sumZ f k ≤ sumZ f n := by
  induction n with
  | zero =>
    obtain rfl : k = 0 := by omega
    exact Nat.le_refl _
  | succ n ih =>
    rcases Nat.lt_or_ge n k with h2 | h2
    · obtain rfl : k = n + 1 := by omega
      exact Nat.le_refl _
    · have := ih h2
      simp only [sumZ]
      omega
end Go.Proofs.YtfeaaielopaonaaDoor
