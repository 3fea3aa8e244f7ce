/- node: the halves of a node, pure: they are fine, they rejoin, they fit. -/
import Derived.Test.YtpjgghalnkfdkaaDoorN45
namespace Go.Proofs.YtpjgghalnkfdkaaDoor
open Go.RowKit
set_option linter.unusedVariables false
set_option linter.unusedSimpArgs false
theorem rises_tail {a : ByteArray} : ∀ {l : List ByteArray}, rises (a :: l) = true → rises l = true
  | [], _ => rfl
  | b :: l, h => by simp only [rises, Bool.and_eq_true] at h; exact h.2
theorem rises_drop : ∀ {l : List ByteArray} (k : Nat), rises l = true → rises (l.drop k) = true
  | _, 0, h => by simpa using h
  | [], k + 1, _ => by simp [rises]
  | a :: l, k + 1, h => by rw [List.drop_succ_cons]; exact rises_drop k (rises_tail h)
theorem rises_take : ∀ {l : List ByteArray} (k : Nat), rises l = true → rises (l.take k) = true
  | _, 0, _ => by simp [rises]
  | [], k + 1, _ => by simp [rises]
  | [a], k + 1, _ => by simp [rises]
  | a :: b :: l, 1, _ => by simp [rises]
  | a :: b :: l, k + 2, h => by
    simp only [rises, Bool.and_eq_true] at h
    have := rises_take (k + 1) h.2
    rw [List.take_succ_cons] at this
    rw [List.take_succ_cons, List.take_succ_cons]
    simp only [rises, Bool.and_eq_true]
    exact ⟨h.1, this⟩
theorem mem_seg {α : Type} {l : List α} {x : α} {a b : Nat} (h : x ∈ (l.drop a).take b) : x ∈ l := List.mem_of_mem_drop (List.mem_of_mem_take h)
theorem Nd.Fine.sub {n : Nd} (h : n.Fine) (lo hi : Nat) (h1 : lo ≤ hi) (h2 : hi ≤ n.keys.length) : (n.sub lo hi).Fine := by
  have hk : ∀ x ∈ n.keys, 1 ≤ x.size ∧ x.size ≤ 64 := fun x hx => by
    obtain ⟨i, hi, rfl⟩ := List.getElem_of_mem hx
    exact h.k i hi
  have hv : ∀ x ∈ n.vals, x.size ≤ 64 := fun x hx => by
    obtain ⟨i, hi, rfl⟩ := List.getElem_of_mem hx
    exact h.v i hi
  have hkid := h.kid
  rw [List.any_eq_false] at hkid
  unfold Nd.sub
  cases hl : n.leaf
  · obtain ⟨a, b⟩ := h.inner hl
    rw [if_neg (by simp)]
    refine ⟨fun i hi => hk _ (mem_seg (List.getElem_mem hi)), fun i hi => by simp at hi, (fun e => by cases e), fun _ => ⟨rfl, ?_⟩, ?_, rises_take _ (rises_drop _ h.up)⟩
    · simp only [List.length_take, List.length_drop]; omega
    · rw [List.any_eq_false]; exact fun x hx => hkid x (mem_seg hx)
  · obtain ⟨a, b⟩ := h.leaf hl
    rw [if_pos rfl]
    refine ⟨fun i hi => hk _ (mem_seg (List.getElem_mem hi)), fun i hi => hv _ (mem_seg (List.getElem_mem hi)), fun _ => ⟨?_, rfl⟩, (fun e => by cases e), rfl, rises_take _ (rises_drop _ h.up)⟩
    simp only [List.length_take, List.length_drop]; omega
theorem seg_len {α : Type} {l : List α} {a b : Nat} (h : b ≤ l.length) : ((l.drop a).take (b - a)).length = b - a := by
  rw [List.length_take, List.length_drop]; omega
theorem Nd.sub_len {n : Nd} {lo hi : Nat} (h2 : hi ≤ n.keys.length) : (n.sub lo hi).keys.length = hi - lo := by
  unfold Nd.sub
  cases n.leaf
  · exact seg_len h2
  · exact seg_len h2
theorem Nd.sub_leaf (n : Nd) (lo hi : Nat) : (n.sub lo hi).leaf = n.leaf := by
  unfold Nd.sub
  cases hl : n.leaf <;> rfl
theorem seg_all {α : Type} {l : List α} {i k : Nat} (hk : k = l.length) : (l.drop 0).take (i - 0) ++ (l.drop i).take (k - i) = l := by
  subst hk
  rw [List.drop_zero, Nat.sub_zero, List.take_of_length_le (l := l.drop i) (by rw [List.length_drop]; omega), List.take_append_drop]
theorem seg_key {l : List ByteArray} {i k : Nat} (hk : k = l.length) (hi : i < k) : (l.drop 0).take (i - 0) ++ [l.getD i ⟨#[]⟩] ++ (l.drop (i + 1)).take (k - (i + 1)) = l := by
  subst hk
  rw [List.drop_zero, Nat.sub_zero, List.take_of_length_le (l := l.drop (i + 1)) (by rw [List.length_drop]; omega), getD_at hi, List.append_assoc]
  have : [l[i]] ++ l.drop (i + 1) = l.drop i := by rw [List.singleton_append, List.getElem_cons_drop]
  rw [this, List.take_append_drop]
/-- The halves of a leaf give it again. -/
theorem Nd.join_leaf {n : Nd} (h : n.Fine) (hl : n.leaf = true) (i : Nat) : (⟨true, (n.sub 0 i).keys ++ (n.sub i n.keys.length).keys, (n.sub 0 i).vals ++ (n.sub i n.keys.length).vals, (n.sub 0 i).kids ++ (n.sub i n.keys.length).kids⟩ : Nd) = n := by
  obtain ⟨a, b⟩ := h.leaf hl
  unfold Nd.sub
  rw [hl, if_pos rfl, if_pos rfl]
  simp only []
  rw [seg_all rfl, seg_all a.symm]
  cases n
  simp only [List.append_nil] at hl b ⊢
  rw [hl, b]
theorem Nd.join_inner {n : Nd} (h : n.Fine) (hl : n.leaf = false) (i : Nat) (hi : i < n.keys.length) : (⟨false, (n.sub 0 i).keys ++ [n.keys.getD i ⟨#[]⟩] ++ (n.sub (i + 1) n.keys.length).keys, (n.sub 0 i).vals ++ (n.sub (i + 1) n.keys.length).vals, (n.sub 0 i).kids ++ (n.sub (i + 1) n.keys.length).kids⟩ : Nd) = n := by
  obtain ⟨a, b⟩ := h.inner hl
  unfold Nd.sub
  rw [hl, if_neg (by simp), if_neg (by simp)]
  simp only []
  rw [seg_key rfl hi, show i + 1 - 0 = (i + 1) - 0 by rfl, seg_all b.symm]
  cases n
  simp only [List.append_nil] at hl a ⊢
  rw [hl, a]
theorem getD_seg {l : List ByteArray} {a b j : Nat} (hj : j < b - a) : ((l.drop a).take (b - a)).getD j ⟨#[]⟩ = l.getD (a + j) ⟨#[]⟩ := by
  rw [List.getD_eq_getElem?_getD, List.getD_eq_getElem?_getD, List.getElem?_take, if_pos hj, List.getElem?_drop]
theorem Nd.sub_es {n : Nd} {lo hi j : Nat} (hj : j < hi - lo) : (n.sub lo hi).es j = n.es (lo + j) := by
  unfold Nd.es Nd.sub
  cases hl : n.leaf
  · rw [if_neg (by simp)]
    simp only [Bool.false_eq_true, if_false]
    rw [getD_seg hj]
  · rw [if_pos rfl]
    simp only [if_true]
    rw [getD_seg hj, getD_seg hj]
theorem Nd.sub_pre {n : Nd} {lo hi : Nat} : ∀ k, k ≤ hi - lo → (n.sub lo hi).pre k + n.pre lo = n.pre (lo + k)
  | 0, _ => by show 0 + _ = _; rw [Nat.zero_add]; rfl
  | k + 1, h => by
    have h1 := Nd.sub_pre (n := n) (lo := lo) (hi := hi) k (by omega)
    have h2 := Nd.sub_es (n := n) (lo := lo) (hi := hi) (j := k) (by omega)
    show (n.sub lo hi).pre k + (n.sub lo hi).es k + n.pre lo = n.pre (lo + k) + n.es (lo + k)
    omega
theorem sum_takeS (l : List ByteArray) (f : ByteArray → Nat) {i : Nat} (h : i < l.length) : ((l.take (i + 1)).map f).sum = ((l.take i).map f).sum + f (l.getD i ⟨#[]⟩) := by
  rw [getD_at h]; exact sum_step l f h
theorem Nd.pre_leaf {n : Nd} (hl : n.leaf = true) (hv : n.vals.length = n.keys.length) : ∀ k, k ≤ n.keys.length → n.pre k = ((n.keys.take k).map fun x => 2 + x.size).sum + ((n.vals.take k).map fun x => x.size).sum
  | 0, _ => by simp [Nd.pre]
  | k + 1, h => by
    have h1 := Nd.pre_leaf hl hv k (by omega)
    rw [sum_takeS _ _ (by omega), sum_takeS _ _ (by omega)]
    have h2 : n.pre (k + 1) = n.pre k + n.es k := rfl
    have h3 : n.es k = 2 + (n.keys.getD k ⟨#[]⟩).size + (n.vals.getD k ⟨#[]⟩).size := by unfold Nd.es; rw [hl]; rfl
    omega
theorem Nd.pre_inner {n : Nd} (hl : n.leaf = false) : ∀ k, k ≤ n.keys.length → n.pre k = ((n.keys.take k).map fun x => 5 + x.size).sum
  | 0, _ => by simp [Nd.pre]
  | k + 1, h => by
    have h1 := Nd.pre_inner hl k (by omega)
    rw [sum_takeS _ _ (by omega)]
    have h2 : n.pre (k + 1) = n.pre k + n.es k := rfl
    have h3 : n.es k = 5 + (n.keys.getD k ⟨#[]⟩).size := by unfold Nd.es; rw [hl]; rfl
    omega
theorem Nd.pre_all_leaf {n : Nd} (h : n.Fine) (hl : n.leaf = true) : n.pre n.keys.length = (n.keys.map fun x => 2 + x.size).sum + (n.vals.map fun x => x.size).sum := by
  have hv := (h.leaf hl).1
  rw [Nd.pre_leaf hl hv _ (Nat.le_refl _), List.take_of_length_le (Nat.le_refl _), List.take_of_length_le (by omega)]
theorem Nd.pre_all_inner {n : Nd} (h : n.Fine) (hl : n.leaf = false) : n.pre n.keys.length = (n.keys.map fun x => 5 + x.size).sum + (n.vals.map fun x => x.size).sum := by
  have hv := (h.inner hl).1
  rw [Nd.pre_inner hl _ (Nat.le_refl _), List.take_of_length_le (Nat.le_refl _), hv]
  simp
/-- The halves fit where the whole has at most 130 bytes too many. -/
theorem Nd.At.fit {n : Nd} {most i btw : Nat} (h : n.Fine) (hA : n.At most i) (hm : n.keys.length = most + 1 + btw) (hT : 16 + n.pre n.keys.length ≤ 642) :
    16 + n.pre i ≤ 480 ∧ 16 + (n.pre n.keys.length - n.pre (i + btw)) ≤ 480 := by
  have hlo := hA.lo
  have hhi := hA.hi
  obtain ⟨j, rfl⟩ : ∃ j, i = j + 1 := ⟨i - 1, by omega⟩
  have e1 : n.pre (j + 1) = n.pre j + n.es j := rfl
  have e2 := (h.es_le (i := j) (by omega)).2.1
  have mono := n.pre_mono (j + 1) btw
  constructor
  · by_cases hj : j = 0
    · subst hj
      have e3 : n.pre 0 = 0 := rfl
      omega
    · have := hA.less j (by omega) (by omega)
      omega
  · rcases hA.stop with hs | hs
    · have e4 : n.keys.length = (j + 1 + btw) + 1 := by omega
      have e5 : n.pre ((j + 1 + btw) + 1) = n.pre (j + 1 + btw) + n.es (j + 1 + btw) := rfl
      have e6 := (h.es_le (i := j + 1 + btw) (by omega)).2.1
      rw [e4, e5]
      omega
    · omega
end Go.Proofs.YtpjgghalnkfdkaaDoor
