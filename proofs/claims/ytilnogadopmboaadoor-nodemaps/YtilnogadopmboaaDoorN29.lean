/- node, for NodeMaps: what Put and Remove of a good leaf make is a good leaf; where a key belongs (pure). -/
import Derived.Test.YtilnogadopmboaaDoorN26
/- node: Put and Remove of both sides, as one each. -/
namespace Go.Proofs.YtilnogadopmboaaDoor
open Go.RowKit
set_option linter.unusedVariables false
set_option linter.unusedSimpArgs false
theorem refPut_any (n : Nd) (a1 a2 a3 : Option Addr) (k1 c1 k2 c2 k3 c3 : Nat) (key value : ByteArray) (w : World) (r1 : Row w (.slice a1 k1 c1) (TS n.keys)) (r2 : Row w (.slice a2 k2 c2) (TS n.vals)) (r3 : Row w (.slice a3 k3 c3) (IS n.kids)) (hb : n.Bd) (hbig : n.keys.length ≤ 8796093022206) :
    Calls Tryd.prog 23 #[.agg #[.bool n.leaf, .slice a1 k1 c1, .slice a2 k2 c2, .slice a3 k3 c3], .string key, .string value] w fun e w' => ∃ u, e = .returned u ∧ PuQ w (n.put key value).1 (n.put key value).2 u w' := by
  unfold Nd.put
  cases hl : n.leaf
  · rw [if_neg (by simp)]
    by_cases hc : n.chk = 0
    · have h := refPut_inner n a1 a2 a3 k1 c1 k2 c2 k3 c3 key value w r1 r2 r3 hb hl hc
      rw [hl] at h
      exact h
    · have h := refPut_chkF n a1 a2 a3 k1 c1 k2 c2 k3 c3 key value w r1 r2 r3 hb hl hc
      rw [hl] at h
      exact h
  · by_cases hc : n.chk = 0
    · rw [if_pos (by simp [hc])]
      by_cases hk : key.size < 1
      · rw [if_neg (by simp [mayK]; omega)]
        have h := refPut_short n a1 a2 a3 k1 c1 k2 c2 k3 c3 key value w r1 r2 r3 hb hl hc hk
        rw [hl] at h
        exact h
      · by_cases hk2 : 64 < key.size
        · rw [if_neg (by simp [mayK]; omega)]
          have h := refPut_long n a1 a2 a3 k1 c1 k2 c2 k3 c3 key value w r1 r2 r3 hb hl hc hk hk2
          rw [hl] at h
          exact h
        · by_cases hv : 64 < value.size
          · rw [if_neg (by simp [mayV]; omega)]
            have h := refPut_val n a1 a2 a3 k1 c1 k2 c2 k3 c3 key value w r1 r2 r3 hb hl hc hk hk2 hv
            rw [hl] at h
            exact h
          · rw [if_pos (by simp [mayK, mayV]; omega)]
            cases hh : n.has key
            · rw [if_neg (by simp)]
              have h := refPut_ins n a1 a2 a3 k1 c1 k2 c2 k3 c3 key value w r1 r2 r3 hb hbig hl hc hk hk2 hv hh
              rw [hl] at h
              exact h
            · rw [if_pos rfl]
              have h := refPut_has n a1 a2 a3 k1 c1 k2 c2 k3 c3 key value w r1 r2 r3 hb hbig hl hc hk hk2 hv hh
              rw [hl] at h
              exact h
    · rw [if_neg (by simp [hc])]
      have h := refPut_chkT n a1 a2 a3 k1 c1 k2 c2 k3 c3 key value w r1 r2 r3 hb hl hc
      rw [hl] at h
      exact h
def Nd.rmv (n : Nd) (key : ByteArray) : Nd × Bool := if n.has key then (⟨true, n.keys.eraseIdx (n.cnt key), n.vals.eraseIdx (n.cnt key), []⟩, true) else (n, false)
theorem Nd.has_leaf {n : Nd} {key : ByteArray} (h : n.has key = true) : n.leaf = true := by
  unfold Nd.has at h
  simp only [Bool.and_eq_true] at h
  exact h.1
theorem Nd.chk_lists {n : Nd} (h : n.chk = 0) : n.lists = true := by
  unfold Nd.chk at h
  split at h
  · split at h
    · rename_i h1 h2
      simp only [Bool.and_eq_true, Nd.shape] at h2
      exact h2.1.1.1
    · cases h
  · cases h
theorem refRemove_any (n : Nd) (a1 a2 a3 : Option Addr) (k1 c1 k2 c2 k3 c3 : Nat) (key : ByteArray) (w : World) (r1 : Row w (.slice a1 k1 c1) (TS n.keys)) (r2 : Row w (.slice a2 k2 c2) (TS n.vals)) (r3 : Row w (.slice a3 k3 c3) (IS n.kids)) (hb : n.Bd) (h1 : n.keys.length ≤ 8796093022206) (h2 : n.vals.length ≤ 8796093022206) (h3 : n.kids.length ≤ 17592186044416) (hc : n.chk = 0) :
    Calls Tryd.prog 26 #[.agg #[.bool n.leaf, .slice a1 k1 c1, .slice a2 k2 c2, .slice a3 k3 c3], .string key] w fun e w' => ∃ u, e = .returned u ∧ RmQ w (n.rmv key).1 (n.rmv key).2 u w' := by
  unfold Nd.rmv
  cases hh : n.has key
  · rw [if_neg (by simp)]
    cases hl : n.leaf
    · have h := refRemove_noF n a1 a2 a3 k1 c1 k2 c2 k3 c3 key w r1 r2 r3 hb (by omega) (by omega) (by omega) (Nd.chk_rises hc) hl hh
      rw [hl] at h
      exact h
    · have h := refRemove_noT n a1 a2 a3 k1 c1 k2 c2 k3 c3 key w r1 r2 r3 hb (by omega) (by omega) (by omega) (Nd.chk_rises hc) hl hh
      rw [hl] at h
      exact h
  · rw [if_pos rfl]
    have hl := Nd.has_leaf hh
    exact refRemove_yes n a1 a2 a3 k1 c1 k2 c2 k3 c3 key w r1 r2 r3 hb (by omega) hl (Nd.chk_rises hc) (Nd.chk_leaf hl hc).1 (Nd.chk_leaf hl hc).2 hh
theorem remove_any (n : Nd) (a1 a2 a3 : Option Addr) (k1 c1 k2 c2 k3 c3 : Nat) (key : ByteArray) (w : World) (r1 : Row w (.slice a1 k1 c1) (TS n.keys)) (r2 : Row w (.slice a2 k2 c2) (TS n.vals)) (r3 : Row w (.slice a3 k3 c3) (IS n.kids)) (hb : n.Bd) (h1 : n.keys.length ≤ 8796093022206) (h2 : n.vals.length ≤ 8796093022206) (h3 : n.kids.length ≤ 17592186044416) (hc : n.chk = 0) :
    Calls Tryd.prog 25 #[.agg #[.bool n.leaf, .slice a1 k1 c1, .slice a2 k2 c2, .slice a3 k3 c3], .string key] w fun e w' => ∃ u, e = .returned u ∧ RmP w (n.rmv key).1 (n.rmv key).2 u w' := by
  unfold Nd.rmv
  cases hh : n.has key
  · rw [if_neg (by simp)]
    cases hl : n.leaf
    · have h := remove_inner n a1 a2 a3 k1 c1 k2 c2 k3 c3 key w r1 r2 r3 hb (by omega) (by omega) (by omega) hl
      rw [hl] at h
      exact h
    · have h := remove_leaf n a1 a2 a3 k1 c1 k2 c2 k3 c3 key w r1 r2 r3 hb (by omega) (by omega) (by omega) hl (Nd.chk_lists hc) (any_has (Nd.chk_rises hc) hl hh)
      rw [hl] at h
      exact h
  · rw [if_pos rfl]
    have hl := Nd.has_leaf hh
    exact remove_yes n a1 a2 a3 k1 c1 k2 c2 k3 c3 key w r1 r2 r3 hb (by omega) hl (Nd.chk_lists hc) (Nd.chk_rises hc) hh
theorem insL_le (l : List ByteArray) (i : Nat) (x : ByteArray) : (insL l i x).length ≤ l.length + 1 := by
  unfold insL
  rw [List.length_append, List.length_take, List.length_cons, List.length_drop]
  omega
theorem Nd.put_bd {n : Nd} (key value : ByteArray) (h1 : n.keys.length ≤ 8796093022206) (h2 : n.vals.length ≤ 8796093022206) (h3 : n.kids.length ≤ 17592186044416) : (n.put key value).1.Bd := by
  have i1 := insL_le n.keys (n.cnt key) key
  have i2 := insL_le n.vals (n.cnt key) value
  unfold Nd.put
  split
  · split
    · split
      · exact ⟨by show n.keys.length ≤ _; omega, by show (n.vals.set _ _).length ≤ _; rw [List.length_set]; omega, by show n.kids.length ≤ _; omega⟩
      · exact ⟨by show (insL _ _ _).length ≤ _; omega, by show (insL _ _ _).length ≤ _; omega, by show n.kids.length ≤ _; omega⟩
    · exact ⟨by decide, by decide, by decide⟩
  · exact ⟨by decide, by decide, by decide⟩
theorem Nd.rmv_bd {n : Nd} (key : ByteArray) (h1 : n.keys.length ≤ 8796093022206) (h2 : n.vals.length ≤ 8796093022206) (h3 : n.kids.length ≤ 17592186044416) : (n.rmv key).1.Bd := by
  have i1 := List.length_eraseIdx_le n.keys (n.cnt key)
  have i2 := List.length_eraseIdx_le n.vals (n.cnt key)
  unfold Nd.rmv
  split
  · exact ⟨by show (n.keys.eraseIdx _).length ≤ _; omega, by show (n.vals.eraseIdx _).length ≤ _; omega, by show (List.length ([] : List Int)) ≤ _; decide⟩
  · exact ⟨by show n.keys.length ≤ _; omega, by show n.vals.length ≤ _; omega, by show n.kids.length ≤ _; omega⟩
end Go.Proofs.YtilnogadopmboaaDoor
namespace Go.Proofs.YtilnogadopmboaaDoor
open Go.RowKit
set_option linter.unusedVariables false
set_option linter.unusedSimpArgs false
theorem rises_app {b : List ByteArray} : ∀ (a : List ByteArray), rises a = true → rises b = true → (∀ y ∈ a, ∀ c ∈ b, ltS y c = true) → rises (a ++ b) = true
  | [], _, h, _ => h
  | [y], _, h, h1 => by
    cases b with
    | nil => rfl
    | cons c t =>
      show rises (y :: c :: t) = true
      rw [rises, Bool.and_eq_true]
      exact ⟨h1 y (by simp) c (by simp), h⟩
  | y :: z :: l, h0, h, h1 => by
    rw [rises, Bool.and_eq_true] at h0
    have ih := rises_app (z :: l) h0.2 h (fun u hu c hc => h1 u (List.mem_cons_of_mem _ hu) c hc)
    show rises (y :: z :: (l ++ b)) = true
    rw [rises, Bool.and_eq_true]
    exact ⟨h0.1, ih⟩
theorem rises_take {l : List ByteArray} (h : rises l = true) (m : Nat) : rises (l.take m) = true := by
  rw [rises_at]
  intro i hi
  rw [List.length_take] at hi
  rw [List.getElem_take, List.getElem_take]
  exact rises_at.1 h i (by omega)
theorem rises_drop {l : List ByteArray} (h : rises l = true) (m : Nat) : rises (l.drop m) = true := by
  rw [rises_at]
  intro i hi
  rw [List.length_drop] at hi
  rw [List.getElem_drop, List.getElem_drop]
  exact rises_at.1 h (m + i) (by omega)
theorem rises_apart {l : List ByteArray} (h : rises l = true) {i m : Nat} (him : i ≤ m) : ∀ y ∈ l.take i, ∀ c ∈ l.drop m, ltS y c = true := by
  intro y hy c hc
  obtain ⟨j, hj, rfl⟩ := List.mem_iff_getElem.1 hy
  obtain ⟨k, hk, rfl⟩ := List.mem_iff_getElem.1 hc
  rw [List.length_take] at hj
  rw [List.length_drop] at hk
  rw [List.getElem_take, List.getElem_drop]
  have := rises_lt h (m + k - j - 1) j (by omega)
  have e : j + (m + k - j - 1 + 1) = m + k := by omega
  simpa only [e] using this
/-- A good leaf. -/
structure Nd.Good (n : Nd) : Prop where
  leaf : n.leaf = true
  len : n.vals.length = n.keys.length
  kids : n.kids = []
  ks : ∀ k ∈ n.keys, mayK k = true
  vs : ∀ v ∈ n.vals, mayV v = true
  up : rises n.keys = true
theorem Nd.Good.chk {n : Nd} (h : n.Good) : n.chk = 0 := by
  have h1 : n.ents = true := by
    unfold Nd.ents
    rw [Bool.and_eq_true, List.all_eq_true, List.all_eq_true]
    exact ⟨h.ks, h.vs⟩
  have h2 : n.shape = true := by simp [Nd.shape, Nd.lists, h.leaf, h.len, h.kids, h.up]
  simp [Nd.chk, h1, h2, h.leaf]
theorem good_none : Nd.Good ⟨true, [], [], []⟩ := ⟨rfl, rfl, rfl, (fun _ h => by cases h), (fun _ h => by cases h), rfl⟩
/-- Where a key belongs: all ahead are below it, the one that is there is not. -/
theorem Nd.cnt_is {n : Nd} (hl : n.leaf = true) (hr : rises n.keys = true) (key : ByteArray) {m : Nat} (hm : m ≤ n.keys.length) (h1 : ∀ i (h : i < m), ltS (n.keys[i]'(by omega)) key = true) (h2 : ∀ (h : m < n.keys.length), ltS n.keys[m] key = false) : n.cnt key = m :=
  cnt_first hr key hm (fun i hi => by simp [ahead, hl, h1 i hi]) (fun h => by simp [ahead, hl, h2 h])
theorem Nd.cnt_le (n : Nd) (key : ByteArray) : n.cnt key ≤ n.keys.length := List.countP_le_length
theorem Nd.cnt_spec {n : Nd} (hl : n.leaf = true) (hr : rises n.keys = true) (key : ByteArray) : (∀ i (h : i < n.cnt key), ltS (n.keys[i]'(Nat.lt_of_lt_of_le h (n.cnt_le key))) key = true) ∧ (∀ (h : n.cnt key < n.keys.length), ltS n.keys[n.cnt key] key = false) := by
  have hle : n.keys.findIdx (fun k => !ltS k key) ≤ n.keys.length := List.findIdx_le_length
  have a1 : ∀ i (h : i < n.keys.findIdx (fun k => !ltS k key)), ltS (n.keys[i]'(by omega)) key = true := fun i h => by
    have := List.not_of_lt_findIdx h
    simpa using this
  have a2 : ∀ (h : n.keys.findIdx (fun k => !ltS k key) < n.keys.length), ltS n.keys[n.keys.findIdx (fun k => !ltS k key)] key = false := fun h => by
    have := List.findIdx_getElem (w := h)
    simpa using this
  have e := Nd.cnt_is hl hr key hle a1 a2
  constructor
  · intro i h
    exact a1 i (by omega)
  · intro h
    simp only [e] at h ⊢
    exact a2 h
theorem Nd.has_at {n : Nd} (hl : n.leaf = true) (key : ByteArray) (h : n.cnt key < n.keys.length) : n.has key = (n.keys[n.cnt key].toList == key.toList) := by
  unfold Nd.has
  rw [List.getElem?_eq_getElem h, hl]
  simp
theorem Nd.has_end {n : Nd} (key : ByteArray) (h : ¬ n.cnt key < n.keys.length) : n.has key = false := by
  cases hh : n.has key
  · rfl
  · exact absurd (Nd.has_lt hh) h
theorem mem_ins {l : List ByteArray} {i : Nat} {x y : ByteArray} (h : y ∈ insL l i x) : y = x ∨ y ∈ l := by
  unfold insL at h
  rcases List.mem_append.1 h with h | h
  · exact .inr (List.mem_of_mem_take h)
  · rcases List.mem_cons.1 h with h | h
    · exact .inl h
    · exact .inr (List.mem_of_mem_drop h)
theorem Nd.Good.ins {n : Nd} (h : n.Good) {key value : ByteArray} (hk : mayK key = true) (hv : mayV value = true) (hh : n.has key = false) : Nd.Good ⟨true, insL n.keys (n.cnt key) key, insL n.vals (n.cnt key) value, n.kids⟩ := by
  obtain ⟨c1, c2⟩ := Nd.cnt_spec h.leaf h.up key
  have hle := n.cnt_le key
  refine ⟨rfl, ?_, h.kids, ?_, ?_, ?_⟩
  · show (insL n.vals (n.cnt key) value).length = (insL n.keys (n.cnt key) key).length
    unfold insL
    rw [ins_len _ _ rfl hle, ins_len _ _ rfl (by rw [h.len]; exact hle), h.len]
  · intro k hk2
    rcases mem_ins hk2 with rfl | h2
    · exact hk
    · exact h.ks _ h2
  · intro k hk2
    rcases mem_ins hk2 with rfl | h2
    · exact hv
    · exact h.vs _ h2
  · show rises (insL n.keys (n.cnt key) key) = true
    unfold insL
    have hlow : ∀ y ∈ n.keys.take (n.cnt key), ltS y key = true := by
      intro y hy
      obtain ⟨j, hj, rfl⟩ := List.mem_iff_getElem.1 hy
      rw [List.length_take] at hj
      rw [List.getElem_take]
      exact c1 j (by omega)
    have hhigh : ∀ c ∈ n.keys.drop (n.cnt key), ltS key c = true := by
      intro c hc
      obtain ⟨j, hj, rfl⟩ := List.mem_iff_getElem.1 hc
      rw [List.length_drop] at hj
      rw [List.getElem_drop]
      have hlt : n.cnt key < n.keys.length := by omega
      have h0 : ltS key n.keys[n.cnt key] = true := by
        rcases lt_no (c2 hlt) with h3 | h3
        · exact h3
        · rw [Nd.has_at h.leaf key hlt, ← h3] at hh
          simp at hh
      cases j with
      | zero => simpa using h0
      | succ j => exact lt_trans' h0 (rises_lt h.up j (n.cnt key) (by omega))
    refine rises_app _ (rises_take h.up _) (rises_app [key] rfl (rises_drop h.up _) ?_) ?_
    · intro y hy c hc
      rw [List.mem_singleton] at hy
      subst hy
      exact hhigh c hc
    · intro y hy c hc
      rcases List.mem_cons.1 hc with rfl | hc
      · exact hlow y hy
      · exact lt_trans' (hlow y hy) (hhigh c hc)
theorem Nd.Good.set {n : Nd} (h : n.Good) {key value : ByteArray} (hv : mayV value = true) : Nd.Good ⟨true, n.keys, n.vals.set (n.cnt key) value, n.kids⟩ := by
  refine ⟨rfl, by show (n.vals.set _ _).length = _; rw [List.length_set]; exact h.len, h.kids, h.ks, ?_, h.up⟩
  intro v hv2
  rcases List.mem_or_eq_of_mem_set hv2 with h2 | rfl
  · exact h.vs _ h2
  · exact hv
theorem Nd.Good.put {n : Nd} (h : n.Good) {key value : ByteArray} (hk : mayK key = true) (hv : mayV value = true) : (n.put key value).2 = 0 ∧ (n.put key value).1.Good ∧ (n.put key value).1 = if n.has key then ⟨true, n.keys, n.vals.set (n.cnt key) value, n.kids⟩ else ⟨true, insL n.keys (n.cnt key) key, insL n.vals (n.cnt key) value, n.kids⟩ := by
  unfold Nd.put
  rw [if_pos (by simp [h.leaf, h.chk]), if_pos (by simp [hk, hv])]
  cases hh : n.has key
  · exact ⟨rfl, h.ins hk hv hh, rfl⟩
  · exact ⟨rfl, h.set hv, rfl⟩
theorem Nd.Good.refused {n : Nd} (h : n.Good) {key value : ByteArray} (hk : (mayK key && mayV value) = false) : (n.put key value).2 = 91 := by
  unfold Nd.put
  rw [if_pos (by simp [h.leaf, h.chk]), if_neg (by simp [hk])]
theorem Nd.Good.rmv {n : Nd} (h : n.Good) (key : ByteArray) : (n.rmv key).1.Good ∧ (n.rmv key).2 = n.has key := by
  unfold Nd.rmv
  cases hh : n.has key
  · exact ⟨h, rfl⟩
  · rw [if_pos rfl]
    have hlt := Nd.has_lt hh
    refine ⟨⟨rfl, ?_, rfl, fun k hk => h.ks k (List.mem_of_mem_eraseIdx hk), fun v hv => h.vs v (List.mem_of_mem_eraseIdx hv), ?_⟩, rfl⟩
    · show (n.vals.eraseIdx _).length = (n.keys.eraseIdx _).length
      rw [List.length_eraseIdx_of_lt (by rw [h.len]; exact hlt), List.length_eraseIdx_of_lt hlt, h.len]
    · show rises (n.keys.eraseIdx _) = true
      rw [List.eraseIdx_eq_take_drop_succ]
      exact rises_app _ (rises_take h.up _) (rises_drop h.up _) (rises_apart h.up (by omega))
end Go.Proofs.YtilnogadopmboaaDoor
