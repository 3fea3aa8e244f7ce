/- node: Put and Remove of both sides, as one each. -/
import Derived.Test.YtilnogadopmboaaDoorN26
namespace Go.Proofs.YtilnogadopmboaaDoor
open Go.RowKit
set_option linter.unusedVariables false
set_option linter.unusedSimpArgs false
theorem refPut_any (n : Nd) (a1 a2 a3 : Option Addr) (k1 c1 k2 c2 k3 c3 : Nat) (key value : ByteArray) (w : World) (r1 : Row w (.slice a1 k1 c1) (TS n.keys)) (r2 : Row w (.slice a2 k2 c2) (TS n.vals)) (r3 : Row w (.slice a3 k3 c3) (IS n.kids)) (hb : n.Bd) (hbig : n.keys.length ≤ 8796093022206) :
    Calls Tryd.prog 23 #[.agg #[.bool n.leaf, .slice a1 k1 c1, .slice a2 k2 c2, .slice a3 k3 c3], .string key, .string value] w fun e w' => ∃ u, e = .returned u ∧ PuQ w (n.put key value).1 (n.put key value).2 u w' := by
  unfold Nd.put
  cases hl : n.leaf
  · rw [if_neg (by simp)]
    by_cases hc : n.chk = 0
    · have h := refPut_inner n a1 a2 a3 k1 c1 k2 c2 k3 c3 key value w r1 r2 r3 hb hl hc
      rw [hl] at h
      exact h
    · have h := refPut_chkF n a1 a2 a3 k1 c1 k2 c2 k3 c3 key value w r1 r2 r3 hb hl hc
      rw [hl] at h
      exact h
  · by_cases hc : n.chk = 0
    · rw [if_pos (by simp [hc])]
      by_cases hk : key.size < 1
      · rw [if_neg (by simp [mayK]; omega)]
        have h := refPut_short n a1 a2 a3 k1 c1 k2 c2 k3 c3 key value w r1 r2 r3 hb hl hc hk
        rw [hl] at h
        exact h
      · by_cases hk2 : 64 < key.size
        · rw [if_neg (by simp [mayK]; omega)]
          have h := refPut_long n a1 a2 a3 k1 c1 k2 c2 k3 c3 key value w r1 r2 r3 hb hl hc hk hk2
          rw [hl] at h
          exact h
        · by_cases hv : 64 < value.size
          · rw [if_neg (by simp [mayV]; omega)]
            have h := refPut_val n a1 a2 a3 k1 c1 k2 c2 k3 c3 key value w r1 r2 r3 hb hl hc hk hk2 hv
            rw [hl] at h
            exact h
          · rw [if_pos (by simp [mayK, mayV]; omega)]
            cases hh : n.has key
            · rw [if_neg (by simp)]
              have h := refPut_ins n a1 a2 a3 k1 c1 k2 c2 k3 c3 key value w r1 r2 r3 hb hbig hl hc hk hk2 hv hh
              rw [hl] at h
              exact h
            · rw [if_pos rfl]
              have h := refPut_has n a1 a2 a3 k1 c1 k2 c2 k3 c3 key value w r1 r2 r3 hb hbig hl hc hk hk2 hv hh
              rw [hl] at h
              exact h
    · rw [if_neg (by simp [hc])]
      have h := refPut_chkT n a1 a2 a3 k1 c1 k2 c2 k3 c3 key value w r1 r2 r3 hb hl hc
      rw [hl] at h
      exact h
def Nd.rmv (n : Nd) (key : ByteArray) : Nd × Bool := if n.has key then (⟨true, n.keys.eraseIdx (n.cnt key), n.vals.eraseIdx (n.cnt key), []⟩, true) else (n, false)
theorem Nd.has_leaf {n : Nd} {key : ByteArray} (h : n.has key = true) : n.leaf = true := by
  unfold Nd.has at h
  simp only [Bool.and_eq_true] at h
  exact h.1
theorem Nd.chk_lists {n : Nd} (h : n.chk = 0) : n.lists = true := by
  unfold Nd.chk at h
  split at h
  · split at h
    · rename_i h1 h2
      simp only [Bool.and_eq_true, Nd.shape] at h2
      exact h2.1.1.1
    · cases h
  · cases h
theorem refRemove_any (n : Nd) (a1 a2 a3 : Option Addr) (k1 c1 k2 c2 k3 c3 : Nat) (key : ByteArray) (w : World) (r1 : Row w (.slice a1 k1 c1) (TS n.keys)) (r2 : Row w (.slice a2 k2 c2) (TS n.vals)) (r3 : Row w (.slice a3 k3 c3) (IS n.kids)) (hb : n.Bd) (h1 : n.keys.length ≤ 8796093022206) (h2 : n.vals.length ≤ 8796093022206) (h3 : n.kids.length ≤ 17592186044416) (hc : n.chk = 0) :
    Calls Tryd.prog 26 #[.agg #[.bool n.leaf, .slice a1 k1 c1, .slice a2 k2 c2, .slice a3 k3 c3], .string key] w fun e w' => ∃ u, e = .returned u ∧ RmQ w (n.rmv key).1 (n.rmv key).2 u w' := by
  unfold Nd.rmv
  cases hh : n.has key
  · rw [if_neg (by simp)]
    cases hl : n.leaf
    · have h := refRemove_noF n a1 a2 a3 k1 c1 k2 c2 k3 c3 key w r1 r2 r3 hb (by omega) (by omega) (by omega) (Nd.chk_rises hc) hl hh
      rw [hl] at h
      exact h
    · have h := refRemove_noT n a1 a2 a3 k1 c1 k2 c2 k3 c3 key w r1 r2 r3 hb (by omega) (by omega) (by omega) (Nd.chk_rises hc) hl hh
      rw [hl] at h
      exact h
  · rw [if_pos rfl]
    have hl := Nd.has_leaf hh
    exact refRemove_yes n a1 a2 a3 k1 c1 k2 c2 k3 c3 key w r1 r2 r3 hb (by omega) hl (Nd.chk_rises hc) (Nd.chk_leaf hl hc).1 (Nd.chk_leaf hl hc).2 hh
theorem remove_any (n : Nd) (a1 a2 a3 : Option Addr) (k1 c1 k2 c2 k3 c3 : Nat) (key : ByteArray) (w : World) (r1 : Row w (.slice a1 k1 c1) (TS n.keys)) (r2 : Row w (.slice a2 k2 c2) (TS n.vals)) (r3 : Row w (.slice a3 k3 c3) (IS n.kids)) (hb : n.Bd) (h1 : n.keys.length ≤ 8796093022206) (h2 : n.vals.length ≤ 8796093022206) (h3 : n.kids.length ≤ 17592186044416) (hc : n.chk = 0) :
    Calls Tryd.prog 25 #[.agg #[.bool n.leaf, .slice a1 k1 c1, .slice a2 k2 c2, .slice a3 k3 c3], .string key] w fun e w' => ∃ u, e = .returned u ∧ RmP w (n.rmv key).1 (n.rmv key).2 u w' := by
  unfold Nd.rmv
  cases hh : n.has key
  · rw [if_neg (by simp)]
    cases hl : n.leaf
    · have h := remove_inner n a1 a2 a3 k1 c1 k2 c2 k3 c3 key w r1 r2 r3 hb (by omega) (by omega) (by omega) hl
      rw [hl] at h
      exact h
    · have h := remove_leaf n a1 a2 a3 k1 c1 k2 c2 k3 c3 key w r1 r2 r3 hb (by omega) (by omega) (by omega) hl (Nd.chk_lists hc) (any_has (Nd.chk_rises hc) hl hh)
      rw [hl] at h
      exact h
  · rw [if_pos rfl]
    have hl := Nd.has_leaf hh
    exact remove_yes n a1 a2 a3 k1 c1 k2 c2 k3 c3 key w r1 r2 r3 hb (by omega) hl (Nd.chk_lists hc) (Nd.chk_rises hc) hh
theorem insL_le (l : List ByteArray) (i : Nat) (x : ByteArray) : (insL l i x).length ≤ l.length + 1 := by
  unfold insL
  rw [List.length_append, List.length_take, List.length_cons, List.length_drop]
  omega
theorem Nd.put_bd {n : Nd} (key value : ByteArray) (h1 : n.keys.length ≤ 8796093022206) (h2 : n.vals.length ≤ 8796093022206) (h3 : n.kids.length ≤ 17592186044416) : (n.put key value).1.Bd := by
  have i1 := insL_le n.keys (n.cnt key) key
  have i2 := insL_le n.vals (n.cnt key) value
  unfold Nd.put
  split
  · split
    · split
      · exact ⟨by show n.keys.length ≤ _; omega, by show (n.vals.set _ _).length ≤ _; rw [List.length_set]; omega, by show n.kids.length ≤ _; omega⟩
      · exact ⟨by show (insL _ _ _).length ≤ _; omega, by show (insL _ _ _).length ≤ _; omega, by show n.kids.length ≤ _; omega⟩
    · exact ⟨by decide, by decide, by decide⟩
  · exact ⟨by decide, by decide, by decide⟩
theorem Nd.rmv_bd {n : Nd} (key : ByteArray) (h1 : n.keys.length ≤ 8796093022206) (h2 : n.vals.length ≤ 8796093022206) (h3 : n.kids.length ≤ 17592186044416) : (n.rmv key).1.Bd := by
  have i1 := List.length_eraseIdx_le n.keys (n.cnt key)
  have i2 := List.length_eraseIdx_le n.vals (n.cnt key)
  unfold Nd.rmv
  split
  · exact ⟨by show (n.keys.eraseIdx _).length ≤ _; omega, by show (n.vals.eraseIdx _).length ≤ _; omega, by show (List.length ([] : List Int)) ≤ _; decide⟩
  · exact ⟨by show n.keys.length ≤ _; omega, by show n.vals.length ≤ _; omega, by show n.kids.length ≤ _; omega⟩
end Go.Proofs.YtilnogadopmboaaDoor
