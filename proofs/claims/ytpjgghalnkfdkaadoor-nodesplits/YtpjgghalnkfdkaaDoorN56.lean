/- node: Split of both, Join, Size: leaves and inner nodes in one. -/
import Derived.Test.YtpjgghalnkfdkaaDoorN46
import Derived.Test.YtpjgghalnkfdkaaDoorN47
import Derived.Test.YtpjgghalnkfdkaaDoorN49
import Derived.Test.YtpjgghalnkfdkaaDoorN50
import Derived.Test.YtpjgghalnkfdkaaDoorN52
import Derived.Test.YtpjgghalnkfdkaaDoorN55
import Derived.Test.YtpjgghalnkfdkaaDoorN12
namespace Go.Proofs.YtpjgghalnkfdkaaDoor
open Go.RowKit
set_option linter.unusedVariables false
set_option linter.unusedSimpArgs false
def Nd.btw (n : Nd) : Nat := if n.leaf then 0 else 1
theorem Nd.btw_leaf {n : Nd} (h : n.leaf = true) : n.btw = 0 := by unfold Nd.btw; rw [h]; rfl
theorem Nd.btw_inner {n : Nd} (h : n.leaf = false) : n.btw = 1 := by unfold Nd.btw; rw [h]; rfl
theorem split_ok (n : Nd) (a1 a2 a3 : Option Addr) (k1 c1 k2 c2 k3 c3 : Nat) (i most : Nat) (w : World) (r1 : Row w (.slice a1 k1 c1) (TS n.keys)) (r2 : Row w (.slice a2 k2 c2) (TS n.vals)) (r3 : Row w (.slice a3 k3 c3) (IS n.kids)) (hb : n.Bd) (hb1 : n.keys.length ≤ 8796093022208) (hb2 : n.vals.length ≤ 8796093022208) (hb3 : n.kids.length ≤ 17592186044416) (hc : n.chk = 0) (hm : n.keys.length = most + 1 + n.btw) (hA : n.At most i) :
    Calls Tryd.prog 27 #[.agg #[.bool n.leaf, .slice a1 k1 c1, .slice a2 k2 c2, .slice a3 k3 c3]] w fun e w' => ∃ u, e = .returned u ∧ SpR (n.sub 0 i) (n.keys.getD i ⟨#[]⟩) (n.sub (i + n.btw) n.keys.length) 0 w u w' := by
  cases hl : n.leaf
  · have h := split_inner n a1 a2 a3 k1 c1 k2 c2 k3 c3 i most w r1 r2 r3 hb hb1 hb2 hb3 hl hc (by rw [Nd.btw_inner hl] at hm; omega) hA
    rw [hl] at h
    rw [Nd.btw_inner hl]
    exact h
  · have h := split_leaf n a1 a2 a3 k1 c1 k2 c2 k3 c3 i most w r1 r2 r3 hb hb1 hb2 hb3 hl hc (by rw [Nd.btw_leaf hl] at hm; omega) hA
    rw [hl] at h
    rw [Nd.btw_leaf hl]
    exact h
theorem split_few (n : Nd) (a1 a2 a3 : Option Addr) (k1 c1 k2 c2 k3 c3 : Nat) (w : World) (r1 : Row w (.slice a1 k1 c1) (TS n.keys)) (r2 : Row w (.slice a2 k2 c2) (TS n.vals)) (r3 : Row w (.slice a3 k3 c3) (IS n.kids)) (hb : n.Bd) (hc : n.chk = 0) (hm : n.keys.length ≤ 1 + n.btw) :
    Calls Tryd.prog 27 #[.agg #[.bool n.leaf, .slice a1 k1 c1, .slice a2 k2 c2, .slice a3 k3 c3]] w fun e w' => ∃ u, e = .returned u ∧ SpR Nd.zero ⟨#[]⟩ Nd.zero 4 w u w' := by
  cases hl : n.leaf
  · have h := split_fewI n a1 a2 a3 k1 c1 k2 c2 k3 c3 w r1 r2 r3 hb hl hc (by rw [Nd.btw_inner hl] at hm; omega)
    rw [hl] at h
    exact h
  · have h := split_fewL n a1 a2 a3 k1 c1 k2 c2 k3 c3 w r1 r2 r3 hb hl hc (by rw [Nd.btw_leaf hl] at hm; omega)
    rw [hl] at h
    exact h
theorem rsplit_few (n : Nd) (a1 a2 a3 : Option Addr) (k1 c1 k2 c2 k3 c3 : Nat) (w : World) (r1 : Row w (.slice a1 k1 c1) (TS n.keys)) (r2 : Row w (.slice a2 k2 c2) (TS n.vals)) (r3 : Row w (.slice a3 k3 c3) (IS n.kids)) (hb : n.Bd) (hc : n.chk = 0) (hm : n.keys.length ≤ 1 + n.btw) :
    Calls Tryd.prog 28 #[.agg #[.bool n.leaf, .slice a1 k1 c1, .slice a2 k2 c2, .slice a3 k3 c3]] w fun e w' => ∃ u, e = .returned u ∧ SpR Nd.zero ⟨#[]⟩ Nd.zero 4 w u w' := by
  cases hl : n.leaf
  · have h := rsplit_fewI n a1 a2 a3 k1 c1 k2 c2 k3 c3 w r1 r2 r3 hb hl hc (by rw [Nd.btw_inner hl] at hm; omega)
    rw [hl] at h
    exact h
  · have h := rsplit_fewL n a1 a2 a3 k1 c1 k2 c2 k3 c3 w r1 r2 r3 hb hl hc (by rw [Nd.btw_leaf hl] at hm; omega)
    rw [hl] at h
    exact h
theorem Nd.sub_bd {n : Nd} (lo hi : Nat) (h1 : n.keys.length ≤ 8796093022208) (h2 : n.vals.length ≤ 8796093022208) (h3 : n.kids.length ≤ 17592186044416) : (n.sub lo hi).Bd ∧ (n.sub lo hi).keys.length ≤ 8796093022208 ∧ (n.sub lo hi).vals.length ≤ 8796093022208 ∧ (n.sub lo hi).kids.length ≤ 17592186044416 := by
  unfold Nd.sub
  cases n.leaf
  · rw [if_neg (by simp)]
    refine ⟨⟨?_, ?_, ?_⟩, ?_, ?_, ?_⟩ <;> simp only [List.length_take, List.length_drop, List.length_nil] <;> omega
  · rw [if_pos rfl]
    refine ⟨⟨?_, ?_, ?_⟩, ?_, ?_, ?_⟩ <;> simp only [List.length_take, List.length_drop, List.length_nil] <;> omega
/-- Join of the halves gives the node. -/
theorem join_ok (n : Nd) (i : Nat) (u1 u2 : Value) (w : World) (hF : n.Fine) (hi : i < n.keys.length) (hi2 : i + n.btw ≤ n.keys.length) (q1 : NdR w u1 (n.sub 0 i)) (q2 : NdR w u2 (n.sub (i + n.btw) n.keys.length)) (h1 : n.keys.length ≤ 8796093021952) (h2 : n.vals.length ≤ 8796093021952) (h3 : n.kids.length ≤ 17592186043904) :
    Calls Tryd.prog 29 #[u1, .string (n.keys.getD i ⟨#[]⟩), u2] w fun e w' => ∃ u, e = .returned u ∧ JnR n w u w' := by
  have b1 := Nd.sub_bd (n := n) 0 i (by omega) (by omega) (by omega)
  have b2 := Nd.sub_bd (n := n) (i + n.btw) n.keys.length (by omega) (by omega) (by omega)
  have f1 := part_fine (hF.sub 0 i (by omega) (by omega))
  have f2 := part_fine (hF.sub (i + n.btw) n.keys.length hi2 (Nat.le_refl _))
  have hup := hF.up
  obtain ⟨a1, a2, a3, c1, c2, c3, rfl, r1, r2, r3⟩ := q1.ex
  obtain ⟨e1, e2, e3, d1, d2, d3, rfl, s1, s2, s3⟩ := q2.ex
  have l1 := Nd.sub_leaf n 0 i
  have l2 := Nd.sub_leaf n (i + n.btw) n.keys.length
  have hk1 : (n.sub 0 i).keys.length + (n.sub (i + n.btw) n.keys.length).keys.length ≤ n.keys.length := by
    rw [Nd.sub_len (by omega), Nd.sub_len (Nat.le_refl _)]; omega
  cases hl : n.leaf
  · rw [hl] at l1 l2
    have hj := Nd.join_inner hF hl i hi
    rw [Nd.btw_inner hl] at *
    have hv : (n.sub 0 i).vals.length + (n.sub (i + 1) n.keys.length).vals.length ≤ n.vals.length := by
      conv => rhs; rw [← hj]
      simp
    have hd : (n.sub 0 i).kids.length + (n.sub (i + 1) n.keys.length).kids.length ≤ n.kids.length := by
      conv => rhs; rw [← hj]
      simp
    have h := join_inner (n.sub 0 i) a1 a2 a3 _ c1 _ c2 _ c3 (n.sub (i + 1) n.keys.length) e1 e2 e3 _ d1 _ d2 _ d3 (n.keys.getD i ⟨#[]⟩) w r1 r2 r3 s1 s2 s3 b1.1 b2.1 l1 l2 f1 f2 (by have := congrArg Nd.keys hj; simp only [] at this; rw [this]; exact hup) (by omega) (by omega) (by omega)
    rw [hj] at h
    exact h
  · rw [hl] at l1 l2
    have hj := Nd.join_leaf hF hl i
    rw [Nd.btw_leaf hl] at *
    simp only [Nat.add_zero] at *
    have hv : (n.sub 0 i).vals.length + (n.sub i n.keys.length).vals.length ≤ n.vals.length := by
      conv => rhs; rw [← hj]
      simp
    have hd : (n.sub 0 i).kids.length + (n.sub i n.keys.length).kids.length ≤ n.kids.length := by
      conv => rhs; rw [← hj]
      simp
    have h := join_leaf (n.sub 0 i) a1 a2 a3 _ c1 _ c2 _ c3 (n.sub i n.keys.length) e1 e2 e3 _ d1 _ d2 _ d3 (n.keys.getD i ⟨#[]⟩) w r1 r2 r3 s1 s2 s3 b1.1 b2.1 l1 l2 f1 f2 (by have := congrArg Nd.keys hj; simp only [] at this; rw [this]; exact hup) (by omega) (by omega) (by omega)
    rw [hj] at h
    exact h
theorem nsize_any (n : Nd) (u : Value) (w : World) (q : NdR w u n) (hF : n.Fine) (hb : n.Bd) (hbd : n.keys.length ≤ 8796093022208) :
    Calls Tryd.prog 15 #[u] w fun e w' => e = .returned (.int .i64 (n.base + n.pre n.keys.length : Nat)) ∧ Same w w' := by
  obtain ⟨a1, a2, a3, c1, c2, c3, rfl, r1, r2, r3⟩ := q.ex
  have hp := hF.pre_le n.keys.length (Nat.le_refl _)
  cases hl : n.leaf
  · have e := Nd.pre_all_inner hF hl
    have h := size_inner n a1 a2 a3 _ c1 _ c2 _ c3 w r1 r2 r3 hl hb (by omega)
    rw [hl] at h
    rw [show n.base + n.pre n.keys.length = 20 + (n.keys.map fun k => 5 + k.size).sum + (n.vals.map fun v => v.size).sum by unfold Nd.base; rw [hl, e]; simp; omega]
    exact h
  · have e := Nd.pre_all_leaf hF hl
    have h := size_leaf n a1 a2 a3 _ c1 _ c2 _ c3 w r1 r2 r3 hl hb (by omega)
    rw [hl] at h
    rw [show n.base + n.pre n.keys.length = 16 + (n.keys.map fun k => 2 + k.size).sum + (n.vals.map fun v => v.size).sum by unfold Nd.base; rw [hl, e]; simp; omega]
    exact h
theorem same_ndr (n : Nd) (u v : Value) (w : World) (q : NdR w u n) (p : NdR w v n) (hb : n.Bd) :
    Calls Tryd.prog 17 #[u, v] w fun e w' => e = .returned (.bool true) ∧ Same w w' := by
  obtain ⟨a1, a2, a3, c1, c2, c3, rfl, r1, r2, r3⟩ := q.ex
  obtain ⟨b1, b2, b3, d1, d2, d3, rfl, s1, s2, s3⟩ := p.ex
  exact same_eq n a1 a2 a3 _ c1 _ c2 _ c3 b1 b2 b3 _ d1 _ d2 _ d3 w r1 r2 r3 s1 s2 s3 hb
end Go.Proofs.YtpjgghalnkfdkaaDoor
