/- inode: the leaves that awake makes. (Made by mkin6.py.) -/
import Derived.Test.YtmlibjohhgpniaaGreatDoorIn5
namespace Go.Proofs.YtmlibjohhgpniaaGreatDoor
open Go.RowKit
set_option linter.unusedVariables false
set_option linter.unusedSimpArgs false
def ltD (a b : ByteArray) : Bool := decide (a.data.toList < b.data.toList)
theorem ltS_D (a b : ByteArray) : ltS a b = ltD a b := by simp only [ltS, ltD, Lib.toList_data]
theorem eq_D (a b : ByteArray) : (a.toList == b.toList) = (a.data.toList == b.data.toList) := by simp only [Lib.toList_data]
def cntD (n : Nd) (key : ByteArray) : Nat := n.keys.countP fun k => ltD k key || (!n.leaf && k.data.toList == key.data.toList)
theorem cnt_D (n : Nd) (key : ByteArray) : n.cnt key = cntD n key := by
  unfold Nd.cnt cntD
  congr 1
  funext k
  unfold ahead
  rw [ltS_D, eq_D]
def hasD (n : Nd) (key : ByteArray) : Bool := n.leaf && (match n.keys[cntD n key]? with | some k => k.data.toList == key.data.toList | none => false)
theorem has_D (n : Nd) (key : ByteArray) : n.has key = hasD n key := by
  unfold Nd.has hasD
  rw [cnt_D]
  cases n.keys[cntD n key]? with
  | none => rfl
  | some k => simp only [eq_D]
def risesD : List ByteArray → Bool
  | a :: b :: l => ltD a b && risesD (b :: l)
  | _ => true
theorem rises_D : ∀ l : List ByteArray, rises l = risesD l
  | [] => rfl
  | [a] => rfl
  | a :: b :: l => by simp only [rises, risesD, ltS_D, rises_D (b :: l)]
def chkD (n : Nd) : Bool := n.ents && n.lists && !n.kids.any noKid && risesD n.keys && n.leaf
theorem chk_D {n : Nd} (h : chkD n = true) : n.chk = 0 ∧ n.leaf = true ∧ n.lists = true ∧ rises n.keys = true := by
  unfold chkD at h
  simp only [Bool.and_eq_true, Bool.not_eq_true'] at h
  obtain ⟨⟨⟨⟨h1, h2⟩, h3⟩, h4⟩, h5⟩ := h
  have h6 : rises n.keys = true := by rw [rises_D]; exact h4
  refine ⟨?_, h5, h2, h6⟩
  unfold Nd.chk Nd.shape
  rw [h1, h2, h3, h6, h5]
  rfl
theorem put_new {n : Nd} {key value : ByteArray} {c : Nat} (hc : chkD n = true) (hk : mayK key = true) (hv : mayV value = true) (hh : hasD n key = false) (hcn : cntD n key = c) : n.put key value = (⟨true, insL n.keys c key, insL n.vals c value, n.kids⟩, 0) := by
  obtain ⟨h1, h2, _, _⟩ := chk_D hc
  unfold Nd.put
  rw [h1, h2, hk, hv, has_D, hh, cnt_D, hcn]
  rfl
theorem put_old {n : Nd} {key value : ByteArray} {c : Nat} (hc : chkD n = true) (hk : mayK key = true) (hv : mayV value = true) (hh : hasD n key = true) (hcn : cntD n key = c) : n.put key value = (⟨true, n.keys, n.vals.set c value, n.kids⟩, 0) := by
  obtain ⟨h1, h2, _, _⟩ := chk_D hc
  unfold Nd.put
  rw [h1, h2, hk, hv, has_D, hh, cnt_D, hcn]
  rfl
def fitD (m : Nd) : Bool := decide (m.keys.length ≤ 8796093022206) && decide (m.vals.length ≤ 17592186044416) && decide (m.kids.length ≤ 35184372088832) && decide (16 + (m.keys.map fun k => 2 + k.size).sum + (m.vals.map fun v => v.size).sum ≤ 512)
theorem fit_D {m : Nd} (h : fitD m = true) : m.Bd ∧ m.keys.length ≤ 8796093022206 ∧ 16 + (m.keys.map fun k => 2 + k.size).sum + (m.vals.map fun v => v.size).sum ≤ 512 := by
  unfold fitD at h
  simp only [Bool.and_eq_true, decide_eq_true_eq] at h
  obtain ⟨⟨⟨h1, h2⟩, h3⟩, h4⟩ := h
  exact ⟨⟨by omega, h2, h3⟩, h1, h4⟩
theorem putOk_new {n : Nd} {key value : ByteArray} {m : Nd} {c : Nat} (hc : chkD n = true) (hf : fitD n = true) (hk : mayK key = true) (hv : mayV value = true) (hh : hasD n key = false) (hcn : cntD n key = c) (hm : (⟨true, insL n.keys c key, insL n.vals c value, n.kids⟩ : Nd) = m) (hg : fitD m = true) : PutOk n key value m :=
  ⟨hk, hv, (chk_D hc).2.1, (fit_D hf).1, (fit_D hf).2.1, .inl (by rw [has_D]; exact hh), by rw [put_new hc hk hv hh hcn, hm], by rw [← hm], (fit_D hg).1, (fit_D hg).2.2⟩
theorem putOk_old {n : Nd} {key value : ByteArray} {m : Nd} {c : Nat} {x : ByteArray} (hc : chkD n = true) (hf : fitD n = true) (hk : mayK key = true) (hv : mayV value = true) (hh : hasD n key = true) (hcn : cntD n key = c) (hx : n.vals[c]? = some x) (hne : x.data.toList ≠ value.data.toList) (hm : (⟨true, n.keys, n.vals.set c value, n.kids⟩ : Nd) = m) (hg : fitD m = true) : PutOk n key value m :=
  ⟨hk, hv, (chk_D hc).2.1, (fit_D hf).1, (fit_D hf).2.1, .inr ⟨by rw [has_D]; exact hh, x, by rw [cnt_D, hcn]; exact hx, fun e => hne (by rw [e])⟩, by rw [put_old hc hk hv hh hcn, hm], by rw [← hm], (fit_D hg).1, (fit_D hg).2.2⟩
theorem delOk {n : Nd} {key : ByteArray} {m : Nd} {c : Nat} (hc : chkD n = true) (hf : fitD n = true) (hh : hasD n key = true) (hcn : cntD n key = c) (hv : n.vals.length = n.keys.length) (hm : (⟨true, n.keys.eraseIdx c, n.vals.eraseIdx c, []⟩ : Nd) = m) (hg : fitD m = true) : DelOk n key m :=
  ⟨(chk_D hc).2.1, (fit_D hf).1, (fit_D hf).2.1, (chk_D hc).2.2.1, (chk_D hc).2.2.2, by rw [has_D]; exact hh, by rw [cnt_D, hcn, hm], hv, (fit_D hg).1, (fit_D hg).2.2⟩

def im1 : Nd := ⟨true, [kS], [cV 2], []⟩
def im2 : Nd := ⟨true, [kN 105 1, kS], [iV 2 1, cV 2], []⟩
def im3 : Nd := ⟨true, [kN 105 1, kS], [iV 2 1, cV 3], []⟩
def im4 : Nd := ⟨true, [kN 105 1, kN 105 2, kS], [iV 2 1, iV 1 0, cV 3], []⟩
def im6 : Nd := ⟨true, [kN 105 1, kS], [iV 2 1, cV 4], []⟩
def im7 : Nd := ⟨true, [kN 105 1, kN 105 3, kS], [iV 2 1, iV 1 0, cV 4], []⟩
theorem ip1 : PutOk nd0 kS (cV 2) im1 := putOk_new (c := 0) (by decide +kernel) (by decide +kernel) (by decide +kernel) (by decide +kernel) (by decide +kernel) (by decide +kernel) rfl (by decide +kernel)
theorem ip2 : PutOk im1 (kN 105 1) (iV 2 1) im2 := putOk_new (c := 0) (by decide +kernel) (by decide +kernel) (by decide +kernel) (by decide +kernel) (by decide +kernel) (by decide +kernel) rfl (by decide +kernel)
theorem ip3 : PutOk im2 kS (cV 3) im3 := putOk_old (c := 1) (x := cV 2) (by decide +kernel) (by decide +kernel) (by decide +kernel) (by decide +kernel) (by decide +kernel) (by decide +kernel) rfl (by decide +kernel) rfl (by decide +kernel)
theorem ip4 : PutOk im3 (kN 105 2) (iV 1 0) im4 := putOk_new (c := 1) (by decide +kernel) (by decide +kernel) (by decide +kernel) (by decide +kernel) (by decide +kernel) (by decide +kernel) rfl (by decide +kernel)
theorem id5 : DelOk im4 (kN 105 2) im3 := delOk (c := 1) (by decide +kernel) (by decide +kernel) (by decide +kernel) (by decide +kernel) (by decide +kernel) rfl (by decide +kernel)
theorem ip6 : PutOk im3 kS (cV 4) im6 := putOk_old (c := 1) (x := cV 3) (by decide +kernel) (by decide +kernel) (by decide +kernel) (by decide +kernel) (by decide +kernel) (by decide +kernel) rfl (by decide +kernel) rfl (by decide +kernel)
theorem ip7 : PutOk im6 (kN 105 3) (iV 1 0) im7 := putOk_new (c := 1) (by decide +kernel) (by decide +kernel) (by decide +kernel) (by decide +kernel) (by decide +kernel) (by decide +kernel) rfl (by decide +kernel)
theorem ctrd2 : CtRd (cV 2) 2 := ⟨(by decide +kernel), (by decide +kernel), (by decide +kernel), (by decide +kernel), (by decide +kernel), (by decide +kernel), (by decide +kernel)⟩
theorem ctrd3 : CtRd (cV 3) 3 := ⟨(by decide +kernel), (by decide +kernel), (by decide +kernel), (by decide +kernel), (by decide +kernel), (by decide +kernel), (by decide +kernel)⟩
theorem ctok0 : CtOk nd0 1 := .inl ⟨by rw [has_D]; decide +kernel, rfl⟩
theorem ctok_im2 : CtOk im2 2 := .inr ⟨by rw [has_D]; decide +kernel, rfl, cV 2, by rw [cnt_D]; rfl, ctrd2⟩
theorem ctok_im3 : CtOk im3 3 := .inr ⟨by rw [has_D]; decide +kernel, rfl, cV 3, by rw [cnt_D]; rfl, ctrd3⟩
end Go.Proofs.YtmlibjohhgpniaaGreatDoor
