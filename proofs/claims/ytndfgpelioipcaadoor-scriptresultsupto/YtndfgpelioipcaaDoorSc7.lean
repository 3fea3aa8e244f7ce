/- script: the grammar: newGrammar, walked; what its two maps tell. -/
import Derived.Test.YtndfgpelioipcaaDoorSc6
import Derived.Maps.RangeWalk
import Derived.Maps.OwnOps
import Derived.Maps.Ext
namespace Go.Proofs.YtndfgpelioipcaaDoor
open Go.RowKit Go.Maps Go.WideMaps
set_option linter.unusedVariables false
set_option linter.unusedSimpArgs false
/-- The kinds' words and the letters of their fields, kind 1 first. -/
def tab : List (List UInt8 × List UInt8) := [([111, 112, 101, 110], [80, 70]), ([99, 108, 111, 115, 101], [72]), ([114, 101, 97, 100], [72, 79, 78]), ([119, 114, 105, 116, 101], [72, 79, 68]), ([116, 114, 117, 110, 99, 97, 116, 101], [72, 78]), ([115, 116, 97, 116], [80]), ([108, 105, 115, 116], [80]), ([109, 107, 100, 105, 114], [80]), ([114, 109, 100, 105, 114], [80]), ([108, 105, 110, 107], [80, 81]), ([117, 110, 108, 105, 110, 107], [80]), ([114, 101, 110, 97, 109, 101], [80, 81]), ([102, 115, 121, 110, 99], [72]), ([115, 121, 110, 99], []), ([99, 104, 101, 99, 107, 112, 111, 105, 110, 116], []), ([99, 108, 101, 97, 110], []), ([99, 111, 109, 112, 97, 99, 116], []), ([101, 118, 105, 99, 116], []), ([114, 101, 109, 111, 117, 110, 116], [])]
def nmL (k : Nat) : List UInt8 := ((tab[k - 1]?).getD ([], [])).1
def flL (k : Nat) : List UInt8 := ((tab[k - 1]?).getD ([], [])).2
def formV (k : Nat) : Value := .agg #[.string (BA (nmL k)), .string (BA (flL k))]
def formD (k : Nat) : DataW Unit := .agg [.lit (.string (nmL k)), .lit (.string (flL k))]
/-- How an element of the map of forms reads. -/
def formR : Value → Option (DataW Unit × List MemPlace)
  | .agg c =>
    match c.toList with
    | [.string a, .string b] => some (.agg [.lit (.string a.data.toList), .lit (.string b.data.toList)], [])
    | _ => none
  | _ => none
theorem formR_inv {v : Value} {y : DataW Unit × List MemPlace} (h : formR v = some y) : ∃ c : ByteArray × ByteArray, v = .agg #[.string c.1, .string c.2] ∧ y = (.agg [.lit (.string c.1.data.toList), .lit (.string c.2.data.toList)], []) := by
  unfold formR at h
  split at h
  · rename_i c
    split at h
    · rename_i a b hc
      cases h
      refine ⟨(a, b), ?_, rfl⟩
      congr 1
      apply Array.ext'
      exact hc
    · cases h
  · cases h
theorem formR_mk (a b : List UInt8) : formR (.agg #[.string (BA a), .string (BA b)]) = some (.agg [.lit (.string a), .lit (.string b)], []) := rfl
theorem lawI : Keyed Tryd.prog 3 := int_keyed Tryd.underlying3
theorem lawS : Keyed Tryd.prog 9 := string_keyed Tryd.underlying9
theorem zeroI (w : World) : (zeroValue 3).run Tryd.prog w = .ok (.int .i64 0) w := by kernel_rfl
theorem zeroF (w : World) : (zeroValue 68).run Tryd.prog w = .ok (.agg #[.string ⟨#[]⟩, .string ⟨#[]⟩]) w := by kernel_rfl
/-- The map of forms behind its first k entries. -/
def Dn : Nat → DataW Unit
  | 0 => .map []
  | k + 1 => (Dn k).put (.int .i64 ((k + 1 : Nat) : Int)) (formD (k + 1))
theorem Dn_map : ∀ k, IsMap (Dn k)
  | 0 => isMap_empty
  | k + 1 => (Dn_map k).put _ _
theorem keyLit (x : Int) : WideAt.IsKeyLit (.int .i64 x) := by first | trivial | simp [WideAt.IsKeyLit]
theorem keyLitS (l : List UInt8) : WideAt.IsKeyLit (.string l) := by first | trivial | simp [WideAt.IsKeyLit]
theorem Dn_has : ∀ (k : Nat) (x : Int), Maps.has (Dn k) (.int .i64 x) = decide (1 ≤ x ∧ x ≤ k)
  | 0, x => by
    rw [decide_eq_false (by omega)]
    rfl
  | k + 1, x => by
    unfold Dn
    by_cases h : x = ((k + 1 : Nat) : Int)
    · subst h
      rw [has_put_same (Dn_map k) (keyLit _), decide_eq_true (by omega)]
    · rw [has_put_other (fun e => h (by cases e; rfl)), Dn_has k x]
      exact decide_eq_decide.2 (by omega)
theorem Dn_at : ∀ (k : Nat) (x : Int) (z : DataW Unit), (Dn k).atKey (.int .i64 x) z = if 1 ≤ x ∧ x ≤ k then formD x.toNat else z
  | 0, x, z => by
    rw [if_neg (by omega)]
    exact atKey_of_not_has (by rw [Dn_has, decide_eq_false (by omega)]) z
  | k + 1, x, z => by
    unfold Dn
    by_cases h : x = ((k + 1 : Nat) : Int)
    · subst h
      rw [atKey_put_same (Dn_map k) (keyLit _), if_pos (by omega), Int.toNat_natCast]
    · rw [atKey_put_other (fun e => h (by cases e; rfl)), Dn_at k x z]
      by_cases h2 : 1 ≤ x ∧ x ≤ k
      · rw [if_pos h2, if_pos (by omega)]
      · rw [if_neg h2, if_neg (by omega)]
/-- The forms while they are laid. -/
structure FM (w0 : World) (b k : Nat) (w : World) : Prop where
  own : w.ownsMap Tryd.prog 3 formR b k (Dn k)
  grown : w0.grownBy w (some b)
theorem wpList_insert_own {H : Type} {P : Program} (w : World) {ops : Array Oper} {rest : List Oper} {o : Oper} {a : Act} {Q : Exit → Act → World → Prop}
    (hg : o.guard = none) (m x v : Operand) (t : TypeId) (hop : o.op = Op.insert t m x v)
    (k e : TypeId) (K : Keyed P k) (ht : P.underlying t = some (.map k e)) (R : Value → Option (DataW H × List MemPlace)) (b n : Nat) (D : DataW H)
    (hm : a.eval m = .map (some b)) (hown : w.ownsMap P k R b n D) (hn : n < maxLen) (key val : Value) (kl : Lit) (hx : a.eval x = key) (hv : a.eval v = val) (hkey : keyOf P k key = some kl)
    (d : DataW H) (ps : List MemPlace) (hval : R val = some (d, ps))
    (hK : ∀ w', w'.ownsMap P k R b (n + 1) (D.put kl d) → w.grownBy w' (some b) → wpList P ops Q rest (a.put o.dst undef) w') :
    wpList P ops Q (o :: rest) a w := by
  refine wpList_plain hg fun K' hK' => ?_
  obtain ⟨w', hrun, r1, r2⟩ := hown.update K ht hn hkey hval
  unfold Oper.wp
  simp [execOp, hop, hm, hx, hv, hrun, Result.andThen]
  exact hK' _ _ (hK w' r1 r2)
theorem wf_i64 {x : Int} (h0 : -9223372036854775808 ≤ x) (h1 : x ≤ 9223372036854775807) : (Lit.int .i64 x).wf = true := by
  simp [Lit.wf, IntKind.min, IntKind.max, IntKind.signed, IntKind.bits]
  omega
theorem ins_step {w0 w : World} {b k : Nat} {ops : Array Oper} {rest : List Oper} {o : Oper} {a : Act} {Q : Exit → Act → World → Prop}
    (hg : o.guard = none) (m x v : Operand) (hop : o.op = Op.insert 48 m x v) (h : FM w0 b k w) (hk : k < 1000)
    (hm : a.eval m = .map (some b)) (hx : a.eval x = .int .i64 ((k + 1 : Nat) : Int)) (hv : a.eval v = formV (k + 1))
    (hK : ∀ w', FM w0 b (k + 1) w' → wpList Tryd.prog ops Q rest (a.put o.dst undef) w') : wpList Tryd.prog ops Q (o :: rest) a w := by
  refine wpList_insert_own w hg m x v _ hop 3 68 lawI Tryd.underlying48 formR b k (Dn k) hm h.own (by unfold maxLen; omega) _ _ (.int .i64 ((k + 1 : Nat) : Int)) hx hv (keyOf_int_mk Tryd.underlying3 (wf_i64 (by omega) (by omega))) (formD (k + 1)) [] (formR_mk _ _) ?_
  intro w' h1 h2
  exact hK w' ⟨h1, h.grown.trans h2⟩
/-- The kind of a word; 0: it is none. -/
def kdOf (l : List UInt8) : Nat := match tab.findIdx? (fun p => p.1 == l) with | some i => i + 1 | none => 0
theorem kd_nm (k : Nat) (h1 : 1 ≤ k) (h2 : k ≤ 19) : kdOf (nmL k) = k := by
  have : ∀ i : Fin 20, 1 ≤ i.val → kdOf (nmL i.val) = i.val := by decide +kernel
  exact this ⟨k, by omega⟩ h1
theorem nm_kd (l : List UInt8) (h : kdOf l ≠ 0) : nmL (kdOf l) = l ∧ 1 ≤ kdOf l ∧ kdOf l ≤ 19 := by
  unfold kdOf at *
  cases hf : tab.findIdx? (fun p => p.1 == l) with
  | none => rw [hf] at h; exact absurd rfl h
  | some i =>
    obtain ⟨hi, he, _⟩ := List.findIdx?_eq_some_iff_getElem.1 hf
    have h19 : tab.length = 19 := rfl
    refine ⟨?_, by simp, by simp; omega⟩
    unfold nmL
    simp only [Nat.add_sub_cancel]
    rw [List.getElem?_eq_getElem hi]
    simpa using he
theorem nm_size (k : Nat) (h1 : 1 ≤ k) (h2 : k ≤ 19) : (nmL k).length ≤ 10 := by
  have : ∀ i : Fin 20, 1 ≤ i.val → (nmL i.val).length ≤ 10 := by decide +kernel
  exact this ⟨k, by omega⟩ h1
/-- The map of kinds, where those kinds are there that are no longer to come. -/
structure KM (Dk : DataW Unit) (left : Int → Bool) : Prop where
  isMap : IsMap Dk
  has : ∀ l, Maps.has Dk (.string l) = decide (kdOf l ≠ 0 ∧ left (kdOf l) = false)
  at_ : ∀ l, kdOf l ≠ 0 → left (kdOf l) = false → ∀ z, Dk.atKey (.string l) z = .lit (.int .i64 (kdOf l))
theorem KM.zero (left : Int → Bool) (h : ∀ k : Nat, 1 ≤ k → k ≤ 19 → left k = true) : KM (.map []) left := by
  refine ⟨isMap_empty, fun l => ?_, fun l hl h2 => ?_⟩
  · rw [decide_eq_false]
    · rfl
    · rintro ⟨h1, h2⟩
      obtain ⟨_, a, b⟩ := nm_kd l h1
      rw [h _ a b] at h2
      cases h2
  · obtain ⟨_, a, b⟩ := nm_kd l hl
    rw [h _ a b] at h2
    cases h2
theorem KM.step {Dk : DataW Unit} {left left2 : Int → Bool} (h : KM Dk left) (k : Nat) (h1 : 1 ≤ k) (h2 : k ≤ 19) (hl : ∀ x : Int, left2 x = (left x && !decide (x = k))) : KM (Dk.put (.string (nmL k)) (.lit (.int .i64 (k : Int)))) left2 := by
  refine ⟨h.isMap.put _ _, fun l => ?_, fun l hl0 hl2 z => ?_⟩
  · by_cases e : l = nmL k
    · subst e
      rw [has_put_same h.isMap (keyLitS _), kd_nm k h1 h2, decide_eq_true]
      refine ⟨by omega, by rw [hl]; simp⟩
    · rw [has_put_other (fun q => e (by cases q; rfl)), h.has]
      refine decide_eq_decide.2 ⟨fun ⟨a, b⟩ => ⟨a, by rw [hl, b]; rfl⟩, fun ⟨a, b⟩ => ⟨a, ?_⟩⟩
      rw [hl] at b
      have hne : ¬ ((kdOf l : Nat) : Int) = (k : Int) := fun q => e (by
        have := (nm_kd l a).1
        rw [show kdOf l = k by omega] at this
        exact this.symm)
      simpa [hne] using b
  · by_cases e : l = nmL k
    · subst e
      rw [atKey_put_same h.isMap (keyLitS _), kd_nm k h1 h2]
    · rw [atKey_put_other (fun q => e (by cases q; rfl))]
      refine h.at_ l hl0 ?_ z
      rw [hl] at hl2
      have hne : ¬ ((kdOf l : Nat) : Int) = (k : Int) := fun q => e (by
        have := (nm_kd l hl0).1
        rw [show kdOf l = k by omega] at this
        exact this.symm)
      simpa [hne] using hl2
/-- A grammar, in memory. -/
structure Gr (B : Nat) (w : World) (bf bk : Nat) : Prop where
  lo1 : B ≤ bf
  lo2 : B ≤ bk
  forms : w.ownsMap Tryd.prog 3 formR bf 1000 (Dn 19)
  ex : ∃ Dk, w.ownsMap Tryd.prog 9 (plainElem Tryd.prog 3) bk 1000 Dk ∧ KM Dk (fun _ => false)
theorem Gr.same {B : Nat} {w w' : World} {bf bk : Nat} (h : Gr B w bf bk) (k : Same w w') : Gr B w' bf bk := by
  have hg : w.grownBy w' none := ⟨k.os, k.tape, k.output, k.size, fun i hi _ => k.block i hi (fun h => h)⟩
  obtain ⟨Dk, h1, h2⟩ := h.ex
  exact ⟨h.lo1, h.lo2, h.forms.kept hg (by simp), Dk, h1.kept hg (by simp), h2⟩
/-- What a look-up of a kind's form tells. -/
def frV (x : Int) : Value := if 1 ≤ x ∧ x ≤ 19 then formV x.toNat else .agg #[.string ⟨#[]⟩, .string ⟨#[]⟩]
theorem form_at {x : Int} {v : Value} {ps : List MemPlace} (h : formR v = some ((Dn 19).atKey (.int .i64 x) (.agg [.lit (.string []), .lit (.string [])]), ps)) : v = frV x := by
  obtain ⟨c, rfl, hy⟩ := formR_inv h
  have h1 := (Prod.mk.inj hy).1
  rw [Dn_at] at h1
  unfold frV
  by_cases h2 : 1 ≤ x ∧ x ≤ 19
  · rw [if_pos h2]
    rw [if_pos (by omega)] at h1
    unfold formD at h1
    unfold formV
    simp only [DataW.agg.injEq, List.cons.injEq, DataW.lit.injEq, Lit.string.injEq, and_true] at h1
    rw [h1.1, h1.2, BA_of, BA_of]
  · rw [if_neg h2]
    rw [if_neg (by omega)] at h1
    simp only [DataW.agg.injEq, List.cons.injEq, DataW.lit.injEq, Lit.string.injEq, and_true] at h1
    have e1 : c.1 = ⟨#[]⟩ := by rw [← BA_of c.1, ← h1.1]; rfl
    have e2 : c.2 = ⟨#[]⟩ := by rw [← BA_of c.2, ← h1.2]; rfl
    rw [e1, e2]
theorem Gr.form {B : Nat} {w : World} {bf bk : Nat} (h : Gr B w bf bk) (x : Int) (h0 : -9223372036854775808 ≤ x) (h1 : x ≤ 9223372036854775807) : (Instr.lookup 48 (.map (some bf)) (.int .i64 x) false).run Tryd.prog w = .ok (frV x) w := by
  obtain ⟨v, ps, hr, hv⟩ := h.forms.lookup lawI Tryd.underlying48 (zeroF w) (zd := .agg [.lit (.string []), .lit (.string [])]) (zp := []) rfl (keyOf_int_mk Tryd.underlying3 (wf_i64 h0 h1))
  rw [hr, form_at hv]
theorem Gr.formOk {B : Nat} {w : World} {bf bk : Nat} (h : Gr B w bf bk) (x : Int) (h0 : -9223372036854775808 ≤ x) (h1 : x ≤ 9223372036854775807) : (Instr.lookup 48 (.map (some bf)) (.int .i64 x) true).run Tryd.prog w = .ok (.tuple #[frV x, .bool (decide (1 ≤ x ∧ x ≤ 19))]) w := by
  obtain ⟨v, ps, hr, hv⟩ := h.forms.look_ok lawI Tryd.underlying48 (zeroF w) (zd := .agg [.lit (.string []), .lit (.string [])]) (zp := []) rfl (keyOf_int_mk Tryd.underlying3 (wf_i64 h0 h1))
  rw [hr, form_at hv, Dn_has]
  rfl
theorem Gr.kind {B : Nat} {w : World} {bf bk : Nat} (h : Gr B w bf bk) (s : ByteArray) (hs : s.size ≤ 140737488355328) : (Instr.lookup 49 (.map (some bk)) (.string s) true).run Tryd.prog w = .ok (.tuple #[.int .i64 (kdOf s.data.toList), .bool (decide (kdOf s.data.toList ≠ 0))]) w := by
  obtain ⟨Dk, ho, hk⟩ := h.ex
  obtain ⟨v, ps, hr, hv⟩ := ho.look_ok lawS Tryd.underlying49 (zeroI w) (plainElem_int Tryd.underlying3 (by decide)) (keyOf_string_mk Tryd.underlying9 (s := s) (by unfold maxLen; omega))
  obtain ⟨c, rfl, hc, _⟩ := plainElem_int_inv Tryd.underlying3 hv
  have h1 := (Prod.mk.inj hc).1
  rw [hr, hk.has]
  by_cases h2 : kdOf s.data.toList = 0
  · rw [atKey_of_not_has (by rw [hk.has, decide_eq_false (fun h => h.1 h2)])] at h1
    rw [decide_eq_false (fun h => h.1 h2), decide_eq_false (fun h => h h2), h2]
    cases h1
    rfl
  · rw [hk.at_ _ h2 rfl] at h1
    rw [decide_eq_true (⟨h2, rfl⟩ : _ ∧ _), decide_eq_true h2]
    cases h1
    rfl
end Go.Proofs.YtndfgpelioipcaaDoor
