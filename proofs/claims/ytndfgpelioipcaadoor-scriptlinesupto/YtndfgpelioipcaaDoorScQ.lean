/- script, pure: the words of a line that was printed are those that were told; what is told of an operation is read again. -/
import Derived.Test.YtndfgpelioipcaaDoorSc12
namespace Go.Proofs.YtndfgpelioipcaaDoor
open Go.RowKit
set_option linter.unusedVariables false
set_option linter.unusedSimpArgs false
/-- A word that no blank parts, and that leaves nothing open. -/
def Cl (x : List UInt8) : Prop := ∀ r, sc false (x ++ r) = (sc false r).map (· + x.length)
theorem map_add (o : Option Nat) (a b : Nat) : (o.map (· + a)).map (· + b) = o.map (· + (a + b)) := by cases o <;> simp; omega
theorem sc_bare (c : UInt8) (r : List UInt8) (h1 : c ≠ 34) (h2 : c ≠ 32) : sc false (c :: r) = (sc false r).map (· + 1) := by
  conv => lhs; unfold sc
  rw [if_neg (by simp), if_neg h1, if_neg (fun h => h2 h.1)]
theorem cl_bare : ∀ x : List UInt8, (∀ c ∈ x, c ≠ 34 ∧ c ≠ 32) → Cl x
  | [], _ => fun r => by simp
  | c :: x, h => fun r => by
    have ih := cl_bare x (fun d hd => h d (by simp [hd])) r
    have hc := h c (by simp)
    rw [List.cons_append, sc_bare c _ hc.1 hc.2, ih, map_add]
    simp
theorem sc_in (c : UInt8) (r : List UInt8) (h1 : c ≠ 34) (h2 : c ≠ 92) : sc true (c :: r) = (sc true r).map (· + 1) := by
  conv => lhs; unfold sc
  rw [if_neg (fun h => h2 h.2), if_neg h1, if_neg (by simp)]
theorem sc_esc (d : UInt8) (r : List UInt8) : sc true (92 :: d :: r) = (sc true r).map (· + 2) := by
  conv => lhs; unfold sc
  rw [if_pos (by simp)]
theorem hexD_ok (n : Nat) (h : n < 16) : hexD n ≠ 34 ∧ hexD n ≠ 92 := by
  have : ∀ i : Fin 16, hexD i.val ≠ 34 ∧ hexD i.val ≠ 92 := by decide +kernel
  exact this ⟨n, h⟩
theorem sc_qb : ∀ (l r : List UInt8), sc true (qb l ++ r) = (sc true r).map (· + (qb l).length)
  | [], r => by simp [qb_nil]
  | b :: l, r => by
    have ih := sc_qb l r
    rw [qb_cons, List.append_assoc, List.length_append]
    unfold q1
    split
    · rename_i h
      have h34 : b ≠ 34 := fun e => by subst e; revert h; decide
      have h92 : b ≠ 92 := fun e => by subst e; revert h; decide
      rw [List.singleton_append, sc_in b _ h34 h92, ih, map_add]
      congr 1; funext x; simp; omega
    · split
      · rw [List.cons_append, List.cons_append, List.nil_append, sc_esc, ih, map_add]
        congr 1; funext x; simp; omega
      · have e1 := hexD_ok (b.toNat / 16) (by have := b.toNat_lt; omega)
        have e2 := hexD_ok (b.toNat % 16) (by omega)
        rw [List.cons_append, List.cons_append, List.cons_append, List.cons_append, List.nil_append, sc_esc, sc_in _ _ e1.1 e1.2, sc_in _ _ e2.1 e2.2, ih, map_add, map_add, map_add]
        congr 1; funext x; simp; omega
theorem cl_quote (l : List UInt8) : Cl (quoteL l) := fun r => by
  have h1 : ∀ s, sc false (34 :: s) = (sc true s).map (· + 1) := fun s => by
    conv => lhs; unfold sc
    rw [if_neg (by simp), if_pos rfl]
    rfl
  have h2 : ∀ s, sc true (34 :: s) = (sc false s).map (· + 1) := fun s => by
    conv => lhs; unfold sc
    rw [if_neg (by simp), if_pos rfl]
    rfl
  unfold quoteL
  rw [List.cons_append, h1, List.append_assoc, sc_qb, List.singleton_append, h2, map_add, map_add]
  congr 1; funext x; simp; omega
theorem words_jn : ∀ (x : List UInt8) (xs : List (List UInt8)), (∀ y ∈ x :: xs, Cl y) → wordsL (jn (x :: xs)) = x :: xs
  | x, [], h => by
    rw [jn_one]
    apply words_end
    have := h x (by simp) []
    simpa [sc] using this
  | x, y :: ys, h => by
    rw [jn_cons]
    have h1 := h x (by simp) (32 :: jn (y :: ys))
    have h2 : sc false (32 :: jn (y :: ys)) = some 0 := by
      conv => lhs; unfold sc
      simp
    rw [h2] at h1
    have h3 : sc false (x ++ 32 :: jn (y :: ys)) = some x.length := by rw [h1]; simp
    have h4 : (x ++ 32 :: jn (y :: ys)).drop (x.length + 1) = jn (y :: ys) := by simp
    rw [words_cut h3, List.take_left, h4, words_jn y ys (fun z hz => h z (by simp [hz]))]
theorem dec_head (u : Nat) : ∃ c r, Lib.decDigits u = c :: r ∧ 48 ≤ c.toNat ∧ c.toNat ≤ 57 ∧ ∀ d ∈ c :: r, 48 ≤ d.toNat ∧ d.toNat ≤ 57 := by
  induction u using Nat.strongRecOn with
  | _ u ih =>
    by_cases h : u < 10
    · refine ⟨UInt8.ofNat (48 + u), [], Lib.decDigits_one h, ?_⟩
      have e : (UInt8.ofNat (48 + u)).toNat = 48 + u := by rw [UInt8.toNat_ofNat']; omega
      rw [e]
      refine ⟨by omega, by omega, fun d hd => ?_⟩
      rw [List.mem_singleton.1 hd, e]
      omega
    · obtain ⟨c, r, he, h1, h2, h3⟩ := ih (u / 10) (by omega)
      refine ⟨c, r ++ [UInt8.ofNat (48 + u % 10)], ?_, h1, h2, fun d hd => ?_⟩
      · conv => lhs; unfold Lib.decDigits
        rw [dif_neg h, he]
        rfl
      · rw [← List.cons_append] at hd
        rcases List.mem_append.1 hd with hd | hd
        · exact h3 d hd
        · rw [List.mem_singleton.1 hd, UInt8.toNat_ofNat']
          omega
theorem parse_dec (u : Nat) (hu : u < 1000000000000000000) : ∀ rest, Lib.parseUint10 0 (Lib.decDigits u ++ rest) = Lib.parseUint10 u rest := by
  induction u using Nat.strongRecOn with
  | _ u ih =>
    intro rest
    have step : ∀ acc d, d < 10 → acc < 100000000000000000 → Lib.parseUint10 acc (UInt8.ofNat (48 + d) :: rest) = Lib.parseUint10 (acc * 10 + d) rest := fun acc d hd ha => by
      have e : (UInt8.ofNat (48 + d)).toNat = 48 + d := by rw [UInt8.toNat_ofNat']; omega
      simp only [Lib.parseUint10, e]
      rw [if_pos (by omega), if_neg (by omega), if_neg (by omega)]
      congr 1
      omega
    by_cases h : u < 10
    · rw [Lib.decDigits_one h, List.singleton_append, step 0 u h (by omega)]
      congr 1; omega
    · conv => lhs; unfold Lib.decDigits
      rw [dif_neg h, List.append_assoc, ih (u / 10) (by omega) (by omega), List.singleton_append, step (u / 10) (u % 10) (by omega) (by omega)]
      congr 1; omega
theorem num_itoa (n : Int) (h : mayN n = true) : num (Lib.itoa n) = some n := by
  have hb : -1000000000000000000 < n ∧ n < 1000000000000000000 := by
    unfold mayN at h
    simpa using h
  have ha : Lib.atoiAll (Lib.itoa n) = .ok n := by
    unfold Lib.itoa
    by_cases hn : n < 0
    · rw [if_pos hn, Lib.atoiAll_minus]
      obtain ⟨c, r, he, _⟩ := dec_head n.natAbs
      have hp := parse_dec n.natAbs (by omega) []
      rw [List.append_nil] at hp
      unfold Lib.parseMag
      rw [if_neg (by rw [he]; simp), hp]
      simp only [Lib.parseUint10, Lib.signed]
      rw [if_neg (by omega)]
      congr 1
      omega
    · rw [if_neg hn]
      obtain ⟨c, r, he, h1, h2, _⟩ := dec_head n.toNat
      have hp := parse_dec n.toNat (by omega) []
      rw [List.append_nil] at hp
      rw [he, Lib.atoiAll_plain c r (by omega) (by omega), ← he]
      unfold Lib.parseMag
      rw [if_neg (by rw [he]; simp), hp]
      simp only [Lib.parseUint10, Lib.signless]
      rw [if_neg (by omega)]
      congr 1
      omega
  unfold num
  rw [ha]
  exact if_pos ⟨h, rfl⟩
theorem cl_itoa (n : Int) : Cl (Lib.itoa n) := by
  apply cl_bare
  intro c hc
  have hd : ∀ u, ∀ d ∈ Lib.decDigits u, d ≠ 34 ∧ d ≠ 32 := fun u d hd => by
    obtain ⟨c, r, he, _, _, h3⟩ := dec_head u
    rw [he] at hd
    have := h3 d hd
    refine ⟨fun e => ?_, fun e => ?_⟩ <;> (rw [e] at this; revert this; decide)
  unfold Lib.itoa at hc
  split at hc
  · rcases List.mem_cons.1 hc with rfl | hc
    · decide
    · exact hd _ c hc
  · exact hd _ c hc
theorem cl_nm (k : Nat) (h : k ≤ 19) : Cl (nmL k) := by
  apply cl_bare
  have : ∀ i : Fin 20, ∀ c ∈ nmL i.val, c ≠ 34 ∧ c ≠ 32 := by decide +kernel
  exact this ⟨k, by omega⟩
theorem setT_comm (o : OpR) {b c : UInt8} (hb : isT b = true) (hc : isT c = true) (h : b ≠ c) (x y : List UInt8) : (o.setT b x).setT c y = (o.setT c y).setT b x := by
  have hb' := isL_cases (c := b) (by unfold isL; rw [hb]; rfl)
  have hc' := isL_cases (c := c) (by unfold isL; rw [hc]; rfl)
  rcases hb' with rfl | rfl | rfl | rfl | rfl | rfl | rfl <;> rcases hc' with rfl | rfl | rfl | rfl | rfl | rfl | rfl <;> first
    | exact absurd rfl h
    | rfl
    | exact absurd hb (by decide)
    | exact absurd hc (by decide)
theorem setN_comm (o : OpR) {b c : UInt8} (hb : isN b = true) (hc : isN c = true) (h : b ≠ c) (x y : Int) : (o.setN b x).setN c y = (o.setN c y).setN b x := by
  have hb' := isL_cases (c := b) (by unfold isL; rw [hb]; simp)
  have hc' := isL_cases (c := c) (by unfold isL; rw [hc]; simp)
  rcases hb' with rfl | rfl | rfl | rfl | rfl | rfl | rfl <;> rcases hc' with rfl | rfl | rfl | rfl | rfl | rfl | rfl <;> first
    | exact absurd rfl h
    | rfl
    | exact absurd hb (by decide)
    | exact absurd hc (by decide)
theorem setTN_comm (o : OpR) (b c : UInt8) (x : List UInt8) (y : Int) : (o.setT b x).setN c y = (o.setN c y).setT b x := by
  unfold OpR.setT OpR.setN
  repeat' split
  all_goals rfl
/-- What was told of a field is let be again. -/
theorem tak_wd {o o2 : OpR} {c : UInt8} (hc : isL c = true) (hm : o.may c = true) (he : o2 = o2) : o2.tak c (o.wd c) = some (if isT c then o2.setT c (o.txt c) else o2.setN c (o.num c)) := by
  unfold OpR.tak OpR.wd
  cases ht : isT c
  · simp only [Bool.false_eq_true, if_false]
    have : o.may c = mayN (o.num c) := by unfold OpR.may; rw [ht]; rfl
    rw [this] at hm
    have := num_itoa (o.num c) hm
    unfold nw
    rw [this]
    rfl
  · simp only [if_true]
    rw [unq_quote]
    rfl
/-- A field set ahead of the reading of others is set behind it. -/
theorem ps_set {t : List UInt8} {n : Int} (c : UInt8) (hc : isL c = true) (f : OpR → OpR) (hf : f = (fun o => o.setT c t) ∧ isT c = true ∨ f = (fun o => o.setN c n) ∧ isN c = true) : ∀ (r : List UInt8) (ws : List (List UInt8)) (o : OpR), (∀ d ∈ r, isL d = true ∧ d ≠ c) → ps (f o) r ws = (ps o r ws).map f
  | [], ws, o, _ => by simp [ps]
  | d :: r, [], o, _ => by simp [ps]
  | d :: r, x :: ws, o, h => by
    have hd := h d (by simp)
    have hcomm : (f o).tak d x = (o.tak d x).map f := by
      unfold OpR.tak
      cases htd : isT d
      · have hnd : isN d = true := by have := hd.1; unfold isL at this; rw [htd] at this; simpa using this
        simp only [Bool.false_eq_true, if_false]
        cases nw x with
        | none => rfl
        | some v =>
          simp only [Option.map_some]
          congr 1
          rcases hf with ⟨rfl, _⟩ | ⟨rfl, hn⟩
          · exact setTN_comm o c d t v
          · exact setN_comm o hn hnd (Ne.symm hd.2) n v
      · simp only [if_true]
        cases unq x with
        | none => rfl
        | some v =>
          simp only [Option.map_some]
          congr 1
          rcases hf with ⟨rfl, ht⟩ | ⟨rfl, hn⟩
          · exact setT_comm o ht htd (Ne.symm hd.2) t v
          · exact (setTN_comm o d c v n).symm
    simp only [ps]
    rw [hcomm]
    cases o.tak d x with
    | none => rfl
    | some o2 => exact ps_set c hc f hf r ws o2 (fun e he => h e (by simp [he]))
theorem set_clr (o : OpR) (c : UInt8) (hc : isL c = true) : (if isT c then (o.clr c).setT c (o.txt c) else (o.clr c).setN c (o.num c)) = o := by
  rcases isL_cases hc with rfl | rfl | rfl | rfl | rfl | rfl | rfl <;> rfl
/-- What is told of the fields is read again. -/
theorem ps_pr : ∀ (L : List UInt8) (o o2 : OpR) (ws : List (List UInt8)), L.Nodup → (∀ c ∈ L, isL c = true) → pr o L = some (o2, ws) → ps o2 L ws = some o
  | [], o, o2, ws, _, _, h => by
    simp only [pr, Option.some.injEq, Prod.mk.injEq] at h
    obtain ⟨rfl, rfl⟩ := h
    rfl
  | c :: r, o, o2, ws, hn, hl, h => by
    have hc := hl c (by simp)
    unfold pr at h
    cases hm : o.may c with
    | false => rw [hm] at h; simp at h
    | true =>
      rw [hm, if_pos rfl] at h
      cases hp : pr (o.clr c) r with
      | none => rw [hp] at h; cases h
      | some q =>
        rw [hp] at h
        simp only [Option.map_some, Option.some.injEq, Prod.mk.injEq] at h
        obtain ⟨rfl, rfl⟩ := h
        have ih := ps_pr r (o.clr c) q.1 q.2 (List.nodup_cons.1 hn).2 (fun d hd => hl d (by simp [hd])) (by rw [hp])
        have hne : ∀ d ∈ r, isL d = true ∧ d ≠ c := fun d hd => ⟨hl d (by simp [hd]), fun e => (List.nodup_cons.1 hn).1 (e ▸ hd)⟩
        simp only [ps]
        rw [tak_wd hc hm rfl]
        simp only
        have hs := set_clr o c hc
        cases ht : isT c
        · rw [ht] at hs
          simp only [Bool.false_eq_true, if_false] at hs ⊢
          have hnn : isN c = true := by unfold isL at hc; rw [ht] at hc; simpa using hc
          rw [ps_set (t := []) (n := o.num c) c hc (fun q => q.setN c (o.num c)) (.inr ⟨rfl, hnn⟩) r q.2 q.1 hne, ih]
          simp only [Option.map_some]
          rw [hs]
        · rw [ht] at hs
          simp only [if_true] at hs ⊢
          rw [ps_set (t := o.txt c) (n := 0) c hc (fun q => q.setT c (o.txt c)) (.inl ⟨rfl, ht⟩) r q.2 q.1 hne, ih]
          simp only [Option.map_some]
          rw [hs]
theorem pr_cl : ∀ (L : List UInt8) (o o2 : OpR) (ws : List (List UInt8)), pr o L = some (o2, ws) → (∀ y ∈ ws, Cl y) ∧ ws.length = L.length
  | [], o, o2, ws, h => by
    simp only [pr, Option.some.injEq, Prod.mk.injEq] at h
    obtain ⟨_, rfl⟩ := h
    simp
  | c :: r, o, o2, ws, h => by
    unfold pr at h
    split at h
    · cases hp : pr (o.clr c) r with
      | none => rw [hp] at h; cases h
      | some q =>
        rw [hp] at h
        simp only [Option.map_some, Option.some.injEq, Prod.mk.injEq] at h
        obtain ⟨_, rfl⟩ := h
        obtain ⟨h1, h2⟩ := pr_cl r (o.clr c) q.1 q.2 (by rw [hp])
        refine ⟨fun y hy => ?_, by simp [h2]⟩
        rcases List.mem_cons.1 hy with rfl | hy
        · unfold OpR.wd
          split
          · exact cl_quote _
          · exact cl_itoa _
        · exact h1 y hy
    · cases h
theorem fl_nodup' (k : Nat) (h : k ≤ 19) : (flL k).Nodup := by
  have : ∀ i : Fin 20, (flL i.val).Nodup := by decide +kernel
  exact this ⟨k, by omega⟩
/-- What is printed is parsed. -/
theorem prw_prt {o : OpR} {l : List UInt8} (h : prt o = some l) : prw (wordsL l) = some o := by
  unfold prt at h
  split at h
  · rename_i hk
    cases hp : pr o (flL o.kd.toNat) with
    | none => rw [hp] at h; cases h
    | some q =>
      rw [hp] at h
      simp only at h
      split at h
      · rename_i he
        obtain rfl := Option.some.inj h
        obtain ⟨c1, c2⟩ := pr_cl _ _ q.1 q.2 (by rw [hp])
        have hk19 : o.kd.toNat ≤ 19 := by omega
        rw [words_jn (nmL o.kd.toNat) q.2 (fun y hy => by rcases List.mem_cons.1 hy with rfl | hy; (exact cl_nm _ hk19); (exact c1 y hy))]
        simp only [prw]
        rw [kd_nm _ (by omega) hk19, if_neg (by omega)]
        have hkd : ((o.kd.toNat : Nat) : Int) = o.kd := by omega
        rw [hkd, ← he]
        exact ps_pr _ o q.1 q.2 (fl_nodup' _ hk19) (fl_isL _ hk19).2 (by rw [hp])
      · cases h
  · cases h
end Go.Proofs.YtndfgpelioipcaaDoor
