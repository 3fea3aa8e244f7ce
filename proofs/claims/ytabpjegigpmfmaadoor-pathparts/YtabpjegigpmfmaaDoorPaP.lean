/- A path's pieces, and paths of pieces: pure. Of no program. -/
namespace Go.Proofs.YtabpjegigpmfmaaDoor
set_option linter.unusedVariables false
def BA (l : List UInt8) : ByteArray := ⟨l.toArray⟩
theorem BA_data (l : List UInt8) : (BA l).data.toList = l := by simp [BA]
theorem BA_inj {a b : List UInt8} (h : BA a = BA b) : a = b := by
  have := congrArg (fun x => x.data.toList) h
  simpa [BA] using this
theorem BA_of (s : ByteArray) : BA s.data.toList = s := by cases s; simp [BA]
/-- A piece, if it has a byte. -/
def lift (x : List UInt8) : List (List UInt8) := if x.isEmpty then [] else [x]
/-- What stands between slashes and has a byte; the first one has begun with cur. -/
def pc : List UInt8 → List UInt8 → List (List UInt8)
  | cur, [] => lift cur
  | cur, b :: r => if b = 47 then lift cur ++ pc [] r else pc (cur ++ [b]) r
theorem lift_nil : lift [] = [] := rfl
theorem lift_ne {x : List UInt8} (h : x ≠ []) : lift x = [x] := by cases x; exact absurd rfl h; rfl
theorem mem_lift {x y : List UInt8} (h : y ∈ lift x) : y = x ∧ y ≠ [] := by
  cases x with
  | nil => simp [lift] at h
  | cons a l => simp [lift] at h; exact ⟨h, by rw [h]; simp⟩
theorem pc_mem : ∀ (P cur y : List UInt8), y ∈ pc cur P → y ≠ [] ∧ (47 ∉ cur → 47 ∉ y) ∧ ∀ b ∈ y, b ∈ cur ∨ b ∈ P
  | [], cur, y, h => by
    obtain ⟨rfl, h2⟩ := mem_lift h
    exact ⟨h2, fun h => h, fun b hb => .inl hb⟩
  | c :: r, cur, y, h => by
    unfold pc at h
    split at h
    · rcases List.mem_append.1 h with h | h
      · obtain ⟨rfl, h2⟩ := mem_lift h
        exact ⟨h2, fun h => h, fun b hb => .inl hb⟩
      · obtain ⟨h1, h2, h3⟩ := pc_mem r [] y h
        refine ⟨h1, fun _ => h2 (by simp), fun b hb => ?_⟩
        rcases h3 b hb with h | h
        · simp at h
        · exact .inr (by simp [h])
    · rename_i hc
      obtain ⟨h1, h2, h3⟩ := pc_mem r (cur ++ [c]) y h
      refine ⟨h1, fun hn => h2 (by simp [hn]; exact fun e => hc e.symm), fun b hb => ?_⟩
      rcases h3 b hb with h | h
      · rcases List.mem_append.1 h with h | h
        · exact .inl h
        · exact .inr (by simp at h; simp [h])
      · exact .inr (by simp [h])
def wsum (l : List (List UInt8)) : Nat := (l.map fun x => x.length + 1).sum
theorem wsum_app (a b : List (List UInt8)) : wsum (a ++ b) = wsum a + wsum b := by simp [wsum]
theorem wsum_lift (x : List UInt8) : wsum (lift x) ≤ x.length + 1 := by cases x <;> simp [lift, wsum]
theorem pc_sum : ∀ (P cur : List UInt8), wsum (pc cur P) ≤ cur.length + P.length + 1
  | [], cur => by simpa [pc] using wsum_lift cur
  | c :: r, cur => by
    unfold pc
    split
    · rw [wsum_app]
      have := pc_sum r []
      have := wsum_lift cur
      simp at *
      omega
    · have := pc_sum r (cur ++ [c])
      simp at *
      omega
theorem pc_len (P cur : List UInt8) : (pc cur P).length ≤ cur.length + P.length + 1 := by
  have := pc_sum P cur
  have h : ∀ l : List (List UInt8), l.length ≤ wsum l := fun l => by
    induction l with
    | nil => simp
    | cons x l ih => simp [wsum] at *; omega
  have := h (pc cur P)
  omega
theorem pc_skip : ∀ (x cur r : List UInt8), 47 ∉ x → pc cur (x ++ r) = pc (cur ++ x) r
  | [], cur, r, _ => by simp
  | c :: x, cur, r, h => by
    have hc : ¬ c = 47 := fun e => h (by simp [e])
    rw [List.cons_append, pc, if_neg hc, pc_skip x _ r (fun hx => h (by simp [hx]))]
    simp
/-- Each piece behind a slash. -/
def joinL (l : List (List UInt8)) : List UInt8 := (l.map fun x => 47 :: x).flatten
/-- The path of some parts. -/
def joinP (l : List (List UInt8)) : List UInt8 := if l.isEmpty then [47] else joinL l
theorem joinL_cons (x : List UInt8) (l : List (List UInt8)) : joinL (x :: l) = 47 :: (x ++ joinL l) := by simp [joinL]
theorem joinL_len (l : List (List UInt8)) : (joinL l).length = wsum l := by
  induction l with
  | nil => rfl
  | cons x l ih => rw [joinL_cons]; simp [wsum] at *; omega
theorem joinL_snoc (l : List (List UInt8)) (x : List UInt8) : joinL (l ++ [x]) = joinL l ++ (47 :: x) := by simp [joinL]
theorem pc_from (x : List UInt8) (l : List (List UInt8)) : pc x (joinL l) = lift x ++ pc [] (joinL l) := by
  cases l with
  | nil => simp [joinL, pc, lift_nil]
  | cons y l => rw [joinL_cons]; simp [pc, lift_nil]
theorem pc_join : ∀ (l : List (List UInt8)), (∀ x ∈ l, x ≠ [] ∧ 47 ∉ x) → pc [] (joinL l) = l
  | [], _ => rfl
  | x :: l, h => by
    obtain ⟨h1, h2⟩ := h x (by simp)
    rw [joinL_cons, pc, if_pos rfl, lift_nil, List.nil_append, pc_skip x [] _ h2, List.nil_append, pc_from, pc_join l (fun y hy => h y (by simp [hy])), lift_ne h1]
    rfl
theorem pc_joinP (l : List (List UInt8)) (h : ∀ x ∈ l, x ≠ [] ∧ 47 ∉ x) : pc [] (joinP l) = l := by
  cases l with
  | nil => rfl
  | cons x l => exact pc_join (x :: l) h
theorem pc_slash (r : List UInt8) : pc [] (47 :: r) = pc [] r := by simp [pc, lift_nil]
theorem pc_none : ∀ (P cur : List UInt8), pc cur P = [] ↔ cur = [] ∧ ∀ b ∈ P, b = 47
  | [], cur => by cases cur <;> simp [pc, lift]
  | c :: r, cur => by
    unfold pc
    split
    · rename_i hc
      have := pc_none r []
      cases cur <;> simp [lift, this, hc]
    · rename_i hc
      have := pc_none r (cur ++ [c])
      simp [this, hc]
/-- No piece is longer than a name may be. -/
def fits (P : List UInt8) : Bool := (pc [] P).all fun x => decide (x.length ≤ 32)
def splE (P : List UInt8) : Int := if P.length = 0 then 231 else if 512 < P.length then 241 else if P.headD 0 ≠ 47 ∨ 0 ∈ P then 236 else if fits P then 0 else 241
def splL (P : List UInt8) : List (List UInt8) := if splE P = 0 then pc [] P else []
theorem splE_zero {P : List UInt8} : splE P = 0 ↔ P.length ≠ 0 ∧ P.length ≤ 512 ∧ P.headD 0 = 47 ∧ 0 ∉ P ∧ fits P = true := by
  unfold splE
  by_cases h1 : P.length = 0
  · simp [h1]
  by_cases h2 : 512 < P.length
  · rw [if_neg h1, if_pos h2]; simp; omega
  by_cases h3 : P.headD 0 ≠ 47 ∨ 0 ∈ P
  · rw [if_neg h1, if_neg h2, if_pos h3]
    simp only [show ¬ ((236 : Int) = 0) by decide, false_iff]
    rintro ⟨_, _, h4, h5, _⟩
    rcases h3 with h | h
    · exact h h4
    · exact h5 h
  · rw [if_neg h1, if_neg h2, if_neg h3]
    have h4 : P.headD 0 = 47 := Decidable.byContradiction fun h => h3 (.inl h)
    have h5 : 0 ∉ P := fun h => h3 (.inr h)
    have h6 : P.length ≤ 512 := by omega
    cases h7 : fits P
    · simp
    · exact ⟨fun _ => ⟨h1, h6, h4, h5, rfl⟩, fun _ => by simp⟩
/-- Parts of a path that may be are names' bytes. -/
structure Good (l : List (List UInt8)) : Prop where
  ne : ∀ x ∈ l, x ≠ [] ∧ 47 ∉ x ∧ 0 ∉ x ∧ x.length ≤ 32
theorem split_good {P : List UInt8} (h : splE P = 0) : Good (pc [] P) ∧ wsum (pc [] P) ≤ P.length := by
  obtain ⟨h1, h2, h3, h4, h5⟩ := splE_zero.1 h
  constructor
  · refine ⟨fun x hx => ?_⟩
    obtain ⟨g1, g2, g3⟩ := pc_mem P [] x hx
    refine ⟨g1, g2 (by simp), fun h0 => ?_, by have := List.all_eq_true.1 h5 x hx; simpa using this⟩
    rcases g3 0 h0 with h | h
    · simp at h
    · exact h4 h
  · cases P with
    | nil => simp at h1
    | cons c r =>
      have hc : c = 47 := by simpa using h3
      subst hc
      rw [pc_slash]
      have := pc_sum r []
      simp at *
      omega
theorem split_back {l : List (List UInt8)} (g : Good l) (hw : wsum l ≤ 512) : splE (joinP l) = 0 ∧ pc [] (joinP l) = l := by
  have hp : pc [] (joinP l) = l := pc_joinP l (fun x hx => ⟨(g.ne x hx).1, (g.ne x hx).2.1⟩)
  refine ⟨splE_zero.2 ?_, hp⟩
  have hf : fits (joinP l) = true := by
    unfold fits
    rw [hp]
    exact List.all_eq_true.2 fun x hx => by simpa using (g.ne x hx).2.2.2
  cases l with
  | nil => exact ⟨by decide, by decide, by decide, by decide, hf⟩
  | cons x l =>
    have hj : joinP (x :: l) = joinL (x :: l) := rfl
    rw [hj] at hf ⊢
    refine ⟨by rw [joinL_cons]; simp, by rw [joinL_len]; exact hw, by rw [joinL_cons]; rfl, fun h0 => ?_, hf⟩
    unfold joinL at h0
    obtain ⟨y, hy, h1⟩ := List.mem_flatten.1 h0
    obtain ⟨z, hz, rfl⟩ := List.mem_map.1 hy
    rcases List.mem_cons.1 h1 with h | h
    · cases h
    · exact (g.ne z hz).2.2.1 h
/-- Dots taken away. -/
def cleanS (out : List (List UInt8)) (s : List UInt8) : List (List UInt8) := if s = [46] then out else if s = [46, 46] then out.dropLast else out ++ [s]
def cleanL (l : List (List UInt8)) : List (List UInt8) := l.foldl cleanS []
theorem cleanL_snoc (l : List (List UInt8)) (s : List UInt8) : cleanL (l ++ [s]) = cleanS (cleanL l) s := by simp [cleanL]
theorem clean_mem : ∀ (l out : List (List UInt8)), (∀ x ∈ out, x ≠ [46] ∧ x ≠ [46, 46]) → (∀ x ∈ l.foldl cleanS out, (x ∈ out ∨ x ∈ l) ∧ x ≠ [46] ∧ x ≠ [46, 46]) ∧ wsum (l.foldl cleanS out) ≤ wsum out + wsum l ∧ (l.foldl cleanS out).length ≤ out.length + l.length
  | [], out, h => ⟨fun x hx => ⟨.inl hx, h x hx⟩, by simp [wsum], by simp⟩
  | s :: l, out, h => by
    have hd : wsum out.dropLast ≤ wsum out := by
      rcases List.eq_nil_or_concat out with rfl | ⟨a, b, rfl⟩
      · simp
      · rw [List.concat_eq_append, List.dropLast_concat, wsum_app]; omega
    have h2 : ∀ x ∈ cleanS out s, (x ∈ out ∨ x = s) ∧ x ≠ [46] ∧ x ≠ [46, 46] := by
      intro x hx
      unfold cleanS at hx
      split at hx
      · exact ⟨.inl hx, h x hx⟩
      · split at hx
        · have := List.dropLast_subset out hx
          exact ⟨.inl this, h x this⟩
        · rename_i n1 n2
          rcases List.mem_append.1 hx with hx | hx
          · exact ⟨.inl hx, h x hx⟩
          · simp at hx
            subst hx
            exact ⟨.inr rfl, n1, n2⟩
    have h3 : wsum (cleanS out s) ≤ wsum out + wsum [s] := by
      unfold cleanS
      split
      · omega
      · split
        · omega
        · rw [wsum_app]; exact Nat.le_refl _
    have h4 : (cleanS out s).length ≤ out.length + 1 := by
      unfold cleanS
      split
      · omega
      · split
        · simp; omega
        · simp
    obtain ⟨g1, g2, g3⟩ := clean_mem l (cleanS out s) (fun x hx => (h2 x hx).2)
    refine ⟨fun x hx => ?_, ?_, ?_⟩
    · obtain ⟨a, b⟩ := g1 x hx
      refine ⟨?_, b⟩
      rcases a with a | a
      · rcases (h2 x a).1 with c | c
        · exact .inl c
        · exact .inr (by simp [c])
      · exact .inr (by simp [a])
    · have : wsum (s :: l) = wsum [s] + wsum l := wsum_app [s] l
      have e : (s :: l).foldl cleanS out = l.foldl cleanS (cleanS out s) := rfl
      rw [e]
      omega
    · have e : (s :: l).foldl cleanS out = l.foldl cleanS (cleanS out s) := rfl
      rw [e]
      simp
      omega
theorem clean_good {l : List (List UInt8)} (g : Good l) : Good (cleanL l) ∧ (∀ x ∈ cleanL l, x ≠ [46] ∧ x ≠ [46, 46]) ∧ wsum (cleanL l) ≤ wsum l := by
  obtain ⟨g1, g2, _⟩ := clean_mem l [] (by simp)
  refine ⟨⟨fun x hx => ?_⟩, fun x hx => (g1 x hx).2, (show wsum (l.foldl cleanS []) ≤ wsum l from Nat.le_trans g2 (by simp [wsum]))⟩
  rcases (g1 x hx).1 with h | h
  · simp at h
  · exact g.ne x h
theorem clean_len (l : List (List UInt8)) : (cleanL l).length ≤ l.length := by have h := (clean_mem l [] (by simp)).2.2; unfold cleanL; simpa using h
theorem clean_still : ∀ (l out : List (List UInt8)), (∀ x ∈ l, x ≠ [46] ∧ x ≠ [46, 46]) → l.foldl cleanS out = out ++ l
  | [], out, _ => by simp
  | s :: l, out, h => by
    have hs := h s (by simp)
    have e : (s :: l).foldl cleanS out = l.foldl cleanS (cleanS out s) := rfl
    rw [e, clean_still l _ (fun x hx => h x (by simp [hx]))]
    unfold cleanS
    rw [if_neg hs.1, if_neg hs.2]
    simp
theorem clean_twice {P : List UInt8} (h : splE P = 0) : splE (joinP (cleanL (pc [] P))) = 0 ∧ pc [] (joinP (cleanL (pc [] P))) = cleanL (pc [] P) ∧ cleanL (cleanL (pc [] P)) = cleanL (pc [] P) ∧ ∀ x ∈ cleanL (pc [] P), x ≠ [46] ∧ x ≠ [46, 46] := by
  obtain ⟨g, hw⟩ := split_good h
  obtain ⟨g1, g2, g3⟩ := clean_good g
  have h5 := (splE_zero.1 h).2.1
  obtain ⟨a, b⟩ := split_back g1 (by omega)
  exact ⟨a, b, by have := clean_still (cleanL (pc [] P)) [] g2; simpa [cleanL] using this, g2⟩
end Go.Proofs.YtabpjegigpmfmaaDoor
