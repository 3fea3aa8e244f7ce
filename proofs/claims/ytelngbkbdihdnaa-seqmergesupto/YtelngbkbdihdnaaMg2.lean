/- Merging: the heads of lists in memory. -/
import Derived.Test.YtelngbkbdihdnaaMg1
namespace Go.Proofs.Ytelngbkbdihdnaa
open Go.RowKit
set_option linter.unusedVariables false
/-- Heads of lists R: which list each has, and that no list is without its head. -/
structure HL (B : Nat) (w : World) (H : List Hd) (R : List (List Kv)) : Prop where
  ls : ∀ h ∈ H, ∃ (hq : h.p < R.length) (h0 : 0 < R[h.p].length), Itc w h.v R[h.p] ∧ h.k = R[h.p][0].1 ∧ ∀ b, h.v.ownBlock = some b → b < B
  all : ∀ q (hq : q < R.length), 0 < R[q].length → ∃ h ∈ H, h.p = q
  nd : (H.map (·.p)).Nodup
theorem HL.kept {B : Nat} {w w' : World} {H : List Hd} {R : List (List Kv)} {S : Nat → Prop} (h : HL B w H R) (k : Kept S w w') (hs : ∀ b, b < B → ¬ S b) : HL B w' H R :=
  ⟨fun x hx => let ⟨hq, h0, a, b, c⟩ := h.ls x hx; ⟨hq, h0, a.kept k (fun q hq' => hs q (c q hq')), b, c⟩, h.all, h.nd⟩
theorem HL.perm {B : Nat} {w : World} {H H' : List Hd} {R : List (List Kv)} (h : HL B w H R) (hp : H'.Perm H) : HL B w H' R :=
  ⟨fun x hx => h.ls x (hp.mem_iff.1 hx), fun q hq h0 => let ⟨x, hx, e⟩ := h.all q hq h0; ⟨x, hp.mem_iff.2 hx, e⟩, (hp.map _).nodup_iff.2 h.nd⟩
theorem HL.nil (B : Nat) (w : World) : HL B w [] [] := ⟨fun x hx => by simp at hx, fun q hq => by simp at hq, by simp⟩
theorem HL.ok {B b : Nat} {w : World} {H : List Hd} {R : List (List Kv)} (h : HL B w H R) (hb : B ≤ b) (hR : R.length ≤ 1073741824) : ∀ x ∈ H, HdOk b w x := fun x hx => by
  obtain ⟨hq, h0, a, e, c⟩ := h.ls x hx
  refine ⟨?_, by omega, fun e => by have := c b e; omega⟩
  obtain ⟨ad, cap, ev, hc, hb⟩ := a
  obtain ⟨g, off, rfl, hce⟩ := hb h0
  exact ⟨g, off, _, cap, ev, h0, by have := (hce 0 h0).1; rw [e]; simpa using this⟩
theorem HL.push {B : Nat} {w : World} {H : List Hd} {R : List (List Kv)} (h : HL B w H R) {v : Value} {l : List Kv} (hi : Itc w v l) (h0 : 0 < l.length) (hb : ∀ b, v.ownBlock = some b → b < B) : HL B w (H ++ [⟨v, l[0].1, R.length⟩]) (R ++ [l]) := by
  refine ⟨fun x hx => ?_, fun q hq hp => ?_, ?_⟩
  · rcases List.mem_append.1 hx with hx | hx
    · obtain ⟨hq, h0', a, e, c⟩ := h.ls x hx
      have e2 : (R ++ [l])[x.p]'(by simp; omega) = R[x.p] := List.getElem_append_left hq
      refine ⟨by simp; omega, by rw [e2]; exact h0', by rw [e2]; exact a, by simp only [e2]; exact e, c⟩
    · simp at hx
      subst hx
      refine ⟨by simp, by simpa using h0, by simpa using hi, by simp, hb⟩
  · by_cases hl : q < R.length
    · rw [List.getElem_append_left hl] at hp
      obtain ⟨x, hx, e⟩ := h.all q hl hp
      exact ⟨x, by simp [hx], e⟩
    · simp at hq
      exact ⟨_, by simp; exact Or.inr rfl, by simp; omega⟩
  · rw [List.map_append, List.nodup_append]
    refine ⟨h.nd, by simp, fun a ha b hb' e => ?_⟩
    simp at hb' ha
    obtain ⟨x, hx, rfl⟩ := ha
    obtain ⟨hq, _⟩ := h.ls x hx
    omega
theorem HL.skip {B : Nat} {w : World} {H : List Hd} {R : List (List Kv)} (h : HL B w H R) {l : List Kv} (h0 : l.length = 0) : HL B w H (R ++ [l]) := by
  refine ⟨fun x hx => ?_, fun q hq hp => ?_, h.nd⟩
  · obtain ⟨hq, h0', a, e, c⟩ := h.ls x hx
    have e2 : (R ++ [l])[x.p]'(by simp; omega) = R[x.p] := List.getElem_append_left hq
    refine ⟨by simp; omega, by rw [e2]; exact h0', by rw [e2]; exact a, by simp only [e2]; exact e, c⟩
  · by_cases hl : q < R.length
    · rw [List.getElem_append_left hl] at hp
      exact h.all q hl hp
    · simp at hq
      obtain rfl : q = R.length := by omega
      simp at hp
      omega
theorem nd_other {H : List Hd} (hn : (H.map (·.p)).Nodup) {h0 : Hd} {t : List Hd} (e : H = h0 :: t) : ∀ x ∈ t, x.p ≠ h0.p := fun x hx ep => by
  subst e
  rw [List.map_cons, List.nodup_cons] at hn
  exact hn.1 (by rw [← ep]; exact List.mem_map_of_mem hx)
theorem HL.next {B : Nat} {w : World} {h0 : Hd} {t : List Hd} {R : List (List Kv)} (h : HL B w (h0 :: t) R) {u : Value} {l : List Kv} (hi : Itc w u l) (hl : 0 < l.length) (hb : ∀ b, u.ownBlock = some b → b < B) : HL B w (⟨u, l[0].1, h0.p⟩ :: t) (R.set h0.p l) := by
  obtain ⟨hq0, _⟩ := h.ls h0 (by simp)
  refine ⟨fun x hx => ?_, fun q hq hp => ?_, by simpa using h.nd⟩
  · rcases List.mem_cons.1 hx with rfl | hx
    · refine ⟨by simpa using hq0, by simpa using hl, by simpa using hi, by simp, hb⟩
    · obtain ⟨hq, h0', a, e, c⟩ := h.ls x (by simp [hx])
      have hne := nd_other h.nd rfl x hx
      have e2 : (R.set h0.p l)[x.p]'(by simpa using hq) = R[x.p] := List.getElem_set_ne (by omega) _
      refine ⟨by simpa using hq, by rw [e2]; exact h0', by rw [e2]; exact a, by simp only [e2]; exact e, c⟩
  · by_cases e : q = h0.p
    · exact ⟨_, List.mem_cons_self, e.symm⟩
    · rw [List.getElem_set_ne (by omega)] at hp
      obtain ⟨x, hx, ex⟩ := h.all q (by simpa using hq) hp
      rcases List.mem_cons.1 hx with rfl | hx
      · omega
      · exact ⟨x, by simp [hx], ex⟩
theorem HL.gone {B : Nat} {w : World} {h0 : Hd} {t : List Hd} {R : List (List Kv)} (h : HL B w (h0 :: t) R) {l : List Kv} (hl : l.length = 0) : HL B w t (R.set h0.p l) := by
  refine ⟨fun x hx => ?_, fun q hq hp => ?_, by have := h.nd; rw [List.map_cons, List.nodup_cons] at this; exact this.2⟩
  · obtain ⟨hq, h0', a, e, c⟩ := h.ls x (by simp [hx])
    have hne := nd_other h.nd rfl x hx
    have e2 : (R.set h0.p l)[x.p]'(by simpa using hq) = R[x.p] := List.getElem_set_ne (by omega) _
    refine ⟨by simpa using hq, by rw [e2]; exact h0', by rw [e2]; exact a, by simp only [e2]; exact e, c⟩
  · by_cases e : q = h0.p
    · subst e
      simp at hp
      omega
    · rw [List.getElem_set_ne (by omega)] at hp
      obtain ⟨x, hx, ex⟩ := h.all q (by simpa using hq) hp
      rcases List.mem_cons.1 hx with rfl | hx
      · omega
      · exact ⟨x, hx, ex⟩
/-- The least head's list has what comes next. -/
theorem HL.min {B : Nat} {w : World} {h0 : Hd} {t : List Hd} {R : List (List Kv)} (h : HL B w (h0 :: t) R) (hh : ∀ x ∈ h0 :: t, ltH x h0 = false) :
    ∃ (hq : h0.p < R.length) (hp : 0 < R[h0.p].length), (R.map sortL)[h0.p]'(by simpa using hq) = R[h0.p][0] :: sortL (bhd R[h0.p]) ∧ R[h0.p][0].1 = h0.k ∧ (∀ l ∈ R.map sortL, ∀ x ∈ l, ltS x.1 h0.k = false) ∧ ∀ q (hq : q < (R.map sortL).length), q < h0.p → lk h0.k (R.map sortL)[q] = none := by
  obtain ⟨hq0, hp0, _, hk, _⟩ := h.ls h0 (by simp)
  have key : ∀ q (hq : q < R.length), ∀ x ∈ sortL R[q], ∃ y ∈ h0 :: t, y.p = q ∧ ltS x.1 y.k = false := fun q hq x hx => by
    have hne : 0 < R[q].length := by
      rcases Nat.eq_zero_or_pos R[q].length with e | e
      · rw [List.length_eq_zero_iff.1 e] at hx; simp [sortL, sortGo] at hx
      · exact e
    obtain ⟨y, hy, ey⟩ := h.all q hq hne
    obtain ⟨_, _, _, ek, _⟩ := h.ls y hy
    refine ⟨y, hy, ey, ?_⟩
    subst ey
    have hs := sortL_srt R[y.p]
    rw [sortL_bhd _ hne hne] at hx hs
    rw [ek]
    rcases List.mem_cons.1 hx with rfl | hx
    · exact ordS.rf _
    · exact ordS.as _ _ ((List.pairwise_cons.1 hs).1 x hx)
  refine ⟨hq0, hp0, by rw [List.getElem_map]; exact sortL_bhd _ hp0 hp0, hk.symm, fun l hl x hx => ?_, fun q hq hqp => ?_⟩
  · obtain ⟨m, hm, rfl⟩ := List.mem_map.1 hl
    obtain ⟨q, hq, rfl⟩ := List.getElem_of_mem hm
    obtain ⟨y, hy, _, e⟩ := key q hq x hx
    have h9 := hh y hy
    unfold ltH at h9
    simp only [Bool.or_eq_false_iff] at h9
    exact ordS.tr _ _ _ h9.1 e
  · refine lk_no (fun x hx => ?_)
    simp at hq
    rw [List.getElem_map] at hx
    obtain ⟨y, hy, ey, e⟩ := key q hq x hx
    have h9 := hh y hy
    unfold ltH at h9
    simp only [Bool.or_eq_false_iff, Bool.and_eq_false_iff, Bool.not_eq_false', decide_eq_false_iff_not] at h9
    rcases h9.2 with h8 | h8
    · cases he : eqK x.1 h0.k
      · rfl
      · have := eqK_eq he
        rw [this, h8] at e
        cases e
    · omega
end Go.Proofs.Ytelngbkbdihdnaa
