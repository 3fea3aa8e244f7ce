/- pack: what Take tells, purely. -/
import Derived.Test.YtafdkfieajdeiaaDoorPP4
namespace Go.Proofs.YtafdkfieajdeiaaDoor
open Go.RowKit
set_option linter.unusedVariables false
set_option linter.unusedSimpArgs false
/-- All bytes at the last Take; zeros, if there was none. -/
def PSt.last (s : PSt) : List UInt8 := if s.tend = 0 then List.replicate s.len 0 else (s.back s.tslots).img
structure PSt.TI (s : PSt) : Prop where
  fresh : s.tend = 0 → s.tslots = 0 ∧ s.tshut = false
  shut : s.tshut = true → s.shut = true ∧ s.tslots = s.chunks.length ∧ s.tend = s.len
  still : s.tshut = false → s.tend ≠ 0 → s.tend = 16 + (bodyB (s.chunks.take s.tslots)).length
def PSt.took (s : PSt) : PSt := { s with tslots := s.chunks.length, tend := if s.shut then s.len else s.bs.length, tshut := s.shut }
theorem PSt.took_ok {s : PSt} (h : s.Ok) : s.took.Ok := ⟨h.s0, h.s1, h.c0, h.c1, h.i, h.b1, h.n, Nat.le_refl _⟩
theorem PSt.len_pos {s : PSt} (h : s.Ok) : 512 ≤ s.len := by
  have := Nat.mul_le_mul h.s0 h.c0
  unfold PSt.len
  omega
theorem PSt.took_pos {s : PSt} (h : s.Ok) : s.took.tend ≠ 0 := by
  have h1 := PSt.len_pos h
  have h2 := s.bs_len
  unfold PSt.took
  simp only
  split <;> omega
theorem PSt.took_ti {s : PSt} (h : s.Ok) : s.took.TI := by
  refine ⟨fun e => absurd e (PSt.took_pos h), fun e => ?_, fun e _ => ?_⟩
  · have e' : s.shut = true := e
    exact ⟨e', rfl, by unfold PSt.took PSt.len; simp [e']⟩
  · have e' : s.shut = false := e
    have h2 := s.bs_len
    unfold PSt.took
    simp only [e', Bool.false_eq_true, if_false, List.take_length]
    exact h2
theorem PSt.took_last {s : PSt} (h : s.Ok) : s.took.last = s.img := by
  unfold PSt.last
  rw [if_neg (PSt.took_pos h)]
  have e : s.took.back s.took.tslots = s.took := by
    unfold PSt.back PSt.took
    simp
  rw [e]
  rfl
theorem PSt.new_ti (a b c : Nat) : (PSt.new a b c).TI := ⟨fun _ => ⟨rfl, rfl⟩, fun e => (Bool.false_ne_true e).elim, fun _ e => absurd rfl e⟩
theorem PSt.new_last (a b c : Nat) : (PSt.new a b c).last = List.replicate (a * b) 0 := rfl
theorem PSt.seal_ti {s : PSt} (h : s.TI) : s.seal.TI := ⟨h.fresh, fun e => ⟨rfl, (h.shut e).2.1, (h.shut e).2.2⟩, h.still⟩
theorem PSt.seal_last (s : PSt) : s.seal.last = s.last := rfl
theorem PSt.app_is {s : PSt} {c : List UInt8} (h : s.appErr c.length = 0) : s.app c = { s with chunks := s.chunks ++ [c] } ∧ s.shut = false := by
  refine ⟨by unfold PSt.app; rw [if_pos h], ?_⟩
  cases hs : s.shut
  · rfl
  · unfold PSt.appErr at h; rw [hs] at h; cases h
theorem PSt.app_ti {s : PSt} (hk : s.Ok) (h : s.TI) (c : List UInt8) : (s.app c).TI := by
  by_cases he : s.appErr c.length = 0
  · obtain ⟨e, hs⟩ := PSt.app_is he
    rw [e]
    refine ⟨h.fresh, fun x => ?_, fun x y => ?_⟩
    · have := (h.shut x).1
      rw [hs] at this
      cases this
    · have := h.still x y
      show s.tend = 16 + (bodyB ((s.chunks ++ [c]).take s.tslots)).length
      rw [List.take_append_of_le_length hk.t1]
      exact this
  · have e : s.app c = s := by unfold PSt.app; rw [if_neg he]
    rw [e]
    exact h
theorem PSt.app_last {s : PSt} (hk : s.Ok) (c : List UInt8) : (s.app c).last = s.last := by
  by_cases he : s.appErr c.length = 0
  · obtain ⟨e, hs⟩ := PSt.app_is he
    rw [e]
    unfold PSt.last PSt.back
    simp only
    rw [List.take_append_of_le_length hk.t1]
    rfl
  · have e : s.app c = s := by unfold PSt.app; rw [if_neg he]
    rw [e]
theorem PSt.back_ti {s : PSt} (h : s.TI) (m : Nat) (h0 : s.tslots ≤ m) (h1 : m ≤ s.chunks.length) : (s.back m).TI := by
  refine ⟨h.fresh, fun x => ?_, fun x y => ?_⟩
  · have x' : s.tshut = true := x
    obtain ⟨a, b, c⟩ := h.shut x'
    refine ⟨x', ?_, c⟩
    show s.tslots = (s.chunks.take m).length
    rw [List.length_take]
    omega
  · have := h.still x y
    show s.tend = 16 + (bodyB ((s.chunks.take m).take s.tslots)).length
    rw [List.take_take, Nat.min_eq_left h0]
    exact this
theorem PSt.back_last {s : PSt} (m : Nat) (h0 : s.tslots ≤ m) : (s.back m).last = s.last := by
  unfold PSt.last PSt.back
  simp only
  rw [List.take_take, Nat.min_eq_left h0]
  rfl
theorem PSt.last_len {s : PSt} (hk : s.Ok) : s.last.length = s.len := by
  unfold PSt.last
  split
  · exact List.length_replicate
  · exact PSt.img_len (PSt.back_ok hk s.tslots (Nat.le_refl _) hk.t1)
theorem PSt.img_take {s : PSt} (hk : s.Ok) (m : Nat) (h : m ≤ s.bs.length) : s.img.take m = s.bs.take m := by
  have h1 := hk.b1
  have h2 : s.len = s.size * s.sectors := rfl
  have h3 := PSt.bare_len hk
  have e : s.bare.take m = s.bs.take m := by unfold PSt.bare; rw [List.take_append_of_le_length h]
  unfold PSt.img
  split
  · rw [List.take_append_of_le_length (by rw [List.length_take]; omega), List.take_take, Nat.min_eq_left (by omega), e]
  · exact e
theorem PSt.back_all {s : PSt} (h : s.tshut = s.shut) : s.back s.chunks.length = s := by
  obtain ⟨a, b, c, d, e, f, k, l⟩ := s
  simp only at h
  subst h
  unfold PSt.back
  simp
theorem PSt.tend_le {s : PSt} (hk : s.Ok) (h : s.TI) : s.tend ≤ s.len := by
  by_cases h0 : s.tend = 0
  · omega
  · cases ht : s.tshut with
    | true => rw [(h.shut ht).2.2]; exact Nat.le_refl _
    | false =>
      have h1 := h.still ht h0
      have h2 := s.back_len s.tslots
      have h3 : (s.back s.tslots).bs.length = 16 + (bodyB (s.chunks.take s.tslots)).length := PSt.bs_len _
      have h4 := hk.b1
      have h5 : s.len = s.size * s.sectors := rfl
      omega
/-- As at the last Take ahead of its end, zeros behind. -/
theorem PSt.last_lead {s : PSt} (hk : s.Ok) (h : s.TI) : s.img.take s.tend = s.last.take s.tend ∧ s.last.drop s.tend = List.replicate (s.len - s.tend) 0 := by
  by_cases h0 : s.tend = 0
  · unfold PSt.last
    rw [if_pos h0, h0]
    simp
  · have hb := PSt.back_ok hk s.tslots (Nat.le_refl _) hk.t1
    unfold PSt.last
    rw [if_neg h0]
    cases ht : s.tshut with
    | true =>
      obtain ⟨a, b, c⟩ := h.shut ht
      rw [b, PSt.back_all (by rw [ht, a]), c]
      refine ⟨rfl, ?_⟩
      rw [List.drop_of_length_le (by rw [PSt.img_len hk]; exact Nat.le_refl _)]
      simp
    | false =>
      have h1 := h.still ht h0
      have hbl : (s.back s.tslots).bs.length = s.tend := by rw [PSt.bs_len, h1]; rfl
      have h2 := s.back_len s.tslots
      have h4 := s.back_bs s.tslots
      rw [hbl] at h2 h4
      have hi : (s.back s.tslots).img = (s.back s.tslots).bare := by
        unfold PSt.img
        rw [if_neg (by show ¬ s.tshut = true; rw [ht]; decide)]
      refine ⟨?_, ?_⟩
      · rw [PSt.img_take hk _ h2, PSt.img_take hb _ (by omega), ← h4, List.take_of_length_le (by omega)]
      · rw [hi]
        unfold PSt.bare
        rw [← hbl, List.drop_left]
        rfl
/-! ### Sectors -/
def secB (size : Nat) (b : List UInt8) (n : Nat) : List UInt8 := (b.drop (n * size)).take size
theorem secB_len {size c : Nat} {b : List UInt8} (h : b.length = size * c) (n : Nat) (hn : n < c) : (secB size b n).length = size := by
  have : (n + 1) * size ≤ c * size := Nat.mul_le_mul_right _ hn
  rw [Nat.add_mul, Nat.mul_comm c] at this
  unfold secB
  rw [List.length_take, List.length_drop]
  omega
def PSt.diff (s : PSt) (n : Nat) : Bool := decide (secB s.size s.img n ≠ secB s.size s.last n)
def PSt.secs (s : PSt) : Nat → List (Nat × List UInt8)
  | 0 => []
  | k + 1 => s.secs k ++ (if s.diff k then [(k, secB s.size s.img k)] else [])
theorem PSt.secs_le (s : PSt) : ∀ k, (s.secs k).length ≤ k
  | 0 => Nat.le_refl _
  | k + 1 => by
    have := s.secs_le k
    rw [PSt.secs, List.length_append]
    split <;> simp <;> omega
theorem PSt.secs_mem (s : PSt) : ∀ k, ∀ x ∈ s.secs k, x.1 < k ∧ x.2 = secB s.size s.img x.1
  | 0 => fun x hx => by simp [PSt.secs] at hx
  | k + 1 => fun x hx => by
    rw [PSt.secs, List.mem_append] at hx
    rcases hx with hx | hx
    · obtain ⟨a, b⟩ := s.secs_mem k x hx
      exact ⟨by omega, b⟩
    · split at hx
      · simp at hx
        subst hx
        exact ⟨by simp, rfl⟩
      · simp at hx
/-- Two rows that agree up to T, zeros in the second behind T. -/
theorem sec_lead {A B : List UInt8} {T a b : Nat} (h : A.take T = B.take T) (hb : b ≤ T) : (A.drop a).take (b - a) = (B.drop a).take (b - a) := by
  have e : ∀ X : List UInt8, (X.drop a).take (b - a) = ((X.take T).drop a).take (b - a) := fun X => by
    rw [List.drop_take, List.take_take, Nat.min_eq_left (by omega)]
  rw [e A, e B, h]
theorem sec_rest {A B : List UInt8} {L T a b : Nat} (h : A.take T = B.take T) (h2 : B.drop T = List.replicate (L - T) 0) (hA : A.length = L) (hB : B.length = L) (hT : T ≤ b) (hab : a ≤ b) (hbL : b ≤ L) :
    ((A.drop (max a T)).take (b - max a T)).any (fun x => decide (x ≠ 0)) = decide ((A.drop a).take (b - a) ≠ (B.drop a).take (b - a)) := by
  have h3 : ∀ i, i < T → A[i]? = B[i]? := fun i hi => by
    have := congrArg (fun l => l[i]?) h
    simpa [List.getElem?_take, hi] using this
  have h4 : ∀ i, T ≤ i → i < L → B[i]? = some 0 := fun i hi hl => by
    have := congrArg (fun l => l[i - T]?) h2
    simp only [List.getElem?_drop, List.getElem?_replicate] at this
    rw [show T + (i - T) = i by omega, if_pos (by omega)] at this
    exact this
  rw [Bool.eq_iff_iff, List.any_eq_true, decide_eq_true_eq]
  constructor
  · rintro ⟨x, hx, hne⟩ e
    obtain ⟨i, hi⟩ := List.mem_iff_getElem?.1 hx
    rw [List.getElem?_take] at hi
    split at hi
    next hlt =>
      rw [List.getElem?_drop] at hi
      have e2 := congrArg (fun l => l[max a T + i - a]?) e
      simp only [List.getElem?_take, List.getElem?_drop] at e2
      rw [if_pos (by omega), if_pos (by omega), show a + (max a T + i - a) = max a T + i by omega, hi, h4 _ (by omega) (by omega)] at e2
      simp at e2
      simp [e2] at hne
    next => cases hi
  · intro hne
    apply Classical.byContradiction
    intro hno
    refine hne (List.ext_getElem? fun i => ?_)
    simp only [List.getElem?_take, List.getElem?_drop]
    split
    next hlt =>
      by_cases hi : a + i < T
      · exact h3 _ hi
      · obtain ⟨x, hx⟩ : ∃ x, A[a + i]? = some x := ⟨_, List.getElem?_eq_getElem (by omega)⟩
        rw [h4 _ (by omega) (by omega), hx]
        by_cases h0 : x = 0
        · rw [h0]
        · refine absurd ⟨x, List.mem_iff_getElem?.2 ⟨a + i - max a T, ?_⟩, by simpa using h0⟩ hno
          rw [List.getElem?_take, if_pos (by omega), List.getElem?_drop, show max a T + (a + i - max a T) = a + i by omega, hx]
    next => rfl
theorem PSt.diff_lead {s : PSt} (hk : s.Ok) (h : s.TI) (n : Nat) (hn : (n + 1) * s.size ≤ s.tend) : s.diff n = false := by
  have h1 := sec_lead (a := n * s.size) (PSt.last_lead hk h).1 hn
  rw [show (n + 1) * s.size - n * s.size = s.size by rw [Nat.add_mul]; omega] at h1
  unfold PSt.diff secB
  rw [decide_eq_false_iff_not]
  exact fun x => x h1
theorem PSt.diff_rest {s : PSt} (hk : s.Ok) (h : s.TI) (n : Nat) (hn : s.tend ≤ (n + 1) * s.size) (hc : n < s.sectors) :
    ((s.img.drop (max (n * s.size) s.tend)).take ((n + 1) * s.size - max (n * s.size) s.tend)).any (fun x => decide (x ≠ 0)) = s.diff n := by
  have hL : (n + 1) * s.size ≤ s.len := by
    have := Nat.mul_le_mul_right s.size hc
    unfold PSt.len
    rw [Nat.mul_comm s.size]
    exact this
  have h1 := sec_rest (PSt.last_lead hk h).1 (PSt.last_lead hk h).2 (PSt.img_len hk) (PSt.last_len hk) (a := n * s.size) hn (by rw [Nat.add_mul]; omega) hL
  rw [h1, show (n + 1) * s.size - n * s.size = s.size by rw [Nat.add_mul]; omega]
  rfl
theorem PSt.secs_none {s : PSt} (hk : s.Ok) (h : s.TI) : ∀ k, k * s.size ≤ s.tend → s.secs k = []
  | 0, _ => rfl
  | k + 1, hkk => by
    rw [PSt.secs, PSt.secs_none hk h k (by rw [Nat.add_mul] at hkk; omega), PSt.diff_lead hk h k hkk]
    rfl
theorem PSt.secs_first {s : PSt} (hk : s.Ok) (h : s.TI) : s.secs (s.tend / s.size) = [] := PSt.secs_none hk h _ (Nat.div_mul_le_self _ _)
end Go.Proofs.YtafdkfieajdeiaaDoor
