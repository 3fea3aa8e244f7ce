/- pack: PackBack walked. -/
import Derived.Test.YtafdkfieajdeiaaDoorPP4
import Derived.Handy
import Derived.Deep.RegionLaw
import Derived.Deep.AppendLies
import Derived.Test.YtafdkfieajdeiaaDoorBeP
import Derived.Test.YtafdkfieajdeiaaDoorPT4
import Derived.Test.YtafdkfieajdeiaaDoorPS8
import Derived.Test.YtafdkfieajdeiaaDoorPP6
/- pack: what PackBack holds: the container, the image, the slots and the chunks. -/
/- pack: what a scan of a container's own image finds, purely. -/
/- pack: the law's 'laid' of what Take told. -/
/- pack: sectors laid over an image. -/
/- pack: Take of the program. -/
/- pack: sectors in memory; bytes that are not all zeros. -/
/- pack: what Take tells, purely. -/
namespace Go.Proofs.YtafdkfieajdeiaaDoor
open Go.RowKit
set_option linter.unusedVariables false
set_option linter.unusedSimpArgs false
/-- All bytes at the last Take; zeros, if there was none. -/
def PSt.last (s : PSt) : List UInt8 := if s.tend = 0 then List.replicate s.len 0 else (s.back s.tslots).img
structure PSt.TI (s : PSt) : Prop where
  fresh : s.tend = 0 → s.tslots = 0 ∧ s.tshut = false
  shut : s.tshut = true → s.shut = true ∧ s.tslots = s.chunks.length ∧ s.tend = s.len
  still : s.tshut = false → s.tend ≠ 0 → s.tend = 16 + (bodyB (s.chunks.take s.tslots)).length
def PSt.took (s : PSt) : PSt := { s with tslots := s.chunks.length, tend := if s.shut then s.len else s.bs.length, tshut := s.shut }
theorem PSt.took_ok {s : PSt} (h : s.Ok) : s.took.Ok := ⟨h.s0, h.s1, h.c0, h.c1, h.i, h.b1, h.n, Nat.le_refl _⟩
theorem PSt.len_pos {s : PSt} (h : s.Ok) : 512 ≤ s.len := by
  have := Nat.mul_le_mul h.s0 h.c0
  unfold PSt.len
  omega
theorem PSt.took_pos {s : PSt} (h : s.Ok) : s.took.tend ≠ 0 := by
  have h1 := PSt.len_pos h
  have h2 := s.bs_len
  unfold PSt.took
  simp only
  split <;> omega
theorem PSt.took_ti {s : PSt} (h : s.Ok) : s.took.TI := by
  refine ⟨fun e => absurd e (PSt.took_pos h), fun e => ?_, fun e _ => ?_⟩
  · have e' : s.shut = true := e
    exact ⟨e', rfl, by unfold PSt.took PSt.len; simp [e']⟩
  · have e' : s.shut = false := e
    have h2 := s.bs_len
    unfold PSt.took
    simp only [e', Bool.false_eq_true, if_false, List.take_length]
    exact h2
theorem PSt.took_last {s : PSt} (h : s.Ok) : s.took.last = s.img := by
  unfold PSt.last
  rw [if_neg (PSt.took_pos h)]
  have e : s.took.back s.took.tslots = s.took := by
    unfold PSt.back PSt.took
    simp
  rw [e]
  rfl
theorem PSt.new_ti (a b c : Nat) : (PSt.new a b c).TI := ⟨fun _ => ⟨rfl, rfl⟩, fun e => (Bool.false_ne_true e).elim, fun _ e => absurd rfl e⟩
theorem PSt.new_last (a b c : Nat) : (PSt.new a b c).last = List.replicate (a * b) 0 := rfl
theorem PSt.seal_ti {s : PSt} (h : s.TI) : s.seal.TI := ⟨h.fresh, fun e => ⟨rfl, (h.shut e).2.1, (h.shut e).2.2⟩, h.still⟩
theorem PSt.seal_last (s : PSt) : s.seal.last = s.last := rfl
theorem PSt.app_is {s : PSt} {c : List UInt8} (h : s.appErr c.length = 0) : s.app c = { s with chunks := s.chunks ++ [c] } ∧ s.shut = false := by
  refine ⟨by unfold PSt.app; rw [if_pos h], ?_⟩
  cases hs : s.shut
  · rfl
  · unfold PSt.appErr at h; rw [hs] at h; cases h
theorem PSt.app_ti {s : PSt} (hk : s.Ok) (h : s.TI) (c : List UInt8) : (s.app c).TI := by
  by_cases he : s.appErr c.length = 0
  · obtain ⟨e, hs⟩ := PSt.app_is he
    rw [e]
    refine ⟨h.fresh, fun x => ?_, fun x y => ?_⟩
    · have := (h.shut x).1
      rw [hs] at this
      cases this
    · have := h.still x y
      show s.tend = 16 + (bodyB ((s.chunks ++ [c]).take s.tslots)).length
      rw [List.take_append_of_le_length hk.t1]
      exact this
  · have e : s.app c = s := by unfold PSt.app; rw [if_neg he]
    rw [e]
    exact h
theorem PSt.app_last {s : PSt} (hk : s.Ok) (c : List UInt8) : (s.app c).last = s.last := by
  by_cases he : s.appErr c.length = 0
  · obtain ⟨e, hs⟩ := PSt.app_is he
    rw [e]
    unfold PSt.last PSt.back
    simp only
    rw [List.take_append_of_le_length hk.t1]
    rfl
  · have e : s.app c = s := by unfold PSt.app; rw [if_neg he]
    rw [e]
theorem PSt.back_ti {s : PSt} (h : s.TI) (m : Nat) (h0 : s.tslots ≤ m) (h1 : m ≤ s.chunks.length) : (s.back m).TI := by
  refine ⟨h.fresh, fun x => ?_, fun x y => ?_⟩
  · have x' : s.tshut = true := x
    obtain ⟨a, b, c⟩ := h.shut x'
    refine ⟨x', ?_, c⟩
    show s.tslots = (s.chunks.take m).length
    rw [List.length_take]
    omega
  · have := h.still x y
    show s.tend = 16 + (bodyB ((s.chunks.take m).take s.tslots)).length
    rw [List.take_take, Nat.min_eq_left h0]
    exact this
theorem PSt.back_last {s : PSt} (m : Nat) (h0 : s.tslots ≤ m) : (s.back m).last = s.last := by
  unfold PSt.last PSt.back
  simp only
  rw [List.take_take, Nat.min_eq_left h0]
  rfl
theorem PSt.last_len {s : PSt} (hk : s.Ok) : s.last.length = s.len := by
  unfold PSt.last
  split
  · exact List.length_replicate
  · exact PSt.img_len (PSt.back_ok hk s.tslots (Nat.le_refl _) hk.t1)
theorem PSt.img_take {s : PSt} (hk : s.Ok) (m : Nat) (h : m ≤ s.bs.length) : s.img.take m = s.bs.take m := by
  have h1 := hk.b1
  have h2 : s.len = s.size * s.sectors := rfl
  have h3 := PSt.bare_len hk
  have e : s.bare.take m = s.bs.take m := by unfold PSt.bare; rw [List.take_append_of_le_length h]
  unfold PSt.img
  split
  · rw [List.take_append_of_le_length (by rw [List.length_take]; omega), List.take_take, Nat.min_eq_left (by omega), e]
  · exact e
theorem PSt.back_all {s : PSt} (h : s.tshut = s.shut) : s.back s.chunks.length = s := by
  obtain ⟨a, b, c, d, e, f, k, l⟩ := s
  simp only at h
  subst h
  unfold PSt.back
  simp
theorem PSt.tend_le {s : PSt} (hk : s.Ok) (h : s.TI) : s.tend ≤ s.len := by
  by_cases h0 : s.tend = 0
  · omega
  · cases ht : s.tshut with
    | true => rw [(h.shut ht).2.2]; exact Nat.le_refl _
    | false =>
      have h1 := h.still ht h0
      have h2 := s.back_len s.tslots
      have h3 : (s.back s.tslots).bs.length = 16 + (bodyB (s.chunks.take s.tslots)).length := PSt.bs_len _
      have h4 := hk.b1
      have h5 : s.len = s.size * s.sectors := rfl
      omega
/-- As at the last Take ahead of its end, zeros behind. -/
theorem PSt.last_lead {s : PSt} (hk : s.Ok) (h : s.TI) : s.img.take s.tend = s.last.take s.tend ∧ s.last.drop s.tend = List.replicate (s.len - s.tend) 0 := by
  by_cases h0 : s.tend = 0
  · unfold PSt.last
    rw [if_pos h0, h0]
    simp
  · have hb := PSt.back_ok hk s.tslots (Nat.le_refl _) hk.t1
    unfold PSt.last
    rw [if_neg h0]
    cases ht : s.tshut with
    | true =>
      obtain ⟨a, b, c⟩ := h.shut ht
      rw [b, PSt.back_all (by rw [ht, a]), c]
      refine ⟨rfl, ?_⟩
      rw [List.drop_of_length_le (by rw [PSt.img_len hk]; exact Nat.le_refl _)]
      simp
    | false =>
      have h1 := h.still ht h0
      have hbl : (s.back s.tslots).bs.length = s.tend := by rw [PSt.bs_len, h1]; rfl
      have h2 := s.back_len s.tslots
      have h4 := s.back_bs s.tslots
      rw [hbl] at h2 h4
      have hi : (s.back s.tslots).img = (s.back s.tslots).bare := by
        unfold PSt.img
        rw [if_neg (by show ¬ s.tshut = true; rw [ht]; decide)]
      refine ⟨?_, ?_⟩
      · rw [PSt.img_take hk _ h2, PSt.img_take hb _ (by omega), ← h4, List.take_of_length_le (by omega)]
      · rw [hi]
        unfold PSt.bare
        rw [← hbl, List.drop_left]
        rfl
/-! ### Sectors -/
def secB (size : Nat) (b : List UInt8) (n : Nat) : List UInt8 := (b.drop (n * size)).take size
theorem secB_len {size c : Nat} {b : List UInt8} (h : b.length = size * c) (n : Nat) (hn : n < c) : (secB size b n).length = size := by
  have : (n + 1) * size ≤ c * size := Nat.mul_le_mul_right _ hn
  rw [Nat.add_mul, Nat.mul_comm c] at this
  unfold secB
  rw [List.length_take, List.length_drop]
  omega
def PSt.diff (s : PSt) (n : Nat) : Bool := decide (secB s.size s.img n ≠ secB s.size s.last n)
def PSt.secs (s : PSt) : Nat → List (Nat × List UInt8)
  | 0 => []
  | k + 1 => s.secs k ++ (if s.diff k then [(k, secB s.size s.img k)] else [])
theorem PSt.secs_le (s : PSt) : ∀ k, (s.secs k).length ≤ k
  | 0 => Nat.le_refl _
  | k + 1 => by
    have := s.secs_le k
    rw [PSt.secs, List.length_append]
    split <;> simp <;> omega
theorem PSt.secs_mem (s : PSt) : ∀ k, ∀ x ∈ s.secs k, x.1 < k ∧ x.2 = secB s.size s.img x.1
  | 0 => fun x hx => by simp [PSt.secs] at hx
  | k + 1 => fun x hx => by
    rw [PSt.secs, List.mem_append] at hx
    rcases hx with hx | hx
    · obtain ⟨a, b⟩ := s.secs_mem k x hx
      exact ⟨by omega, b⟩
    · split at hx
      · simp at hx
        subst hx
        exact ⟨by simp, rfl⟩
      · simp at hx
/-- Two rows that agree up to T, zeros in the second behind T. -/
theorem sec_lead {A B : List UInt8} {T a b : Nat} (h : A.take T = B.take T) (hb : b ≤ T) : (A.drop a).take (b - a) = (B.drop a).take (b - a) := by
  have e : ∀ X : List UInt8, (X.drop a).take (b - a) = ((X.take T).drop a).take (b - a) := fun X => by
    rw [List.drop_take, List.take_take, Nat.min_eq_left (by omega)]
  rw [e A, e B, h]
theorem sec_rest {A B : List UInt8} {L T a b : Nat} (h : A.take T = B.take T) (h2 : B.drop T = List.replicate (L - T) 0) (hA : A.length = L) (hB : B.length = L) (hT : T ≤ b) (hab : a ≤ b) (hbL : b ≤ L) :
    ((A.drop (max a T)).take (b - max a T)).any (fun x => decide (x ≠ 0)) = decide ((A.drop a).take (b - a) ≠ (B.drop a).take (b - a)) := by
  have h3 : ∀ i, i < T → A[i]? = B[i]? := fun i hi => by
    have := congrArg (fun l => l[i]?) h
    simpa [List.getElem?_take, hi] using this
  have h4 : ∀ i, T ≤ i → i < L → B[i]? = some 0 := fun i hi hl => by
    have := congrArg (fun l => l[i - T]?) h2
    simp only [List.getElem?_drop, List.getElem?_replicate] at this
    rw [show T + (i - T) = i by omega, if_pos (by omega)] at this
    exact this
  rw [Bool.eq_iff_iff, List.any_eq_true, decide_eq_true_eq]
  constructor
  · rintro ⟨x, hx, hne⟩ e
    obtain ⟨i, hi⟩ := List.mem_iff_getElem?.1 hx
    rw [List.getElem?_take] at hi
    split at hi
    next hlt =>
      rw [List.getElem?_drop] at hi
      have e2 := congrArg (fun l => l[max a T + i - a]?) e
      simp only [List.getElem?_take, List.getElem?_drop] at e2
      rw [if_pos (by omega), if_pos (by omega), show a + (max a T + i - a) = max a T + i by omega, hi, h4 _ (by omega) (by omega)] at e2
      simp at e2
      simp [e2] at hne
    next => cases hi
  · intro hne
    apply Classical.byContradiction
    intro hno
    refine hne (List.ext_getElem? fun i => ?_)
    simp only [List.getElem?_take, List.getElem?_drop]
    split
    next hlt =>
      by_cases hi : a + i < T
      · exact h3 _ hi
      · obtain ⟨x, hx⟩ : ∃ x, A[a + i]? = some x := ⟨_, List.getElem?_eq_getElem (by omega)⟩
        rw [h4 _ (by omega) (by omega), hx]
        by_cases h0 : x = 0
        · rw [h0]
        · refine absurd ⟨x, List.mem_iff_getElem?.2 ⟨a + i - max a T, ?_⟩, by simpa using h0⟩ hno
          rw [List.getElem?_take, if_pos (by omega), List.getElem?_drop, show max a T + (a + i - max a T) = a + i by omega, hx]
    next => rfl
theorem PSt.diff_lead {s : PSt} (hk : s.Ok) (h : s.TI) (n : Nat) (hn : (n + 1) * s.size ≤ s.tend) : s.diff n = false := by
  have h1 := sec_lead (a := n * s.size) (PSt.last_lead hk h).1 hn
  rw [show (n + 1) * s.size - n * s.size = s.size by rw [Nat.add_mul]; omega] at h1
  unfold PSt.diff secB
  rw [decide_eq_false_iff_not]
  exact fun x => x h1
theorem PSt.diff_rest {s : PSt} (hk : s.Ok) (h : s.TI) (n : Nat) (hn : s.tend ≤ (n + 1) * s.size) (hc : n < s.sectors) :
    ((s.img.drop (max (n * s.size) s.tend)).take ((n + 1) * s.size - max (n * s.size) s.tend)).any (fun x => decide (x ≠ 0)) = s.diff n := by
  have hL : (n + 1) * s.size ≤ s.len := by
    have := Nat.mul_le_mul_right s.size hc
    unfold PSt.len
    rw [Nat.mul_comm s.size]
    exact this
  have h1 := sec_rest (PSt.last_lead hk h).1 (PSt.last_lead hk h).2 (PSt.img_len hk) (PSt.last_len hk) (a := n * s.size) hn (by rw [Nat.add_mul]; omega) hL
  rw [h1, show (n + 1) * s.size - n * s.size = s.size by rw [Nat.add_mul]; omega]
  rfl
theorem PSt.secs_none {s : PSt} (hk : s.Ok) (h : s.TI) : ∀ k, k * s.size ≤ s.tend → s.secs k = []
  | 0, _ => rfl
  | k + 1, hkk => by
    rw [PSt.secs, PSt.secs_none hk h k (by rw [Nat.add_mul] at hkk; omega), PSt.diff_lead hk h k hkk]
    rfl
theorem PSt.secs_first {s : PSt} (hk : s.Ok) (h : s.TI) : s.secs (s.tend / s.size) = [] := PSt.secs_none hk h _ (Nat.div_mul_le_self _ _)
end Go.Proofs.YtafdkfieajdeiaaDoor
namespace Go.Proofs.YtafdkfieajdeiaaDoor
open Go.RowKit
set_option linter.unusedVariables false
set_option linter.unusedSimpArgs false
theorem infoSec : (Tryd.prog.info? 79).map (fun i => (i.zero, i.size, i.bytes)) = some (some (.agg #[.int .i64 0, .slice none 0 0]), 2, 32) := by kernel_rfl
/-- The cells of sectors: their places, where their bytes lie. -/
def tCells : List Nat → List Value → List Value
  | n :: ns, u :: us => .int .i64 (n : Nat) :: u :: tCells ns us
  | _, _ => []
theorem tCells_snoc (n : Nat) (u : Value) : ∀ (ns : List Nat) (us : List Value), ns.length = us.length → tCells (ns ++ [n]) (us ++ [u]) = tCells ns us ++ [.int .i64 (n : Nat), u]
  | [], [], _ => rfl
  | m :: ns, x :: us, h => by
    simp only [List.cons_append, tCells, tCells_snoc n u ns us (by simpa using h)]
  | [], _ :: _, h => by simp at h
  | _ :: _, [], h => by simp at h
theorem tCells_len : ∀ (ns : List Nat) (us : List Value), ns.length = us.length → (tCells ns us).length = us.length * 2
  | [], [], _ => rfl
  | m :: ns, x :: us, h => by simp only [tCells, List.length_cons, tCells_len ns us (by simpa using h)]; omega
  | [], _ :: _, h => by simp at h
  | _ :: _, [], h => by simp at h
theorem tCells_at : ∀ (ns : List Nat) (us : List Value) (i n : Nat) (u : Value), ns[i]? = some n → us[i]? = some u → (tCells ns us)[i * 2]? = some (.int .i64 (n : Nat)) ∧ (tCells ns us)[i * 2 + 1]? = some u
  | m :: ns, x :: us, 0, n, u, h, h2 => by simp at h h2; subst h; subst h2; simp [tCells]
  | m :: ns, x :: us, i + 1, n, u, h, h2 => by
    have := tCells_at ns us i n u (by simpa using h) (by simpa using h2)
    simp only [tCells, show (i + 1) * 2 = i * 2 + 1 + 1 by omega, List.getElem?_cons_succ]
    exact this
  | [], _, _, _, _, h, _ => by simp at h
  | _ :: _, [], _, _, _, _, h => by simp at h
/-- Bytes that lie in a block of their own, from B on. -/
structure OwnB (w : World) (v : Value) (l : List UInt8) (B : Nat) : Prop where
  lies : ∃ g, B ≤ g ∧ v = .slice (some ⟨g, 0, none⟩) l.length l.length ∧ w.heap[g]? = some (.cells (l.map U8).toArray 5 (0, 0))
theorem OwnB.kept {w w' : World} {v : Value} {l : List UInt8} {B : Nat} {S : Nat → Prop} (h : OwnB w v l B) (k : Kept S w w') (hs : ∀ i, v.ownBlock = some i → ¬ S i) : OwnB w' v l B := by
  obtain ⟨g, hB, rfl, hb⟩ := h
  exact ⟨g, hB, rfl, blk_kept k (hs g rfl) hb⟩
theorem OwnB.same {w w' : World} {v : Value} {l : List UInt8} {B : Nat} (h : OwnB w v l B) (k : Same w w') : OwnB w' v l B := h.kept k (fun _ _ h => h)
theorem OwnB.weak {w : World} {v : Value} {l : List UInt8} {B C : Nat} (h : OwnB w v l B) (hc : C ≤ B) : OwnB w v l C := by
  obtain ⟨g, hB, e, hb⟩ := h
  exact ⟨g, Nat.le_trans hc hB, e, hb⟩
theorem OwnB.bt {w : World} {v : Value} {l : List UInt8} {B : Nat} (h : OwnB w v l B) : Bt w v l := by
  obtain ⟨g, _, rfl, hb⟩ := h
  refine ⟨_, _, rfl, Nat.le_refl _, fun _ => ⟨g, 0, rfl, fun j hj => ?_⟩⟩
  rw [blk_cell hb]
  simp [hj]
theorem OwnB.blk {w : World} {v : Value} {l : List UInt8} {B : Nat} (h : OwnB w v l B) : ∃ g, v.ownBlock = some g ∧ B ≤ g ∧ g < w.heap.size := by
  obtain ⟨g, hB, rfl, hb⟩ := h
  exact ⟨g, rfl, hB, blk_lt hb⟩
/-- Sectors, each with bytes in a block of its own; all of it lies in blocks from B on. -/
structure TSecs (w : World) (v : Value) (ls : List (Nat × List UInt8)) (B : Nat) (us : List Value) : Prop where
  len : us.length = ls.length
  row : w.ownsRow B 79 2 v ls.length (tCells (ls.map (·.1)) us)
  own : ∀ (i : Nat) (x : Nat × List UInt8) (u : Value), ls[i]? = some x → us[i]? = some u → OwnB w u x.2 B
  apart : ∀ (i j : Nat) (u t : Value), i < j → us[i]? = some u → us[j]? = some t → u.ownBlock ≠ t.ownBlock
theorem TSecs.nil (w : World) (B : Nat) : TSecs w (.slice none 0 0) [] B [] := ⟨rfl, World.ownsRow_nil _ _ _ _, fun i x u h => by simp at h, fun i j u t _ h => by simp at h⟩
theorem TSecs.kept {w w' : World} {v : Value} {ls : List (Nat × List UInt8)} {B : Nat} {us : List Value} {S : Nat → Prop} (h : TSecs w v ls B us) (k : Kept S w w') (hs : ∀ i, B ≤ i → i < w.heap.size → ¬ S i) : TSecs w' v ls B us :=
  ⟨h.len, own_kept h.row k (fun i hi => hs i (h.row.lt i hi).1 (h.row.lt i hi).2), fun i x u hx hu => (h.own i x u hx hu).kept k (fun j hj => by
    obtain ⟨q, e, a, b⟩ := (h.own i x u hx hu).blk
    rw [hj] at e
    cases e
    exact hs j a b), h.apart⟩
theorem TSecs.same {w w' : World} {v : Value} {ls : List (Nat × List UInt8)} {B : Nat} {us : List Value} (h : TSecs w v ls B us) (k : Same w w') : TSecs w' v ls B us := h.kept k (fun _ _ _ h => h)
/-- One more behind them, its bytes in a block that is newer than theirs. -/
theorem TSecs.snoc {w w1 : World} {l u v' : Value} {ls : List (Nat × List UInt8)} {n : Nat} {b : List UInt8} {B C : Nat} {us : List Value} (h : TSecs w l ls B us) (hC : ∀ (i : Nat) (t : Value), us[i]? = some t → ∀ k, t.ownBlock = some k → k < C) (hBC : B ≤ C)
    (hu : OwnB w u b C) (hg : w.grownBy w1 l.ownBlock) (ho : w1.ownsRow B 79 2 v' (ls.length + 1) (tCells (ls.map (·.1)) us ++ [.int .i64 (n : Nat), u])) : TSecs w1 v' (ls ++ [(n, b)]) B (us ++ [u]) := by
  have ha : ∀ i (cs : Array Value), w.heap[i]? = some (.cells cs 5 (0, 0)) → some i ≠ l.ownBlock := fun i cs hb e => own_apart h.row hb (by decide) e.symm
  have hk : ∀ (D : Nat) (x : Value) (y : List UInt8), OwnB w x y D → OwnB w1 x y D := fun D x y ⟨g, hB, e, hb⟩ => ⟨g, hB, e, (hg.block g (blk_lt hb) (ha g _ hb)).trans hb⟩
  have hat : ∀ (i : Nat) (x : Value), (us ++ [u])[i]? = some x → us[i]? = some x ∧ i < us.length ∨ i = us.length ∧ x = u := fun i x hx => by
    rw [List.getElem?_append] at hx
    split at hx
    next h => exact Or.inl ⟨hx, h⟩
    next h =>
      right
      obtain ⟨h1, h2⟩ := List.getElem?_eq_some_iff.1 hx
      have h3 : i - us.length = 0 := by simp at h1; omega
      refine ⟨by omega, ?_⟩
      rw [← h2]
      simp [h3]
  have hap : ∀ (i j : Nat) (x t : Value), i < j → (us ++ [u])[i]? = some x → (us ++ [u])[j]? = some t → x.ownBlock ≠ t.ownBlock := by
    intro i j x t hij hx ht
    rcases hat i x hx with ⟨a, a2⟩ | ⟨a, a2⟩
    · rcases hat j t ht with ⟨b, b2⟩ | ⟨b, b2⟩
      · exact h.apart i j x t hij a b
      · subst b2
        obtain ⟨g, e, q, _⟩ := hu.blk
        rw [e]
        intro e2
        have := hC i x a g e2
        omega
    · rcases hat j t ht with ⟨b, b2⟩ | ⟨b, b2⟩ <;> omega
  refine ⟨by simp [h.len], ?_, ?_, hap⟩
  · rw [List.map_append, List.map_cons, List.map_nil, tCells_snoc _ _ _ _ (by rw [List.length_map, h.len]), List.length_append]
    exact ho
  · intro i x y hx hy
    rcases hat i y hy with ⟨a, a2⟩ | ⟨a, a2⟩
    · have hl : i < ls.length := by rw [← h.len]; exact a2
      rw [List.getElem?_append_left hl] at hx
      exact hk _ _ _ (h.own i x y hx a)
    · subst a2
      rw [a, h.len, List.getElem?_append_right (Nat.le_refl _), Nat.sub_self] at hx
      simp at hx
      subst hx
      exact hk _ _ _ (hu.weak hBC)
theorem TSecs.below {w : World} {v : Value} {ls : List (Nat × List UInt8)} {B : Nat} {us : List Value} (h : TSecs w v ls B us) : ∀ (i : Nat) (t : Value), us[i]? = some t → ∀ k, t.ownBlock = some k → B ≤ k ∧ k < w.heap.size := by
  intro i t ht k hk
  obtain ⟨hi, _⟩ := List.getElem?_eq_some_iff.1 ht
  have hl : i < ls.length := by rw [← h.len]; exact hi
  obtain ⟨g, e, a, b⟩ := (h.own i _ t (List.getElem?_eq_getElem hl) ht).blk
  rw [hk] at e
  cases e
  exact ⟨a, b⟩
/-! ### Are there bytes that are not 0? -/
def nz (x : UInt8) : Bool := decide (x ≠ 0)
theorem nz_any (x : UInt8) (w : World) : Calls Tryd.prog 70 #[U8 x] w fun e w' => e = .returned (.bool (nz x)) ∧ w = w' := by
  have hx : nz x = !((x.toNat : Int) == 0) := by
    unfold nz
    by_cases h : x = 0
    · subst h; rfl
    · have : x.toNat ≠ 0 := fun e => h (by rw [← UInt8.toNat_inj]; simpa using e)
      rw [decide_eq_true h, beq_eq_false_iff_ne.2 (by omega)]
      rfl
  have HX := hidden hx
  clear hx
  unfold U8
  go_enter Tryd.func70, Tryd.ntmps70
  go_wp2
  go_returns
  refine ⟨?_, rfl⟩
  rw [HX.out]
  simp [go_sem, bne]
set_option maxHeartbeats 2000000 in
set_option maxRecDepth 100000 in
theorem indexFunc_nz (l : List UInt8) (v : Value) (w : World) (hb : Bt w v l) (hl : l.length ≤ 262144) :
    Calls Tryd.prog 78 #[v, .func (.func 70) #[] #[]] w fun e w' => ∃ z : Int, e = .returned (.int .i64 z) ∧ decide (0 ≤ z) = l.any nz ∧ w = w' := by
  have HN := hidden (fun z w => nz_any z w)
  obtain ⟨ao, cap, rfl, _⟩ := hb.form
  have HB := hidden hb
  obtain ⟨k, hk⟩ : ∃ k, l.length = k := ⟨_, rfl⟩
  rw [hk] at hl
  have E1 := hidden hk
  rw [hk]
  clear hb hk
  go_enter Tryd.func78, Tryd.ntmps78
  go_wp2
  go_loopw [8] (fun i wr => ∃ i' : Nat, i = .int .i64 i' ∧ i' ≤ k ∧ (l.take i').any nz = false ∧ w = wr) (fun i _ => k - (intOf i).toNat)
  case atStart => exact ⟨0, rfl, Nat.zero_le _, rfl, rfl⟩
  case round =>
    obtain ⟨i, rfl, hi, ha, rfl⟩ := hrel
    have HA := hidden ha
    clear ha
    by_cases h1 : i < k
    · have hil : i < l.length := by rw [E1.out]; exact h1
      obtain ⟨b, off, rfl, hc0⟩ := (HB.out).cell (by omega)
      have hc := hc0 i hil
      obtain ⟨x, hx⟩ : ∃ x, l[i] = x := ⟨_, rfl⟩
      have HX := hidden hx
      rw [hx] at hc
      have hall : Hid ((l.take (i + 1)).any nz = nz x) := by
        rw [Hid, List.take_add_one, List.any_append, HA.out, List.getElem?_eq_getElem hil, hx]
        simp
      clear hx hc0
      have q0 : (0 : Int) ≤ (i : Int) := Int.natCast_nonneg _
      have q1 : (i : Int) < (k : Int) := by omega
      cases hm : nz x
      · have HKx := HN.out x
        rw [hm] at HKx hall
        have HKX := hidden HKx
        clear hm HKx
        go_wp2_with (go_at_call 70; refine (HKX.out _).mono ?_; rintro e w1 ⟨rfl, rfl⟩)
        go_roundw
        case rel => exact ⟨i + 1, by go_num, by omega, hall.out, trivial⟩
        case measure => simp [intOf]; omega
      · have HM := hidden hm
        have HKx := HN.out x
        rw [hm] at HKx
        have HKX := hidden HKx
        clear hm HKx
        go_wp2_with (go_at_call 70; refine (HKX.out _).mono ?_; rintro e w1 ⟨rfl, rfl⟩)
        go_returns
        refine ⟨_, rfl, ?_, rfl⟩
        rw [List.any_eq_true.2 ⟨x, by rw [← HX.out]; exact List.getElem_mem _, HM.out⟩]
        simp
    · obtain rfl : i = k := by omega
      go_wp2
      go_returns
      refine ⟨_, rfl, ?_, rfl⟩
      have := HA.out
      rw [← E1.out, List.take_length] at this
      rw [this]
      rfl
set_option maxHeartbeats 2000000 in
set_option maxRecDepth 100000 in
theorem containsFunc_nz (l : List UInt8) (v : Value) (w : World) (hb : Bt w v l) (hl : l.length ≤ 262144) :
    Calls Tryd.prog 69 #[v, .func (.func 70) #[] #[]] w fun e w' => e = .returned (.bool (l.any nz)) ∧ w = w' := by
  have HI := hidden (indexFunc_nz l v w hb hl)
  clear hb hl
  go_enter Tryd.func69, Tryd.ntmps69
  go_wp2_with (go_at_call 78; refine HI.out.mono ?_; rintro e w1 ⟨z, rfl, hz, rfl⟩; have HZ := hidden hz; clear hz)
  go_returns
  refine ⟨?_, rfl⟩
  rw [← HZ.out]
  simp [go_sem]
set_option maxHeartbeats 2000000 in
set_option maxRecDepth 100000 in
theorem hasBytes_any (l : List UInt8) (v : Value) (w : World) (hb : Bt w v l) (hl : l.length ≤ 262144) :
    Calls Tryd.prog 42 #[v] w fun e w' => e = .returned (.bool (l.any nz)) ∧ w = w' := by
  have HI := hidden (containsFunc_nz l v w hb hl)
  clear hb hl
  go_enter Tryd.func42, Tryd.ntmps42
  go_wp2_with (go_at_call 69; refine HI.out.mono ?_; rintro e w1 ⟨rfl, rfl⟩)
  go_returns
  exact ⟨rfl, rfl⟩
end Go.Proofs.YtafdkfieajdeiaaDoor
namespace Go.Proofs.YtafdkfieajdeiaaDoor
open Go.RowKit
set_option linter.unusedVariables false
set_option linter.unusedSimpArgs false
set_option maxRecDepth 100000 in
theorem Bt.subA {w : World} {b off n cap : Nat} {l : List UInt8} (h : Bt w (.slice (some ⟨b, off, none⟩) n cap) l) {i j : Nat} (hij : i ≤ j) (hj : j ≤ n) (hne : cap ≠ i) (x y : Int) (hx : x = (i : Int)) (hy : y = (j : Int)) :
    (∀ W, (Instr.sliceAt 32 (.slice (some ⟨b, off, none⟩) n cap) (some (.int .i64 x)) (some (.int .i64 y)) none).run Tryd.prog W = .ok (.slice (some ⟨b, off + i, none⟩) (j - i) (cap - i)) W) ∧ ∀ W, Same w W → Bt W (.slice (some ⟨b, off + i, none⟩) (j - i) (cap - i)) ((l.take j).drop i) := by
  have e2 := h.len.2
  have e1 := h.len.1
  subst hx hy
  have hp : (if cap = i then (some ⟨b, off, none⟩ : Option Addr) else (some ⟨b, off, none⟩ : Option Addr).map (·.add (i * 1))) = some ⟨b, off + i, none⟩ := by rw [if_neg hne]; simp [add_none]
  refine ⟨fun W => ?_, fun W k => by have := h.part hij hj W k; rw [hp] at this; exact this⟩
  rw [← hp, run_sliceAt_slice (h := Tryd.underlying32), run_slice_lh (ht := Tryd.underlying32) (h0 := by omega) (h1 := by omega) (h2 := by omega), size_byte]
  simp [sliced]
theorem bt_row {w : World} {g n : Nat} {l : List UInt8} (h : w.heap[g]? = some (.cells (l.map U8).toArray 5 (0, 0))) (hn : l.length = n) : Bt w (.slice (some ⟨g, 0, none⟩) n n) l := by
  subst hn
  refine ⟨_, _, rfl, Nat.le_refl _, fun _ => ⟨g, 0, rfl, fun j hj => ?_⟩⟩
  rw [blk_cell h]
  simp [hj]
theorem sec_lies (w : World) (x y : Value) : Lies (w.alloc (.cells #[x, y] 79)) (some ⟨w.heap.size, 0, none⟩) 1 [x, y] := fun _ => ⟨_, rfl, fun j u hj => by
  match j, hj with
  | 0, hj => cases hj; exact blk_cell (j := 0) (blk_new w _)
  | 1, hj => cases hj; exact blk_cell (j := 1) (blk_new w _)⟩
def PSt.took0 (s : PSt) : PSt := { s with tslots := s.chunks.length, tend := s.bs.length, tshut := s.shut }
theorem took_put {g : Nat} {s : PSt} {w : World} (h : PW g s w) : PW g s.took0 (((w.setCell ⟨g, 5, none⟩ (.int .i64 (s.slots.length : Nat))).setCell ⟨g, 6, none⟩ (.int .i64 (s.bs.length : Nat))).setCell ⟨g, 7, none⟩ (.bool s.shut)) ∧ Turns g w (((w.setCell ⟨g, 5, none⟩ (.int .i64 (s.slots.length : Nat))).setCell ⟨g, 6, none⟩ (.int .i64 (s.bs.length : Nat))).setCell ⟨g, 7, none⟩ (.bool s.shut)) := by
  have e : s.slots.length = s.chunks.length := slotsFrom_len _ _
  rw [e]
  obtain ⟨a1, a2⟩ := h.put (t := { s with tslots := s.chunks.length }) rfl rfl rfl rfl (Nat.le_refl _) 5 (.int .i64 (s.chunks.length : Nat)) (fun vb vs => rfl)
  obtain ⟨b1, b2⟩ := a1.put (t := { s with tslots := s.chunks.length, tend := s.bs.length }) rfl rfl rfl rfl (Nat.le_refl _) 6 (.int .i64 (s.bs.length : Nat)) (fun vb vs => rfl)
  obtain ⟨c1, c2⟩ := b1.put (t := s.took0) rfl rfl rfl rfl (Nat.le_refl _) 7 (.bool s.shut) (fun vb vs => rfl)
  exact ⟨c1, (a2.trans b2).trans c2⟩
theorem took_put2 {g : Nat} {s : PSt} {w : World} (h : PW g s w) (hs : s.shut = true) : PW g s.took ((((w.setCell ⟨g, 5, none⟩ (.int .i64 (s.slots.length : Nat))).setCell ⟨g, 6, none⟩ (.int .i64 (s.bs.length : Nat))).setCell ⟨g, 7, none⟩ (.bool s.shut)).setCell ⟨g, 6, none⟩ (.int .i64 (s.len : Nat))) ∧ Turns g w ((((w.setCell ⟨g, 5, none⟩ (.int .i64 (s.slots.length : Nat))).setCell ⟨g, 6, none⟩ (.int .i64 (s.bs.length : Nat))).setCell ⟨g, 7, none⟩ (.bool s.shut)).setCell ⟨g, 6, none⟩ (.int .i64 (s.len : Nat))) := by
  obtain ⟨c1, c2⟩ := took_put h
  obtain ⟨d1, d2⟩ := c1.put (t := s.took) rfl rfl rfl rfl (Nat.le_refl _) 6 (.int .i64 (s.len : Nat)) (fun vb vs => by unfold PSt.took PSt.took0 PCells; rw [hs]; rfl)
  exact ⟨d1, c2.trans d2⟩
theorem PSt.took_is {s : PSt} (h : s.shut = false) : s.took = s.took0 := by unfold PSt.took PSt.took0; rw [h]; rfl
theorem Turns.drew {g : Nat} {w w' : World} (h : Turns g w w') : Turns g w w'.drew := ⟨h.kept.drew, h.row⟩
theorem PW.drew {g : Nat} {s : PSt} {w : World} (h : PW g s w) : PW g s w.drew := h.same ((Kept.refl _ _).drew)
/-- What was there behind the container, when only its own cells are written. -/
theorem TSecs.past {w w' : World} {v : Value} {ls : List (Nat × List UInt8)} {B g : Nat} {us : List Value} (h : TSecs w v ls B us) (k : Kept (fun i => i = g) w w') (hg : g < B) : TSecs w' v ls B us := h.kept k (fun i hi _ e => by omega)
theorem TSecs.weak {w : World} {v : Value} {ls : List (Nat × List UInt8)} {B C : Nat} {us : List Value} (h : TSecs w v ls B us) (hc : C ≤ B) : TSecs w v ls C us :=
  ⟨h.len, own_mono h.row hc, fun i x u hx hu => (h.own i x u hx hu).weak hc, h.apart⟩
set_option maxHeartbeats 4000000 in
set_option maxRecDepth 100000 in
theorem p_take {g : Nat} {s : PSt} {w : World} (h : PW g s w) (hT : Tab w) (ti : s.TI) : Calls Tryd.prog 14 #[.pointer (some ⟨g, 0, none⟩)] w fun e w' => ∃ v us, e = .returned v ∧ TSecs w' v (s.secs s.sectors) w.heap.size us ∧ PW g s.took w' ∧ Turns g w w' := by
  obtain ⟨i0, hi, hz0, hz1, hz2⟩ := info_parts infoSec
  have A := hidden (p_made h)
  have HI := hidden (p_image h hT)
  have HP := hidden h
  have HTI := hidden ti
  obtain ⟨vb, vs, hbox, h2, h3⟩ := h.lies
  obtain ⟨va, vc, rfl, _⟩ := h3.form
  obtain ⟨ba, bc, rfl, _⟩ := h2.form
  have ok := h.ok
  have hs0 := ok.s0
  have hs1 := ok.s1
  have hc0 := ok.c0
  have hc1 := ok.c1
  have hroom : s.len ≤ 262144 := ok.room
  have htl := PSt.tend_le ok ti
  have hdv0 : Int.tdiv (s.tend : Int) (s.size : Int) = ((s.tend / s.size : Nat) : Int) := (Int.ofNat_tdiv _ _).symm
  have hq0 : s.tend / s.size ≤ s.sectors := Nat.div_le_of_le_mul htl
  have hqm : s.tend < (s.tend / s.size + 1) * s.size := by
    have := Nat.lt_div_mul_add (a := s.tend) (b := s.size) (by omega)
    rw [Nat.add_mul]
    omega
  have hqf := PSt.secs_first ok ti
  obtain ⟨q, hq⟩ : ∃ q, s.tend / s.size = q := ⟨_, rfl⟩
  rw [hq] at hdv0 hq0 hqm hqf
  have hdv : wrap64 ((s.tend : Int) / (s.size : Int)) = (q : Int) := by
    rw [← Int.tdiv_eq_ediv_of_nonneg (by omega), hdv0]
    exact IntWalk.wrap64_in _ ⟨by omega, by omega⟩
  have HDV := hidden hdv
  have HBX : Hid (∀ W, Same w W → W.heap[g]? = some (.cells (PCells s (.slice ba s.bs.length bc) (.slice va s.slots.length vc)) 70 (0, 0))) := hidden (fun W k => blk_kept k (fun h => h) hbox)
  have HOK := hidden ok
  have hsz : ((s.size : Int) == 0) = false := by rw [beq_eq_false_iff_ne]; omega
  have hsz2 : ¬ (s.size : Int) = 0 := by omega
  have HQ := hidden (show s.size ≤ 4096 ∧ s.sectors ≤ 64 ∧ s.len ≤ 262144 ∧ s.tend ≤ s.len ∧ q ≤ s.sectors ∧ s.tend < (q + 1) * s.size from ⟨hs1, hc1, hroom, htl, hq0, hqm⟩)
  have HF := hidden hqf
  clear h hT ti hbox h2 h3 ok hs0 hs1 hc0 hc1 hroom htl hq0 hqm hqf hq hdv0 hdv
  go_enter Tryd.func14, Tryd.ntmps14
  go_wp2_with (first
    | (go_at_call 38; refine (A.out).mono ?_; rintro e w1 ⟨rfl, rfl⟩)
    | (go_at_call 18; refine (HI.out).mono ?_; rintro e w1 ⟨rfl, him, k1⟩; have HIM := hidden him; have K1 := hidden k1; have D0 : ∀ m, (w1.drewN m).cell? ⟨g, 0, none⟩ = some (.int .i64 s.size) := fun m => blk_cell (HBX.out _ (k1.drewN m)); have D6 : ∀ m, (w1.drewN m).cell? ⟨g, 6, none⟩ = some (.int .i64 s.tend) := fun m => blk_cell (HBX.out _ (k1.drewN m)); clear him k1))
  go_quiet (fail)
  go_wp2
  go_loopw [3, 5] (fun lv nv wr => ∃ (k : Nat) (us : List Value), nv = .int .i64 k ∧ q ≤ k ∧ k ≤ s.sectors ∧ TSecs wr lv (s.secs k) w1.heap.size us ∧ Same w1 wr) (fun _ nv wr => s.sectors - (intOf nv).toNat)
  case atStart => exact ⟨q, [], by rw [HDV.out], Nat.le_refl _, HQ.out.2.2.2.2.1, by rw [HF.out]; exact TSecs.nil _ _, (Kept.refl _ _).drewN _⟩
  case round =>
    obtain ⟨k, us, rfl, hqk, hk, hT, hs⟩ := hrel
    have HT := hidden hT
    have HS := hidden hs
    have C0 : ∀ m, (wr.drewN m).cell? ⟨g, 0, none⟩ = some (.int .i64 s.size) := fun m => blk_cell (HBX.out _ (K1.out.trans (hs.drewN m)))
    have C6 : ∀ m, (wr.drewN m).cell? ⟨g, 6, none⟩ = some (.int .i64 s.tend) := fun m => blk_cell (HBX.out _ (K1.out.trans (hs.drewN m)))
    have C1 : wr.cell? ⟨g, 1, none⟩ = some (.int .i64 s.sectors) := blk_cell (HBX.out _ (K1.out.trans hs))
    have C00 : wr.cell? ⟨g, 0, none⟩ = some (.int .i64 s.size) := blk_cell (HBX.out _ (K1.out.trans hs))
    by_cases h1 : k < s.sectors
    · obtain ⟨F, hF⟩ : ∃ F, k * s.size = F := ⟨_, rfl⟩
      obtain ⟨T, hTT⟩ : ∃ T, (k + 1) * s.size = T := ⟨_, rfl⟩
      obtain ⟨M, hM⟩ : ∃ M, max F s.tend = M := ⟨_, rfl⟩
      have hFT : T = F + s.size := by rw [← hF, ← hTT, Nat.add_mul]; omega
      have hTL : T ≤ s.len := by
        rw [← hTT]
        have := Nat.mul_le_mul_right s.size h1
        unfold PSt.len
        rw [Nat.mul_comm s.size]
        exact this
      have hMT : s.tend < T := by
        have h5 := HQ.out.2.2.2.2.2
        have h6 : (q + 1) * s.size ≤ (k + 1) * s.size := Nat.mul_le_mul_right _ (by omega)
        omega
      have hq1 := HQ.out.1
      have hq2 := HQ.out.2.2.1
      have hsz0 := HOK.out.s0
      have w1' : IntKind.i64.wrap ((k : Int) * (s.size : Int)) = (F : Int) := by rw [← hF, IntKind.wrap_i64]; have : ((k * s.size : Nat) : Int) = (k : Int) * (s.size : Int) := Int.natCast_mul _ _; omega
      have w2' : IntKind.i64.wrap ((k : Int) + 1) = (k : Int) + 1 := by rw [IntKind.wrap_i64]; have := HQ.out.2.1; omega
      have w3' : IntKind.i64.wrap (((k : Int) + 1) * (s.size : Int)) = (T : Int) := by
        rw [← hTT, IntKind.wrap_i64]
        have : (((k + 1) * s.size : Nat) : Int) = ((k : Int) + 1) * (s.size : Int) := by rw [Int.natCast_mul, Int.natCast_add]; rfl
        omega
      have hmx : ∀ ts t (W : World), (Builtin.max_ ts t #[.int .i64 (F : Int), .int .i64 (s.tend : Int)]).run Tryd.prog W = .ok (.int .i64 (M : Int)) W := fun ts t W => by
        rw [run_max_int2]; congr 2; split <;> omega
      have HBT : Hid (∀ W, Same w1 W → Bt W (.slice (some ⟨w.heap.size, 0, none⟩) s.len s.len) s.img) := hidden (fun W kk => bt_row (blk_kept kk (fun h => h) HIM.out) (PSt.img_len HOK.out))
      obtain ⟨hsM, hbM⟩ := (HBT.out w1 (Kept.refl _ _)).subA (i := M) (j := T) (by omega) hTL (by omega) (M : Int) (T : Int) rfl rfl
      obtain ⟨hsF, hbF⟩ := (HBT.out w1 (Kept.refl _ _)).subA (i := F) (j := T) (by omega) hTL (by omega) (F : Int) (T : Int) rfl rfl
      rw [Nat.zero_add] at hsM hsF
      simp only [Nat.zero_add] at hbM hbF
      have hdf := PSt.diff_rest HOK.out HTI.out k (by rw [hTT]; omega) h1
      rw [hF, hTT, hM] at hdf
      have hHB : Hid (∀ W, Same w1 W → Calls Tryd.prog 42 #[.slice (some ⟨w.heap.size, M, none⟩) (T - M) (s.len - M)] W fun e w' => e = .returned (.bool (s.diff k)) ∧ W = w') := hidden (fun W kk => by
        have h5 := hasBytes_any _ _ W (hbM W kk) (by rw [List.length_drop, List.length_take]; omega)
        rw [take_drop_sub _ _ _ (by omega)] at h5
        rw [← hdf]
        exact h5)
      have hsec : (s.img.take T).drop F = secB s.size s.img k := by
        rw [take_drop_sub _ _ _ (by omega), show T - F = s.size by omega]
        unfold secB
        rw [hF]
      rw [hsec] at hbF
      have HSS : Hid (s.secs (k + 1) = s.secs k ++ (if s.diff k then [(k, secB s.size s.img k)] else [])) := hidden rfl
      have hsl := secB_len (show s.img.length = s.size * s.sectors from PSt.img_len HOK.out) k h1
      rw [show T - F = s.size by omega] at hbF hsF
      have HBF := hidden hbF
      have HLN := hidden hsl
      have q0 : (0 : Int) ≤ (k : Int) := Int.natCast_nonneg _
      have q1 : (k : Int) < (s.sectors : Int) := by omega
      obtain ⟨sec, hse⟩ : ∃ sec, secB s.size s.img k = sec := ⟨_, rfl⟩
      rw [hse] at HBF HLN HSS
      have HSL := hidden (show (s.secs k).length ≤ 64 from by have := s.secs_le k; have := HQ.out.2.1; omega)
      clear hbM hbF hdf hsec hsl hse hF hTT hM hT hs hFT hTL hMT hq2
      cases hd : s.diff k with
      | false =>
        rw [hd] at hHB HSS
        clear hd
        go_wp2
        go_quiet (fail)
        go_wp2_with (go_at_call 42; refine (hHB.out _ (HS.out.drewN _)).mono ?_; rintro e w2 ⟨rfl, rfl⟩)
        go_roundw
        case rel => exact ⟨k + 1, us, by go_num, by omega, by omega, by rw [HSS.out]; simpa using HT.out.same ((Kept.refl _ _).drewN _), HS.out.drewN _⟩
        case measure => simp [intOf]; omega
      | true =>
        rw [hd] at hHB HSS
        clear hd
        have hmk := make_bytes s.size (by omega)
        obtain ⟨a0, c0, hlv⟩ := own_form HT.out.row
        subst hlv
        have hS0 := HS.out.size
        have KX : Hid (∀ m, Same wr ((wr.drewN m).alloc (.cells (List.replicate s.size (U8 0)).toArray 5))) := hidden (fun m => ((Kept.refl _ wr).drewN m).alloc _)
        have hcp : ∀ m, (Builtin.copy_ #[32, 32] 3 #[.slice (some ⟨wr.heap.size, 0, none⟩) s.size s.size, .slice (some ⟨w.heap.size, F, none⟩) s.size (s.len - F)]).run Tryd.prog ((wr.drewN m).alloc (.cells (List.replicate s.size (U8 0)).toArray 5)) = .ok (goInt s.size) (((wr.drewN m).alloc (.cells (List.replicate s.size (U8 0)).toArray 5)).setRow wr.heap.size (sec.map U8).toArray) := fun m => by
          have h5 := copy_zero s.size ⟨w.heap.size, F, none⟩ (s.len - F) sec ((wr.drewN m).alloc (.cells (List.replicate s.size (U8 0)).toArray 5)) (by rw [HLN.out]; exact HBF.out _ (HS.out.trans (KX.out m))) (by rw [HLN.out]; exact Nat.le_refl _) wr.heap.size (blk_new (wr.drewN m) _)
          rw [HLN.out, Nat.sub_self, List.replicate_zero, List.append_nil] at h5
          exact h5
        obtain ⟨Z, hZ⟩ : ∃ Z : Nat → World, ∀ m, ((wr.drewN m).alloc (.cells (List.replicate s.size (U8 0)).toArray 5)).setRow wr.heap.size (sec.map U8).toArray = Z m := ⟨_, fun _ => rfl⟩
        have HZB : Hid (∀ m, (Z m).heap[wr.heap.size]? = some (.cells (sec.map U8).toArray 5 (0, 0))) := hidden (fun m => by rw [← hZ]; exact setRow_heap _ _ _ _ 5 (0, 0) (blk_new (wr.drewN m) _))
        have HZK : Hid (∀ m, Same wr (Z m)) := hidden (fun m => by rw [← hZ]; exact same_setRow (KX.out m) (Nat.le_refl _) _)
        have hcp2 : ∀ m, (Builtin.copy_ #[32, 32] 3 #[.slice (some ⟨wr.heap.size, 0, none⟩) s.size s.size, .slice (some ⟨w.heap.size, F, none⟩) s.size (s.len - F)]).run Tryd.prog ((wr.drewN m).alloc (.cells (Array.replicate s.size (U8 0)) 5)) = .ok (goInt s.size) (Z m) := fun m => by
          have h5 := hcp m
          rw [hZ] at h5
          simpa only [List.toArray_replicate] using h5
        have HSZ := hidden hS0
        have m1 : Hid ((s.secs k).length + 1 ≤ maxLen) := hidden (by have := HSL.out; unfold maxLen; omega)
        have m2 : Hid (((s.secs k).length + 1) * 32 ≤ 140737488355328) := hidden (by have := HSL.out; omega)
        have m3 : Hid (∀ m, w1.heap.size ≤ (Z m).heap.size) := hidden (fun m => Nat.le_trans HSZ.out (HZK.out m).size)
        clear hcp hZ hS0
        go_wp2
        go_quiet (fail)
        go_wp2_with (first
          | (go_at_call 42; refine (hHB.out _ (HS.out.drewN _)).mono ?_; rintro e w2 ⟨rfl, rfl⟩)
          | (at_builtin; refine wpList_append_where (P := Tryd.prog) rfl _ _ 40 rfl w1.heap.size 79 i0 _ 2 32 Tryd.underlying40 hi hz0 hz1 hz2 rfl (by decide) a0 (s.secs k).length c0 _ rfl ((own_kept HT.out.row (HZK.out _) (fun _ _ h => h)).alloc _) (some ⟨(Z _).heap.size, 0, none⟩) 1 1 [.int .i64 (k : Nat), .slice (some ⟨wr.heap.size, 0, none⟩) s.size s.size] rfl rfl (sec_lies _ _ _) (fun u hu => by simp at hu; rcases hu with rfl | rfl <;> rfl) m1.out m2.out (by have := m3.out; simp; exact Nat.le_succ_of_le (this _)) ?_; intro a' cap' w3 hown hgrow _))
        go_roundw
        case rel =>
          refine ⟨k + 1, us ++ [.slice (some ⟨wr.heap.size, 0, none⟩) s.size s.size], by go_num, by omega, by omega, ?_, ?_⟩
          · rw [HSS.out]
            exact TSecs.snoc (HT.out.same ((HZK.out _).alloc _)) (fun i t ht k hk => (HT.out.below i t ht k hk).2) HSZ.out ⟨wr.heap.size, Nat.le_refl _, by rw [HLN.out], blk_alloc (HZB.out _) _⟩ hgrow hown
          · exact ((HS.out.trans (HZK.out _)).alloc _).grown hgrow (fun q e hk => by have := (HT.out.row.lt q e).1; omega)
        case measure => simp [intOf]; omega
    · have he : k = s.sectors := by omega
      subst he
      have q1 : ¬ (s.sectors : Int) < (s.sectors : Int) := by omega
      have B := HBX.out _ (K1.out.trans hs)
      have HB := hidden B
      have X2 : wr.cell? ⟨g, 2, none⟩ = some (.slice ba s.bs.length bc) := blk_cell B
      have X3 : wr.cell? ⟨g, 3, none⟩ = some (.slice va s.slots.length vc) := blk_cell B
      have X4 : wr.cell? ⟨g, 4, none⟩ = some (.bool s.shut) := blk_cell B
      have Y2 : wr.drew.cell? ⟨g, 2, none⟩ = some (.slice ba s.bs.length bc) := blk_cell B
      have Y3 : wr.drew.cell? ⟨g, 3, none⟩ = some (.slice va s.slots.length vc) := blk_cell B
      have Y4 : wr.drew.cell? ⟨g, 4, none⟩ = some (.bool s.shut) := blk_cell B
      have X5 : wr.cell? ⟨g, 5, none⟩ = some (.int .i64 s.tslots) := blk_cell B
      have X6 : wr.cell? ⟨g, 6, none⟩ = some (.int .i64 s.tend) := blk_cell B
      have X7 : wr.cell? ⟨g, 7, none⟩ = some (.bool s.tshut) := blk_cell B
      have f5 : wr.frozen? ⟨g, 5, none⟩ = false := blk_free B
      have f6 : wr.frozen? ⟨g, 6, none⟩ = false := blk_free B
      have f7 : wr.frozen? ⟨g, 7, none⟩ = false := blk_free B
      have PWr := hidden (HP.out.same (K1.out.trans hs))
      have KW := hidden (K1.out.trans hs)
      obtain ⟨b, hb⟩ : ∃ b, s.shut = b := ⟨_, rfl⟩
      rw [hb] at X4 Y4
      have HBB := hidden hb
      clear B hT hs C0 C6 C00 hb
      go_wp2
      go_region_law fail
      all_goals
        cases b with
        | false =>
          go_wp2
          go_returns
          have e := took_put PWr.out
          rw [HBB.out, ← PSt.took_is HBB.out] at e
          have kk := HT.out.past (((((Kept.refl (fun i => i = g) wr).setCell (p := ⟨g, 5, none⟩) rfl (.int .i64 (s.slots.length : Nat)))).setCell (p := ⟨g, 6, none⟩) rfl (.int .i64 (s.bs.length : Nat))).setCell (p := ⟨g, 7, none⟩) rfl (.bool false)) (Nat.lt_of_lt_of_le HP.out.lt K1.out.size)
          exact ⟨_, us, rfl, by first | exact kk.weak K1.out.size | exact (kk.weak K1.out.size).same ((Kept.refl _ _).drew), by first | exact e.1 | exact e.1.drew, by first | exact (Turns.same HP.out.lt KW.out).trans e.2 | exact ((Turns.same HP.out.lt KW.out).trans e.2).drew⟩
        | true =>
          go_wp2
          go_returns
          have e := took_put2 PWr.out HBB.out
          rw [HBB.out] at e
          have kk := HT.out.past ((((((Kept.refl (fun i => i = g) wr).setCell (p := ⟨g, 5, none⟩) rfl (.int .i64 (s.slots.length : Nat)))).setCell (p := ⟨g, 6, none⟩) rfl (.int .i64 (s.bs.length : Nat))).setCell (p := ⟨g, 7, none⟩) rfl (.bool true)).setCell (p := ⟨g, 6, none⟩) rfl (.int .i64 (s.len : Nat))) (Nat.lt_of_lt_of_le HP.out.lt K1.out.size)
          exact ⟨_, us, rfl, by first | exact kk.weak K1.out.size | exact (kk.weak K1.out.size).same ((Kept.refl _ _).drew), by first | exact e.1 | exact e.1.drew, by first | exact (Turns.same HP.out.lt KW.out).trans e.2 | exact ((Turns.same HP.out.lt KW.out).trans e.2).drew⟩
end Go.Proofs.YtafdkfieajdeiaaDoor
namespace Go.Proofs.YtafdkfieajdeiaaDoor
open Go.RowKit
set_option linter.unusedVariables false
set_option linter.unusedSimpArgs false
/-- The bytes now up to a place, as they were behind it. -/
def PSt.ov (s : PSt) (b : Nat) : List UInt8 := s.img.take b ++ s.last.drop b
theorem PSt.ov_len {s : PSt} (hk : s.Ok) (b : Nat) (h : b ≤ s.len) : (s.ov b).length = s.len := by
  unfold PSt.ov
  rw [List.length_append, List.length_take, List.length_drop, PSt.img_len hk, PSt.last_len hk]
  omega
theorem PSt.ov_zero (s : PSt) : s.ov 0 = s.last := by unfold PSt.ov; simp
theorem PSt.ov_all {s : PSt} (hk : s.Ok) : s.ov s.len = s.img := by
  unfold PSt.ov
  rw [List.take_of_length_le (by rw [PSt.img_len hk]; exact Nat.le_refl _), List.drop_of_length_le (by rw [PSt.last_len hk]; exact Nat.le_refl _), List.append_nil]
theorem PSt.ov_at {s : PSt} (hk : s.Ok) (b : Nat) (h : b < s.len) : (s.ov b)[b]? = s.last[b]? := by
  unfold PSt.ov
  rw [List.getElem?_append_right (by rw [List.length_take]; omega), List.length_take, PSt.img_len hk, Nat.min_eq_left (by omega), Nat.sub_self, List.getElem?_drop]
  rfl
theorem PSt.ov_set {s : PSt} (hk : s.Ok) (b : Nat) (h : b < s.img.length) : (s.ov b).set b s.img[b] = s.ov (b + 1) := by
  have hl : b < s.last.length := by rw [PSt.last_len hk, ← PSt.img_len hk]; exact h
  unfold PSt.ov
  have e : s.last.drop b = s.last[b] :: s.last.drop (b + 1) := by rw [List.drop_eq_getElem_cons hl]
  rw [e, List.set_append_right _ _ (by rw [List.length_take]; omega), List.length_take, Nat.min_eq_left (by omega), Nat.sub_self, List.set_cons_zero, List.take_add_one, List.getElem?_eq_getElem h, List.append_assoc]
  rfl
theorem secB_at {size : Nat} {b : List UInt8} {n k : Nat} (hk : k < size) : (secB size b n)[k]? = b[n * size + k]? := by
  unfold secB
  rw [List.getElem?_take, if_pos hk, List.getElem?_drop]
theorem PSt.ov_step {s : PSt} (hk : s.Ok) (n : Nat) (hn : n < s.sectors) (hd : s.diff n = false) : s.ov ((n + 1) * s.size) = s.ov (n * s.size) := by
  have e : secB s.size s.img n = secB s.size s.last n := by
    unfold PSt.diff at hd
    simpa using hd
  unfold secB at e
  unfold PSt.ov
  have h1 : s.img.take ((n + 1) * s.size) = s.img.take (n * s.size) ++ (s.img.drop (n * s.size)).take s.size := by
    rw [Nat.add_mul, Nat.one_mul, List.take_add]
  have h2 : (s.last.drop (n * s.size)).take s.size ++ s.last.drop ((n + 1) * s.size) = s.last.drop (n * s.size) := by
    rw [show (n + 1) * s.size = n * s.size + s.size by rw [Nat.add_mul]; omega, ← List.drop_drop, List.take_append_drop]
  rw [h1, e, List.append_assoc, h2]
theorem PSt.secs_same {s : PSt} (hk : s.Ok) : ∀ (d c : Nat), c + d ≤ s.sectors → s.secs (c + d) = s.secs c → s.ov ((c + d) * s.size) = s.ov (c * s.size)
  | 0, _, _, _ => rfl
  | d + 1, c, hc, he => by
    have hl := congrArg List.length he
    have hm : (s.secs c).length ≤ (s.secs (c + d)).length := by
      clear he hl hc
      induction d with
      | zero => exact Nat.le_refl _
      | succ d ih =>
        rw [show c + (d + 1) = (c + d) + 1 by omega, PSt.secs, List.length_append]
        omega
    rw [show c + (d + 1) = (c + d) + 1 by omega, PSt.secs] at he hl
    cases hd : s.diff (c + d) with
    | true =>
      rw [hd] at hl
      rw [List.length_append] at hl
      simp at hl
      omega
    | false =>
      rw [hd] at he
      have e2 : s.secs (c + d) = s.secs c := by simpa using he
      rw [show c + (d + 1) = (c + d) + 1 by omega, PSt.ov_step hk (c + d) (by omega) hd]
      exact PSt.secs_same hk d c (by omega) e2
theorem PSt.secs_ov {s : PSt} (hk : s.Ok) {a b : Nat} (ha : a ≤ s.sectors) (hb : b ≤ s.sectors) (h : s.secs a = s.secs b) : s.ov (a * s.size) = s.ov (b * s.size) := by
  rcases Nat.le_total a b with hl | hl
  · have := PSt.secs_same hk (b - a) a (by omega) (by rw [show a + (b - a) = b by omega]; exact h.symm)
    rw [show a + (b - a) = b by omega] at this
    exact this.symm
  · have := PSt.secs_same hk (a - b) b (by omega) (by rw [show b + (a - b) = a by omega]; exact h)
    rw [show b + (a - b) = a by omega] at this
    exact this
theorem PSt.secs_at (s : PSt) : ∀ (K i : Nat) (x : Nat × List UInt8), (s.secs K)[i]? = some x → (s.secs K).take i = s.secs x.1 ∧ x.1 < K ∧ x.2 = secB s.size s.img x.1 ∧ (s.secs K).take (i + 1) = s.secs (x.1 + 1)
  | 0, i, x, h => by simp [PSt.secs] at h
  | K + 1, i, x, h => by
    have hlt := (List.getElem?_eq_some_iff.1 h).1
    rw [PSt.secs] at h hlt ⊢
    rw [List.getElem?_append] at h
    split at h
    next hl =>
      obtain ⟨a, b, c, d⟩ := s.secs_at K i x h
      refine ⟨?_, by omega, c, ?_⟩
      · rw [List.take_append_of_le_length (by omega)]
        exact a
      · rw [List.take_append_of_le_length (by omega)]
        exact d
    next hl =>
      cases hd : s.diff K with
      | false => rw [hd] at h; simp at h
      | true =>
        rw [hd] at h hlt
        simp at h hlt
        have hi : i - (s.secs K).length = 0 := by omega
        rw [hi] at h
        simp at h
        subst h
        refine ⟨?_, by simp, rfl, ?_⟩
        · have : i = (s.secs K).length := by omega
          rw [this]
          simp
        · rw [PSt.secs, hd, List.take_of_length_le]
          simp
          omega
end Go.Proofs.YtafdkfieajdeiaaDoor
namespace Go.Proofs.YtafdkfieajdeiaaDoor
open Go.RowKit
set_option linter.unusedVariables false
set_option linter.unusedSimpArgs false
theorem TSecs.at {w : World} {v : Value} {ls : List (Nat × List UInt8)} {B : Nat} {us : List Value} (h : TSecs w v ls B us) {i : Nat} (hi : i < ls.length) :
    ∃ b c g, v = .slice (some ⟨b, 0, none⟩) ls.length c ∧ w.cell? ⟨b, i * 2, none⟩ = some (.int .i64 (ls[i].1 : Nat)) ∧ w.cell? ⟨b, i * 2 + 1, none⟩ = some (.slice (some ⟨g, 0, none⟩) ls[i].2.length ls[i].2.length) ∧ w.heap[g]? = some (.cells (ls[i].2.map U8).toArray 5 (0, 0)) ∧ B ≤ g ∧ us[i]? = some (.slice (some ⟨g, 0, none⟩) ls[i].2.length ls[i].2.length) := by
  have hu : i < us.length := by rw [h.len]; exact hi
  obtain ⟨g, hB, e, hb⟩ := (h.own i _ us[i] (List.getElem?_eq_getElem hi) (List.getElem?_eq_getElem hu)).lies
  rcases h.row.2 with ⟨_, h0⟩ | ⟨b, c, cur, rfl, _⟩
  · omega
  · obtain ⟨c1, c2⟩ := tCells_at (ls.map (·.1)) us i ls[i].1 us[i] (by rw [List.getElem?_map, List.getElem?_eq_getElem hi]; rfl) (List.getElem?_eq_getElem hu)
    have d1 := h.row.cells (g := b) rfl _ _ c1
    have d2 := h.row.cells (g := b) rfl _ _ c2
    rw [add_none, Nat.zero_add] at d1 d2
    rw [e] at d2
    exact ⟨b, c, g, rfl, d1, d2, hb, hB, by rw [List.getElem?_eq_getElem hu, e]⟩
theorem bytes_set (l : List UInt8) (b : Nat) (x : UInt8) : ((l.map U8).toArray).setIfInBounds b (U8 x) = ((l.set b x).map U8).toArray := by
  apply Array.ext'
  simp [List.map_set]
set_option maxHeartbeats 4000000 in
set_option maxRecDepth 100000 in
theorem laid_any {s : PSt} (hk : s.Ok) (ti : s.TI) (gi B : Nat) (v : Value) (us : List Value) (w : World) (hS : TSecs w v (s.secs s.sectors) B us) (hg : w.heap[gi]? = some (.cells (s.last.map U8).toArray 5 (0, 0))) (hgB : gi < B) :
    Calls Tryd.prog 29 #[.slice (some ⟨gi, 0, none⟩) s.len s.len, .int .i64 s.size, v] w fun e w' => e = .returned (.bool true) ∧ w'.heap[gi]? = some (.cells (s.img.map U8).toArray 5 (0, 0)) ∧ Kept (fun k => k = gi) w w' := by
  have HK := hidden hk
  have HTI := hidden ti
  have HT := hidden hS
  have hL : s.len ≤ 262144 := hk.room
  have hsz1 := hk.s1
  have hsz0 := hk.s0
  have hc1 := hk.c1
  obtain ⟨ls, hls⟩ : ∃ ls, s.secs s.sectors = ls := ⟨_, rfl⟩
  rw [hls] at HT
  have HLS := hidden hls
  have hn : ls.length ≤ 64 := by have := s.secs_le s.sectors; rw [hls] at this; omega
  obtain ⟨a0, c0, hv⟩ := own_form HT.out.row
  subst hv
  have HG : Hid (w.heap[gi]? = some (.cells ((s.ov 0).map U8).toArray 5 (0, 0))) := hidden (by rw [PSt.ov_zero]; exact hg)
  have HGB := hidden hgB
  have HQ := hidden (show s.size ≤ 4096 ∧ s.sectors ≤ 64 ∧ s.len ≤ 262144 ∧ 512 ≤ s.size from ⟨hsz1, hc1, hL, hsz0⟩)
  clear hk ti hS hls hg hgB
  obtain ⟨n, hnn⟩ : ∃ n, ls.length = n := ⟨_, rfl⟩
  have HN := hidden hnn
  rw [hnn] at hn ⊢
  clear hnn
  go_enter Tryd.func29, Tryd.ntmps29
  go_wp2
  go_loopw [7] (fun iv wr => ∃ i c : Nat, iv = .int .i64 i ∧ i ≤ n ∧ c ≤ s.sectors ∧ ls.take i = s.secs c ∧ wr.heap[gi]? = some (.cells ((s.ov (c * s.size)).map U8).toArray 5 (0, 0)) ∧ Kept (fun k => k = gi) w wr) (fun iv wr => n - (intOf iv).toNat)
  case atStart => exact ⟨0, 0, rfl, Nat.zero_le _, Nat.zero_le _, rfl, by rw [Nat.zero_mul]; exact HG.out, Kept.refl _ _⟩
  case round =>
    obtain ⟨i, c, rfl, hi, hc, htk, hg, hs⟩ := hrel
    obtain ⟨wo, rfl⟩ : ∃ x, x = wr := ⟨_, rfl⟩
    by_cases h1 : i < n
    · have hil : i < ls.length := by rw [HN.out]; exact h1
      have hT := HT.out.past hs HGB.out
      obtain ⟨b, c2, g, hv, x1, x2, hb, hB, hus⟩ := hT.at hil
      simp only [Value.slice.injEq] at hv
      obtain ⟨rfl, _, rfl⟩ := hv
      have hat := s.secs_at s.sectors i ls[i] (by rw [HLS.out]; exact List.getElem?_eq_getElem hil)
      rw [HLS.out] at hat
      obtain ⟨t1, t2, t3, t4⟩ := hat
      rw [t3] at x2 hb
      have hov := PSt.secs_ov HK.out hc (Nat.le_of_lt t2) (by rw [← htk, t1])
      rw [hov] at hg
      have hsl := secB_len (show s.img.length = s.size * s.sectors from PSt.img_len HK.out) _ t2
      rw [hsl] at x2
      obtain ⟨N, hN⟩ : ∃ N, ls[i].1 = N := ⟨_, rfl⟩
      rw [hN] at x1 hb t2 t4 hg
      obtain ⟨A, hA⟩ : ∃ A, N * s.size = A := ⟨_, rfl⟩
      obtain ⟨T, hTT⟩ : ∃ T, (N + 1) * s.size = T := ⟨_, rfl⟩
      have hAT : T = A + s.size := by rw [← hA, ← hTT, Nat.add_mul]; omega
      have hTL : T ≤ s.len := by
        rw [← hTT]
        have := Nat.mul_le_mul_right s.size t2
        unfold PSt.len
        rw [Nat.mul_comm s.size]
        exact this
      have hL := HQ.out.2.2.1
      have h512 := HQ.out.2.2.2
      rw [hA] at hg
      have w1' : IntKind.i64.wrap ((N : Int) * (s.size : Int)) = (A : Int) := by rw [← hA, IntKind.wrap_i64]; have : ((N * s.size : Nat) : Int) = (N : Int) * (s.size : Int) := Int.natCast_mul _ _; omega
      have w2' : IntKind.i64.wrap ((N : Int) + 1) = (N : Int) + 1 := by rw [IntKind.wrap_i64]; have := HQ.out.2.1; omega
      have w3' : IntKind.i64.wrap (((N : Int) + 1) * (s.size : Int)) = (T : Int) := by
        rw [← hTT, IntKind.wrap_i64]
        have : (((N + 1) * s.size : Nat) : Int) = ((N : Int) + 1) * (s.size : Int) := by rw [Int.natCast_mul, Int.natCast_add]; rfl
        omega
      have q0 : (0 : Int) ≤ (i : Int) := Int.natCast_nonneg _
      have q1 : (i : Int) < (n : Int) := by omega
      have q2 : ¬ (N : Int) < 0 := by omega
      have q3 : ¬ (s.len : Int) < (T : Int) := by omega
      have HB := hidden hb
      have HG1 := hidden hg
      have HS := hidden hs
      have HT4 := hidden t4
      have HT2 := hidden t2
      have HBB := hidden hB
      have HAT := hidden hAT
      have HTT := hidden hTT
      have HTL := hidden hTL
      have HA := hidden hA
      clear hb hg hs t1 t2 t3 t4 hB hAT hTT hTL hA hsl hov htk hT hN hL h512
      go_wp2
      go_loopw [9] (fun kv wi => ∃ k : Nat, kv = .int .i64 k ∧ k ≤ s.size ∧ wi.heap[gi]? = some (.cells ((s.ov (A + k)).map U8).toArray 5 (0, 0)) ∧ Kept (fun k => k = gi) wo wi) (fun kv wi => s.size - (intOf kv).toNat)
      case atStart => exact ⟨0, rfl, Nat.zero_le _, HG1.out, Kept.refl _ _⟩
      case round =>
        obtain ⟨k, rfl, hk, hg, hs⟩ := hrel
        by_cases h2 : k < s.size
        · obtain ⟨P, hP⟩ : ∃ P, A + k = P := ⟨_, rfl⟩
          rw [hP] at hg
          have hPL : P < s.len := by have := HAT.out; have := HTL.out; omega
          have hPi : P < s.img.length := by rw [PSt.img_len HK.out]; exact hPL
          have hPl : P < s.last.length := by rw [PSt.last_len HK.out]; exact hPL
          have hg0 : gi ≠ g := by have := HGB.out; have := HBB.out; omega
          have hb2 := blk_kept hs (fun e => hg0 e.symm) HB.out
          have hrow : b ≠ gi := fun e => by
            subst e
            have hT2 := HT.out.past HS.out HGB.out
            have := (hT2.row.lt b rfl).1
            have := HGB.out
            omega
          have z1 : wr.cell? ⟨b, i * 2 + 1, none⟩ = some (.slice (some ⟨g, 0, none⟩) s.size s.size) := Kept.cell hs hrow x2
          have e1 := PSt.ov_at HK.out P hPL
          rw [List.getElem?_eq_getElem hPl] at e1
          have z2 : wr.cell? ⟨gi, P, none⟩ = some (U8 s.last[P]) := by rw [blk_cell hg]; simp [e1]
          have e2 := secB_at (b := s.img) (n := N) h2
          rw [HA.out, hP, List.getElem?_eq_getElem hPi] at e2
          have z3 : wr.cell? ⟨g, k, none⟩ = some (U8 s.img[P]) := by rw [blk_cell hb2]; simp [e2]
          have z4 : wr.frozen? ⟨gi, P, none⟩ = false := blk_free hg
          have hset : ∀ m, ((wr.drewN m).setCell ⟨gi, P, none⟩ (U8 s.img[P])).heap[gi]? = some (.cells ((s.ov (P + 1)).map U8).toArray 5 (0, 0)) := fun m => by
            have h5 := blk_set (w := wr.drewN m) (j := P) hg (U8 s.img[P])
            rw [bytes_set, PSt.ov_set HK.out P hPi] at h5
            exact h5
          have hZ1 : ∀ m, (wr.drewN m).cell? ⟨b, i * 2 + 1, none⟩ = some (.slice (some ⟨g, 0, none⟩) s.size s.size) := fun m => Kept.cell (hs.drewN m) hrow x2
          have hld : s.last[P] ≠ 0 → s.last[P] = s.img[P] := fun hne => by
            obtain ⟨l1, l2⟩ := PSt.last_lead HK.out HTI.out
            rcases Nat.lt_or_ge P s.tend with h | h
            · have := congrArg (fun l => l[P]?) l1
              simp only [List.getElem?_take, if_pos h, List.getElem?_eq_getElem hPi, List.getElem?_eq_getElem hPl, Option.some.injEq] at this
              exact this.symm
            · refine absurd ?_ hne
              have := congrArg (fun l => l[P - s.tend]?) l2
              simp only [List.getElem?_drop, List.getElem?_replicate] at this
              rw [show s.tend + (P - s.tend) = P by omega, if_pos (by omega), List.getElem?_eq_getElem hPl] at this
              simpa using this
          obtain ⟨X, hX⟩ : ∃ X, s.last[P] = X := ⟨_, rfl⟩
          obtain ⟨Y, hY⟩ : ∃ Y, s.img[P] = Y := ⟨_, rfl⟩
          rw [hX] at z2 hld
          rw [hY] at z3 hset hld
          have hPb : P < 262144 := by have := HQ.out.2.2.1; omega
          have w4' : IntKind.i64.wrap ((A : Int) + (k : Int)) = (P : Int) := by rw [← hP, IntKind.wrap_i64]; omega
          have p0 : (0 : Int) ≤ (P : Int) := Int.natCast_nonneg _
          have p1 : (P : Int) < (s.len : Int) := by omega
          have p2 : (0 : Int) ≤ (k : Int) := Int.natCast_nonneg _
          have p3 : (k : Int) < (s.size : Int) := by omega
          have HSET := hidden hset
          have HKI := hidden hs
          have HPP := hidden hP
          have HX2 := hidden hld
          obtain ⟨y, hy⟩ : ∃ y : Int, (Y.toNat : Int) = y := ⟨_, rfl⟩
          have HYY := hidden hy
          have z5 : ∀ m, (wr.drewN m).cell? ⟨g, k, none⟩ = some (.int .u8 y) := fun m => by rw [← hy]; exact z3
          have z6 : ∀ m, (wr.drewN m).frozen? ⟨gi, P, none⟩ = false := fun m => blk_free hg
          have HU : Hid (U8 Y = .int .u8 y) := hidden (by rw [← hy]; rfl)
          have z3' : wr.cell? ⟨g, k, none⟩ = some (.int .u8 y) := by rw [← hy]; exact z3
          have hx0 : X = 0 ∨ X ≠ 0 := by by_cases h : X = 0; exact .inl h; exact .inr h
          rcases hx0 with h0 | h0
          · have z2' : ∀ m, (wr.drewN m).cell? ⟨gi, P, none⟩ = some (.int .u8 0) := fun m => by
              have : wr.cell? ⟨gi, P, none⟩ = some (.int .u8 0) := by rw [z2, h0]; rfl
              exact this
            have z2'' : wr.cell? ⟨gi, P, none⟩ = some (.int .u8 0) := z2' 0
            clear hX hY hld z2 z3 hset hs hP hPL hPi hPl hb2 e1 e2 hg h0 hy
            go_wp2
            go_quiet (fail)
            go_wp2
            go_roundw
            case rel =>
              have h5 := HSET.out nq
              rw [HU.out] at h5
              exact ⟨k + 1, by go_num, by omega, by rw [show A + (k + 1) = P + 1 by rw [← HPP.out]; rfl]; exact h5, (HKI.out.drewN _).setCell (p := ⟨gi, P, none⟩) rfl _⟩
            case measure => simp [intOf]; omega
          · have hxy := hld h0
            have hy0 : y ≠ 0 := by
              rw [← hy]
              intro e
              refine h0 ?_
              rw [hxy, ← UInt8.toNat_inj]
              simpa using e
            have y1 : (y == 0) = false := by rw [beq_eq_false_iff_ne]; exact hy0
            have y2 : (y == y) = true := by simp
            have y3 : ¬ y = 0 := hy0
            have z2' : ∀ m, (wr.drewN m).cell? ⟨gi, P, none⟩ = some (.int .u8 y) := fun m => by
              have : wr.cell? ⟨gi, P, none⟩ = some (.int .u8 y) := by rw [z2, hxy, ← hy]; rfl
              exact this
            have z2'' : wr.cell? ⟨gi, P, none⟩ = some (.int .u8 y) := z2' 0
            clear hX hY hld z2 z3 hset hs hP hPL hPi hPl hb2 e1 e2 hg h0 hy hxy hy0
            go_wp2
            go_quiet (fail)
            go_wp2
            go_roundw
            case rel =>
              have h5 := HSET.out nq
              rw [HU.out] at h5
              exact ⟨k + 1, by go_num, by omega, by rw [show A + (k + 1) = P + 1 by rw [← HPP.out]; rfl]; exact h5, (HKI.out.drewN _).setCell (p := ⟨gi, P, none⟩) rfl _⟩
            case measure => simp [intOf]; omega
        · have he : k = s.size := by omega
          subst he
          have p3 : ¬ (s.size : Int) < (s.size : Int) := by omega
          have e : A + s.size = (N + 1) * s.size := by rw [← HA.out, Nat.add_mul]; omega
          rw [e] at hg
          have hg' := hidden hg
          have hs' := hidden (HS.out.trans hs)
          clear hg hs e
          go_wp2
          go_roundw
          case rel => exact ⟨i + 1, N + 1, by go_num, by omega, HT2.out, HT4.out, hg'.out, hs'.out⟩
          case measure => simp [intOf]; omega
    · have he : i = n := by omega
      subst he
      have q1 : ¬ (i : Int) < (i : Int) := by omega
      have e1 : s.secs c = s.secs s.sectors := by rw [HLS.out, ← htk, List.take_of_length_le (by rw [HN.out]; exact Nat.le_refl _)]
      rw [PSt.secs_ov HK.out hc (Nat.le_refl _) e1, Nat.mul_comm, show s.size * s.sectors = s.len from rfl, PSt.ov_all HK.out] at hg
      have hg' := hidden hg
      have hs' := hidden hs
      clear hg hs e1 htk
      go_wp2
      go_returns
      exact ⟨rfl, hg'.out, hs'.out⟩
end Go.Proofs.YtafdkfieajdeiaaDoor
namespace Go.Proofs.YtafdkfieajdeiaaDoor
open Go.RowKit
set_option linter.unusedVariables false
set_option linter.unusedSimpArgs false
theorem slotOf_here (pre c rest : List UInt8) (h0 : c ≠ []) (hl : c.length < 4294967296) : slotOf (pre ++ slotB c ++ c ++ rest) pre.length = some (pre.length + 8, c.length) := by
  have hp : 1 ≤ c.length := by cases c with | nil => exact absurd rfl h0 | cons _ _ => simp
  have e1 : (pre ++ slotB c ++ c ++ rest).drop pre.length = slotB c ++ c ++ rest := by rw [List.append_assoc, List.append_assoc, List.drop_left, List.append_assoc]
  have e2 : (pre ++ slotB c ++ c ++ rest).drop (pre.length + 8) = c ++ rest := by
    rw [← List.drop_drop, e1, List.append_assoc, List.drop_left' (slotB_len c)]
  have e3 : ((pre ++ slotB c ++ c ++ rest).drop pre.length).take 4 = be 4 c.length := by
    rw [e1]
    unfold slotB
    rw [List.append_assoc, List.append_assoc, List.take_left' (be_length _ _)]
  have e4 : num (((pre ++ slotB c ++ c ++ rest).drop pre.length).take 4) = c.length := by rw [e3, num_be']; exact Nat.mod_eq_of_lt (by simpa using hl)
  have e5 : ((pre ++ slotB c ++ c ++ rest).drop pre.length).take 8 = slotB c := by rw [e1, List.append_assoc, List.take_left' (slotB_len c)]
  have e6 : ((pre ++ slotB c ++ c ++ rest).drop (pre.length + 8)).take c.length = c := by rw [e2, List.take_left]
  have e7 : (pre ++ slotB c ++ c ++ rest).length = pre.length + 8 + c.length + rest.length := by simp [slotB_len]; omega
  unfold slotOf
  rw [e4, e5, e6, e7, if_pos ⟨by omega, hp, by omega, rfl⟩]
theorem slotOf_zeros (pre : List UInt8) (z : Nat) : slotOf (pre ++ List.replicate z 0) pre.length = none := by
  unfold slotOf
  rw [if_neg]
  rintro ⟨h1, h2, _⟩
  have h8 : 8 ≤ z := by simp at h1; omega
  have e : ((pre ++ List.replicate z 0).drop pre.length).take 4 = List.replicate 4 (0 : UInt8) := by
    rw [List.drop_left, List.take_replicate, Nat.min_eq_left (by omega)]
  rw [e] at h2
  have : num (List.replicate 4 (0 : UInt8)) = 0 := by decide
  omega
theorem slotsL_body (z : Nat) : ∀ (cs : List (List UInt8)) (pre : List UInt8) (f : Nat), (∀ c ∈ cs, c ≠ [] ∧ c.length < 4294967296) → cs.length ≤ f → slotsL (pre ++ bodyB cs ++ List.replicate z 0) f pre.length = slotsFrom pre.length cs
  | [], pre, 0, _, _ => rfl
  | [], pre, f + 1, _, _ => by
    have : pre ++ bodyB [] ++ List.replicate z 0 = pre ++ List.replicate z 0 := by simp [bodyB]
    rw [this, slotsL, slotOf_zeros]
    rfl
  | c :: cs, pre, 0, _, h => by simp at h
  | c :: cs, pre, f + 1, hc, h => by
    obtain ⟨h1, h2⟩ := hc c List.mem_cons_self
    have e : pre ++ bodyB (c :: cs) ++ List.replicate z 0 = pre ++ slotB c ++ c ++ (bodyB cs ++ List.replicate z 0) := by simp [bodyB]
    have e2 : pre ++ bodyB (c :: cs) ++ List.replicate z 0 = (pre ++ slotB c ++ c) ++ bodyB cs ++ List.replicate z 0 := by simp [bodyB]
    have hl : (pre ++ slotB c ++ c).length = pre.length + 8 + c.length := by simp [slotB_len]; omega
    have ih := slotsL_body z cs (pre ++ slotB c ++ c) f (fun d hd => hc d (List.mem_cons_of_mem _ hd)) (by simpa using h)
    rw [hl] at ih
    rw [slotsL, e, slotOf_here pre c _ h1 h2]
    simp only
    rw [← e, e2, ih]
    rfl
theorem PSt.chunk_fit {s : PSt} (hk : s.Ok) : ∀ c ∈ s.chunks, c ≠ [] ∧ c.length < 4294967296 := fun c hc => by
  refine ⟨hk.n c hc, ?_⟩
  obtain ⟨i, hi, rfl⟩ := List.getElem_of_mem hc
  obtain ⟨o, _, _, h3, _⟩ := slot_at s.chunks [] i hi
  have h1 := hk.b1
  have h2 := hk.room
  rw [s.bs_len] at h1
  simp at h3
  omega
theorem PSt.img_lead (s : PSt) (hk : s.Ok) : s.img.take (s.len - 16) = s.bs ++ List.replicate (s.len - 16 - s.bs.length) 0 := by
  have h1 := hk.b1
  have h3 := PSt.bare_len hk
  have h2 : s.len = s.size * s.sectors := rfl
  have e : s.bare.take (s.len - 16) = s.bs ++ List.replicate (s.len - 16 - s.bs.length) 0 := by
    unfold PSt.bare
    rw [List.take_append, List.take_of_length_le (by omega), List.take_replicate, Nat.min_eq_left (by omega)]
  unfold PSt.img
  split
  · rw [List.take_append_of_le_length (by rw [List.length_take]; omega), List.take_take, Nat.min_self, e]
  · exact e
theorem PSt.img_slots {s : PSt} (hk : s.Ok) : scL s.img = s.slots := by
  have h1 := hk.b1
  have h2 : s.len = s.size * s.sectors := rfl
  have hb := s.bs_len
  unfold scL
  rw [PSt.img_len hk, s.img_lead hk]
  unfold slotsA PSt.slots PSt.bs
  have := slotsL_body (s.len - 16 - s.bs.length) s.chunks (headB s.id s.sectors) (headB s.id s.sectors ++ bodyB s.chunks ++ List.replicate (s.len - 16 - s.bs.length) 0).length (PSt.chunk_fit hk) (by
    have := body_len s.chunks
    simp only [List.length_append]
    omega)
  rw [headB_len] at this
  exact this
theorem PSt.img_head {s : PSt} (hk : s.Ok) : s.img.take 16 = headB s.id s.sectors ∧ scId s.img = s.id := by
  have h1 : s.img.take 16 = headB s.id s.sectors := by
    rw [PSt.img_take hk 16 (by rw [s.bs_len]; omega)]
    unfold PSt.bs
    rw [List.take_left' (headB_len _ _)]
  refine ⟨h1, ?_⟩
  unfold scId
  have e : (s.img.drop 4).take 4 = ((s.img.take 16).drop 4).take 4 := by rw [List.drop_take, List.take_take]; rfl
  rw [e, h1]
  have e2 : ((headB s.id s.sectors).drop 4).take 4 = be 4 s.id := by
    unfold headB edgeB edge0
    rw [List.append_assoc, List.append_assoc, List.drop_left' (show dpak.length = 4 from rfl), List.take_left' (be_length _ _)]
  rw [e2]
  rw [num_be']
  exact Nat.mod_eq_of_lt (by simpa using hk.i)
theorem PSt.img_foot {s : PSt} (hk : s.Ok) : decide (s.img.drop (s.len - 16) = edgeB dfot s.slots.length (endL s.slots)) = s.shut := by
  have h1 := hk.b1
  have h2 : s.len = s.size * s.sectors := rfl
  have h3 := PSt.bare_len hk
  cases hs : s.shut with
  | true =>
    unfold PSt.img
    rw [if_pos hs, List.drop_left' (by rw [List.length_take]; omega)]
    exact decide_eq_true rfl
  | false =>
    unfold PSt.img
    rw [if_neg (by rw [hs]; decide)]
    rw [decide_eq_false_iff_not]
    intro e
    have e2 : s.bare.drop (s.len - 16) = List.replicate 16 0 := by
      unfold PSt.bare
      rw [List.drop_append, List.drop_of_length_le (by omega), List.nil_append, List.drop_replicate]
      congr 1
      omega
    rw [e2] at e
    have := congrArg (fun l => l[0]?) e
    unfold edgeB edge0 dfot at this
    simp at this
theorem PSt.img_scan {s : PSt} (hk : s.Ok) (hm : PMay s.size s.sectors) : scR s.size s.sectors s.img = (s.id, s.slots, s.shut, 0) := by
  unfold scR
  have hl := PSt.img_len hk
  rw [if_pos ⟨hm, by rw [hl]; unfold PSt.len; simp⟩, (PSt.img_head hk).2, Int.toNat_natCast, if_pos (PSt.img_head hk).1, PSt.img_slots hk, hl, PSt.img_foot hk]
theorem PSt.slot_chunk {s : PSt} (hk : s.Ok) {i : Nat} {c : List UInt8} (h : s.chunks[i]? = some c) : ∃ o : Nat, s.slots[i]? = some (o, c.length) ∧ chunkOf s.img o c.length = some c ∧ s.read o c.length = some c ∧ o + c.length ≤ s.bs.length := by
  obtain ⟨hi, rfl⟩ := List.getElem?_eq_some_iff.1 h
  have hch := PSt.chunk_fit hk _ (List.getElem_mem hi)
  have h1 := hk.b1
  have h2 : s.len = s.size * s.sectors := rfl
  obtain ⟨o, q1, q2, q3, q4⟩ := slot_at s.chunks (headB s.id s.sectors) i hi
  rw [headB_len] at q1 q3 q4
  have hb := s.bs_len
  have he : s.chunks = s.chunks.take i ++ s.chunks[i] :: s.chunks.drop (i + 1) := by rw [← List.drop_eq_getElem_cons hi, List.take_append_drop]
  have hq : s.slots[i]? = some (16 + (bodyB (s.chunks.take i)).length + 8, s.chunks[i].length) := by
    unfold PSt.slots
    conv => lhs; rw [he, slotsFrom_append]
    rw [List.getElem?_append_right (by rw [slotsFrom_len, List.length_take]; omega), slotsFrom_len, List.length_take, Nat.min_eq_left (by omega), Nat.sub_self]
    rfl
  have ho : o = 16 + (bodyB (s.chunks.take i)).length + 8 := by
    have := q1.symm.trans hq
    simpa using this
  refine ⟨o, q1, ?_, ?_, by omega⟩
  · have hbs : s.bs = (headB s.id s.sectors ++ bodyB (s.chunks.take i)) ++ slotB s.chunks[i] ++ s.chunks[i] ++ bodyB (s.chunks.drop (i + 1)) := by
      unfold PSt.bs
      conv => lhs; rw [he, bodyB_append]
      simp [bodyB]
    have himg : s.img = (headB s.id s.sectors ++ bodyB (s.chunks.take i)) ++ slotB s.chunks[i] ++ s.chunks[i] ++ (bodyB (s.chunks.drop (i + 1)) ++ s.img.drop s.bs.length) := by
      rw [← List.append_assoc, ← hbs]
      have := PSt.img_take hk s.bs.length (Nat.le_refl _)
      rw [List.take_length] at this
      conv => lhs; rw [← List.take_append_drop s.bs.length s.img, this]
    have hpl : (headB s.id s.sectors ++ bodyB (s.chunks.take i)).length = o - 8 := by rw [List.length_append, headB_len]; omega
    have hs := slotOf_here (headB s.id s.sectors ++ bodyB (s.chunks.take i)) s.chunks[i] (bodyB (s.chunks.drop (i + 1)) ++ s.img.drop s.bs.length) hch.1 hch.2
    rw [← himg, hpl] at hs
    unfold chunkOf
    rw [show ((o : Int) - 8).toNat = o - 8 by omega, hs, Int.toNat_natCast, Int.toNat_natCast, if_pos ⟨by omega, by rw [show o - 8 + 8 = o by omega], by omega⟩]
    congr 1
    have e1 : (s.img.drop o).take s.chunks[i].length = ((s.img.take s.bs.length).drop o).take s.chunks[i].length := by
      rw [List.drop_take, List.take_take, Nat.min_eq_left (by omega)]
    rw [e1, PSt.img_take hk _ (Nat.le_refl _), List.take_length]
    exact q2
  · rw [PSt.read_at q1 (List.getElem?_eq_getElem hi) rfl, if_pos rfl]
end Go.Proofs.YtafdkfieajdeiaaDoor
namespace Go.Proofs.YtafdkfieajdeiaaDoor
open Go.RowKit
set_option linter.unusedVariables false
set_option linter.unusedSimpArgs false
theorem pS_kept {g : Nat} {s : PSt} {w w' : World} {S : Nat → Prop} (h : PW g s w) (k : Kept S w w') (hs : ¬ S g) (i : Nat) : pS g w' i ↔ pS g w i := by
  obtain ⟨⟨vb, vs, h1, _, _⟩, _, _⟩ := h
  rw [pS_of h1, pS_of (blk_kept k hs h1)]
theorem rows_apart {w : World} {B C : Nat} {e1 e2 : TypeId} {z1 z2 n1 n2 : Nat} {v1 v2 : Value} {x1 x2 : List Value} (h1 : w.ownsRow B e1 z1 v1 n1 x1) (h2 : w.ownsRow C e2 z2 v2 n2 x2) (hne : e1 ≠ e2) {k : Nat} (a : v1.ownBlock = some k) (b : v2.ownBlock = some k) : False := by
  rcases h2.2 with ⟨rfl, _⟩ | ⟨g, cap, cur, rfl, _, hb, _⟩
  · simp [Value.ownBlock] at b
  · simp [Value.ownBlock] at b
    subst b
    exact own_apart h1 hb hne a
structure PA (w : World) (g gi : Nat) (s : PSt) (wv cv : Value) (sl : List (Nat × Nat)) (cl : List (List UInt8)) (us : List Value) (wr : World) : Prop where
  pw : PW g s wr
  ti : s.TI
  img : wr.heap[gi]? = some (.cells (s.last.map U8).toArray 5 (0, 0))
  same : Same w wr
  new : ∀ k, pS g wr k → w.heap.size ≤ k ∧ k ≠ gi
  gi : w.heap.size ≤ gi
  want : wr.ownsRow w.heap.size 34 2 wv sl.length (slotCells sl)
  wantN : ∀ k, wv.ownBlock = some k → ¬ pS g wr k
  ch : wr.ownsRow w.heap.size 32 1 cv cl.length us
  chN : ∀ k, cv.ownBlock = some k → ¬ pS g wr k
  us : ∀ (i : Nat) (c : List UInt8), cl[i]? = some c → ∃ u, us[i]? = some u ∧ Bt w u c
theorem PA.step {w wr wr' : World} {g gi : Nat} {s t : PSt} {wv cv : Value} {sl : List (Nat × Nat)} {cl : List (List UInt8)} {us : List Value} (h : PA w g gi s wv cv sl cl us wr) (k : Kept (fun i => pS g wr i ∨ i = gi) wr wr') (row : ∀ i, i < wr.heap.size → pS g wr' i → pS g wr i) (p : PW g t wr') (ti : t.TI) (hi : wr'.heap[gi]? = some (.cells (t.last.map U8).toArray 5 (0, 0))) : PA w g gi t wv cv sl cl us wr' := by
  have hs := h.same.size
  have hgl := blk_lt h.img
  have hgw := h.gi
  refine ⟨p, ti, hi, h.same.trans' k (fun i hi e => ?_), fun i hp => ?_, h.gi, own_kept h.want k (fun i hw e => ?_), fun i hw hp => h.wantN i hw (row i (h.want.lt i hw).2 hp), own_kept h.ch k (fun i hw e => ?_), fun i hw hp => h.chN i hw (row i (h.ch.lt i hw).2 hp), h.us⟩
  · rcases e with e | e
    · have := (h.new i e).1; omega
    · omega
  · by_cases hl : i < wr.heap.size
    · exact h.new i (row i hl hp)
    · omega
  · rcases e with e | e
    · exact h.wantN i hw e
    · exact own_apart h.want h.img (by decide) (by rw [hw, e])
  · rcases e with e | e
    · exact h.chN i hw e
    · exact own_apart h.ch h.img (by decide) (by rw [hw, e])
theorem PA.same' {w wr wr' : World} {g gi : Nat} {s : PSt} {wv cv : Value} {sl : List (Nat × Nat)} {cl : List (List UInt8)} {us : List Value} (h : PA w g gi s wv cv sl cl us wr) (k : Same wr wr') : PA w g gi s wv cv sl cl us wr' :=
  h.step (k.mono (fun _ _ e => e.elim)) (fun i _ hp => (pS_same h.pw.lt k i).1 hp) (h.pw.same k) h.ti (blk_kept k (fun h => h) h.img)
theorem PA.turn {w wr wr' : World} {g gi : Nat} {s t : PSt} {wv cv : Value} {sl : List (Nat × Nat)} {cl : List (List UInt8)} {us : List Value} (h : PA w g gi s wv cv sl cl us wr) (k : Turns g wr wr') (p : PW g t wr') (ti : t.TI) (hl : t.last = s.last) : PA w g gi t wv cv sl cl us wr' :=
  h.step (k.kept.mono (fun _ _ e => Or.inl e)) k.row p ti (by rw [hl]; exact blk_kept k.kept (fun e => (h.new gi e).2 rfl) h.img)
/-- Take, and what it told laid over the image. -/
theorem PA.took {w wr w1 w2 : World} {g gi : Nat} {s : PSt} {wv cv : Value} {sl : List (Nat × Nat)} {cl : List (List UInt8)} {us : List Value} (h : PA w g gi s wv cv sl cl us wr) (k : Turns g wr w1) (p : PW g s.took w1) (k2 : Kept (fun i => i = gi) w1 w2) (hi : w2.heap[gi]? = some (.cells (s.img.map U8).toArray 5 (0, 0))) : PA w g gi s.took wv cv sl cl us w2 := by
  have hgl := blk_lt h.img
  have hn : ∀ i, pS g w1 i → i ≠ gi := fun i hp e => by
    subst e
    exact (h.new i (k.row i hgl hp)).2 rfl
  have hgg : g ≠ gi := hn g (Or.inl rfl)
  refine h.step ?_ (fun i hl hp => k.row i hl ((pS_kept p k2 hgg i).1 hp)) (p.kept k2 hn) (PSt.took_ti h.pw.ok) (by rw [PSt.took_last h.pw.ok]; exact hi)
  exact (k.kept.mono (fun _ _ e => Or.inl e)).trans' k2 (fun i _ e => Or.inr e)
theorem PA.pushW {w wr wr' : World} {g gi : Nat} {s : PSt} {wv v' cv : Value} {sl : List (Nat × Nat)} {cl : List (List UInt8)} {us : List Value} (h : PA w g gi s wv cv sl cl us wr) (x : Nat × Nat) (ho : wr'.ownsRow w.heap.size 34 2 v' (sl.length + 1) (slotCells sl ++ [.int .i64 (x.1 : Nat), .int .i64 (x.2 : Nat)])) (hg : wr.grownBy wr' wv.ownBlock) (hat : ∀ q, v'.ownBlock = some q → wv.ownBlock = some q ∨ q = wr.heap.size) : PA w g gi s v' cv (sl ++ [x]) cl us wr' := by
  have k : Kept (fun i => wv.ownBlock = some i) wr wr' := (Kept.refl (fun i => wv.ownBlock = some i) wr).grown hg (fun k hk _ => hk)
  have hp := fun i => pS_kept h.pw k (fun e => h.wantN g e (Or.inl rfl)) i
  refine ⟨h.pw.kept k (fun i hi e => h.wantN i e hi), h.ti, blk_kept k (fun e => own_apart h.want h.img (by decide) e) h.img, h.same.grown hg (fun q hq hl => by have := (h.want.lt q hq).1; omega), fun i hi => h.new i ((hp i).1 hi), h.gi, ?_, fun q hq hpq => ?_, own_kept h.ch k (fun i hw e => rows_apart h.ch h.want (by decide) hw e), fun q hq hpq => h.chN q hq ((hp q).1 hpq), h.us⟩
  · rw [List.length_append, slotCells_append]
    exact ho
  · rcases hat q hq with e | e
    · exact h.wantN q e ((hp q).1 hpq)
    · have := h.pw.below ((hp q).1 hpq)
      omega
theorem PA.pushC {w wr wr' : World} {g gi : Nat} {s : PSt} {wv v' cv u : Value} {sl : List (Nat × Nat)} {cl : List (List UInt8)} {us : List Value} (h : PA w g gi s wv cv sl cl us wr) (c : List UInt8) (ho : wr'.ownsRow w.heap.size 32 1 v' (cl.length + 1) (us ++ [u])) (hg : wr.grownBy wr' cv.ownBlock) (hat : ∀ q, v'.ownBlock = some q → cv.ownBlock = some q ∨ q = wr.heap.size) (hu : Bt w u c) : PA w g gi s wv v' sl (cl ++ [c]) (us ++ [u]) wr' := by
  have k : Kept (fun i => cv.ownBlock = some i) wr wr' := (Kept.refl (fun i => cv.ownBlock = some i) wr).grown hg (fun k hk _ => hk)
  have hp := fun i => pS_kept h.pw k (fun e => h.chN g e (Or.inl rfl)) i
  have hul : us.length = cl.length := by have := h.ch.1; simpa using this
  refine ⟨h.pw.kept k (fun i hi e => h.chN i e hi), h.ti, blk_kept k (fun e => own_apart h.ch h.img (by decide) e) h.img, h.same.grown hg (fun q hq hl => by have := (h.ch.lt q hq).1; omega), fun i hi => h.new i ((hp i).1 hi), h.gi, own_kept h.want k (fun i hw e => rows_apart h.want h.ch (by decide) hw e), fun q hq hpq => h.wantN q hq ((hp q).1 hpq), ?_, fun q hq hpq => ?_, fun i d hd => ?_⟩
  · rw [List.length_append]
    exact ho
  · rcases hat q hq with e | e
    · exact h.chN q e ((hp q).1 hpq)
    · have := h.pw.below ((hp q).1 hpq)
      omega
  · rw [List.getElem?_append] at hd
    split at hd
    next hl =>
      obtain ⟨t, e1, e2⟩ := h.us i d hd
      exact ⟨t, by rw [List.getElem?_append_left (by omega)]; exact e1, e2⟩
    next hl =>
      have hh := (List.getElem?_eq_some_iff.1 hd)
      obtain ⟨h1, h2⟩ := hh
      have h3 : i - cl.length = 0 := by simp at h1; omega
      simp [h3] at h2
      subst h2
      exact ⟨u, by rw [List.getElem?_append_right (by omega), hul, h3]; rfl, hu⟩
theorem PSt.app_chunks {s : PSt} {c : List UInt8} (h : s.appErr c.length = 0) : (s.app c).chunks = s.chunks ++ [c] ∧ (s.app c).slots = s.slots ++ [(s.bs.length + 8, c.length)] ∧ (s.app c).shut = s.shut := by
  obtain ⟨e, hs⟩ := PSt.app_is h
  rw [e]
  refine ⟨rfl, ?_, rfl⟩
  unfold PSt.slots
  show slotsFrom 16 (s.chunks ++ [c]) = _
  rw [slotsFrom_append, s.bs_len]
  rfl
end Go.Proofs.YtafdkfieajdeiaaDoor
namespace Go.Proofs.YtafdkfieajdeiaaDoor
open Go.RowKit
set_option linter.unusedVariables false
set_option linter.unusedSimpArgs false
theorem infoBy : (Tryd.prog.info? 32).map (fun i => (i.zero, i.size, i.bytes)) = some (some (.slice none 0 0), 1, 24) := by kernel_rfl
theorem slot_lies (w : World) (x y : Value) (k : Nat) (hk : k = w.heap.size) : Lies (w.alloc (.cells #[x, y] 34)) (some ⟨k, 0, none⟩) 1 [x, y] := fun _ => ⟨_, rfl, fun j u hj => by
  subst hk
  match j, hj with
  | 0, hj => cases hj; exact blk_cell (j := 0) (blk_new w _)
  | 1, hj => cases hj; exact blk_cell (j := 1) (blk_new w _)⟩
theorem by_lies (w : World) (x : Value) : Lies (w.alloc (.cells #[x] 32)) (some ⟨w.heap.size, 0, none⟩) 1 [x] := fun _ => ⟨_, rfl, fun j u hj => by
  match j, hj with
  | 0, hj => cases hj; exact blk_cell (j := 0) (blk_new w _)⟩
theorem seal_is (s : PSt) : (if s.shut then s else s.seal) = s.seal := by
  cases h : s.shut
  · rfl
  · obtain ⟨a, b, c, d, e, f, k, l⟩ := s
    simp only at h
    subst h
    rfl
set_option maxHeartbeats 1000000 in
set_option maxRecDepth 100000 in
theorem p_back1 (size count : Int) (id : Nat) (v : Value) (w : World) (hm : ¬ PMay size count) (hT : Tab w) :
    Calls Tryd.prog 6 #[.int .i64 size, .int .i64 count, .int .u32 id, v] w fun e w' => e = .returned (.bool true) ∧ Same w w' := by
  have HL := hidden (p_lives w hT)
  have HN := hidden (fun W => p_newNo size count id W hm)
  clear hm hT
  go_enter Tryd.func6, Tryd.ntmps6
  go_wp2_with (first
    | (go_at_call 9; refine (HL.out).mono ?_; rintro e w1 ⟨rfl, k1⟩)
    | (go_at_call 10; refine (HN.out _).mono ?_; rintro e w2 ⟨rfl, rfl⟩))
  go_returns
  exact ⟨rfl, k1⟩
set_option maxHeartbeats 8000000 in
set_option maxRecDepth 100000 in
theorem p_back2 (S C : Nat) (id : Nat) (v : Value) (n : Nat) (f : Nat → POp) (w : World) (hm : PMay S C) (hid : id < 4294967296) (hin : POps w v n f) (hn : n * 56 ≤ 140737488351232) (hT : Tab w) :
    Calls Tryd.prog 6 #[.int .i64 S, .int .i64 C, .int .u32 id, v] w fun e w' => e = .returned (.bool true) ∧ Same w w' := by
  obtain ⟨i0, hi, hz0, hz1, hz2⟩ := info_parts infoSlot
  obtain ⟨i1, hj, hy0, hy1, hy2⟩ := info_parts infoBy
  obtain ⟨va, vc, rfl, hin⟩ := hin
  have HIN := hidden hin
  have HT := hidden hT
  have HL := hidden (p_lives w hT)
  have HN := hidden (fun W (k : Same w W) => p_new S C id W (hT.same k) hm hid)
  have hS : S ≤ 4096 := by have := hm.1.2.1; omega
  have hC : C ≤ 64 := by have := hm.2.2; omega
  have hLb : S * C ≤ 262144 := Nat.mul_le_mul hS hC
  obtain ⟨L, hL⟩ : ∃ L, S * C = L := ⟨_, rfl⟩
  rw [hL] at hLb
  have hwL : IntKind.i64.wrap ((S : Int) * (C : Int)) = (L : Int) := by rw [← hL, IntKind.wrap_i64]; have : ((S * C : Nat) : Int) = (S : Int) * (C : Int) := Int.natCast_mul _ _; omega
  have hmk := make_bytes L (by omega)
  have HLL := hidden hL
  have HM := hidden hm
  have HQ := hidden (show S ≤ 4096 ∧ C ≤ 64 ∧ L ≤ 262144 ∧ n ≤ 140737488351232 from ⟨hS, hC, hLb, by omega⟩)
  have hL0 : (0 : Int) ≤ (L : Int) := Int.natCast_nonneg _
  clear hin hT hm hid hn hS hC hL hLb
  go_enter Tryd.func6, Tryd.ntmps6
  go_wp2_with (first
    | (go_at_call 9; refine (HL.out).mono ?_; rintro e w1 ⟨rfl, k1⟩)
    | (go_at_call 10; refine (HN.out _ k1).mono ?_; rintro e w2 ⟨g, rfl, hp, k2, hnew⟩))
  have PA0 : PA w g w2.heap.size (PSt.new S C id) (.slice none 0 0) (.slice none 0 0) [] [] [] (w2.alloc (.cells (List.replicate L (U8 0)).toArray 5)) := by
    have ks : Same w w2 := k1.trans k2
    have ka := same_alloc w2 (.cells (List.replicate L (U8 0)).toArray 5)
    refine ⟨hp.same ka, PSt.new_ti _ _ _, ?_, ks.alloc _, fun k hk => ?_, ks.size, World.ownsRow_nil _ _ _ _, fun k hk => by simp [Value.ownBlock] at hk, World.ownsRow_nil _ _ _ _, fun k hk => by simp [Value.ownBlock] at hk, fun i c hc => by simp at hc⟩
    · rw [PSt.new_last, HLL.out, List.map_replicate]
      exact blk_new _ _
    · have h5 := (pS_same hp.lt ka k).1 hk
      exact ⟨Nat.le_trans k1.size (hnew k h5), fun e => by have := hp.below h5; omega⟩
  have HP0 := hidden PA0
  simp only [List.toArray_replicate] at HP0
  clear PA0 hp hnew
  go_loopw [12, 13, 14, 15] (fun wv cv sv iv wr => ∃ (i : Nat) (s : PSt) (us : List Value), iv = .int .i64 i ∧ i ≤ n ∧ sv = .bool s.shut ∧ s.size = S ∧ s.sectors = C ∧ s.id = id ∧ PA w g w2.heap.size s wv cv s.slots s.chunks us wr) (fun _ _ _ iv wr => n - (intOf iv).toNat)
  case atStart => exact ⟨0, PSt.new S C id, [], rfl, Nat.zero_le _, rfl, rfl, rfl, rfl, HP0.out⟩
  case round =>
    obtain ⟨i, s, us, rfl, hi', rfl, hsS, hsC, hsI, hA⟩ := hrel
    obtain ⟨wa, wc, rfl⟩ := own_form hA.want
    obtain ⟨ca, cc, rfl⟩ := own_form hA.ch
    have HA := hidden hA
    have hlen : s.len = L := by unfold PSt.len; rw [hsS, hsC]; exact HLL.out
    have HLE := hidden hlen
    have HE := hidden (show s.size = S ∧ s.sectors = C ∧ s.id = id from ⟨hsS, hsC, hsI⟩)
    clear hA hsS hsC hsI hlen
    by_cases h1 : i < n
    · obtain ⟨b, off, rfl, hops⟩ := HIN.out (by omega)
      have HO : Hid (∀ W, Same w W → W.cell? ⟨b, off + i * 5, none⟩ = some (.int .i64 (f i).kind) ∧ W.cell? ⟨b, off + i * 5 + 2, none⟩ = some (f i).bv) := hidden (fun W k => ⟨Kept.cell k (fun h => h) (hops i h1).2.1, Kept.cell k (fun h => h) (hops i h1).2.2.2.1⟩)
      have HOK := hidden (hops i h1).1
      have c0 := (HO.out _ HA.out.same).1
      have c2 := (HO.out _ HA.out.same).2
      obtain ⟨p, hp⟩ : ∃ p, f i = p := ⟨_, rfl⟩
      rw [hp] at HO HOK c0 c2
      clear hp hops
      obtain ⟨kd, hkd⟩ : ∃ kd, p.kind = kd := ⟨_, rfl⟩
      rw [hkd] at HO c0
      clear hkd
      have q0 : (0 : Int) ≤ (i : Int) := Int.natCast_nonneg _
      have q1 : (i : Int) < (n : Int) := by omega
      have hnb := HQ.out.2.2.2
      by_cases e1 : kd = 1
      · subst e1
        by_cases he : s.appErr p.bs.length = 0
        · obtain ⟨z1, z2, z3⟩ := PSt.app_chunks he
          have hpos : 0 < p.bs.length := by
            rcases Nat.eq_zero_or_pos p.bs.length with h | h
            · rw [h] at he
              unfold PSt.appErr at he
              split at he <;> simp at he
            · exact h
          have hbt := HOK.out.bytes.same HA.out.same
          have hap := p_appendYes HA.out.pw (HT.out.same HA.out.same) p.bv p.bs hbt (fun k hk hps => by
            have h5 := HOK.out.blk k hpos hk
            have h6 := (HA.out.new k hps).1
            omega) he
          have hto := PSt.app_ti HA.out.pw.ok HA.out.ti p.bs
          have hlo := PSt.app_last HA.out.pw.ok p.bs
          obtain ⟨ba, bc, hbv, _⟩ := HOK.out.bytes.form
          obtain ⟨O, hO⟩ : ∃ O, s.bs.length + 8 = O := ⟨_, rfl⟩
          obtain ⟨M, hM⟩ : ∃ M, p.bs.length = M := ⟨_, rfl⟩
          rw [hO, hM] at hap
          rw [hO, hM] at z2
          rw [hM] at hbv
          have HBU : Hid (Bt w p.bv p.bs) := hidden HOK.out.bytes
          rw [hbv] at hap c2 HO HBU
          have HAP := hidden hap
          have HZ := hidden (show (s.app p.bs).slots = s.slots ++ [(O, M)] ∧ (s.app p.bs).chunks = s.chunks ++ [p.bs] ∧ (s.app p.bs).shut = s.shut ∧ (s.app p.bs).TI ∧ (s.app p.bs).last = s.last ∧ (s.app p.bs).size = s.size ∧ (s.app p.bs).sectors = s.sectors ∧ (s.app p.bs).id = s.id from ⟨z2, z1, z3, hto, hlo, by rw [(PSt.app_is he).1], by rw [(PSt.app_is he).1], by rw [(PSt.app_is he).1]⟩)
          have hmany : s.slots.length ≤ 32768 := by rw [PSt.slots, slotsFrom_len]; exact HA.out.pw.ok.many
          have hmany2 : s.chunks.length ≤ 32768 := HA.out.pw.ok.many
          have m1 : Hid (s.slots.length + 1 ≤ maxLen) := hidden (by unfold maxLen; omega)
          have m2 : Hid ((s.slots.length + 1) * 16 ≤ 140737488355328) := hidden (by omega)
          have m3 : Hid (s.chunks.length + 1 ≤ maxLen) := hidden (by unfold maxLen; omega)
          have m4 : Hid ((s.chunks.length + 1) * 24 ≤ 140737488355328) := hidden (by omega)
          clear hap hbt hto hlo z1 z2 z3 hO hM hbv hmany hmany2 he hpos
          go_wp2_with (first
            | (go_at_call 13; refine (HAP.out).mono ?_; rintro e w3 ⟨rfl, hp3, t3⟩; have A3 := hidden (HA.out.turn t3 hp3 HZ.out.2.2.2.1 HZ.out.2.2.2.2.1); have x0 : ∀ q, ((w3.alloc (.cells #[.int .i64 O, .int .i64 M] 34)).alloc q).cell? ⟨w3.heap.size, 0, none⟩ = some (.int .i64 O) := fun q => blk_cell (blk_alloc (blk_new w3 _) q); have x1 : ∀ q, ((w3.alloc (.cells #[.int .i64 O, .int .i64 M] 34)).alloc q).cell? ⟨w3.heap.size, 1, none⟩ = some (.int .i64 M) := fun q => blk_cell (blk_alloc (blk_new w3 _) q); clear hp3 t3)
            | (at_builtin; refine wpList_append_where (P := Tryd.prog) rfl _ _ 47 rfl w.heap.size 34 i0 _ 2 16 Tryd.underlying47 hi hz0 hz1 hz2 rfl (by decide) wa s.slots.length wc _ rfl (((A3.out.same' (same_alloc _ _)).same' (same_alloc _ _)).want) (some ⟨_, 0, none⟩) 1 1 [.int .i64 (O : Nat), .int .i64 (M : Nat)] rfl rfl (slot_lies _ _ _ _ (by simp)) (fun u hu => by simp at hu; rcases hu with rfl | rfl <;> rfl) m1.out m2.out (((A3.out.same' (same_alloc _ _)).same' (same_alloc _ _)).same.size) ?_; intro a1 cap1 w5 hown hgrow hat; have A5 := hidden (((A3.out.same' (same_alloc _ _)).same' (same_alloc _ _)).pushW (O, M) hown hgrow hat); have d2 : w5.cell? ⟨b, off + i * 5 + 2, none⟩ = some (.slice ba M bc) := (HO.out _ A5.out.same).2; clear hown hgrow hat x0 x1)
            | (at_builtin; refine wpList_append_where (P := Tryd.prog) rfl _ _ 57 rfl w.heap.size 32 i1 _ 1 24 Tryd.underlying57 hj hy0 hy1 hy2 rfl (by decide) ca s.chunks.length cc _ rfl ((A5.out.same' (same_alloc _ _)).ch) (some ⟨_, 0, none⟩) 1 1 [.slice ba M bc] rfl rfl (by_lies _ _) (fun u hu => by simp at hu; subst hu; rfl) m3.out m4.out ((A5.out.same' (same_alloc _ _)).same.size) ?_; intro a2 cap2 w6 hown hgrow hat; have A6 := hidden ((A5.out.same' (same_alloc _ _)).pushC p.bs hown hgrow hat HBU.out); clear hown hgrow hat))
          go_roundw
          case rel =>
            refine ⟨i + 1, s.app p.bs, us ++ [.slice ba M bc], by go_num, by omega, by rw [HZ.out.2.2.1], by rw [HZ.out.2.2.2.2.2.1]; exact HE.out.1, by rw [HZ.out.2.2.2.2.2.2.1]; exact HE.out.2.1, by rw [HZ.out.2.2.2.2.2.2.2]; exact HE.out.2.2, ?_⟩
            rw [HZ.out.1, HZ.out.2.1]
            exact A6.out
          case measure => simp [intOf]; omega
        · have hbt := HOK.out.bytes.same HA.out.same
          have hno := p_appNo HA.out.pw p.bv p.bs hbt HOK.out.len he
          obtain ⟨E, hE⟩ : ∃ E, s.appErr p.bs.length = E := ⟨_, rfl⟩
          rw [hE] at hno he
          have b0 : (E == 0) = false := by rw [beq_eq_false_iff_ne]; exact he
          have HNO := hidden hno
          clear hno hbt hE
          go_wp2_with (go_at_call 13; refine (HNO.out).mono ?_; rintro e w3 ⟨rfl, k3⟩; have A3 := hidden ((HA.out.same' k3).same' (same_alloc _ (.cells #[.int .i64 0, .int .i64 0] 34))); clear k3)
          go_roundw
          case rel => exact ⟨i + 1, s, us, by go_num, by omega, rfl, HE.out.1, HE.out.2.1, HE.out.2.2, A3.out⟩
          case measure => simp [intOf]; omega
      · by_cases e3 : kd = 3
        · subst e3
          have htk := p_take HA.out.pw (HT.out.same HA.out.same) HA.out.ti
          have HTK := hidden htk
          have HLD : Hid (∀ (v : Value) (us : List Value) (B : Nat) (W : World), TSecs W v (s.secs s.sectors) B us → W.heap[w2.heap.size]? = some (.cells (s.last.map U8).toArray 5 (0, 0)) → w2.heap.size < B → Calls Tryd.prog 29 #[.slice (some ⟨w2.heap.size, 0, none⟩) L L, .int .i64 S, v] W fun e w' => e = .returned (.bool true) ∧ w'.heap[w2.heap.size]? = some (.cells (s.img.map U8).toArray 5 (0, 0)) ∧ Kept (fun k => k = w2.heap.size) W w') := hidden (fun v us B W h1 h2 h3 => by
            have h5 := laid_any HA.out.pw.ok HA.out.ti w2.heap.size B v us W h1 h2 h3
            rw [HLE.out, HE.out.1] at h5
            exact h5)
          clear htk
          go_wp2_with (first
            | (go_at_call 14; refine (HTK.out).mono ?_; rintro e w3 ⟨tv, tu, rfl, hts, hp3, t3⟩; obtain ⟨ta, tc, rfl⟩ := own_form hts.row; have TS := hidden hts; have P3 := hidden hp3; have T3 := hidden t3; clear hts hp3 t3)
            | (go_at_call 29; refine (HLD.out _ _ _ _ TS.out (blk_kept T3.out.kept (fun e => (HA.out.new _ e).2 rfl) HA.out.img) (blk_lt HA.out.img)).mono ?_; rintro e w4 ⟨rfl, hi4, k4⟩; have A4 := hidden (HA.out.took T3.out P3.out k4 hi4); clear hi4 k4))
          go_roundw
          case rel => exact ⟨i + 1, s.took, us, by go_num, by omega, rfl, HE.out.1, HE.out.2.1, HE.out.2.2, A4.out⟩
          case measure => simp [intOf]; omega
        · by_cases e7 : kd = 7
          · subst e7
            have hse := p_seal HA.out.pw
            rw [seal_is] at hse
            have HSE := hidden hse
            clear hse
            go_wp2_with (go_at_call 15; refine (HSE.out).mono ?_; rintro e w3 ⟨rfl, hp3, t3⟩; have A3 := hidden (HA.out.turn t3 hp3 (PSt.seal_ti HA.out.ti) rfl); clear hp3 t3)
            go_roundw
            case rel => exact ⟨i + 1, s.seal, us, by go_num, by omega, rfl, HE.out.1, HE.out.2.1, HE.out.2.2, A3.out⟩
            case measure => simp [intOf]; omega
          · have b1 : (kd == 1) = false := by rw [beq_eq_false_iff_ne]; exact e1
            have b3 : (kd == 3) = false := by rw [beq_eq_false_iff_ne]; exact e3
            have b7 : (kd == 7) = false := by rw [beq_eq_false_iff_ne]; exact e7
            go_wp2
            go_roundw
            case rel => exact ⟨i + 1, s, us, by go_num, by omega, rfl, HE.out.1, HE.out.2.1, HE.out.2.2, HA.out⟩
            case measure => simp [intOf]; omega
    · have he : i = n := by omega
      subst he
      have htk := p_take HA.out.pw (HT.out.same HA.out.same) HA.out.ti
      have HTK := hidden htk
      have HLD : Hid (∀ (v : Value) (us : List Value) (B : Nat) (W : World), TSecs W v (s.secs s.sectors) B us → W.heap[w2.heap.size]? = some (.cells (s.last.map U8).toArray 5 (0, 0)) → w2.heap.size < B → Calls Tryd.prog 29 #[.slice (some ⟨w2.heap.size, 0, none⟩) L L, .int .i64 S, v] W fun e w' => e = .returned (.bool true) ∧ w'.heap[w2.heap.size]? = some (.cells (s.img.map U8).toArray 5 (0, 0)) ∧ Kept (fun k => k = w2.heap.size) W w') := hidden (fun v us B W h1 h2 h3 => by
        have h5 := laid_any HA.out.pw.ok HA.out.ti w2.heap.size B v us W h1 h2 h3
        rw [HLE.out, HE.out.1] at h5
        exact h5)
      have hil := PSt.img_len HA.out.pw.ok
      rw [HLE.out] at hil
      have HIL := hidden hil
      have hLb := HQ.out.2.2.1
      have htl := PSt.took_last HA.out.pw.ok
      have HBT : Hid (∀ W, W.heap[w2.heap.size]? = some (.cells (s.took.last.map U8).toArray 5 (0, 0)) → Bt W (.slice (some ⟨w2.heap.size, 0, none⟩) L L) s.img) := hidden (fun W h => bt_row (by rw [← htl]; exact h) hil)
      have HIMG : Hid (∀ W, PW g s.took W → Tab W → Calls Tryd.prog 18 #[.pointer (some ⟨g, 0, none⟩)] W fun e w' => e = .returned (.slice (some ⟨W.heap.size, 0, none⟩) L L) ∧ Bt w' (.slice (some ⟨W.heap.size, 0, none⟩) L L) s.img ∧ Same W w') := hidden (fun W hp ht => by
        have h5 := p_image hp ht
        rw [show s.took.len = L from HLE.out] at h5
        exact h5.mono fun e w' ⟨a1, a2, a3⟩ => ⟨a1, bt_row a2 hil, a3⟩)
      have hsc := PSt.img_scan HA.out.pw.ok (by rw [HE.out.1, HE.out.2.1]; exact HM.out)
      rw [HE.out.1, HE.out.2.1, HE.out.2.2] at hsc
      have HSC : Hid (∀ W x, Bt W x s.img → Tab W → Calls Tryd.prog 25 #[.int .i64 S, .int .i64 C, x] W fun e w' => ∃ a c, e = .returned (.tuple #[.int .u32 id, .slice a s.slots.length c, .bool s.shut, .int .i64 0]) ∧ SlM w' (.slice a s.slots.length c) s.slots ∧ Same W w') := hidden (fun W x hb ht => (scan_any S C s.img x W hb ht).mono fun e w' ⟨u, h1, h2⟩ => by
        obtain ⟨y, rfl, h3, h4⟩ := h2.out
        rw [hsc] at h1 h3
        obtain ⟨a, c, rfl, _⟩ := h3.form
        exact ⟨a, c, h1, h3, h4⟩)
      have hmany : s.slots.length ≤ 32768 := by rw [PSt.slots, slotsFrom_len]; exact HA.out.pw.ok.many
      have HSS : Hid (∀ W x y, SlM W x s.slots → SlM W y s.slots → Calls Tryd.prog 20 #[x, y] W fun e w' => e = .returned (.bool true) ∧ Same W w') := hidden (fun W x y h1 h2 => sameSlots_any x y s.slots W h1 h2 (by omega))
      have HSL : Hid (∀ W, PW g s.took W → Calls Tryd.prog 21 #[.pointer (some ⟨g, 0, none⟩)] W fun e w' => ∃ a c, e = .returned (.slice a s.slots.length c) ∧ SlM w' (.slice a s.slots.length c) s.slots ∧ Same W w') := hidden (fun W hp => (p_slots hp).mono fun e w' ⟨u, h1, h2, h3⟩ => by
        obtain ⟨a, c, rfl, _⟩ := SlM.form h2
        exact ⟨a, c, h1, h2, h3⟩)
      have HSB : Hid (∀ W x y (l : List UInt8), l.length ≤ 262144 → Bt W x l → Bt W y l → Calls Tryd.prog 17 #[x, y] W fun e w' => e = .returned (.bool true) ∧ Same W w') := hidden (fun W x y l hl h1 h2 => by
        have h5 := sameB_any x y l l W h1 h2 (by omega) (by omega)
        rw [decide_eq_true rfl] at h5
        exact h5)
      have HSW : Hid (∀ W, PA w g w2.heap.size s.took (.slice wa s.slots.length wc) (.slice ca s.chunks.length cc) s.slots s.chunks us W → SlM W (.slice wa s.slots.length wc) s.slots) := hidden (fun W h => SlM.own h.want)
      have q4 : ((id : Int) == (id : Int)) = true := by simp
      have q3 : (s.shut == s.shut) = true := by simp
      have q1 : ¬ (i : Int) < (i : Int) := by omega
      have HIB := hidden (show s.img.length ≤ 262144 by omega)
      have t1 : True := trivial
      clear htk hil hLb htl hsc hmany
      go_wp2_with (first
        | (go_at_call 14; refine (HTK.out).mono ?_; rintro e w3 ⟨tv, tu, rfl, hts, hp3, t3⟩; obtain ⟨ta, tc, rfl⟩ := own_form hts.row; have TS := hidden hts; have P3 := hidden hp3; have T3 := hidden t3; clear hts hp3 t3)
        | (go_at_call 29; refine (HLD.out _ _ _ _ TS.out (blk_kept T3.out.kept (fun e => (HA.out.new _ e).2 rfl) HA.out.img) (blk_lt HA.out.img)).mono ?_; rintro e w4 ⟨rfl, hi4, k4⟩; have A4 := hidden (HA.out.took T3.out P3.out k4 hi4); clear hi4 k4)
        | (go_at_call 18; refine (HIMG.out _ A4.out.pw (HT.out.same A4.out.same)).mono ?_; rintro e w5 ⟨rfl, hb5, k5⟩; have A5 := hidden (A4.out.same' k5); have B5 := hidden hb5; clear hb5 k5)
        | (go_at_call 17; refine (HSB.out _ _ _ _ HIB.out (HBT.out _ A5.out.img) B5.out).mono ?_; rintro e w6 ⟨rfl, k6⟩; have A6 := hidden (A5.out.same' k6); clear k6)
        | (go_at_call 25; refine (HSC.out _ _ (HBT.out _ A6.out.img) (HT.out.same A6.out.same)).mono ?_; rintro e w7 ⟨xa, xc, rfl, hx7, k7⟩; have A7 := hidden (A6.out.same' k7); have X7 := hidden hx7; clear hx7 k7)
        | (go_at_call 20; have _t := t1; clear t1; refine (HSS.out _ _ _ X7.out (HSW.out _ A7.out)).mono ?_; rintro e w8 ⟨rfl, k8⟩; have A8 := hidden (A7.out.same' k8); have t2 : True := trivial; clear k8)
        | (go_at_call 21; refine (HSL.out _ A8.out.pw).mono ?_; rintro e w9 ⟨ya, yc, rfl, hy9, k9⟩; have A9 := hidden (A8.out.same' k9); have Y9 := hidden hy9; clear hy9 k9)
        | (go_at_call 20; have _t := t2; clear t2; refine (HSS.out _ _ _ Y9.out (HSW.out _ A9.out)).mono ?_; rintro e w10 ⟨rfl, k10⟩; have A10 := hidden (A9.out.same' k10); clear k10))
      go_loopw [21] (fun jv wr => ∃ j : Nat, jv = .int .i64 j ∧ j ≤ s.slots.length ∧ PA w g w2.heap.size s.took (.slice wa s.slots.length wc) (.slice ca s.chunks.length cc) s.slots s.chunks us wr) (fun jv wr => s.slots.length - (intOf jv).toNat)
      case atStart => exact ⟨0, rfl, Nat.zero_le _, A10.out⟩
      case round =>
        obtain ⟨j, rfl, hj', hA⟩ := hrel
        have HB := hidden hA
        have hsl : s.slots.length = s.chunks.length := slotsFrom_len _ _
        have hmn : s.slots.length ≤ 32768 := by rw [hsl]; exact hA.pw.ok.many
        by_cases h2 : j < s.slots.length
        · have hjc : j < s.chunks.length := by omega
          obtain ⟨o, p1, p2, p3, p4⟩ := PSt.slot_chunk (s := s.took) hA.pw.ok (List.getElem?_eq_getElem hjc)
          obtain ⟨c, hc⟩ : ∃ c, s.chunks[j] = c := ⟨_, rfl⟩
          have p1' : s.slots[j]? = some (o, c.length) := by rw [← hc]; exact p1
          have p2' : chunkOf s.img o c.length = some c := by rw [← hc]; exact p2
          have p3' : s.took.read o c.length = some c := by rw [← hc]; exact p3
          have hcl : o + c.length ≤ 262144 := by
            have h5 : s.took.bs.length + 16 ≤ s.took.size * s.took.sectors := hA.pw.ok.b1
            have h6 := hA.pw.ok.room
            rw [← hc]
            have h7 : o + (s.took.chunks[j]'hjc).length ≤ s.took.bs.length := p4
            have h8 : (s.took.chunks[j]'hjc) = s.chunks[j] := rfl
            rw [h8] at h7
            omega
          obtain ⟨u, hu1, hu2⟩ := hA.us j c (by rw [List.getElem?_eq_getElem hjc, hc])
          obtain ⟨M, hM⟩ : ∃ M, c.length = M := ⟨_, rfl⟩
          obtain ⟨wb, rfl⟩ : ∃ wb, wa = some ⟨wb, 0, none⟩ := by
            rcases hA.want.2 with ⟨_, h0⟩ | ⟨wb, cap, cur, e, _⟩
            · omega
            · cases e
              exact ⟨_, rfl⟩
          obtain ⟨cb, rfl⟩ : ∃ cb, ca = some ⟨cb, 0, none⟩ := by
            rcases hA.ch.2 with ⟨_, h0⟩ | ⟨cb, cap, cur, e, _⟩
            · omega
            · cases e
              exact ⟨_, rfl⟩
          have hsc := slot_cell h2
          rw [show s.slots[j] = (o, c.length) from Option.some.inj ((List.getElem?_eq_getElem h2).symm.trans p1'), hM] at hsc
          have HW : Hid (∀ W, PA w g w2.heap.size s.took (.slice (some ⟨wb, 0, none⟩) s.slots.length wc) (.slice (some ⟨cb, 0, none⟩) s.chunks.length cc) s.slots s.chunks us W → W.cell? ⟨wb, j * 2, none⟩ = some (.int .i64 (o : Nat)) ∧ W.cell? ⟨wb, j * 2 + 1, none⟩ = some (.int .i64 (M : Nat)) ∧ W.cell? ⟨cb, j, none⟩ = some u ∧ Bt W u c) := hidden (fun W h => by
            have d1 := h.want.cells (g := wb) rfl _ _ hsc.1
            have d2 := h.want.cells (g := wb) rfl _ _ hsc.2
            have d3 := h.ch.cells (g := cb) rfl _ _ hu1
            rw [add_none, Nat.zero_add] at d1 d2 d3
            exact ⟨d1, d2, d3, hu2.same h.same⟩)
          obtain ⟨c0, c1, c2, _⟩ := HW.out _ hA
          have HCH : Hid (∀ W, Bt W (.slice (some ⟨w2.heap.size, 0, none⟩) L L) s.img → Tab W → Calls Tryd.prog 27 #[.slice (some ⟨w2.heap.size, 0, none⟩) L L, .agg #[.int .i64 (o : Nat), .int .i64 (M : Nat)]] W fun e w' => ∃ a x, e = .returned (.tuple #[.slice a M x, .int .i64 0]) ∧ Bt w' (.slice a M x) c ∧ Same W w') := hidden (fun W hb ht => by
            have h5 := chunk_any _ s.img o c.length W ht hb (by have := HIB.out; omega) (by omega) (by omega) (by omega) (by omega)
            rw [p2', hM] at h5
            refine h5.mono fun e w' ⟨y, h1, h2, h3⟩ => ?_
            have h2' : Bt w' y c := h2
            obtain ⟨a, x, rfl, _⟩ := h2'.form
            rw [hM] at h1 h2'
            exact ⟨a, x, by rw [h1]; rfl, h2', h3⟩)
          have HRD : Hid (∀ W, PW g s.took W → Calls Tryd.prog 30 #[.pointer (some ⟨g, 0, none⟩), .agg #[.int .i64 (o : Nat), .int .i64 (M : Nat)]] W fun e w' => ∃ a x, e = .returned (.tuple #[.slice a M x, .int .i64 0]) ∧ Bt w' (.slice a M x) c ∧ Same W w') := hidden (fun W hp => by
            have h5 := p_read hp o c.length
            rw [p3', hM] at h5
            refine h5.mono fun e w' ⟨y, h1, h2, h3⟩ => ?_
            have h2' : Bt w' y c := h2
            obtain ⟨a, x, rfl, _⟩ := h2'.form
            rw [hM] at h1 h2'
            exact ⟨a, x, by rw [h1]; rfl, h2', h3⟩)
          have HCL := hidden (show c.length ≤ 262144 by omega)
          obtain ⟨ua, uc, hu3, _⟩ := hu2.form
          rw [hM] at hu3
          subst hu3
          have r0 : (0 : Int) ≤ (j : Int) := Int.natCast_nonneg _
          have r1 : (j : Int) < (s.slots.length : Int) := by omega
          have r2 : (j : Int) < (s.chunks.length : Int) := by omega
          have t1 : True := trivial
          clear hA p1 p2 p3 p4 p1' p2' p3' hcl hu1 hu2 hM hsc hc hsl
          go_wp2_with (first
            | (go_at_call 27; refine (HCH.out _ (HBT.out _ HB.out.img) (HT.out.same HB.out.same)).mono ?_; rintro e w3 ⟨xa, xc, rfl, hx, k3⟩; have A3 := hidden (HB.out.same' k3); have X3 := hidden hx; obtain ⟨d0, d1, d2, _⟩ := HW.out _ A3.out; clear hx k3)
            | (go_at_call 30; refine (HRD.out _ A3.out.pw).mono ?_; rintro e w4 ⟨ya, yc, rfl, hy, k4⟩; have A4 := hidden (A3.out.same' k4); have X4 := hidden (X3.out.same k4); have Y4 := hidden hy; obtain ⟨e0, e1, e2, _⟩ := HW.out _ A4.out; clear hy k4)
            | (go_at_call 17; have _t := t1; clear t1; refine (HSB.out _ _ _ _ HCL.out X4.out (HW.out _ A4.out).2.2.2).mono ?_; rintro e w5 ⟨rfl, k5⟩; have A5 := hidden (A4.out.same' k5); have Y5 := hidden (Y4.out.same k5); obtain ⟨f0, f1, f2, _⟩ := HW.out _ A5.out; have t2 : True := trivial; clear k5)
            | (go_at_call 17; have _t := t2; clear t2; refine (HSB.out _ _ _ _ HCL.out Y5.out (HW.out _ A5.out).2.2.2).mono ?_; rintro e w6 ⟨rfl, k6⟩; have A6 := hidden (A5.out.same' k6); clear k6))
          go_roundw
          case rel => exact ⟨j + 1, by go_num, by omega, A6.out⟩
          case measure => simp [intOf]; omega
        · have he : j = s.slots.length := by omega
          subst he
          have r1 : ¬ (s.slots.length : Int) < (s.slots.length : Int) := by omega
          clear hA
          go_wp2
          go_returns
          exact ⟨rfl, HB.out.same⟩
end Go.Proofs.YtafdkfieajdeiaaDoor
