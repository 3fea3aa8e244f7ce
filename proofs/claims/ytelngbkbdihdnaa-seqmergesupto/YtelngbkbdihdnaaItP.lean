/- Rows of the document's items: pure facts; such a row of its own. -/
import Derived.Test.YtelngbkbdihdnaaItm
import Derived.Test.YtelngbkbdihdnaaApp
namespace Go.Proofs.Ytelngbkbdihdnaa
open Go.RowKit
set_option linter.unusedVariables false
theorem ins_at {k : ByteArray} {y : Int} : ∀ {l : List Kv}, Srt l → insL k y l = l.take (rkL k l) ++ (k, y) :: l.drop (rkL k l + (if (lk k l).isSome then 1 else 0))
  | [], _ => by simp [insL, rkL, lk]
  | (a, z) :: t, h => by
    have ht : Srt t := (List.pairwise_cons.1 h).2
    have h' : Srt ([] ++ (a, z) :: t) := h
    have ih := ins_at (k := k) (y := y) ht
    unfold insL
    by_cases h1 : ltS k a = true
    · have e1 : rkL k ((a, z) :: t) = 0 := rk_ge (l := []) h' (ordS.as _ _ h1)
      have e2 : lk k ((a, z) :: t) = none := lk_left (l := []) h' h1
      simp [h1, e1, e2]
    · have h1' : ltS k a = false := by simpa using h1
      by_cases h2 : ltS a k = true
      · have e1 : rkL k ((a, z) :: t) = 0 + 1 + rkL k t := rk_lt (l := []) h' h2
        have e2 : lk k ((a, z) :: t) = lk k t := lk_right (l := []) h' h2
        have e3 : 0 + 1 + rkL k t = rkL k t + 1 := by omega
        have e4 : rkL k t + 1 + (if (lk k t).isSome then 1 else 0) = (rkL k t + (if (lk k t).isSome then 1 else 0)) + 1 := by omega
        rw [e1, e2, e3, e4, List.take_succ_cons, List.drop_succ_cons, List.cons_append, ← ih]
        simp [h1', h2]
      · have h2' : ltS a k = false := by simpa using h2
        have e1 : rkL k ((a, z) :: t) = 0 := rk_ge (l := []) h' h2'
        have e2 : lk k ((a, z) :: t) = some z := lk_here (l := []) h' h1' h2'
        simp [h1', h2', e1, e2]
theorem del_at {k : ByteArray} : ∀ {l : List Kv}, Srt l → delL k l = l.take (rkL k l) ++ l.drop (rkL k l + (if (lk k l).isSome then 1 else 0))
  | [], _ => by simp [delL]
  | (a, z) :: t, h => by
    have ht : Srt t := (List.pairwise_cons.1 h).2
    have h' : Srt ([] ++ (a, z) :: t) := h
    have ih := del_at (k := k) ht
    by_cases h1 : ltS k a = true
    · have e1 : rkL k ((a, z) :: t) = 0 := rk_ge (l := []) h' (ordS.as _ _ h1)
      have e2 : lk k ((a, z) :: t) = none := lk_left (l := []) h' h1
      have e3 : delL k ((a, z) :: t) = (a, z) :: t := delL_left (l := []) h' h1
      simp [e1, e2, e3]
    · have h1' : ltS k a = false := by simpa using h1
      by_cases h2 : ltS a k = true
      · have e1 : rkL k ((a, z) :: t) = 0 + 1 + rkL k t := rk_lt (l := []) h' h2
        have e2 : lk k ((a, z) :: t) = lk k t := lk_right (l := []) h' h2
        have e0 : delL k ((a, z) :: t) = (a, z) :: delL k t := delL_right (l := []) h' h2
        have e3 : 0 + 1 + rkL k t = rkL k t + 1 := by omega
        have e4 : rkL k t + 1 + (if (lk k t).isSome then 1 else 0) = (rkL k t + (if (lk k t).isSome then 1 else 0)) + 1 := by omega
        rw [e0, e1, e2, e3, e4, List.take_succ_cons, List.drop_succ_cons, List.cons_append, ← ih]
      · have h2' : ltS a k = false := by simpa using h2
        have e1 : rkL k ((a, z) :: t) = 0 := rk_ge (l := []) h' h2'
        have e2 : lk k ((a, z) :: t) = some z := lk_here (l := []) h' h1' h2'
        have e3 : delL k ((a, z) :: t) = t := delL_here (l := []) h' h1' h2'
        simp [e1, e2, e3]
theorem lk_rk {k : ByteArray} {z : Int} : ∀ {l : List Kv}, Srt l → lk k l = some z → l[rkL k l]? = some (k, z)
  | [], _, e => by simp [lk] at e
  | (a, y) :: t, h, e => by
    have ht : Srt t := (List.pairwise_cons.1 h).2
    have h' : Srt ([] ++ (a, y) :: t) := h
    by_cases h1 : ltS k a = true
    · have e2 : lk k ((a, y) :: t) = none := lk_left (l := []) h' h1
      rw [e2] at e
      cases e
    · have h1' : ltS k a = false := by simpa using h1
      by_cases h2 : ltS a k = true
      · have e1 : rkL k ((a, y) :: t) = 0 + 1 + rkL k t := rk_lt (l := []) h' h2
        have e2 : lk k ((a, y) :: t) = lk k t := lk_right (l := []) h' h2
        rw [e1, show 0 + 1 + rkL k t = rkL k t + 1 by omega, List.getElem?_cons_succ]
        exact lk_rk ht (e2.symm.trans e)
      · have h2' : ltS a k = false := by simpa using h2
        have e1 : rkL k ((a, y) :: t) = 0 := rk_ge (l := []) h' h2'
        have e2 : lk k ((a, y) :: t) = some y := lk_here (l := []) h' h1' h2'
        rw [e2] at e
        obtain rfl : y = z := by simpa using e
        obtain rfl : a = k := bytes_ext (ltS_eq h2' h1')
        rw [e1]
        rfl
def flat (l : List Kv) : List Value := l.flatMap fun p => [.string p.1, .int .i64 p.2]
theorem flat_cons (p : Kv) (l : List Kv) : flat (p :: l) = .string p.1 :: .int .i64 p.2 :: flat l := rfl
theorem flat_len : ∀ l : List Kv, (flat l).length = l.length * 2
  | [] => rfl
  | p :: l => by rw [flat_cons, List.length_cons, List.length_cons, flat_len l, List.length_cons]; omega
theorem flat_app (a b : List Kv) : flat (a ++ b) = flat a ++ flat b := List.flatMap_append
theorem flat_one : ∀ l : List Kv, ∀ u ∈ flat l, u.oneCell' = true
  | [], u, h => by simp [flat] at h
  | p :: l, u, h => by
    rw [flat_cons] at h
    rcases List.mem_cons.1 h with rfl | h
    · rfl
    · rcases List.mem_cons.1 h with rfl | h
      · rfl
      · exact flat_one l u h
theorem flat_lies {w : World} {b : Nat} : ∀ (l : List Kv) (off : Nat), (∀ j (hj : j < l.length), w.cell? ⟨b, off + j * 2, none⟩ = some (.string l[j].1) ∧ w.cell? ⟨b, off + j * 2 + 1, none⟩ = some (.int .i64 l[j].2)) → ∀ j u, (flat l)[j]? = some u → w.cell? ((⟨b, off, none⟩ : Addr).add j) = some u
  | [], _, _, j, u, h => by simp [flat] at h
  | p :: l, off, hc, j, u, h => by
    rw [flat_cons] at h
    have h0 := hc 0 (by simp)
    match j, h with
    | 0, h =>
      simp at h
      rw [add_none, ← h]
      simpa using h0.1
    | 1, h =>
      simp at h
      rw [add_none, ← h]
      simpa using h0.2
    | j + 2, h =>
      simp at h
      have := flat_lies l (off + 2) (fun i hi => by
        have := hc (i + 1) (by simp; omega)
        rw [show off + (i + 1) * 2 = off + 2 + i * 2 by omega] at this
        simpa using this) j u h
      rw [add_none] at this ⊢
      rw [← this]
      congr 2
      omega
theorem flat_at : ∀ (l : List Kv) (j : Nat) (hj : j < l.length), (flat l)[j * 2]? = some (.string l[j].1) ∧ (flat l)[j * 2 + 1]? = some (.int .i64 l[j].2)
  | [], j, h => by simp at h
  | p :: l, 0, _ => ⟨rfl, rfl⟩
  | p :: l, j + 1, h => by
    have := flat_at l j (by simp at h; omega)
    rw [flat_cons, show (j + 1) * 2 = j * 2 + 2 by omega]
    simpa using this
/-- A row of items of its own. -/
def ItR (B : Nat) (w : World) (v : Value) (l : List Kv) : Prop := w.ownsRow B 70 2 v l.length (flat l)
theorem ItR.base {B : Nat} {w : World} {v : Value} {l : List Kv} (h : ItR B w v l) : ItR 0 w v l := own_base h
theorem ItR.nil (B : Nat) (w : World) : ItR B w (.slice none 0 0) [] := World.ownsRow_nil _ _ _ _
theorem ItR.form {B : Nat} {w : World} {v : Value} {l : List Kv} (h : ItR B w v l) : ∃ a c, v = .slice a l.length c ∧ l.length ≤ c ∧ (0 < l.length → ∃ b, a = some ⟨b, 0, none⟩) := by
  rcases h.2 with ⟨e, h0⟩ | ⟨g, cap, cur, e, hb, hg, hn, _⟩
  · exact ⟨none, 0, by rw [e, h0], by omega, fun h => by omega⟩
  · exact ⟨_, cap, e, hn, fun _ => ⟨g, rfl⟩⟩
theorem ItR.at {B : Nat} {w : World} {b n c : Nat} {l : List Kv} (h : ItR B w (.slice (some ⟨b, 0, none⟩) n c) l) : ∀ j (hj : j < l.length), w.cell? ⟨b, j * 2, none⟩ = some (.string l[j].1) ∧ w.cell? ⟨b, j * 2 + 1, none⟩ = some (.int .i64 l[j].2) := fun j hj => by
  have h1 := World.ownsRow.cells h (g := b) rfl _ _ (flat_at l j hj).1
  have h2 := World.ownsRow.cells h (g := b) rfl _ _ (flat_at l j hj).2
  rw [add_none, Nat.zero_add] at h1 h2
  exact ⟨h1, h2⟩
theorem ItR.its {B : Nat} {w : World} {v : Value} {l : List Kv} (h : ItR B w v l) : Its w v l := by
  obtain ⟨a, c, rfl, _, hb⟩ := h.form
  refine ⟨a, c, rfl, fun hp => ?_⟩
  obtain ⟨b, rfl⟩ := hb hp
  refine ⟨b, 0, rfl, fun j hj => ?_⟩
  rw [Nat.zero_add]
  exact h.at j hj
theorem ItR.kept {S : Nat → Prop} {B : Nat} {w w' : World} {v : Value} {l : List Kv} (h : ItR B w v l) (k : Kept S w w') (hr : ∀ q cs, w.heap[q]? = some (.cells cs 70 (0, 0)) → ¬ S q) : ItR B w' v l :=
  own_kept h k (fun q hq => by
    rcases h.2 with ⟨e, _⟩ | ⟨g, cap, cur, e, hb, hg, hn, _⟩
    · rw [e] at hq; cases hq
    · rw [e] at hq
      simp [Value.ownBlock] at hq
      subst hq
      exact hr _ _ hg)
theorem ItR.same {B : Nat} {w w' : World} {v : Value} {l : List Kv} (h : ItR B w v l) (k : Same w w') : ItR B w' v l := h.kept k (fun _ _ _ h => h)
theorem infoItem : (Try.prog.info? 70).map (fun i => (i.zero, i.size, i.bytes)) = some (some (.agg #[.string ByteArray.empty, .int .i64 0]), 2, 24) := by kernel_rfl
/-- The first ones, and those behind, lie where they should. -/
theorem ItR.takes {B : Nat} {w : World} {b n c : Nat} {l : List Kv} (h : ItR B w (.slice (some ⟨b, 0, none⟩) n c) l) (i : Nat) : ∀ j u, (flat (l.take i))[j]? = some u → w.cell? ((⟨b, 0, none⟩ : Addr).add j) = some u :=
  flat_lies _ _ (fun j hj => by
    have := h.at j (by simp at hj; omega)
    rw [Nat.zero_add, List.getElem_take]
    exact this)
theorem ItR.drops {B : Nat} {w : World} {b n c : Nat} {l : List Kv} (h : ItR B w (.slice (some ⟨b, 0, none⟩) n c) l) (i : Nat) : ∀ j u, (flat (l.drop i))[j]? = some u → w.cell? ((⟨b, i * 2, none⟩ : Addr).add j) = some u :=
  flat_lies _ _ (fun j hj => by
    have := h.at (i + j) (by simp at hj; omega)
    rw [List.getElem_drop, show i * 2 + j * 2 = (i + j) * 2 by omega]
    exact this)
theorem elemItem : Try.prog.elem 42 = 70 := by kernel_rfl
set_option maxRecDepth 100000 in
/-- The first items of a row, as a slice. -/
theorem its_head {B : Nat} {w : World} {a0 : Option Addr} {n c0 i : Nat} {l : List Kv} (HR : ∀ W, Same w W → ItR B W (.slice a0 n c0) l) (hn : l.length = n) (hin : i ≤ n) (x : Int) (hx : x = (i : Int)) :
    ∃ p, (∀ W, (Instr.sliceAt 42 (.slice a0 n c0) none (some (.int .i64 x)) none).run Try.prog W = .ok (.slice p i c0) W) ∧ Hid (∀ W, Same w W → Lies W p i (flat (l.take i))) := by
  obtain ⟨a, c, e, hc, hb⟩ := (HR w (Kept.refl _ _)).form
  simp only [Value.slice.injEq] at e
  obtain ⟨rfl, _, rfl⟩ := e
  obtain ⟨i0, hi0, hz0, hz1, hz2⟩ := info_parts infoItem
  subst hx
  refine ⟨if c0 = 0 then a0 else a0.map (·.add (0 * 2)), fun W => ?_, fun W kk hp => ?_⟩
  · rw [run_sliceAt_slice (h := Try.underlying42), run_slice_h (ht := Try.underlying42) (h0 := by omega) (h2 := by omega)]
    simp [sizeOf, typeInfo, elemItem, hi0, hz1, sliced]
  · obtain ⟨b, rfl⟩ := hb (by omega)
    have hne : ¬ c0 = 0 := by omega
    exact ⟨⟨b, 0, none⟩, by simp [hne, add_none], (HR W kk).takes i⟩
set_option maxRecDepth 100000 in
/-- Those behind them. -/
theorem its_tail {B : Nat} {w : World} {a0 : Option Addr} {n c0 i : Nat} {l : List Kv} (HR : ∀ W, Same w W → ItR B W (.slice a0 n c0) l) (hn : l.length = n) (hin : i ≤ n) (x : Int) (hx : x = (i : Int)) :
    ∃ p, (∀ W, (Instr.sliceAt 42 (.slice a0 n c0) (some (.int .i64 x)) none none).run Try.prog W = .ok (.slice p (n - i) (c0 - i)) W) ∧ Hid (∀ W, Same w W → Lies W p (n - i) (flat (l.drop i))) := by
  obtain ⟨a, c, e, hc, hb⟩ := (HR w (Kept.refl _ _)).form
  simp only [Value.slice.injEq] at e
  obtain ⟨rfl, _, rfl⟩ := e
  obtain ⟨i0, hi0, hz0, hz1, hz2⟩ := info_parts infoItem
  subst hx
  refine ⟨if c0 = i then a0 else a0.map (·.add (i * 2)), fun W => ?_, fun W kk hp => ?_⟩
  · rw [run_sliceAt_slice (h := Try.underlying42), run_slice_l (ht := Try.underlying42) (h0 := by omega) (h1 := by omega)]
    simp [sizeOf, typeInfo, elemItem, hi0, hz1, sliced]
  · obtain ⟨b, rfl⟩ := hb (by omega)
    have hne : ¬ c0 = i := by omega
    exact ⟨⟨b, i * 2, none⟩, by simp [hne, add_none], (HR W kk).drops i⟩
end Go.Proofs.Ytelngbkbdihdnaa
