/- journal: the document's Writer: a byte laid into its last room. -/
import Derived.Test.YtljbmpnpbjnbkaaDoorJD7
namespace Go.Proofs.YtljbmpnpbjnbkaaDoor
open Go.RowKit
set_option linter.unusedVariables false
set_option linter.unusedSimpArgs false
theorem set_end (R : List (List UInt8)) (b : UInt8) (m : Nat) (h : m = R.length) : (R ++ [[]]).set m ([] ++ [b]) = R ++ [[b]] := by
  subst h
  simp
theorem DL.lay {g rb m N : Nat} {d0 : DSt} {w W W1 w5 : World} {rv u u' rv0 v : Value} {us us0 xs : List Value} {R R' : List (List UInt8)} {x : List UInt8} {b : UInt8}
    (hD : DL g { d0 with rooms := R } W rv us) (hx : R[m]? = some x) (hu : us[m]? = some u) (hrb : rv.ownBlock = some rb) (hfin : R.set m (x ++ [b]) = R')
    (hF : ∀ k, k < w.heap.size → dS g rv us k → dS g rv0 us0 k) (hK : Kept (dS g rv0 us0) w W)
    (hB : W.ownsRow 0 5 1 v N xs) (hA : ∀ (j : Nat) (u : Value) (k : Nat), us[j]? = some u → u.ownBlock = some k → v.ownBlock ≠ some k)
    (k1 : Same W W1) (hg : W1.grownBy w5 u.ownBlock) (ho : w5.ownsRow 0 5 1 u' (x.length + 1) (x.map U8 ++ [U8 b])) (hat : u'.ownBlock = u.ownBlock ∨ u'.ownBlock = some W1.heap.size) :
    DL g { d0 with rooms := R' } (w5.setCell ⟨rb, m, none⟩ u') rv (us.set m u') ∧ (w5.setCell ⟨rb, m, none⟩ u').ownsRow 0 5 1 v N xs ∧
    (∀ (j : Nat) (y : Value) (k : Nat), (us.set m u')[j]? = some y → y.ownBlock = some k → v.ownBlock ≠ some k) ∧
    (∀ k, k < w.heap.size → dS g rv (us.set m u') k → dS g rv0 us0 k) ∧ Kept (dS g rv0 us0) w (w5.setCell ⟨rb, m, none⟩ u') := by
  have hou := hD.rooms m x u hx hu
  obtain ⟨_, rcs, hrc⟩ := own_bk hD.row hrb
  have hml := (List.getElem?_eq_some_iff.1 hu).1
  have hs1 := k1.size
  have hs2 := hK.size
  have hk5 : Kept (fun k => u.ownBlock = some k ∨ k = rb) W (w5.setCell ⟨rb, m, none⟩ u') :=
    ((((Kept.refl (fun k => u.ownBlock = some k ∨ k = rb) W).trans (k1.mono (fun _ _ h => h.elim))).grown hg (fun k e _ => Or.inl e))).setCell (p := ⟨rb, m, none⟩) (Or.inr rfl) _
  have hat' : ∀ k, u'.ownBlock = some k → u.ownBlock = some k ∨ W1.heap.size ≤ k := fun k e => by
    rcases hat with h | h
    · exact .inl (h ▸ e)
    · rw [h] at e
      cases e
      exact .inr (Nat.le_refl _)
  have hvb : ∀ k, v.ownBlock = some k → ¬ (u.ownBlock = some k ∨ k = rb) := fun k e h => by
    rcases h with h | h
    · exact hA m u k hu h e
    · exact own_apart hB hrc (by decide) (by rw [e, h])
  refine ⟨?_, own_kept hB hk5 hvb, fun j y k hy e1 e2 => ?_, fun k hk hd => ?_, hK.trans' hk5 (fun i hi hz => ?_)⟩
  · have h1 := (hD.same k1).on (i := m) (y := x ++ [b]) hx hu hg (by rw [List.length_append, List.map_append]; exact ho) hat' hrb
    rw [← hfin]
    exact h1
  · by_cases hj : j = m
    · subst hj
      rw [List.getElem?_set_self hml] at hy
      cases hy
      rcases hat' k e1 with h | h
      · exact hA j u k hu h e2
      · have := blk_lt (own_bk hB e2).2.choose_spec
        omega
    · rw [List.getElem?_set_ne (fun e => hj e.symm)] at hy
      exact hA j y k hy e1 e2
  · rcases hd with h | h | ⟨j, y, hy, e1⟩
    · exact hF k hk (.inl h)
    · exact hF k hk (.inr (.inl h))
    · by_cases hj : j = m
      · subst hj
        rw [List.getElem?_set_self hml] at hy
        cases hy
        rcases hat' k e1 with h | h
        · exact hF k hk (.inr (.inr ⟨j, u, hu, h⟩))
        · omega
      · rw [List.getElem?_set_ne (fun e => hj e.symm)] at hy
        exact hF k hk (.inr (.inr ⟨j, y, hy, e1⟩))
  · rcases hz with h | h
    · exact hF i hi (.inr (.inr ⟨m, u, hu, h⟩))
    · exact hF i hi (.inr (.inl (by rw [hrb, h])))
theorem DL.grow {g N : Nat} {d0 : DSt} {w W W1 w4 : World} {rv rv' rv0 v : Value} {us us0 xs : List Value} {R : List (List UInt8)}
    (hD : DL g { d0 with rooms := R } W rv us)
    (hF : ∀ k, k < w.heap.size → dS g rv us k → dS g rv0 us0 k) (hK : Kept (dS g rv0 us0) w W)
    (hB : W.ownsRow 0 5 1 v N xs) (hA : ∀ (j : Nat) (u : Value) (k : Nat), us[j]? = some u → u.ownBlock = some k → v.ownBlock ≠ some k)
    (k1 : Same W W1) (hg : W1.grownBy w4 rv.ownBlock) (ho : w4.ownsRow 0 39 1 rv' (R.length + 1) (us ++ [.slice none 0 0])) (hat : rv'.ownBlock = rv.ownBlock ∨ rv'.ownBlock = some W1.heap.size) :
    DL g { d0 with rooms := R ++ [[]] } (w4.setCell ⟨g, 3, none⟩ rv') rv' (us ++ [.slice none 0 0]) ∧ (w4.setCell ⟨g, 3, none⟩ rv').ownsRow 0 5 1 v N xs ∧
    (∀ (j : Nat) (y : Value) (k : Nat), (us ++ [.slice none 0 0])[j]? = some y → y.ownBlock = some k → v.ownBlock ≠ some k) ∧
    (∀ k, k < w.heap.size → dS g rv' (us ++ [.slice none 0 0]) k → dS g rv0 us0 k) ∧ Kept (dS g rv0 us0) w (w4.setCell ⟨g, 3, none⟩ rv') ∧ (us ++ [.slice none 0 0])[R.length]? = some (.slice none 0 0) := by
  have hs1 := k1.size
  have hs2 := hK.size
  have hln := hD.len
  have hk5 : Kept (fun k => rv.ownBlock = some k ∨ k = g) W (w4.setCell ⟨g, 3, none⟩ rv') :=
    ((((Kept.refl (fun k => rv.ownBlock = some k ∨ k = g) W).trans (k1.mono (fun _ _ h => h.elim))).grown hg (fun k e _ => Or.inl e))).setCell (p := ⟨g, 3, none⟩) (Or.inr rfl) _
  have hvb : ∀ k, v.ownBlock = some k → ¬ (rv.ownBlock = some k ∨ k = g) := fun k e h => by
    rcases h with h | h
    · obtain ⟨_, cs, hcs⟩ := own_bk hD.row h
      exact own_apart hB hcs (by decide) e
    · exact own_apart hB hD.box (by decide) (by rw [e, h])
  have hold : ∀ (j : Nat) (y : Value) (k : Nat), (us ++ [Value.slice none 0 0])[j]? = some y → y.ownBlock = some k → us[j]? = some y := fun j y k hj hy => by
    rcases Nat.lt_or_ge j us.length with h | h
    · rwa [List.getElem?_append_left h] at hj
    · rw [List.getElem?_append_right h] at hj
      have h0 : j - us.length = 0 := by
        have := (List.getElem?_eq_some_iff.1 hj).1
        simpa using this
      rw [h0] at hj
      obtain rfl : Value.slice none 0 0 = y := by simpa using hj
      cases hy
  refine ⟨(hD.same k1).more hg ho, own_kept hB hk5 hvb, fun j y k hj hy => hA j y k (hold j y k hj hy) hy, fun k hk hd => ?_, hK.trans' hk5 (fun i hi hz => ?_), ?_⟩
  · rcases hd with h | h | ⟨j, y, hy, e1⟩
    · exact hF k hk (.inl h)
    · rcases hat with e | e
      · exact hF k hk (.inr (.inl (by rw [← e]; exact h)))
      · rw [e] at h
        cases h
        omega
    · exact hF k hk (.inr (.inr ⟨j, y, hold j y k hy e1, e1⟩))
  · rcases hz with h | h
    · exact hF i hi (.inr (.inl h))
    · exact hF i hi (.inl h)
  · rw [show R.length = us.length from hln.symm]
    simp
end Go.Proofs.YtljbmpnpbjnbkaaDoor
