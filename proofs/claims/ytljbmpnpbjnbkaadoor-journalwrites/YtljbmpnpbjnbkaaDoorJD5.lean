/- journal: the document's Writer while a byte is laid: a room that grows, a room more. -/
import Derived.Test.YtljbmpnpbjnbkaaDoorJD4
namespace Go.Proofs.YtljbmpnpbjnbkaaDoor
open Go.RowKit
set_option linter.unusedVariables false
set_option linter.unusedSimpArgs false
/-- The document's Writer with its rooms' row and its rooms' values. -/
structure DL (g : Nat) (d : DSt) (w : World) (rv : Value) (us : List Value) : Prop where
  box : w.heap[g]? = some (.cells #[.int .i64 d.size, .int .i64 d.sectors, .int .u64 d.gen, rv, .int .i64 d.taken, .int .i64 d.count] 44 (0, 0))
  len : us.length = d.rooms.length
  row : w.ownsRow 0 39 1 rv d.rooms.length us
  rooms : ∀ (i : Nat) (x : List UInt8) (u : Value), d.rooms[i]? = some x → us[i]? = some u → w.ownsRow 0 5 1 u x.length (x.map U8)
  apart : ∀ (i j : Nat) (u u' : Value) (k : Nat), us[i]? = some u → us[j]? = some u' → u.ownBlock = some k → u'.ownBlock = some k → i = j
theorem DW.dl {g : Nat} {d : DSt} {w : World} (h : DW g d w) : ∃ rv us, DL g d w rv us := by
  obtain ⟨rv, us, h1, h2, h3, h4, h5⟩ := h.lies
  exact ⟨rv, us, h1, h2, h3, h4, h5⟩
theorem DL.dw {g : Nat} {d : DSt} {w : World} {rv : Value} {us : List Value} (h : DL g d w rv us) : DW g d w := ⟨rv, us, h.box, h.len, h.row, h.rooms, h.apart⟩
theorem DL.on {g : Nat} {d : DSt} {w : World} {rv : Value} {us : List Value} (h : DL g d w rv us) {i rb : Nat} {x y : List UInt8} {u u' : Value} {w1 : World} (hx : d.rooms[i]? = some x) (hu : us[i]? = some u)
    (hg : w.grownBy w1 u.ownBlock) (ho : w1.ownsRow 0 5 1 u' y.length (y.map U8)) (hat : ∀ k, u'.ownBlock = some k → u.ownBlock = some k ∨ w.heap.size ≤ k) (hrb : rv.ownBlock = some rb) :
    DL g { d with rooms := d.rooms.set i y } (w1.setCell ⟨rb, i, none⟩ u') rv (us.set i u') := by
  have hou := h.rooms i x u hx hu
  have hgb := own_apart hou h.box (by decide)
  obtain ⟨_, cs, hcs⟩ := own_bk h.row hrb
  have hrg : rb ≠ g := fun e => own_apart h.row h.box (by decide) (by rw [hrb, e])
  have hrb1 : w1.heap[rb]? = some (.cells cs 39 (0, 0)) := (hg.block rb (blk_lt hcs) (fun e => own_apart hou hcs (by decide) e.symm)).trans hcs
  have hbx1 := (hg.block g (blk_lt h.box) (fun e => hgb e.symm)).trans h.box
  have hk : Kept (fun k => u.ownBlock = some k ∨ k = rb) w (w1.setCell ⟨rb, i, none⟩ u') := ((Kept.refl (fun k => u.ownBlock = some k ∨ k = rb) w).grown hg (fun k e _ => .inl e)).setCell (p := ⟨rb, i, none⟩) (.inr rfl) _
  have hk1 : Kept (fun k => k = rb) w1 (w1.setCell ⟨rb, i, none⟩ u') := (Kept.refl (fun k => k = rb) w1).setCell (p := ⟨rb, i, none⟩) rfl _
  refine ⟨(Below.heap_setCell _ _ _ _ (fun e => hrg e.symm)).trans hbx1, by simp [h.len], ?_, ?_, ?_⟩
  · have hr := h.row
    have hl := hr.1
    rcases hr.2 with ⟨rfl, h0⟩ | ⟨b, cap, cur, rfl, _, h2, h3, h4, h5, h6⟩
    · cases hrb
    · cases hrb
      rw [hcs] at h2
      cases h2
      refine ⟨by simp [hl], .inr ⟨_, cap, cs.setIfInBounds i u', by simp, Nat.zero_le _, blk_set hrb1 u', by simpa using h3, h4, by simpa using h5, ?_⟩⟩
      rw [Array.toList_setIfInBounds, List.length_set, List.take_set, h6]
  · intro j z v hz hv
    by_cases hj : j = i
    · subst hj
      have hjl := (List.getElem?_eq_some_iff.1 hx).1
      have hjl2 := (List.getElem?_eq_some_iff.1 hu).1
      rw [List.getElem?_set_self hjl] at hz
      rw [List.getElem?_set_self hjl2] at hv
      cases hz
      cases hv
      exact own_kept ho hk1 (fun k hk e => own_apart ho hrb1 (by decide) (by rw [hk, e]))
    · rw [List.getElem?_set_ne (fun e => hj e.symm)] at hz hv
      have hoj := h.rooms j z v hz hv
      refine own_kept hoj hk (fun k hk e => ?_)
      rcases e with e | e
      · exact hj (h.apart j i v u k hv hu hk e)
      · exact own_apart hoj hcs (by decide) (by rw [hk, e])
  · intro j k v v' q hv hv' hq hq'
    by_cases hj : j = i
    · by_cases hk2 : k = i
      · rw [hj, hk2]
      · subst hj
        have hjl2 := (List.getElem?_eq_some_iff.1 hu).1
        rw [List.getElem?_set_self hjl2] at hv
        cases hv
        rw [List.getElem?_set_ne (fun e => hk2 e.symm)] at hv'
        rcases hat q hq with e | e
        · exact h.apart _ _ _ _ q hu hv' e hq'
        · have hkl := (List.getElem?_eq_some_iff.1 hv').1
          obtain ⟨z, hz⟩ : ∃ z, d.rooms[k]? = some z := ⟨_, List.getElem?_eq_getElem (by have := h.len; omega)⟩
          have := blk_lt (own_bk (h.rooms k z v' hz hv') hq').2.choose_spec
          omega
    · rw [List.getElem?_set_ne (fun e => hj e.symm)] at hv
      by_cases hk2 : k = i
      · subst hk2
        have hjl2 := (List.getElem?_eq_some_iff.1 hu).1
        rw [List.getElem?_set_self hjl2] at hv'
        cases hv'
        rcases hat q hq' with e | e
        · exact h.apart _ _ _ _ q hv hu hq e
        · have hjl := (List.getElem?_eq_some_iff.1 hv).1
          obtain ⟨z, hz⟩ : ∃ z, d.rooms[j]? = some z := ⟨_, List.getElem?_eq_getElem (by have := h.len; omega)⟩
          have := blk_lt (own_bk (h.rooms j z v hz hv) hq).2.choose_spec
          omega
      · rw [List.getElem?_set_ne (fun e => hk2 e.symm)] at hv'
        exact h.apart j k v v' q hv hv' hq hq'
theorem DL.more {g : Nat} {d : DSt} {w : World} {rv : Value} {us : List Value} (h : DL g d w rv us) {rv' : Value} {w1 : World} (hg : w.grownBy w1 rv.ownBlock)
    (ho : w1.ownsRow 0 39 1 rv' (d.rooms.length + 1) (us ++ [.slice none 0 0])) :
    DL g { d with rooms := d.rooms ++ [[]] } (w1.setCell ⟨g, 3, none⟩ rv') rv' (us ++ [.slice none 0 0]) := by
  have hgb := own_apart h.row h.box (by decide)
  have hbx1 := (hg.block g (blk_lt h.box) (fun e => hgb e.symm)).trans h.box
  have hk : Kept (fun k => rv.ownBlock = some k ∨ k = g) w (w1.setCell ⟨g, 3, none⟩ rv') := ((Kept.refl (fun k => rv.ownBlock = some k ∨ k = g) w).grown hg (fun k e _ => .inl e)).setCell (p := ⟨g, 3, none⟩) (.inr rfl) _
  have hk1 : Kept (fun k => k = g) w1 (w1.setCell ⟨g, 3, none⟩ rv') := (Kept.refl (fun k => k = g) w1).setCell (p := ⟨g, 3, none⟩) rfl _
  refine ⟨blk_set (j := 3) hbx1 rv', by simp [h.len], ?_, ?_, ?_⟩
  · rw [List.length_append]
    exact own_kept ho hk1 (fun k hk e => own_apart ho hbx1 (by decide) (by rw [hk, e]))
  · intro j z v hz hv
    rcases Nat.lt_or_ge j d.rooms.length with hj | hj
    · rw [List.getElem?_append_left hj] at hz
      rw [List.getElem?_append_left (by rw [h.len]; exact hj)] at hv
      have hoj := h.rooms j z v hz hv
      refine own_kept hoj hk (fun k hk e => ?_)
      rcases e with e | e
      · obtain ⟨_, cs, hcs⟩ := own_bk h.row e
        exact own_apart hoj hcs (by decide) hk
      · exact own_apart hoj h.box (by decide) (by rw [hk, e])
    · rw [List.getElem?_append_right hj] at hz
      rw [List.getElem?_append_right (by rw [h.len]; exact hj), h.len] at hv
      have h0 : j - d.rooms.length = 0 := by
        have := (List.getElem?_eq_some_iff.1 hz).1
        simpa using this
      rw [h0] at hz hv
      obtain rfl : [] = z := by simpa using hz
      obtain rfl : Value.slice none 0 0 = v := by simpa using hv
      exact World.ownsRow_nil _ _ _ _
  · intro j k v v' q hv hv' hq hq'
    have hlt : ∀ (j : Nat) (v : Value), (us ++ [Value.slice none 0 0])[j]? = some v → v.ownBlock = some q → us[j]? = some v := fun j v hv hq => by
      rcases Nat.lt_or_ge j us.length with hj | hj
      · rwa [List.getElem?_append_left hj] at hv
      · rw [List.getElem?_append_right hj] at hv
        have h0 : j - us.length = 0 := by
          have := (List.getElem?_eq_some_iff.1 hv).1
          simpa using this
        rw [h0] at hv
        obtain rfl : Value.slice none 0 0 = v := by simpa using hv
        cases hq
    exact h.apart j k v v' q (hlt j v hv hq) (hlt k v' hv' hq') hq hq'
end Go.Proofs.YtljbmpnpbjnbkaaDoor
