/- pack: Append. -/
import Derived.Test.YtafdkfieajdeiaaDoorK5
namespace Go.Proofs.YtafdkfieajdeiaaDoor
open Go.RowKit
set_option linter.unusedVariables false

theorem infoSlot : (Tryd.prog.info? 34).map (fun i => (i.zero, i.size, i.bytes)) = some (some (.agg #[.int .i64 0, .int .i64 0]), 2, 16) := by kernel_rfl
/-- What Append tells. -/
def PSt.appErr (s : PSt) (n : Nat) : Int := if s.shut then 6 else if n = 0 then 1 else if s.left < n then 2 else 0
def PSt.app (s : PSt) (c : List UInt8) : PSt := if s.appErr c.length = 0 then { s with chunks := s.chunks ++ [c] } else s
def PSt.appSlot (s : PSt) (n : Nat) : Nat × Nat := if s.appErr n = 0 then (s.bs.length + 8, n) else (0, 0)
/-- The cells behind an append to one of its rows, and the store of it. -/
theorem lies2 {g : Nat} {s : PSt} {vb vs v' : Value} {w w1 : World} {n n' : Nat} {xs xs' : List Value}
    (hb : w.heap[g]? = some (.cells (PCells s vb vs) 70 (0, 0))) (ho : OwnM w 5 1 vb n xs) (hs : OwnM w 34 2 vs s.slots.length (slotCells s.slots))
    (ho1 : OwnM w1 5 1 v' n' xs') (hg : w.grownBy w1 vb.ownBlock) (hk : ∀ k, k < w.heap.size → v'.ownBlock = some k → vb.ownBlock = some k) :
    w1.heap[g]? = some (.cells (PCells s vb vs) 70 (0, 0)) ∧
    (w1.setCell ⟨g, 2, none⟩ v').heap[g]? = some (.cells (PCells s v' vs) 70 (0, 0)) ∧
    OwnM (w1.setCell ⟨g, 2, none⟩ v') 5 1 v' n' xs' ∧ OwnM (w1.setCell ⟨g, 2, none⟩ v') 34 2 vs s.slots.length (slotCells s.slots) ∧ Turns g w (w1.setCell ⟨g, 2, none⟩ v') := by
  have hap : vb.ownBlock ≠ some g := ho.apart hb (by decide)
  have hb1 : w1.heap[g]? = _ := (hg.block g (blk_lt hb) (Ne.symm hap)).trans hb
  have hb2 : (w1.setCell ⟨g, 2, none⟩ v').heap[g]? = some (.cells (PCells s v' vs) 70 (0, 0)) := by simpa [PCells] using blk_set (j := 2) hb1 v'
  have hK : Kept (pS g w) w (w1.setCell ⟨g, 2, none⟩ v') := ((Kept.refl (pS g w) w).grown hg (fun k hk _ => (pS_of hb k).2 (Or.inr (Or.inl hk)))).setCell (p := ⟨g, 2, none⟩) (Or.inl rfl) _
  refine ⟨hb1, hb2, ?_, ?_, hK, ?_⟩
  · have k : Kept (fun k => k = g) w1 (w1.setCell ⟨g, 2, none⟩ v') := (Kept.refl (fun k => k = g) w1).setCell (p := ⟨g, 2, none⟩) rfl _
    exact ho1.kept k (fun i hi e => ho1.apart hb1 (by decide) (by rw [hi, e]))
  · have k : Kept (fun k => k = g ∨ vb.ownBlock = some k) w (w1.setCell ⟨g, 2, none⟩ v') := ((Kept.refl (fun k => k = g ∨ vb.ownBlock = some k) w).grown hg (fun k hk _ => Or.inr hk)).setCell (p := ⟨g, 2, none⟩) (Or.inl rfl) _
    refine hs.kept k (fun i hi e => ?_)
    rcases e with rfl | e
    · exact hs.apart hb (by decide) hi
    · rcases ho.ex with ⟨rfl, _⟩ | ⟨g', cap, cur, fz, rfl, hh, _⟩
      · simp [Value.ownBlock] at e
      · simp [Value.ownBlock] at e
        subst e
        exact hs.apart hh (by decide) hi
  · intro k hk1 hp
    rcases (pS_of hb2 k).1 hp with rfl | h | h
    · exact Or.inl rfl
    · exact (pS_of hb k).2 (Or.inr (Or.inl (hk k hk1 h)))
    · exact (pS_of hb k).2 (Or.inr (Or.inr h))
theorem lies3 {g : Nat} {s : PSt} {vb vs v' : Value} {w w1 : World} {n n' m : Nat} {xs xs' ys : List Value}
    (hb : w.heap[g]? = some (.cells (PCells s vb vs) 70 (0, 0))) (ho : OwnM w 5 1 vb n xs) (hs : OwnM w 34 2 vs m ys)
    (ho1 : OwnM w1 34 2 v' n' xs') (hg : w.grownBy w1 vs.ownBlock) (hk : ∀ k, k < w.heap.size → v'.ownBlock = some k → vs.ownBlock = some k) :
    w1.heap[g]? = some (.cells (PCells s vb vs) 70 (0, 0)) ∧
    (w1.setCell ⟨g, 3, none⟩ v').heap[g]? = some (.cells (PCells s vb v') 70 (0, 0)) ∧
    OwnM (w1.setCell ⟨g, 3, none⟩ v') 34 2 v' n' xs' ∧ OwnM (w1.setCell ⟨g, 3, none⟩ v') 5 1 vb n xs ∧ Turns g w (w1.setCell ⟨g, 3, none⟩ v') := by
  have hap : vs.ownBlock ≠ some g := hs.apart hb (by decide)
  have hb1 : w1.heap[g]? = _ := (hg.block g (blk_lt hb) (Ne.symm hap)).trans hb
  have hb2 : (w1.setCell ⟨g, 3, none⟩ v').heap[g]? = some (.cells (PCells s vb v') 70 (0, 0)) := by simpa [PCells] using blk_set (j := 3) hb1 v'
  have hK : Kept (pS g w) w (w1.setCell ⟨g, 3, none⟩ v') := ((Kept.refl (pS g w) w).grown hg (fun k hk _ => (pS_of hb k).2 (Or.inr (Or.inr hk)))).setCell (p := ⟨g, 3, none⟩) (Or.inl rfl) _
  refine ⟨hb1, hb2, ?_, ?_, hK, ?_⟩
  · have k : Kept (fun k => k = g) w1 (w1.setCell ⟨g, 3, none⟩ v') := (Kept.refl (fun k => k = g) w1).setCell (p := ⟨g, 3, none⟩) rfl _
    exact ho1.kept k (fun i hi e => ho1.apart hb1 (by decide) (by rw [hi, e]))
  · have k : Kept (fun k => k = g ∨ vs.ownBlock = some k) w (w1.setCell ⟨g, 3, none⟩ v') := ((Kept.refl (fun k => k = g ∨ vs.ownBlock = some k) w).grown hg (fun k hk _ => Or.inr hk)).setCell (p := ⟨g, 3, none⟩) (Or.inl rfl) _
    refine ho.kept k (fun i hi e => ?_)
    rcases e with rfl | e
    · exact ho.apart hb (by decide) hi
    · rcases hs.ex with ⟨rfl, _⟩ | ⟨g', cap, cur, fz, rfl, hh, _⟩
      · simp [Value.ownBlock] at e
      · simp [Value.ownBlock] at e
        subst e
        exact ho.apart hh (by decide) hi
  · intro k hk1 hp
    rcases (pS_of hb2 k).1 hp with rfl | h | h
    · exact Or.inl rfl
    · exact (pS_of hb k).2 (Or.inr (Or.inl h))
    · exact (pS_of hb k).2 (Or.inr (Or.inr (hk k hk1 h)))
theorem Bt.kept {S : Nat → Prop} {w w' : World} {v : Value} {l : List UInt8} (h : Bt w v l) (k : Kept S w w') (hv : ∀ i, v.ownBlock = some i → ¬ S i) : Bt w' v l := by
  obtain ⟨ao, cap, rfl, h2, h3⟩ := h
  refine ⟨ao, cap, rfl, h2, fun h0 => ?_⟩
  obtain ⟨b, off, rfl, hc⟩ := h3 h0
  exact ⟨b, off, rfl, fun j hj => Kept.cell k (hv b rfl) (hc j hj)⟩
theorem PSt.app_ok {s : PSt} (h : s.Ok) (c : List UInt8) : (s.app c).Ok := by
  unfold PSt.app
  split
  · rename_i h0
    have hf : s.shut = false := by
      cases hs : s.shut
      · rfl
      · unfold PSt.appErr at h0; rw [hs] at h0; cases h0
    have hc : c.length ≠ 0 := by
      intro e
      unfold PSt.appErr at h0; rw [hf, e] at h0; cases h0
    have hl : ¬ s.left < c.length := by
      intro e
      unfold PSt.appErr at h0; rw [hf, if_neg (by simp), if_neg hc, if_pos e] at h0; cases h0
    unfold PSt.left at hl
    rw [hf, if_neg (by simp)] at hl
    refine ⟨h.s0, h.s1, h.c0, h.c1, h.i, ?_, ?_, by have := h.t1; simp; omega⟩
    · have e : ({ s with chunks := s.chunks ++ [c] } : PSt).bs.length = s.bs.length + 8 + c.length := by
        rw [PSt.bs_len, PSt.bs_len, bodyB_append, List.length_append]
        simp [bodyB, slotB_len]
        omega
      rw [e]
      show s.bs.length + 8 + c.length + 16 ≤ s.size * s.sectors
      omega
    · intro x hx
      rcases List.mem_append.1 hx with hx | hx
      · exact h.n x hx
      · simp at hx
        subst hx
        rintro rfl
        exact hc rfl
  · exact h
/-- What Append comes to. -/
theorem app_end {g : Nat} {s : PSt} {w w9 WF : World} {vb vs : Value} {c : List UInt8} (hsp : s.app c = { s with chunks := s.chunks ++ [c] }) (ok : (s.app c).Ok)
    (F3 : w9.heap[g]? = some (.cells (PCells s vb vs) 70 (0, 0)))
    (F5 : OwnM w9 5 1 vb (s.bs.length + 8 + c.length) (s.bs.map U8 ++ Lib.strCells ⟨(slotB c).toArray⟩ ++ c.map U8))
    (F4 : OwnM w9 34 2 vs (s.slots.length + 1) (slotCells s.slots ++ [.int .i64 ((s.bs.length : Int) + 8), .int .i64 (c.length : Int)]))
    (KF : Kept (fun k => k = w.heap.size) w9 WF) (T8 : Turns g w w9) (NR : ∀ i, pS g w9 i → i ≠ w.heap.size) (hlt : g < w.heap.size) (nt : ¬ pS g w 0) : PW g (s.app c) WF ∧ Turns g w WF := by
  have ebs : (s.app c).bs = s.bs ++ slotB c ++ c := by rw [hsp]; simp [PSt.bs, bodyB_append, bodyB]
  have esl : (s.app c).slots = s.slots ++ [(s.bs.length + 8, c.length)] := by rw [hsp]; simp only [PSt.slots, slotsFrom_append, slotsFrom, s.bs_len]
  have hp := pS_of F3
  have hb : WF.heap[g]? = some (.cells (PCells (s.app c) vb vs) 70 (0, 0)) := by
    have h1 := blk_kept KF (NR g ((hp g).2 (Or.inl rfl))) F3
    have e : PCells (s.app c) vb vs = PCells s vb vs := by rw [hsp]; rfl
    rw [e]
    exact h1
  have hpp : ∀ i, pS g WF i ↔ pS g w9 i := fun i => (pS_of hb i).trans (hp i).symm
  refine ⟨⟨⟨vb, vs, hb, ?_, ?_⟩, ok, fun e => ?_⟩, T8.kept.trans' KF (fun i hi e => by omega), fun k hk hr => T8.row k hk ((hpp k).1 hr)⟩
  · have h1 := F5.kept KF (fun i hi => NR i ((hp i).2 (Or.inr (Or.inl hi))))
    have e1 : (s.app c).bs.length = s.bs.length + 8 + c.length := by rw [ebs]; simp [slotB_len]; omega
    have e2 : (s.app c).bs.map U8 = s.bs.map U8 ++ Lib.strCells ⟨(slotB c).toArray⟩ ++ c.map U8 := by rw [ebs, List.map_append, List.map_append]; rfl
    rw [e1, e2]
    exact h1
  · have h1 := F4.kept KF (fun i hi => NR i ((hp i).2 (Or.inr (Or.inr hi))))
    have e1 : (s.app c).slots.length = s.slots.length + 1 := by rw [esl]; simp
    have e2 : slotCells (s.app c).slots = slotCells s.slots ++ [.int .i64 ((s.bs.length : Int) + 8), .int .i64 (c.length : Int)] := by rw [esl, slotCells_append]; simp [slotCells]
    rw [e1, e2]
    exact h1
  · exact nt (T8.row _ (by omega) ((hpp _).1 e))
end Go.Proofs.YtafdkfieajdeiaaDoor
