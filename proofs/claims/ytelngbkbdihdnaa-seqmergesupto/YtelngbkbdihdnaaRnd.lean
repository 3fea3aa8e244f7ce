/- A drawn region inside a round is walked as outside of it; where a key stands in a sorted list. -/
import Derived.Test.YtelngbkbdihdnaaM14
namespace Go.Proofs.Ytelngbkbdihdnaa
open Go.RowKit Go.Shelf
theorem op_inRound {F : Fence} {l n : Nat} {P : Program} {o : Oper} {a : Act} {w : World} {next : Act → World → Prop} {Q : Exit → Act → World → Prop} (hro : F.round = none) (hs : o.semAt (some l) a.eval = o.semAt none a.eval) (h : Oper.wpIn F n P o a w next Q) : Oper.wpIn (F.inRound l) n P o a w next Q := by
  unfold Oper.wpIn at *
  refine ⟨h.1, ?_⟩
  have h2 := h.2
  rw [hro] at h2
  rw [Fence.inRound_round, hs]
  generalize (o.semAt none a.eval).run P w = r at *
  cases r with
  | ok x w' => cases x <;> exact h2
  | halt x w' => cases x <;> exact h2
theorem wpAnyIn_inRound {F : Fence} {l n : Nat} {P : Program} {md : Region.Mode} {ops : Array Oper} {Q : Exit → Act → World → Prop} (hro : F.round = none) (hs : ∀ (i : Nat) (o : Oper), ops[i]? = some o → ∀ e, o.semAt (some l) e = o.semAt none e) : ∀ (fuel : Nat) (listed : Array Bool) (a : Act) (w : World), wpAnyIn F n P md ops Q fuel listed a w → wpAnyIn (F.inRound l) n P md ops Q fuel listed a w
  | 0, _, _, _, h => h
  | fuel + 1, listed, a, w, h => ⟨h.1, fun i hi => by
      have hh := h.2 i hi
      unfold wpOpIn at *
      split
      · rename_i e
        simp only [e] at hh
        exact wpAnyIn_inRound hro hs fuel _ _ _ hh
      · rename_i o ho
        simp only [ho] at hh
        split
        · rename_i hw
          simp only [hw, if_true] at hh
          exact op_inRound hro (hs i o ho _) (Oper.wpIn_mono (fun a w h => wpAnyIn_inRound hro hs fuel _ a w h) hh)
        · rename_i hw
          simp only [hw] at hh
          exact ⟨hh.1, wpAnyIn_inRound hro hs fuel _ _ _ hh.2⟩⟩
theorem split_at {l : List Kv} {i : Nat} {a : ByteArray} {y : Int} (hi : l[i]? = some (a, y)) : ∃ p q, l = p ++ (a, y) :: q ∧ p.length = i := by
  obtain ⟨h, e⟩ := List.getElem?_eq_some_iff.1 hi
  refine ⟨l.take i, l.drop (i + 1), ?_, by simp; omega⟩
  rw [← e, ← List.drop_eq_getElem_cons h, List.take_append_drop]
theorem lk_at {l : List Kv} {i : Nat} {a : ByteArray} {y : Int} (hs : Srt l) (hi : l[i]? = some (a, y)) : lk a l = some y := by
  obtain ⟨p, q, rfl, _⟩ := split_at hi
  obtain ⟨_, _, h3, _, _⟩ := srt_split hs
  unfold lk
  rw [List.find?_append, lk_none (l := p) (fun b hb => eqK_lt (h3 b hb))]
  simp [eqK_self]
theorem rk_at {l : List Kv} {i : Nat} {a : ByteArray} {y : Int} (hs : Srt l) (hi : l[i]? = some (a, y)) : rkL a l = i := by
  obtain ⟨p, q, rfl, hp⟩ := split_at hi
  rw [rk_ge hs (ordS.rf a)]
  obtain ⟨_, _, h3, _, _⟩ := srt_split hs
  unfold rkL
  rw [List.filter_eq_self.2 (fun b hb => h3 b hb)]
  exact hp
def isDefer : Op → Bool
  | .defer _ => true
  | _ => false
theorem semAt_same {ops : List Oper} {l : Nat} (h : (ops.all fun o => !isDefer o.op) = true) (i : Nat) (o : Oper) (ho : ops.toArray[i]? = some o) (e : Operand → Value) : o.semAt (some l) e = o.semAt none e := by
  have hm : o ∈ ops := by
    rw [List.getElem?_toArray] at ho
    exact List.mem_of_getElem? ho
  have := List.all_eq_true.1 h o hm
  rw [Oper.semAt_some _ _ _ (fun c hc => by rw [hc] at this; simp [isDefer] at this)]
  rfl
end Go.Proofs.Ytelngbkbdihdnaa
