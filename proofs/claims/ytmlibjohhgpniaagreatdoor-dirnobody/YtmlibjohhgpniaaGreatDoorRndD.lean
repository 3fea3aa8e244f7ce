/- A drawn region inside a round is walked as outside of it; where a key stands in a sorted list. -/
import Derived.Test.YtmlibjohhgpniaaGreatDoorRgT
namespace Go.Proofs.YtmlibjohhgpniaaGreatDoor
open Go.RowKit Go.Shelf
theorem op_inRound {F : Fence} {l n : Nat} {P : Program} {o : Oper} {a : Act} {w : World} {next : Act → World → Prop} {Q : Exit → Act → World → Prop} (hro : F.round = none) (hs : o.semAt (some l) a.eval = o.semAt none a.eval) (h : Oper.wpIn F n P o a w next Q) : Oper.wpIn (F.inRound l) n P o a w next Q := by
  unfold Oper.wpIn at *
  refine ⟨h.1, ?_⟩
  have h2 := h.2
  rw [hro] at h2
  rw [Fence.inRound_round, hs]
  generalize (o.semAt none a.eval).run P w = r at *
  cases r with
  | ok x w' => cases x <;> exact h2
  | halt x w' => cases x <;> exact h2
theorem wpAnyIn_inRound {F : Fence} {l n : Nat} {P : Program} {md : Region.Mode} {ops : Array Oper} {Q : Exit → Act → World → Prop} (hro : F.round = none) (hs : ∀ (i : Nat) (o : Oper), ops[i]? = some o → ∀ e, o.semAt (some l) e = o.semAt none e) : ∀ (fuel : Nat) (listed : Array Bool) (a : Act) (w : World), wpAnyIn F n P md ops Q fuel listed a w → wpAnyIn (F.inRound l) n P md ops Q fuel listed a w
  | 0, _, _, _, h => h
  | fuel + 1, listed, a, w, h => ⟨h.1, fun i hi => by
      have hh := h.2 i hi
      unfold wpOpIn at *
      split
      · rename_i e
        simp only [e] at hh
        exact wpAnyIn_inRound hro hs fuel _ _ _ hh
      · rename_i o ho
        simp only [ho] at hh
        split
        · rename_i hw
          simp only [hw, if_true] at hh
          exact op_inRound hro (hs i o ho _) (Oper.wpIn_mono (fun a w h => wpAnyIn_inRound hro hs fuel _ a w h) hh)
        · rename_i hw
          simp only [hw] at hh
          exact ⟨hh.1, wpAnyIn_inRound hro hs fuel _ _ _ hh.2⟩⟩
def isDefer : Op → Bool
  | .defer _ => true
  | _ => false
theorem semAt_same {ops : List Oper} {l : Nat} (h : (ops.all fun o => !isDefer o.op) = true) (i : Nat) (o : Oper) (ho : ops.toArray[i]? = some o) (e : Operand → Value) : o.semAt (some l) e = o.semAt none e := by
  have hm : o ∈ ops := by
    rw [List.getElem?_toArray] at ho
    exact List.mem_of_getElem? ho
  have := List.all_eq_true.1 h o hm
  rw [Oper.semAt_some _ _ _ (fun c hc => by rw [hc] at this; simp [isDefer] at this)]
  rfl
end Go.Proofs.YtmlibjohhgpniaaGreatDoor
