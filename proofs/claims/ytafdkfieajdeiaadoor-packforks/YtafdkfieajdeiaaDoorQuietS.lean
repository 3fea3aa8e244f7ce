/- A region that draws its order, whose operations only read and whose callees leave what was there: one walk of the text's order serves every order. Of no program. -/
import Derived.Test.YtafdkfieajdeiaaDoorBase
import Derived.Deep.Quiet
namespace Go.Proofs.YtafdkfieajdeiaaDoor
open Go.RowKit

/-- The worlds in which nothing that was there has turned. -/
structure Later (w : World) where
  world : World
  kept : Kept (fun _ => False) w world
theorem region_later {P : Program} {id : Nat} {Q : Exit → Act → World → Prop} {a : Act} {w : World} {l : List Oper} (hm : P.follows .mixedOrders = true) (hB : Region.lexB .any l.toArray = true)
    (h : wpQuiet P l.toArray (fun w' => ∃ V : Later w, w' = V.world) (fun a' => ∀ w', (∃ V : Later w, w' = V.world) → Q .normal a' w') l a) : (Code.region id l.toArray true).wp P Q a w :=
  wp_region_quiet (C := fun w' => ∃ V : Later w, w' = V.world) hm hB ⟨⟨w.drew, (Kept.refl _ w).drew⟩, rfl⟩ (by simpa using h)
theorem later_calls {P : Program} {f : FuncId} {args : Array Value} {w : World} {v : Value} (V : Later w)
    (h : Calls P f args V.world fun e w' => e = .returned v ∧ Kept (fun _ => False) V.world w') : Calls P f args V.world fun e w'' => e = .returned v ∧ ∃ V' : Later w, w'' = V'.world :=
  h.mono fun _ w' ⟨he, hk⟩ => ⟨he, ⟨w', V.kept.trans hk⟩, rfl⟩
instance later_one (w : World) : Nonempty (Later w) := ⟨⟨w, Kept.refl _ w⟩⟩
end Go.Proofs.YtafdkfieajdeiaaDoor
