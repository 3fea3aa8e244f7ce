/- The document's Frame, walked. -/
import Derived.Test.YtilkpboegpfijaaDoorFrameP
import Derived.Deep.RegionHeld3
import Derived.Deep.RegionLaw
import Derived.Deep.RegionWith
import Derived.Deep.DrawnRows
namespace Go.Proofs.YtilkpboegpfijaaDoor
open Go.RowKit
set_option linter.unusedVariables false
attribute [local go_sem ↓] Go.wp_at_zero Go.wp_at_succ

/-- Two bytes out of a block as a text. -/
theorem two_string (kind : Nat) (hk : kind < 256) (W : World) (g : Nat) (h0 : W.cell? ⟨g, 0, none⟩ = some (.int .u8 (kind : Int))) (h1 : W.cell? ⟨g, 1, none⟩ = some (.int .u8 0)) :
    (convert 51 9 (.slice (some ⟨g, 0, none⟩) 2 2)).run Tryd.prog W = .ok (.string ⟨#[UInt8.ofNat kind, 0]⟩) W := by
  refine run_convert_bytes_back W 51 9 5 ⟨g, 0, none⟩ 2 [UInt8.ofNat kind, 0] Tryd.underlying51 Tryd.underlying5 Tryd.underlying9 ?_
  intro j hj
  have hadd : (⟨g, 0, none⟩ : Addr).add j = ⟨g, j, none⟩ := by unfold Addr.add; split <;> simp_all
  rw [hadd]
  match j, hj with
  | 0, _ =>
    rw [h0]
    have := byte_wrap kind
    have e : IntKind.u8.wrap (kind : Int) = (kind : Int) := by rw [IntKind.wrap_u8']; omega
    rw [e] at this
    rw [this]
    rfl
  | 1, _ => rw [h1]; rfl
theorem fr_app (a b : ByteArray) : (a ++ b).data.toList = a.data.toList ++ b.data.toList := by simp
theorem fr_size (l : List UInt8) : (⟨l.toArray⟩ : ByteArray).size = l.length := ba_size l
end Go.Proofs.YtilkpboegpfijaaDoor
