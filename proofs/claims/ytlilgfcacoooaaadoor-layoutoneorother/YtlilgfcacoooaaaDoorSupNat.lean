/- A superblock that may be has no number below 0. -/
import Derived.Test.YtlilgfcacoooaaaDoorLayQ
namespace Go.Proofs.YtlilgfcacoooaaaDoor
open Go.RowKit
set_option linter.unusedVariables false
/-- A superblock that may be has no number below 0. -/
theorem sup_nat {gen : Nat} {root sector sectors journal pack cmin cnorm cmax : Int} {seed : Nat} {nbits : Int} {dd : Bool} (hg : gen < 18446744073709551616) (hs : seed < 18446744073709551616) (h : supErr sectors journal root (Shp sector sectors journal pack cmin cnorm cmax nbits) = 0) :
    ∃ root' sector' sectors' journal' pack' cmin' cnorm' cmax' nbits' : Nat, root = root' ∧ sector = sector' ∧ sectors = sectors' ∧ journal = journal' ∧ pack = pack' ∧ cmin = cmin' ∧ cnorm = cnorm' ∧ cmax = cmax' ∧ nbits = nbits' ∧ Sup gen root' sector' sectors' journal' pack' cmin' cnorm' cmax' seed nbits' dd := by
  have hsp : Shp sector sectors journal pack cmin cnorm cmax nbits := by
    apply Classical.byContradiction
    intro hn
    unfold supErr at h
    rw [if_neg hn] at h
    cases h
  have hr : 0 ≤ root := by
    apply Classical.byContradiction
    intro hn
    unfold supErr at h
    rw [if_pos hsp, if_pos ⟨by omega, by unfold kindOf; rw [if_pos (by omega)]; decide⟩] at h
    cases h
  have h' := hsp
  obtain ⟨⟨p1, _, _⟩, ⟨p2, _⟩, ⟨p3, _⟩, ⟨p4, _⟩, ⟨⟨p5, _, _⟩, ⟨p6, _⟩, ⟨p7, _⟩, _⟩, p8, _⟩ := h'
  obtain ⟨root, rfl⟩ := Int.eq_ofNat_of_zero_le hr
  obtain ⟨sector, rfl⟩ := Int.eq_ofNat_of_zero_le (show 0 ≤ sector by omega)
  obtain ⟨sectors, rfl⟩ := Int.eq_ofNat_of_zero_le (show 0 ≤ sectors by omega)
  obtain ⟨journal, rfl⟩ := Int.eq_ofNat_of_zero_le (show 0 ≤ journal by omega)
  obtain ⟨pack, rfl⟩ := Int.eq_ofNat_of_zero_le (show 0 ≤ pack by omega)
  obtain ⟨cmin, rfl⟩ := Int.eq_ofNat_of_zero_le (show 0 ≤ cmin by omega)
  obtain ⟨cnorm, rfl⟩ := Int.eq_ofNat_of_zero_le (show 0 ≤ cnorm by omega)
  obtain ⟨cmax, rfl⟩ := Int.eq_ofNat_of_zero_le (show 0 ≤ cmax by omega)
  obtain ⟨nbits, rfl⟩ := Int.eq_ofNat_of_zero_le p8
  exact ⟨root, sector, sectors, journal, pack, cmin, cnorm, cmax, nbits, rfl, rfl, rfl, rfl, rfl, rfl, rfl, rfl, rfl, hg, hs, hsp, h⟩
end Go.Proofs.YtlilgfcacoooaaaDoor
