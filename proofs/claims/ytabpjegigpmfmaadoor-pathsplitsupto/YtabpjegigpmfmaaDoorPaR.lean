/- path: Parent of both sides. -/
import Derived.Test.YtabpjegigpmfmaaDoorPaS
import Derived.Test.YtabpjegigpmfmaaDoorPaJ
namespace Go.Proofs.YtabpjegigpmfmaaDoor
open Go.RowKit
set_option linter.unusedVariables false
set_option linter.unusedSimpArgs false
/-- What Parent tells. -/
def parE (P : List UInt8) : Int := if splE P ≠ 0 then splE P else if (pc [] P).length = 0 then 236 else 0
def parL (P : List UInt8) : List (List UInt8) := if parE P = 0 then (pc [] P).dropLast else []
def parN (P : List UInt8) : List UInt8 := if parE P = 0 then (pc [] P).getLast?.getD [] else []
structure PaR (w : World) (u : Value) (P : List UInt8) : Prop where
  ex : ∃ v, u = .tuple #[v, .string (BA (parN P)), .int .i64 (parE P)] ∧ Row w v (TS ((parL P).map BA))
theorem PaR.no {w : World} {P : List UInt8} {z : Int} (h : parE P = z) (h0 : z ≠ 0) : PaR w (.tuple #[.slice none 0 0, .string ⟨#[]⟩, .int .i64 z]) P := by
  refine ⟨.slice none 0 0, ?_, ?_⟩
  · unfold parN
    rw [if_neg (by rw [h]; exact h0), h]
    rfl
  · unfold parL
    rw [if_neg (by rw [h]; exact h0)]
    exact Row.nil _
set_option maxHeartbeats 2000000 in
set_option maxRecDepth 100000 in
theorem parent_any (p : ByteArray) (hp : p.size ≤ 140737488355328) (w : World) : Calls Tryd.prog 12 #[.string p] w fun e w' => ∃ u, e = .returned u ∧ PaR w' u p.data.toList ∧ Same w w' := by
  have HSp := hidden (split_any p hp)
  obtain ⟨P, hP⟩ : ∃ P, P = p.data.toList := ⟨_, rfl⟩
  rw [← hP] at HSp ⊢
  clear hP
  have HSp2 : Hid (∀ W, Calls Tryd.prog 10 #[.string p] W fun e w' => ∃ v, e = .returned (.tuple #[v, .int .i64 (splE P)]) ∧ OwnT W.heap.size w' v ((splL P).map BA) ∧ Same W w') := hidden (fun W => (HSp.out W).mono fun e w' ⟨u, he, ⟨v, hu, ho⟩, k⟩ => ⟨v, by rw [he, hu], ho, k⟩)
  clear HSp
  by_cases h0 : splE P = 0
  · have h512 := (splE_zero.1 h0).2.1
    have hsl : splL P = pc [] P := by unfold splL; rw [if_pos h0]
    have hlen : (pc [] P).length ≤ 513 := by have := pc_len P []; simp at this; omega
    rw [hsl, h0] at HSp2
    have hE : parE P = if (pc [] P).length = 0 then 236 else 0 := by unfold parE; rw [if_neg (by rw [h0]; simp)]
    obtain ⟨L, hL⟩ : ∃ L, L = pc [] P := ⟨_, rfl⟩
    have hPL : parE P = 0 → parL P = L.dropLast ∧ parN P = L.getLast?.getD [] := fun e => by
      unfold parL parN
      rw [if_pos e, if_pos e, hL]
      exact ⟨rfl, rfl⟩
    rw [← hL] at HSp2 hE hlen
    have HPL := hidden hPL
    clear hL hPL hsl h512 h0
    by_cases h1 : L.length = 0
    · rw [if_pos h1] at hE
      have q1 : ((L.length : Nat) : Int) = 0 := by omega
      have HE := hidden hE
      obtain rfl := List.length_eq_zero_iff.1 h1
      clear hE h1
      go_enter Tryd.func12, Tryd.ntmps12
      go_wp2_with (go_at_call 10; refine (HSp2.out _).mono ?_; rintro e w1 ⟨v, rfl, ho, k1⟩; have HK := hidden k1; obtain ⟨va, vc, rfl⟩ := ho.form; clear k1 ho)
      go_returns
      exact ⟨_, rfl, PaR.no HE.out (by decide), HK.out⟩
    · rw [if_neg h1] at hE
      obtain ⟨e1, e2⟩ := HPL.out hE
      have HE := hidden hE
      have HE1 := hidden e1
      have HE2 := hidden e2
      obtain ⟨j, hj⟩ : ∃ j, L.length = j + 1 := ⟨L.length - 1, by omega⟩
      have hjl : j < (L.map BA).length := by rw [List.length_map]; omega
      have HD := hidden (show (L.map BA).take j = L.dropLast.map BA by rw [List.dropLast_eq_take, hj, ← List.map_take]; rfl)
      have HG := hidden (show (L.map BA)[j] = BA (L.getLast?.getD []) by rw [List.getElem_map, List.getLast?_eq_getElem?, show L.length - 1 = j by omega, List.getElem?_eq_getElem (by omega)]; rfl)
      have q0 : ¬ ((j + 1 : Nat) : Int) = 0 := by omega
      have q0' : ¬ (j : Int) + 1 = 0 := by omega
      have q1 : ((j + 1 : Nat) : Int) - 1 = (j : Int) := by omega
      have q1' : (j : Int) + 1 - 1 = (j : Int) := by omega
      have q2 : IntKind.i64.wrap (j : Int) = (j : Int) := by rw [IntKind.wrap_i64]; omega
      have q3 : (0 : Int) ≤ (j : Int) := Int.natCast_nonneg _
      have q4 : (j : Int) < ((j + 1 : Nat) : Int) := by omega
      have q4' : (j : Int) < (j : Int) + 1 := by omega
      have HJ := hidden hj
      clear hE e1 e2 h1
      go_enter Tryd.func12, Tryd.ntmps12
      go_wp2_with (go_at_call 10; refine (HSp2.out _).mono ?_; rintro e w1 ⟨v, rfl, ho, k1⟩; have HK := hidden k1; have HO := hidden ho.row; obtain ⟨va, vc, rfl⟩ := ho.form; rw [List.length_map, HJ.out] at HO ⊢; clear k1 ho; obtain ⟨g, off, rfl, hc⟩ := HO.out.text (j := j) hjl; rw [HG.out] at hc; obtain ⟨pp, xr, xR, -, xa⟩ := strs_head HO.out (j := j) (by omega) (j : Int) rfl; obtain rfl := xa _ _ rfl; have XR := hidden xR; clear xR xa)
      go_quiet (fail)
      go_wp2
      go_returns
      refine ⟨_, rfl, ⟨_, by rw [HE.out, HE2.out]; rfl, ?_⟩, HK.out.trans ((Kept.refl _ _).drewN _)⟩
      rw [HE1.out, ← HD.out]
      exact XR.out _ ((Kept.refl _ _).drewN _)
  · have hE : parE P = splE P := by unfold parE; rw [if_pos h0]
    have HE := hidden hE
    have q0 : splE P ≠ 0 := h0
    obtain ⟨z, hz⟩ : ∃ z, z = splE P := ⟨_, rfl⟩
    rw [← hz] at HE q0 HSp2
    clear hE hz h0
    go_enter Tryd.func12, Tryd.ntmps12
    go_wp2_with (go_at_call 10; refine (HSp2.out _).mono ?_; rintro e w1 ⟨v, rfl, ho, k1⟩; have HK := hidden k1; obtain ⟨va, vc, rfl⟩ := ho.form; clear k1 ho)
    go_returns
    exact ⟨_, rfl, PaR.no HE.out q0, HK.out⟩
set_option maxHeartbeats 2000000 in
set_option maxRecDepth 100000 in
theorem parentD_any (p : ByteArray) (hp : p.size ≤ 140737488355328) (w : World) : Calls Tryd.prog 13 #[.string p] w fun e w' => ∃ u, e = .returned u ∧ PaR w' u p.data.toList ∧ Same w w' := by
  have HSp := hidden (splitD_any p hp)
  obtain ⟨P, hP⟩ : ∃ P, P = p.data.toList := ⟨_, rfl⟩
  rw [← hP] at HSp ⊢
  clear hP
  have HSp2 : Hid (∀ W, Calls Tryd.prog 11 #[.string p] W fun e w' => ∃ v, e = .returned (.tuple #[v, .int .i64 (splE P)]) ∧ OwnT W.heap.size w' v ((splL P).map BA) ∧ Same W w') := hidden (fun W => (HSp.out W).mono fun e w' ⟨u, he, ⟨v, hu, ho⟩, k⟩ => ⟨v, by rw [he, hu], ho, k⟩)
  clear HSp
  by_cases h0 : splE P = 0
  · have h512 := (splE_zero.1 h0).2.1
    have hsl : splL P = pc [] P := by unfold splL; rw [if_pos h0]
    have hlen : (pc [] P).length ≤ 513 := by have := pc_len P []; simp at this; omega
    rw [hsl, h0] at HSp2
    have hE : parE P = if (pc [] P).length = 0 then 236 else 0 := by unfold parE; rw [if_neg (by rw [h0]; simp)]
    obtain ⟨L, hL⟩ : ∃ L, L = pc [] P := ⟨_, rfl⟩
    have hPL : parE P = 0 → parL P = L.dropLast ∧ parN P = L.getLast?.getD [] := fun e => by
      unfold parL parN
      rw [if_pos e, if_pos e, hL]
      exact ⟨rfl, rfl⟩
    rw [← hL] at HSp2 hE hlen
    have HPL := hidden hPL
    clear hL hPL hsl h512 h0
    by_cases h1 : L.length = 0
    · rw [if_pos h1] at hE
      have q1 : ((L.length : Nat) : Int) = 0 := by omega
      have HE := hidden hE
      obtain rfl := List.length_eq_zero_iff.1 h1
      clear hE h1
      go_enter Tryd.func13, Tryd.ntmps13
      go_wp2_with (go_at_call 11; refine (HSp2.out _).mono ?_; rintro e w1 ⟨v, rfl, ho, k1⟩; have HK := hidden k1; obtain ⟨va, vc, rfl⟩ := ho.form; clear k1 ho)
      go_returns
      exact ⟨_, rfl, PaR.no HE.out (by decide), HK.out⟩
    · rw [if_neg h1] at hE
      obtain ⟨e1, e2⟩ := HPL.out hE
      have HE := hidden hE
      have HE1 := hidden e1
      have HE2 := hidden e2
      obtain ⟨j, hj⟩ : ∃ j, L.length = j + 1 := ⟨L.length - 1, by omega⟩
      have hjl : j < (L.map BA).length := by rw [List.length_map]; omega
      have HD := hidden (show (L.map BA).take j = L.dropLast.map BA by rw [List.dropLast_eq_take, hj, ← List.map_take]; rfl)
      have HG := hidden (show (L.map BA)[j] = BA (L.getLast?.getD []) by rw [List.getElem_map, List.getLast?_eq_getElem?, show L.length - 1 = j by omega, List.getElem?_eq_getElem (by omega)]; rfl)
      have q0 : ¬ ((j + 1 : Nat) : Int) = 0 := by omega
      have q0' : ¬ (j : Int) + 1 = 0 := by omega
      have q1 : ((j + 1 : Nat) : Int) - 1 = (j : Int) := by omega
      have q1' : (j : Int) + 1 - 1 = (j : Int) := by omega
      have q2 : IntKind.i64.wrap (j : Int) = (j : Int) := by rw [IntKind.wrap_i64]; omega
      have q3 : (0 : Int) ≤ (j : Int) := Int.natCast_nonneg _
      have q4 : (j : Int) < ((j + 1 : Nat) : Int) := by omega
      have q4' : (j : Int) < (j : Int) + 1 := by omega
      have HJ := hidden hj
      clear hE e1 e2 h1
      go_enter Tryd.func13, Tryd.ntmps13
      go_wp2_with (go_at_call 11; refine (HSp2.out _).mono ?_; rintro e w1 ⟨v, rfl, ho, k1⟩; have HK := hidden k1; have HO := hidden ho.row; obtain ⟨va, vc, rfl⟩ := ho.form; rw [List.length_map, HJ.out] at HO ⊢; clear k1 ho; obtain ⟨g, off, rfl, hc⟩ := HO.out.text (j := j) hjl; rw [HG.out] at hc; obtain ⟨pp, xr, xR, -, xa⟩ := strs_head HO.out (j := j) (by omega) (j : Int) rfl; obtain rfl := xa _ _ rfl; have XR := hidden xR; clear xR xa)
      go_quiet (fail)
      go_wp2
      go_returns
      refine ⟨_, rfl, ⟨_, by rw [HE.out, HE2.out]; rfl, ?_⟩, HK.out.trans ((Kept.refl _ _).drewN _)⟩
      rw [HE1.out, ← HD.out]
      exact XR.out _ ((Kept.refl _ _).drewN _)
  · have hE : parE P = splE P := by unfold parE; rw [if_pos h0]
    have HE := hidden hE
    have q0 : splE P ≠ 0 := h0
    obtain ⟨z, hz⟩ : ∃ z, z = splE P := ⟨_, rfl⟩
    rw [← hz] at HE q0 HSp2
    clear hE hz h0
    go_enter Tryd.func13, Tryd.ntmps13
    go_wp2_with (go_at_call 11; refine (HSp2.out _).mono ?_; rintro e w1 ⟨v, rfl, ho, k1⟩; have HK := hidden k1; obtain ⟨va, vc, rfl⟩ := ho.form; clear k1 ho)
    go_returns
    exact ⟨_, rfl, PaR.no HE.out q0, HK.out⟩
end Go.Proofs.YtabpjegigpmfmaaDoor
