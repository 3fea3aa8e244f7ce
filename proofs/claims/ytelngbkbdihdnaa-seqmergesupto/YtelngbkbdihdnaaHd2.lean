/- seq's heap of heads: climb. -/
import Derived.Test.YtelngbkbdihdnaaHd1
namespace Go.Proofs.Ytelngbkbdihdnaa
open Go.RowKit
set_option linter.unusedVariables false
def flH (l : List Hd) : List Value := l.flatMap fun h => [h.v, .int .i64 (h.p : Int)]
theorem flH_cons (p : Hd) (l : List Hd) : flH (p :: l) = p.v :: .int .i64 (p.p : Int) :: flH l := rfl
theorem flH_len : ∀ l : List Hd, (flH l).length = l.length * 2
  | [] => rfl
  | p :: l => by rw [flH_cons, List.length_cons, List.length_cons, flH_len l, List.length_cons]; omega
theorem flH_app (a b : List Hd) : flH (a ++ b) = flH a ++ flH b := List.flatMap_append
theorem flH_at : ∀ (l : List Hd) (j : Nat) (hj : j < l.length), (flH l)[j * 2]? = some l[j].v ∧ (flH l)[j * 2 + 1]? = some (.int .i64 (l[j].p : Int))
  | [], j, h => by simp at h
  | p :: l, 0, _ => ⟨rfl, rfl⟩
  | p :: l, j + 1, h => by
    have := flH_at l j (by simp at h; omega)
    rw [flH_cons, show (j + 1) * 2 = j * 2 + 2 by omega]
    simpa using this
theorem flH_set (x : Hd) : ∀ (l : List Hd) (i : Nat), flH (l.set i x) = ((flH l).set (i * 2) x.v).set (i * 2 + 1) (.int .i64 (x.p : Int))
  | [], i => by simp [flH]
  | p :: l, 0 => by simp [flH_cons]
  | p :: l, i + 1 => by
    rw [List.set_cons_succ, flH_cons, flH_cons, flH_set x l i, show (i + 1) * 2 = i * 2 + 1 + 1 by omega]
    simp
theorem flH_take : ∀ (l : List Hd) (i : Nat), flH (l.take i) = (flH l).take (i * 2)
  | [], i => by simp [flH]
  | p :: l, 0 => by simp [flH]
  | p :: l, i + 1 => by
    rw [List.take_succ_cons, flH_cons, flH_cons, flH_take l i, show (i + 1) * 2 = i * 2 + 1 + 1 by omega]
    simp
theorem hown_set {w : World} {B g n cap i : Nat} {e : TypeId} {L : List Hd} (h : w.ownsRow B e 2 (.slice (some ⟨g, 0, none⟩) n cap) n (flH L)) (x : Hd) :
    ((w.setCell ⟨g, i * 2, none⟩ x.v).setCell ⟨g, i * 2 + 1, none⟩ (.int .i64 (x.p : Int))).ownsRow B e 2 (.slice (some ⟨g, 0, none⟩) n cap) n (flH (L.set i x)) := by
  obtain ⟨h1, h2⟩ := h
  refine ⟨by rw [flH_len] at h1 ⊢; simpa using h1, ?_⟩
  rcases h2 with ⟨h2, _⟩ | ⟨g', cap', cur, hv, hb, hg, hn, hc, hs, ht⟩
  · cases h2
  · obtain ⟨rfl, rfl⟩ : g = g' ∧ cap = cap' := by simpa using hv
    refine Or.inr ⟨g, cap, (cur.setIfInBounds (i * 2) x.v).setIfInBounds (i * 2 + 1) (.int .i64 (x.p : Int)), rfl, hb, blk_set (blk_set hg _) _, hn, hc, by simpa using hs, ?_⟩
    rw [Array.toList_setIfInBounds, Array.toList_setIfInBounds, List.take_set, List.take_set, ht, flH_set]
theorem hown_cell {w : World} {B g n cap i : Nat} {e : TypeId} {L : List Hd} (h : w.ownsRow B e 2 (.slice (some ⟨g, 0, none⟩) n cap) n (flH L)) (hi : i < L.length) :
    w.cell? ⟨g, i * 2, none⟩ = some L[i].v ∧ w.cell? ⟨g, i * 2 + 1, none⟩ = some (.int .i64 (L[i].p : Int)) ∧ ∀ j, w.frozen? ⟨g, j, none⟩ = false := by
  have h1 := h.cells (g := g) rfl _ _ (flH_at L i hi).1
  have h2 := h.cells (g := g) rfl _ _ (flH_at L i hi).2
  rw [add_none, Nat.zero_add] at h1 h2
  exact ⟨h1, h2, fun j => own_free h⟩
/-- A head that may stand in the heap at block b. -/
structure HdOk (b : Nat) (w : World) (x : Hd) : Prop where
  at_ : HdAt w x
  pl : x.p ≤ 1073741824
  ap : x.v.ownBlock ≠ some b
theorem HdOk.kept {b : Nat} {w w' : World} {x : Hd} (h : HdOk b w x) (k : Kept (fun k => k = b) w w') : HdOk b w' x := ⟨h.at_.kept k (fun q hq e => h.ap (by rw [hq, e])), h.pl, h.ap⟩
abbrev befV : Value := .func (.func 63) #[] #[]
set_option maxHeartbeats 1000000 in
set_option maxRecDepth 100000 in
theorem climb_H (b cap n : Nat) (L : List Hd) (w : World) (hL : L.length = n) (h1 : 1 ≤ n) (hn : n ≤ 1073741824) (hb : w.ownsRow 0 103 2 (.slice (some ⟨b, 0, none⟩) n cap) n (flH L)) (hA : ∀ x ∈ L, HdOk b w x) (hU : Up ltH L (n - 1)) :
    Calls Try.prog 62 #[.slice (some ⟨b, 0, none⟩) n cap, befV] w fun e w' => e = .returned (.tuple #[]) ∧ ∃ L', L'.Perm L ∧ IsHeap ltH L' ∧ w'.ownsRow 0 103 2 (.slice (some ⟨b, 0, none⟩) n cap) n (flH L') ∧ Kept (fun k => k = b) w w' := by
  have HU := hidden hU
  have HB := hidden hb
  have HL := hidden hL
  have HA : Hid (∀ W, Kept (fun k => k = b) w W → ∀ x ∈ L, HdOk b W x) := fun W kk x hx => (hA x hx).kept kk
  clear hU hb hL hA
  go_enter Try.func62, Try.ntmps62
  go_wp2
  go_loopw [4] (fun iv wr => ∃ (i : Nat) (L' : List Hd), i < n ∧ iv = .int .i64 i ∧ L'.length = n ∧ L'.Perm L ∧ Up ltH L' i ∧ wr.ownsRow 0 103 2 (.slice (some ⟨b, 0, none⟩) n cap) n (flH L') ∧ Kept (fun k => k = b) w wr) (fun iv wr => (intOf iv).toNat)
  case atStart => exact ⟨n - 1, L, by omega, by first | rfl | (congr 1; omega), HL.out, List.Perm.refl _, HU.out, HB.out, Kept.refl _ _⟩
  case round =>
    obtain ⟨i, L', hi, rfl, hl, hP, hU, hb, hK⟩ := hrel
    have HP := hidden hP
    have HUi := hidden hU
    have HBi := hidden hb
    have HK := hidden hK
    have HLi := hidden hl
    by_cases h0 : 0 < i
    · obtain ⟨p, hp⟩ : ∃ p : Nat, p = (i - 1) / 2 := ⟨_, rfl⟩
      have hpi : ((i : Int) - 1) / 2 = (p : Int) := by omega
      have hpl : p < L'.length := by omega
      have hil : i < L'.length := by omega
      obtain ⟨c1, c2, c1f⟩ := hown_cell hb hil
      obtain ⟨c3, c4, c3f⟩ := hown_cell hb hpl
      obtain ⟨x, hx⟩ : ∃ x, L'[i] = x := ⟨_, rfl⟩
      obtain ⟨y, hy⟩ : ∃ y, L'[p] = y := ⟨_, rfl⟩
      rw [hx] at c1 c2
      rw [hy] at c3 c4
      have hxm : x ∈ L := hP.mem_iff.1 (hx ▸ List.getElem_mem hil)
      have hym : y ∈ L := hP.mem_iff.1 (hy ▸ List.getElem_mem hpl)
      have hle : Hid (∀ W, Kept (fun k => k = b) w W → Calls Try.prog 63 #[kH x, kH y] W fun e w' => e = .returned (.bool (ltH x y)) ∧ Same W w') := fun W kk => before_any x y W (HA.out W kk x hxm).at_ (HA.out W kk y hym).at_ (HA.out W kk x hxm).pl (HA.out W kk y hym).pl
      obtain ⟨b1, o1, n1, z1, hv1, -, -⟩ := (HA.out w (Kept.refl _ _) x hxm).at_
      obtain ⟨b2, o2, n2, z2, hv2, -, -⟩ := (HA.out w (Kept.refl _ _) y hym).at_
      generalize hlt : ltH x y = bo at hle
      have HLT := hidden hlt
      have HX := hidden hx
      have HY := hidden hy
      have HPP := hidden hp
      have q0 : (0 : Int) < (i : Int) := by omega
      have q1 : (p : Int) < (n : Int) := by omega
      have q2 : (i : Int) < (n : Int) := by omega
      have q3 : (0 : Int) ≤ (p : Int) := Int.natCast_nonneg _
      clear hP hU hb hK hl hx hy hp hlt hxm hym c3f
      obtain ⟨xv, xk, xp⟩ := x
      obtain ⟨yv, yk, yp⟩ := y
      dsimp only [kH] at hle c1 c2 c3 c4 hv1 hv2
      subst hv1 hv2
      cases bo
      · go_wp2
        simp only [hpi]
        go_region_held3 (fun w' => w'.cell? ⟨b, i * 2, none⟩ = some (.slice (some ⟨b1, o1, none⟩) n1 z1) ∧ w'.cell? ⟨b, i * 2 + 1, none⟩ = some (.int .i64 (xp : Int)) ∧ w'.cell? ⟨b, p * 2, none⟩ = some (.slice (some ⟨b2, o2, none⟩) n2 z2) ∧ w'.cell? ⟨b, p * 2 + 1, none⟩ = some (.int .i64 (yp : Int))) (go_keep) (first
          | (go_at_call 63; go_must (refine (hle.out _ (HK.out.drew)).mono ?_; rintro e w3 ⟨rfl, k3⟩; have k4 : Same wr w3 := ((Kept.refl (fun _ => False) wr).drew).trans k3; have e1 : w3.cell? ⟨b, i * 2, none⟩ = some (.slice (some ⟨b1, o1, none⟩) n1 z1) := Kept.cell k4 (fun h => h) c1; have e2 : w3.cell? ⟨b, i * 2 + 1, none⟩ = some (.int .i64 (xp : Int)) := Kept.cell k4 (fun h => h) c2; have e3 : w3.cell? ⟨b, p * 2, none⟩ = some (.slice (some ⟨b2, o2, none⟩) n2 z2) := Kept.cell k4 (fun h => h) c3; have e4 : w3.cell? ⟨b, p * 2 + 1, none⟩ = some (.int .i64 (yp : Int)) := Kept.cell k4 (fun h => h) c4; have K4 := hidden k4; clear k3 k4)))
        go_wp2
        go_returns
        exact ⟨rfl, L', HP.out, up_done HUi.out (Or.inr ⟨hil, h0, by simp only [← HPP.out, HX.out, HY.out]; exact HLT.out⟩), own_kept HBi.out K4.out (fun _ _ h => h), HK.out.trans' K4.out (fun _ _ h => h.elim)⟩
      · go_wp2
        simp only [hpi]
        go_region_held3 (fun w' => w'.cell? ⟨b, i * 2, none⟩ = some (.slice (some ⟨b1, o1, none⟩) n1 z1) ∧ w'.cell? ⟨b, i * 2 + 1, none⟩ = some (.int .i64 (xp : Int)) ∧ w'.cell? ⟨b, p * 2, none⟩ = some (.slice (some ⟨b2, o2, none⟩) n2 z2) ∧ w'.cell? ⟨b, p * 2 + 1, none⟩ = some (.int .i64 (yp : Int))) (go_keep) (first
          | (go_at_call 63; go_must (refine (hle.out _ (HK.out.drew)).mono ?_; rintro e w3 ⟨rfl, k3⟩; have k4 : Same wr w3 := ((Kept.refl (fun _ => False) wr).drew).trans k3; have e1 : w3.cell? ⟨b, i * 2, none⟩ = some (.slice (some ⟨b1, o1, none⟩) n1 z1) := Kept.cell k4 (fun h => h) c1; have e2 : w3.cell? ⟨b, i * 2 + 1, none⟩ = some (.int .i64 (xp : Int)) := Kept.cell k4 (fun h => h) c2; have e3 : w3.cell? ⟨b, p * 2, none⟩ = some (.slice (some ⟨b2, o2, none⟩) n2 z2) := Kept.cell k4 (fun h => h) c3; have e4 : w3.cell? ⟨b, p * 2 + 1, none⟩ = some (.int .i64 (yp : Int)) := Kept.cell k4 (fun h => h) c4; have K4 := hidden k4; clear k3 k4)))
        go_wp2
        have HB3 := hidden (own_kept HBi.out K4.out (fun _ _ h => h))
        have HK3 := hidden (HK.out.trans' K4.out (fun _ _ h => h.elim))
        have e5 : ∀ j, w3.frozen? ⟨b, j, none⟩ = false := fun j => own_free HB3.out
        clear c1 c2 c3 c4 c1f hle
        go_region
        go_wp2
        go_roundw
        case rel =>
          refine ⟨p, swp L' i p hil hpl, by omega, by first | rfl | (rw [hpi]), by rw [swp_len]; exact HLi.out, (swp_perm _ _ _ _ _).trans HP.out, up_swap ordH HUi.out hil h0 HPP.out (by rw [HX.out, HY.out]; exact HLT.out), ?_, ?_⟩
          · have z := hown_set (i := p) (hown_set (i := i) (own_kept HB3.out ((Kept.refl (fun _ => False) w3).drew) (fun _ _ h => h)) ⟨.slice (some ⟨b2, o2, none⟩) n2 z2, yk, yp⟩) ⟨.slice (some ⟨b1, o1, none⟩) n1 z1, xk, xp⟩
            have e : swp L' i p hil hpl = (L'.set i ⟨.slice (some ⟨b2, o2, none⟩) n2 z2, yk, yp⟩).set p ⟨.slice (some ⟨b1, o1, none⟩) n1 z1, xk, xp⟩ := by rw [swp, HX.out, HY.out]
            rw [e]
            exact z
          · exact ((((HK3.out.drew).setCell (p := ⟨b, i * 2, none⟩) rfl _).setCell (p := ⟨b, i * 2 + 1, none⟩) rfl _).setCell (p := ⟨b, p * 2, none⟩) rfl _).setCell (p := ⟨b, p * 2 + 1, none⟩) rfl _
        case measure => simp [intOf]; omega
    · obtain rfl : i = 0 := by omega
      clear hP hU hb hK hl
      go_wp2
      go_returns
      exact ⟨rfl, L', HP.out, up_done HUi.out (Or.inl rfl), HBi.out, HK.out⟩
end Go.Proofs.Ytelngbkbdihdnaa
