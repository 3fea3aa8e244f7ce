/- A map in memory: Delete, Rank, Fork. -/
import Derived.Test.YtelngbkbdihdnaaM11
namespace Go.Proofs.Ytelngbkbdihdnaa
open Go.RowKit
set_option linter.unusedVariables false
theorem lk_none_del {k : ByteArray} {l : List Kv} (h : (lk k l).isSome = false) : delL k l = l := by
  refine delL_none (fun a ha => ?_)
  cases e : eqK a.1 k
  · rfl
  · exfalso
    have : (l.find? (fun a => eqK a.1 k)).isSome = true := List.find?_isSome.2 ⟨a, ha, e⟩
    unfold lk at h
    rw [Option.isSome_map, this] at h
    cases h
set_option maxHeartbeats 2000000 in
set_option maxRecDepth 100000 in
theorem delete_any {B g : Nat} {l : List Kv} {w : World} (h : MP B g l w) (k : ByteArray) (hl : l.length ≤ 562949953421312) :
    Calls Try.prog 25 #[.pointer (some ⟨g, 0, none⟩), .string k] w fun e w' => e = .returned (.tuple #[.int .i64 ((lk k l).getD 0), .bool (lk k l).isSome]) ∧ MP B g (delL k l) w' ∧ Kept (fun i => i = g) w w' := by
  have HG := hidden (get_any h k)
  have HM := hidden h
  obtain ⟨v, t, h1, h2, h3⟩ := h.ex
  obtain ⟨p, rfl⟩ := h2.ptr
  have HW := hidden (without_any k h2 (by rw [h3]; exact h.st) (by rw [← T.list_len, h3]; exact hl))
  have c0 : w.cell? ⟨g, 0, none⟩ = some (.pointer p) := blk_cell h1
  have H1 := hidden h1
  have H3 := hidden h3
  have HST := hidden h.st
  have HN := hidden (fun e => lk_none_del (k := k) (l := l) e)
  have hlg := h.lg
  clear h h1 h2 h3
  generalize (lk k l).getD 0 = y at *
  generalize (lk k l).isSome = b at *
  have HN : Hid (b = false → delL k l = l) := HN.out
  cases b
  · go_enter Try.func25, Try.ntmps25
    go_wp2_with (go_at_call 30; go_must (refine (HG.out).mono ?_; rintro e w1 ⟨rfl, rfl⟩))
    go_returns
    have e := HN.out trivial
    exact ⟨rfl, by rw [e]; exact HM.out, Kept.refl _ _⟩
  · go_enter Try.func25, Try.ntmps25
    go_wp2_with (first
      | (go_at_call 30; go_must (refine (HG.out).mono ?_; rintro e w1 ⟨rfl, rfl⟩))
      | (go_at_call 50; go_must (refine (HW.out).mono ?_; rintro e w1 ⟨v1, t1, rfl, hv1, hl1, k1⟩; obtain ⟨p1, rfl⟩ := hv1.ptr; have b1 := blk_kept k1 (fun h => h) H1.out; have x0 : w1.cell? ⟨g, 0, none⟩ = some (.pointer p) := blk_cell b1; have y0 : w1.frozen? ⟨g, 0, none⟩ = false := blk_free b1; have V1 := hidden hv1; have L1 := hidden hl1; have K1 := hidden k1; have B1 := hidden b1; clear hv1 hl1 k1 b1)))
    go_returns
    have kk : Kept (fun i => i = g) w1 (w1.setCell ⟨g, 0, none⟩ (.pointer p1)) := (Kept.refl (fun i => i = g) w1).setCell (p := ⟨g, 0, none⟩) rfl _
    refine ⟨rfl, ⟨⟨.pointer p1, t1, blk_set (j := 0) B1.out _, V1.out.kept kk (fun i cs hi e => ?_), by rw [L1.out, H3.out]⟩, HST.out.del k, hlg⟩, (K1.out.mono (fun _ _ h => h.elim)).trans kk⟩
    rw [e, B1.out] at hi
    simp at hi
set_option maxHeartbeats 2000000 in
set_option maxRecDepth 100000 in
theorem rankM_any {B g : Nat} {l : List Kv} {w : World} (h : MP B g l w) (k : ByteArray) (hl : l.length ≤ 562949953421312) :
    Calls Try.prog 31 #[.pointer (some ⟨g, 0, none⟩), .string k] w fun e w' => e = .returned (.int .i64 (rkL k l)) ∧ w = w' := by
  obtain ⟨v, t, h1, h2, h3⟩ := h.ex
  obtain ⟨p, rfl⟩ := h2.ptr
  have HI := hidden (items_any (g := g) (p := p) (w := w) (blk_cell h1))
  have HR := hidden (rank_any k h2 (by rw [h3]; exact h.st) (by rw [← T.list_len, h3]; omega))
  rw [h3] at HR
  clear h h1 h2 h3
  generalize rkL k l = n at *
  go_enter Try.func31, Try.ntmps31
  go_wp2_with (first
    | (go_at_call 55; go_must (refine (HI.out).mono ?_; rintro e w1 ⟨rfl, rfl⟩))
    | (go_at_call 61; go_must (refine (HR.out).mono ?_; rintro e w1 ⟨rfl, rfl⟩)))
  go_returns
  exact ⟨rfl, rfl⟩
end Go.Proofs.Ytelngbkbdihdnaa
