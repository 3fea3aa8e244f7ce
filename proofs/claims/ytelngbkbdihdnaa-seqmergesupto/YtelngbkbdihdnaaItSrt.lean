/- slices.Sort and Sorted of texts. -/
import Derived.Test.YtelngbkbdihdnaaItVal
import Derived.Test.YtelngbkbdihdnaaShf
import Derived.Sort.OwnSorted
namespace Go.Proofs.Ytelngbkbdihdnaa
open Go.RowKit Go.Sort Go.Shelf
set_option linter.unusedVariables false
def mkB (s : List UInt8) : ByteArray := ⟨s.toArray⟩
theorem mkB_list (s : List UInt8) : (mkB s).toList = s := by unfold mkB; rw [Lib.toList_data]
theorem mkB_of (x : ByteArray) : mkB x.toList = x := bytes_ext (mkB_list _)
theorem enc_str (x : ByteArray) : encStr x.toList = .string x := congrArg Value.string (mkB_of x)
def srtB (l : List ByteArray) : List ByteArray := ((l.map (·.toList)).mergeSort fun x y => decide (x ≤ y)).map mkB
theorem srtB_len (l : List ByteArray) : (srtB l).length = l.length := by simp [srtB]
theorem srtB_rise (l : List ByteArray) : Rise (srtB l) := by
  have hp : ((l.map (·.toList)).mergeSort fun x y => decide (x ≤ y)).Pairwise (fun a b => decide (a ≤ b) = true) :=
    List.pairwise_mergeSort (fun a b c h1 h2 => by simp only [decide_eq_true_eq] at *; exact List.le_trans h1 h2) (fun a b => by simp only [Bool.or_eq_true, decide_eq_true_eq]; exact List.le_total a b) _
  intro i j hi hj hij
  unfold ltS
  rw [decide_eq_false_iff_not, List.not_lt]
  simp only [srtB, List.getElem_map, mkB_list]
  rcases Nat.lt_or_ge i j with h | h
  · have := List.pairwise_iff_getElem.1 hp i j (by simpa [srtB] using hi) (by simpa [srtB] using hj) h
    simpa using this
  · obtain rfl : i = j := by omega
    exact List.le_refl _
theorem srtB_mem (l : List ByteArray) (x : ByteArray) : memS (srtB l) x = memS l x := by
  have hp : ((l.map (·.toList)).mergeSort fun x y => decide (x ≤ y)).Perm (l.map (·.toList)) := List.mergeSort_perm _ _
  have e : ∀ k : List ByteArray, memS k x = (k.map (·.toList)).any (fun s => s == x.toList) := fun k => by unfold memS; rw [List.any_map]; rfl
  have e2 : (srtB l).map (·.toList) = (l.map (·.toList)).mergeSort fun x y => decide (x ≤ y) := by
    unfold srtB
    rw [List.map_map]
    conv => rhs; rw [← List.map_id ((l.map (·.toList)).mergeSort fun x y => decide (x ≤ y))]
    exact List.map_congr_left (fun s _ => mkB_list s)
  rw [e, e, e2]
  exact hp.any_eq
theorem sort_str {B g cap : Nat} {l : List ByteArray} {w : World} (h : w.ownsRow B 9 1 (.slice (some ⟨g, 0, none⟩) l.length cap) l.length (l.map Value.string)) (hl : l.length * 16 ≤ 140737488355328) :
    Calls Try.prog 84 #[.slice (some ⟨g, 0, none⟩) l.length cap] w fun e w' => e = .returned (.tuple #[]) ∧ w'.ownsRow B 9 1 (.slice (some ⟨g, 0, none⟩) l.length cap) l.length ((srtB l).map Value.string) ∧ Kept (fun k => k = g) w w' := by
  rcases h.2 with ⟨e, _⟩ | ⟨g', cap', cur, hv, hb, hg, hn, hc, hs, ht⟩
  · cases e
  · obtain ⟨rfl, rfl⟩ : g = g' ∧ cap = cap' := by simpa using hv
    have hH : Holds encStr w g 0 (l.map (·.toList)).toArray := fun j hj => by
      have hjl : j < l.length := by simpa using hj
      have hc1 := (own_cell h (i := j) (Value.string l[j]) (by rw [List.getElem?_map, List.getElem?_eq_getElem hjl]; rfl))
      rw [Nat.zero_add]
      refine ⟨?_, hc1.2⟩
      rw [hc1.1]
      simp [hjl, enc_str]
    have key := AnyM.slices_Sort_string sortLay g 0 cap (l.map (·.toList)) w hH (blk_lt hg) (by simp; omega)
    rw [List.length_map] at key
    refine key.mono ?_
    rintro e w' ⟨rfl, q, os, rfl⟩
    refine ⟨rfl, ?_, (Kept.refl (fun k => k = g) w).grown (grownBy_sorted _) (fun k e _ => by simpa using e.symm)⟩
    have h9 := ownsRow_sorted (w := w) (n := q) (os := os) (ss := l.map (·.toList)) (ts := (l.map (·.toList)).mergeSort fun x y => decide (x ≤ y)) (by simp) hb hg (by simpa using hn) hc (by simpa using hs)
    rw [List.length_map] at h9
    have e3 : ((l.map (·.toList)).mergeSort fun x y => decide (x ≤ y)).map encStr = (srtB l).map Value.string := by
      unfold srtB
      rw [List.map_map]
      rfl
    rw [e3] at h9
    exact h9
set_option maxHeartbeats 1000000 in
set_option maxRecDepth 100000 in
theorem sorted_any {l : List ByteArray} {a : Option Addr} {cap b : Nat} {w : World} (h : w.cell? ⟨b, 0, none⟩ = some (.slice a l.length cap)) (hl : l.length * 16 ≤ 140737488355328) (hc : ∀ j (hj : j < l.length), ∃ ad, a = some ad ∧ w.cell? (ad.add j) = some (.string l[j])) :
    Calls Try.prog 67 #[.func (.func 85) #[] #[.pointer (some ⟨b, 0, none⟩)]] w fun e w' => ∃ u, e = .returned u ∧ w'.ownsRow w.heap.size 9 1 u l.length ((srtB l).map Value.string) ∧ Same w w' := by
  have HA := hidden (collect_any h hl hc)
  clear h hc
  go_enter Try.func67, Try.ntmps67
  rcases Nat.eq_zero_or_pos l.length with h0 | hp
  · have hl0 : l = [] := List.length_eq_zero_iff.1 h0
    subst hl0
    go_wp2_with (first
      | (go_at_call 83; go_must (refine (HA.out).mono ?_; rintro e w1 ⟨u, rfl, h1, k1⟩; have H1 := hidden h1; have K1 := hidden k1; obtain ⟨ua, uc, rfl⟩ := own_form h1; clear h1 k1))
      | (go_at_call 84; go_must (refine (AnyM.slices_Sort_string_none sortLay _ _ _).mono ?_; rintro e w2 ⟨rfl, rfl⟩)))
    go_returns
    exact ⟨_, rfl, by rw [show srtB [] = [] from List.length_eq_zero_iff.1 (srtB_len [])]; exact H1.out, K1.out⟩
  · go_wp2_with (first
      | (go_at_call 83; go_must (refine (HA.out).mono ?_; rintro e w1 ⟨u, rfl, h1, k1⟩; have H1 := hidden h1; have K1 := hidden k1; obtain ⟨g, uc, rfl, hbg, hgl⟩ := h1.form hp; have HBG := hidden hbg; clear h1 k1))
      | (go_at_call 84; go_must (refine (sort_str H1.out hl).mono ?_; rintro e w2 ⟨rfl, o2, k2⟩; have O2 := hidden o2; have K2 := hidden (K1.out.trans' k2 (fun i hi e => by have := HBG.out; omega)); clear o2 k2)))
    go_returns
    exact ⟨_, rfl, O2.out, K2.out⟩
end Go.Proofs.Ytelngbkbdihdnaa
