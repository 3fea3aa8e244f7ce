/- A Disk whatever its power is: Read, Image. -/
import Derived.Test.YteoajgphahobiaaY1
namespace Go.Proofs.Yteoajgphahobiaa
open Go.RowKit
set_option linter.unusedVariables false
set_option maxHeartbeats 1000000 in
set_option maxRecDepth 100000 in
theorem y_read (n pb c pc rb rc g i : Nat) (qv : Value) (xs : List Value) (lim : Bool) (lf : Int) (r wn f : Nat) (v : Value) (l : List UInt8) (w : World)
    (hb : w.heap[g]? = some (.cells (DP n pb c pc rb rc qv lim lf r wn f) 74 (0, 0))) (ho : w.ownsRow 0 22 1 (.slice (some ⟨rb, 0, none⟩) c rc) c xs)
    (hi : i < c) (hx : xs[i]? = some v) (hv : Byt w v l) (hvn : ∀ a k cap, v = .slice (some a) k cap → a.block ≠ g) (hl : l.length ≤ 4096) (hr : r ≤ 4398046511104) :
    Calls Try.prog 29 #[.pointer (some ⟨g, 0, none⟩), .int .i64 i] w fun e w' => ∃ u, e = .returned (.tuple #[u, .int .i64 0]) ∧ Own w' u l w.heap.size ∧ w'.heap[g]? = some (.cells (DP n pb c pc rb rc qv lim lf (r + 1) wn f) 74 (0, 0)) ∧ Kept (fun k => k = g) w w' := by
  have c1 : w.cell? ⟨g, 1, none⟩ = some (.slice (some ⟨pb, 0, none⟩) c pc) := blk_cell hb
  have c2 : w.cell? ⟨g, 2, none⟩ = some (.slice (some ⟨rb, 0, none⟩) c rc) := blk_cell hb
  have c6 : w.cell? ⟨g, 6, none⟩ = some (.int .i64 r) := blk_cell hb
  have f6 : w.frozen? ⟨g, 6, none⟩ = false := blk_free hb
  have A := hidden (d_has g pb c pc i w c1 hi)
  have hcx := (own_cell ho v hx).1
  have hne : rb ≠ g := fun e => own_apart ho hb (by decide) (by rw [← e]; rfl)
  have HBY := hidden (hv.setCell (g := g) (j := 6) (u := .int .i64 ((r : Int) + 1)) hvn)
  have HB := hidden hb
  obtain ⟨va, vc, rfl⟩ := hv.form
  clear hv hvn hb ho
  have q0 : (0 : Int) ≤ (i : Int) := Int.natCast_nonneg _
  have q1 : (i : Int) < (c : Int) := by omega
  go_enter Try.func29, Try.ntmps29
  go_wp2_with (first
    | (go_at_call 43; refine (A.out).mono ?_; rintro e w1 ⟨rfl, rfl⟩)
    | (go_at_call 40; refine (d_sectorOf _ l _ HBY.out (by omega)).mono ?_; rintro e w2 ⟨u, rfl, hu, k2⟩))
  go_returns
  refine ⟨u, rfl, hu.weak (by simp [World.setCell]), blk_kept k2 (fun h => h) ?_, ((Kept.refl (fun k => k = g) w).setCell (p := ⟨g, 6, none⟩) rfl _).trans' k2 (fun _ _ h => h.elim)⟩
  exact blk_set (j := 6) HB.out _
set_option maxHeartbeats 1000000 in
set_option maxRecDepth 100000 in
theorem y_image (n pb c pc rb rc g : Nat) (qv : Value) (lim : Bool) (lf : Int) (r wn f : Nat) (ps : List Value) (pl : List (List UInt8)) (w : World) (hn : n ≤ 4096) (h0 : 1 ≤ n) (hc : c ≤ 4096)
    (hb : w.heap[g]? = some (.cells (DP n pb c pc rb rc qv lim lf r wn f) 74 (0, 0))) (hp : w.ownsRow 0 22 1 (.slice (some ⟨pb, 0, none⟩) c pc) c ps) (hpl : pl.length = c) (hln : ∀ l ∈ pl, l.length = n)
    (hO : ∀ i (h : i < ps.length) (h' : i < pl.length), Own w ps[i] pl[i] 0) :
    Calls Try.prog 15 #[.pointer (some ⟨g, 0, none⟩)] w fun e w' => ∃ u, e = .returned u ∧ Own w' u pl.flatten w.heap.size ∧ Same w w' := by
  have c0 : w.cell? ⟨g, 0, none⟩ = some (.int .i64 n) := blk_cell hb
  have c1 : w.cell? ⟨g, 1, none⟩ = some (.slice (some ⟨pb, 0, none⟩) c pc) := blk_cell hb
  have hle : n * c ≤ 4096 * 4096 := Nat.mul_le_mul hn hc
  have hmk := make_bytes (n * c) (by omega)
  have hp0 : (n : Int) * (c : Int) = ((n * c : Nat) : Int) := (Int.natCast_mul _ _).symm
  have hZ : (List.replicate (n * c) (U8 0)).toArray = ((imgTo pl 0 (n * c)).map U8).toArray := by unfold imgTo; simp
  rw [hZ] at hmk
  have hcp := fun (k : Nat) (hk : k < c) (u : Value) (W : World) hu ib hg => copy_img n c k pl hpl hln hk u W hu ib hg
  have hfin : pl.flatten.length = n * c := by rw [flat_len hln, hpl, Nat.mul_comm]
  have hend : imgTo pl c (n * c) = pl.flatten := by
    unfold imgTo
    rw [List.take_of_length_le (by omega), hfin, Nat.sub_self, List.replicate_zero, List.append_nil]
  have HCP := hidden hcp
  have HE := hidden hend
  have HFI := hidden hfin
  have HB := hidden hb
  have HP := hidden hp
  have HO := hidden hO
  clear hcp hZ hend hfin hp hO
  generalize hL : n * c = L at *
  have hw : IntKind.i64.wrap ((n : Int) * (c : Int)) = (L : Int) := by rw [hp0, IntKind.wrap_i64]; omega
  have hc0 : ∀ o, (w.alloc o).cell? ⟨g, 0, none⟩ = some (.int .i64 n) := fun o => blk_cell (blk_alloc hb o)
  have hc1 : ∀ o, (w.alloc o).cell? ⟨g, 1, none⟩ = some (.slice (some ⟨pb, 0, none⟩) c pc) := fun o => blk_cell (blk_alloc hb o)
  have hnew := World.new_ne w ⟨g, 0, none⟩ c0
  have HH : Hid (((w.alloc (.cells ((imgTo pl 0 L).map U8).toArray 5)).drew).heap[w.heap.size]? = some (.cells ((imgTo pl 0 L).map U8).toArray 5 (0, 0))) := heap_alloc_new w _
  generalize hZZ : ((imgTo pl 0 L).map U8).toArray = Z at hmk HH
  have HZZ := hidden hZZ
  clear hp0 hb hZZ
  go_enter Try.func15, Try.ntmps15
  go_wp2
  go_region_held3 (fun w' => w'.cell? ⟨g, 0, none⟩ = some (.int .i64 n) ∧ w'.cell? ⟨g, 1, none⟩ = some (.slice (some ⟨pb, 0, none⟩) c pc)) (go_keep) (fail)
  go_wp2
  go_loopw [24] (fun i wr => ∃ k : Nat, k ≤ c ∧ i = .int .i64 k ∧ wr.heap[w.heap.size]? = some (.cells ((imgTo pl k L).map U8).toArray 5 (0, 0)) ∧ Same w wr) (fun i wr => c - (intOf i).toNat)
  case atStart => exact ⟨0, Nat.zero_le _, rfl, by rw [HZZ.out]; exact HH.out, (same_alloc _ _).drew⟩
  case round =>
    obtain ⟨k, hk, rfl, hb1, hK⟩ := hrel
    have d0 : wr.cell? ⟨g, 0, none⟩ = some (.int .i64 n) := Kept.cell hK (fun h => h) c0
    have HB1 := hidden hb1
    have HK := hidden hK
    clear hb1 hK hc0 hc1
    by_cases hlt : k < c
    · have hpsl : ps.length = c := by simpa using HP.out.1
      have hrow := own_kept HP.out HK.out (fun _ _ h => h)
      obtain ⟨p1, p2⟩ := own_cell hrow ps[k] (List.getElem?_eq_getElem (by omega))
      have hO1 := HO.out k (by omega) (by omega)
      have hcpk := HCP.out k hlt ps[k] wr (hO1.same HK.out).byt w.heap.size HB1.out
      obtain ⟨ua, uc, hue⟩ := hO1.byt.form
      rw [hue] at p1 hcpk
      have hkn : k * n + n ≤ L := by
        have h1 : (k + 1) * n ≤ c * n := Nat.mul_le_mul_right _ (by omega)
        rw [Nat.add_mul, Nat.one_mul, Nat.mul_comm c n, hL] at h1
        exact h1
      have hkp : (k : Int) * (n : Int) = ((k * n : Nat) : Int) := (Int.natCast_mul _ _).symm
      generalize hO2 : k * n = off at *
      have hw2 : IntKind.i64.wrap ((k : Int) * (n : Int)) = (off : Int) := by rw [hkp, IntKind.wrap_i64]; omega
      have q0 : (0 : Int) ≤ (k : Int) := Int.natCast_nonneg _
      have q1 : (k : Int) < (c : Int) := by omega
      have q2 : (0 : Int) ≤ (off : Int) := Int.natCast_nonneg _
      have q3 : (off : Int) ≤ (L : Int) := by omega
      have q4 : (off : Int) < (L : Int) := by omega
      generalize (pl[k]).length = ul at p1 hcpk
      have hne9 : L - off ≠ 0 := by omega
      clear hkp hrow
      go_wp2
      go_roundw
      case rel => exact ⟨k + 1, by omega, by go_num, setRow_heap _ _ _ _ _ _ HB1.out, same_setRow HK.out (Nat.le_refl _) _⟩
      case measure => simp [intOf]; omega
    · obtain rfl : k = c := by omega
      have q1 : ¬ (k : Int) < (k : Int) := by omega
      go_wp2
      go_returns
      refine ⟨_, rfl, ⟨w.heap.size, Nat.le_refl _, ?_, ?_⟩, HK.out⟩
      · rw [HFI.out]; rfl
      · rw [HB1.out, HE.out]
end Go.Proofs.Yteoajgphahobiaa
