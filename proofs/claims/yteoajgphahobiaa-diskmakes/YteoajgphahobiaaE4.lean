/- disk's Image. -/
import Derived.Test.YteoajgphahobiaaE1
namespace Go.Proofs.Yteoajgphahobiaa
open Go.RowKit
set_option linter.unusedVariables false
/-- The bytes of sectors, and zeros behind. -/
def imgTo (pl : List (List UInt8)) (k L : Nat) : List UInt8 := (pl.take k).flatten ++ List.replicate (L - (pl.take k).flatten.length) 0
theorem flat_len {n : Nat} {pl : List (List UInt8)} (h : ∀ l ∈ pl, l.length = n) : pl.flatten.length = pl.length * n := by
  induction pl with
  | nil => simp
  | cons x t ih =>
    rw [List.flatten_cons, List.length_append, ih (fun l hl => h l (List.mem_cons_of_mem _ hl)), h x (List.mem_cons_self ..), List.length_cons, Nat.add_mul]
    omega
/-- copy(image[k*n:], b). -/
theorem copy_img (n c k : Nat) (pl : List (List UInt8)) (hpl : pl.length = c) (hn : ∀ l ∈ pl, l.length = n) (hk : k < c) (u : Value) (W : World) (hu : Byt W u pl[k]) (ib : Nat) (hg : W.heap[ib]? = some (.cells ((imgTo pl k (n * c)).map U8).toArray 5 (0, 0))) :
    (Builtin.copy_ #[22, 22] 3 #[.slice (some ⟨ib, k * n, none⟩) (n * c - k * n) (n * c - k * n), u]).run Try.prog W = .ok (goInt n) (W.setRow ib ((imgTo pl (k + 1) (n * c)).map U8).toArray) := by
  obtain ⟨i0, hi, hz0, hz1, hz2⟩ := info_parts info5
  have hl : (pl[k]).length = n := hn _ (List.getElem_mem _)
  have hkn : k * n + n ≤ n * c := by
    have h1 : (k + 1) * n ≤ c * n := Nat.mul_le_mul_right _ (by omega)
    rw [Nat.add_mul, Nat.one_mul, Nat.mul_comm c n] at h1
    exact h1
  have hf : ((pl.take k).flatten).length = k * n := by
    rw [flat_len (n := n) (fun l h => hn l (List.mem_of_mem_take h)), List.length_take, hpl, Nat.min_eq_left (by omega)]
  have hf1 : ((pl.take (k + 1)).flatten).length = k * n + n := by
    rw [flat_len (n := n) (fun l h => hn l (List.mem_of_mem_take h)), List.length_take, hpl, Nat.min_eq_left (by omega), Nat.add_mul, Nat.one_mul]
  have ht : (pl.take (k + 1)).flatten = (pl.take k).flatten ++ pl[k] := by
    rw [List.take_add_one, List.getElem?_eq_getElem (by omega), Option.toList_some, List.flatten_append, List.flatten_cons, List.flatten_nil, List.append_nil]
  have e : List.take (k * n) ((imgTo pl k (n * c)).map U8).toArray.toList ++ (pl[k]).map U8 ++ List.drop (k * n + (pl[k]).length) ((imgTo pl k (n * c)).map U8).toArray.toList = (imgTo pl (k + 1) (n * c)).map U8 := by
    unfold imgTo
    rw [List.toList_toArray, hf, hf1, ht, hl, ← List.map_take, ← List.map_drop, List.take_left' hf, List.drop_append, hf, List.drop_of_length_le (by omega), List.nil_append, Nat.add_sub_cancel_left, List.drop_replicate, Nat.sub_sub, List.map_append, List.map_append]
  rcases hu with ⟨rfl, h0⟩ | ⟨a, cap, rfl, hc⟩
  · have hn0 : n = 0 := by rw [h0] at hl; simpa using hl.symm
    rw [run_copy_nil (P := Try.prog) W 22 22 3 5 _ _ _ Try.underlying22 (by rw [hi]; simp)]
    rw [h0] at e
    simp only [List.map_nil, List.append_nil, List.length_nil, Nat.add_zero, List.take_append_drop] at e
    rw [← e, setRow_self W ib _ _ _ hg, hn0]
    rfl
  · have h := run_copy_row (P := Try.prog) W 22 22 3 5 ib (k * n) (n * c - k * n) (n * c - k * n) a (pl[k]).length cap _ _ ((pl[k]).map U8) Try.underlying22 (by rw [hi]; simp [hz1]) hg (by rw [List.length_map]; exact (Nat.min_eq_left (by omega)).symm)
      (fun j x hx => by
        rw [List.getElem?_map, Option.map_eq_some_iff] at hx
        obtain ⟨b, hx, rfl⟩ := hx
        obtain ⟨hj, rfl⟩ := List.getElem?_eq_some_iff.1 hx
        exact hc j hj) (by rw [List.length_map, hl]; unfold imgTo; simp only [List.size_toArray, List.length_map, List.length_append, List.length_replicate, hf]; omega) (fun x hx => by
        rw [List.mem_map] at hx
        obtain ⟨b, _, rfl⟩ := hx
        exact U8_one b)
    rw [h, List.length_map, e, hl]
set_option maxHeartbeats 1000000 in
set_option maxRecDepth 100000 in
theorem d_image (n pb c pc rb rc g : Nat) (qv : Value) (r wn f : Nat) (ps : List Value) (pl : List (List UInt8)) (w : World) (hn : n ≤ 4096) (h0 : 1 ≤ n) (hc : c ≤ 4096)
    (hb : w.heap[g]? = some (.cells (DC n pb c pc rb rc qv r wn f) 74 (0, 0))) (hp : w.ownsRow 0 22 1 (.slice (some ⟨pb, 0, none⟩) c pc) c ps) (hpl : pl.length = c) (hln : ∀ l ∈ pl, l.length = n)
    (hO : ∀ i (h : i < ps.length) (h' : i < pl.length), Own w ps[i] pl[i] 0) :
    Calls Try.prog 15 #[.pointer (some ⟨g, 0, none⟩)] w fun e w' => ∃ u, e = .returned u ∧ Own w' u pl.flatten w.heap.size ∧ Same w w' := by
  have c0 : w.cell? ⟨g, 0, none⟩ = some (.int .i64 n) := blk_cell hb
  have c1 : w.cell? ⟨g, 1, none⟩ = some (.slice (some ⟨pb, 0, none⟩) c pc) := blk_cell hb
  have hle : n * c ≤ 4096 * 4096 := Nat.mul_le_mul hn hc
  have hmk := make_bytes (n * c) (by omega)
  have hp0 : (n : Int) * (c : Int) = ((n * c : Nat) : Int) := (Int.natCast_mul _ _).symm
  have hZ : (List.replicate (n * c) (U8 0)).toArray = ((imgTo pl 0 (n * c)).map U8).toArray := by unfold imgTo; simp
  rw [hZ] at hmk
  have hcp := fun (k : Nat) (hk : k < c) (u : Value) (W : World) hu ib hg => copy_img n c k pl hpl hln hk u W hu ib hg
  have hfin : pl.flatten.length = n * c := by rw [flat_len hln, hpl, Nat.mul_comm]
  have hend : imgTo pl c (n * c) = pl.flatten := by
    unfold imgTo
    rw [List.take_of_length_le (by omega), hfin, Nat.sub_self, List.replicate_zero, List.append_nil]
  have HCP := hidden hcp
  have HE := hidden hend
  have HFI := hidden hfin
  have HB := hidden hb
  have HP := hidden hp
  have HO := hidden hO
  clear hcp hZ hend hfin hp hO
  generalize hL : n * c = L at *
  have hw : IntKind.i64.wrap ((n : Int) * (c : Int)) = (L : Int) := by rw [hp0, IntKind.wrap_i64]; omega
  have hc0 : ∀ o, (w.alloc o).cell? ⟨g, 0, none⟩ = some (.int .i64 n) := fun o => blk_cell (blk_alloc hb o)
  have hc1 : ∀ o, (w.alloc o).cell? ⟨g, 1, none⟩ = some (.slice (some ⟨pb, 0, none⟩) c pc) := fun o => blk_cell (blk_alloc hb o)
  have hnew := World.new_ne w ⟨g, 0, none⟩ c0
  have HH : Hid (((w.alloc (.cells ((imgTo pl 0 L).map U8).toArray 5)).drew).heap[w.heap.size]? = some (.cells ((imgTo pl 0 L).map U8).toArray 5 (0, 0))) := heap_alloc_new w _
  generalize hZZ : ((imgTo pl 0 L).map U8).toArray = Z at hmk HH
  have HZZ := hidden hZZ
  clear hp0 hb hZZ
  go_enter Try.func15, Try.ntmps15
  go_wp2
  go_region_held3 (fun w' => w'.cell? ⟨g, 0, none⟩ = some (.int .i64 n) ∧ w'.cell? ⟨g, 1, none⟩ = some (.slice (some ⟨pb, 0, none⟩) c pc)) (go_keep) (fail)
  go_wp2
  go_loopw [24] (fun i wr => ∃ k : Nat, k ≤ c ∧ i = .int .i64 k ∧ wr.heap[w.heap.size]? = some (.cells ((imgTo pl k L).map U8).toArray 5 (0, 0)) ∧ Same w wr) (fun i wr => c - (intOf i).toNat)
  case atStart => exact ⟨0, Nat.zero_le _, rfl, by rw [HZZ.out]; exact HH.out, (same_alloc _ _).drew⟩
  case round =>
    obtain ⟨k, hk, rfl, hb1, hK⟩ := hrel
    have d0 : wr.cell? ⟨g, 0, none⟩ = some (.int .i64 n) := Kept.cell hK (fun h => h) c0
    have HB1 := hidden hb1
    have HK := hidden hK
    clear hb1 hK hc0 hc1
    by_cases hlt : k < c
    · have hpsl : ps.length = c := by simpa using HP.out.1
      have hrow := own_kept HP.out HK.out (fun _ _ h => h)
      obtain ⟨p1, p2⟩ := own_cell hrow ps[k] (List.getElem?_eq_getElem (by omega))
      have hO1 := HO.out k (by omega) (by omega)
      have hcpk := HCP.out k hlt ps[k] wr (hO1.same HK.out).byt w.heap.size HB1.out
      obtain ⟨ua, uc, hue⟩ := hO1.byt.form
      rw [hue] at p1 hcpk
      have hkn : k * n + n ≤ L := by
        have h1 : (k + 1) * n ≤ c * n := Nat.mul_le_mul_right _ (by omega)
        rw [Nat.add_mul, Nat.one_mul, Nat.mul_comm c n, hL] at h1
        exact h1
      have hkp : (k : Int) * (n : Int) = ((k * n : Nat) : Int) := (Int.natCast_mul _ _).symm
      generalize hO2 : k * n = off at *
      have hw2 : IntKind.i64.wrap ((k : Int) * (n : Int)) = (off : Int) := by rw [hkp, IntKind.wrap_i64]; omega
      have q0 : (0 : Int) ≤ (k : Int) := Int.natCast_nonneg _
      have q1 : (k : Int) < (c : Int) := by omega
      have q2 : (0 : Int) ≤ (off : Int) := Int.natCast_nonneg _
      have q3 : (off : Int) ≤ (L : Int) := by omega
      have q4 : (off : Int) < (L : Int) := by omega
      generalize (pl[k]).length = ul at p1 hcpk
      have hne9 : L - off ≠ 0 := by omega
      clear hkp hrow
      go_wp2
      go_roundw
      case rel => exact ⟨k + 1, by omega, by go_num, setRow_heap _ _ _ _ _ _ HB1.out, same_setRow HK.out (Nat.le_refl _) _⟩
      case measure => simp [intOf]; omega
    · obtain rfl : k = c := by omega
      have q1 : ¬ (k : Int) < (k : Int) := by omega
      go_wp2
      go_returns
      refine ⟨_, rfl, ⟨w.heap.size, Nat.le_refl _, ?_, ?_⟩, HK.out⟩
      · rw [HFI.out]; rfl
      · rw [HB1.out, HE.out]
end Go.Proofs.Yteoajgphahobiaa
