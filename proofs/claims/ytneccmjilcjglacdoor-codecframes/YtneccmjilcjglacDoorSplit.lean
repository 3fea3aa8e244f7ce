/- codec.Split and the document's, walked. -/
import Derived.Test.YtneccmjilcjglacDoorRd3
import Derived.Test.YtneccmjilcjglacDoorSplitP
import Derived.Test.YtneccmjilcjglacDoorAwake
namespace Go.Proofs.YtneccmjilcjglacDoor
open Go.RowKit
set_option linter.unusedVariables false

theorem info64 : (Tryd.prog.info? 29).map (fun i => (i.zero, i.size, i.bytes)) = some (some (.int .u64 0), 1, 8) := by kernel_rfl
/-- A number's cell. -/
def W64 (n : Nat) : Value := .int .u64 (n : Int)
/-- A slice of numbers that the call itself has made. -/
def Nums (B : Nat) (v : Value) (l : List Nat) (w : World) : Prop := w.ownsRow B 29 1 v l.length (l.map W64)
theorem Nums.nil (B : Nat) (w : World) : Nums B (.slice none 0 0) [] w := World.ownsRow_nil _ _ _ _
theorem num8_lt (st : RSt) : rnum st 8 < 18446744073709551616 := by
  have h := num_small (rtake st 8).1 8 (by rcases rtake_size st 8 with h | h <;> omega)
  exact h
theorem Nums.rd {B g : Nat} {v : Value} {l : List Nat} {st : RSt} {w w' : World} (h : Nums B v l w) (hr : Rd g st w) (hk : Kept (only g) w w') : Nums B v l w' :=
  own_kept h hk fun k hv he => own_apart h hr.blk (by decide) (by rw [hv]; exact congrArg some he)
theorem Nums.same {B : Nat} {v : Value} {l : List Nat} {w w' : World} (h : Nums B v l w) (hk : Same w w') : Nums B v l w' := own_kept h hk fun _ _ h => h
theorem nums_grow {B : Nat} {l v' : Value} {L : List Nat} {w w3 w4 : World} {o : Obj} {n : Nat} (hn : Nums B l L w3) (hS : Same w w3) (hB : w.heap.size ≤ B) (hgrow : (w3.alloc o).grownBy w4 l.ownBlock)
    (hown : w4.ownsRow B 29 1 v' (L.length + 1) (L.map W64 ++ [.int .u64 (n : Int)])) : Nums B v' (L ++ [n]) w4 ∧ Same w w4 := by
  constructor
  · unfold Nums
    rw [List.length_append, List.map_append]
    exact hown
  · refine (Kept.alloc hS o).grown hgrow fun k hk hlt => ?_
    have := (hn.lt k hk).1
    omega
theorem nums_rd {B g : Nat} {l : Value} {L : List Nat} {st : RSt} {w3 w4 : World} {o : Obj} (hn : Nums B l L w3) (hr : Rd g st w3) (hgrow : (w3.alloc o).grownBy w4 l.ownBlock) : Rd g st w4 :=
  ⟨(hgrow.block g (by have := blk_lt hr.blk; simp; omega) (fun e => own_apart hn hr.blk (by decide) e.symm)).trans (blk_alloc hr.blk o), hr.sz⟩
/-- What is told behind the numbers. -/
theorem split_end (key : ByteArray) (k : Nat) (h : (rtake (nsplit k (rtake (key, 0) 1).2).2 (nsplit k (rtake (key, 0) 1).2).2.1.size).2.2 = 0) :
    spl key k = (rnum (key, 0) 1, (nsplit k (rtake (key, 0) 1).2).1, (rtake (nsplit k (rtake (key, 0) 1).2).2 (nsplit k (rtake (key, 0) 1).2).2.1.size).1, 0) := by
  by_cases hs : key.size < 1 + 8 * k
  · rw [nsplit_short key k hs, rtake_bad ⟨#[]⟩ 20 _ (by decide)] at h
    simp at h
  · have hone := rtake_one key (by omega)
    unfold spl
    rw [if_neg hs]
    have e1 : rnum (key, 0) 1 = num (key.data.toList.take 1) := by
      unfold rnum
      rw [hone, Lib.extract_data]
      rfl
    rw [e1, hone, nsplit_ok key k (by omega)]
    simp only
    have e2 : rtake (key.extract (1 + 8 * k) key.size, 0) (key.extract (1 + 8 * k) key.size).size = (key.extract (1 + 8 * k) key.size, (⟨#[]⟩, 0)) := by
      unfold rtake
      rw [if_pos rfl, if_neg (Nat.lt_irrefl _), extract_all]
      simp only [Prod.mk.injEq, and_true, true_and]
      apply ba_ext
      rw [Lib.extract_to_end, List.drop_of_length_le (by rw [size_list]; exact Nat.le_refl _)]
    rw [e2]
theorem split_bad (key : ByteArray) (k : Nat) (h : (rtake (nsplit k (rtake (key, 0) 1).2).2 (nsplit k (rtake (key, 0) 1).2).2.1.size).2.2 ≠ 0) :
    spl key k = (0, [], ⟨#[]⟩, (rtake (nsplit k (rtake (key, 0) 1).2).2 (nsplit k (rtake (key, 0) 1).2).2.1.size).2.2) := by
  by_cases hs : key.size < 1 + 8 * k
  · rw [nsplit_short key k hs, rtake_bad ⟨#[]⟩ 20 _ (by decide)]
    simp [spl, hs]
  · exfalso
    apply h
    rw [rtake_one key (by omega), nsplit_ok key k (by omega)]
    simp only [rtake, if_pos, if_neg (Nat.lt_irrefl _)]
set_option maxHeartbeats 2000000 in
set_option maxRecDepth 100000 in
theorem split_in (key : ByteArray) (k : Nat) (w : World) (hs : key.size ≤ 281474976710656) (hk : k ≤ 4) :
    Calls Tryd.prog 9 #[.string key, .int .i64 k] w fun e w' => ∃ v, e = .returned (.tuple #[.int .u8 (spl key k).1, v, .string (spl key k).2.2.1, .int .i64 (spl key k).2.2.2]) ∧ Nums w.heap.size v (spl key k).2.1 w' ∧ Same w w' := by
  obtain ⟨i0, hi, hz0, hz1, hz2⟩ := info_parts info64
  go_enter Tryd.func9, Tryd.ntmps9
  go_wp2_with (first
    | (go_at_call 34; refine (newR key _ hs).mono ?_; rintro e w1 ⟨rfl, s1, k1, z1⟩; have Z1 := hidden z1; clear z1)
    | (go_at_call 24; refine (rU8 s1).mono ?_; rintro e w2 ⟨rfl, s2, k2⟩))
  have K2 : Same w w2 := Same.rd k1 k2 (Nat.le_refl _)
  go_loopw [5, 20] (fun l i wr => ∃ j : Nat, j ≤ k ∧ i = .int .i64 j ∧ Nums w.heap.size l (nsplit j (rtake (key, 0) 1).2).1 wr ∧ Rd w.heap.size (nsplit j (rtake (key, 0) 1).2).2 wr ∧ Same w wr) (fun _ i _ => k - (intOf i).toNat)
  case atStart => exact ⟨0, Nat.zero_le _, rfl, Nums.nil _ _, s2, K2⟩
  case round =>
    rename_i l0 i0'
    obtain ⟨j, hj, rfl, hn, hr, hw⟩ := hrel
    by_cases hlt : j < k
    · have e1 : (nsplit (j + 1) (rtake (key, 0) 1).2).1 = (nsplit j (rtake (key, 0) 1).2).1 ++ [rnum (nsplit j (rtake (key, 0) 1).2).2 8] := rfl
      have e2 : (nsplit (j + 1) (rtake (key, 0) 1).2).2 = (rtake (nsplit j (rtake (key, 0) 1).2).2 8).2 := rfl
      have el := nsplit_len j (rtake (key, 0) 1).2
      have E1 := hidden e1
      have E2 := hidden e2
      clear e1 e2
      generalize nsplit j (rtake (key, 0) 1).2 = R at E1 E2 hn hr el
      have hm1 : Hid (R.1.length + 1 ≤ maxLen) := by rw [Hid, el]; unfold maxLen; omega
      have hm2 : Hid ((R.1.length + 1) * 8 ≤ 140737488355328) := by rw [Hid, el]; omega
      clear el
      go_wp2_with (first
        | (go_at_call 27; refine (rU64 hr).mono ?_; rintro e w3 ⟨rfl, s3, k3⟩; have n3 := hn.rd hr k3; have K3 : Same w w3 := Same.rd hw k3 (Nat.le_refl _); have hbase : Hid (∀ o, w.heap.size ≤ (w3.alloc o).heap.size) := fun o => (by have := K3.size; simp; omega))
        | (at_builtin; refine wpList_append_lies _ (by rfl) (.tmp 22) (.tmp 25) 22 (by rfl) w.heap.size 29 i0 (.int .u64 0) 1 8 Tryd.underlying22 hi hz0 hz1 hz2 rfl (by decide) _ _ _ (by rfl) (n3.alloc _) ⟨w3.heap.size, 0, none⟩ 1 1 _ (by rfl) rfl (World.news_of_block (heap_alloc_new w3 _)) (fun x hx => by simp at hx; subst hx; rfl) (by decide) hm1.out hm2.out (hbase.out _) (w3.heap.size + 1) (by simp) ?_; intro g' cap' w4 hown' hgrow hat hlt'))
      obtain ⟨n4, K4⟩ := nums_grow n3 K3 (Nat.le_refl _) hgrow hown'
      have s4 := nums_rd n3 s3 hgrow
      clear hown' hgrow hat n3 K3 s3 k3 hn hr hw
      go_wp2
      go_roundw
      case rel => exact ⟨j + 1, by omega, by go_num, by rw [E1.out]; exact n4, by rw [E2.out]; exact s4, K4⟩
      case measure => simp [intOf]; omega
    · obtain rfl : j = k := by omega
      have hE := split_end key j
      have hB := split_bad key j
      generalize nsplit j (rtake (key, 0) 1).2 = R at hE hB hn hr
      have hsz := hr.sz
      have hraw := rRaw hr R.2.1.size (by omega)
      have ee : rraw R.2 (R.2.1.size : Int) = rtake R.2 R.2.1.size := by simp only [rraw, if_neg (show ¬ (R.2.1.size : Int) < 0 by omega), Int.toNat_natCast]
      rw [ee] at hraw
      have HR := hidden hraw
      have HE := hidden hE
      have HB := hidden hB
      clear hraw ee hE hB
      obtain ⟨T, hT⟩ : ∃ T, T = rtake R.2 R.2.1.size := ⟨_, rfl⟩
      rw [← hT] at HR HE HB
      clear hT
      by_cases hf : T.2.2 = 0
      · have e := HE.out hf
        have HX := hidden e
        have hf0 : Hid (T.2.2 = 0) := hf
        have hfb : (T.2.2 != 0) = false := by simp [hf]
        clear HE HB e hf
        go_wp2_with (first
          | (go_at_call 31; refine (rLeft hr).mono ?_; rintro e w3 ⟨rfl, rfl⟩)
          | (go_at_call 30; refine HR.out.mono ?_; rintro e w3 ⟨rfl, s3, k3⟩; have n3 := hn.rd hr k3; have K3 : Same w w3 := Same.rd hw k3 (Nat.le_refl _))
          | (go_at_call 32; refine (rErr s3).mono ?_; rintro e w4 ⟨rfl, rfl⟩))
        go_returns
        rw [HX.out]
        exact ⟨_, rfl, n3, K3⟩
      · have e := HB.out hf
        have HX := hidden e
        have hfb : (T.2.2 != 0) = true := by simpa using hf
        clear HE HB e hf
        go_wp2_with (first
          | (go_at_call 31; refine (rLeft hr).mono ?_; rintro e w3 ⟨rfl, rfl⟩)
          | (go_at_call 30; refine HR.out.mono ?_; rintro e w3 ⟨rfl, s3, k3⟩; have n3 := hn.rd hr k3; have K3 : Same w w3 := Same.rd hw k3 (Nat.le_refl _))
          | (go_at_call 32; refine (rErr s3).mono ?_; rintro e w4 ⟨rfl, rfl⟩))
        go_returns
        rw [HX.out]
        exact ⟨_, rfl, Nums.nil _ _, K3⟩
end Go.Proofs.YtneccmjilcjglacDoor
