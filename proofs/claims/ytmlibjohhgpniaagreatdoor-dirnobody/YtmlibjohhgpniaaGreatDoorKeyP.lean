/- A key's bytes; codec.Key, walked. -/
import Derived.Test.YtmlibjohhgpniaaGreatDoorRows
import Derived.Test.YtmlibjohhgpniaaGreatDoorAwake
import Derived.Test.YtmlibjohhgpniaaGreatDoorBase
import Derived.Test.YtmlibjohhgpniaaGreatDoorRPure
import Derived.Lib.Strings
import Derived.Lib.IndexBytes
import Derived.Test.YtmlibjohhgpniaaGreatDoorRd3
import Derived.BigQuiet
import Derived.Deep.QuietTactic
/- The document's Number, walked: n in so many bytes. -/
namespace Go.Proofs.YtmlibjohhgpniaaGreatDoor
open Go.RowKit
set_option linter.unusedVariables false

/-- A slice of bytes that the call itself has made. -/
def Bts (B : Nat) (v : Value) (l : List UInt8) (w : World) : Prop := w.ownsRow B 5 1 v l.length (l.map U8)
theorem Bts.nil (B : Nat) (w : World) : Bts B (.slice none 0 0) [] w := World.ownsRow_nil _ _ _ _
theorem bts_grow {B : Nat} {l v' : Value} {L : List UInt8} {w w3 w4 : World} {o : Obj} {e : Int} {b : UInt8} (hn : Bts B l L w3) (hS : Same w w3) (hB : w.heap.size ≤ B) (hgrow : (w3.alloc o).grownBy w4 l.ownBlock) (he : Value.int .u8 e = U8 b)
    (hown : w4.ownsRow B 5 1 v' (L.length + 1) (L.map U8 ++ [.int .u8 e])) : Bts B v' (L ++ [b]) w4 ∧ Same w w4 := by
  constructor
  · unfold Bts
    rw [he] at hown
    rw [List.length_append, List.map_append]
    exact hown
  · refine (Kept.alloc hS o).grown hgrow fun k hk hlt => ?_
    have := (hn.lt k hk).1
    omega
end Go.Proofs.YtmlibjohhgpniaaGreatDoor
/- The law's sameNumbers: two slices with the same numbers. -/
/- codec.Split and the document's, walked. -/
/- The parts of a key, of no program. -/
namespace Go.Proofs.YtmlibjohhgpniaaGreatDoor

/-- The next j numbers of eight bytes, and the Reader behind them. -/
def nsplit : Nat → RSt → List Nat × RSt
  | 0, st => ([], st)
  | j + 1, st => ((nsplit j st).1 ++ [rnum (nsplit j st).2 8], (rtake (nsplit j st).2 8).2)
theorem nsplit_len (j : Nat) (st : RSt) : (nsplit j st).1.length = j := by
  induction j with
  | zero => rfl
  | succ j ih => simp [nsplit, ih]
theorem ba_ext {a b : ByteArray} (h : a.data.toList = b.data.toList) : a = b := ByteArray.ext (Array.ext' h)
theorem extract_extract (s : ByteArray) (a n : Nat) : (s.extract a s.size).extract n (s.extract a s.size).size = s.extract (a + n) s.size := by
  apply ba_ext
  rw [Lib.extract_to_end, Lib.extract_to_end, Lib.extract_to_end, List.drop_drop]
theorem extract_all (s : ByteArray) : s.extract 0 s.size = s := by
  apply ba_ext
  rw [Lib.extract_to_end]
  rfl
theorem extract_size (s : ByteArray) (a : Nat) : (s.extract a s.size).size = s.size - a := by simp
/-- The numbers of a key. -/
def knums (l : List UInt8) (j : Nat) : List Nat := (List.range j).map fun i => num ((l.drop (1 + 8 * i)).take 8)
theorem knums_succ (l : List UInt8) (j : Nat) : knums l (j + 1) = knums l j ++ [num ((l.drop (1 + 8 * j)).take 8)] := by simp [knums, List.range_succ]
theorem knums_len (l : List UInt8) (j : Nat) : (knums l j).length = j := by simp [knums]
theorem rtake_one (key : ByteArray) (h : 1 ≤ key.size) : rtake (key, 0) 1 = (key.extract 0 1, (key.extract 1 key.size, 0)) := by
  unfold rtake
  rw [if_pos rfl, if_neg (show ¬ key.size < 1 by omega)]
theorem nsplit_ok (key : ByteArray) : ∀ j, 1 + 8 * j ≤ key.size → nsplit j (key.extract 1 key.size, 0) = (knums key.data.toList j, (key.extract (1 + 8 * j) key.size, 0)) := by
  intro j
  induction j with
  | zero => intro _; rfl
  | succ j ih =>
    intro h
    have e := ih (by omega)
    have hz := extract_size key (1 + 8 * j)
    have ht : rtake (key.extract (1 + 8 * j) key.size, 0) 8 = ((key.extract (1 + 8 * j) key.size).extract 0 8, (key.extract (1 + 8 * (j + 1)) key.size, 0)) := by
      unfold rtake
      rw [if_pos rfl, if_neg (by simp only [hz]; omega)]
      simp only
      rw [extract_extract, show 1 + 8 * j + 8 = 1 + 8 * (j + 1) by omega]
    rw [nsplit, e, knums_succ]
    unfold rnum
    rw [ht]
    simp only [Prod.mk.injEq, List.append_cancel_left_eq, List.cons.injEq, and_true]
    rw [Lib.extract_data, Lib.extract_to_end]
    rfl
theorem rtake_bad (s : ByteArray) (f : Int) (n : Nat) (hf : f ≠ 0) : rtake (s, f) n = (⟨#[]⟩, (s, f)) := by simp [rtake, hf]
theorem nsplit_short (key : ByteArray) : ∀ j, key.size < 1 + 8 * j → (nsplit j (rtake (key, 0) 1).2).2 = (⟨#[]⟩, 20) := by
  intro j
  induction j with
  | zero =>
    intro h
    simp only [nsplit, rtake, if_pos, if_pos (show key.size < 1 by omega)]
  | succ j ih =>
    intro h
    rw [nsplit]
    show (rtake (nsplit j (rtake (key, 0) 1).2).2 8).2 = _
    by_cases hs : key.size < 1 + 8 * j
    · rw [ih hs, rtake_bad ⟨#[]⟩ 20 8 (by decide)]
    · rw [rtake_one key (by omega), nsplit_ok key j (by omega)]
      have hz := extract_size key (1 + 8 * j)
      unfold rtake
      rw [if_pos rfl, if_pos (by simp only [hz]; omega)]
/-- What Split tells, the number being from 0 to 4. -/
def spl (key : ByteArray) (k : Nat) : Nat × List Nat × ByteArray × Int :=
  if key.size < 1 + 8 * k then (0, [], ⟨#[]⟩, 20) else (num (key.data.toList.take 1), knums key.data.toList k, key.extract (1 + 8 * k) key.size, 0)
end Go.Proofs.YtmlibjohhgpniaaGreatDoor
namespace Go.Proofs.YtmlibjohhgpniaaGreatDoor
open Go.RowKit
set_option linter.unusedVariables false

theorem info64 : (Tryz.prog.info? 221).map (fun i => (i.zero, i.size, i.bytes)) = some (some (.int .u64 0), 1, 8) := by kernel_rfl
/-- A number's cell. -/
def W64 (n : Nat) : Value := .int .u64 (n : Int)
/-- A slice of numbers that the call itself has made. -/
def Nums (B : Nat) (v : Value) (l : List Nat) (w : World) : Prop := w.ownsRow B 221 1 v l.length (l.map W64)
theorem Nums.nil (B : Nat) (w : World) : Nums B (.slice none 0 0) [] w := World.ownsRow_nil _ _ _ _
theorem num8_lt (st : RSt) : rnum st 8 < 18446744073709551616 := by
  have h := num_small (rtake st 8).1 8 (by rcases rtake_size st 8 with h | h <;> omega)
  exact h
theorem Nums.rd {B g : Nat} {v : Value} {l : List Nat} {st : RSt} {w w' : World} (h : Nums B v l w) (hr : Rd g st w) (hk : Kept (only g) w w') : Nums B v l w' :=
  own_kept h hk fun k hv he => own_apart h hr.blk (by decide) (by rw [hv]; exact congrArg some he)
theorem Nums.same {B : Nat} {v : Value} {l : List Nat} {w w' : World} (h : Nums B v l w) (hk : Same w w') : Nums B v l w' := own_kept h hk fun _ _ h => h
theorem nums_grow {B : Nat} {l v' : Value} {L : List Nat} {w w3 w4 : World} {o : Obj} {n : Nat} (hn : Nums B l L w3) (hS : Same w w3) (hB : w.heap.size ≤ B) (hgrow : (w3.alloc o).grownBy w4 l.ownBlock)
    (hown : w4.ownsRow B 221 1 v' (L.length + 1) (L.map W64 ++ [.int .u64 (n : Int)])) : Nums B v' (L ++ [n]) w4 ∧ Same w w4 := by
  constructor
  · unfold Nums
    rw [List.length_append, List.map_append]
    exact hown
  · refine (Kept.alloc hS o).grown hgrow fun k hk hlt => ?_
    have := (hn.lt k hk).1
    omega
theorem nums_rd {B g : Nat} {l : Value} {L : List Nat} {st : RSt} {w3 w4 : World} {o : Obj} (hn : Nums B l L w3) (hr : Rd g st w3) (hgrow : (w3.alloc o).grownBy w4 l.ownBlock) : Rd g st w4 :=
  ⟨(hgrow.block g (by have := blk_lt hr.blk; simp; omega) (fun e => own_apart hn hr.blk (by decide) e.symm)).trans (blk_alloc hr.blk o), hr.sz⟩
/-- What is told behind the numbers. -/
theorem split_end (key : ByteArray) (k : Nat) (h : (rtake (nsplit k (rtake (key, 0) 1).2).2 (nsplit k (rtake (key, 0) 1).2).2.1.size).2.2 = 0) :
    spl key k = (rnum (key, 0) 1, (nsplit k (rtake (key, 0) 1).2).1, (rtake (nsplit k (rtake (key, 0) 1).2).2 (nsplit k (rtake (key, 0) 1).2).2.1.size).1, 0) := by
  by_cases hs : key.size < 1 + 8 * k
  · rw [nsplit_short key k hs, rtake_bad ⟨#[]⟩ 20 _ (by decide)] at h
    simp at h
  · have hone := rtake_one key (by omega)
    unfold spl
    rw [if_neg hs]
    have e1 : rnum (key, 0) 1 = num (key.data.toList.take 1) := by
      unfold rnum
      rw [hone, Lib.extract_data]
      rfl
    rw [e1, hone, nsplit_ok key k (by omega)]
    simp only
    have e2 : rtake (key.extract (1 + 8 * k) key.size, 0) (key.extract (1 + 8 * k) key.size).size = (key.extract (1 + 8 * k) key.size, (⟨#[]⟩, 0)) := by
      unfold rtake
      rw [if_pos rfl, if_neg (Nat.lt_irrefl _), extract_all]
      simp only [Prod.mk.injEq, and_true, true_and]
      apply ba_ext
      rw [Lib.extract_to_end, List.drop_of_length_le (by rw [size_list]; exact Nat.le_refl _)]
    rw [e2]
theorem split_bad (key : ByteArray) (k : Nat) (h : (rtake (nsplit k (rtake (key, 0) 1).2).2 (nsplit k (rtake (key, 0) 1).2).2.1.size).2.2 ≠ 0) :
    spl key k = (0, [], ⟨#[]⟩, (rtake (nsplit k (rtake (key, 0) 1).2).2 (nsplit k (rtake (key, 0) 1).2).2.1.size).2.2) := by
  by_cases hs : key.size < 1 + 8 * k
  · rw [nsplit_short key k hs, rtake_bad ⟨#[]⟩ 20 _ (by decide)]
    simp [spl, hs]
  · exfalso
    apply h
    rw [rtake_one key (by omega), nsplit_ok key k (by omega)]
    simp only [rtake, if_pos, if_neg (Nat.lt_irrefl _)]
set_option maxHeartbeats 2000000 in
set_option maxRecDepth 100000 in
theorem split_in (key : ByteArray) (k : Nat) (w : World) (hs : key.size ≤ 281474976710656) (hk : k ≤ 4) :
    Calls Tryz.prog 180 #[.string key, .int .i64 k] w fun e w' => ∃ v, e = .returned (.tuple #[.int .u8 (spl key k).1, v, .string (spl key k).2.2.1, .int .i64 (spl key k).2.2.2]) ∧ Nums w.heap.size v (spl key k).2.1 w' ∧ Same w w' := by
  obtain ⟨i0, hi, hz0, hz1, hz2⟩ := info_parts info64
  go_enter Tryz.func180, Tryz.ntmps180
  go_wp2_with (first
    | (go_at_call 139; refine (newR key _ hs).mono ?_; rintro e w1 ⟨rfl, s1, k1, z1⟩; have Z1 := hidden z1; clear z1)
    | (go_at_call 140; refine (rU8 s1).mono ?_; rintro e w2 ⟨rfl, s2, k2⟩))
  have K2 : Same w w2 := Same.rd k1 k2 (Nat.le_refl _)
  go_loopw [5, 20] (fun l i wr => ∃ j : Nat, j ≤ k ∧ i = .int .i64 j ∧ Nums w.heap.size l (nsplit j (rtake (key, 0) 1).2).1 wr ∧ Rd w.heap.size (nsplit j (rtake (key, 0) 1).2).2 wr ∧ Same w wr) (fun _ i _ => k - (intOf i).toNat)
  case atStart => exact ⟨0, Nat.zero_le _, rfl, Nums.nil _ _, s2, K2⟩
  case round =>
    rename_i l0 i0'
    obtain ⟨j, hj, rfl, hn, hr, hw⟩ := hrel
    by_cases hlt : j < k
    · have e1 : (nsplit (j + 1) (rtake (key, 0) 1).2).1 = (nsplit j (rtake (key, 0) 1).2).1 ++ [rnum (nsplit j (rtake (key, 0) 1).2).2 8] := rfl
      have e2 : (nsplit (j + 1) (rtake (key, 0) 1).2).2 = (rtake (nsplit j (rtake (key, 0) 1).2).2 8).2 := rfl
      have el := nsplit_len j (rtake (key, 0) 1).2
      have E1 := hidden e1
      have E2 := hidden e2
      clear e1 e2
      generalize nsplit j (rtake (key, 0) 1).2 = R at E1 E2 hn hr el
      have hm1 : Hid (R.1.length + 1 ≤ maxLen) := by rw [Hid, el]; unfold maxLen; omega
      have hm2 : Hid ((R.1.length + 1) * 8 ≤ 140737488355328) := by rw [Hid, el]; omega
      clear el
      go_wp2_with (first
        | (go_at_call 170; refine (rU64 hr).mono ?_; rintro e w3 ⟨rfl, s3, k3⟩; have n3 := hn.rd hr k3; have K3 : Same w w3 := Same.rd hw k3 (Nat.le_refl _); have hbase : Hid (∀ o, w.heap.size ≤ (w3.alloc o).heap.size) := fun o => (by have := K3.size; simp; omega))
        | (at_builtin; refine wpList_append_lies _ (by rfl) (.tmp 22) (.tmp 25) 222 (by rfl) w.heap.size 221 i0 (.int .u64 0) 1 8 Tryz.underlying222 hi hz0 hz1 hz2 rfl (by decide) _ _ _ (by rfl) (n3.alloc _) ⟨w3.heap.size, 0, none⟩ 1 1 _ (by rfl) rfl (World.news_of_block (heap_alloc_new w3 _)) (fun x hx => by simp at hx; subst hx; rfl) (by decide) hm1.out hm2.out (hbase.out _) (w3.heap.size + 1) (by simp) ?_; intro g' cap' w4 hown' hgrow hat hlt'))
      obtain ⟨n4, K4⟩ := nums_grow n3 K3 (Nat.le_refl _) hgrow hown'
      have s4 := nums_rd n3 s3 hgrow
      clear hown' hgrow hat n3 K3 s3 k3 hn hr hw
      go_wp2
      go_roundw
      case rel => exact ⟨j + 1, by omega, by go_num, by rw [E1.out]; exact n4, by rw [E2.out]; exact s4, K4⟩
      case measure => simp [intOf]; omega
    · obtain rfl : j = k := by omega
      have hE := split_end key j
      have hB := split_bad key j
      generalize nsplit j (rtake (key, 0) 1).2 = R at hE hB hn hr
      have hsz := hr.sz
      have hraw := rRaw hr R.2.1.size (by omega)
      have ee : rraw R.2 (R.2.1.size : Int) = rtake R.2 R.2.1.size := by simp only [rraw, if_neg (show ¬ (R.2.1.size : Int) < 0 by omega), Int.toNat_natCast]
      rw [ee] at hraw
      have HR := hidden hraw
      have HE := hidden hE
      have HB := hidden hB
      clear hraw ee hE hB
      obtain ⟨T, hT⟩ : ∃ T, T = rtake R.2 R.2.1.size := ⟨_, rfl⟩
      rw [← hT] at HR HE HB
      clear hT
      by_cases hf : T.2.2 = 0
      · have e := HE.out hf
        have HX := hidden e
        have hf0 : Hid (T.2.2 = 0) := hf
        have hfb : (T.2.2 != 0) = false := by simp [hf]
        clear HE HB e hf
        go_wp2_with (first
          | (go_at_call 178; refine (rLeft hr).mono ?_; rintro e w3 ⟨rfl, rfl⟩)
          | (go_at_call 215; refine HR.out.mono ?_; rintro e w3 ⟨rfl, s3, k3⟩; have n3 := hn.rd hr k3; have K3 : Same w w3 := Same.rd hw k3 (Nat.le_refl _))
          | (go_at_call 177; refine (rErr s3).mono ?_; rintro e w4 ⟨rfl, rfl⟩))
        go_returns
        rw [HX.out]
        exact ⟨_, rfl, n3, K3⟩
      · have e := HB.out hf
        have HX := hidden e
        have hfb : (T.2.2 != 0) = true := by simpa using hf
        clear HE HB e hf
        go_wp2_with (first
          | (go_at_call 178; refine (rLeft hr).mono ?_; rintro e w3 ⟨rfl, rfl⟩)
          | (go_at_call 215; refine HR.out.mono ?_; rintro e w3 ⟨rfl, s3, k3⟩; have n3 := hn.rd hr k3; have K3 : Same w w3 := Same.rd hw k3 (Nat.le_refl _))
          | (go_at_call 177; refine (rErr s3).mono ?_; rintro e w4 ⟨rfl, rfl⟩))
        go_returns
        rw [HX.out]
        exact ⟨_, rfl, Nums.nil _ _, K3⟩
end Go.Proofs.YtmlibjohhgpniaaGreatDoor
namespace Go.Proofs.YtmlibjohhgpniaaGreatDoor
open Go.RowKit
set_option linter.unusedVariables false

/-- A slice, of whoever, whose elements are these numbers. -/
def Cells (w : World) (v : Value) (l : List Nat) : Prop :=
  ∃ a cap, v = .slice a l.length cap ∧ (l ≠ [] → ∃ b off, a = some ⟨b, off, none⟩ ∧ ∀ j, j < l.length → w.cell? ⟨b, off + j, none⟩ = some (W64 (l.getD j 0)))
theorem cell_drewN (w : World) (n : Nat) (a : Addr) : (w.drewN n).cell? a = w.cell? a := by
  unfold World.cell?
  rw [heap_drewN]
theorem Nums.cells {B : Nat} {v : Value} {l : List Nat} {w : World} (h : Nums B v l w) : Cells w v l := by
  rcases h.2 with ⟨h1, h2⟩ | ⟨g, cap, cur, h1, _⟩
  · exact ⟨none, 0, by rw [h1, h2], fun hn => absurd (List.eq_nil_of_length_eq_zero h2) hn⟩
  · refine ⟨some ⟨g, 0, none⟩, cap, h1, fun _ => ⟨g, 0, rfl, fun j hj => ?_⟩⟩
    have hc := World.ownsRow.cells h (g := g) (by rw [h1]; rfl) j (W64 (l.getD j 0)) (by simp [hj])
    have hadd : (⟨g, 0, none⟩ : Addr).add j = ⟨g, 0 + j, none⟩ := by unfold Addr.add; split <;> simp_all
    rw [hadd] at hc
    exact hc
theorem Cells.same {w w' : World} {v : Value} {l : List Nat} (h : Cells w v l) (hk : Same w w') : Cells w' v l := by
  obtain ⟨a, cap, h1, h2⟩ := h
  refine ⟨a, cap, h1, fun hn => ?_⟩
  obtain ⟨b, off, h3, h4⟩ := h2 hn
  exact ⟨b, off, h3, fun j hj => hk.cell (fun h => h) (h4 j hj)⟩
end Go.Proofs.YtmlibjohhgpniaaGreatDoor
namespace Go.Proofs.YtmlibjohhgpniaaGreatDoor
open Go.RowKit
set_option linter.unusedVariables false

/-- The numbers of a key as bytes. -/
def numsL (l : List Nat) : List UInt8 := l.flatMap (be 8)
theorem numsL_snoc (l : List Nat) (n : Nat) : numsL (l ++ [n]) = numsL l ++ be 8 n := by simp [numsL]
theorem numsL_len (l : List Nat) : (numsL l).length = 8 * l.length := by
  induction l with
  | nil => rfl
  | cons a l ih =>
    have e : numsL (a :: l) = be 8 a ++ numsL l := by simp [numsL]
    rw [e, List.length_append, be_length, ih, List.length_cons]
    omega
def keyL (prefix' : Nat) (l : List Nat) (name : ByteArray) : List UInt8 := be 1 prefix' ++ numsL l ++ name.data.toList
theorem keyL_len (p : Nat) (l : List Nat) (name : ByteArray) : (keyL p l name).length = 1 + 8 * l.length + name.size := by
  rw [keyL, List.length_append, List.length_append, be_length, numsL_len, size_list]
theorem kfit {most : Int} {bs new : List UInt8} (h : (bs.length : Int) + new.length ≤ most) : wput most (bs, false) new = (bs ++ new, false) := by
  unfold wput
  rw [if_pos]
  simp only [wOk, Bool.not_false, Bool.true_and, decide_eq_true_eq]
  omega
theorem take_snoc' (l : List Nat) (k : Nat) (h : k < l.length) : l.take (k + 1) = l.take k ++ [l.getD k 0] := by
  rw [List.take_succ_eq_append_getElem h]
  simp [h]
set_option maxHeartbeats 400000 in
theorem key_many (p : Nat) (v : Value) (l : List Nat) (name : ByteArray) (w : World) (hv : Cells w v l) (h : 4 < l.length) (hl : l.length ≤ 140737488355328) :
    Calls Tryz.prog 132 #[.int .u8 p, v, .string name] w fun e w' => e = .returned (.tuple #[.string ⟨#[]⟩, .int .i64 1]) ∧ Same w w' := by
  obtain ⟨a, cap, rfl, _⟩ := hv
  go_enter Tryz.func132, Tryz.ntmps132
  go_wp2
  go_returns
  exact ⟨rfl, Kept.refl _ _⟩
set_option maxHeartbeats 2000000 in
set_option maxRecDepth 100000 in
theorem key_in (p : Nat) (v : Value) (l : List Nat) (name : ByteArray) (w : World) (hp : p < 256) (hv : Cells w v l) (h : l.length ≤ 4) (hl : ∀ x ∈ l, x < 18446744073709551616) (hs : name.size ≤ 140737488351232) :
    Calls Tryz.prog 132 #[.int .u8 p, v, .string name] w fun e w' => e = .returned (.tuple #[.string ⟨(keyL p l name).toArray⟩, .int .i64 0]) ∧ Same w w' := by
  obtain ⟨a, cap, rfl, hc⟩ := hv
  have HC := hidden hc
  have HL := hidden hl
  clear hc hl
  obtain ⟨M, hM⟩ : ∃ M : Int, M = 1 + 8 * (l.length : Int) + name.size := ⟨_, rfl⟩
  have g1 : ∀ B g w, WS B g M ([], false) w → Calls Tryz.prog 144 #[.pointer (some ⟨g, 0, none⟩), .int .u8 p] w fun e w' => e = .returned (.tuple #[]) ∧ WS B g M (be 1 p ++ numsL (l.take 0), false) w' ∧ Kept (wrS B g) w w' := fun B g w hh => by
    have k := wU8 hh p hp (by simp)
    rw [kfit (by rw [be_length]; simp; omega)] at k
    simpa [numsL] using k
  have g2 : ∀ B g w, WS B g M (be 1 p ++ numsL (l.take l.length), false) w → Calls Tryz.prog 172 #[.pointer (some ⟨g, 0, none⟩), .string name] w fun e w' => e = .returned (.tuple #[]) ∧ WS B g M (keyL p l name, false) w' ∧ Kept (wrS B g) w w' := fun B g w hh => by
    rw [List.take_length] at hh
    have hlen : (be 1 p ++ numsL l).length = 1 + 8 * l.length := by rw [List.length_append, be_length, numsL_len]
    have k := wRaw hh name (by simp only [hlen]; omega)
    rw [kfit (by rw [hlen, size_list]; omega)] at k
    exact k
  have G1 := hidden g1
  have G2 := hidden g2
  have d := fun B g w hh => wDone (B := B) (g := g) (most := M) (st := (keyL p l name, false)) (w := w) hh
  have D := hidden d
  have hMv : Hid (M = 1 + 8 * (l.length : Int) + name.size) := hM
  have hn := fun w hh => newW M w (by omega) hh
  rw [hM] at hn
  have HN := hidden hn
  clear g1 g2 d hM hn
  go_enter Tryz.func132, Tryz.ntmps132
  go_wp2_with (first
    | (go_at_call 133; refine (HN.out _ (by omega)).mono ?_; rintro e w1 ⟨rfl, s1, k1, z1⟩; rw [← hMv.out] at s1; clear z1)
    | (go_at_call 144; refine (G1.out _ _ _ s1).mono ?_; rintro e w2 ⟨rfl, s2, k2⟩; clear s1))
  have K2 : Same w w2 := Same.wr k1 k2 (Nat.le_refl _) (Nat.le_refl _)
  go_loopw [27] (fun i wr => ∃ k : Nat, k ≤ l.length ∧ i = .int .i64 k ∧ WS w.heap.size w.heap.size M (be 1 p ++ numsL (l.take k), false) wr ∧ Same w wr) (fun i _ => l.length - (intOf i).toNat)
  case atStart => exact ⟨0, Nat.zero_le _, rfl, s2, K2⟩
  case round =>
    obtain ⟨k, hk, rfl, hw, hS⟩ := hrel
    by_cases hlt : k < l.length
    · have hne : l ≠ [] := by rintro rfl; simp at hlt
      obtain ⟨b, off, rfl, hc⟩ := HC.out hne
      have r1 : wr.cell? ⟨b, off + k, none⟩ = some (.int .u64 ((l.getD k 0 : Nat) : Int)) := Kept.cell hS (fun h => h) (hc k hlt)
      have hx : l.getD k 0 < 18446744073709551616 := HL.out _ (by rw [List.getD_eq_getElem?_getD, List.getElem?_eq_getElem hlt]; simp)
      have hlen : (be 1 p ++ numsL (l.take k)).length = 1 + 8 * k := by rw [List.length_append, be_length, numsL_len, List.length_take]; omega
      have hst := wU64 hw (l.getD k 0) hx (by simp only [hlen]; omega)
      rw [kfit (by rw [hlen, be_length, hMv.out]; omega), List.append_assoc, ← numsL_snoc, ← take_snoc' l k hlt] at hst
      have HS := hidden hst
      clear hc hne hx hlen hst
      generalize l.getD k 0 = x at r1 HS
      go_wp2_with (go_at_call 171; refine HS.out.mono ?_; rintro e w3 ⟨rfl, s3, k3⟩)
      go_roundw
      case rel => exact ⟨k + 1, by omega, by go_num, s3, Same.wr hS k3 (Nat.le_refl _) (Nat.le_refl _)⟩
      case measure => simp [intOf]; omega
    · obtain rfl : k = l.length := by omega
      go_wp2_with (first
        | (go_at_call 172; refine (G2.out _ _ _ hw).mono ?_; rintro e w3 ⟨rfl, s3, k3⟩)
        | (go_at_call 135; refine (D.out _ _ _ s3).mono ?_; rintro e w4 ⟨rfl, rfl⟩))
      go_returns
      exact ⟨rfl, Same.wr hS k3 (Nat.le_refl _) (Nat.le_refl _)⟩
end Go.Proofs.YtmlibjohhgpniaaGreatDoor
