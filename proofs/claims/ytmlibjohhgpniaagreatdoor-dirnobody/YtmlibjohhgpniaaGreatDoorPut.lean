/- codec.Writer: numbers of so many bytes. -/
import Derived.Test.YtmlibjohhgpniaaGreatDoorRoom
import Derived.Lib.Strings
import Derived.Lib.Slices
import Derived.Lib.Small
import Derived.Lib.Walk
import Derived.Lib.BitFns
import Derived.Laws.BitsAllLaws
import Derived.Deep.RegionHeld3
import Derived.Deep.RegionLaw
import Derived.Deep.DrawnRows
/- math/bits.Len64, walked; the widths of numbers; how many bytes a varint has. -/
namespace Go.Proofs.YtmlibjohhgpniaaGreatDoor
open Go.RowKit

theorem bitLen_log2 : ∀ (f x : Nat), x < 2 ^ f → f ≤ 64 → x ≠ 0 → Lib.bitLen x = Nat.log2 x + 1 := by
  intro f
  induction f with
  | zero => intro x h _ h0; simp at h; omega
  | succ f ih =>
    intro x h hf h0
    have h64 : x < 2 ^ 64 := Nat.lt_of_lt_of_le h (Nat.pow_le_pow_right (by decide) hf)
    rw [Lib.bitLen_half x h0 h64]
    by_cases h2 : 2 ≤ x
    · rw [Nat.log2_def, if_pos h2, ih (x / 2) (by rw [Nat.pow_succ] at h; omega) (by omega) (by omega)]
      omega
    · obtain rfl : x = 1 := by omega
      decide
/-- One way through Len64: the byte that is looked up stands k bits up. -/
theorem len_at (k : Nat) (x y : Int) (h : y.toNat = x.toNat / 2 ^ k) (hy0 : 0 ≤ y) (hy : y ≤ 255) (s : 2 ^ k ≤ x.toNat ∨ k = 0) (hx : x.toNat < 2 ^ 64) : (k : Int) + Lib.len8 y = (Lib.bitLen x.toNat : Int) := by
  rw [Lib.len8_of y hy0 (by omega), h]
  rcases s with s | rfl
  · rw [Lib.bitLen_shift k x.toNat s hx]; omega
  · simp

theorem wrap_add (k a : Nat) (hk : k ≤ 56) (ha : a ≤ 8) : wrap64 ((k : Int) + wrap64 (a : Int)) = (k : Int) + a := by
  unfold wrap64
  omega
theorem len_get (k : Nat) (x y : Int) (hy : y.toNat < Lib.len8tab.size) (h : y.toNat = x.toNat / 2 ^ k) (hy0 : 0 ≤ y) (hy1 : y ≤ 255) (s : 2 ^ k ≤ x.toNat ∨ k = 0) (hx : x.toNat < 2 ^ 64) (hk : k ≤ 56) :
    wrap64 ((k : Int) + wrap64 ((Lib.len8tab[y.toNat]'hy).toNat : Int)) = (Lib.bitLen x.toNat : Int) := by
  have e : ((Lib.len8tab[y.toNat]'hy).toNat : Int) = Lib.len8 y := by
    unfold Lib.len8
    rw [getElem?_pos Lib.len8tab y.toNat hy]
    rfl
  rw [e, Lib.len8_of y hy0 hy1, wrap_add k _ hk (Lib.bitLen_le8' y hy0 hy1), ← Lib.len8_of y hy0 hy1]
  exact len_at k x y h hy0 hy1 s hx
theorem wrap_wrap (a : Int) : wrap64 (wrap64 a) = wrap64 (((0 : Nat) : Int) + wrap64 a) := by simp
set_option maxHeartbeats 4000000 in
set_option maxRecDepth 100000 in
theorem len64 (x : Int) (w : World) (h0 : 0 ≤ x) (h1 : x ≤ 18446744073709551615) :
    Calls Tryz.prog 208 #[.int .u64 x] w fun e w' => e = .returned (.int .i64 (Lib.bitLen x.toNat)) ∧ w = w' := by
  have hts : Lib.len8tab.size = 256 := by decide +kernel
  go_enter Tryz.func208, Tryz.ntmps208
  go_wp2
  all_goals (go_ret; refine ⟨congrArg Ending.returned (congrArg (Value.int IntKind.i64) ?_), rfl⟩)
  all_goals first
    | (refine len_get 56 x (x / 4294967296 / 65536 / 256) _ ?_ ?_ ?_ ?_ ?_ ?_ <;> omega)
    | (refine len_get 48 x (x / 4294967296 / 65536) _ ?_ ?_ ?_ ?_ ?_ ?_ <;> omega)
    | (refine len_get 40 x (x / 4294967296 / 256) _ ?_ ?_ ?_ ?_ ?_ ?_ <;> omega)
    | (refine len_get 32 x (x / 4294967296) _ ?_ ?_ ?_ ?_ ?_ ?_ <;> omega)
    | (refine len_get 24 x (x / 65536 / 256) _ ?_ ?_ ?_ ?_ ?_ ?_ <;> omega)
    | (refine len_get 16 x (x / 65536) _ ?_ ?_ ?_ ?_ ?_ ?_ <;> omega)
    | (refine len_get 8 x (x / 256) _ ?_ ?_ ?_ ?_ ?_ ?_ <;> omega)
    | (rw [wrap_wrap]; refine len_get 0 x x _ ?_ ?_ ?_ ?_ ?_ ?_ <;> omega)
end Go.Proofs.YtmlibjohhgpniaaGreatDoor
namespace Go.Proofs.YtmlibjohhgpniaaGreatDoor
open Go.RowKit
set_option linter.unusedVariables false
attribute [local go_sem ↓] Go.wp_at_zero Go.wp_at_succ

/-- Some more bytes are written. -/
theorem Wr.grow {B g : Nat} {v : Value} {most : Int} {bs : List UInt8} {over : Bool} {w w1 : World} (h : Wr B g v most bs over w) {news : List UInt8} {v' : Value}
    (hg : w.grownBy w1 v.ownBlock) (ho : w1.ownsRow B 5 1 v' (bs ++ news).length ((bs ++ news).map U8)) (hl : (bs ++ news).length ≤ 140737488355328) :
    Wr B g v' most (bs ++ news) over (w1.setCell ⟨g, 1, none⟩ v') := by
  have hb : w1.heap[g]? = _ := (hg.block g (blk_lt h.blk) h.apart).trans h.blk
  refine ⟨by simpa using blk_set (j := 1) hb v', ?_, ?_, h.m0, h.m1, hl⟩
  · refine ⟨ho.1, ?_⟩
    rcases ho.2 with h1 | ⟨g', cap, cur, h1, h2, hh, h3⟩
    · exact Or.inl h1
    · refine Or.inr ⟨g', cap, cur, h1, h2, ?_, h3⟩
      rw [Below.heap_setCell _ _ _ _ ?_]
      · exact hh
      · rintro rfl
        rw [hb] at hh
        simp at hh
  · have := h.base; have := hg.size; simp [World.setCell]; omega
theorem Wr.lt {B g : Nat} {v : Value} {most : Int} {bs : List UInt8} {over : Bool} {w : World} (h : Wr B g v most bs over w) : g < w.heap.size := blk_lt h.blk
theorem Wr.alloc {B g : Nat} {v : Value} {most : Int} {bs : List UInt8} {over : Bool} {w : World} (h : Wr B g v most bs over w) (o : Obj) : Wr B g v most bs over (w.alloc o) :=
  ⟨blk_alloc h.blk o, h.own.alloc o, by have := h.base; simp; omega, h.m0, h.m1, h.len⟩
theorem Wr.drew {B g : Nat} {v : Value} {most : Int} {bs : List UInt8} {over : Bool} {w : World} (h : Wr B g v most bs over w) : Wr B g v most bs over w.drew :=
  ⟨h.blk, ownsRow_heap rfl h.own, h.base, h.m0, h.m1, h.len⟩
/-- Behind an append to the Writer's row (the byte lay in a block of its own): its cell and that it may be written. -/
theorem app_facts {B g : Nat} {u : Value} {most : Int} {cs : List UInt8} {over : Bool} {wr w1 : World} {o : Obj} (hw : Wr B g u most cs over wr) (hgrow : (wr.alloc o).grownBy w1 u.ownBlock) :
    w1.cell? ⟨g, 1, none⟩ = some u ∧ w1.frozen? ⟨g, 1, none⟩ = false := by
  have hb : w1.heap[g]? = _ := (hgrow.block g (by have := hw.lt; simp; omega) hw.apart).trans (blk_alloc hw.blk o)
  exact ⟨blk_cell hb, blk_free hb⟩
theorem grown_drew {a w1 : World} {r : Option Nat} (h : a.drew.grownBy w1 r) : a.grownBy w1 r := ⟨h.os, h.tape, h.output, h.size, h.block⟩
/-- What the append and the store behind it come to. -/
theorem app_step {B g : Nat} {u : Value} {most : Int} {cs : List UInt8} {over : Bool} {wr w1 : World} {o : Obj} {v' : Value} {e : Int} {b : UInt8} (hw : Wr B g u most cs over wr) (hgrow : (wr.alloc o).grownBy w1 u.ownBlock)
    (hown : w1.ownsRow B 5 1 v' (cs.length + 1) (cs.map U8 ++ [.int .u8 e])) (he : Value.int .u8 e = U8 b) (hl : cs.length + 1 ≤ 140737488355328) :
    Wr B g v' most (cs ++ [b]) over (w1.setCell ⟨g, 1, none⟩ v') ∧ Kept (wrS B g) wr (w1.setCell ⟨g, 1, none⟩ v') := by
  refine ⟨(hw.alloc o).grow hgrow ?_ (by simpa using hl), ?_⟩
  · rw [he] at hown
    simpa using hown
  · exact (((Kept.refl (wrS B g) wr).alloc o).grown hgrow (fun k hk _ => Or.inr (hw.own.lt k hk).1)).setCell (p := ⟨g, 1, none⟩) (Or.inl rfl) _
theorem byte_of (n d : Nat) : Value.int .u8 (IntKind.u8.wrap ((n : Int) / 2 ^ d)) = U8 (UInt8.ofNat (n / 2 ^ d)) := by
  have e : IntKind.u8.wrap ((n : Int) / 2 ^ d) = ((n / 2 ^ d % 256 : Nat) : Int) := by
    rw [IntKind.wrap_u8']
    have : ((n : Int) / 2 ^ d) = ((n / 2 ^ d : Nat) : Int) := by simp
    rw [this]
    omega
  rw [e]
  unfold U8
  rw [UInt8.toNat_ofNat']
theorem byte_of' (n d : Nat) (h : n < 256) : Value.int .u8 ((n : Int) / 2 ^ d) = U8 (UInt8.ofNat (n / 2 ^ d)) := by
  rw [← byte_of, IntKind.wrap_u8']
  have e : ((n : Int) / 2 ^ d) = ((n / 2 ^ d : Nat) : Int) := by simp
  have h2 : n / 2 ^ d ≤ n := Nat.div_le_self _ _
  rw [e, Int.emod_eq_of_lt (Int.natCast_nonneg _) (by omega)]
set_option maxRecDepth 100000 in
theorem width8 (w : World) : Calls Tryz.prog 214 #[] w fun e w' => e = .returned (.int .i64 1) ∧ w = w' := by
  have hb : ((Lib.bitLen (255 : Int).toNat : Nat) : Int) = 8 := by decide +kernel
  have hl := fun w => len64 255 w (by decide) (by decide)
  rw [hb] at hl
  have H := hidden hl
  clear hl hb
  go_enter Tryz.func214, Tryz.ntmps214
  go_wp2_with (go_at_call 208; refine (H.out _).mono ?_; rintro e w' ⟨rfl, rfl⟩)
  go_ret
  exact ⟨rfl, rfl⟩
set_option maxRecDepth 100000 in
theorem width16 (w : World) : Calls Tryz.prog 246 #[] w fun e w' => e = .returned (.int .i64 2) ∧ w = w' := by
  have hb : ((Lib.bitLen (65535 : Int).toNat : Nat) : Int) = 16 := by decide +kernel
  have hl := fun w => len64 65535 w (by decide) (by decide)
  rw [hb] at hl
  have H := hidden hl
  clear hl hb
  go_enter Tryz.func246, Tryz.ntmps246
  go_wp2_with (go_at_call 208; refine (H.out _).mono ?_; rintro e w' ⟨rfl, rfl⟩)
  go_ret
  exact ⟨rfl, rfl⟩
set_option maxRecDepth 100000 in
theorem width32 (w : World) : Calls Tryz.prog 212 #[] w fun e w' => e = .returned (.int .i64 4) ∧ w = w' := by
  have hb : ((Lib.bitLen (4294967295 : Int).toNat : Nat) : Int) = 32 := by decide +kernel
  have hl := fun w => len64 4294967295 w (by decide) (by decide)
  rw [hb] at hl
  have H := hidden hl
  clear hl hb
  go_enter Tryz.func212, Tryz.ntmps212
  go_wp2_with (go_at_call 208; refine (H.out _).mono ?_; rintro e w' ⟨rfl, rfl⟩)
  go_ret
  exact ⟨rfl, rfl⟩
set_option maxRecDepth 100000 in
theorem width64 (w : World) : Calls Tryz.prog 233 #[] w fun e w' => e = .returned (.int .i64 8) ∧ w = w' := by
  have hb : ((Lib.bitLen (18446744073709551615 : Int).toNat : Nat) : Int) = 64 := by decide +kernel
  have hl := fun w => len64 18446744073709551615 w (by decide) (by decide)
  rw [hb] at hl
  have H := hidden hl
  clear hl hb
  go_enter Tryz.func233, Tryz.ntmps233
  go_wp2_with (go_at_call 208; refine (H.out _).mono ?_; rintro e w' ⟨rfl, rfl⟩)
  go_ret
  exact ⟨rfl, rfl⟩
set_option maxHeartbeats 1000000 in
set_option maxRecDepth 100000 in
theorem put8 {B g : Nat} {v : Value} {most : Int} {bs : List UInt8} {over : Bool} {w : World} (h : Wr B g v most bs over w) (n : Nat) (hn : n < 256) (hk : wOk most bs.length over 1 = true) (hl : bs.length + 1 ≤ 140737488355328) :
    Calls Tryz.prog 179 #[.pointer (some ⟨g, 0, none⟩), .int .u8 n] w fun e w' => e = .returned (.tuple #[]) ∧ ∃ v', Wr B g v' most (bs ++ be 1 n) over w' ∧ Kept (wrS B g) w w' := by
  obtain ⟨i0, hi, hz0, hz1, hz2⟩ := info_parts info5
  have H := hidden h
  clear h
  go_enter Tryz.func179, Tryz.ntmps179
  go_wp2_with (first
    | (go_at_call 214; refine (width8 _).mono ?_; rintro e w1 ⟨rfl, rfl⟩)
    | (go_at_call 211; refine (room_yes H.out _ hk).mono ?_; rintro e w1 ⟨rfl, nq, rfl⟩))
  go_loopw [5] (fun i wr => ∃ (k : Nat) (u : Value), k ≤ 1 ∧ i = .int .i64 (-8 * (k : Int)) ∧ Wr B g u most (bs ++ (be 1 n).take k) over wr ∧ Kept (wrS B g) w wr) (fun i _ => (intOf i + 8).toNat)
  case atStart => exact ⟨0, v, by omega, rfl, by simpa using H.out.drewN nq, (Kept.refl _ _).drewN nq⟩
  case round =>
    obtain ⟨k, u, hks, rfl, hw, hkept⟩ := hrel
    by_cases hlt : k < 1
    · obtain ⟨cs, hcs⟩ : ∃ cs, cs = bs ++ (be 1 n).take k := ⟨_, rfl⟩
      rw [← hcs] at hw
      have hN : cs.length = bs.length + k := by rw [hcs]; simp [be_length]; omega
      have hnext : bs ++ (be 1 n).take (k + 1) = cs ++ [UInt8.ofNat (n / 2 ^ (8 * (1 - 1 - k)))] := by rw [be_take 1 n k hlt, hcs, List.append_assoc]
      have HX := hidden hnext
      have hm1 : Hid (cs.length + 1 ≤ maxLen) := by rw [Hid, hN]; unfold maxLen; omega
      have hm2 : Hid ((cs.length + 1) * 1 ≤ 140737488355328) := by rw [Hid, hN]; omega
      have hbase : Hid (∀ o, B ≤ (wr.alloc o).heap.size) := fun o => by have := hw.base; simp; omega
      have hd : Hid (((-8 * (k : Int))).toNat = 8 * (1 - 1 - k)) := by rw [Hid]; omega
      have hc1 : wr.cell? ⟨g, 1, none⟩ = some u := blk_cell hw.blk
      have hf1 : wr.frozen? ⟨g, 1, none⟩ = false := blk_free hw.blk
      have hca : ∀ o, (wr.alloc o).cell? ⟨g, 1, none⟩ = some u := fun o => blk_cell (blk_alloc hw.blk o)
      clear hcs hN hnext
      go_wp2
      go_region_law ((refine step_append_lies _ (by rfl) (.tmp 22) (.tmp 26) 207 (by rfl) B 5 i0 (.int .u8 0) 1 1 Tryz.underlying207 hi hz0 hz1 hz2 rfl (by decide) u _ _ (by rfl) (ownsRow_heap (w := wr.alloc _) rfl (hw.own.alloc _)) ⟨wr.heap.size, 0, none⟩ 1 1 _ (by rfl) rfl (World.news_of_block (heap_alloc_new wr _)) (fun x hx => by simp at hx; subst hx; rfl) (by decide) hm1.out hm2.out (hbase.out _) (wr.heap.size + 1) (by simp) ?_; intro g' cap' w1 hown' hgrow hat hlt'; obtain ⟨c1', f1'⟩ := app_facts hw (grown_drew hgrow)))
      all_goals
        have R := app_step hw (grown_drew hgrow) hown' (byte_of' n _ hn) (by have := hm2.out; omega)
        have RH := hidden R
        clear R hown' hgrow hat hca hc1 hf1
        go_wp2
        go_roundw
        case rel => exact ⟨k + 1, _, by omega, by go_num, by rw [HX.out, ← hd.out]; exact RH.out.1, hkept.trans RH.out.2⟩
        case measure => simp [intOf]; omega
    · go_wp2
      go_end0
      exact ⟨rfl, u, by rw [List.take_of_length_le (by rw [be_length]; omega)] at hw; exact hw, hkept⟩
set_option maxHeartbeats 1000000 in
set_option maxRecDepth 100000 in
theorem put16 {B g : Nat} {v : Value} {most : Int} {bs : List UInt8} {over : Bool} {w : World} (h : Wr B g v most bs over w) (n : Nat) (hn : n < 65536) (hk : wOk most bs.length over 2 = true) (hl : bs.length + 2 ≤ 140737488355328) :
    Calls Tryz.prog 226 #[.pointer (some ⟨g, 0, none⟩), .int .u16 n] w fun e w' => e = .returned (.tuple #[]) ∧ ∃ v', Wr B g v' most (bs ++ be 2 n) over w' ∧ Kept (wrS B g) w w' := by
  obtain ⟨i0, hi, hz0, hz1, hz2⟩ := info_parts info5
  have H := hidden h
  clear h
  go_enter Tryz.func226, Tryz.ntmps226
  go_wp2_with (first
    | (go_at_call 246; refine (width16 _).mono ?_; rintro e w1 ⟨rfl, rfl⟩)
    | (go_at_call 211; refine (room_yes H.out _ hk).mono ?_; rintro e w1 ⟨rfl, nq, rfl⟩))
  go_loopw [5] (fun i wr => ∃ (k : Nat) (u : Value), k ≤ 2 ∧ i = .int .i64 (8 - 8 * (k : Int)) ∧ Wr B g u most (bs ++ (be 2 n).take k) over wr ∧ Kept (wrS B g) w wr) (fun i _ => (intOf i + 8).toNat)
  case atStart => exact ⟨0, v, by omega, rfl, by simpa using H.out.drewN nq, (Kept.refl _ _).drewN nq⟩
  case round =>
    obtain ⟨k, u, hks, rfl, hw, hkept⟩ := hrel
    by_cases hlt : k < 2
    · obtain ⟨cs, hcs⟩ : ∃ cs, cs = bs ++ (be 2 n).take k := ⟨_, rfl⟩
      rw [← hcs] at hw
      have hN : cs.length = bs.length + k := by rw [hcs]; simp [be_length]; omega
      have hnext : bs ++ (be 2 n).take (k + 1) = cs ++ [UInt8.ofNat (n / 2 ^ (8 * (2 - 1 - k)))] := by rw [be_take 2 n k hlt, hcs, List.append_assoc]
      have HX := hidden hnext
      have hm1 : Hid (cs.length + 1 ≤ maxLen) := by rw [Hid, hN]; unfold maxLen; omega
      have hm2 : Hid ((cs.length + 1) * 1 ≤ 140737488355328) := by rw [Hid, hN]; omega
      have hbase : Hid (∀ o, B ≤ (wr.alloc o).heap.size) := fun o => by have := hw.base; simp; omega
      have hd : Hid (((8 - 8 * (k : Int))).toNat = 8 * (2 - 1 - k)) := by rw [Hid]; omega
      have hc1 : wr.cell? ⟨g, 1, none⟩ = some u := blk_cell hw.blk
      have hf1 : wr.frozen? ⟨g, 1, none⟩ = false := blk_free hw.blk
      have hca : ∀ o, (wr.alloc o).cell? ⟨g, 1, none⟩ = some u := fun o => blk_cell (blk_alloc hw.blk o)
      clear hcs hN hnext
      go_wp2
      go_region_law ((refine step_append_lies _ (by rfl) (.tmp 22) (.tmp 27) 207 (by rfl) B 5 i0 (.int .u8 0) 1 1 Tryz.underlying207 hi hz0 hz1 hz2 rfl (by decide) u _ _ (by rfl) (ownsRow_heap (w := wr.alloc _) rfl (hw.own.alloc _)) ⟨wr.heap.size, 0, none⟩ 1 1 _ (by rfl) rfl (World.news_of_block (heap_alloc_new wr _)) (fun x hx => by simp at hx; subst hx; rfl) (by decide) hm1.out hm2.out (hbase.out _) (wr.heap.size + 1) (by simp) ?_; intro g' cap' w1 hown' hgrow hat hlt'; obtain ⟨c1', f1'⟩ := app_facts hw (grown_drew hgrow)))
      all_goals
        have R := app_step hw (grown_drew hgrow) hown' (byte_of n _) (by have := hm2.out; omega)
        have RH := hidden R
        clear R hown' hgrow hat hca hc1 hf1
        go_wp2
        go_roundw
        case rel => exact ⟨k + 1, _, by omega, by go_num, by rw [HX.out, ← hd.out]; exact RH.out.1, hkept.trans RH.out.2⟩
        case measure => simp [intOf]; omega
    · go_wp2
      go_end0
      exact ⟨rfl, u, by rw [List.take_of_length_le (by rw [be_length]; omega)] at hw; exact hw, hkept⟩
set_option maxHeartbeats 1000000 in
set_option maxRecDepth 100000 in
theorem put32 {B g : Nat} {v : Value} {most : Int} {bs : List UInt8} {over : Bool} {w : World} (h : Wr B g v most bs over w) (n : Nat) (hn : n < 4294967296) (hk : wOk most bs.length over 4 = true) (hl : bs.length + 4 ≤ 140737488355328) :
    Calls Tryz.prog 173 #[.pointer (some ⟨g, 0, none⟩), .int .u32 n] w fun e w' => e = .returned (.tuple #[]) ∧ ∃ v', Wr B g v' most (bs ++ be 4 n) over w' ∧ Kept (wrS B g) w w' := by
  obtain ⟨i0, hi, hz0, hz1, hz2⟩ := info_parts info5
  have H := hidden h
  clear h
  go_enter Tryz.func173, Tryz.ntmps173
  go_wp2_with (first
    | (go_at_call 212; refine (width32 _).mono ?_; rintro e w1 ⟨rfl, rfl⟩)
    | (go_at_call 211; refine (room_yes H.out _ hk).mono ?_; rintro e w1 ⟨rfl, nq, rfl⟩))
  go_loopw [5] (fun i wr => ∃ (k : Nat) (u : Value), k ≤ 4 ∧ i = .int .i64 (24 - 8 * (k : Int)) ∧ Wr B g u most (bs ++ (be 4 n).take k) over wr ∧ Kept (wrS B g) w wr) (fun i _ => (intOf i + 8).toNat)
  case atStart => exact ⟨0, v, by omega, rfl, by simpa using H.out.drewN nq, (Kept.refl _ _).drewN nq⟩
  case round =>
    obtain ⟨k, u, hks, rfl, hw, hkept⟩ := hrel
    by_cases hlt : k < 4
    · obtain ⟨cs, hcs⟩ : ∃ cs, cs = bs ++ (be 4 n).take k := ⟨_, rfl⟩
      rw [← hcs] at hw
      have hN : cs.length = bs.length + k := by rw [hcs]; simp [be_length]; omega
      have hnext : bs ++ (be 4 n).take (k + 1) = cs ++ [UInt8.ofNat (n / 2 ^ (8 * (4 - 1 - k)))] := by rw [be_take 4 n k hlt, hcs, List.append_assoc]
      have HX := hidden hnext
      have hm1 : Hid (cs.length + 1 ≤ maxLen) := by rw [Hid, hN]; unfold maxLen; omega
      have hm2 : Hid ((cs.length + 1) * 1 ≤ 140737488355328) := by rw [Hid, hN]; omega
      have hbase : Hid (∀ o, B ≤ (wr.alloc o).heap.size) := fun o => by have := hw.base; simp; omega
      have hd : Hid (((24 - 8 * (k : Int))).toNat = 8 * (4 - 1 - k)) := by rw [Hid]; omega
      have hc1 : wr.cell? ⟨g, 1, none⟩ = some u := blk_cell hw.blk
      have hf1 : wr.frozen? ⟨g, 1, none⟩ = false := blk_free hw.blk
      have hca : ∀ o, (wr.alloc o).cell? ⟨g, 1, none⟩ = some u := fun o => blk_cell (blk_alloc hw.blk o)
      clear hcs hN hnext
      go_wp2
      go_region_law ((refine step_append_lies _ (by rfl) (.tmp 22) (.tmp 27) 207 (by rfl) B 5 i0 (.int .u8 0) 1 1 Tryz.underlying207 hi hz0 hz1 hz2 rfl (by decide) u _ _ (by rfl) (ownsRow_heap (w := wr.alloc _) rfl (hw.own.alloc _)) ⟨wr.heap.size, 0, none⟩ 1 1 _ (by rfl) rfl (World.news_of_block (heap_alloc_new wr _)) (fun x hx => by simp at hx; subst hx; rfl) (by decide) hm1.out hm2.out (hbase.out _) (wr.heap.size + 1) (by simp) ?_; intro g' cap' w1 hown' hgrow hat hlt'; obtain ⟨c1', f1'⟩ := app_facts hw (grown_drew hgrow)))
      all_goals
        have R := app_step hw (grown_drew hgrow) hown' (byte_of n _) (by have := hm2.out; omega)
        have RH := hidden R
        clear R hown' hgrow hat hca hc1 hf1
        go_wp2
        go_roundw
        case rel => exact ⟨k + 1, _, by omega, by go_num, by rw [HX.out, ← hd.out]; exact RH.out.1, hkept.trans RH.out.2⟩
        case measure => simp [intOf]; omega
    · go_wp2
      go_end0
      exact ⟨rfl, u, by rw [List.take_of_length_le (by rw [be_length]; omega)] at hw; exact hw, hkept⟩
set_option maxHeartbeats 1000000 in
set_option maxRecDepth 100000 in
theorem put64 {B g : Nat} {v : Value} {most : Int} {bs : List UInt8} {over : Bool} {w : World} (h : Wr B g v most bs over w) (n : Nat) (hn : n < 18446744073709551616) (hk : wOk most bs.length over 8 = true) (hl : bs.length + 8 ≤ 140737488355328) :
    Calls Tryz.prog 210 #[.pointer (some ⟨g, 0, none⟩), .int .u64 n] w fun e w' => e = .returned (.tuple #[]) ∧ ∃ v', Wr B g v' most (bs ++ be 8 n) over w' ∧ Kept (wrS B g) w w' := by
  obtain ⟨i0, hi, hz0, hz1, hz2⟩ := info_parts info5
  have H := hidden h
  clear h
  go_enter Tryz.func210, Tryz.ntmps210
  go_wp2_with (first
    | (go_at_call 233; refine (width64 _).mono ?_; rintro e w1 ⟨rfl, rfl⟩)
    | (go_at_call 211; refine (room_yes H.out _ hk).mono ?_; rintro e w1 ⟨rfl, nq, rfl⟩))
  go_loopw [5] (fun i wr => ∃ (k : Nat) (u : Value), k ≤ 8 ∧ i = .int .i64 (56 - 8 * (k : Int)) ∧ Wr B g u most (bs ++ (be 8 n).take k) over wr ∧ Kept (wrS B g) w wr) (fun i _ => (intOf i + 8).toNat)
  case atStart => exact ⟨0, v, by omega, rfl, by simpa using H.out.drewN nq, (Kept.refl _ _).drewN nq⟩
  case round =>
    obtain ⟨k, u, hks, rfl, hw, hkept⟩ := hrel
    by_cases hlt : k < 8
    · obtain ⟨cs, hcs⟩ : ∃ cs, cs = bs ++ (be 8 n).take k := ⟨_, rfl⟩
      rw [← hcs] at hw
      have hN : cs.length = bs.length + k := by rw [hcs]; simp [be_length]; omega
      have hnext : bs ++ (be 8 n).take (k + 1) = cs ++ [UInt8.ofNat (n / 2 ^ (8 * (8 - 1 - k)))] := by rw [be_take 8 n k hlt, hcs, List.append_assoc]
      have HX := hidden hnext
      have hm1 : Hid (cs.length + 1 ≤ maxLen) := by rw [Hid, hN]; unfold maxLen; omega
      have hm2 : Hid ((cs.length + 1) * 1 ≤ 140737488355328) := by rw [Hid, hN]; omega
      have hbase : Hid (∀ o, B ≤ (wr.alloc o).heap.size) := fun o => by have := hw.base; simp; omega
      have hd : Hid (((56 - 8 * (k : Int))).toNat = 8 * (8 - 1 - k)) := by rw [Hid]; omega
      have hc1 : wr.cell? ⟨g, 1, none⟩ = some u := blk_cell hw.blk
      have hf1 : wr.frozen? ⟨g, 1, none⟩ = false := blk_free hw.blk
      have hca : ∀ o, (wr.alloc o).cell? ⟨g, 1, none⟩ = some u := fun o => blk_cell (blk_alloc hw.blk o)
      clear hcs hN hnext
      go_wp2
      go_region_law ((refine step_append_lies _ (by rfl) (.tmp 22) (.tmp 27) 207 (by rfl) B 5 i0 (.int .u8 0) 1 1 Tryz.underlying207 hi hz0 hz1 hz2 rfl (by decide) u _ _ (by rfl) (ownsRow_heap (w := wr.alloc _) rfl (hw.own.alloc _)) ⟨wr.heap.size, 0, none⟩ 1 1 _ (by rfl) rfl (World.news_of_block (heap_alloc_new wr _)) (fun x hx => by simp at hx; subst hx; rfl) (by decide) hm1.out hm2.out (hbase.out _) (wr.heap.size + 1) (by simp) ?_; intro g' cap' w1 hown' hgrow hat hlt'; obtain ⟨c1', f1'⟩ := app_facts hw (grown_drew hgrow)))
      all_goals
        have R := app_step hw (grown_drew hgrow) hown' (byte_of n _) (by have := hm2.out; omega)
        have RH := hidden R
        clear R hown' hgrow hat hca hc1 hf1
        go_wp2
        go_roundw
        case rel => exact ⟨k + 1, _, by omega, by go_num, by rw [HX.out, ← hd.out]; exact RH.out.1, hkept.trans RH.out.2⟩
        case measure => simp [intOf]; omega
    · go_wp2
      go_end0
      exact ⟨rfl, u, by rw [List.take_of_length_le (by rw [be_length]; omega)] at hw; exact hw, hkept⟩
end Go.Proofs.YtmlibjohhgpniaaGreatDoor
