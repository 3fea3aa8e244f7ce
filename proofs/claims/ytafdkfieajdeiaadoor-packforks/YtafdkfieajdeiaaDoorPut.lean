/- codec.Writer: numbers of so many bytes. -/
import Derived.Test.YtafdkfieajdeiaaDoorLen
import Derived.Deep.RegionHeld3
import Derived.Deep.RegionLaw
import Derived.Deep.DrawnRows
namespace Go.Proofs.YtafdkfieajdeiaaDoor
open Go.RowKit
set_option linter.unusedVariables false
attribute [local go_sem ↓] Go.wp_at_zero Go.wp_at_succ

/-- Some more bytes are written. -/
theorem Wr.grow {B g : Nat} {v : Value} {most : Int} {bs : List UInt8} {over : Bool} {w w1 : World} (h : Wr B g v most bs over w) {news : List UInt8} {v' : Value}
    (hg : w.grownBy w1 v.ownBlock) (ho : w1.ownsRow B 5 1 v' (bs ++ news).length ((bs ++ news).map U8)) (hl : (bs ++ news).length ≤ 140737488355328) :
    Wr B g v' most (bs ++ news) over (w1.setCell ⟨g, 1, none⟩ v') := by
  have hb : w1.heap[g]? = _ := (hg.block g (blk_lt h.blk) h.apart).trans h.blk
  refine ⟨by simpa using blk_set (j := 1) hb v', ?_, ?_, h.m0, h.m1, hl⟩
  · refine ⟨ho.1, ?_⟩
    rcases ho.2 with h1 | ⟨g', cap, cur, h1, h2, hh, h3⟩
    · exact Or.inl h1
    · refine Or.inr ⟨g', cap, cur, h1, h2, ?_, h3⟩
      rw [Below.heap_setCell _ _ _ _ ?_]
      · exact hh
      · rintro rfl
        rw [hb] at hh
        simp at hh
  · have := h.base; have := hg.size; simp [World.setCell]; omega
theorem Wr.lt {B g : Nat} {v : Value} {most : Int} {bs : List UInt8} {over : Bool} {w : World} (h : Wr B g v most bs over w) : g < w.heap.size := blk_lt h.blk
theorem Wr.alloc {B g : Nat} {v : Value} {most : Int} {bs : List UInt8} {over : Bool} {w : World} (h : Wr B g v most bs over w) (o : Obj) : Wr B g v most bs over (w.alloc o) :=
  ⟨blk_alloc h.blk o, h.own.alloc o, by have := h.base; simp; omega, h.m0, h.m1, h.len⟩
theorem Wr.drew {B g : Nat} {v : Value} {most : Int} {bs : List UInt8} {over : Bool} {w : World} (h : Wr B g v most bs over w) : Wr B g v most bs over w.drew :=
  ⟨h.blk, ownsRow_heap rfl h.own, h.base, h.m0, h.m1, h.len⟩
/-- Behind an append to the Writer's row (the byte lay in a block of its own): its cell and that it may be written. -/
theorem app_facts {B g : Nat} {u : Value} {most : Int} {cs : List UInt8} {over : Bool} {wr w1 : World} {o : Obj} (hw : Wr B g u most cs over wr) (hgrow : (wr.alloc o).grownBy w1 u.ownBlock) :
    w1.cell? ⟨g, 1, none⟩ = some u ∧ w1.frozen? ⟨g, 1, none⟩ = false := by
  have hb : w1.heap[g]? = _ := (hgrow.block g (by have := hw.lt; simp; omega) hw.apart).trans (blk_alloc hw.blk o)
  exact ⟨blk_cell hb, blk_free hb⟩
theorem grown_drew {a w1 : World} {r : Option Nat} (h : a.drew.grownBy w1 r) : a.grownBy w1 r := ⟨h.os, h.tape, h.output, h.size, h.block⟩
/-- What the append and the store behind it come to. -/
theorem app_step {B g : Nat} {u : Value} {most : Int} {cs : List UInt8} {over : Bool} {wr w1 : World} {o : Obj} {v' : Value} {e : Int} {b : UInt8} (hw : Wr B g u most cs over wr) (hgrow : (wr.alloc o).grownBy w1 u.ownBlock)
    (hown : w1.ownsRow B 5 1 v' (cs.length + 1) (cs.map U8 ++ [.int .u8 e])) (he : Value.int .u8 e = U8 b) (hl : cs.length + 1 ≤ 140737488355328) :
    Wr B g v' most (cs ++ [b]) over (w1.setCell ⟨g, 1, none⟩ v') ∧ Kept (wrS B g) wr (w1.setCell ⟨g, 1, none⟩ v') := by
  refine ⟨(hw.alloc o).grow hgrow ?_ (by simpa using hl), ?_⟩
  · rw [he] at hown
    simpa using hown
  · exact (((Kept.refl (wrS B g) wr).alloc o).grown hgrow (fun k hk _ => Or.inr (hw.own.lt k hk).1)).setCell (p := ⟨g, 1, none⟩) (Or.inl rfl) _
theorem byte_of (n d : Nat) : Value.int .u8 (IntKind.u8.wrap ((n : Int) / 2 ^ d)) = U8 (UInt8.ofNat (n / 2 ^ d)) := by
  have e : IntKind.u8.wrap ((n : Int) / 2 ^ d) = ((n / 2 ^ d % 256 : Nat) : Int) := by
    rw [IntKind.wrap_u8']
    have : ((n : Int) / 2 ^ d) = ((n / 2 ^ d : Nat) : Int) := by simp
    rw [this]
    omega
  rw [e]
  unfold U8
  rw [UInt8.toNat_ofNat']
theorem byte_of' (n d : Nat) (h : n < 256) : Value.int .u8 ((n : Int) / 2 ^ d) = U8 (UInt8.ofNat (n / 2 ^ d)) := by
  rw [← byte_of, IntKind.wrap_u8']
  have e : ((n : Int) / 2 ^ d) = ((n / 2 ^ d : Nat) : Int) := by simp
  have h2 : n / 2 ^ d ≤ n := Nat.div_le_self _ _
  rw [e, Int.emod_eq_of_lt (Int.natCast_nonneg _) (by omega)]
set_option maxRecDepth 100000 in
theorem width32 (w : World) : Calls Tryd.prog 80 #[] w fun e w' => e = .returned (.int .i64 4) ∧ w = w' := by
  have hb : ((Lib.bitLen (4294967295 : Int).toNat : Nat) : Int) = 32 := by decide +kernel
  have hl := fun w => len64 4294967295 w (by decide) (by decide)
  rw [hb] at hl
  have H := hidden hl
  clear hl hb
  go_enter Tryd.func80, Tryd.ntmps80
  go_wp2_with (go_at_call 83; refine (H.out _).mono ?_; rintro e w' ⟨rfl, rfl⟩)
  go_ret
  exact ⟨rfl, rfl⟩
set_option maxHeartbeats 1000000 in
set_option maxRecDepth 100000 in
theorem put32 {B g : Nat} {v : Value} {most : Int} {bs : List UInt8} {over : Bool} {w : World} (h : Wr B g v most bs over w) (n : Nat) (hn : n < 4294967296) (hk : wOk most bs.length over 4 = true) (hl : bs.length + 4 ≤ 140737488355328) :
    Calls Tryd.prog 77 #[.pointer (some ⟨g, 0, none⟩), .int .u32 n] w fun e w' => e = .returned (.tuple #[]) ∧ ∃ v', Wr B g v' most (bs ++ be 4 n) over w' ∧ Kept (wrS B g) w w' := by
  obtain ⟨i0, hi, hz0, hz1, hz2⟩ := info_parts info5
  have H := hidden h
  clear h
  go_enter Tryd.func77, Tryd.ntmps77
  go_wp2_with (first
    | (go_at_call 80; refine (width32 _).mono ?_; rintro e w1 ⟨rfl, rfl⟩)
    | (go_at_call 81; refine (room_yes H.out _ hk).mono ?_; rintro e w1 ⟨rfl, nq, rfl⟩))
  go_loopw [5] (fun i wr => ∃ (k : Nat) (u : Value), k ≤ 4 ∧ i = .int .i64 (24 - 8 * (k : Int)) ∧ Wr B g u most (bs ++ (be 4 n).take k) over wr ∧ Kept (wrS B g) w wr) (fun i _ => (intOf i + 8).toNat)
  case atStart => exact ⟨0, v, by omega, rfl, by simpa using H.out.drewN nq, (Kept.refl _ _).drewN nq⟩
  case round =>
    obtain ⟨k, u, hks, rfl, hw, hkept⟩ := hrel
    by_cases hlt : k < 4
    · obtain ⟨cs, hcs⟩ : ∃ cs, cs = bs ++ (be 4 n).take k := ⟨_, rfl⟩
      rw [← hcs] at hw
      have hN : cs.length = bs.length + k := by rw [hcs]; simp [be_length]; omega
      have hnext : bs ++ (be 4 n).take (k + 1) = cs ++ [UInt8.ofNat (n / 2 ^ (8 * (4 - 1 - k)))] := by rw [be_take 4 n k hlt, hcs, List.append_assoc]
      have HX := hidden hnext
      have hm1 : Hid (cs.length + 1 ≤ maxLen) := by rw [Hid, hN]; unfold maxLen; omega
      have hm2 : Hid ((cs.length + 1) * 1 ≤ 140737488355328) := by rw [Hid, hN]; omega
      have hbase : Hid (∀ o, B ≤ (wr.alloc o).heap.size) := fun o => by have := hw.base; simp; omega
      have hd : Hid (((24 - 8 * (k : Int))).toNat = 8 * (4 - 1 - k)) := by rw [Hid]; omega
      have hc1 : wr.cell? ⟨g, 1, none⟩ = some u := blk_cell hw.blk
      have hf1 : wr.frozen? ⟨g, 1, none⟩ = false := blk_free hw.blk
      have hca : ∀ o, (wr.alloc o).cell? ⟨g, 1, none⟩ = some u := fun o => blk_cell (blk_alloc hw.blk o)
      clear hcs hN hnext
      go_wp2
      go_region_law ((refine step_append_lies _ (by rfl) (.tmp 22) (.tmp 27) 32 (by rfl) B 5 i0 (.int .u8 0) 1 1 Tryd.underlying32 hi hz0 hz1 hz2 rfl (by decide) u _ _ (by rfl) (ownsRow_heap (w := wr.alloc _) rfl (hw.own.alloc _)) ⟨wr.heap.size, 0, none⟩ 1 1 _ (by rfl) rfl (World.news_of_block (heap_alloc_new wr _)) (fun x hx => by simp at hx; subst hx; rfl) (by decide) hm1.out hm2.out (hbase.out _) (wr.heap.size + 1) (by simp) ?_; intro g' cap' w1 hown' hgrow hat hlt'; obtain ⟨c1', f1'⟩ := app_facts hw (grown_drew hgrow)))
      all_goals
        have R := app_step hw (grown_drew hgrow) hown' (byte_of n _) (by have := hm2.out; omega)
        have RH := hidden R
        clear R hown' hgrow hat hca hc1 hf1
        go_wp2
        go_roundw
        case rel => exact ⟨k + 1, _, by omega, by go_num, by rw [HX.out, ← hd.out]; exact RH.out.1, hkept.trans RH.out.2⟩
        case measure => simp [intOf]; omega
    · go_wp2
      go_end0
      exact ⟨rfl, u, by rw [List.take_of_length_le (by rw [be_length]; omega)] at hw; exact hw, hkept⟩
end Go.Proofs.YtafdkfieajdeiaaDoor
