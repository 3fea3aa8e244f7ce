/- The document's Number, walked: n in so many bytes. -/
import Derived.Test.YtfeaaielopaonaaDoorRows
import Derived.Test.YtfeaaielopaonaaDoorAwake
namespace Go.Proofs.YtfeaaielopaonaaDoor
open Go.RowKit
set_option linter.unusedVariables false

/-- A slice of bytes that the call itself has made. -/
def Bts (B : Nat) (v : Value) (l : List UInt8) (w : World) : Prop := w.ownsRow B 5 1 v l.length (l.map U8)
theorem Bts.nil (B : Nat) (w : World) : Bts B (.slice none 0 0) [] w := World.ownsRow_nil _ _ _ _
theorem bts_grow {B : Nat} {l v' : Value} {L : List UInt8} {w w3 w4 : World} {o : Obj} {e : Int} {b : UInt8} (hn : Bts B l L w3) (hS : Same w w3) (hB : w.heap.size ≤ B) (hgrow : (w3.alloc o).grownBy w4 l.ownBlock) (he : Value.int .u8 e = U8 b)
    (hown : w4.ownsRow B 5 1 v' (L.length + 1) (L.map U8 ++ [.int .u8 e])) : Bts B v' (L ++ [b]) w4 ∧ Same w w4 := by
  constructor
  · unfold Bts
    rw [he] at hown
    rw [List.length_append, List.map_append]
    exact hown
  · refine (Kept.alloc hS o).grown hgrow fun k hk hlt => ?_
    have := (hn.lt k hk).1
    omega
set_option maxHeartbeats 1000000 in
set_option maxRecDepth 100000 in
theorem refNumber (n s : Nat) (w : World) (hn : n < 18446744073709551616) (hs : s ≤ 8) :
    Calls Tryd.prog 22 #[.int .u64 n, .int .i64 s] w fun e w' => e = .returned (.string ⟨(be s n).toArray⟩) ∧ Same w w' := by
  obtain ⟨i0, hi, hz0, hz1, hz2⟩ := info_parts info5
  go_enter Tryd.func22, Tryd.ntmps22
  go_wp2
  go_loopw [5, 6] (fun l i wr => ∃ k : Nat, k ≤ s ∧ i = .int .i64 ((s : Int) - 1 - (k : Int)) ∧ Bts w.heap.size l ((be s n).take k) wr ∧ Same w wr) (fun _ i _ => (intOf i + 1).toNat)
  case atStart => exact ⟨0, by omega, by simp, Bts.nil _ _, Kept.refl _ _⟩
  case round =>
    obtain ⟨k, hk, rfl, hb, hw⟩ := hrel
    by_cases hlt : k < s
    · have e1 := be_take s n k hlt
      have el : ((be s n).take k).length = k := by simp [be_length]; omega
      have E1 := hidden e1
      have hm1 : Hid (((be s n).take k).length + 1 ≤ maxLen) := by rw [Hid, el]; unfold maxLen; omega
      have hm2 : Hid ((((be s n).take k).length + 1) * 1 ≤ 140737488355328) := by rw [Hid, el]; omega
      have hbase : Hid (∀ o, w.heap.size ≤ (wr.alloc o).heap.size) := fun o => by have := hw.size; simp; omega
      clear e1 el
      generalize (be s n).take k = L at hb E1 hm1 hm2
      go_wp2_with (at_builtin; refine wpList_append_lies _ (by rfl) (.tmp 13) (.tmp 19) 36 (by rfl) w.heap.size 5 i0 (.int .u8 0) 1 1 Tryd.underlying36 hi hz0 hz1 hz2 rfl (by decide) _ _ _ (by rfl) (hb.alloc _) ⟨wr.heap.size, 0, none⟩ 1 1 _ (by rfl) rfl (World.news_of_block (heap_alloc_new wr _)) (fun x hx => by simp at hx; subst hx; rfl) (by decide) hm1.out hm2.out (hbase.out _) (wr.heap.size + 1) (by simp) ?_; intro g' cap' w4 hown' hgrow hat hlt')
      obtain ⟨n4, K4⟩ := bts_grow hb hw (Nat.le_refl _) hgrow (byte_of n _) hown'
      clear hown' hgrow hat hb hw
      go_wp2
      go_roundw
      case rel => exact ⟨k + 1, by omega, by go_num, by rw [E1.out]; exact n4, K4⟩
      case measure => simp [intOf]; omega
    · obtain rfl : k = s := by omega
      rw [List.take_of_length_le (by rw [be_length]; exact Nat.le_refl _)] at hb
      have hcv := own_string hb
      go_wp2
      go_returns
      exact ⟨rfl, hw⟩
end Go.Proofs.YtfeaaielopaonaaDoor
