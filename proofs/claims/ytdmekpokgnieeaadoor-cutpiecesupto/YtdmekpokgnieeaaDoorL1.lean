/- The document's Lengths, walked. -/
import Derived.Test.YtdmekpokgnieeaaDoorAg2
import Derived.Test.YtdmekpokgnieeaaDoorCut6
import Derived.Test.YtdmekpokgnieeaaDoorQuietS
import Derived.Laws.AppendOwnNone
import Derived.Deep.RegionLawGrows
import Derived.Deep.AppendLies
import Derived.Test.YtdmekpokgnieeaaDoorStepC
namespace Go.Proofs.YtdmekpokgnieeaaDoor
open Go.RowKit Go.WideShapes Go.Shelf
set_option linter.unusedVariables false
attribute [local go_sem ↓] Go.wp_at_zero Go.wp_at_succ
theorem refFirst_any (c : Shp) (hc : c.Ok) {w : World} {v : Value} {l : List UInt8} (hb : Byt w v l) (hl : l.length ≤ 140737488355328) :
    Calls Tryd.prog 22 #[.agg #[.int .i64 c.mn, .int .i64 c.no, .int .i64 c.mx, .int .u64 c.seed], v] w fun e w' => e = .returned (.tuple #[.int .i64 (c.cut l : Nat), .bool (c.grow 0 0 l).2.1]) ∧ Same w w' := by
  by_cases hf : l.length ≤ c.mn ∧ l.length < c.mx
  · exact refFirst_few c hc hb hl hf
  · exact refFirst_more c hc hb hl hf
theorem refCheck_yes (c : Shp) (hc : c.Ok) (w : World) : Calls Tryd.prog 12 #[.agg #[.int .i64 c.mn, .int .i64 c.no, .int .i64 c.mx, .int .u64 c.seed]] w fun e w' => e = .returned (.int .i64 0) ∧ Same w w' := by
  have h := refCheck_any c.mn c.no c.mx c.seed w (by omega) (by have := hc.no_le; omega)
  rw [show cutErr c.mn c.no c.mx = 0 from if_pos hc.cutOk] at h
  exact h
theorem refCheck_no {mn no mx : Int} (hn : ¬ CutOk mn no mx) (seed : Nat) (w : World) (h0 : -9223372036854775808 ≤ no) (h1 : no ≤ 9223372036854775807) : Calls Tryd.prog 12 #[.agg #[.int .i64 mn, .int .i64 no, .int .i64 mx, .int .u64 seed]] w fun e w' => e = .returned (.int .i64 50) ∧ Same w w' := by
  have h := refCheck_any mn no mx seed w h0 h1
  rw [show cutErr mn no mx = 50 from if_neg hn] at h
  exact h
theorem elemByte : Tryd.prog.elem 25 = 5 := by kernel_rfl
set_option maxRecDepth 100000 in
theorem Byt.tail {w : World} {a : Option Addr} {n cap : Nat} {l : List UInt8} (h : Byt w (.slice a n cap) l) {i : Nat} (hi : i ≤ n) (x : Int) (hx : x = (i : Int)) :
    ∃ p, (∀ W, (Instr.sliceAt 25 (.slice a n cap) (some (.int .i64 x)) none none).run Tryd.prog W = .ok (.slice p (n - i) (cap - i)) W) ∧ Byt w (.slice p (n - i) (cap - i)) (l.drop i) := by
  obtain ⟨a', cap', h1, h0, h9, h2⟩ := h
  simp only [Value.slice.injEq] at h1
  obtain ⟨rfl, rfl, rfl⟩ := h1
  obtain ⟨i0, hii, hz0, hz1, hz2⟩ := info_parts infoByte
  subst hx
  refine ⟨if cap = i then a else a.map (·.add (i * 1)), fun W => ?_, ?_⟩
  · have hs : (sizeOf (Tryd.prog.elem 25)).run Tryd.prog W = .ok 1 W := by rw [elemByte]; simp [sizeOf, typeInfo, hii, hz1]
    rw [run_sliceAt_slice (h := Tryd.underlying25), run_slice_l (ht := Tryd.underlying25) (h0 := by omega) (h1 := by omega), hs]
    simp only [sliced, Result.andThen_ok, Int.toNat_natCast]
  · refine ⟨_, _, by rw [List.length_drop], by rw [List.length_drop]; omega, fun hn => ?_, fun hne => ?_⟩
    · by_cases hci : cap = i
      · omega
      · rw [if_neg hci] at hn
        have := h9 (by cases a <;> simp_all)
        omega
    · rw [List.length_drop] at hne
      have hlt : i < l.length := by omega
      obtain ⟨b, off, rfl, hc⟩ := h2 (by omega)
      have hadd : (⟨b, off, none⟩ : Addr).add i = ⟨b, off + i, none⟩ := by unfold Addr.add; split <;> simp_all
      refine ⟨b, off + i, by simp [show ¬ cap = i by omega, hadd], fun j y hj => ?_⟩
      rw [List.getElem?_drop] at hj
      rw [Nat.add_assoc]
      exact hc _ _ hj
theorem cell_one (W : World) (t : TypeId) (v : Value) : Lies (W.alloc (.cells #[v] t)) (some ⟨W.heap.size, 0, none⟩) 1 [v] := lies_of (cell_one_new _ _ _)
def lenV : Value → Nat
  | .slice _ n _ => n
  | _ => 0
set_option maxHeartbeats 2000000 in
set_option maxRecDepth 100000 in
theorem refLengths_yes (c : Shp) (hc : c.Ok) {w : World} {v : Value} {l : List UInt8} (hb : Byt w v l) (hl : l.length ≤ 1099511627776) :
    Calls Tryd.prog 8 #[.agg #[.int .i64 c.mn, .int .i64 c.no, .int .i64 c.mx, .int .u64 c.seed], v] w fun e w' => ∃ u, e = .returned (.tuple #[u, .int .i64 0]) ∧ Ints w.heap.size w' u (c.lens l) ∧ Same w w' := by
  obtain ⟨i0, hi, hz0, hz1, hz2⟩ := info_parts infoInt
  obtain ⟨a, cap, rfl, hcap, hcell⟩ := hb.form
  have HB := hidden hb
  have HK := hidden (fun w => refCheck_yes c hc w)
  have K0 : Hid (Same w (w.alloc (.cells #[.int .i64 c.mn, .int .i64 c.no, .int .i64 c.mx, .int .u64 c.seed] 24))) := hidden (same_alloc _ _)
  clear hcell
  go_enter Tryd.func8, Tryd.ntmps8
  go_wp2_with (first
    | (go_at_call 12; refine (HK.out _).mono ?_; rintro e w1 ⟨rfl, k1⟩; have b0 : w1.cell? ⟨w.heap.size, 0, none⟩ = some (.int .i64 c.mn) := box_cell 0 k1 rfl; have b1 : w1.cell? ⟨w.heap.size, 1, none⟩ = some (.int .i64 c.no) := box_cell 1 k1 rfl; have b2 : w1.cell? ⟨w.heap.size, 2, none⟩ = some (.int .i64 c.mx) := box_cell 2 k1 rfl; have b3 : w1.cell? ⟨w.heap.size, 3, none⟩ = some (.int .u64 c.seed) := box_cell 3 k1 rfl; have KW : Hid (Same w w1) := hidden (Kept.trans K0.out k1); have hz : w.heap.size < w1.heap.size := (by have := k1.size; simp at this; omega)))
  have hl1 := c.lens_len hc l.length l (Nat.le_refl _)
  have HF := hidden (fun w v m (hb : Byt w v m) (hl : m.length ≤ 140737488355328) => refFirst_any c hc hb hl)
  have HC := hidden hc
  have HK1 : Hid (∀ wr, Same w1 wr → wr.cell? ⟨w.heap.size, 0, none⟩ = some (.int .i64 c.mn) ∧ wr.cell? ⟨w.heap.size, 1, none⟩ = some (.int .i64 c.no) ∧ wr.cell? ⟨w.heap.size, 2, none⟩ = some (.int .i64 c.mx) ∧ wr.cell? ⟨w.heap.size, 3, none⟩ = some (.int .u64 c.seed)) :=
    hidden (fun wr k => ⟨k.cell (p := ⟨w.heap.size, 0, none⟩) (fun h => h) b0, k.cell (p := ⟨w.heap.size, 1, none⟩) (fun h => h) b1, k.cell (p := ⟨w.heap.size, 2, none⟩) (fun h => h) b2, k.cell (p := ⟨w.heap.size, 3, none⟩) (fun h => h) b3⟩)
  have HB1 := hidden (HB.out.same KW.out)
  clear b0 b1 b2 b3 hc HB hb
  go_loopw [1, 7] (fun b o wr => ∃ (fr : Nat) (pre : List Nat) (p a7 : Option Addr) (c7 : Nat), fr ≤ l.length ∧ b = .slice p (l.length - fr) (cap - fr) ∧ Byt w1 b (l.drop fr) ∧ c.lens l = pre ++ c.lens (l.drop fr) ∧ o = .slice a7 pre.length c7 ∧ wr.ownsRow w1.heap.size 3 1 o pre.length (pre.map fun (n : Nat) => Value.int .i64 (n : Int)) ∧ Same w1 wr) (fun b _ _ => lenV b)
  case atStart => exact ⟨0, [], a, none, 0, Nat.zero_le _, rfl, HB1.out, rfl, rfl, World.ownsRow_nil _ _ _ _, Kept.refl _ _⟩
  case round =>
    obtain ⟨fr, pre, p, a7, c7, hfr, rfl, hby, hpl, rfl, hrow, hS⟩ := hrel
    obtain ⟨b0, b1, b2, b3⟩ := HK1.out _ hS
    have HBY := hidden hby
    have HR := hidden hrow
    have HS := hidden hS
    clear hby hrow hS
    by_cases hlt : fr < l.length
    · have hne : l.drop fr ≠ [] := by
        intro h
        have := congrArg List.length h
        rw [List.length_drop] at this
        simp at this
        omega
      have hcl := c.cut_le (l.drop fr)
      have hcp := c.cut_pos HC.out hne
      rw [c.lens_cons HC.out hne, List.drop_drop] at hpl
      rw [List.length_drop] at hcl
      have hlen : pre.length < (c.lens l).length := by
        have := congrArg List.length hpl
        rw [List.length_append, List.length_cons] at this
        omega
      have HPL := hidden hpl
      have HF1 := hidden (HF.out wr _ _ (HBY.out.same HS.out) (by rw [List.length_drop]; omega))
      obtain ⟨p', hsl, hby'⟩ := HBY.out.tail (i := c.cut (l.drop fr)) hcl _ rfl
      rw [List.drop_drop] at hby'
      have HBY' := hidden hby'
      clear hby' hpl hne
      generalize (c.grow 0 0 (l.drop fr)).2.1 = q at *
      generalize c.cut (l.drop fr) = m at *
      have hpos : (0 : Int) < ((l.length - fr : Nat) : Int) := by omega
      have m1 : Hid (pre.length + 1 ≤ maxLen) := by rw [Hid]; unfold maxLen; omega
      have m2 : Hid ((pre.length + 1) * 8 ≤ 140737488355328) := by rw [Hid]; omega
      generalize hN : l.length - fr = N at *
      have HN := hidden hN
      clear hN
      go_wp2_with (first
        | (go_at_call 22; refine HF1.out.mono ?_; rintro e w2 ⟨rfl, k2⟩; have K2 : Hid (Same wr w2) := hidden k2; clear k2)
        | (refine wpList_append_any rfl _ _ 27 rfl w1.heap.size 3 i0 (.int .i64 0) 1 8 Tryd.underlying27 hi hz0 hz1 hz2 rfl (by decide) _ _ _ _ rfl ((own_kept HR.out K2.out (fun _ _ h => h)).alloc _) _ 1 1 [.int .i64 (m : Int)] rfl rfl (cell_one _ _ _) (by simp [Value.oneCell']) m1.out m2.out (Nat.le_trans (Kept.trans HS.out K2.out).size (by simp)) ?_; intro a3 c3 w3 ho3 hg3; have K3 : Hid (Same w1 w3) := hidden (same_grown (m := 0) ((Kept.trans HS.out K2.out).alloc _) ((own_kept HR.out K2.out (fun _ _ h => h)).alloc _) hg3); have O3 := hidden ho3; clear ho3))
      go_roundw
      case rel => exact ⟨fr + m, pre ++ [m], p', a3, c3, by have := HN.out; omega, by have := HN.out; rw [← this, Nat.sub_sub, Nat.sub_sub], by have := HBY'.out; have h2 := HN.out; rw [← h2, Nat.sub_sub, Nat.sub_sub] at this; rw [← h2, Nat.sub_sub, Nat.sub_sub]; exact this, by rw [HPL.out, List.append_assoc]; rfl, by simp, by simpa using O3.out, K3.out⟩
      case measure => simp [lenV]; omega
    · obtain rfl : fr = l.length := by omega
      go_wp2
      go_returns
      have h9 := hpl
      rw [List.drop_of_length_le (Nat.le_refl _), Shp.lens_nil, List.append_nil] at h9
      exact ⟨_, rfl, by rw [h9]; exact own_weak HR.out (by omega), Kept.trans KW.out HS.out⟩
set_option maxHeartbeats 1000000 in
set_option maxRecDepth 100000 in
theorem refLengths_no {mn no mx : Int} (hn : ¬ CutOk mn no mx) (seed : Nat) (v : Value) (w : World) (h0 : -9223372036854775808 ≤ no) (h1 : no ≤ 9223372036854775807) :
    Calls Tryd.prog 8 #[.agg #[.int .i64 mn, .int .i64 no, .int .i64 mx, .int .u64 seed], v] w fun e w' => e = .returned (.tuple #[.slice none 0 0, .int .i64 50]) ∧ Same w w' := by
  have HK := hidden (fun w => refCheck_no hn seed w h0 h1)
  clear hn
  go_enter Tryd.func8, Tryd.ntmps8
  go_wp2_with (go_at_call 12; refine (HK.out _).mono ?_; rintro e w1 ⟨rfl, k1⟩)
  go_returns
  exact ⟨rfl, Kept.trans (same_alloc _ _) k1⟩
set_option maxHeartbeats 2000000 in
set_option maxRecDepth 100000 in
theorem bytesClone_any (v : Value) (l : List UInt8) (w : World) (hb : Byt w v l) (hl : l.length ≤ 140737488355328) :
    Calls Tryd.prog 24 #[v] w fun e w' => ∃ a cap, e = .returned (.slice a l.length cap) ∧ w'.ownsRow w.heap.size 5 1 (.slice a l.length cap) l.length (l.map U8) ∧ Same w w' := by
  obtain ⟨i0, hi, hz0, hz1, hz2⟩ := info_parts infoByte
  have hb' := hb
  obtain ⟨ao, cap, rfl, hcap, hcell⟩ := hb'
  cases ao with
  | none =>
    obtain ⟨hl0, hc0⟩ := hb.ofNone
    subst hl0 hc0
    have hnil : ∀ W : World, (binOp .eql 25 (.slice none 0 0) (.slice none 0 0)).run Tryd.prog W = .ok (.bool true) W := fun W => by
      first | rfl | simp [binOp, go_sem]
    clear hb hcap hcell
    go_enter Tryd.func24, Tryd.ntmps24
    go_wp2
    go_returns
    exact ⟨none, 0, rfl, World.ownsRow_nil _ _ _ _, Kept.refl _ _⟩
  | some a =>
    have hnil : ∀ W : World, (binOp .eql 25 (.slice (some a) l.length cap) (.slice none 0 0)).run Tryd.prog W = .ok (.bool false) W := fun W => by
      first | rfl | simp [binOp, go_sem]
    have HB := hidden hb
    have m1 : Hid (0 + l.length ≤ maxLen) := by rw [Hid]; unfold maxLen; omega
    have m2 : Hid ((0 + l.length) * 1 ≤ 140737488355328) := by rw [Hid]; omega
    clear hb hcap hcell
    go_enter Tryd.func24, Tryd.ntmps24
    go_wp2_with (refine wpList_append_any rfl _ _ 25 rfl w.heap.size 5 i0 (.int .u8 0) 1 1 Tryd.underlying25 hi hz0 hz1 hz2 rfl (by decide) _ 0 0 [] rfl (World.ownsRow_made w #[] 0 (Nat.le_refl _) (by decide) (by decide)) (some a) l.length cap (l.map U8) rfl (by rw [List.length_map, Nat.mul_one]) ((HB.out.same (same_alloc _ _)).lies) (U8_all l) m1.out m2.out (by simp) ?_; intro a1 c1 w1 ho1 hg1)
    rw [Nat.zero_add, List.nil_append] at ho1
    go_returns
    exact ⟨a1, c1, by simp, by simpa using ho1, ((Kept.refl (fun _ => False) w).alloc _).grown hg1 (fun k hk hl => by simp [Value.ownBlock] at hk; omega)⟩
/-- What Cuts hands back: the pieces of bytes of its own. -/
structure Pcs (c : Shp) (l : List UInt8) (w w' : World) (v : Value) (G : Nat) (a : Option Addr) (cap : Nat) : Prop where
  is : v = .func (.func 29) #[] #[.pointer (some ⟨G + 1, 0, none⟩), .pointer (some ⟨G, 0, none⟩)]
  ge : w.heap.size ≤ G
  sz : w'.heap.size = G + 2
  room : l.length ≤ cap
  row : w'.cell? ⟨G + 1, 0, none⟩ = some (.slice a l.length cap)
  c0 : w'.cell? ⟨G, 0, none⟩ = some (.int .i64 c.mn)
  c1 : w'.cell? ⟨G, 1, none⟩ = some (.int .i64 c.no)
  c2 : w'.cell? ⟨G, 2, none⟩ = some (.int .i64 c.mx)
  c3 : w'.cell? ⟨G, 3, none⟩ = some (.int .u64 c.seed)
  at' : 0 < l.length → ∃ b off, a = some ⟨b, off, none⟩ ∧ (w.heap.size ≤ b ∧ b < G) ∧ ∀ j x, l[j]? = some x → w'.cell? ⟨b, off + j, none⟩ = some (U8 x)
theorem pcs_mk (c : Shp) (l : List UInt8) (w w1 : World) (a : Option Addr) (cap : Nat) (k : Same w w1) (B : Nat) (hB : w.heap.size ≤ B) (ho : w1.ownsRow B 5 1 (.slice a l.length cap) l.length (l.map U8)) :
    Pcs c l w ((w1.alloc (.cells #[.int .i64 c.mn, .int .i64 c.no, .int .i64 c.mx, .int .u64 c.seed] 24)).alloc (.cells #[.slice a l.length cap] 25)) (.func (.func 29) #[] #[.pointer (some ⟨w1.heap.size + 1, 0, none⟩), .pointer (some ⟨w1.heap.size, 0, none⟩)]) w1.heap.size a cap := by
  have bC := blk_alloc (blk_new w1 (.cells #[.int .i64 c.mn, .int .i64 c.no, .int .i64 c.mx, .int .u64 c.seed] 24)) (.cells #[.slice a l.length cap] 25)
  have bB := Boxed.new (w1.alloc (.cells #[.int .i64 c.mn, .int .i64 c.no, .int .i64 c.mx, .int .u64 c.seed] 24)) 25 (.slice a l.length cap)
  simp only [World.size_alloc] at bC bB
  have hby := Byt.own ho
  have kS := (same_alloc w1 (.cells #[.int .i64 c.mn, .int .i64 c.no, .int .i64 c.mx, .int .u64 c.seed] 24)).trans (same_alloc _ (.cells #[.slice a l.length cap] 25))
  obtain ⟨a', cap', e', hcap', _, hce⟩ := hby
  simp only [Value.slice.injEq] at e'
  obtain ⟨rfl, _, rfl⟩ := e'
  refine ⟨rfl, k.size, by simp, hcap', bB.cell, blk_cell bC, blk_cell bC, blk_cell bC, blk_cell bC, fun hp => ?_⟩
  obtain ⟨b, off, rfl, hc⟩ := hce hp
  have hlb : b < w1.heap.size := World.block_lt_of_cell? w1 _ (hc 0 l[0] (List.getElem?_eq_getElem hp))
  have hge : B ≤ b := by
    rcases ho.2 with ⟨h1, h2⟩ | ⟨g, cap, cur, h1, h2, hh⟩
    · cases h1
    · simp only [Value.slice.injEq, Option.some.injEq, Addr.mk.injEq] at h1
      omega
  exact ⟨b, off, rfl, ⟨by omega, hlb⟩, fun j x hj => kS.cell (p := ⟨b, off + j, none⟩) (fun h => h) (hc j x hj)⟩
structure Cln (l : List UInt8) (w : World) (u : Value) (W : World) : Prop where
  out : ∃ a cap, u = .slice a l.length cap ∧ W.ownsRow w.heap.size 5 1 (.slice a l.length cap) l.length (l.map U8) ∧ Same w W
set_option maxHeartbeats 2000000 in
set_option maxRecDepth 100000 in
theorem cuts_yes (c : Shp) (hc : c.Ok) (v : Value) (l : List UInt8) (w : World) (hb : Byt w v l) (hl : l.length ≤ 140737488355328) :
    Calls Tryd.prog 10 #[.agg #[.int .i64 c.mn, .int .i64 c.no, .int .i64 c.mx, .int .u64 c.seed], v] w fun e w' => ∃ u G a cap, e = .returned u ∧ Pcs c l w w' u G a cap ∧ Same w w' := by
  have HK := hidden (fun w => check_yes c hc w)
  have HCl := hidden (fun W (k : Same w W) => bytesClone_any v l W (hb.same k) hl)
  have HP := hidden (fun a cap w => pieces_any c a l.length cap w)
  have K0 : Hid (Same w (w.alloc (.cells #[.int .i64 c.mn, .int .i64 c.no, .int .i64 c.mx, .int .u64 c.seed] 24))) := hidden (same_alloc _ _)
  clear hb hc hl
  go_enter Tryd.func10, Tryd.ntmps10
  go_wp2_with (first
    | (go_at_call 20; refine (HK.out _).mono ?_; rintro e w1 ⟨rfl, k1⟩; have b0 : w1.cell? ⟨w.heap.size, 0, none⟩ = some (.int .i64 c.mn) := box_cell 0 k1 rfl; have b1 : w1.cell? ⟨w.heap.size, 1, none⟩ = some (.int .i64 c.no) := box_cell 1 k1 rfl; have b2 : w1.cell? ⟨w.heap.size, 2, none⟩ = some (.int .i64 c.mx) := box_cell 2 k1 rfl; have b3 : w1.cell? ⟨w.heap.size, 3, none⟩ = some (.int .u64 c.seed) := box_cell 3 k1 rfl; have KW : Hid (Same w w1) := hidden (Kept.trans K0.out k1)))
  go_region_law (first
    | (refine step_call rfl 24 #[v] (fun u W => Cln l w1 u W) (by go_simp; try rfl) ((HCl.out _ KW.out.drew).mono (fun e w' ⟨a, cap, h1, h2, h3⟩ => ⟨_, h1, ⟨a, cap, rfl, h2, ⟨h3.os, h3.tape, h3.output, h3.size, h3.block⟩⟩⟩)) ?_; rintro u w2 hu; obtain ⟨a, cap, rfl, ho, k2⟩ := hu.out; clear hu; have O2 := hidden ho; have K2 := hidden k2; have d0 : w2.cell? ⟨w.heap.size, 0, none⟩ = some (.int .i64 c.mn) := k2.cell (p := ⟨w.heap.size, 0, none⟩) (fun h => h) b0; have d1 : w2.cell? ⟨w.heap.size, 1, none⟩ = some (.int .i64 c.no) := k2.cell (p := ⟨w.heap.size, 1, none⟩) (fun h => h) b1; have d2 : w2.cell? ⟨w.heap.size, 2, none⟩ = some (.int .i64 c.mx) := k2.cell (p := ⟨w.heap.size, 2, none⟩) (fun h => h) b2; have d3 : w2.cell? ⟨w.heap.size, 3, none⟩ = some (.int .u64 c.seed) := k2.cell (p := ⟨w.heap.size, 3, none⟩) (fun h => h) b3; clear k2 ho)
    | (refine step_call rfl 21 #[.agg #[.int .i64 c.mn, .int .i64 c.no, .int .i64 c.mx, .int .u64 c.seed], .slice a l.length cap] (fun u W => u = .func (.func 29) #[] #[.pointer (some ⟨w2.heap.size + 1, 0, none⟩), .pointer (some ⟨w2.heap.size, 0, none⟩)] ∧ Hid (W = (w2.alloc (.cells #[.int .i64 c.mn, .int .i64 c.no, .int .i64 c.mx, .int .u64 c.seed] 24)).alloc (.cells #[.slice a l.length cap] 25))) (by go_simp; try rfl) ((HP.out a cap _).mono (fun e w' ⟨h1, h2⟩ => ⟨_, h1, rfl, hidden h2.symm⟩)) ?_; rintro u w3 ⟨rfl, e3⟩))
  all_goals
    go_wp2
    go_returns
    have hh := pcs_mk c l w w2 a cap (Kept.trans KW.out K2.out) w1.heap.size KW.out.size O2.out
    rw [← e3.out] at hh
    exact ⟨_, _, _, _, rfl, hh, by rw [e3.out]; exact ((Kept.trans KW.out K2.out).alloc _).alloc _⟩
end Go.Proofs.YtdmekpokgnieeaaDoor
