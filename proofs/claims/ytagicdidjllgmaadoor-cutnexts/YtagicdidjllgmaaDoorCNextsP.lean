/-
  CutNexts (P5.1): for every shape and all bytes: Check and the first cut are the document's, and the bytes stay as they were: the law's call returns true and leaves its arguments as they were.
  Condition: the library's tables deBruijn32tab and deBruijn64tab hold what the program's text lays (the card ties them).
-/
import Derived.Test.YtagicdidjllgmaaDoorCutK
import Derived.Test.YtagicdidjllgmaaDoorCut6
import Derived.Test.YtagicdidjllgmaaDoorQuietS
import Derived.Laws.AppendOwnNone
namespace Go.Proofs.YtagicdidjllgmaaDoor
open Go.RowKit Go.WideShapes
set_option linter.unusedVariables false
attribute [local go_sem ↓] Go.wp_at_zero Go.wp_at_succ

/-- Bytes of the call's own. -/
def Bys (B : Nat) (w : World) (v : Value) (l : List UInt8) : Prop := w.ownsRow B 5 1 v l.length (l.map U8)
theorem Bys.byt {B : Nat} {v : Value} {l : List UInt8} {w : World} (h : Bys B w v l) : Byt w v l := by
  rcases h.2 with ⟨h1, h2⟩ | ⟨g, cap, cur, h1, h2, h3, h4⟩
  · have : l = [] := List.eq_nil_of_length_eq_zero h2
    subst this
    rw [h1]
    exact Byt.nil _
  · have hcap : l.length ≤ cap := by omega
    rw [h1]
    refine Byt.mk _ _ g 0 cap rfl hcap (fun j x hj => ?_)
    have hc := World.ownsRow.cells h (g := g) (by rw [h1]; rfl) j (U8 x) (by simp [hj])
    have hadd : (⟨g, 0, none⟩ : Addr).add j = ⟨g, 0 + j, none⟩ := by unfold Addr.add; split <;> simp_all
    rw [hadd] at hc
    exact hc
theorem Bys.same {B : Nat} {v : Value} {l : List UInt8} {w w' : World} (h : Bys B w v l) (k : Same w w') : Bys B w' v l := own_kept h k (fun _ _ h => h)
theorem refFirst_any (c : Shp) (hc : c.Ok) {w : World} {v : Value} {l : List UInt8} (hb : Byt w v l) (hl : l.length ≤ 140737488355328) :
    Calls Tryd.prog 52 #[.agg #[.int .i64 c.mn, .int .i64 c.no, .int .i64 c.mx, .int .u64 c.seed], v] w fun e w' => e = .returned (.tuple #[.int .i64 (c.cut l : Nat), .bool (c.grow 0 0 l).2.1]) ∧ Same w w' := by
  by_cases hf : l.length ≤ c.mn ∧ l.length < c.mx
  · exact refFirst_few c hc hb hl hf
  · exact refFirst_more c hc hb hl hf
theorem refCheck_yes (c : Shp) (hc : c.Ok) (w : World) : Calls Tryd.prog 19 #[.agg #[.int .i64 c.mn, .int .i64 c.no, .int .i64 c.mx, .int .u64 c.seed]] w fun e w' => e = .returned (.int .i64 0) ∧ Same w w' := by
  have h := refCheck_any c.mn c.no c.mx c.seed w (by omega) (by have := hc.no_le; omega)
  rw [show cutErr c.mn c.no c.mx = 0 from if_pos hc.cutOk] at h
  exact h
theorem refCheck_no {mn no mx : Int} (hn : ¬ CutOk mn no mx) (seed : Nat) (w : World) (h0 : -9223372036854775808 ≤ no) (h1 : no ≤ 9223372036854775807) : Calls Tryd.prog 19 #[.agg #[.int .i64 mn, .int .i64 no, .int .i64 mx, .int .u64 seed]] w fun e w' => e = .returned (.int .i64 50) ∧ Same w w' := by
  have h := refCheck_any mn no mx seed w h0 h1
  rw [show cutErr mn no mx = 50 from if_neg hn] at h
  exact h
set_option maxHeartbeats 1000000 in
set_option maxRecDepth 100000 in
theorem refNext_yes (c : Shp) (hc : c.Ok) {w : World} {v : Value} {l : List UInt8} (hb : Byt w v l) (hl : l.length ≤ 140737488355328) :
    Calls Tryd.prog 16 #[.agg #[.int .i64 c.mn, .int .i64 c.no, .int .i64 c.mx, .int .u64 c.seed], v] w fun e w' => e = .returned (.tuple #[.int .i64 (c.cut l : Nat), .int .i64 0]) ∧ Same w w' := by
  have HK := hidden (fun w => refCheck_yes c hc w)
  have HF := hidden (fun w (hb : Byt w v l) => refFirst_any c hc hb hl)
  have HB := hidden hb
  have K0 : Hid (Same w (w.alloc (.cells #[.int .i64 c.mn, .int .i64 c.no, .int .i64 c.mx, .int .u64 c.seed] 24))) := hidden (same_alloc _ _)
  clear hb hc hl
  go_enter Tryd.func16, Tryd.ntmps16
  go_wp2_with (first
    | (go_at_call 19; refine (HK.out _).mono ?_; rintro e w1 ⟨rfl, k1⟩; have b0 : w1.cell? ⟨w.heap.size, 0, none⟩ = some (.int .i64 c.mn) := box_cell 0 k1 rfl; have b1 : w1.cell? ⟨w.heap.size, 1, none⟩ = some (.int .i64 c.no) := box_cell 1 k1 rfl; have b2 : w1.cell? ⟨w.heap.size, 2, none⟩ = some (.int .i64 c.mx) := box_cell 2 k1 rfl; have b3 : w1.cell? ⟨w.heap.size, 3, none⟩ = some (.int .u64 c.seed) := box_cell 3 k1 rfl)
    | (go_at_call 52; refine (HF.out _ (HB.out.same (Kept.trans K0.out k1))).mono ?_; rintro e w2 ⟨rfl, k2⟩))
  go_returns
  exact ⟨rfl, Kept.trans (Kept.trans K0.out k1) k2⟩
set_option maxHeartbeats 1000000 in
set_option maxRecDepth 100000 in
theorem refNext_no {mn no mx : Int} (hn : ¬ CutOk mn no mx) (seed : Nat) (v : Value) (w : World) (h0 : -9223372036854775808 ≤ no) (h1 : no ≤ 9223372036854775807) :
    Calls Tryd.prog 16 #[.agg #[.int .i64 mn, .int .i64 no, .int .i64 mx, .int .u64 seed], v] w fun e w' => e = .returned (.tuple #[.int .i64 0, .int .i64 50]) ∧ Same w w' := by
  have HK := hidden (fun w => refCheck_no hn seed w h0 h1)
  clear hn
  go_enter Tryd.func16, Tryd.ntmps16
  go_wp2_with (go_at_call 19; refine (HK.out _).mono ?_; rintro e w1 ⟨rfl, k1⟩)
  go_returns
  exact ⟨rfl, Kept.trans (same_alloc _ _) k1⟩
/-- What both Nexts tell. -/
theorem next_both {mn no mx : Int} {seed : Nat} (hs : seed < 18446744073709551616) (h0 : -9223372036854775808 ≤ no) (h1 : no ≤ 9223372036854775807) (l : List UInt8) (hl : l.length ≤ 140737488355328) :
    ∃ n e : Int, (∀ (w : World) (v : Value), Tab w → Byt w v l → Calls Tryd.prog 15 #[.agg #[.int .i64 mn, .int .i64 no, .int .i64 mx, .int .u64 seed], v] w fun x w' => x = .returned (.tuple #[.int .i64 n, .int .i64 e]) ∧ Same w w') ∧
      (∀ (w : World) (v : Value), Byt w v l → Calls Tryd.prog 16 #[.agg #[.int .i64 mn, .int .i64 no, .int .i64 mx, .int .u64 seed], v] w fun x w' => x = .returned (.tuple #[.int .i64 n, .int .i64 e]) ∧ Same w w') ∧
      (∀ w : World, Calls Tryd.prog 18 #[.agg #[.int .i64 mn, .int .i64 no, .int .i64 mx, .int .u64 seed]] w fun x w' => x = .returned (.int .i64 (cutErr mn no mx)) ∧ Same w w') ∧
      (∀ w : World, Calls Tryd.prog 19 #[.agg #[.int .i64 mn, .int .i64 no, .int .i64 mx, .int .u64 seed]] w fun x w' => x = .returned (.int .i64 (cutErr mn no mx)) ∧ Same w w') := by
  by_cases h : CutOk mn no mx
  · obtain ⟨c, hc, rfl, rfl, rfl, rfl⟩ := h.shp hs
    exact ⟨c.cut l, 0, fun w v hT hb => next_yes c hc hT hb hl, fun w v hb => refNext_yes c hc hb hl, fun w => check_any _ _ _ _ w, fun w => refCheck_any _ _ _ _ w h0 h1⟩
  · exact ⟨0, 50, fun w v _ _ => next_no h seed v w, fun w v _ => refNext_no h seed v w h0 h1, fun w => check_any _ _ _ _ w, fun w => refCheck_any _ _ _ _ w h0 h1⟩
set_option maxHeartbeats 4000000 in
set_option maxRecDepth 100000 in
theorem nexts_walk (mn no mx : Int) (seed : Nat) (v : Value) (l : List UInt8) (w : World) (h0 : -9223372036854775808 ≤ no) (h1 : no ≤ 9223372036854775807) (hs : seed < 18446744073709551616) (hb : Byt w v l) (hl : l.length ≤ 140737488351232) (hT : Tab w) :
    Calls Tryd.prog 3 #[.agg #[.int .i64 mn, .int .i64 no, .int .i64 mx, .int .u64 seed], v] w fun e w' => e = .returned (.bool true) ∧ Same w w' := by
  obtain ⟨i0, hi, hz0, hz1, hz2⟩ := info_parts infoByte
  obtain ⟨n, e, g1, g2, g3, g4⟩ := next_both (mn := mn) (mx := mx) hs h0 h1 l (by omega)
  have G1 := hidden g1
  have G2 := hidden g2
  generalize cutErr mn no mx = er at g3 g4
  have G3 := hidden g3
  have G4 := hidden g4
  have HT := hidden hT
  have HB := hidden hb
  have HLV := hidden (fun w h => lives_any w h)
  have K0 : Hid (Same w (w.alloc (.cells #[.int .i64 mn, .int .i64 no, .int .i64 mx, .int .u64 seed] 24))) := hidden (same_alloc _ _)
  have hm1 : Hid (0 + l.length ≤ maxLen) := by rw [Hid]; unfold maxLen; omega
  have hm2 : Hid ((0 + l.length) * 1 ≤ 140737488355328) := by rw [Hid]; omega
  have HO := hidden (fun W : World => (World.ownsRow_made W #[] 0 (Nat.le_refl _) (Nat.zero_le _) rfl : (W.alloc (.cells #[] 5)).ownsRow W.heap.size 5 1 (.slice (some ⟨W.heap.size, 0, none⟩) 0 0) 0 []))
  have HO2 : Hid (((w.alloc (.cells #[.int .i64 mn, .int .i64 no, .int .i64 mx, .int .u64 seed] 24)).alloc (.cells #[] 5)).ownsRow (w.heap.size + 1) 5 1 (.slice (some ⟨w.heap.size + 1, 0, none⟩) 0 0) 0 []) := hidden (by have := HO.out (w.alloc (.cells #[.int .i64 mn, .int .i64 no, .int .i64 mx, .int .u64 seed] 24)); rwa [World.size_alloc] at this)
  have HW1 : Hid (∀ u ∈ l.map U8, u.oneCell' = true) := hidden (fun u hu => by obtain ⟨n, _, rfl⟩ := List.mem_map.1 hu; rfl)
  clear g1 g2 g3 g4 hT h0 h1 hs
  obtain ⟨a, cap, rfl, hcap, hcell⟩ := hb.form
  clear hb
  cases a with
  | none =>
    obtain ⟨rfl, rfl⟩ := HB.out.ofNone
    show Calls Tryd.prog 3 #[.agg #[.int .i64 mn, .int .i64 no, .int .i64 mx, .int .u64 seed], .slice none 0 0] w _
    have HB : Hid (Byt w (.slice none 0 0) []) := HB
    have hl0 : (0 : Nat) ≤ 0 := Nat.le_refl _
    clear hl hcap
    have HCE := hidden hcell
    clear hcell
    go_enter Tryd.func3, Tryd.ntmps3
    go_wp2_with (first
      | (at_builtin; refine wpList_append_own_none (by rfl) (.tmp 11) (.tmp 12) 25 (by rfl) (w.heap.size + 1) 5 i0 1 Tryd.underlying25 hi _ 0 [] (by rfl) HO2.out (by rfl) ?_; have n1 : Bys (w.heap.size + 1) ((w.alloc (.cells #[.int .i64 mn, .int .i64 no, .int .i64 mx, .int .u64 seed] 24)).alloc (.cells #[] 5)) (.slice (some ⟨w.heap.size + 1, 0, none⟩) 0 0) [] := HO2.out; have K1 : Same (w.alloc (.cells #[.int .i64 mn, .int .i64 no, .int .i64 mx, .int .u64 seed] 24)) ((w.alloc (.cells #[.int .i64 mn, .int .i64 no, .int .i64 mx, .int .u64 seed] 24)).alloc (.cells #[] 5)) := (Kept.refl (fun _ => False) _).alloc _; generalize ((w.alloc (.cells #[.int .i64 mn, .int .i64 no, .int .i64 mx, .int .u64 seed] 24)).alloc (.cells #[] 5)) = w1 at n1 K1 ⊢; have N1 := hidden n1; have b0w1 : w1.cell? ⟨w.heap.size, 0, none⟩ = some (.int .i64 mn) := box_cell 0 K1 rfl; have b1w1 : w1.cell? ⟨w.heap.size, 1, none⟩ = some (.int .i64 no) := box_cell 1 K1 rfl; have b2w1 : w1.cell? ⟨w.heap.size, 2, none⟩ = some (.int .i64 mx) := box_cell 2 K1 rfl; have b3w1 : w1.cell? ⟨w.heap.size, 3, none⟩ = some (.int .u64 seed) := box_cell 3 K1 rfl; clear n1)
      | (go_at_call 15; refine (G1.out _ _ (HT.out.same (Kept.trans K0.out K1)) N1.out.byt).mono ?_; rintro e w2 ⟨rfl, k2⟩; have K2 : Same (w.alloc (.cells #[.int .i64 mn, .int .i64 no, .int .i64 mx, .int .u64 seed] 24)) w2 := Kept.trans K1 k2; have b0w2 : w2.cell? ⟨w.heap.size, 0, none⟩ = some (.int .i64 mn) := box_cell 0 K2 rfl; have b1w2 : w2.cell? ⟨w.heap.size, 1, none⟩ = some (.int .i64 no) := box_cell 1 K2 rfl; have b2w2 : w2.cell? ⟨w.heap.size, 2, none⟩ = some (.int .i64 mx) := box_cell 2 K2 rfl; have b3w2 : w2.cell? ⟨w.heap.size, 3, none⟩ = some (.int .u64 seed) := box_cell 3 K2 rfl; have N2 := hidden (N1.out.same k2); clear k2)
      | (go_at_call 16; refine (G2.out _ _ (HB.out.same (Kept.trans K0.out K2))).mono ?_; rintro e w3 ⟨rfl, k3⟩; have K3 : Same (w.alloc (.cells #[.int .i64 mn, .int .i64 no, .int .i64 mx, .int .u64 seed] 24)) w3 := Kept.trans K2 k3; have b0w3 : w3.cell? ⟨w.heap.size, 0, none⟩ = some (.int .i64 mn) := box_cell 0 K3 rfl; have b1w3 : w3.cell? ⟨w.heap.size, 1, none⟩ = some (.int .i64 no) := box_cell 1 K3 rfl; have b2w3 : w3.cell? ⟨w.heap.size, 2, none⟩ = some (.int .i64 mx) := box_cell 2 K3 rfl; have b3w3 : w3.cell? ⟨w.heap.size, 3, none⟩ = some (.int .u64 seed) := box_cell 3 K3 rfl; have N3 := hidden (N2.out.same k3); clear k3))
    clear b0w1 b1w1 b2w1 b3w1 b0w2 b1w2 b2w2 b3w2 b0w3 b1w3 b2w3 b3w3 K1 K2 N1 N2 HW1 hm1 hm2 HO HO2 hi hz0 hz1 hz2 G1 G2
    have l0 : ∀ V : Later w3, V.world.cell? ⟨w.heap.size, 0, none⟩ = some (.int .i64 mn) := fun V => box_cell 0 (Kept.trans K3 V.kept) rfl
    have l1 : ∀ V : Later w3, V.world.cell? ⟨w.heap.size, 1, none⟩ = some (.int .i64 no) := fun V => box_cell 1 (Kept.trans K3 V.kept) rfl
    have l2 : ∀ V : Later w3, V.world.cell? ⟨w.heap.size, 2, none⟩ = some (.int .i64 mx) := fun V => box_cell 2 (Kept.trans K3 V.kept) rfl
    have l3 : ∀ V : Later w3, V.world.cell? ⟨w.heap.size, 3, none⟩ = some (.int .u64 seed) := fun V => box_cell 3 (Kept.trans K3 V.kept) rfl
    have HTV := hidden (fun V : Later w3 => HT.out.same (Kept.trans K0.out (Kept.trans K3 V.kept)))
    refine region_later (by kernel_rfl) (by kernel_rfl) ?_
    repeat (go_big_quiet_step ((first
      | (go_at_call 17; exact later_calls _ (HLV.out _ (HTV.out _)))
      | (go_at_call 18; exact later_calls _ (G3.out _))
      | (go_at_call 19; exact later_calls _ (G4.out _)))))
    refine wpQuiet_nil ?_
    rintro V ⟨L, hE⟩
    have hV : Same w3 V := by rw [hE]; exact L.kept
    clear hE L
    have KV : Hid (Same w V) := hidden (Kept.trans K0.out (Kept.trans K3 hV))
    clear l0 l1 l2 l3 HTV N3 K3 hV G3 G4 HLV
    go_wp2
    go_loopw [10] (fun i wr => ∃ k : Nat, k ≤ 0 ∧ i = .int .i64 k ∧ Same V wr) (fun i _ => 0 - (intOf i).toNat)
    case atStart => exact ⟨0, Nat.zero_le _, rfl, Kept.refl _ _⟩
    case round =>
      obtain ⟨k, hk, rfl, hS⟩ := hrel
      have HS := hidden hS
      by_cases hlt : k < 0
      · exact absurd hlt (by omega)
      · clear hS
        go_wp2
        go_returns
        exact ⟨rfl, Kept.trans KV.out HS.out⟩
  | some ad =>
    have HN : Hid (∀ (j : Nat) (x : Value), (l.map U8)[j]? = some x → ((w.alloc (.cells #[.int .i64 mn, .int .i64 no, .int .i64 mx, .int .u64 seed] 24)).alloc (.cells #[] 5)).cell? (ad.add j) = some x) := hidden (fun j x hx => by
      obtain ⟨y, hy, rfl⟩ : ∃ y, l[j]? = some y ∧ U8 y = x := by simpa using hx
      obtain ⟨b, off, ee, hc⟩ := hcell (by have := (List.getElem?_eq_some_iff.1 hy).1; omega)
      obtain rfl := Option.some.inj ee
      rw [add_plain]
      exact ((Kept.refl (fun _ => False) w).alloc _ |>.alloc _).cell (p := ⟨b, off + j, none⟩) (fun h => h) (hc j y hy))
    have HCE := hidden hcell
    clear hcell
    go_enter Tryd.func3, Tryd.ntmps3
    go_wp2_with (first
      | (at_builtin; refine wpList_append_own _ (by rfl) (.tmp 11) (.tmp 12) 25 (by rfl) (w.heap.size + 1) 5 i0 (.int .u8 0) 1 1 Tryd.underlying25 hi hz0 hz1 hz2 rfl (by decide) _ 0 [] (by rfl) HO2.out ad l.length cap (l.map U8) (by rfl) (by simp) HN.out HW1.out hm1.out hm2.out (by simp) ?_; intro v' w1 hown' hgrow hat; have n1 : Bys (w.heap.size + 1) w1 v' l := (by unfold Bys; simpa using hown'); have K1 : Same (w.alloc (.cells #[.int .i64 mn, .int .i64 no, .int .i64 mx, .int .u64 seed] 24)) w1 := (((Kept.refl (fun _ => False) _).alloc _).grown hgrow (fun k hk hlt => by have h7 := own_ge HO2.out k hk; simp at hlt; omega)); obtain ⟨a', cp', hv'⟩ := own_form n1; rw [hv'] at n1; rw [hv']; have N1 := hidden n1; have b0w1 : w1.cell? ⟨w.heap.size, 0, none⟩ = some (.int .i64 mn) := box_cell 0 K1 rfl; have b1w1 : w1.cell? ⟨w.heap.size, 1, none⟩ = some (.int .i64 no) := box_cell 1 K1 rfl; have b2w1 : w1.cell? ⟨w.heap.size, 2, none⟩ = some (.int .i64 mx) := box_cell 2 K1 rfl; have b3w1 : w1.cell? ⟨w.heap.size, 3, none⟩ = some (.int .u64 seed) := box_cell 3 K1 rfl; clear n1 hown' hgrow hat hv')
      | (go_at_call 15; refine (G1.out _ _ (HT.out.same (Kept.trans K0.out K1)) N1.out.byt).mono ?_; rintro e w2 ⟨rfl, k2⟩; have K2 : Same (w.alloc (.cells #[.int .i64 mn, .int .i64 no, .int .i64 mx, .int .u64 seed] 24)) w2 := Kept.trans K1 k2; have b0w2 : w2.cell? ⟨w.heap.size, 0, none⟩ = some (.int .i64 mn) := box_cell 0 K2 rfl; have b1w2 : w2.cell? ⟨w.heap.size, 1, none⟩ = some (.int .i64 no) := box_cell 1 K2 rfl; have b2w2 : w2.cell? ⟨w.heap.size, 2, none⟩ = some (.int .i64 mx) := box_cell 2 K2 rfl; have b3w2 : w2.cell? ⟨w.heap.size, 3, none⟩ = some (.int .u64 seed) := box_cell 3 K2 rfl; have N2 := hidden (N1.out.same k2); clear k2)
      | (go_at_call 16; refine (G2.out _ _ (HB.out.same (Kept.trans K0.out K2))).mono ?_; rintro e w3 ⟨rfl, k3⟩; have K3 : Same (w.alloc (.cells #[.int .i64 mn, .int .i64 no, .int .i64 mx, .int .u64 seed] 24)) w3 := Kept.trans K2 k3; have b0w3 : w3.cell? ⟨w.heap.size, 0, none⟩ = some (.int .i64 mn) := box_cell 0 K3 rfl; have b1w3 : w3.cell? ⟨w.heap.size, 1, none⟩ = some (.int .i64 no) := box_cell 1 K3 rfl; have b2w3 : w3.cell? ⟨w.heap.size, 2, none⟩ = some (.int .i64 mx) := box_cell 2 K3 rfl; have b3w3 : w3.cell? ⟨w.heap.size, 3, none⟩ = some (.int .u64 seed) := box_cell 3 K3 rfl; have N3 := hidden (N2.out.same k3); clear k3))
    clear b0w1 b1w1 b2w1 b3w1 b0w2 b1w2 b2w2 b3w2 b0w3 b1w3 b2w3 b3w3 K1 K2 N1 N2 HN HW1 hm1 hm2 HO HO2 hi hz0 hz1 hz2 G1 G2
    have l0 : ∀ V : Later w3, V.world.cell? ⟨w.heap.size, 0, none⟩ = some (.int .i64 mn) := fun V => box_cell 0 (Kept.trans K3 V.kept) rfl
    have l1 : ∀ V : Later w3, V.world.cell? ⟨w.heap.size, 1, none⟩ = some (.int .i64 no) := fun V => box_cell 1 (Kept.trans K3 V.kept) rfl
    have l2 : ∀ V : Later w3, V.world.cell? ⟨w.heap.size, 2, none⟩ = some (.int .i64 mx) := fun V => box_cell 2 (Kept.trans K3 V.kept) rfl
    have l3 : ∀ V : Later w3, V.world.cell? ⟨w.heap.size, 3, none⟩ = some (.int .u64 seed) := fun V => box_cell 3 (Kept.trans K3 V.kept) rfl
    have HTV := hidden (fun V : Later w3 => HT.out.same (Kept.trans K0.out (Kept.trans K3 V.kept)))
    refine region_later (by kernel_rfl) (by kernel_rfl) ?_
    repeat (go_big_quiet_step ((first
      | (go_at_call 17; exact later_calls _ (HLV.out _ (HTV.out _)))
      | (go_at_call 18; exact later_calls _ (G3.out _))
      | (go_at_call 19; exact later_calls _ (G4.out _)))))
    refine wpQuiet_nil ?_
    rintro V ⟨L, hE⟩
    have hV : Same w3 V := by rw [hE]; exact L.kept
    clear hE L
    have KV : Hid (Same w V) := hidden (Kept.trans K0.out (Kept.trans K3 hV))
    obtain ⟨a2, c2, he, _, hce2⟩ := N3.out.byt.form
    injection he with e1 e2 e3
    subst e1 e3
    have HC2 : Hid (0 < l.length → ∃ b off, a' = some ⟨b, off, none⟩ ∧ ∀ j x, l[j]? = some x → V.cell? ⟨b, off + j, none⟩ = some (U8 x)) := hidden (fun hp => by
      obtain ⟨b, off, h1, h2⟩ := hce2 hp
      exact ⟨b, off, h1, fun j x hj => hV.cell (p := ⟨b, off + j, none⟩) (fun h => h) (h2 j x hj)⟩)
    clear l0 l1 l2 l3 HTV N3 K3 hV hce2 G3 G4 HLV
    go_wp2
    go_loopw [10] (fun i wr => ∃ k : Nat, k ≤ l.length ∧ i = .int .i64 k ∧ Same V wr) (fun i _ => l.length - (intOf i).toNat)
    case atStart => exact ⟨0, Nat.zero_le _, rfl, Kept.refl _ _⟩
    case round =>
      obtain ⟨k, hk, rfl, hS⟩ := hrel
      have HS := hidden hS
      by_cases hlt : k < l.length
      · obtain ⟨b1, o1, rfl, q1⟩ := HC2.out (by omega)
        obtain ⟨b2, o2, ha, q2⟩ := HCE.out (by omega)
        obtain rfl := Option.some.inj ha
        have hx : l[k]? = some l[k] := List.getElem?_eq_getElem hlt
        have r1 : wr.cell? ⟨b1, o1 + k, none⟩ = some (U8 l[k]) := hS.cell (p := ⟨b1, o1 + k, none⟩) (fun h => h) (q1 k _ hx)
        have r2 : wr.cell? ⟨b2, o2 + k, none⟩ = some (U8 l[k]) := hS.cell (p := ⟨b2, o2 + k, none⟩) (fun h => h) (KV.out.cell (p := ⟨b2, o2 + k, none⟩) (fun h => h) (q2 k _ hx))
        unfold U8 at r1 r2
        generalize l[k].toNat = x at r1 r2
        clear q1 q2 hx hS
        have k1 : (0 : Int) ≤ (k : Int) := by omega
        have k2 : (k : Int) < (l.length : Int) := by omega
        go_wp2
        go_quiet (fail)
        go_wp2
        go_roundw
        case rel => exact ⟨k + 1, by omega, by go_num, HS.out.drewN _⟩
        case measure => simp [intOf]; omega
      · clear hS
        go_wp2
        go_returns
        exact ⟨rfl, Kept.trans KV.out HS.out⟩
end Go.Proofs.YtagicdidjllgmaaDoor
namespace Go.Proofs.YtagicdidjllgmaaDoor.CutNexts
open Go.ChangeShapes Go.WideShapes Go.ChangeAt Go.RowKit Go.Joins Go.ChangeMaps
set_option maxRecDepth 100000 in
theorem contract (H : Type) (enc : TypeId × Value → H) (W : World) (base : Nat) (args : Array Value) (ds gs : List (DataW H)) (before : List MemPlace)
    (hval : ∀ (j : Nat) t v, Tryd.f3.params[j]? = some t → args[j]? = some v → Value.okWide Tryd.prog W .any base t v)
    (hW : DataW.Whole enc Tryd.prog Tryd.f3.params.toList Rows.cutNextsSpec.vars false W args.toList ds gs before)
    (hsz : (DataW.weightsEach Tryd.prog (Tryd.f3.params.toList ++ (OpenSpec.ofChange Rows.cutNextsSpec).bare.plain.varTypes Tryd.prog) (ds ++ gs)).all (· ≤ reachBytes) = true)
    (hL : laidMetH Tryd.prog Rows.cutNextsRow.laid W) :
    Calls Tryd.prog 3 args W fun e W' => ∃ v, e = .returned v ∧ Rows.cutNextsSpec.post enc Tryd.prog Tryd.f3 false true false false W args v W' := by
  have hW' := hW
  obtain ⟨p, q, hA0, hV, rfl, hfz, hnd⟩ := hW
  have hA : DataW.TrodAll enc Tryd.prog W 0 (fun _ => true) true Tryd.f3.params.toList args.toList ds p := hA0
  rw [Tryd.params3] at hA hval hsz
  obtain ⟨v0, vs0, d0, ds0, p0, q0, hargs, rfl, rfl, h0, r0⟩ := trodAll_cons hA
  obtain ⟨v1, vs1, d1, ds1, p1, q1, rfl, rfl, rfl, h1, r1⟩ := trodAll_cons r0
  obtain ⟨rfl, rfl, rfl⟩ := trodAll_nil r1
  obtain rfl : args = #[v0, v1] := by cases args; simp_all
  obtain ⟨rfl, rfl⟩ := trodVars_none hV
  obtain ⟨mn, no, mx, seed, rfl, b_mn, b_no, b_mx, b_seed⟩ := cut_open (hval 0 24 v0 rfl rfl) h0
  obtain ⟨l_b, in_b, sz_b⟩ := bytes_open (hval 1 25 v1 rfl rfl) h1
  refine (nexts_walk mn no mx seed v1 l_b W b_no.1 b_no.2 b_seed in_b (sz_b _ _ 1 hsz rfl rfl) (tab_laid hL)).mono fun e W' ⟨he, hg⟩ => ?_
  subst he
  exact ⟨_, rfl, law_post laidOut (by rw [Tryd.params3]; decide +kernel) rfl hW' rfl Tryd.underlying4 ⟨rfl, rfl, rfl⟩ (hg.below (Nat.le_refl _) fun _ h => h.elim)⟩
set_option maxRecDepth 100000 in
theorem lifted (os : Os) (started : os.Started) (H : Type) (enc : TypeId × Value → H) (F : Stop.Interp) :
    ReturnsInHanded {} Tryd.checked os 3 .any ((OpenSpec.ofChange Rows.cutNextsSpec).preRow enc Tryd.prog Tryd.f3 Rows.cutNextsRow.domain false Rows.cutNextsRow.laid) (((OpenSpec.ofChange Rows.cutNextsSpec).at F).post enc Tryd.prog Tryd.f3 false true false false) := by
  refine returnsInHanded_of_row (C := Tryd.checked) (s := OpenSpec.ofChange Rows.cutNextsSpec) own started (by kernel_rfl) Tryd.func3
    (witness_row_at (enc := enc) (C := Tryd.checked) false (tabWorld (World.holding Tryd.prog os ⟨#[], #[], []⟩)) #[.agg #[.int .i64 0, .int .i64 0, .int .i64 0, .int .u64 0], .slice none 0 0] rfl (by kernel_rfl) (by kernel_rfl) (by kernel_rfl)
      (OpenSpec.preRow_of_cond (x := ([.agg [.lit (.int .i64 0), .lit (.int .i64 0), .lit (.int .i64 0), .lit (.int .u64 0)], .nil], [], [])) 8 (by kernel_rfl) (by kernel_rfl) (fun k hk => by cases hk) (by kernel_rfl) (laidMet_of_run' 8 (by kernel_rfl) (by kernel_rfl)))) ?_
  intro W base args ds gs before hval hW _ _ hsz hL _ _
  exact contract H enc W base args ds gs before hval hW hsz hL
theorem said : Rows.CutNextsSaid :=
  OpenClaim.holds_of_cond 3 Tryd.f3 rfl rfl rfl rfl rfl rfl rfl ⟨rfl, rfl, rfl, rfl, rfl⟩ rfl rfl rfl rfl rfl (by kernel_rfl) Tryd.func3 (by kernel_rfl)
    (of_decide_eq_true (by kernel_rfl)) (by unfold Func.isWrapper; first | (rw [if_pos (by decide +kernel)]; kernel_rfl) | (rw [if_neg (by decide +kernel)]; exact ⟨rfl, rfl⟩))
    (fun os started H enc _ F => by rw [OpenClaim.pre_eq_preRow]; exact lifted os started H enc F)
theorem plain (f : FuncId) (fn : Func) (hf : Tryd.pinned.checked.prog.funcNamed Rows.cutNextsRow.func = some f) (hfn : Tryd.pinned.checked.prog.funcs[f]? = some fn) :
    false = Tryd.pinned.checked.prog.looks [] ∧ ∀ (j : Nat) t, fn.params[j]? = some t → Tryd.pinned.checked.prog.wantsStandIn t = false := by
  obtain rfl : f = 3 := Option.some.inj ((show Tryd.prog.funcNamed Rows.cutNextsRow.func = some 3 by kernel_rfl).symm.trans hf) |>.symm
  obtain rfl : fn = Tryd.f3 := (Option.some.inj (Tryd.func3.symm.trans hfn)).symm
  refine ⟨by kernel_rfl, fun j t ht => ?_⟩
  rw [Tryd.params3] at ht
  have hm : t ∈ [24, 25] := by simpa using Array.mem_of_getElem? ht
  have hall : [24, 25].all (fun t => !Tryd.prog.wantsStandIn t) = true := by kernel_rfl
  have h1 := List.all_eq_true.1 hall t hm
  have h2 : Tryd.prog.wantsStandIn t = false := by simpa using h1
  exact h2
theorem card : Rows.CutNextsCardSaid :=
  Claim7.holds_tied_plain_at .later [] _ _ _ _ said (fun _ h => by cases h) (by kernel_rfl) (fun _ h => by cases h) cutNexts_row_tie rfl ⟨rfl, rfl⟩ (by kernel_rfl) rfl plain (by kernel_rfl)
end Go.Proofs.YtagicdidjllgmaaDoor.CutNexts
namespace Go.Proofs.YtagicdidjllgmaaDoor
theorem cutNexts_card : Rows.CutNextsCardSaid := CutNexts.card
end Go.Proofs.YtagicdidjllgmaaDoor
