/- tree: Scan of an empty tree goes over nothing, and so does Scan of none. -/
import Derived.Test.YtmlibjohhgpniaaGreatDoorTrS
namespace Go.Proofs.YtmlibjohhgpniaaGreatDoor
open Go.RowKit Go.Shelf
set_option linter.unusedVariables false
set_option linter.unusedSimpArgs false
attribute [local go_sem] Oper.semAt_some
attribute [local go_sem] run_store_fn
structure SpP (w : World) (o : Option Addr) (x y : ByteArray) (u : Value) (W : World) : Prop where
  out : ∃ B, u = .func (.func 121) #[] #[.pointer (some ⟨B, 0, none⟩), .pointer (some ⟨B + 1, 0, none⟩), .pointer (some ⟨B + 2, 0, none⟩)] ∧ w.heap.size ≤ B ∧ W.heap[B]? = some (.cells #[.pointer o] 22 (0, 0)) ∧ Same w W
set_option maxHeartbeats 400000 in
theorem spots_fn (o : Option Addr) (x y : ByteArray) (w : World) : Calls Tryz.prog 59 #[.pointer o, .string x, .string y] w fun e w' => ∃ u, e = .returned u ∧ SpP w o x y u w' := by
  go_enter Tryz.func59, Tryz.ntmps59
  go_wp2
  go_returns
  exact ⟨_, rfl, ⟨⟨w.heap.size, by simp, by simp, blk_alloc (blk_alloc (blk_new _ _) _) _, (((Kept.refl _ w).alloc _).alloc _).alloc _⟩⟩⟩
theorem same_of_below {w W : World} (h : Below w.heap.size w W) : Same w W := ⟨h.os, h.tape, h.output, h.size, fun k hk _ => h.block k hk⟩
/-- The iterator of a nil tree's Scan goes over nothing. -/
theorem scan_nil (n : Nat) (hn : 1 ≤ n) (Kp : World → World → Prop) (w : World) (B : Nat) (hB : w.heap[B]? = some (.cells #[.pointer none] 22 (0, 0))) :
    SeqStopsK Fence.wide n Tryz.prog 64 #[.pointer (some ⟨B, 0, none⟩), .pointer (some ⟨B + 1, 0, none⟩), .pointer (some ⟨B + 2, 0, none⟩)] (fun (x : Empty) => x.elim) Kp (fun ys => ys = []) (fun _ => False) 0 w := fun lp J Jx W hW hJ _ hY h0 => by
  have c0 : ∀ o, (W.alloc o).cell? ⟨B, 0, none⟩ = some (.pointer none) := fun o => blk_cell (blk_alloc ((hW.block B (blk_lt hB)).trans hB) o)
  have A := hidden (fun W' => (callsIn_wide (n := n - 1)).2 (tmade_nil W'))
  have H0 := hidden (fun o => hJ [] W (W.alloc o) none h0 (World.grownBy_alloc W o none) (fun r e => by cases e))
  clear hW hY hJ h0 hB
  refine callsIn_of_wp Tryz.func64 rfl trivial ?_ rfl
  simp only [Tryz.ntmps64, List.size_toArray, List.length_cons, List.length_nil, Nat.reduceAdd, Nat.reduceSub, Array.replicate_succ, Array.replicate_zero, List.push_toArray, List.append_toArray, List.nil_append, List.cons_append]
  gi_wp2_with (refine ⟨trivial, ?_⟩; gi_at_call 49; refine (A.out _).mono ?_; rintro e w1 ⟨rfl, rfl⟩)
  refine bodyPost_ret (results_none rfl _ _ _) rfl ?_
  exact ⟨⟨_, rfl⟩, .inl ⟨[], rfl, H0.out _⟩⟩
set_option maxHeartbeats 2000000 in
set_option maxRecDepth 100000 in
theorem scan_empty (Kp : World → World → Prop) (w : World) (B g p : Nat) (x y : ByteArray) (hB : w.heap[B]? = some (.cells #[.pointer (some ⟨g, 0, none⟩)] 22 (0, 0))) (hx : w.heap[B + 1]? = some (.cells #[.string x] 9 (0, 0))) (hy : w.heap[B + 2]? = some (.cells #[.string y] 9 (0, 0))) (h : LT w g p nd0 none none none 0 0 0 0 0 0) :
    SeqStopsK Fence.wide 7 Tryz.prog 64 #[.pointer (some ⟨B, 0, none⟩), .pointer (some ⟨B + 1, 0, none⟩), .pointer (some ⟨B + 2, 0, none⟩)] (fun (x : Empty) => x.elim) Kp (fun ys => ys = []) (fun _ => False) 0 w := fun lp J Jx W hW hJ _ hY h0 => by
  have kW : Same w W := ⟨hW.os, hW.tape, hW.output, hW.size, fun k hk _ => hW.block k hk⟩
  have HL := hidden (h.same kW)
  have HM := hidden (fun W' (k : Same W W') => (callsIn_wide (n := 6)).2 (tmade nd0 none none none 0 0 0 0 0 0 W' g p (HL.out.same k)))
  have HSp := hidden (fun W' => (callsIn_wide (n := 6)).2 (spots_fn (some ⟨g, 0, none⟩) x y W'))
  have HJ := hidden (fun W' (k : Same W W') => hJ [] W W' none h0 (grown_same k) (fun r e => by cases e))
  have K0 := hidden (same_alloc W (.cells #[.func (.yield lp) #[] #[]] 43))
  have c0 : (W.alloc (.cells #[.func (.yield lp) #[] #[]] 43)).cell? ⟨B, 0, none⟩ = some (.pointer (some ⟨g, 0, none⟩)) := blk_cell (blk_alloc (blk_kept kW (fun h => h) hB) _)
  have GB := hidden (blk_kept kW (fun h => h) hB)
  have GX := hidden (blk_kept kW (fun h => h) hx)
  have GY := hidden (blk_kept kW (fun h => h) hy)
  clear hW hY hJ h0 hB hx hy h kW
  refine callsIn_of_wp_marks Tryz.func64 rfl trivial ?_ rfl
  simp only [Tryz.ntmps64, List.size_toArray, List.length_cons, List.length_nil, Nat.reduceAdd, Nat.reduceSub, Array.replicate_succ, Array.replicate_zero, List.push_toArray, List.append_toArray, List.nil_append, List.cons_append]
  gi_wp2_with (first
    | (refine ⟨trivial, ?_⟩; gi_at_call 49; refine (HM.out _ K0.out).mono ?_; rintro e w1 ⟨rfl, q1⟩; have K1 := hidden (K0.out.trans q1); have d0 : w1.cell? ⟨B, 0, none⟩ = some (.pointer (some ⟨g, 0, none⟩)) := blk_cell (blk_kept K1.out (fun h => h) GB.out); have d1 : w1.cell? ⟨B + 1, 0, none⟩ = some (.string x) := blk_cell (blk_kept K1.out (fun h => h) GX.out); have d2 : w1.cell? ⟨B + 2, 0, none⟩ = some (.string y) := blk_cell (blk_kept K1.out (fun h => h) GY.out); clear q1)
    | (refine ⟨trivial, ?_⟩; gi_at_call 59; refine (HSp.out _).mono ?_; rintro e w2 ⟨u, rfl, ⟨B', rfl, hB0, hB1, q2⟩⟩; have K2 := hidden (K1.out.trans q2); have B2 := hidden hB1; clear q2 hB1))
  refine wpIn_rangeFunc_ownH rfl (by decide) (gf := 121) (lb := #[.pointer (some ⟨B', 0, none⟩), .pointer (some ⟨B' + 1, 0, none⟩), .pointer (some ⟨B' + 2, 0, none⟩)]) rfl trivial (enters_of Tryz.func121 (by kernel_rfl) rfl)
    (spots_stops nd0 none none none 0 0 0 0 0 0 w2 B' g p B2.out (HL.out.same K2.out) rfl (by decide)) (fun h k => h.trans k) (fun W l o o' _ hl ho _ => KC.putObj W l o o' hl ho) (Below.refl _ _) (fun _ => rfl)
    (fun (pre : List Unit) V => Below W.heap.size W V)
    (fun _ _ _ => False)
    (ownFrom_below (Nat.le_refl _) K2.out.size)
    (fun _ _ _ _ _ hs _ _ => hs)
    (K2.out.below (Nat.le_refl _) fun _ h => h.elim)
    (fun _ a' V => ∃ Bx, a' = { tmps := #[.func (.yield lp) #[] #[], .pointer (some ⟨B, 0, none⟩), .pointer (some ⟨B + 1, 0, none⟩), .pointer (some ⟨B + 2, 0, none⟩), .pointer (some ⟨W.heap.size, 0, none⟩), .pointer (some ⟨Bx, 0, none⟩), .int .i64 0, undef, undef, undef, .pointer (some ⟨g, 0, none⟩), .bool true, .bool false, .pointer (some ⟨g, 0, none⟩), .string x, .string y, .func (.func 121) #[] #[.pointer (some ⟨B', 0, none⟩), .pointer (some ⟨B' + 1, 0, none⟩), .pointer (some ⟨B' + 2, 0, none⟩)], .agg #[.pointer (some ⟨p, 0, none⟩), .string ⟨#[]⟩, .string ⟨#[]⟩, .int .i64 1], .int .i64 0, undef, undef, undef, undef, undef, undef, undef, undef, undef, undef, undef, undef, undef, undef, undef, undef, undef, undef, undef, undef, undef, undef, undef, undef, undef, undef, undef, undef, undef, undef, undef, undef, undef, undef, undef, undef, undef, undef, undef, undef, undef, undef, undef], defers := [] } ∧ V.heap[Bx]? = some (.cells #[.pointer (some ⟨p, 0, none⟩), .string ⟨#[]⟩, .string ⟨#[]⟩, .int .i64 1] 96 (0, 0)))
    (fun _ a' _ A C row hs hg hr => by
      obtain ⟨Bx, e, hb⟩ := hs
      exact ⟨Bx, e, (hg.block Bx (blk_lt hb) (fun e' => by obtain ⟨_, o, ho, hc⟩ := hr Bx e'.symm; rw [hb] at ho; cases ho; cases hc)).trans hb⟩) ?assign ?body ?done ?stop
  case assign =>
    intro l pre x' V K hI hK
    gi_wp2
    exact hK _ _ ((KeepsOthers.alloc _ _).from _) (KC.of (same_alloc _ _)) (hI.alloc hI.size _) ⟨_, rfl, blk_new _ _⟩
  case body =>
    intro l pre x' a' V hl hr hI hA hlt
    obtain ⟨Bx, rfl, hb⟩ := hA
    have hLV := (HL.out.same (same_of_below hI)).pg.box
    have v0 : V.cell? ⟨Bx, 0, none⟩ = some (.pointer (some ⟨p, 0, none⟩)) := blk_cell hb
    have v4 : V.cell? ⟨p, 4, none⟩ = some (.slice none 0 0) := blk_cell hLV
    have HI := hidden hI
    clear hLV hb hI
    gi_wp2
    refine wpIn_loop_once ?_
    gi_wp2
    exact ⟨KeepsFrom.refl _ _, KC.refl _, HI.out⟩
  case done =>
    rintro D ys V hD hS hI hK
    have HJD := hidden (fun W' (k : Same V W') => HJ.out W' ((same_of_below hI).trans k))
    have hz := Nat.le_trans K2.out.size hD
    have hS5 : Same W (V.putObj D (.deferred none)) := (same_of_below hI).grown (grownBy_putObj' _ D _) (fun k e hk => by cases e; omega)
    have HJ5 := hidden (HJ.out _ hS5)
    clear hS5 hI HJD hS
    gi_wp2
    refine ⟨by simp, .inl ⟨_, _, rfl, run_takeDeferred hK, ?_⟩⟩
    refine ⟨.tuple #[], ?_, ⟨_, rfl⟩, .inl ⟨[], rfl, HJ5.out⟩⟩
    simp [results, Tryz.f64, go_sem]
  case stop =>
    rintro D c pre V _ _ h _
    exact h.elim
/-- No tree, or one without keys. -/
def EmptyT (w : World) (o : Option Addr) : Prop := o = none ∨ ∃ g p, o = some ⟨g, 0, none⟩ ∧ LT w g p nd0 none none none 0 0 0 0 0 0
theorem EmptyT.same {w w' : World} {o : Option Addr} (h : EmptyT w o) (k : Same w w') : EmptyT w' o := by
  rcases h with h | ⟨g, p, e, h⟩
  · exact .inl h
  · exact .inr ⟨g, p, e, h.same k⟩
theorem scan_no (Kp : World → World → Prop) (w : World) (B : Nat) (o : Option Addr) (x y : ByteArray) (hB : w.heap[B]? = some (.cells #[.pointer o] 22 (0, 0))) (hx : w.heap[B + 1]? = some (.cells #[.string x] 9 (0, 0))) (hy : w.heap[B + 2]? = some (.cells #[.string y] 9 (0, 0))) (h : EmptyT w o) :
    SeqStopsK Fence.wide 7 Tryz.prog 64 #[.pointer (some ⟨B, 0, none⟩), .pointer (some ⟨B + 1, 0, none⟩), .pointer (some ⟨B + 2, 0, none⟩)] (fun (x : Empty) => x.elim) Kp (fun ys => ys = []) (fun _ => False) 0 w := by
  rcases h with rfl | ⟨g, p, rfl, h⟩
  · exact scan_nil 7 (by decide) Kp w B hB
  · exact scan_empty Kp w B g p x y hB hx hy h
end Go.Proofs.YtmlibjohhgpniaaGreatDoor
