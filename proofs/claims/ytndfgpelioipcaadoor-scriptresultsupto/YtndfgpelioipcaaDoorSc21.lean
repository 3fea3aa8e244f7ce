/- script: the line of a result, plain; the document's PrintResult, walked. -/
import Derived.Test.YtndfgpelioipcaaDoorSc15
import Derived.Test.YtndfgpelioipcaaDoorSc2
import Derived.Test.YtndfgpelioipcaaDoorSc16
import Derived.Test.YtndfgpelioipcaaDoorScW
namespace Go.Proofs.YtndfgpelioipcaaDoor
open Go.RowKit
set_option linter.unusedVariables false
set_option linter.unusedSimpArgs false
/-- A result; its names lie elsewhere. -/
structure ResR where
  er : Int
  hd : Int
  nn : Int
  da : List UInt8
  sn : Int
  sd : Bool
  ss : Int
  sl : Int
  na : List (List UInt8)
def ResR.cs (r : ResR) (a : Option Addr) (n c : Nat) : Array Value := #[.int .i64 r.er, .int .i64 r.hd, .int .i64 r.nn, .string (BA r.da), .int .i64 r.sn, .bool r.sd, .int .i64 r.ss, .int .i64 r.sl, .slice a n c]
structure ResR.Ok (r : ResR) : Prop where
  er : I64 r.er
  hd : I64 r.hd
  nn : I64 r.nn
  sn : I64 r.sn
  ss : I64 r.ss
  sl : I64 r.sl
  da : r.da.length ≤ 1048576
  na : wsum r.na ≤ 4194304
def kindL (d : Bool) : List UInt8 := if d then [100, 105, 114] else [102, 105, 108, 101]
def statL (r : ResR) : List UInt8 := Lib.itoa r.sn ++ 32 :: kindL r.sd ++ 32 :: Lib.itoa r.ss ++ 32 :: Lib.itoa r.sl
def namesL (l : List (List UInt8)) : List UInt8 := if l = [] then [45] else jn (l.map quoteL)
def resL (k : Int) (r : ResR) : List UInt8 :=
  if r.er ≠ 0 then [101, 114, 114, 111, 114, 32] ++ Lib.itoa r.er
  else if k = 1 then Lib.itoa r.hd
  else if k = 3 then quoteL r.da
  else if k = 4 then Lib.itoa r.nn
  else if k = 6 then statL r
  else if k = 7 then namesL r.na
  else [111, 107]
theorem wsum_mem {x : List UInt8} : ∀ {l : List (List UInt8)}, x ∈ l → x.length + 1 ≤ wsum l
  | y :: l, h => by
    have e : wsum (y :: l) = y.length + 1 + wsum l := by simp [wsum]
    rcases List.mem_cons.1 h with rfl | h
    · omega
    · have := wsum_mem h
      omega
theorem wsum_quote : ∀ l : List (List UInt8), wsum (l.map quoteL) ≤ 4 * wsum l
  | [] => by simp [wsum]
  | y :: l => by
    have h := wsum_quote l
    have e1 : wsum (y :: l) = y.length + 1 + wsum l := by simp [wsum]
    have e2 : wsum ((y :: l).map quoteL) = (quoteL y).length + 1 + wsum (l.map quoteL) := by simp [wsum]
    have h1 := quoteL_len y
    have h2 := (qb_len y).2
    omega
theorem wsum_take : ∀ (k : Nat) (l : List (List UInt8)), wsum (l.take k) ≤ wsum l
  | 0, l => by simp [wsum]
  | k + 1, [] => by simp [wsum]
  | k + 1, y :: l => by
    have h := wsum_take k l
    have e1 : wsum (y :: l) = y.length + 1 + wsum l := by simp [wsum]
    have e2 : wsum ((y :: l).take (k + 1)) = y.length + 1 + wsum (l.take k) := by simp [wsum]
    omega
theorem jn_take {l : List (List UInt8)} {k : Nat} {x : List UInt8} (h : l[k]? = some x) : (l.take (k + 1)).map quoteL = (l.take k).map quoteL ++ [quoteL x] := by
  rw [List.take_add_one, h, List.map_append]
  rfl
/-- What lies at a result's box. -/
structure RCel (W : World) (g : Nat) (r : ResR) (a : Option Addr) (n c : Nat) : Prop where
  c0 : W.cell? ⟨g, 0, none⟩ = some (.int .i64 r.er)
  c1 : W.cell? ⟨g, 1, none⟩ = some (.int .i64 r.hd)
  c2 : W.cell? ⟨g, 2, none⟩ = some (.int .i64 r.nn)
  c3 : W.cell? ⟨g, 3, none⟩ = some (.string (BA r.da))
  c4 : W.cell? ⟨g, 4, none⟩ = some (.int .i64 r.sn)
  c5 : W.cell? ⟨g, 5, none⟩ = some (.bool r.sd)
  c6 : W.cell? ⟨g, 6, none⟩ = some (.int .i64 r.ss)
  c7 : W.cell? ⟨g, 7, none⟩ = some (.int .i64 r.sl)
  c8 : W.cell? ⟨g, 8, none⟩ = some (.slice a n c)
theorem rcel {W : World} {g : Nat} {r : ResR} {a : Option Addr} {n c : Nat} (h : W.heap[g]? = some (.cells (r.cs a n c) 39 (0, 0))) : RCel W g r a n c := ⟨blk_cell h, blk_cell h, blk_cell h, blk_cell h, blk_cell h, blk_cell h, blk_cell h, blk_cell h, blk_cell h⟩
set_option maxHeartbeats 4000000 in
set_option maxRecDepth 100000 in
theorem printResultD_any (o : OpR) (r : ResR) (hr : r.Ok) (a : Option Addr) (n c : Nat) (w : World) (row : Row w (.slice a n c) (TS (r.na.map BA))) : Calls Tryd.prog 19 #[.agg o.cs, .agg (r.cs a n c)] w fun e w' => e = .returned (.string (BA (resL o.kd r))) ∧ Same w w' := by
  have hSa : Same w ((w.alloc (.cells o.cs 28)).alloc (.cells (r.cs a n c) 39)) := (same_alloc _ _).alloc _
  have hOa : OpB ((w.alloc (.cells o.cs 28)).alloc (.cells (r.cs a n c) 39)) w.heap.size o := blk_alloc (blk_new w _) _
  have hRa : ((w.alloc (.cells o.cs 28)).alloc (.cells (r.cs a n c) 39)).heap[w.heap.size + 1]? = some (.cells (r.cs a n c) 39 (0, 0)) := by
    have h := blk_new (w.alloc (.cells o.cs 28)) (.cells (r.cs a n c) 39)
    rw [show (w.alloc (.cells o.cs 28)).heap.size = w.heap.size + 1 by simp] at h
    exact h
  have HSa := hidden hSa
  have HRa := hidden hRa
  obtain ⟨r0, r1, r2, r3, r4, r5, r6, r7, r8⟩ := rcel hRa
  have o0 : ((w.alloc (.cells o.cs 28)).alloc (.cells (r.cs a n c) 39)).cell? ⟨w.heap.size, 0, none⟩ = some (.int .i64 o.kd) := blk_cell hOa
  have HOk := hidden hr
  have HRow := hidden row
  have HNb := hidden number_any
  have HQ := hidden quoteD_any
  have HAdd := hidden str_add
  clear hSa hOa hRa hr row
  have hil : ∀ z : Int, I64 z → (Lib.itoa z).length ≤ 21 := fun z hz => by have := Lib.itoa_length_le z hz.1 hz.2; omega
  have HIl := hidden hil
  clear hil
  by_cases h0 : r.er = 0
  rotate_left
  · have hR := hidden (show resL o.kd r = [101, 114, 114, 111, 114, 32] ++ Lib.itoa r.er by unfold resL; rw [if_pos h0])
    have HN1 := hidden (HNb.out r.er HOk.out.er.1 HOk.out.er.2)
    have s1 : ∀ W : World, (Op.stringOp .add ⟨#[101, 114, 114, 111, 114, 32]⟩ (BA (Lib.itoa r.er))).run Tryd.prog W = .ok (.string (BA ([101, 114, 114, 111, 114, 32] ++ Lib.itoa r.er))) W := fun W => HAdd.out [101, 114, 114, 111, 114, 32] (Lib.itoa r.er) W (by have := HIl.out r.er HOk.out.er; simp; omega)
    have d0 : (r.er == 0) = false := by simpa using h0
    have d1 : (r.er != 0) = true := by rw [bne, d0]; rfl
    rw [hR.out]
    generalize BA ([101, 114, 114, 111, 114, 32] ++ Lib.itoa r.er) = y2 at *
    generalize BA (Lib.itoa r.er) = y1 at *
    go_enter Tryd.func19, Tryd.ntmps19
    go_wp2_with (first
      | (go_at_call 27; refine (HN1.out _).mono ?_; rintro e w1 ⟨rfl, k1⟩; have K1 := hidden k1; clear k1))
    go_returns
    exact ⟨rfl, HSa.out.trans K1.out⟩
  have d0 : (r.er == 0) = true := by simpa using h0
  have d1 : (r.er != 0) = false := by rw [bne, d0]; rfl
  have e0 : ¬ r.er ≠ 0 := fun h => h h0
  have HE := hidden (fun k => (show resL k r = if k = 1 then Lib.itoa r.hd else if k = 3 then quoteL r.da else if k = 4 then Lib.itoa r.nn else if k = 6 then statL r else if k = 7 then namesL r.na else [111, 107] by unfold resL; rw [if_neg e0]))
  clear e0
  generalize o.kd = kd at *
  by_cases k1 : kd = 1
  · subst k1
    have hR := hidden (show resL 1 r = Lib.itoa r.hd by rw [HE.out]; rw [if_pos rfl])
    have HN1 := hidden (HNb.out r.hd HOk.out.hd.1 HOk.out.hd.2)
    skip
    rw [hR.out]
    go_enter Tryd.func19, Tryd.ntmps19
    go_wp2_with (go_at_call 27; refine (HN1.out _).mono ?_; rintro e w1 ⟨rfl, k1⟩; have K1 := hidden k1; clear k1)
    go_returns
    exact ⟨rfl, HSa.out.trans K1.out⟩
  have e1 : (kd == 1) = false := by simpa using k1
  by_cases k3 : kd = 3
  · subst k3
    have hR := hidden (show resL 3 r = quoteL r.da by rw [HE.out]; rw [if_neg (by decide), if_pos rfl])
    have HN1 := hidden (HQ.out (BA r.da) (by rw [BA_size]; have := HOk.out.da; omega))
    rw [BA_data] at HN1
    rw [hR.out]
    go_enter Tryd.func19, Tryd.ntmps19
    go_wp2_with (go_at_call 12; refine (HN1.out _).mono ?_; rintro e w1 ⟨rfl, k1⟩; have K1 := hidden k1; clear k1)
    go_returns
    exact ⟨rfl, HSa.out.trans K1.out⟩
  have e3 : (kd == 3) = false := by simpa using k3
  by_cases k4 : kd = 4
  · subst k4
    have hR := hidden (show resL 4 r = Lib.itoa r.nn by rw [HE.out]; rw [if_neg (by decide), if_neg (by decide), if_pos rfl])
    have HN1 := hidden (HNb.out r.nn HOk.out.nn.1 HOk.out.nn.2)
    skip
    rw [hR.out]
    go_enter Tryd.func19, Tryd.ntmps19
    go_wp2_with (go_at_call 27; refine (HN1.out _).mono ?_; rintro e w1 ⟨rfl, k1⟩; have K1 := hidden k1; clear k1)
    go_returns
    exact ⟨rfl, HSa.out.trans K1.out⟩
  have e4 : (kd == 4) = false := by simpa using k4
  by_cases k6 : kd = 6
  · subst k6
    have hR0 : resL 6 r = statL r := by rw [HE.out]; rfl
    have HC := hidden (fun (W : World) (h : SameW ((w.alloc (.cells o.cs 28)).alloc (.cells (r.cs a n c) 39)) W) => rcel (blk_kept h (fun h => h) HRa.out))
    have HN1 := hidden (HNb.out r.sn HOk.out.sn.1 HOk.out.sn.2)
    have HN2 := hidden (HNb.out r.ss HOk.out.ss.1 HOk.out.ss.2)
    have HN3 := hidden (HNb.out r.sl HOk.out.sl.1 HOk.out.sl.2)
    have l1 := HIl.out r.sn HOk.out.sn
    have l2 := HIl.out r.ss HOk.out.ss
    have l3 := HIl.out r.sl HOk.out.sl
    unfold statL at hR0
    cases hsd : r.sd with
    | false =>
      rw [hsd] at r5 hR0
      have hR := hidden (show resL 6 r = Lib.itoa r.sn ++ [32] ++ [102, 105, 108, 101] ++ [32] ++ Lib.itoa r.ss ++ [32] ++ Lib.itoa r.sl by rw [hR0]; simp [kindL])
      rw [hR.out]
      clear hR hR0
      generalize Lib.itoa r.sn = x1 at *
      generalize Lib.itoa r.ss = x2 at *
      generalize Lib.itoa r.sl = x3 at *
      have s1 : ∀ W : World, (Op.stringOp .add (BA x1) ⟨#[32]⟩).run Tryd.prog W = .ok (.string (BA (x1 ++ [32]))) W := fun W => HAdd.out x1 [32] W (by simp; omega)
      have s2 : ∀ W : World, (Op.stringOp .add (BA (x1 ++ [32])) ⟨#[102, 105, 108, 101]⟩).run Tryd.prog W = .ok (.string (BA (x1 ++ [32] ++ [102, 105, 108, 101]))) W := fun W => HAdd.out (x1 ++ [32]) [102, 105, 108, 101] W (by simp; omega)
      have s3 : ∀ W : World, (Op.stringOp .add (BA (x1 ++ [32] ++ [102, 105, 108, 101])) ⟨#[32]⟩).run Tryd.prog W = .ok (.string (BA (x1 ++ [32] ++ [102, 105, 108, 101] ++ [32]))) W := fun W => HAdd.out (x1 ++ [32] ++ [102, 105, 108, 101]) [32] W (by simp; omega)
      have s4 : ∀ W : World, (Op.stringOp .add (BA (x1 ++ [32] ++ [102, 105, 108, 101] ++ [32])) (BA x2)).run Tryd.prog W = .ok (.string (BA (x1 ++ [32] ++ [102, 105, 108, 101] ++ [32] ++ x2))) W := fun W => HAdd.out (x1 ++ [32] ++ [102, 105, 108, 101] ++ [32]) x2 W (by simp; omega)
      have s5 : ∀ W : World, (Op.stringOp .add (BA (x1 ++ [32] ++ [102, 105, 108, 101] ++ [32] ++ x2)) ⟨#[32]⟩).run Tryd.prog W = .ok (.string (BA (x1 ++ [32] ++ [102, 105, 108, 101] ++ [32] ++ x2 ++ [32]))) W := fun W => HAdd.out (x1 ++ [32] ++ [102, 105, 108, 101] ++ [32] ++ x2) [32] W (by simp; omega)
      have s6 : ∀ W : World, (Op.stringOp .add (BA (x1 ++ [32] ++ [102, 105, 108, 101] ++ [32] ++ x2 ++ [32])) (BA x3)).run Tryd.prog W = .ok (.string (BA (x1 ++ [32] ++ [102, 105, 108, 101] ++ [32] ++ x2 ++ [32] ++ x3))) W := fun W => HAdd.out (x1 ++ [32] ++ [102, 105, 108, 101] ++ [32] ++ x2 ++ [32]) x3 W (by simp; omega)
      clear l1 l2 l3 hsd
      generalize BA (x1 ++ [32] ++ [102, 105, 108, 101] ++ [32] ++ x2 ++ [32] ++ x3) = z6 at *
      generalize BA (x1 ++ [32] ++ [102, 105, 108, 101] ++ [32] ++ x2 ++ [32]) = z5 at *
      generalize BA (x1 ++ [32] ++ [102, 105, 108, 101] ++ [32] ++ x2) = z4 at *
      generalize BA (x1 ++ [32] ++ [102, 105, 108, 101] ++ [32]) = z3 at *
      generalize BA (x1 ++ [32] ++ [102, 105, 108, 101]) = z2 at *
      generalize BA (x1 ++ [32]) = z1 at *
      generalize BA x1 = y1 at *
      generalize BA x2 = y2 at *
      generalize BA x3 = y3 at *
      go_enter Tryd.func19, Tryd.ntmps19
      go_wp2
      refine reg_same hmx (by kernel_rfl) ?_
      refine q_val (by rfl) (.pointer (some ⟨w.heap.size + 1, 4, none⟩)) (fun W _ => by go_simp; try rfl) ?_; (try go_simp)
      refine q_val (by rfl) (.pointer (some ⟨w.heap.size + 1, 4, none⟩)) (fun W _ => by go_simp; try rfl) ?_; (try go_simp)
      refine q_val (by rfl) (.int .i64 r.sn) (fun W hC => by have c := (HC.out W hC).c4; go_simp; try rfl) ?_; (try go_simp)
      refine q_call (by rfl) 27 #[.int .i64 r.sn] (.string y1) (fun W => by go_simp; try rfl) (fun W hC => (HN1.out W).mono fun _ w' ⟨h1, h2⟩ => ⟨h1, Kept.trans hC h2⟩) ?_; (try go_simp)
      refine q_val (by rfl) (.string z1) (fun W _ => by go_simp; try rfl) ?_; (try go_simp)
      refine q_val (by rfl) (.string ⟨#[102, 105, 108, 101]⟩) (fun W _ => by go_simp; try rfl) ?_; (try go_simp)
      refine q_val (by rfl) (.string z2) (fun W _ => by go_simp; try rfl) ?_; (try go_simp)
      refine q_val (by rfl) (.string z3) (fun W _ => by go_simp; try rfl) ?_; (try go_simp)
      refine q_val (by rfl) (.pointer (some ⟨w.heap.size + 1, 4, none⟩)) (fun W _ => by go_simp; try rfl) ?_; (try go_simp)
      refine q_val (by rfl) (.pointer (some ⟨w.heap.size + 1, 6, none⟩)) (fun W _ => by go_simp; try rfl) ?_; (try go_simp)
      refine q_val (by rfl) (.int .i64 r.ss) (fun W hC => by have c := (HC.out W hC).c6; go_simp; try rfl) ?_; (try go_simp)
      refine q_call (by rfl) 27 #[.int .i64 r.ss] (.string y2) (fun W => by go_simp; try rfl) (fun W hC => (HN2.out W).mono fun _ w' ⟨h1, h2⟩ => ⟨h1, Kept.trans hC h2⟩) ?_; (try go_simp)
      refine q_val (by rfl) (.string z4) (fun W _ => by go_simp; try rfl) ?_; (try go_simp)
      refine q_val (by rfl) (.string z5) (fun W _ => by go_simp; try rfl) ?_; (try go_simp)
      refine q_val (by rfl) (.pointer (some ⟨w.heap.size + 1, 4, none⟩)) (fun W _ => by go_simp; try rfl) ?_; (try go_simp)
      refine q_val (by rfl) (.pointer (some ⟨w.heap.size + 1, 7, none⟩)) (fun W _ => by go_simp; try rfl) ?_; (try go_simp)
      refine q_val (by rfl) (.int .i64 r.sl) (fun W hC => by have c := (HC.out W hC).c7; go_simp; try rfl) ?_; (try go_simp)
      refine q_call (by rfl) 27 #[.int .i64 r.sl] (.string y3) (fun W => by go_simp; try rfl) (fun W hC => (HN3.out W).mono fun _ w' ⟨h1, h2⟩ => ⟨h1, Kept.trans hC h2⟩) ?_; (try go_simp)
      refine q_val (by rfl) (.string z6) (fun W _ => by go_simp; try rfl) ?_; (try go_simp)
      refine q_val (by rfl) (.string z6) (fun W _ => by go_simp; try rfl) ?_; (try go_simp)
      refine wpQuiet_nil ?_
      intro w4 k4
      have K4 := hidden k4
      clear k4
      go_wp2
      go_returns
      exact ⟨rfl, HSa.out.trans K4.out⟩
    | true =>
      rw [hsd] at r5 hR0
      have hR := hidden (show resL 6 r = Lib.itoa r.sn ++ [32] ++ [100, 105, 114] ++ [32] ++ Lib.itoa r.ss ++ [32] ++ Lib.itoa r.sl by rw [hR0]; simp [kindL])
      rw [hR.out]
      clear hR hR0
      generalize Lib.itoa r.sn = x1 at *
      generalize Lib.itoa r.ss = x2 at *
      generalize Lib.itoa r.sl = x3 at *
      have s1 : ∀ W : World, (Op.stringOp .add (BA x1) ⟨#[32]⟩).run Tryd.prog W = .ok (.string (BA (x1 ++ [32]))) W := fun W => HAdd.out x1 [32] W (by simp; omega)
      have s2 : ∀ W : World, (Op.stringOp .add (BA (x1 ++ [32])) ⟨#[100, 105, 114]⟩).run Tryd.prog W = .ok (.string (BA (x1 ++ [32] ++ [100, 105, 114]))) W := fun W => HAdd.out (x1 ++ [32]) [100, 105, 114] W (by simp; omega)
      have s3 : ∀ W : World, (Op.stringOp .add (BA (x1 ++ [32] ++ [100, 105, 114])) ⟨#[32]⟩).run Tryd.prog W = .ok (.string (BA (x1 ++ [32] ++ [100, 105, 114] ++ [32]))) W := fun W => HAdd.out (x1 ++ [32] ++ [100, 105, 114]) [32] W (by simp; omega)
      have s4 : ∀ W : World, (Op.stringOp .add (BA (x1 ++ [32] ++ [100, 105, 114] ++ [32])) (BA x2)).run Tryd.prog W = .ok (.string (BA (x1 ++ [32] ++ [100, 105, 114] ++ [32] ++ x2))) W := fun W => HAdd.out (x1 ++ [32] ++ [100, 105, 114] ++ [32]) x2 W (by simp; omega)
      have s5 : ∀ W : World, (Op.stringOp .add (BA (x1 ++ [32] ++ [100, 105, 114] ++ [32] ++ x2)) ⟨#[32]⟩).run Tryd.prog W = .ok (.string (BA (x1 ++ [32] ++ [100, 105, 114] ++ [32] ++ x2 ++ [32]))) W := fun W => HAdd.out (x1 ++ [32] ++ [100, 105, 114] ++ [32] ++ x2) [32] W (by simp; omega)
      have s6 : ∀ W : World, (Op.stringOp .add (BA (x1 ++ [32] ++ [100, 105, 114] ++ [32] ++ x2 ++ [32])) (BA x3)).run Tryd.prog W = .ok (.string (BA (x1 ++ [32] ++ [100, 105, 114] ++ [32] ++ x2 ++ [32] ++ x3))) W := fun W => HAdd.out (x1 ++ [32] ++ [100, 105, 114] ++ [32] ++ x2 ++ [32]) x3 W (by simp; omega)
      clear l1 l2 l3 hsd
      generalize BA (x1 ++ [32] ++ [100, 105, 114] ++ [32] ++ x2 ++ [32] ++ x3) = z6 at *
      generalize BA (x1 ++ [32] ++ [100, 105, 114] ++ [32] ++ x2 ++ [32]) = z5 at *
      generalize BA (x1 ++ [32] ++ [100, 105, 114] ++ [32] ++ x2) = z4 at *
      generalize BA (x1 ++ [32] ++ [100, 105, 114] ++ [32]) = z3 at *
      generalize BA (x1 ++ [32] ++ [100, 105, 114]) = z2 at *
      generalize BA (x1 ++ [32]) = z1 at *
      generalize BA x1 = y1 at *
      generalize BA x2 = y2 at *
      generalize BA x3 = y3 at *
      go_enter Tryd.func19, Tryd.ntmps19
      go_wp2
      refine reg_same hmx (by kernel_rfl) ?_
      refine q_val (by rfl) (.pointer (some ⟨w.heap.size + 1, 4, none⟩)) (fun W _ => by go_simp; try rfl) ?_; (try go_simp)
      refine q_val (by rfl) (.pointer (some ⟨w.heap.size + 1, 4, none⟩)) (fun W _ => by go_simp; try rfl) ?_; (try go_simp)
      refine q_val (by rfl) (.int .i64 r.sn) (fun W hC => by have c := (HC.out W hC).c4; go_simp; try rfl) ?_; (try go_simp)
      refine q_call (by rfl) 27 #[.int .i64 r.sn] (.string y1) (fun W => by go_simp; try rfl) (fun W hC => (HN1.out W).mono fun _ w' ⟨h1, h2⟩ => ⟨h1, Kept.trans hC h2⟩) ?_; (try go_simp)
      refine q_val (by rfl) (.string z1) (fun W _ => by go_simp; try rfl) ?_; (try go_simp)
      refine q_val (by rfl) (.string ⟨#[100, 105, 114]⟩) (fun W _ => by go_simp; try rfl) ?_; (try go_simp)
      refine q_val (by rfl) (.string z2) (fun W _ => by go_simp; try rfl) ?_; (try go_simp)
      refine q_val (by rfl) (.string z3) (fun W _ => by go_simp; try rfl) ?_; (try go_simp)
      refine q_val (by rfl) (.pointer (some ⟨w.heap.size + 1, 4, none⟩)) (fun W _ => by go_simp; try rfl) ?_; (try go_simp)
      refine q_val (by rfl) (.pointer (some ⟨w.heap.size + 1, 6, none⟩)) (fun W _ => by go_simp; try rfl) ?_; (try go_simp)
      refine q_val (by rfl) (.int .i64 r.ss) (fun W hC => by have c := (HC.out W hC).c6; go_simp; try rfl) ?_; (try go_simp)
      refine q_call (by rfl) 27 #[.int .i64 r.ss] (.string y2) (fun W => by go_simp; try rfl) (fun W hC => (HN2.out W).mono fun _ w' ⟨h1, h2⟩ => ⟨h1, Kept.trans hC h2⟩) ?_; (try go_simp)
      refine q_val (by rfl) (.string z4) (fun W _ => by go_simp; try rfl) ?_; (try go_simp)
      refine q_val (by rfl) (.string z5) (fun W _ => by go_simp; try rfl) ?_; (try go_simp)
      refine q_val (by rfl) (.pointer (some ⟨w.heap.size + 1, 4, none⟩)) (fun W _ => by go_simp; try rfl) ?_; (try go_simp)
      refine q_val (by rfl) (.pointer (some ⟨w.heap.size + 1, 7, none⟩)) (fun W _ => by go_simp; try rfl) ?_; (try go_simp)
      refine q_val (by rfl) (.int .i64 r.sl) (fun W hC => by have c := (HC.out W hC).c7; go_simp; try rfl) ?_; (try go_simp)
      refine q_call (by rfl) 27 #[.int .i64 r.sl] (.string y3) (fun W => by go_simp; try rfl) (fun W hC => (HN3.out W).mono fun _ w' ⟨h1, h2⟩ => ⟨h1, Kept.trans hC h2⟩) ?_; (try go_simp)
      refine q_val (by rfl) (.string z6) (fun W _ => by go_simp; try rfl) ?_; (try go_simp)
      refine q_val (by rfl) (.string z6) (fun W _ => by go_simp; try rfl) ?_; (try go_simp)
      refine wpQuiet_nil ?_
      intro w4 k4
      have K4 := hidden k4
      clear k4
      go_wp2
      go_returns
      exact ⟨rfl, HSa.out.trans K4.out⟩
  have e6 : (kd == 6) = false := by simpa using k6
  by_cases k7 : kd = 7
  · subst k7
    have hR := hidden (show resL 7 r = namesL r.na by rw [HE.out]; rfl)
    rw [hR.out]
    have hna := HOk.out.na
    have hN : n = r.na.length := by have := HRow.out.tl; simpa [TS] using this.symm
    have HN := hidden hN
    have HRw := HRow
    clear hR hN
    generalize r.na = l at *
    have hnl : n ≤ 4194304 := by have := len_wsum l; have := HN.out; omega
    have HSn := hidden jn_snoc
    go_enter Tryd.func19, Tryd.ntmps19
    go_wp2
    go_loopw [6, 62] (fun u v wr => ∃ (k : Nat), u = .string (BA (jn ((l.take k).map quoteL))) ∧ v = .int .i64 k ∧ k ≤ n ∧ Same w wr) (fun _ v _ => n - (intOf v).toNat)
    case atStart => exact ⟨0, rfl, rfl, Nat.zero_le _, HSa.out⟩
    case round =>
      obtain ⟨k, rfl, rfl, hkn, hS⟩ := hrel
      have HS := hidden hS
      clear hS
      by_cases g1 : k < n
      · obtain ⟨x, hx⟩ : ∃ x, l[k]? = some x := ⟨_, List.getElem?_eq_getElem (by rw [← HN.out]; exact g1)⟩
        have hjl : (jn ((l.take k).map quoteL)).length ≤ 16777216 := by
          have h1 := jn_len ((l.take k).map quoteL)
          have h2 := wsum_quote (l.take k)
          have h3 := wsum_take k l
          omega
        have hxl := wsum_mem (List.mem_of_getElem? hx)
        have hql : (quoteL x).length ≤ 16777220 := by
          have h1 := quoteL_len x
          have h2 := (qb_len x).2
          omega
        have HT := hidden (jn_take hx)
        obtain ⟨b1, o1, he, hc⟩ := HRw.out.at (by rw [show (TS (l.map BA)).length = l.length by simp [TS]]; rw [← HN.out]; omega)
        obtain ⟨rfl⟩ : a = some ⟨b1, o1, none⟩ := by simpa using he
        have hX := HS.out.cell (p := ⟨b1, o1 + k, none⟩) (fun h => h) (hc k (.string (BA x)) (by simp [TS, hx]))
        have HQ1 := hidden (HQ.out (BA x) (by rw [BA_size]; omega))
        rw [BA_data] at HQ1
        have q1 : (k : Int) < (n : Int) := by omega
        have q2 : (0 : Int) ≤ (k : Int) := Int.natCast_nonneg _
        clear he hc
        by_cases g2 : k = 0
        · subst g2
          have HJ := hidden (show BA (jn ((l.take 1).map quoteL)) = BA (quoteL x) by rw [HT.out]; simp [jn_one])
          have hj0 : BA (jn ((l.take 0).map quoteL)) = ⟨#[]⟩ := by simp [jn_nil]; rfl
          rw [hj0]
          have s1 : ∀ W : World, (Op.stringOp .add ⟨#[]⟩ (BA (quoteL x))).run Tryd.prog W = .ok (.string (BA (quoteL x))) W := fun W => by have := HAdd.out [] (quoteL x) W (by simp; omega); rwa [List.nil_append] at this
          have hX0 : wr.cell? ⟨b1, o1, none⟩ = some (.string (BA x)) := by simpa using hX
          have n0 : 0 < n := g1
          clear hX hx hjl hj0
          generalize BA (quoteL x) = yq at *
          generalize BA x = yx at *
          go_wp2_with (go_at_call 12; refine (HQ1.out _).mono ?_; rintro e w4 ⟨rfl, k4⟩; have S4 := hidden (HS.out.trans k4); clear k4)
          go_roundw
          case rel => exact ⟨1, by rw [HJ.out], by go_num, by omega, S4.out⟩
          case measure => simp [intOf]; omega
        · have q3 : (0 : Int) < (k : Int) := by omega
          have hne : (l.take k).map quoteL ≠ [] := by
            intro e
            have := congrArg List.length e
            rw [List.length_map, List.length_take, List.length_nil, ← HN.out] at this
            omega
          have HJ := hidden (show BA (jn ((l.take (k + 1)).map quoteL)) = BA (jn ((l.take k).map quoteL) ++ 32 :: quoteL x) by rw [HT.out, HSn.out _ _ hne])
          generalize jn ((l.take k).map quoteL) = J at *
          have s1 : ∀ W : World, (Op.stringOp .add (BA J) ⟨#[32]⟩).run Tryd.prog W = .ok (.string (BA (J ++ [32]))) W := fun W => HAdd.out J [32] W (by simp; omega)
          have s2 : ∀ W : World, (Op.stringOp .add (BA (J ++ [32])) (BA (quoteL x))).run Tryd.prog W = .ok (.string (BA (J ++ 32 :: quoteL x))) W := fun W => by have := HAdd.out (J ++ [32]) (quoteL x) W (by simp; omega); rwa [List.append_assoc, List.singleton_append] at this
          clear hx hjl hne
          generalize BA (J ++ 32 :: quoteL x) = z2 at *
          generalize BA (J ++ [32]) = z1 at *
          generalize BA J = z0 at *
          generalize BA (quoteL x) = yq at *
          generalize BA x = yx at *
          go_wp2_with (go_at_call 12; refine (HQ1.out _).mono ?_; rintro e w4 ⟨rfl, k4⟩; have S4 := hidden (HS.out.trans k4); clear k4)
          go_roundw
          case rel => exact ⟨k + 1, by rw [HJ.out], by go_num, by omega, S4.out⟩
          case measure => simp [intOf]; omega
      · have q1 : ¬ (k : Int) < (n : Int) := by omega
        have hk : k = l.length := by have := HN.out; omega
        have ht : l.take k = l := by rw [hk, List.take_length]
        rw [ht]
        by_cases g3 : l = []
        · have hj0 : BA (jn (l.map quoteL)) = ⟨#[]⟩ := by rw [g3]; rfl
          have hN2 := hidden (show namesL l = [45] by unfold namesL; rw [if_pos g3])
          rw [hj0]
          clear hk ht g3
          go_wp2
          go_returns
          exact ⟨by rw [hN2.out]; rfl, HS.out⟩
        · have hN2 := hidden (show BA (namesL l) = BA (jn (l.map quoteL)) by unfold namesL; rw [if_neg g3])
          have hne : jn (l.map quoteL) ≠ [] := by
            obtain ⟨x, xs, rfl⟩ := List.exists_cons_of_ne_nil g3
            cases xs with
            | nil => simp [jn_one, quoteL]
            | cons y ys => simp only [List.map_cons, jn_cons]; simp [quoteL]
          have e4 : ¬ (BA (jn (l.map quoteL))).toList = [] := by rw [toList_BA]; exact hne
          generalize BA (jn (l.map quoteL)) = z at *
          have d4 : (z.toList == []) = false := by simpa using e4
          clear hk ht g3 hne
          go_wp2
          go_returns
          exact ⟨by rw [hN2.out]; rfl, HS.out⟩
  · have e7 : (kd == 7) = false := by simpa using k7
    have hR := hidden (show resL kd r = [111, 107] by rw [HE.out, if_neg k1, if_neg k3, if_neg k4, if_neg k6, if_neg k7])
    rw [hR.out]
    go_enter Tryd.func19, Tryd.ntmps19
    go_wp2
    go_returns
    exact ⟨rfl, HSa.out⟩
end Go.Proofs.YtndfgpelioipcaaDoor
