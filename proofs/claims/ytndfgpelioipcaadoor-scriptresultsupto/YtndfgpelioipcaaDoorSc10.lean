/- script: an operation as a plain value and in memory; textField, numberField, tell, take, walked. (Made by mksc10.py.) -/
import Derived.Test.YtndfgpelioipcaaDoorSc3
import Derived.Test.YtndfgpelioipcaaDoorSc6
namespace Go.Proofs.YtndfgpelioipcaaDoor
open Go.RowKit
set_option linter.unusedVariables false
set_option linter.unusedSimpArgs false
/-- An operation. -/
structure OpR where
  kd : Int
  pa : List UInt8
  ot : List UInt8
  ha : Int
  of : Int
  nn : Int
  fl : Int
  da : List UInt8
theorem OpR.eqv (a b : OpR) : a = b ↔ (a.kd = b.kd ∧ a.pa = b.pa ∧ a.ot = b.ot ∧ a.ha = b.ha ∧ a.of = b.of ∧ a.nn = b.nn ∧ a.fl = b.fl ∧ a.da = b.da) := by
  constructor
  · rintro rfl
    simp
  · cases a; cases b
    simp only
    rintro ⟨rfl, rfl, rfl, rfl, rfl, rfl, rfl, rfl⟩
    rfl
instance : DecidableEq OpR := fun a b => decidable_of_iff _ (OpR.eqv a b).symm
def OpR.zero : OpR := ⟨0, [], [], 0, 0, 0, 0, []⟩
def OpR.cs (o : OpR) : Array Value := #[.int .i64 o.kd, .string (BA o.pa), .string (BA o.ot), .int .i64 o.ha, .int .i64 o.of, .int .i64 o.nn, .int .i64 o.fl, .string (BA o.da)]
def I64 (x : Int) : Prop := -9223372036854775808 ≤ x ∧ x ≤ 9223372036854775807
/-- All its numbers are numbers; its texts have at most L bytes together. -/
structure OpR.Ok (o : OpR) (L : Nat) : Prop where
  kd : I64 o.kd
  ha : I64 o.ha
  of : I64 o.of
  nn : I64 o.nn
  fl : I64 o.fl
  len : o.pa.length + o.ot.length + o.da.length ≤ L
/-- A letter that names a text. -/
def isT (c : UInt8) : Bool := c == 80 || c == 81 || c == 68
def isN (c : UInt8) : Bool := c == 72 || c == 79 || c == 78 || c == 70
def OpR.txt (o : OpR) (c : UInt8) : List UInt8 := if c = 80 then o.pa else if c = 81 then o.ot else o.da
def OpR.num (o : OpR) (c : UInt8) : Int := if c = 72 then o.ha else if c = 79 then o.of else if c = 78 then o.nn else o.fl
def OpR.setT (o : OpR) (c : UInt8) (t : List UInt8) : OpR := if c = 80 then { o with pa := t } else if c = 81 then { o with ot := t } else { o with da := t }
def OpR.setN (o : OpR) (c : UInt8) (n : Int) : OpR := if c = 72 then { o with ha := n } else if c = 79 then { o with of := n } else if c = 78 then { o with nn := n } else { o with fl := n }
/-- An operation in a block of its own. -/
abbrev OpB (w : World) (g : Nat) (o : OpR) : Prop := w.heap[g]? = some (.cells o.cs 28 (0, 0))

set_option maxHeartbeats 400000 in
set_option maxRecDepth 100000 in
theorem tf80 (g : Nat) (w : World) : Calls Tryd.prog 42 #[.pointer (some ⟨g, 0, none⟩), .int .u8 80] w fun e w' => e = .returned (.pointer (some ⟨g, 1, none⟩)) ∧ w = w' := by
  go_enter Tryd.func42, Tryd.ntmps42
  go_wp2
  go_returns
  exact ⟨rfl, rfl⟩
set_option maxHeartbeats 400000 in
set_option maxRecDepth 100000 in
theorem tf81 (g : Nat) (w : World) : Calls Tryd.prog 42 #[.pointer (some ⟨g, 0, none⟩), .int .u8 81] w fun e w' => e = .returned (.pointer (some ⟨g, 2, none⟩)) ∧ w = w' := by
  go_enter Tryd.func42, Tryd.ntmps42
  go_wp2
  go_returns
  exact ⟨rfl, rfl⟩
set_option maxHeartbeats 400000 in
set_option maxRecDepth 100000 in
theorem tf68 (g : Nat) (w : World) : Calls Tryd.prog 42 #[.pointer (some ⟨g, 0, none⟩), .int .u8 68] w fun e w' => e = .returned (.pointer (some ⟨g, 7, none⟩)) ∧ w = w' := by
  go_enter Tryd.func42, Tryd.ntmps42
  go_wp2
  go_returns
  exact ⟨rfl, rfl⟩
set_option maxHeartbeats 400000 in
set_option maxRecDepth 100000 in
theorem tf72 (g : Nat) (w : World) : Calls Tryd.prog 42 #[.pointer (some ⟨g, 0, none⟩), .int .u8 72] w fun e w' => e = .returned (.pointer none) ∧ w = w' := by
  go_enter Tryd.func42, Tryd.ntmps42
  go_wp2
  go_returns
  exact ⟨rfl, rfl⟩
set_option maxHeartbeats 400000 in
set_option maxRecDepth 100000 in
theorem nf72 (g : Nat) (w : World) : Calls Tryd.prog 43 #[.pointer (some ⟨g, 0, none⟩), .int .u8 72] w fun e w' => e = .returned (.pointer (some ⟨g, 3, none⟩)) ∧ w = w' := by
  go_enter Tryd.func43, Tryd.ntmps43
  go_wp2
  go_returns
  exact ⟨rfl, rfl⟩
set_option maxHeartbeats 400000 in
set_option maxRecDepth 100000 in
theorem tf79 (g : Nat) (w : World) : Calls Tryd.prog 42 #[.pointer (some ⟨g, 0, none⟩), .int .u8 79] w fun e w' => e = .returned (.pointer none) ∧ w = w' := by
  go_enter Tryd.func42, Tryd.ntmps42
  go_wp2
  go_returns
  exact ⟨rfl, rfl⟩
set_option maxHeartbeats 400000 in
set_option maxRecDepth 100000 in
theorem nf79 (g : Nat) (w : World) : Calls Tryd.prog 43 #[.pointer (some ⟨g, 0, none⟩), .int .u8 79] w fun e w' => e = .returned (.pointer (some ⟨g, 4, none⟩)) ∧ w = w' := by
  go_enter Tryd.func43, Tryd.ntmps43
  go_wp2
  go_returns
  exact ⟨rfl, rfl⟩
set_option maxHeartbeats 400000 in
set_option maxRecDepth 100000 in
theorem tf78 (g : Nat) (w : World) : Calls Tryd.prog 42 #[.pointer (some ⟨g, 0, none⟩), .int .u8 78] w fun e w' => e = .returned (.pointer none) ∧ w = w' := by
  go_enter Tryd.func42, Tryd.ntmps42
  go_wp2
  go_returns
  exact ⟨rfl, rfl⟩
set_option maxHeartbeats 400000 in
set_option maxRecDepth 100000 in
theorem nf78 (g : Nat) (w : World) : Calls Tryd.prog 43 #[.pointer (some ⟨g, 0, none⟩), .int .u8 78] w fun e w' => e = .returned (.pointer (some ⟨g, 5, none⟩)) ∧ w = w' := by
  go_enter Tryd.func43, Tryd.ntmps43
  go_wp2
  go_returns
  exact ⟨rfl, rfl⟩
set_option maxHeartbeats 400000 in
set_option maxRecDepth 100000 in
theorem tf70 (g : Nat) (w : World) : Calls Tryd.prog 42 #[.pointer (some ⟨g, 0, none⟩), .int .u8 70] w fun e w' => e = .returned (.pointer none) ∧ w = w' := by
  go_enter Tryd.func42, Tryd.ntmps42
  go_wp2
  go_returns
  exact ⟨rfl, rfl⟩
set_option maxHeartbeats 400000 in
set_option maxRecDepth 100000 in
theorem nf70 (g : Nat) (w : World) : Calls Tryd.prog 43 #[.pointer (some ⟨g, 0, none⟩), .int .u8 70] w fun e w' => e = .returned (.pointer (some ⟨g, 6, none⟩)) ∧ w = w' := by
  go_enter Tryd.func43, Tryd.ntmps43
  go_wp2
  go_returns
  exact ⟨rfl, rfl⟩
/-- What strconv reads stays where only a younger block turns. -/
theorem Tb.turn {g : Nat} {w w' : World} (h : Tb w) (k : Kept (fun k => k = g) w w') (hg : 3 < g) : Tb w' := by
  obtain ⟨t1, p1, h1⟩ := h.syn
  obtain ⟨t2, p2, h2⟩ := h.rng
  refine ⟨?_, ⟨t1, p1, k.cell (fun e => by simp at e; omega) h1⟩, ⟨t2, p2, k.cell (fun e => by simp at e; omega) h2⟩⟩
  have hp := h.pow
  have hgn : Tryd.prog.globalNamed "internal/strconv.uint64pow10" = some 1 := by kernel_rfl
  unfold Lib.TabIs World.var? at *
  rw [hgn] at hp ⊢
  simp only [Option.bind_some] at hp ⊢
  cases hb : w.heap[(1 : Nat)]? with
  | none => simp [hb] at hp
  | some ob =>
    have := blk_kept k (fun e => by omega) hb
    rw [this]
    rw [hb] at hp
    exact hp
theorem one_int (z : Int) (W : World) : Row (W.alloc (.cells #[.int .i64 z] 3)) (.slice (some ⟨W.heap.size, 0, none⟩) 1 1) (IS [z]) :=
  Row.own (B := 0) (n := 1) (e := 3) (xs := [.int .i64 z]) (World.ownsRow_lit (base := 0) (e := 3) (size := 1) W #[.int .i64 z] 1 (Nat.zero_le _) (by decide) rfl)
theorem Tb.lt {w : World} (h : Tb w) : 3 < w.heap.size := by
  obtain ⟨t2, p2, h2⟩ := h.rng
  exact World.block_lt_of_cell? w _ h2
theorem opb_set {w : World} {g : Nat} {o : OpR} (h : OpB w g o) (j : Nat) (v : Value) (o2 : OpR) (he : o.cs.setIfInBounds j v = o2.cs) : OpB (w.setCell ⟨g, j, none⟩ v) g o2 := by
  have := blk_set h (j := j) v
  rw [he] at this
  exact this
theorem opb_kept {S : Nat → Prop} {w w' : World} {g : Nat} {o : OpR} (h : OpB w g o) (k : Kept S w w') (hs : ¬ S g) : OpB w' g o := blk_kept k hs h
abbrev KG (g : Nat) (w w' : World) : Prop := Kept (fun k => k = g) w w'
theorem same_kg {g : Nat} {w w' : World} (k : Same w w') : KG g w w' := k.mono (fun _ _ h => h.elim)
set_option maxHeartbeats 400000 in
set_option maxRecDepth 100000 in
theorem tell80 (g : Nat) (o : OpR) (w : World) (h : OpB w g o) (hl : o.pa.length ≤ 17592186044416) : Calls Tryd.prog 37 #[.pointer (some ⟨g, 0, none⟩), .int .u8 80] w fun e w' => e = .returned (.tuple #[.string (BA (quoteL o.pa)), .bool true]) ∧ OpB w' g { o with pa := [] } ∧ KG g w w' := by
  have HT := hidden (tf80 g)
  have HQ := hidden (quote_any (BA o.pa) (by rw [BA_size]; exact hl))
  rw [BA_data] at HQ
  have c1 : w.cell? ⟨g, 1, none⟩ = some (.string (BA o.pa)) := blk_cell h
  have HB := hidden h
  clear h hl
  generalize BA (quoteL o.pa) = y at *
  generalize BA o.pa = x at *
  go_enter Tryd.func37, Tryd.ntmps37
  go_wp2_with (first
    | (go_at_call 42; refine (HT.out _).mono ?_; rintro e w1 ⟨rfl, rfl⟩)
    | (go_at_call 9; refine (HQ.out _).mono ?_; rintro e w2 ⟨rfl, k2⟩; have K2 := hidden k2; clear k2; have B2 := hidden (opb_kept HB.out K2.out (fun h => h)); have c2 : w2.cell? ⟨g, 1, none⟩ = some (.string (BA o.pa)) := (blk_cell B2.out); have f2 : w2.frozen? ⟨g, 1, none⟩ = false := blk_free B2.out))
  go_returns
  exact ⟨rfl, opb_set B2.out 1 _ _ rfl, (same_kg K2.out).setCell (p := ⟨g, 1, none⟩) rfl _⟩
set_option maxHeartbeats 400000 in
set_option maxRecDepth 100000 in
theorem tell81 (g : Nat) (o : OpR) (w : World) (h : OpB w g o) (hl : o.ot.length ≤ 17592186044416) : Calls Tryd.prog 37 #[.pointer (some ⟨g, 0, none⟩), .int .u8 81] w fun e w' => e = .returned (.tuple #[.string (BA (quoteL o.ot)), .bool true]) ∧ OpB w' g { o with ot := [] } ∧ KG g w w' := by
  have HT := hidden (tf81 g)
  have HQ := hidden (quote_any (BA o.ot) (by rw [BA_size]; exact hl))
  rw [BA_data] at HQ
  have c1 : w.cell? ⟨g, 2, none⟩ = some (.string (BA o.ot)) := blk_cell h
  have HB := hidden h
  clear h hl
  generalize BA (quoteL o.ot) = y at *
  generalize BA o.ot = x at *
  go_enter Tryd.func37, Tryd.ntmps37
  go_wp2_with (first
    | (go_at_call 42; refine (HT.out _).mono ?_; rintro e w1 ⟨rfl, rfl⟩)
    | (go_at_call 9; refine (HQ.out _).mono ?_; rintro e w2 ⟨rfl, k2⟩; have K2 := hidden k2; clear k2; have B2 := hidden (opb_kept HB.out K2.out (fun h => h)); have c2 : w2.cell? ⟨g, 2, none⟩ = some (.string (BA o.ot)) := (blk_cell B2.out); have f2 : w2.frozen? ⟨g, 2, none⟩ = false := blk_free B2.out))
  go_returns
  exact ⟨rfl, opb_set B2.out 2 _ _ rfl, (same_kg K2.out).setCell (p := ⟨g, 2, none⟩) rfl _⟩
set_option maxHeartbeats 400000 in
set_option maxRecDepth 100000 in
theorem tell68 (g : Nat) (o : OpR) (w : World) (h : OpB w g o) (hl : o.da.length ≤ 17592186044416) : Calls Tryd.prog 37 #[.pointer (some ⟨g, 0, none⟩), .int .u8 68] w fun e w' => e = .returned (.tuple #[.string (BA (quoteL o.da)), .bool true]) ∧ OpB w' g { o with da := [] } ∧ KG g w w' := by
  have HT := hidden (tf68 g)
  have HQ := hidden (quote_any (BA o.da) (by rw [BA_size]; exact hl))
  rw [BA_data] at HQ
  have c1 : w.cell? ⟨g, 7, none⟩ = some (.string (BA o.da)) := blk_cell h
  have HB := hidden h
  clear h hl
  generalize BA (quoteL o.da) = y at *
  generalize BA o.da = x at *
  go_enter Tryd.func37, Tryd.ntmps37
  go_wp2_with (first
    | (go_at_call 42; refine (HT.out _).mono ?_; rintro e w1 ⟨rfl, rfl⟩)
    | (go_at_call 9; refine (HQ.out _).mono ?_; rintro e w2 ⟨rfl, k2⟩; have K2 := hidden k2; clear k2; have B2 := hidden (opb_kept HB.out K2.out (fun h => h)); have c2 : w2.cell? ⟨g, 7, none⟩ = some (.string (BA o.da)) := (blk_cell B2.out); have f2 : w2.frozen? ⟨g, 7, none⟩ = false := blk_free B2.out))
  go_returns
  exact ⟨rfl, opb_set B2.out 7 _ _ rfl, (same_kg K2.out).setCell (p := ⟨g, 7, none⟩) rfl _⟩
set_option maxHeartbeats 400000 in
set_option maxRecDepth 100000 in
theorem tell72 (g : Nat) (o : OpR) (w : World) (T : Tb w) (h : OpB w g o) (hb : I64 o.ha) (hg : 3 < g) : Calls Tryd.prog 37 #[.pointer (some ⟨g, 0, none⟩), .int .u8 72] w fun e w' => e = .returned (.tuple #[.string (BA (Lib.itoa o.ha)), .bool (mayN o.ha)]) ∧ OpB w' g { o with ha := 0 } ∧ KG g w w' := by
  have HT := hidden (tf72 g)
  have HN := hidden (nf72 g)
  have HM := hidden (mayNumber_any o.ha)
  have c1 : w.cell? ⟨g, 3, none⟩ = some (.int .i64 o.ha) := blk_cell h
  have f1 : w.frozen? ⟨g, 3, none⟩ = false := blk_free h
  have HB := hidden (opb_set h 3 (.int .i64 0) { o with ha := 0 } rfl)
  have K1 := hidden ((Kept.refl (fun k => k = g) w).setCell (p := ⟨g, 3, none⟩) rfl (.int .i64 0))
  have T1 := hidden (T.turn K1.out hg)
  have HZ := hidden (fun (a : Option Addr) (n c : Nat) (W : World) T r => numbers_any [o.ha] a n c W T r (fun z hz => by rcases List.mem_singleton.1 hz with rfl; exact hb))
  simp only [List.map_cons, List.map_nil, jn_one] at HZ
  clear T h hb hg
  have hrow := one_int o.ha (w.setCell ⟨g, 3, none⟩ (.int .i64 0))
  rw [show (w.setCell ⟨g, 3, none⟩ (.int .i64 0)).heap.size = w.heap.size by simp [World.setCell]] at hrow
  have HRow := hidden hrow
  clear hrow
  obtain ⟨z, hz⟩ : ∃ z, z = o.ha := ⟨_, rfl⟩
  rw [← hz] at HM c1 HZ HRow ⊢
  clear hz
  generalize BA (Lib.itoa z) = y at *
  generalize mayN z = mz at *
  go_enter Tryd.func37, Tryd.ntmps37
  go_wp2_with (first
    | (go_at_call 42; refine (HT.out _).mono ?_; rintro e w1 ⟨rfl, rfl⟩)
    | (go_at_call 43; refine (HN.out _).mono ?_; rintro e w1 ⟨rfl, rfl⟩)
    | (go_at_call 44; refine (HM.out _).mono ?_; rintro e w1 ⟨rfl, rfl⟩)
    | (go_at_call 33; go_must (refine (HZ.out _ 1 1 _ (T1.out.same (same_alloc _ _)) HRow.out (by decide)).mono ?_; rintro e w2 ⟨rfl, k2⟩; have K2 := hidden k2; clear k2)))
  go_returns
  exact ⟨rfl, opb_kept (opb_kept HB.out (same_alloc _ _) (fun h => h)) K2.out (fun h => h), (K1.out.trans (same_kg (same_alloc _ _))).trans (same_kg K2.out)⟩
set_option maxHeartbeats 400000 in
set_option maxRecDepth 100000 in
theorem tell79 (g : Nat) (o : OpR) (w : World) (T : Tb w) (h : OpB w g o) (hb : I64 o.of) (hg : 3 < g) : Calls Tryd.prog 37 #[.pointer (some ⟨g, 0, none⟩), .int .u8 79] w fun e w' => e = .returned (.tuple #[.string (BA (Lib.itoa o.of)), .bool (mayN o.of)]) ∧ OpB w' g { o with of := 0 } ∧ KG g w w' := by
  have HT := hidden (tf79 g)
  have HN := hidden (nf79 g)
  have HM := hidden (mayNumber_any o.of)
  have c1 : w.cell? ⟨g, 4, none⟩ = some (.int .i64 o.of) := blk_cell h
  have f1 : w.frozen? ⟨g, 4, none⟩ = false := blk_free h
  have HB := hidden (opb_set h 4 (.int .i64 0) { o with of := 0 } rfl)
  have K1 := hidden ((Kept.refl (fun k => k = g) w).setCell (p := ⟨g, 4, none⟩) rfl (.int .i64 0))
  have T1 := hidden (T.turn K1.out hg)
  have HZ := hidden (fun (a : Option Addr) (n c : Nat) (W : World) T r => numbers_any [o.of] a n c W T r (fun z hz => by rcases List.mem_singleton.1 hz with rfl; exact hb))
  simp only [List.map_cons, List.map_nil, jn_one] at HZ
  clear T h hb hg
  have hrow := one_int o.of (w.setCell ⟨g, 4, none⟩ (.int .i64 0))
  rw [show (w.setCell ⟨g, 4, none⟩ (.int .i64 0)).heap.size = w.heap.size by simp [World.setCell]] at hrow
  have HRow := hidden hrow
  clear hrow
  obtain ⟨z, hz⟩ : ∃ z, z = o.of := ⟨_, rfl⟩
  rw [← hz] at HM c1 HZ HRow ⊢
  clear hz
  generalize BA (Lib.itoa z) = y at *
  generalize mayN z = mz at *
  go_enter Tryd.func37, Tryd.ntmps37
  go_wp2_with (first
    | (go_at_call 42; refine (HT.out _).mono ?_; rintro e w1 ⟨rfl, rfl⟩)
    | (go_at_call 43; refine (HN.out _).mono ?_; rintro e w1 ⟨rfl, rfl⟩)
    | (go_at_call 44; refine (HM.out _).mono ?_; rintro e w1 ⟨rfl, rfl⟩)
    | (go_at_call 33; go_must (refine (HZ.out _ 1 1 _ (T1.out.same (same_alloc _ _)) HRow.out (by decide)).mono ?_; rintro e w2 ⟨rfl, k2⟩; have K2 := hidden k2; clear k2)))
  go_returns
  exact ⟨rfl, opb_kept (opb_kept HB.out (same_alloc _ _) (fun h => h)) K2.out (fun h => h), (K1.out.trans (same_kg (same_alloc _ _))).trans (same_kg K2.out)⟩
set_option maxHeartbeats 400000 in
set_option maxRecDepth 100000 in
theorem tell78 (g : Nat) (o : OpR) (w : World) (T : Tb w) (h : OpB w g o) (hb : I64 o.nn) (hg : 3 < g) : Calls Tryd.prog 37 #[.pointer (some ⟨g, 0, none⟩), .int .u8 78] w fun e w' => e = .returned (.tuple #[.string (BA (Lib.itoa o.nn)), .bool (mayN o.nn)]) ∧ OpB w' g { o with nn := 0 } ∧ KG g w w' := by
  have HT := hidden (tf78 g)
  have HN := hidden (nf78 g)
  have HM := hidden (mayNumber_any o.nn)
  have c1 : w.cell? ⟨g, 5, none⟩ = some (.int .i64 o.nn) := blk_cell h
  have f1 : w.frozen? ⟨g, 5, none⟩ = false := blk_free h
  have HB := hidden (opb_set h 5 (.int .i64 0) { o with nn := 0 } rfl)
  have K1 := hidden ((Kept.refl (fun k => k = g) w).setCell (p := ⟨g, 5, none⟩) rfl (.int .i64 0))
  have T1 := hidden (T.turn K1.out hg)
  have HZ := hidden (fun (a : Option Addr) (n c : Nat) (W : World) T r => numbers_any [o.nn] a n c W T r (fun z hz => by rcases List.mem_singleton.1 hz with rfl; exact hb))
  simp only [List.map_cons, List.map_nil, jn_one] at HZ
  clear T h hb hg
  have hrow := one_int o.nn (w.setCell ⟨g, 5, none⟩ (.int .i64 0))
  rw [show (w.setCell ⟨g, 5, none⟩ (.int .i64 0)).heap.size = w.heap.size by simp [World.setCell]] at hrow
  have HRow := hidden hrow
  clear hrow
  obtain ⟨z, hz⟩ : ∃ z, z = o.nn := ⟨_, rfl⟩
  rw [← hz] at HM c1 HZ HRow ⊢
  clear hz
  generalize BA (Lib.itoa z) = y at *
  generalize mayN z = mz at *
  go_enter Tryd.func37, Tryd.ntmps37
  go_wp2_with (first
    | (go_at_call 42; refine (HT.out _).mono ?_; rintro e w1 ⟨rfl, rfl⟩)
    | (go_at_call 43; refine (HN.out _).mono ?_; rintro e w1 ⟨rfl, rfl⟩)
    | (go_at_call 44; refine (HM.out _).mono ?_; rintro e w1 ⟨rfl, rfl⟩)
    | (go_at_call 33; go_must (refine (HZ.out _ 1 1 _ (T1.out.same (same_alloc _ _)) HRow.out (by decide)).mono ?_; rintro e w2 ⟨rfl, k2⟩; have K2 := hidden k2; clear k2)))
  go_returns
  exact ⟨rfl, opb_kept (opb_kept HB.out (same_alloc _ _) (fun h => h)) K2.out (fun h => h), (K1.out.trans (same_kg (same_alloc _ _))).trans (same_kg K2.out)⟩
set_option maxHeartbeats 400000 in
set_option maxRecDepth 100000 in
theorem tell70 (g : Nat) (o : OpR) (w : World) (T : Tb w) (h : OpB w g o) (hb : I64 o.fl) (hg : 3 < g) : Calls Tryd.prog 37 #[.pointer (some ⟨g, 0, none⟩), .int .u8 70] w fun e w' => e = .returned (.tuple #[.string (BA (Lib.itoa o.fl)), .bool (mayN o.fl)]) ∧ OpB w' g { o with fl := 0 } ∧ KG g w w' := by
  have HT := hidden (tf70 g)
  have HN := hidden (nf70 g)
  have HM := hidden (mayNumber_any o.fl)
  have c1 : w.cell? ⟨g, 6, none⟩ = some (.int .i64 o.fl) := blk_cell h
  have f1 : w.frozen? ⟨g, 6, none⟩ = false := blk_free h
  have HB := hidden (opb_set h 6 (.int .i64 0) { o with fl := 0 } rfl)
  have K1 := hidden ((Kept.refl (fun k => k = g) w).setCell (p := ⟨g, 6, none⟩) rfl (.int .i64 0))
  have T1 := hidden (T.turn K1.out hg)
  have HZ := hidden (fun (a : Option Addr) (n c : Nat) (W : World) T r => numbers_any [o.fl] a n c W T r (fun z hz => by rcases List.mem_singleton.1 hz with rfl; exact hb))
  simp only [List.map_cons, List.map_nil, jn_one] at HZ
  clear T h hb hg
  have hrow := one_int o.fl (w.setCell ⟨g, 6, none⟩ (.int .i64 0))
  rw [show (w.setCell ⟨g, 6, none⟩ (.int .i64 0)).heap.size = w.heap.size by simp [World.setCell]] at hrow
  have HRow := hidden hrow
  clear hrow
  obtain ⟨z, hz⟩ : ∃ z, z = o.fl := ⟨_, rfl⟩
  rw [← hz] at HM c1 HZ HRow ⊢
  clear hz
  generalize BA (Lib.itoa z) = y at *
  generalize mayN z = mz at *
  go_enter Tryd.func37, Tryd.ntmps37
  go_wp2_with (first
    | (go_at_call 42; refine (HT.out _).mono ?_; rintro e w1 ⟨rfl, rfl⟩)
    | (go_at_call 43; refine (HN.out _).mono ?_; rintro e w1 ⟨rfl, rfl⟩)
    | (go_at_call 44; refine (HM.out _).mono ?_; rintro e w1 ⟨rfl, rfl⟩)
    | (go_at_call 33; go_must (refine (HZ.out _ 1 1 _ (T1.out.same (same_alloc _ _)) HRow.out (by decide)).mono ?_; rintro e w2 ⟨rfl, k2⟩; have K2 := hidden k2; clear k2)))
  go_returns
  exact ⟨rfl, opb_kept (opb_kept HB.out (same_alloc _ _) (fun h => h)) K2.out (fun h => h), (K1.out.trans (same_kg (same_alloc _ _))).trans (same_kg K2.out)⟩
set_option maxHeartbeats 400000 in
set_option maxRecDepth 100000 in
theorem take80 (g : Nat) (o : OpR) (s : ByteArray) (w : World) (h : OpB w g o) (hs : s.size ≤ 17592186044416) : Calls Tryd.prog 38 #[.pointer (some ⟨g, 0, none⟩), .int .u8 80, .string s] w fun e w' => e = .returned (.bool (unq s.data.toList).isSome) ∧ OpB w' g { o with pa := (unq s.data.toList).getD [] } ∧ KG g w w' := by
  have HT := hidden (tf80 g)
  have HU := hidden (unquote_any s hs)
  cases hu : unq s.data.toList with
  | none =>
    rw [hu] at HU
    have HB := hidden h
    clear h hs
    go_enter Tryd.func38, Tryd.ntmps38
    go_wp2_with (first
      | (go_at_call 42; refine (HT.out _).mono ?_; rintro e w1 ⟨rfl, rfl⟩)
      | (go_at_call 10; refine (HU.out _).mono ?_; rintro e w2 ⟨rfl, k2⟩; have K2 := hidden k2; clear k2; have B2 := hidden (opb_kept HB.out K2.out (fun h => h)); have c2 : w2.cell? ⟨g, 1, none⟩ = some (.string (BA o.pa)) := (blk_cell B2.out); have f2 : w2.frozen? ⟨g, 1, none⟩ = false := blk_free B2.out; unfold uqV))
    go_returns
    exact ⟨rfl, opb_set B2.out 1 _ _ rfl, (same_kg K2.out).setCell (p := ⟨g, 1, none⟩) rfl _⟩
  | some t =>
    rw [hu] at HU
    have HB := hidden h
    clear h hs
    go_enter Tryd.func38, Tryd.ntmps38
    go_wp2_with (first
      | (go_at_call 42; refine (HT.out _).mono ?_; rintro e w1 ⟨rfl, rfl⟩)
      | (go_at_call 10; refine (HU.out _).mono ?_; rintro e w2 ⟨rfl, k2⟩; have K2 := hidden k2; clear k2; have B2 := hidden (opb_kept HB.out K2.out (fun h => h)); have c2 : w2.cell? ⟨g, 1, none⟩ = some (.string (BA o.pa)) := (blk_cell B2.out); have f2 : w2.frozen? ⟨g, 1, none⟩ = false := blk_free B2.out; unfold uqV))
    go_returns
    exact ⟨rfl, opb_set B2.out 1 _ _ rfl, (same_kg K2.out).setCell (p := ⟨g, 1, none⟩) rfl _⟩
set_option maxHeartbeats 400000 in
set_option maxRecDepth 100000 in
theorem take81 (g : Nat) (o : OpR) (s : ByteArray) (w : World) (h : OpB w g o) (hs : s.size ≤ 17592186044416) : Calls Tryd.prog 38 #[.pointer (some ⟨g, 0, none⟩), .int .u8 81, .string s] w fun e w' => e = .returned (.bool (unq s.data.toList).isSome) ∧ OpB w' g { o with ot := (unq s.data.toList).getD [] } ∧ KG g w w' := by
  have HT := hidden (tf81 g)
  have HU := hidden (unquote_any s hs)
  cases hu : unq s.data.toList with
  | none =>
    rw [hu] at HU
    have HB := hidden h
    clear h hs
    go_enter Tryd.func38, Tryd.ntmps38
    go_wp2_with (first
      | (go_at_call 42; refine (HT.out _).mono ?_; rintro e w1 ⟨rfl, rfl⟩)
      | (go_at_call 10; refine (HU.out _).mono ?_; rintro e w2 ⟨rfl, k2⟩; have K2 := hidden k2; clear k2; have B2 := hidden (opb_kept HB.out K2.out (fun h => h)); have c2 : w2.cell? ⟨g, 2, none⟩ = some (.string (BA o.ot)) := (blk_cell B2.out); have f2 : w2.frozen? ⟨g, 2, none⟩ = false := blk_free B2.out; unfold uqV))
    go_returns
    exact ⟨rfl, opb_set B2.out 2 _ _ rfl, (same_kg K2.out).setCell (p := ⟨g, 2, none⟩) rfl _⟩
  | some t =>
    rw [hu] at HU
    have HB := hidden h
    clear h hs
    go_enter Tryd.func38, Tryd.ntmps38
    go_wp2_with (first
      | (go_at_call 42; refine (HT.out _).mono ?_; rintro e w1 ⟨rfl, rfl⟩)
      | (go_at_call 10; refine (HU.out _).mono ?_; rintro e w2 ⟨rfl, k2⟩; have K2 := hidden k2; clear k2; have B2 := hidden (opb_kept HB.out K2.out (fun h => h)); have c2 : w2.cell? ⟨g, 2, none⟩ = some (.string (BA o.ot)) := (blk_cell B2.out); have f2 : w2.frozen? ⟨g, 2, none⟩ = false := blk_free B2.out; unfold uqV))
    go_returns
    exact ⟨rfl, opb_set B2.out 2 _ _ rfl, (same_kg K2.out).setCell (p := ⟨g, 2, none⟩) rfl _⟩
set_option maxHeartbeats 400000 in
set_option maxRecDepth 100000 in
theorem take68 (g : Nat) (o : OpR) (s : ByteArray) (w : World) (h : OpB w g o) (hs : s.size ≤ 17592186044416) : Calls Tryd.prog 38 #[.pointer (some ⟨g, 0, none⟩), .int .u8 68, .string s] w fun e w' => e = .returned (.bool (unq s.data.toList).isSome) ∧ OpB w' g { o with da := (unq s.data.toList).getD [] } ∧ KG g w w' := by
  have HT := hidden (tf68 g)
  have HU := hidden (unquote_any s hs)
  cases hu : unq s.data.toList with
  | none =>
    rw [hu] at HU
    have HB := hidden h
    clear h hs
    go_enter Tryd.func38, Tryd.ntmps38
    go_wp2_with (first
      | (go_at_call 42; refine (HT.out _).mono ?_; rintro e w1 ⟨rfl, rfl⟩)
      | (go_at_call 10; refine (HU.out _).mono ?_; rintro e w2 ⟨rfl, k2⟩; have K2 := hidden k2; clear k2; have B2 := hidden (opb_kept HB.out K2.out (fun h => h)); have c2 : w2.cell? ⟨g, 7, none⟩ = some (.string (BA o.da)) := (blk_cell B2.out); have f2 : w2.frozen? ⟨g, 7, none⟩ = false := blk_free B2.out; unfold uqV))
    go_returns
    exact ⟨rfl, opb_set B2.out 7 _ _ rfl, (same_kg K2.out).setCell (p := ⟨g, 7, none⟩) rfl _⟩
  | some t =>
    rw [hu] at HU
    have HB := hidden h
    clear h hs
    go_enter Tryd.func38, Tryd.ntmps38
    go_wp2_with (first
      | (go_at_call 42; refine (HT.out _).mono ?_; rintro e w1 ⟨rfl, rfl⟩)
      | (go_at_call 10; refine (HU.out _).mono ?_; rintro e w2 ⟨rfl, k2⟩; have K2 := hidden k2; clear k2; have B2 := hidden (opb_kept HB.out K2.out (fun h => h)); have c2 : w2.cell? ⟨g, 7, none⟩ = some (.string (BA o.da)) := (blk_cell B2.out); have f2 : w2.frozen? ⟨g, 7, none⟩ = false := blk_free B2.out; unfold uqV))
    go_returns
    exact ⟨rfl, opb_set B2.out 7 _ _ rfl, (same_kg K2.out).setCell (p := ⟨g, 7, none⟩) rfl _⟩
set_option maxHeartbeats 400000 in
set_option maxRecDepth 100000 in
theorem take72 (g : Nat) (o : OpR) (s : ByteArray) (w : World) (T : Tb w) (h : OpB w g o) (hs : s.size ≤ 17592186044416) : Calls Tryd.prog 38 #[.pointer (some ⟨g, 0, none⟩), .int .u8 72, .string s] w fun e w' => e = .returned (.bool (num s.data.toList).isSome) ∧ OpB w' g { o with ha := (num s.data.toList).getD 0 } ∧ KG g w w' := by
  have HT := hidden (tf72 g)
  have HN := hidden (nf72 g)
  have HU := hidden (numberOf_any s hs w T)
  cases hu : num s.data.toList with
  | none =>
    rw [hu] at HU
    have HB := hidden h
    clear h hs T
    go_enter Tryd.func38, Tryd.ntmps38
    go_wp2_with (first
      | (go_at_call 42; refine (HT.out _).mono ?_; rintro e w1 ⟨rfl, rfl⟩)
      | (go_at_call 43; refine (HN.out _).mono ?_; rintro e w1 ⟨rfl, rfl⟩)
      | (go_at_call 45; refine (HU.out).mono ?_; rintro e w2 ⟨rfl, k2⟩; have K2 := hidden k2; clear k2; have B2 := hidden (opb_kept HB.out K2.out (fun h => h)); have c2 : w2.cell? ⟨g, 3, none⟩ = some (.int .i64 o.ha) := (blk_cell B2.out); have f2 : w2.frozen? ⟨g, 3, none⟩ = false := blk_free B2.out; unfold nbV))
    go_returns
    exact ⟨rfl, opb_set B2.out 3 _ _ rfl, (same_kg K2.out).setCell (p := ⟨g, 3, none⟩) rfl _⟩
  | some t =>
    rw [hu] at HU
    have HB := hidden h
    clear h hs T
    go_enter Tryd.func38, Tryd.ntmps38
    go_wp2_with (first
      | (go_at_call 42; refine (HT.out _).mono ?_; rintro e w1 ⟨rfl, rfl⟩)
      | (go_at_call 43; refine (HN.out _).mono ?_; rintro e w1 ⟨rfl, rfl⟩)
      | (go_at_call 45; refine (HU.out).mono ?_; rintro e w2 ⟨rfl, k2⟩; have K2 := hidden k2; clear k2; have B2 := hidden (opb_kept HB.out K2.out (fun h => h)); have c2 : w2.cell? ⟨g, 3, none⟩ = some (.int .i64 o.ha) := (blk_cell B2.out); have f2 : w2.frozen? ⟨g, 3, none⟩ = false := blk_free B2.out; unfold nbV))
    go_returns
    exact ⟨rfl, opb_set B2.out 3 _ _ rfl, (same_kg K2.out).setCell (p := ⟨g, 3, none⟩) rfl _⟩
set_option maxHeartbeats 400000 in
set_option maxRecDepth 100000 in
theorem take79 (g : Nat) (o : OpR) (s : ByteArray) (w : World) (T : Tb w) (h : OpB w g o) (hs : s.size ≤ 17592186044416) : Calls Tryd.prog 38 #[.pointer (some ⟨g, 0, none⟩), .int .u8 79, .string s] w fun e w' => e = .returned (.bool (num s.data.toList).isSome) ∧ OpB w' g { o with of := (num s.data.toList).getD 0 } ∧ KG g w w' := by
  have HT := hidden (tf79 g)
  have HN := hidden (nf79 g)
  have HU := hidden (numberOf_any s hs w T)
  cases hu : num s.data.toList with
  | none =>
    rw [hu] at HU
    have HB := hidden h
    clear h hs T
    go_enter Tryd.func38, Tryd.ntmps38
    go_wp2_with (first
      | (go_at_call 42; refine (HT.out _).mono ?_; rintro e w1 ⟨rfl, rfl⟩)
      | (go_at_call 43; refine (HN.out _).mono ?_; rintro e w1 ⟨rfl, rfl⟩)
      | (go_at_call 45; refine (HU.out).mono ?_; rintro e w2 ⟨rfl, k2⟩; have K2 := hidden k2; clear k2; have B2 := hidden (opb_kept HB.out K2.out (fun h => h)); have c2 : w2.cell? ⟨g, 4, none⟩ = some (.int .i64 o.of) := (blk_cell B2.out); have f2 : w2.frozen? ⟨g, 4, none⟩ = false := blk_free B2.out; unfold nbV))
    go_returns
    exact ⟨rfl, opb_set B2.out 4 _ _ rfl, (same_kg K2.out).setCell (p := ⟨g, 4, none⟩) rfl _⟩
  | some t =>
    rw [hu] at HU
    have HB := hidden h
    clear h hs T
    go_enter Tryd.func38, Tryd.ntmps38
    go_wp2_with (first
      | (go_at_call 42; refine (HT.out _).mono ?_; rintro e w1 ⟨rfl, rfl⟩)
      | (go_at_call 43; refine (HN.out _).mono ?_; rintro e w1 ⟨rfl, rfl⟩)
      | (go_at_call 45; refine (HU.out).mono ?_; rintro e w2 ⟨rfl, k2⟩; have K2 := hidden k2; clear k2; have B2 := hidden (opb_kept HB.out K2.out (fun h => h)); have c2 : w2.cell? ⟨g, 4, none⟩ = some (.int .i64 o.of) := (blk_cell B2.out); have f2 : w2.frozen? ⟨g, 4, none⟩ = false := blk_free B2.out; unfold nbV))
    go_returns
    exact ⟨rfl, opb_set B2.out 4 _ _ rfl, (same_kg K2.out).setCell (p := ⟨g, 4, none⟩) rfl _⟩
set_option maxHeartbeats 400000 in
set_option maxRecDepth 100000 in
theorem take78 (g : Nat) (o : OpR) (s : ByteArray) (w : World) (T : Tb w) (h : OpB w g o) (hs : s.size ≤ 17592186044416) : Calls Tryd.prog 38 #[.pointer (some ⟨g, 0, none⟩), .int .u8 78, .string s] w fun e w' => e = .returned (.bool (num s.data.toList).isSome) ∧ OpB w' g { o with nn := (num s.data.toList).getD 0 } ∧ KG g w w' := by
  have HT := hidden (tf78 g)
  have HN := hidden (nf78 g)
  have HU := hidden (numberOf_any s hs w T)
  cases hu : num s.data.toList with
  | none =>
    rw [hu] at HU
    have HB := hidden h
    clear h hs T
    go_enter Tryd.func38, Tryd.ntmps38
    go_wp2_with (first
      | (go_at_call 42; refine (HT.out _).mono ?_; rintro e w1 ⟨rfl, rfl⟩)
      | (go_at_call 43; refine (HN.out _).mono ?_; rintro e w1 ⟨rfl, rfl⟩)
      | (go_at_call 45; refine (HU.out).mono ?_; rintro e w2 ⟨rfl, k2⟩; have K2 := hidden k2; clear k2; have B2 := hidden (opb_kept HB.out K2.out (fun h => h)); have c2 : w2.cell? ⟨g, 5, none⟩ = some (.int .i64 o.nn) := (blk_cell B2.out); have f2 : w2.frozen? ⟨g, 5, none⟩ = false := blk_free B2.out; unfold nbV))
    go_returns
    exact ⟨rfl, opb_set B2.out 5 _ _ rfl, (same_kg K2.out).setCell (p := ⟨g, 5, none⟩) rfl _⟩
  | some t =>
    rw [hu] at HU
    have HB := hidden h
    clear h hs T
    go_enter Tryd.func38, Tryd.ntmps38
    go_wp2_with (first
      | (go_at_call 42; refine (HT.out _).mono ?_; rintro e w1 ⟨rfl, rfl⟩)
      | (go_at_call 43; refine (HN.out _).mono ?_; rintro e w1 ⟨rfl, rfl⟩)
      | (go_at_call 45; refine (HU.out).mono ?_; rintro e w2 ⟨rfl, k2⟩; have K2 := hidden k2; clear k2; have B2 := hidden (opb_kept HB.out K2.out (fun h => h)); have c2 : w2.cell? ⟨g, 5, none⟩ = some (.int .i64 o.nn) := (blk_cell B2.out); have f2 : w2.frozen? ⟨g, 5, none⟩ = false := blk_free B2.out; unfold nbV))
    go_returns
    exact ⟨rfl, opb_set B2.out 5 _ _ rfl, (same_kg K2.out).setCell (p := ⟨g, 5, none⟩) rfl _⟩
set_option maxHeartbeats 400000 in
set_option maxRecDepth 100000 in
theorem take70 (g : Nat) (o : OpR) (s : ByteArray) (w : World) (T : Tb w) (h : OpB w g o) (hs : s.size ≤ 17592186044416) : Calls Tryd.prog 38 #[.pointer (some ⟨g, 0, none⟩), .int .u8 70, .string s] w fun e w' => e = .returned (.bool (num s.data.toList).isSome) ∧ OpB w' g { o with fl := (num s.data.toList).getD 0 } ∧ KG g w w' := by
  have HT := hidden (tf70 g)
  have HN := hidden (nf70 g)
  have HU := hidden (numberOf_any s hs w T)
  cases hu : num s.data.toList with
  | none =>
    rw [hu] at HU
    have HB := hidden h
    clear h hs T
    go_enter Tryd.func38, Tryd.ntmps38
    go_wp2_with (first
      | (go_at_call 42; refine (HT.out _).mono ?_; rintro e w1 ⟨rfl, rfl⟩)
      | (go_at_call 43; refine (HN.out _).mono ?_; rintro e w1 ⟨rfl, rfl⟩)
      | (go_at_call 45; refine (HU.out).mono ?_; rintro e w2 ⟨rfl, k2⟩; have K2 := hidden k2; clear k2; have B2 := hidden (opb_kept HB.out K2.out (fun h => h)); have c2 : w2.cell? ⟨g, 6, none⟩ = some (.int .i64 o.fl) := (blk_cell B2.out); have f2 : w2.frozen? ⟨g, 6, none⟩ = false := blk_free B2.out; unfold nbV))
    go_returns
    exact ⟨rfl, opb_set B2.out 6 _ _ rfl, (same_kg K2.out).setCell (p := ⟨g, 6, none⟩) rfl _⟩
  | some t =>
    rw [hu] at HU
    have HB := hidden h
    clear h hs T
    go_enter Tryd.func38, Tryd.ntmps38
    go_wp2_with (first
      | (go_at_call 42; refine (HT.out _).mono ?_; rintro e w1 ⟨rfl, rfl⟩)
      | (go_at_call 43; refine (HN.out _).mono ?_; rintro e w1 ⟨rfl, rfl⟩)
      | (go_at_call 45; refine (HU.out).mono ?_; rintro e w2 ⟨rfl, k2⟩; have K2 := hidden k2; clear k2; have B2 := hidden (opb_kept HB.out K2.out (fun h => h)); have c2 : w2.cell? ⟨g, 6, none⟩ = some (.int .i64 o.fl) := (blk_cell B2.out); have f2 : w2.frozen? ⟨g, 6, none⟩ = false := blk_free B2.out; unfold nbV))
    go_returns
    exact ⟨rfl, opb_set B2.out 6 _ _ rfl, (same_kg K2.out).setCell (p := ⟨g, 6, none⟩) rfl _⟩
end Go.Proofs.YtndfgpelioipcaaDoor
