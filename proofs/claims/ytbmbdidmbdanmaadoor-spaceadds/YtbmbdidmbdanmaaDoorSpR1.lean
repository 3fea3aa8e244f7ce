/- The document's New; the law's begin. -/
import Derived.Test.YtbmbdidmbdanmaaDoorSpO
import Derived.Laws.OwnMore
import Derived.Lib.BufferWrite
namespace Go.Proofs.YtbmbdidmbdanmaaDoor
open Go.RowKit Go.Shelf
set_option linter.unusedVariables false
set_option linter.unusedSimpArgs false
/-- What lies behind the row of a slice: its capacity, and the cells beyond its length. -/
structure Spare where
  cap : Nat
  tl : Array Value
/-- A row that was made whole. -/
abbrev zp0 (count : Nat) : Spare := ⟨count, #[]⟩
variable {zp : Spare}
theorem info_parts {i : Option TypeInfo} {z : Value} {s b : Nat} (h : i.map (fun i => (i.zero, i.size, i.bytes)) = some (some z, s, b)) : ∃ i0, i = some i0 ∧ i0.zero = some z ∧ i0.size = s ∧ i0.bytes = b := by
  cases i with
  | none => simp at h
  | some i0 => simp at h; exact ⟨i0, rfl, h.1, h.2.1, h.2.2⟩
theorem infoInt : (Tryd.prog.info? 3).map (fun i => (i.zero, i.size, i.bytes)) = some (some (.int .i64 0), 1, 8) := by kernel_rfl
theorem make_ints (n : Nat) (hn : n ≤ 4398046511104) (W : World) :
    (Instr.makeSlice 39 (.int .i64 (n : Int)) (.int .i64 (n : Int))).run Tryd.prog W = .ok (.slice (some ⟨W.heap.size, 0, none⟩) n n) (W.alloc (.cells (List.replicate n (Value.int .i64 0)).toArray 3)) := by
  obtain ⟨i0, hi, hz0, hz1, hz2⟩ := info_parts infoInt
  have h := run_make (P := Tryd.prog) W 39 3 i0 (.int .i64 0) Tryd.underlying39 hi hz0 .i64 .i64 (n : Int) (n : Int) (by omega) (by omega) (by rw [hz2]; omega) (by omega)
  have hM : madeCells (Value.int .i64 0).cells (n * i0.size) = (List.replicate n (Value.int .i64 0)).toArray := by
    rw [hz1, Nat.mul_one]
    apply Array.ext'
    rw [List.toList_toArray]
    exact toList_madeCells_one _ _
  rw [Int.toNat_natCast, hM] at h
  exact h
/-- What the document says of a sector. -/
def wh (u v : Nat → Bool) (i : Nat) : Int := if v i then 2 else if u i then 1 else 0
/-- The document's Space at q, its row at r. -/
structure RfAt (zp : Spare) (q r first count : Nat) (u v : Nat → Bool) (res : Nat) (w : World) : Prop where
  box : w.heap[q]? = some (.cells #[.int .i64 first, .slice (some ⟨r, 0, none⟩) count zp.cap, .int .i64 res] 66 (0, 0))
  row : w.heap[r]? = some (.cells (((List.range count).map fun i => Value.int .i64 (wh u v i)).toArray ++ zp.tl) 3 (0, 0))
theorem RfAt.kept {q r first count : Nat} {u v : Nat → Bool} {res : Nat} {w w' : World} {S : Nat → Prop} (h : RfAt zp q r first count u v res w) (k : Kept S w w') (hq : ¬ S q) (hr : ¬ S r) : RfAt zp q r first count u v res w' :=
  ⟨blk_kept k hq h.box, blk_kept k hr h.row⟩
theorem wh_zero (n : Nat) : ((List.range n).map fun i => Value.int .i64 (wh (fun _ => false) (fun _ => false) i)).toArray = (List.replicate n (Value.int .i64 0)).toArray := by
  congr 1
  apply List.ext_getElem
  · simp
  · intro i h1 h2
    simp [wh]
set_option maxHeartbeats 2000000 in
set_option maxRecDepth 100000 in
theorem rf_newNo (first count : Int) (w : World) (hf : first ≤ 9223372036854775807) (hc : -9223372036854775808 ≤ count) (h : ¬ (0 ≤ first ∧ 1 ≤ count ∧ first + count ≤ 4096)) :
    Calls Tryd.prog 31 #[.int .i64 first, .int .i64 count] w fun r w' => r = .returned (.tuple #[.pointer none, .int .i64 1]) ∧ w = w' := by
  by_cases h1 : first < 0
  · go_enter Tryd.func31, Tryd.ntmps31
    go_wp2
    go_returns
    exact ⟨rfl, rfl⟩
  by_cases h2 : count < 1
  · go_enter Tryd.func31, Tryd.ntmps31
    go_wp2
    go_returns
    exact ⟨rfl, rfl⟩
  by_cases h4 : 4096 < count
  · go_enter Tryd.func31, Tryd.ntmps31
    go_wp2
    go_returns
    exact ⟨rfl, rfl⟩
  · have h3 : 4096 - count < first := by omega
    have m1 : IntKind.i64.wrap (4096 - count) = 4096 - count := by rw [IntKind.wrap_i64]; omega
    go_enter Tryd.func31, Tryd.ntmps31
    go_wp2
    go_returns
    exact ⟨rfl, rfl⟩
set_option maxHeartbeats 2000000 in
set_option maxRecDepth 100000 in
theorem rf_new (first count : Nat) (w : World) (h1 : 1 ≤ count) (h2 : first + count ≤ 4096) :
    Calls Tryd.prog 31 #[.int .i64 first, .int .i64 count] w fun r w' => ∃ q s, r = .returned (.tuple #[.pointer (some ⟨q, 0, none⟩), .int .i64 0]) ∧ w.heap.size ≤ q ∧ w.heap.size ≤ s ∧ Same w w' ∧ RfAt (zp0 count) q s first count (fun _ => false) (fun _ => false) 0 w' := by
  have hmk := make_ints count (by omega)
  have m1 : IntKind.i64.wrap (4096 - (count : Int)) = 4096 - count := by rw [IntKind.wrap_i64]; omega
  go_enter Tryd.func31, Tryd.ntmps31
  go_wp2
  go_returns
  refine ⟨w.heap.size + 1, w.heap.size, rfl, by omega, by omega, ((Kept.refl _ w).alloc _).alloc _, ?_, ?_⟩
  · have := blk_new (w.alloc (.cells (List.replicate count (Value.int .i64 0)).toArray 3)) (.cells #[.int .i64 first, .slice (some ⟨w.heap.size, 0, none⟩) count count, .int .i64 0] 66)
    rw [World.size_alloc] at this
    exact this
  · rw [wh_zero]
    exact blk_alloc (blk_new w _) _
/-- What begin tells of a space that may be. -/
structure BegOk (w : World) (g q s first count : Nat) (w' : World) : Prop where
  sp : SpAt g first count (fun _ => false) (fun _ => false) 0 w'
  rf : RfAt (zp0 count) q s first count (fun _ => false) (fun _ => false) 0 w'
  same : Same w w'
  g0 : w.heap.size ≤ g
  q0 : w.heap.size ≤ q
  s0 : w.heap.size ≤ s
  gq : g < q
  gs : g < s
  qs : q ≠ s
set_option maxHeartbeats 2000000 in
set_option maxRecDepth 100000 in
theorem begin_no (first count : Int) (sv : Value) (hsv : ∃ a n c, sv = .slice a n c) (w : World) (hf : I64 first) (hc : I64 count) (hT : Tab w) (h : ¬ (0 ≤ first ∧ 1 ≤ count ∧ first + count ≤ 4096)) :
    Calls Tryd.prog 10 #[.agg #[.int .i64 first, .int .i64 count, sv]] w fun r w' => r = .returned (.tuple #[.pointer none, .pointer none, .bool true]) ∧ Same w w' := by
  have A := hidden (fun W (k : Same w W) => aw_any W (hT.same k))
  have N1 := hidden (fun W => sp_newNo first count W hf.2 h)
  have N2 := hidden (fun W => rf_newNo first count W hf.2 hc.1 h)
  obtain ⟨a, n, c, rfl⟩ := hsv
  clear h hT hf hc
  go_enter Tryd.func10, Tryd.ntmps10
  go_wp2_with (first
    | (go_at_call 30; refine (N1.out _).mono ?_; rintro e w1 ⟨rfl, rfl⟩)
    | (go_at_call 31; refine (N2.out _).mono ?_; rintro e w1 ⟨rfl, rfl⟩)
    | (go_at_call 27; refine (A.out _ (same_alloc _ _)).mono ?_; rintro e w2 ⟨rfl, k2⟩; have K2 := hidden k2; clear k2))
  go_returns
  exact ⟨rfl, (same_alloc _ _).trans K2.out⟩
set_option maxHeartbeats 2000000 in
set_option maxRecDepth 100000 in
theorem begin_ok (first count : Nat) (sv : Value) (hsv : ∃ a n c, sv = .slice a n c) (w : World) (hT : Tab w) (h1 : 1 ≤ count) (h2 : first + count ≤ 4096) :
    Calls Tryd.prog 10 #[.agg #[.int .i64 first, .int .i64 count, sv]] w fun r w' => ∃ g q s, r = .returned (.tuple #[.pointer (some ⟨g, 0, none⟩), .pointer (some ⟨q, 0, none⟩), .bool true]) ∧ BegOk w g q s first count w' := by
  have A := hidden (fun W (k : Same w W) => aw_any W (hT.same k))
  have N1 := hidden (fun W => sp_new first count W h1 h2)
  have N2 := hidden (fun W => rf_new first count W h1 h2)
  obtain ⟨a, n, c, rfl⟩ := hsv
  clear hT
  go_enter Tryd.func10, Tryd.ntmps10
  go_wp2_with (first
    | (go_at_call 30; refine (N1.out _).mono ?_; rintro e w1 ⟨g, rfl, hg, k1, s1⟩; have K1 := hidden ((same_alloc _ _).trans k1); have b1 := blk_kept k1 (fun h => h) (blk_new w (.cells #[.int .i64 first, .int .i64 count, .slice a n c] 24)); have c0 : w1.cell? ⟨w.heap.size, 0, none⟩ = some (.int .i64 first) := blk_cell b1; have c1 : w1.cell? ⟨w.heap.size, 1, none⟩ = some (.int .i64 count) := blk_cell b1; have S1 := hidden s1; have HG := hidden hg; clear k1 s1 b1 hg)
    | (go_at_call 31; refine (N2.out _).mono ?_; rintro e w2 ⟨q, s, rfl, hq, hs, k2, s2⟩; have K2 := hidden k2; have S2 := hidden s2; have HQ := hidden (And.intro hq hs); clear k2 s2 hq hs c0 c1)
    | (go_at_call 27; refine (A.out _ (K1.out.trans K2.out)).mono ?_; rintro e w3 ⟨rfl, k3⟩; have K3 := hidden k3; clear k3))
  go_returns
  have hg := HG.out
  rw [World.size_alloc] at hg
  have hg1 : g < w1.heap.size := by obtain ⟨cs, hb, _⟩ := S1.out.box; exact blk_lt hb
  have hq := HQ.out
  have k1 := K1.out.size
  have hqs : q ≠ s := fun e => by
    have h1 := S2.out.box
    have h2 := S2.out.row
    rw [e, h2] at h1
    have := Option.some.inj h1
    injection this with _ ht
    revert ht
    decide
  exact ⟨g, q, s, rfl, S1.out.kept (K2.out.trans K3.out) (fun h => h), S2.out.kept K3.out (fun h => h) (fun h => h), (K1.out.trans K2.out).trans K3.out, by omega, by omega, by omega, by omega, by omega, hqs⟩
end Go.Proofs.YtbmbdidmbdanmaaDoor
