/- The document's disk: power, New, Off, gone, Stop. -/
import Derived.Test.YteoajgphahobiaaZ6
namespace Go.Proofs.Yteoajgphahobiaa
open Go.RowKit
set_option linter.unusedVariables false
theorem jsize_iff (n : Int) : JSize n ↔ n = 512 ∨ n = 1024 ∨ n = 2048 ∨ n = 4096 := by
  unfold JSize Pow
  constructor
  · rintro ⟨h1, h2, h3⟩; omega
  · intro h; omega
set_option maxHeartbeats 1000000 in
set_option maxRecDepth 100000 in
theorem r_power (n : Int) (w : World) : Calls Try.prog 38 #[.int .i64 n, .int .i64 512, .int .i64 4096] w fun e w' => e = .returned (.bool (decide (JSize n))) ∧ w = w' := by
  obtain ⟨R, hR⟩ : ∃ R, decide (JSize n) = R := ⟨_, rfl⟩
  have hi := jsize_iff n
  have hR2 : Hid ((R = true) ↔ (n = 512 ∨ n = 1024 ∨ n = 2048 ∨ n = 4096)) := by rw [Hid, ← hR, decide_eq_true_eq]; exact hi
  rw [hR]
  clear hR hi
  go_enter Try.func38, Try.ntmps38
  go_wp2
  go_loopw [7] (fun p wr => ∃ q : Int, p = .int .i64 q ∧ (q = 512 ∨ q = 1024 ∧ n ≠ 512 ∨ q = 2048 ∧ n ≠ 512 ∧ n ≠ 1024 ∨ q = 4096 ∧ n ≠ 512 ∧ n ≠ 1024 ∧ n ≠ 2048 ∨ q = 8192 ∧ n ≠ 512 ∧ n ≠ 1024 ∧ n ≠ 2048 ∧ n ≠ 4096) ∧ w = wr) (fun p wr => 8192 - (intOf p).toNat)
  case atStart => exact ⟨512, rfl, Or.inl rfl, rfl⟩
  case round =>
    obtain ⟨q, rfl, hq, rfl⟩ := hrel
    by_cases h8 : q ≤ 4096
    · have hw : IntKind.i64.wrap (2 * q) = 2 * q := by rw [IntKind.wrap_i64]; omega
      by_cases hn : n = q
      · have hr : R = true := hR2.out.2 (by omega)
        subst hr
        subst hn
        go_wp2
        go_returns
        exact ⟨rfl, rfl⟩
      · have hnb : (n == q) = false := by simpa using hn
        have HQ := hidden hq
        clear hq
        go_wp2
        go_roundw
        case rel => exact ⟨2 * q, by first | rfl | go_num, by have := HQ.out; omega, by first | rfl | trivial⟩
        case measure => have := HQ.out; simp [intOf]; omega
    · have hr : R = false := by
        cases R
        · rfl
        · have := hR2.out.1 rfl; omega
      subst hr
      go_wp2
      go_returns
      exact ⟨rfl, rfl⟩
/-- The cells of the document's Disk. -/
def RC (n c pb L pc : Nat) (qv : Value) (r wn f : Nat) (lim : Bool) (more : Int) : Array Value :=
  #[.int .i64 n, .int .i64 c, .slice (some ⟨pb, 0, none⟩) L pc, qv, .int .i64 r, .int .i64 wn, .int .i64 f, .bool lim, .int .i64 more]
set_option maxHeartbeats 1000000 in
set_option maxRecDepth 100000 in
theorem r_newNo (n c : Int) (w : World) (h : ¬ (JSize n ∧ 1 ≤ c ∧ c ≤ 4096)) :
    Calls Try.prog 13 #[.int .i64 n, .int .i64 c] w fun e w' => e = .returned (.tuple #[.pointer none, .int .i64 1]) ∧ w = w' := by
  have hs := hidden (fun w => r_power n w)
  by_cases h1 : JSize n
  · have h2 : ¬ (1 ≤ c ∧ c ≤ 4096) := fun h2 => h ⟨h1, h2⟩
    rw [decide_eq_true h1] at hs
    clear h h1
    by_cases h3 : c < 1
    · go_enter Try.func13, Try.ntmps13
      go_wp2_with (go_at_call 38; refine (hs.out _).mono ?_; rintro e w1 ⟨rfl, rfl⟩)
      go_returns
      exact ⟨rfl, rfl⟩
    · have h4 : 4096 < c := by omega
      go_enter Try.func13, Try.ntmps13
      go_wp2_with (go_at_call 38; refine (hs.out _).mono ?_; rintro e w1 ⟨rfl, rfl⟩)
      go_returns
      exact ⟨rfl, rfl⟩
  · rw [decide_eq_false h1] at hs
    clear h h1
    go_enter Try.func13, Try.ntmps13
    go_wp2_with (go_at_call 38; refine (hs.out _).mono ?_; rintro e w1 ⟨rfl, rfl⟩)
    go_returns
    exact ⟨rfl, rfl⟩
set_option maxHeartbeats 1000000 in
set_option maxRecDepth 100000 in
theorem r_new (n c : Nat) (w : World) (hn : JSize n) (hc1 : 1 ≤ c) (hc2 : c ≤ 4096) :
    Calls Try.prog 13 #[.int .i64 n, .int .i64 c] w fun e w' => ∃ g, e = .returned (.tuple #[.pointer (some ⟨g, 0, none⟩), .int .i64 0]) ∧ w.heap.size ≤ g ∧
      w'.heap[g]? = some (.cells (RC n c w.heap.size (n * c) (n * c) (.slice none 0 0) 0 0 0 false 0) 35 (0, 0)) ∧ w'.heap[w.heap.size]? = some (.cells (List.replicate (n * c) (U8 0)).toArray 5 (0, 0)) ∧ Same w w' := by
  have hs := hidden (fun w => r_power n w)
  rw [decide_eq_true hn] at hs
  have hn4 : n ≤ 4096 := by have := hn.2.1; omega
  have hle : n * c ≤ 4096 * 4096 := Nat.mul_le_mul hn4 hc2
  have hp0 : (n : Int) * (c : Int) = ((n * c : Nat) : Int) := (Int.natCast_mul _ _).symm
  have hw : IntKind.i64.wrap ((n : Int) * (c : Int)) = ((n * c : Nat) : Int) := by rw [hp0, IntKind.wrap_i64]; omega
  have hmk := make_bytes (n * c) (by omega)
  generalize hZ : (List.replicate (n * c) (U8 0)).toArray = Z at *
  generalize hL : n * c = L at *
  clear hn hp0
  have q1 : ¬ (c : Int) < 1 := by omega
  have q2 : ¬ (4096 : Int) < (c : Int) := by omega
  go_enter Try.func13, Try.ntmps13
  go_wp2_with (go_at_call 38; refine (hs.out _).mono ?_; rintro e w1 ⟨rfl, rfl⟩)
  go_returns
  refine ⟨w.heap.size + 1, by first | rfl | simp, by omega, ?_, ?_, ?_⟩
  · have := heap_alloc_new (w.alloc (.cells Z 5)) (.cells (RC n c w.heap.size L L (.slice none 0 0) 0 0 0 false 0) 35)
    simp only [World.size_alloc] at this
    exact this
  · exact blk_alloc (heap_alloc_new w _) _
  · exact Kept.trans (same_alloc _ _) (same_alloc _ _)
set_option maxHeartbeats 1000000 in
set_option maxRecDepth 100000 in
theorem r_off (g : Nat) (lim : Bool) (more : Int) (w : World) (h7 : w.cell? ⟨g, 7, none⟩ = some (.bool lim)) (h8 : w.cell? ⟨g, 8, none⟩ = some (.int .i64 more)) : Calls Try.prog 51 #[.pointer (some ⟨g, 0, none⟩)] w fun e w' => e = .returned (.bool (lim && (more == 0))) ∧ w = w' := by
  cases lim
  · go_enter Try.func51, Try.ntmps51
    go_wp2
    go_returns
    exact ⟨rfl, rfl⟩
  · go_enter Try.func51, Try.ntmps51
    go_wp2
    go_returns
    exact ⟨by first | rfl | simp, rfl⟩
set_option maxHeartbeats 1000000 in
set_option maxRecDepth 100000 in
theorem r_goneYes (g : Nat) (w : World) (h7 : w.cell? ⟨g, 7, none⟩ = some (.bool true)) (h8 : w.cell? ⟨g, 8, none⟩ = some (.int .i64 0)) : Calls Try.prog 56 #[.pointer (some ⟨g, 0, none⟩)] w fun e w' => e = .returned (.bool true) ∧ w = w' := by
  have G := hidden (r_off g true 0 w h7 h8)
  go_enter Try.func56, Try.ntmps56
  go_wp2_with (go_at_call 51; refine (G.out).mono ?_; rintro e w1 ⟨rfl, rfl⟩)
  go_returns
  exact ⟨rfl, rfl⟩
set_option maxHeartbeats 1000000 in
set_option maxRecDepth 100000 in
theorem r_goneNo (n c pb L pc g : Nat) (qv : Value) (r wn f : Nat) (lim : Bool) (more : Int) (hng : ¬ (lim = true ∧ more = 0)) (h0 : lim = true → 0 ≤ more) (h1 : more ≤ 9223372036854775807) (w : World) (hb : w.heap[g]? = some (.cells (RC n c pb L pc qv r wn f lim more) 35 (0, 0))) :
    Calls Try.prog 56 #[.pointer (some ⟨g, 0, none⟩)] w fun e w' => e = .returned (.bool false) ∧ w'.heap[g]? = some (.cells (RC n c pb L pc qv r wn f lim (spL lim more)) 35 (0, 0)) ∧ Kept (fun k => k = g) w w' := by
  have h7 : w.cell? ⟨g, 7, none⟩ = some (.bool lim) := blk_cell hb
  have h8 : w.cell? ⟨g, 8, none⟩ = some (.int .i64 more) := blk_cell hb
  have f8 : w.frozen? ⟨g, 8, none⟩ = false := blk_free hb
  have hgo := r_off g lim more w h7 h8
  have he : (lim && (more == 0)) = false := by
    cases lim
    · rfl
    · simpa using hng
  rw [he] at hgo
  have G := hidden hgo
  have HB := hidden hb
  clear hgo he hng hb
  cases lim
  · go_enter Try.func56, Try.ntmps56
    go_wp2_with (go_at_call 51; refine (G.out).mono ?_; rintro e w1 ⟨rfl, rfl⟩)
    go_returns
    exact ⟨rfl, HB.out, Kept.refl _ _⟩
  · have hw : IntKind.i64.wrap (more - 1) = more - 1 := by have := h0 rfl; rw [IntKind.wrap_i64]; omega
    clear h0
    go_enter Try.func56, Try.ntmps56
    go_wp2_with (go_at_call 51; refine (G.out).mono ?_; rintro e w1 ⟨rfl, rfl⟩)
    go_returns
    exact ⟨rfl, blk_set (j := 8) HB.out _, (Kept.refl (fun k => k = g) w).setCell (p := ⟨g, 8, none⟩) rfl _⟩
set_option maxHeartbeats 1000000 in
set_option maxRecDepth 100000 in
theorem r_stop (n c pb L pc g : Nat) (qv : Value) (r wn f : Nat) (lim : Bool) (more z : Int) (w : World) (hb : w.heap[g]? = some (.cells (RC n c pb L pc qv r wn f lim more) 35 (0, 0))) :
    Calls Try.prog 50 #[.pointer (some ⟨g, 0, none⟩), .int .i64 z] w fun e w' => e = .returned (.tuple #[]) ∧ w'.heap[g]? = some (.cells (RC n c pb L pc qv r wn f (decide (0 ≤ z)) z) 35 (0, 0)) ∧ Kept (fun k => k = g) w w' := by
  have h7 : w.cell? ⟨g, 7, none⟩ = some (.bool lim) := blk_cell hb
  have h8 : w.cell? ⟨g, 8, none⟩ = some (.int .i64 more) := blk_cell hb
  have f7 : w.frozen? ⟨g, 7, none⟩ = false := blk_free hb
  have f8 : w.frozen? ⟨g, 8, none⟩ = false := blk_free hb
  have HB := hidden hb
  clear hb
  go_enter Try.func50, Try.ntmps50
  go_wp2
  go_returns
  exact ⟨rfl, blk_set (j := 8) (blk_set (j := 7) HB.out _) _, ((Kept.refl (fun k => k = g) w).setCell (p := ⟨g, 7, none⟩) rfl _).setCell (p := ⟨g, 8, none⟩) rfl _⟩
end Go.Proofs.Yteoajgphahobiaa
