/- disk: Write, Read, Pending, Flush of a Disk whose power lasts. -/
import Derived.Test.YteoajgphahobiaaD3
namespace Go.Proofs.Yteoajgphahobiaa
open Go.RowKit
set_option linter.unusedVariables false

/-- The cells of a Disk whose power lasts. -/
def DC (n pb c pc rb rc : Nat) (qv : Value) (r wn f : Nat) : Array Value :=
  #[.int .i64 n, .slice (some ⟨pb, 0, none⟩) c pc, .slice (some ⟨rb, 0, none⟩) c rc, qv, .bool false, .int .i64 0, .int .i64 r, .int .i64 wn, .int .i64 f]
theorem infoSec : (Try.prog.info? 58).map (fun i => (i.zero, i.size, i.bytes)) = some (some (.agg #[.int .i64 0, .slice none 0 0]), 2, 32) := by kernel_rfl
/-- One element of a row of one's own is set. -/
theorem own_set {w : World} {B g n cap i : Nat} {e : TypeId} {xs : List Value} (h : w.ownsRow B e 1 (.slice (some ⟨g, 0, none⟩) n cap) n xs) (hi : i < n) (u : Value) :
    (w.setCell ⟨g, i, none⟩ u).ownsRow B e 1 (.slice (some ⟨g, 0, none⟩) n cap) n (xs.set i u) := by
  obtain ⟨h1, h2⟩ := h
  refine ⟨by simpa using h1, ?_⟩
  rcases h2 with ⟨h2, _⟩ | ⟨g', cap', cur, hv, hb, hg, hn, hc, hs, ht⟩
  · cases h2
  · obtain ⟨rfl, rfl⟩ : g = g' ∧ cap = cap' := by simpa using hv
    refine Or.inr ⟨g, cap, cur.setIfInBounds i u, rfl, hb, blk_set hg u, hn, hc, by simpa using hs, ?_⟩
    rw [Array.toList_setIfInBounds, List.take_set, ht]
theorem own_cell {w : World} {B g n cap i : Nat} {e : TypeId} {xs : List Value} (h : w.ownsRow B e 1 (.slice (some ⟨g, 0, none⟩) n cap) n xs) (u : Value) (hu : xs[i]? = some u) :
    w.cell? ⟨g, i, none⟩ = some u ∧ w.frozen? ⟨g, i, none⟩ = false := by
  have h1 := h.cells (g := g) rfl i u hu
  rw [add_none, Nat.zero_add] at h1
  refine ⟨h1, ?_⟩
  rcases h.2 with ⟨h2, _⟩ | ⟨g', cap', cur, hv, hb, hg, _⟩
  · cases h2
  · obtain ⟨rfl, rfl⟩ : g = g' ∧ cap = cap' := by simpa using hv
    exact blk_free hg
set_option maxHeartbeats 1000000 in
set_option maxRecDepth 100000 in
theorem d_spend (g : Nat) (w : World) (h4 : w.cell? ⟨g, 4, none⟩ = some (.bool false)) : Calls Try.prog 44 #[.pointer (some ⟨g, 4, none⟩)] w fun e w' => e = .returned (.bool true) ∧ w = w' := by
  have hg : ∀ w : World, w.cell? ⟨g, 4, none⟩ = some (.bool false) → Calls Try.prog 53 #[.pointer (some ⟨g, 4, none⟩)] w fun e w' => e = .returned (.bool false) ∧ w = w' := fun w h4 => by
    go_enter Try.func53, Try.ntmps53
    go_wp2
    go_returns
    exact ⟨rfl, rfl⟩
  have G := hidden hg
  clear hg
  go_enter Try.func44, Try.ntmps44
  go_wp2_with (go_at_call 53; refine (G.out _ h4).mono ?_; rintro e w1 ⟨rfl, rfl⟩)
  go_returns
  exact ⟨rfl, rfl⟩
set_option maxHeartbeats 1000000 in
set_option maxRecDepth 100000 in
theorem d_has (g pb c pc i : Nat) (w : World) (h1 : w.cell? ⟨g, 1, none⟩ = some (.slice (some ⟨pb, 0, none⟩) c pc)) (hi : i < c) : Calls Try.prog 43 #[.pointer (some ⟨g, 0, none⟩), .int .i64 i] w fun e w' => e = .returned (.bool true) ∧ w = w' := by
  go_enter Try.func43, Try.ntmps43
  go_wp2
  go_returns
  exact ⟨by first | rfl | (simp; omega), rfl⟩
/-- Rows of two types lie apart. -/
theorem own_rows {w : World} {B1 B2 s1 s2 n1 n2 : Nat} {e1 e2 : TypeId} {v1 v2 : Value} {xs1 xs2 : List Value} (h1 : w.ownsRow B1 e1 s1 v1 n1 xs1) (h2 : w.ownsRow B2 e2 s2 v2 n2 xs2) (hne : e2 ≠ e1) : v1.ownBlock = none ∨ v1.ownBlock ≠ v2.ownBlock := by
  rcases h1.2 with ⟨rfl, _⟩ | ⟨g, cap, cur, rfl, _, hg, _⟩
  · exact Or.inl rfl
  · exact Or.inr fun e => own_apart h2 hg hne (by rw [← e]; rfl)
theorem ownsRow_drew {w : World} {base : Nat} {e : TypeId} {size : Nat} {v : Value} {n : Nat} {xs : List Value} (h : w.ownsRow base e size v n xs) : w.drew.ownsRow base e size v n xs := h
theorem add_block (a : Addr) (j : Nat) : (a.add j).block = a.block := by unfold Addr.add; split <;> rfl
theorem Byt.setCell {w : World} {v : Value} {l : List UInt8} (h : Byt w v l) {g j : Nat} {u : Value} (hn : ∀ a k cap, v = .slice (some a) k cap → a.block ≠ g) : Byt (w.setCell ⟨g, j, none⟩ u) v l := by
  rcases h with h | ⟨a, cap, rfl, hc⟩
  · exact Or.inl h
  · refine Or.inr ⟨a, cap, rfl, fun i hi => Kept.cell (S := fun k => k = g) ((Kept.refl (fun k => k = g) w).setCell (p := ⟨g, j, none⟩) rfl u) ?_ (hc i hi)⟩
    rw [add_block]
    exact hn a _ _ rfl
theorem infoInt : (Try.prog.info? 3).map (fun i => (i.zero, i.size, i.bytes)) = some (some (.int .i64 0), 1, 8) := by kernel_rfl
theorem make_ints (n : Nat) (hn : n ≤ 4398046511104) (W : World) :
    (Instr.makeSlice 39 (.int .i64 (n : Int)) (.int .i64 (n : Int))).run Try.prog W = .ok (.slice (some ⟨W.heap.size, 0, none⟩) n n) (W.alloc (.cells (List.replicate n (Value.int .i64 0)).toArray 3)) := by
  obtain ⟨i0, hi, hz0, hz1, hz2⟩ := info_parts infoInt
  have h := run_make (P := Try.prog) W 39 3 i0 (.int .i64 0) Try.underlying39 hi hz0 .i64 .i64 (n : Int) (n : Int) (by omega) (by omega) (by rw [hz2]; omega) (by omega)
  have hM : madeCells (Value.int .i64 0).cells (n * i0.size) = (List.replicate n (Value.int .i64 0)).toArray := by
    rw [hz1, Nat.mul_one]
    apply Array.ext'
    rw [List.toList_toArray]
    exact toList_madeCells_one _ _
  rw [Int.toNat_natCast, hM] at h
  exact h
end Go.Proofs.Yteoajgphahobiaa
