/- A bitmap's firstSet, firstUnset; a Space in memory: made, New, Left, Used, Waiting. -/
import Derived.Test.YtbmbdidmbdanmaaDoorSp3
namespace Go.Proofs.YtbmbdidmbdanmaaDoor
open Go.RowKit
set_option linter.unusedVariables false

set_option maxHeartbeats 1000000 in
set_option maxRecDepth 100000 in
theorem bm_firstSet (g o : Nat) (t : TypeId) (cs : Array Value) (f : Nat → Bool) (a e : Nat) (w : World) (hb : w.heap[g]? = some (.cells cs t (0, 0))) (hf : BmIn cs o f) (hT : Tab w) (hae : a ≤ e) (he : e ≤ 4096) :
    Calls Tryd.prog 50 #[.pointer (some ⟨g, o, none⟩), .int .i64 a, .int .i64 e] w fun r w' => ∃ n : Nat, r = .returned (.int .i64 n) ∧ First f a e n ∧ w = w' := by
  have A := hidden (bm_find g o t cs f a e false w hb hf hT hae he)
  clear hb hf hT
  go_enter Tryd.func50, Tryd.ntmps50
  go_wp2_with (go_at_call 60; refine A.out.mono ?_; rintro e w1 ⟨n, rfl, hF, rfl⟩)
  go_returns
  exact ⟨n, rfl, ⟨hF.lo, hF.hi, fun i h1 h2 => by simpa using hF.none i h1 h2, fun h => by simpa using hF.some h⟩, rfl⟩
set_option maxHeartbeats 1000000 in
set_option maxRecDepth 100000 in
theorem bm_firstUnset (g o : Nat) (t : TypeId) (cs : Array Value) (f : Nat → Bool) (a e : Nat) (w : World) (hb : w.heap[g]? = some (.cells cs t (0, 0))) (hf : BmIn cs o f) (hT : Tab w) (hae : a ≤ e) (he : e ≤ 4096) :
    Calls Tryd.prog 52 #[.pointer (some ⟨g, o, none⟩), .int .i64 a, .int .i64 e] w fun r w' => ∃ n : Nat, r = .returned (.int .i64 n) ∧ First (fun i => !f i) a e n ∧ w = w' := by
  have A := hidden (bm_find g o t cs f a e true w hb hf hT hae he)
  clear hb hf hT
  go_enter Tryd.func52, Tryd.ntmps52
  go_wp2_with (go_at_call 60; refine A.out.mono ?_; rintro e w1 ⟨n, rfl, hF, rfl⟩)
  go_returns
  exact ⟨n, rfl, ⟨hF.lo, hF.hi, fun i h1 h2 => by simpa using hF.none i h1 h2, fun h => by simpa using hF.some h⟩, rfl⟩

/-- A Space at g: its first sector, how many it has, those used, those waiting, how many are reserved. -/
structure SpAt (g : Nat) (first count : Nat) (u v : Nat → Bool) (res : Nat) (w : World) : Prop where
  box : ∃ cs : Array Value, w.heap[g]? = some (.cells cs 55 (0, 0)) ∧ cs.size = 131 ∧ cs[0]? = some (.int .i64 first) ∧ cs[1]? = some (.int .i64 count) ∧ BmIn cs 2 u ∧ BmIn cs 66 v ∧ cs[130]? = some (.int .i64 res)
  fits : 1 ≤ count ∧ first + count ≤ 4096 ∧ res ≤ 4096
  inU : ∀ i, count ≤ i → i < 4096 → u i = false
  inV : ∀ i, count ≤ i → i < 4096 → v i = false
theorem SpAt.kept {g first count : Nat} {u v : Nat → Bool} {res : Nat} {w w' : World} {S : Nat → Prop} (h : SpAt g first count u v res w) (k : Kept S w w') (hs : ¬ S g) : SpAt g first count u v res w' :=
  ⟨let ⟨cs, a, b⟩ := h.box; ⟨cs, blk_kept k hs a, b⟩, h.fits, h.inU, h.inV⟩
set_option maxHeartbeats 1000000 in
set_option maxRecDepth 100000 in
theorem sp_made (g first count : Nat) (u v : Nat → Bool) (res : Nat) (w : World) (h : SpAt g first count u v res w) :
    Calls Tryd.prog 44 #[.pointer (some ⟨g, 0, none⟩)] w fun r w' => r = .returned (.bool true) ∧ w = w' := by
  obtain ⟨cs, hb, _, _, h1, _⟩ := h.box
  have c1 : w.cell? ⟨g, 1, none⟩ = some (.int .i64 count) := (blk_cell hb).trans h1
  have k := h.fits.1
  clear hb h h1
  go_enter Tryd.func44, Tryd.ntmps44
  go_wp2
  go_returns
  exact ⟨by simp; omega, rfl⟩
set_option maxHeartbeats 1000000 in
set_option maxRecDepth 100000 in
theorem sp_madeNil (w : World) : Calls Tryd.prog 44 #[.pointer none] w fun r w' => r = .returned (.bool false) ∧ w = w' := by
  go_enter Tryd.func44, Tryd.ntmps44
  go_wp2
  go_returns
  exact ⟨rfl, rfl⟩
set_option maxHeartbeats 1000000 in
set_option maxRecDepth 100000 in
theorem sp_used (g first count : Nat) (u v : Nat → Bool) (res : Nat) (w : World) (h : SpAt g first count u v res w) :
    Calls Tryd.prog 23 #[.pointer (some ⟨g, 0, none⟩)] w fun r w' => r = .returned (.int .i64 (cnt u 4096 : Nat)) ∧ w = w' := by
  obtain ⟨cs, hb, _, _, _, hu, hv, _⟩ := h.box
  have A := hidden (sp_made g first count u v res w h)
  have B := hidden (bm_ones g 2 _ cs u w hb hu)
  clear hb h hu hv
  go_enter Tryd.func23, Tryd.ntmps23
  go_wp2_with (first
    | (go_at_call 44; refine A.out.mono ?_; rintro e w1 ⟨rfl, rfl⟩)
    | (go_at_call 47; refine B.out.mono ?_; rintro e w1 ⟨rfl, rfl⟩))
  go_returns
  exact ⟨rfl, rfl⟩
set_option maxHeartbeats 1000000 in
set_option maxRecDepth 100000 in
theorem sp_waiting (g first count : Nat) (u v : Nat → Bool) (res : Nat) (w : World) (h : SpAt g first count u v res w) :
    Calls Tryd.prog 24 #[.pointer (some ⟨g, 0, none⟩)] w fun r w' => r = .returned (.int .i64 (cnt v 4096 : Nat)) ∧ w = w' := by
  obtain ⟨cs, hb, _, _, _, hu, hv, _⟩ := h.box
  have A := hidden (sp_made g first count u v res w h)
  have B := hidden (bm_ones g 66 _ cs v w hb hv)
  clear hb h hu hv
  go_enter Tryd.func24, Tryd.ntmps24
  go_wp2_with (first
    | (go_at_call 44; refine A.out.mono ?_; rintro e w1 ⟨rfl, rfl⟩)
    | (go_at_call 47; refine B.out.mono ?_; rintro e w1 ⟨rfl, rfl⟩))
  go_returns
  exact ⟨rfl, rfl⟩
end Go.Proofs.YtbmbdidmbdanmaaDoor
