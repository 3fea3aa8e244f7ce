/- Range over a map; Fork. -/
import Derived.Test.YtelngbkbdihdnaaM15
namespace Go.Proofs.Ytelngbkbdihdnaa
open Go.RowKit Go.Shelf
set_option linter.unusedVariables false
attribute [local go_sem] Oper.semAt_some
set_option maxRecDepth 100000 in
set_option maxHeartbeats 2000000 in
theorem rangeM_stops (n b c d g : Nat) (x y : ByteArray) (hn : 1 ≤ n) (S : Nat → Prop) (w : World) (p : Option Addr) (t : T) (h : w.cell? ⟨b, 0, none⟩ = some (.pointer (some ⟨g, 0, none⟩))) (h2 : w.cell? ⟨c, 0, none⟩ = some (.string x)) (h3 : w.cell? ⟨d, 0, none⟩ = some (.string y)) (hg : w.cell? ⟨g, 0, none⟩ = some (.pointer p)) (ht : BTo S w (.pointer p) t) (hs : Srt t.list) :
    SeqStopsK Fence.wide n Try.prog 73 #[.pointer (some ⟨b, 0, none⟩), .pointer (some ⟨c, 0, none⟩), .pointer (some ⟨d, 0, none⟩)] encKV (Kept S) (fun ys => ys = rng x y t.list) (fun pre => pre <+: rng x y t.list) (rng x y t.list).length w := fun l J Jx W hW hJ _ hY h0 => by
  have hc : W.drew.cell? ⟨b, 0, none⟩ = some (.pointer (some ⟨g, 0, none⟩)) := (hW.cell (World.block_lt_of_cell? w _ h)).trans h
  have hc2 : W.drew.cell? ⟨c, 0, none⟩ = some (.string x) := (hW.cell (World.block_lt_of_cell? w _ h2)).trans h2
  have hc3 : W.drew.cell? ⟨d, 0, none⟩ = some (.string y) := (hW.cell (World.block_lt_of_cell? w _ h3)).trans h3
  have hc4 : W.drew.cell? ⟨g, 0, none⟩ = some (.pointer p) := (hW.cell (World.block_lt_of_cell? w _ hg)).trans hg
  have ht2 : BTo S W (.pointer p) t := ht.heap (fun i o hi => (hW.block i (Array.getElem?_eq_some_iff.1 hi).1).trans hi)
  have HI := hidden ((callsIn_wide (n := n - 1)).2 (items_any (g := g) (p := p) (w := W.drew) hc4))
  have hJd : J [] W.drew := hJ _ _ _ none h0 (grownBy_same (Kept.refl _ W).drew) (fun r e => by cases e)
  have HA := hidden (all_bool (within_in S l (rng x y t.list).length W.heap.size x y J Jx hJ (fun m pre x W hj hl => yield_any m (hY pre x W hj hl)) t (n - 1) (.pointer p) [] W.drew (ht2.kept (Kept.refl _ W).drew) hs hJd (by simp)))
  have hmx : Try.prog.follows .mixedOrders = true := by kernel_rfl
  clear hJ h0 hY hW h h2 h3 hg ht ht2 hJd
  refine callsIn_of_wp Try.func73 rfl trivial ?_ rfl
  simp only [Try.ntmps73, List.size_toArray, List.length_cons, List.length_nil, Nat.reduceAdd, Nat.reduceSub, Array.replicate_succ, Array.replicate_zero, List.push_toArray, List.append_toArray, List.nil_append, List.cons_append]
  gi_wp2
  gi_region_with_o (first
    | (refine ⟨trivial, ?_⟩; gi_at_call 55; refine (HI.out).mono ?_; rintro e w1 ⟨rfl, rfl⟩)
    | (refine ⟨trivial, ?_⟩; gi_at_call 74; refine (HA.out).mono ?_; rintro e w1 ⟨b1, rfl, hE⟩))
  all_goals
    gi_wp2
    go_end0
    rcases hE.out with ⟨_, hj, _⟩ | ⟨_, q, hq, hx⟩
    · exact ⟨⟨_, rfl⟩, .inl ⟨_, rfl, by simpa using hj⟩⟩
    · exact ⟨⟨_, rfl⟩, .inr ⟨q, hq, by simpa using hx⟩⟩
set_option maxRecDepth 100000 in
set_option maxHeartbeats 2000000 in
theorem forkM_any {B g : Nat} {l : List Kv} {w : World} (h : MP B g l w) : Calls Try.prog 23 #[.pointer (some ⟨g, 0, none⟩)] w fun e w' => ∃ g', e = .returned (.pointer (some ⟨g', 0, none⟩)) ∧ w.heap.size ≤ g' ∧ MP w.heap.size g' l w' ∧ Same w w' := by
  obtain ⟨v, t, h1, h2, h3⟩ := h.ex
  have HST := hidden h.st
  have c0 : w.cell? ⟨g, 0, none⟩ = some v := blk_cell h1
  have c0' : ∀ o, (w.alloc o).cell? ⟨g, 0, none⟩ = some v := fun o => blk_cell (blk_alloc h1 o)
  have H2 := hidden h2
  have H3 := hidden h3
  obtain ⟨p, rfl⟩ := h2.ptr
  clear h h1 h2 h3
  go_enter Try.func23, Try.ntmps23
  go_wp2
  go_returns
  exact ⟨_, rfl, Nat.le_refl _, ⟨⟨_, t, heap_alloc_new w _, H2.out.same (same_alloc w _), H3.out⟩, HST.out, Nat.le_refl _⟩, same_alloc w _⟩
end Go.Proofs.Ytelngbkbdihdnaa
