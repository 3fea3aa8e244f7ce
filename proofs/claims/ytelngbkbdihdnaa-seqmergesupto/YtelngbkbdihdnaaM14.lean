/- All over a map: what it hands back goes over all keys, or over the first ones. -/
import Derived.Test.YtelngbkbdihdnaaM13
namespace Go.Proofs.Ytelngbkbdihdnaa
open Go.RowKit Go.Shelf
set_option linter.unusedVariables false
attribute [local go_sem] Oper.semAt_some
theorem BTo.heap {S : Nat → Prop} {w w' : World} (k : ∀ (i : Nat) (o : Obj), w.heap[i]? = some o → w'.heap[i]? = some o) : ∀ {v : Value} {t : T}, BTo S w v t → BTo S w' v t
  | _, .nil, h => h
  | _, .node _ _ _ _, ⟨g, lo, hi, e, hg, hb, h1, h2⟩ => ⟨g, lo, hi, e, hg, k _ _ hb, h1.heap k, h2.heap k⟩
set_option maxRecDepth 100000 in
set_option maxHeartbeats 2000000 in
theorem allM_stops (n b g : Nat) (hn : 1 ≤ n) (S : Nat → Prop) (w : World) (p : Option Addr) (t : T) (h : w.cell? ⟨b, 0, none⟩ = some (.pointer (some ⟨g, 0, none⟩))) (hg : w.cell? ⟨g, 0, none⟩ = some (.pointer p)) (ht : BTo S w (.pointer p) t) :
    SeqStopsK Fence.wide n Try.prog 57 #[.pointer (some ⟨b, 0, none⟩)] encKV (Kept S) (fun ys => ys = t.list) (fun pre => pre <+: t.list) t.list.length w := fun l J Jx W hW hJ _ hY h0 => by
  have hc : W.cell? ⟨b, 0, none⟩ = some (.pointer (some ⟨g, 0, none⟩)) := (hW.cell (World.block_lt_of_cell? w _ h)).trans h
  have hc2 : W.cell? ⟨g, 0, none⟩ = some (.pointer p) := (hW.cell (World.block_lt_of_cell? w _ hg)).trans hg
  have ht2 : BTo S W (.pointer p) t := ht.heap (fun i o hi => (hW.block i (Array.getElem?_eq_some_iff.1 hi).1).trans hi)
  have HI := hidden ((callsIn_wide (n := n - 1)).2 (items_any (g := g) (p := p) (w := W) hc2))
  have HA := hidden (all_in S l t.list.length W.heap.size J Jx hJ (fun m pre x W hj hl => yield_any m (hY pre x W hj hl)) t (n - 1) (.pointer p) [] W ht2 h0 (by simp))
  clear hJ h0 hY hW h hg ht ht2
  refine callsIn_of_wp Try.func57 rfl trivial ?_ rfl
  simp only [Try.ntmps57, List.size_toArray, List.length_cons, List.length_nil, Nat.reduceAdd, Nat.reduceSub, Array.replicate_succ, Array.replicate_zero, List.push_toArray, List.append_toArray, List.nil_append, List.cons_append]
  gi_wp2_with (first
    | (refine ⟨trivial, ?_⟩; gi_at_call 55; refine (HI.out).mono ?_; rintro e w1 ⟨rfl, rfl⟩)
    | (refine ⟨trivial, ?_⟩; gi_at_call 58; refine (HA.out).mono ?_; rintro e w1 (⟨rfl, hj, k1⟩ | ⟨rfl, q, hq, hx⟩)))
  · go_end0
    exact ⟨⟨_, rfl⟩, .inl ⟨_, rfl, by simpa using hj⟩⟩
  · go_end0
    exact ⟨⟨_, rfl⟩, .inr ⟨q, hq, by simpa using hx⟩⟩
end Go.Proofs.Ytelngbkbdihdnaa
