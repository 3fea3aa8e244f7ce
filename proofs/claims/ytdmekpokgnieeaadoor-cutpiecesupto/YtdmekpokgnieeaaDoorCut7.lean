/- cut's pieces, gone over, and their lengths, walked. -/
import Derived.Test.YtdmekpokgnieeaaDoorLensP
import Derived.RangeFuncBox
import Derived.RangeFuncLeaves
import Derived.RangeFuncBound
import Derived.Shelf.Abstract
import Derived.Shelf.RegionOpen
import Derived.OwnWalkIn
import Derived.TacticsInMore
import Derived.LoopIn
import Derived.Maps.AppendAt
namespace Go.Proofs.YtdmekpokgnieeaaDoor
open Go.RowKit Go.Shelf
set_option linter.unusedVariables false
attribute [local go_sem] Oper.semAt_some

theorem Kept.grownBy {w w' : World} (k : Same w w') : w.grownBy w' none := ⟨k.os, k.tape, k.output, k.size, fun i hi _ => k.block i hi (fun h => h)⟩
abbrev encP (x : Nat × Nat) : Array Value := #[.int .i64 x.1, .int .i64 x.2]
/-- What lies below stays: bytes, a table. -/
theorem Below.same {n : Nat} {w w' : World} (h : Same w w') (hn : n ≤ w.heap.size) : Below n w w' := Kept.below h hn (fun _ h => h.elim)
set_option maxRecDepth 100000 in
set_option maxHeartbeats 2000000 in
theorem pieces1_in (n : Nat) (hn : 1 ≤ n) (l Bb Bc : Nat) (S : Nat → Prop) (c : Shp) (hc : c.Ok) (a : Option Addr) (cap : Nat) (bs : List UInt8) (hcap : bs.length ≤ cap) (hBb : ¬ S Bb) (hBc : ¬ S Bc) (htn : ¬ S 1) (hlen : bs.length ≤ 140737488355328)
    (J Jx : List (Nat × Nat) → World → Prop) (W : World) (hJ : AbidesFrom W.heap.size J)
    (hY : ∀ pre x W1, J pre W1 → pre.length < (c.lens bs).length → YieldAt Fence.wide (n - 1) Tryd.prog l (encP x) W1 fun e W' =>
      (e = .returned (.bool true) ∧ J (pre ++ [x]) W' ∧ Kept S W1 W') ∨ (e = .returned (.bool false) ∧ Jx (pre ++ [x]) W'))
    (h1 : W.cell? ⟨Bb, 0, none⟩ = some (.slice a bs.length cap))
    (h2 : W.cell? ⟨Bc, 0, none⟩ = some (.int .i64 c.mn)) (h3 : W.cell? ⟨Bc, 1, none⟩ = some (.int .i64 c.no)) (h4 : W.cell? ⟨Bc, 2, none⟩ = some (.int .i64 c.mx)) (h5 : W.cell? ⟨Bc, 3, none⟩ = some (.int .u64 c.seed))
    (hcell : 0 < bs.length → ∃ b off, a = some ⟨b, off, none⟩ ∧ ¬ S b ∧ ∀ j x, bs[j]? = some x → W.cell? ⟨b, off + j, none⟩ = some (U8 x)) (hT : Tab W) (h0 : J [] W) :
    CallsIn Fence.wide n Tryd.prog 29 #[.func (.yield l) #[] #[], .pointer (some ⟨Bb, 0, none⟩), .pointer (some ⟨Bc, 0, none⟩)] W fun e W' => (∃ v, e = .returned v) ∧
      ((∃ ys, ys = places 0 (c.lens bs) ∧ J ys W') ∨ (∃ pre, pre <+: places 0 (c.lens bs) ∧ Jx pre W')) := by
  have HC := hidden hc
  have HJ := hidden hJ
  have HY := hidden hY
  have HCE := hidden hcell
  have HT := hidden hT
  have H1 := hidden h1
  have H2 := hidden (And.intro h2 (And.intro h3 (And.intro h4 h5)))
  clear hc hJ hY hcell hT h1 h2 h3 h4 h5
  refine callsIn_of_wp Tryd.func29 rfl trivial ?_ rfl
  simp only [Tryd.ntmps29, List.size_toArray, List.length_cons, List.length_nil, Nat.reduceAdd, Nat.reduceSub, Array.replicate_succ, Array.replicate_zero, List.push_toArray, List.append_toArray, List.nil_append, List.cons_append]
  gi_wp2
  gi_loopw [4] (fun p wr => ∃ (fr : Nat) (pre : List (Nat × Nat)), p = .int .i64 fr ∧ fr ≤ bs.length ∧ places 0 (c.lens bs) = pre ++ places fr (c.lens (bs.drop fr)) ∧ J pre wr ∧ Kept S W wr) (fun p _ => bs.length - (intOf p).toNat)
  case atStart => exact ⟨0, [], rfl, Nat.zero_le _, by simp, h0, Kept.refl _ _⟩
  case round =>
    obtain ⟨fr, pre, rfl, hfr, hpl, hJs, hB⟩ := hrel
    have r1 : wr.cell? ⟨Bb, 0, none⟩ = some (.slice a bs.length cap) := hB.cell (p := ⟨Bb, 0, none⟩) hBb H1.out
    have r2 : wr.cell? ⟨Bc, 0, none⟩ = some (.int .i64 c.mn) := hB.cell (p := ⟨Bc, 0, none⟩) hBc H2.out.1
    have r3 : wr.cell? ⟨Bc, 1, none⟩ = some (.int .i64 c.no) := hB.cell (p := ⟨Bc, 1, none⟩) hBc H2.out.2.1
    have r4 : wr.cell? ⟨Bc, 2, none⟩ = some (.int .i64 c.mx) := hB.cell (p := ⟨Bc, 2, none⟩) hBc H2.out.2.2.1
    have r5 : wr.cell? ⟨Bc, 3, none⟩ = some (.int .u64 c.seed) := hB.cell (p := ⟨Bc, 3, none⟩) hBc H2.out.2.2.2
    have HTr : Hid (Tab wr) := hidden (fun j hj => hB.cell (p := ⟨1, j, none⟩) htn (HT.out j hj))
    have HJr := hidden hJs
    have HB := hidden hB
    have HPL := hidden hpl
    clear hJs hB hpl
    by_cases hlt : fr < bs.length
    · obtain ⟨b, off, rfl, hbn, hce⟩ := HCE.out (by omega)
      have HCB := hidden hce
      clear hce
      have hne : bs.drop fr ≠ [] := by
        intro h
        have := congrArg List.length h
        rw [List.length_drop] at this
        simp at this
        omega
      have hcl := c.cut_le (bs.drop fr)
      have hcp := c.cut_pos HC.out hne
      have hplc := HPL.out
      rw [c.lens_cons HC.out hne, places, List.drop_drop] at hplc
      have HPL2 := hidden hplc
      rw [List.length_drop] at hcl
      have hlt2 : pre.length < (c.lens bs).length := by
        have := congrArg List.length hplc
        rw [places_len, List.length_append, List.length_cons] at this
        omega
      have HF := hidden (fun (w : World) (hT : Tab w) (hb : Byt w (.slice (some ⟨b, off + fr, none⟩) (bs.length - fr) (cap - fr)) (bs.drop fr)) => (callsIn_wide (n := n - 1)).2 (first_any c HC.out hT hb (by rw [List.length_drop]; omega)))
      have HBy : Hid (Byt wr.drew (.slice (some ⟨b, off + fr, none⟩) (bs.length - fr) (cap - fr)) (bs.drop fr)) := hidden (Byt.mk _ _ b (off + fr) (cap - fr) (by rw [List.length_drop]) (by rw [List.length_drop]; omega) (fun j x hj => by
        rw [List.getElem?_drop] at hj
        rw [Nat.add_assoc]
        exact HB.out.cell (p := ⟨b, off + (fr + j), none⟩) hbn (HCB.out _ _ hj)))
      clear hplc
      have hfi : (fr : Int) < (bs.length : Int) := by omega
      have hfc : (fr : Int) ≤ (cap : Int) := by omega
      generalize c.cut (bs.drop fr) = m at *
      have hyz := HY.out pre (fr, m)
      gi_wp2
      have hmx : Tryd.prog.follows .mixedOrders = true := by kernel_rfl
      have hcne : ¬ cap = fr := by omega
      have HYZ := hidden (fun W1 h => hyz W1 h hlt2)
      clear hyz
      gi_region_with_o (refine ⟨trivial, ?_⟩; gi_at_call 27; refine (HF.out _ HTr.out.drew HBy.out).mono ?_; rintro e w2 ⟨rfl, k2⟩)
      all_goals
        have HJ2 := HJ.out pre _ _ none HJr.out (Kept.grownBy (Kept.trans (Kept.refl _ wr).drew k2)) (fun r e => by cases e)
        obtain ⟨fn, tmps, assign, body, hy, hR⟩ := HYZ.out w2 HJ2
        dsimp only [encP] at hy
        have HK2 : Hid (Kept S W w2) := hidden (HB.out.drew.trans (k2.mono fun _ _ h => h.elim))
        clear k2
        gi_wp2
        refine hR.mono ?_
        rintro e W3 (⟨rfl, hJ3, hk3⟩ | ⟨rfl, hJx3⟩)
        · have HJ3 := hidden hJ3
          have HK3 := hidden hk3
          clear hJ3 hk3 HJ2 hR hy
          gi_wp2
          go_roundw
          case rel => exact ⟨fr + m, pre ++ [(fr, m)], by go_num, by omega, by rw [HPL2.out]; simp, HJ3.out, HK2.out.trans HK3.out⟩
          case measure => simp [intOf]; omega
        · gi_wp2
          refine bodyPost_ret (results_none rfl _ _ _) rfl ?_
          exact ⟨⟨_, rfl⟩, .inr ⟨pre ++ [(fr, m)], ⟨_, by rw [HPL2.out, List.append_assoc]; rfl⟩, hJx3⟩⟩
    · obtain rfl : fr = bs.length := by omega
      gi_wp2
      go_end0
      refine ⟨⟨_, rfl⟩, .inl ⟨pre, ?_, HJr.out⟩⟩
      have := HPL.out
      rw [List.drop_of_length_le (Nat.le_refl _), Shp.lens_nil] at this
      simpa [places] using this.symm
set_option maxHeartbeats 1000000 in
/-- 'pieces': both are boxed; the function value captures the boxes. -/
theorem pieces_any (c : Shp) (a : Option Addr) (m cap : Nat) (w : World) :
    Calls Tryd.prog 21 #[.agg #[.int .i64 c.mn, .int .i64 c.no, .int .i64 c.mx, .int .u64 c.seed], .slice a m cap] w fun e w' => e = .returned (.func (.func 29) #[] #[.pointer (some ⟨w.heap.size + 1, 0, none⟩), .pointer (some ⟨w.heap.size, 0, none⟩)]) ∧ (w.alloc (.cells #[.int .i64 c.mn, .int .i64 c.no, .int .i64 c.mx, .int .u64 c.seed] 24)).alloc (.cells #[.slice a m cap] 25) = w' := by
  go_enter Tryd.func21, Tryd.ntmps21
  go_wp2
  go_returns
  exact ⟨rfl, rfl⟩
/-- What 'pieces' hands back goes over all pieces, or over the first ones. -/
theorem pieces_stops (n : Nat) (hn : 1 ≤ n) (c : Shp) (hc : c.Ok) (a : Option Addr) (cap : Nat) (bs : List UInt8) (hcap : bs.length ≤ cap) (Bb Bc : Nat) (S : Nat → Prop) (w : World) (hBb : ¬ S Bb) (hBc : ¬ S Bc) (htn : ¬ S 1) (hlen : bs.length ≤ 140737488355328)
    (h1 : w.cell? ⟨Bb, 0, none⟩ = some (.slice a bs.length cap))
    (h2 : w.cell? ⟨Bc, 0, none⟩ = some (.int .i64 c.mn)) (h3 : w.cell? ⟨Bc, 1, none⟩ = some (.int .i64 c.no)) (h4 : w.cell? ⟨Bc, 2, none⟩ = some (.int .i64 c.mx)) (h5 : w.cell? ⟨Bc, 3, none⟩ = some (.int .u64 c.seed))
    (hcell : 0 < bs.length → ∃ b off, a = some ⟨b, off, none⟩ ∧ ¬ S b ∧ ∀ j x, bs[j]? = some x → w.cell? ⟨b, off + j, none⟩ = some (U8 x)) (hT : Tab w) :
    SeqStopsK Fence.wide n Tryd.prog 29 #[.pointer (some ⟨Bb, 0, none⟩), .pointer (some ⟨Bc, 0, none⟩)] encP (Kept S) (fun ys => ys = places 0 (c.lens bs)) (fun pre => pre <+: places 0 (c.lens bs)) (c.lens bs).length w := fun l J Jx W hW hJ _ hY h0 => by
  have key : ∀ {p : Addr} {v : Value}, w.cell? p = some v → W.cell? p = some v := fun {p v} h => (hW.cell (World.block_lt_of_cell? w p h)).trans h
  exact pieces1_in n hn l Bb Bc S c hc a cap bs hcap hBb hBc htn hlen J Jx W hJ hY (key h1) (key h2) (key h3) (key h4) (key h5)
    (fun hp => by
      obtain ⟨b, off, e, hbn, hce⟩ := hcell hp
      exact ⟨b, off, e, hbn, fun j x hj => key (hce j x hj)⟩)
    (fun j hj => key (hT j hj)) h0
end Go.Proofs.YtdmekpokgnieeaaDoor
