/- tree: a tree of one leaf that lies nowhere yet: dirtyPage, New, made, top. -/
import Derived.Test.YtmlibjohhgpniaaGreatDoorN9
namespace Go.Proofs.YtmlibjohhgpniaaGreatDoor
open Go.RowKit
set_option linter.unusedVariables false
/-- The page of a node that lies nowhere and has no kids. -/
structure LP (w : World) (p : Nat) (n : Nd) (a1 a2 a3 : Option Addr) (k1 c1 k2 c2 k3 c3 : Nat) : Prop where
  box : w.heap[p]? = some (.cells #[.int .i64 (-1), .bool true, .bool n.leaf, .slice a1 k1 c1, .slice a2 k2 c2, .slice a3 k3 c3, .slice none 0 0, .int .i64 1] 103 (0, 0))
  r1 : Row w (.slice a1 k1 c1) (TS n.keys)
  r2 : Row w (.slice a2 k2 c2) (TS n.vals)
  r3 : Row w (.slice a3 k3 c3) (IS n.kids)
theorem LP.same {w w' : World} {p : Nat} {n : Nd} {a1 a2 a3 : Option Addr} {k1 c1 k2 c2 k3 c3 : Nat} (h : LP w p n a1 a2 a3 k1 c1 k2 c2 k3 c3) (k : Same w w') : LP w' p n a1 a2 a3 k1 c1 k2 c2 k3 c3 := ⟨blk_kept k (fun h => h) h.box, h.r1.same k, h.r2.same k, h.r3.same k⟩
/-- A tree of one such page. -/
structure LT (w : World) (g p : Nat) (n : Nd) (a1 a2 a3 : Option Addr) (k1 c1 k2 c2 k3 c3 : Nat) : Prop where
  tr : w.heap[g]? = some (.cells #[.int .i64 512, .nilIface, .pointer (some ⟨p, 0, none⟩)] 120 (0, 0))
  pg : LP w p n a1 a2 a3 k1 c1 k2 c2 k3 c3
theorem LT.same {w w' : World} {g p : Nat} {n : Nd} {a1 a2 a3 : Option Addr} {k1 c1 k2 c2 k3 c3 : Nat} (h : LT w g p n a1 a2 a3 k1 c1 k2 c2 k3 c3) (k : Same w w') : LT w' g p n a1 a2 a3 k1 c1 k2 c2 k3 c3 := ⟨blk_kept k (fun h => h) h.tr, h.pg.same k⟩
structure DpP (w : World) (n : Nd) (a1 a2 a3 : Option Addr) (k1 c1 k2 c2 k3 c3 : Nat) (u : Value) (W : World) : Prop where
  out : ∃ p, u = .pointer (some ⟨p, 0, none⟩) ∧ w.heap.size ≤ p ∧ LP W p n a1 a2 a3 k1 c1 k2 c2 k3 c3 ∧ Same w W
set_option maxHeartbeats 400000 in
set_option maxRecDepth 100000 in
theorem dirtyPage_any (n : Nd) (a1 a2 a3 : Option Addr) (k1 c1 k2 c2 k3 c3 : Nat) (w : World) (r1 : Row w (.slice a1 k1 c1) (TS n.keys)) (r2 : Row w (.slice a2 k2 c2) (TS n.vals)) (r3 : Row w (.slice a3 k3 c3) (IS n.kids)) : Calls Tryz.prog 108 #[.agg #[.bool n.leaf, .slice a1 k1 c1, .slice a2 k2 c2, .slice a3 k3 c3], .slice none 0 0] w fun e w' => ∃ u, e = .returned u ∧ DpP w n a1 a2 a3 k1 c1 k2 c2 k3 c3 u w' := by
  have R := hidden (And.intro r1 (And.intro r2 r3))
  clear r1 r2 r3
  go_enter Tryz.func108, Tryz.ntmps108
  go_wp2
  have g0 : ((w.alloc (.cells #[.bool n.leaf, .slice a1 k1 c1, .slice a2 k2 c2, .slice a3 k3 c3] 100)).alloc (.cells #[.int .i64 (-1), .bool true, .bool n.leaf, .slice a1 k1 c1, .slice a2 k2 c2, .slice a3 k3 c3, .slice none 0 0, .int .i64 1] 103)).heap[w.heap.size + 1]? = some (.cells #[.int .i64 (-1), .bool true, .bool n.leaf, .slice a1 k1 c1, .slice a2 k2 c2, .slice a3 k3 c3, .slice none 0 0, .int .i64 1] 103 (0, 0)) := by have := blk_new (w.alloc (.cells #[.bool n.leaf, .slice a1 k1 c1, .slice a2 k2 c2, .slice a3 k3 c3] 100)) (.cells #[.int .i64 (-1), .bool true, .bool n.leaf, .slice a1 k1 c1, .slice a2 k2 c2, .slice a3 k3 c3, .slice none 0 0, .int .i64 1] 103); simpa using this
  have k0 : Same w ((w.alloc (.cells #[.bool n.leaf, .slice a1 k1 c1, .slice a2 k2 c2, .slice a3 k3 c3] 100)).alloc (.cells #[.int .i64 (-1), .bool true, .bool n.leaf, .slice a1 k1 c1, .slice a2 k2 c2, .slice a3 k3 c3, .slice none 0 0, .int .i64 1] 103)) := ((Kept.refl _ w).alloc _).alloc _
  generalize ((w.alloc (.cells #[.bool n.leaf, .slice a1 k1 c1, .slice a2 k2 c2, .slice a3 k3 c3] 100)).alloc (.cells #[.int .i64 (-1), .bool true, .bool n.leaf, .slice a1 k1 c1, .slice a2 k2 c2, .slice a3 k3 c3, .slice none 0 0, .int .i64 1] 103)) = W0 at g0 k0 ⊢
  have G0 := hidden g0
  have KK := hidden k0
  clear g0 k0
  go_loopw [14] (fun i wr => i = .int .i64 0 ∧ wr = W0) (fun _ _ => 0)
  case atStart => exact ⟨rfl, rfl⟩
  case round =>
    obtain ⟨rfl, rfl⟩ := hrel
    go_wp2
    go_returns
    exact ⟨_, rfl, ⟨⟨w.heap.size + 1, rfl, by omega, ⟨G0.out, R.out.1.same KK.out, R.out.2.1.same KK.out, R.out.2.2.same KK.out⟩, KK.out⟩⟩⟩
/-- The page of an empty leaf. -/
def nd0 : Nd := ⟨true, [], [], []⟩
structure NwP (w : World) (u : Value) (W : World) : Prop where
  out : ∃ g p, u = .tuple #[.pointer (some ⟨g, 0, none⟩), .int .i64 0] ∧ LT W g p nd0 none none none 0 0 0 0 0 0 ∧ Same w W
theorem tmaySize (w : World) : Calls Tryz.prog 107 #[.int .i64 512] w fun e w' => e = .returned (.bool true) ∧ w = w' := by
  go_enter Tryz.func107, Tryz.ntmps107
  go_wp2
  go_returns
  exact ⟨rfl, rfl⟩
set_option maxHeartbeats 400000 in
set_option maxRecDepth 100000 in
theorem new_any (w : World) : Calls Tryz.prog 48 #[.int .i64 512] w fun e w' => ∃ u, e = .returned u ∧ NwP w u w' := by
  have HM := hidden tmaySize
  have HD := hidden (dirtyPage_any nd0 none none none 0 0 0 0 0 0 w (Row.nil _) (Row.nil _) (Row.nil _))
  go_enter Tryz.func48, Tryz.ntmps48
  go_wp2_with (first
    | (go_at_call 107; refine (HM.out _).mono ?_; rintro e w1 ⟨rfl, rfl⟩)
    | (go_at_call 108; refine HD.out.mono ?_; rintro e w1 ⟨u, rfl, ⟨p, rfl, hp, hl, hs⟩⟩; have HL := hidden hl; have HS := hidden hs; clear hl hs))
  go_returns
  exact ⟨_, rfl, ⟨⟨_, p, rfl, ⟨blk_new _ _, HL.out.same ((Kept.refl _ _).alloc _)⟩, HS.out.alloc _⟩⟩⟩
theorem tmade (n : Nd) (a1 a2 a3 : Option Addr) (k1 c1 k2 c2 k3 c3 : Nat) (w : World) (g p : Nat) (h : LT w g p n a1 a2 a3 k1 c1 k2 c2 k3 c3) : Calls Tryz.prog 49 #[.pointer (some ⟨g, 0, none⟩)] w fun e w' => e = .returned (.bool true) ∧ Same w w' := by
  have x2 : w.cell? ⟨g, 2, none⟩ = some (.pointer (some ⟨p, 0, none⟩)) := blk_cell h.tr
  clear h
  go_enter Tryz.func49, Tryz.ntmps49
  go_wp2
  go_returns
  exact ⟨rfl, Kept.refl _ _⟩
theorem tmade_nil (w : World) : Calls Tryz.prog 49 #[.pointer none] w fun e w' => e = .returned (.bool false) ∧ w = w' := by
  go_enter Tryz.func49, Tryz.ntmps49
  go_wp2
  go_returns
  exact ⟨rfl, rfl⟩
structure TopP (w : World) (p : Nat) (u : Value) (W : World) : Prop where
  out : u = .agg #[.pointer (some ⟨p, 0, none⟩), .string ⟨#[]⟩, .string ⟨#[]⟩, .int .i64 1] ∧ Same w W
set_option maxHeartbeats 400000 in
set_option maxRecDepth 100000 in
theorem ttop (n : Nd) (a1 a2 a3 : Option Addr) (k1 c1 k2 c2 k3 c3 : Nat) (w : World) (g p : Nat) (h : LT w g p n a1 a2 a3 k1 c1 k2 c2 k3 c3) : Calls Tryz.prog 50 #[.pointer (some ⟨g, 0, none⟩)] w fun e w' => e = .returned (.agg #[.pointer (some ⟨p, 0, none⟩), .string ⟨#[]⟩, .string ⟨#[]⟩, .int .i64 1]) ∧ Same w w' := by
  have kA := (Kept.refl (fun _ => False) w).alloc (.cells #[.pointer none, .string ⟨#[]⟩, .string ⟨#[]⟩, .int .i64 0] 96)
  have x2 : (w.alloc (.cells #[.pointer none, .string ⟨#[]⟩, .string ⟨#[]⟩, .int .i64 0] 96)).cell? ⟨g, 2, none⟩ = some (.pointer (some ⟨p, 0, none⟩)) := blk_cell (blk_kept kA (fun h => h) h.tr)
  have g1 := blk_new w (.cells #[.pointer none, .string ⟨#[]⟩, .string ⟨#[]⟩, .int .i64 0] 96)
  clear h
  have G1 := hidden g1
  have KA := hidden kA
  clear g1 kA
  go_enter Tryz.func50, Tryz.ntmps50
  go_wp2
  have g1 := blk_new w (.cells #[.pointer (some ⟨p, 0, none⟩), .string ⟨#[]⟩, .string ⟨#[]⟩, .int .i64 1] 96)
  have k1 : Same w (w.alloc (.cells #[.pointer (some ⟨p, 0, none⟩), .string ⟨#[]⟩, .string ⟨#[]⟩, .int .i64 1] 96)) := (Kept.refl _ _).alloc _
  generalize w.alloc (.cells #[.pointer (some ⟨p, 0, none⟩), .string ⟨#[]⟩, .string ⟨#[]⟩, .int .i64 1] 96) = WF at g1 k1 ⊢
  have q0 : WF.cell? ⟨w.heap.size, 0, none⟩ = some (.pointer (some ⟨p, 0, none⟩)) := blk_cell g1
  have q1 : WF.cell? ⟨w.heap.size, 1, none⟩ = some (.string ⟨#[]⟩) := blk_cell g1
  have q2 : WF.cell? ⟨w.heap.size, 2, none⟩ = some (.string ⟨#[]⟩) := blk_cell g1
  have q3 : WF.cell? ⟨w.heap.size, 3, none⟩ = some (.int .i64 1) := blk_cell g1
  refine bodyPost_ret (v := .agg #[.pointer (some ⟨p, 0, none⟩), .string ⟨#[]⟩, .string ⟨#[]⟩, .int .i64 1]) (by simp [results, Tryz.results50, go_sem, q0, q1, q2, q3]) rfl ⟨rfl, k1⟩
set_option maxHeartbeats 400000 in
set_option maxRecDepth 100000 in
/-- A leaf is always within the root's bounds. -/
theorem tbounds (n : Nd) (a1 a2 a3 : Option Addr) (k1 c1 k2 c2 k3 c3 : Nat) (p : Nat) (w : World) (r1 : Row w (.slice a1 k1 c1) (TS n.keys)) (r2 : Row w (.slice a2 k2 c2) (TS n.vals)) (r3 : Row w (.slice a3 k3 c3) (IS n.kids)) (hl : n.leaf = true) (hb1 : n.keys.length ≤ 17592186044416) : Calls Tryz.prog 111 #[.agg #[.pointer (some ⟨p, 0, none⟩), .string ⟨#[]⟩, .string ⟨#[]⟩, .int .i64 1], .agg #[.bool n.leaf, .slice a1 k1 c1, .slice a2 k2 c2, .slice a3 k3 c3]] w fun e w' => e = .returned (.bool true) ∧ Same w w' := by
  have K0 : Hid (Same w ((w.alloc (.cells #[.pointer (some ⟨p, 0, none⟩), .string ⟨#[]⟩, .string ⟨#[]⟩, .int .i64 1] 96)).alloc (.cells #[.bool n.leaf, .slice a1 k1 c1, .slice a2 k2 c2, .slice a3 k3 c3] 100))) := hidden (((Kept.refl _ w).alloc _).alloc _)
  rw [hl] at K0 ⊢
  have R1 := hidden r1
  rcases Nat.eq_zero_or_pos k1 with h0 | h0
  · subst h0
    clear r1 r2 r3
    go_enter Tryz.func111, Tryz.ntmps111
    go_wp2
    go_returns
    exact ⟨rfl, K0.out⟩
  · have el := r1.tl
    obtain ⟨b, off, ha, hx⟩ := (r1.same K0.out).text (j := 0) (by omega)
    obtain ⟨b', off', ha', hy⟩ := (r1.same K0.out).text (j := k1 - 1) (by omega)
    rw [ha] at ha'
    cases ha'
    subst ha
    generalize n.keys[0] = x at hx
    obtain ⟨m, hm⟩ : ∃ m, k1 = m + 1 := ⟨k1 - 1, by omega⟩
    have hm1 : k1 - 1 = m := by omega
    simp only [hm1] at hy
    rw [Nat.add_zero] at hx
    generalize n.keys[m] = y at hy
    have hb : k1 ≤ 17592186044416 := by rw [← el]; exact hb1
    have hw : IntKind.i64.wrap ((k1 : Int) - 1) = (m : Int) := by rw [show (k1 : Int) - 1 = (m : Int) by omega]; exact wrapN (by omega) (by omega)
    have t0 : (0 : Int) ≤ (m : Int) := Int.natCast_nonneg _
    have t1 : (m : Int) < (k1 : Int) := by omega
    have t2 : (0 : Int) < (k1 : Int) := by omega
    have t3 : ((k1 : Int) == 0) = false := by simp; omega
    have HM := hidden hm
    clear r1 r2 r3 el hm1 h0 hb hb1 hm
    cases hlt : ltS ⟨#[]⟩ x
    · have hxe : x = ⟨#[]⟩ := by
        rcases lt_no hlt with h | h
        · simp [ltS, Lib.toList_data] at h
        · exact h
      subst hxe
      clear hlt
      go_enter Tryz.func111, Tryz.ntmps111
      go_wp2
      have gA : ((w.alloc (.cells #[.pointer (some ⟨p, 0, none⟩), .string ⟨#[]⟩, .string ⟨#[]⟩, .int .i64 1] 96)).alloc (.cells #[.bool true, .slice (some ⟨b, off, none⟩) k1 c1, .slice a2 k2 c2, .slice a3 k3 c3] 100)).heap[w.heap.size]? = some (.cells #[.pointer (some ⟨p, 0, none⟩), .string ⟨#[]⟩, .string ⟨#[]⟩, .int .i64 1] 96 (0, 0)) := blk_alloc (blk_new _ _) _
      have gB : ((w.alloc (.cells #[.pointer (some ⟨p, 0, none⟩), .string ⟨#[]⟩, .string ⟨#[]⟩, .int .i64 1] 96)).alloc (.cells #[.bool true, .slice (some ⟨b, off, none⟩) k1 c1, .slice a2 k2 c2, .slice a3 k3 c3] 100)).heap[w.heap.size + 1]? = some (.cells #[.bool true, .slice (some ⟨b, off, none⟩) k1 c1, .slice a2 k2 c2, .slice a3 k3 c3] 100 (0, 0)) := by have := blk_new (w.alloc (.cells #[.pointer (some ⟨p, 0, none⟩), .string ⟨#[]⟩, .string ⟨#[]⟩, .int .i64 1] 96)) (.cells #[.bool true, .slice (some ⟨b, off, none⟩) k1 c1, .slice a2 k2 c2, .slice a3 k3 c3] 100); simpa using this
      generalize (w.alloc (.cells #[.pointer (some ⟨p, 0, none⟩), .string ⟨#[]⟩, .string ⟨#[]⟩, .int .i64 1] 96)).alloc (.cells #[.bool true, .slice (some ⟨b, off, none⟩) k1 c1, .slice a2 k2 c2, .slice a3 k3 c3] 100) = W at gA gB hx hy K0 ⊢
      have s1 : W.cell? ⟨w.heap.size, 1, none⟩ = some (.string ⟨#[]⟩) := blk_cell gA
      have s2 : W.cell? ⟨w.heap.size, 2, none⟩ = some (.string ⟨#[]⟩) := blk_cell gA
      have s3 : W.cell? ⟨w.heap.size + 1, 0, none⟩ = some (.bool true) := blk_cell gB
      have s4 : W.cell? ⟨w.heap.size + 1, 1, none⟩ = some (.slice (some ⟨b, off, none⟩) k1 c1) := blk_cell gB
      clear gA gB
      go_quiet (fail)
      go_wp2
      go_returns
      exact ⟨rfl, K0.out.drewN _⟩
    · obtain ⟨f1, f2, f3, f4⟩ := lt_yes hlt
      have e0 : (ByteArray.mk #[]).toList = [] := by simp [Lib.toList_data]
      rw [e0] at f1 f2 f3 f4
      have f6 : x.toList.isEmpty = false := by simpa using f3
      clear hlt
      go_enter Tryz.func111, Tryz.ntmps111
      go_wp2
      have gA : ((w.alloc (.cells #[.pointer (some ⟨p, 0, none⟩), .string ⟨#[]⟩, .string ⟨#[]⟩, .int .i64 1] 96)).alloc (.cells #[.bool true, .slice (some ⟨b, off, none⟩) k1 c1, .slice a2 k2 c2, .slice a3 k3 c3] 100)).heap[w.heap.size]? = some (.cells #[.pointer (some ⟨p, 0, none⟩), .string ⟨#[]⟩, .string ⟨#[]⟩, .int .i64 1] 96 (0, 0)) := blk_alloc (blk_new _ _) _
      have gB : ((w.alloc (.cells #[.pointer (some ⟨p, 0, none⟩), .string ⟨#[]⟩, .string ⟨#[]⟩, .int .i64 1] 96)).alloc (.cells #[.bool true, .slice (some ⟨b, off, none⟩) k1 c1, .slice a2 k2 c2, .slice a3 k3 c3] 100)).heap[w.heap.size + 1]? = some (.cells #[.bool true, .slice (some ⟨b, off, none⟩) k1 c1, .slice a2 k2 c2, .slice a3 k3 c3] 100 (0, 0)) := by have := blk_new (w.alloc (.cells #[.pointer (some ⟨p, 0, none⟩), .string ⟨#[]⟩, .string ⟨#[]⟩, .int .i64 1] 96)) (.cells #[.bool true, .slice (some ⟨b, off, none⟩) k1 c1, .slice a2 k2 c2, .slice a3 k3 c3] 100); simpa using this
      generalize (w.alloc (.cells #[.pointer (some ⟨p, 0, none⟩), .string ⟨#[]⟩, .string ⟨#[]⟩, .int .i64 1] 96)).alloc (.cells #[.bool true, .slice (some ⟨b, off, none⟩) k1 c1, .slice a2 k2 c2, .slice a3 k3 c3] 100) = W at gA gB hx hy K0 ⊢
      have s1 : W.cell? ⟨w.heap.size, 1, none⟩ = some (.string ⟨#[]⟩) := blk_cell gA
      have s2 : W.cell? ⟨w.heap.size, 2, none⟩ = some (.string ⟨#[]⟩) := blk_cell gA
      have s3 : W.cell? ⟨w.heap.size + 1, 0, none⟩ = some (.bool true) := blk_cell gB
      have s4 : W.cell? ⟨w.heap.size + 1, 1, none⟩ = some (.slice (some ⟨b, off, none⟩) k1 c1) := blk_cell gB
      clear gA gB
      go_quiet (fail)
      go_wp2
      go_returns
      exact ⟨rfl, K0.out.drewN _⟩
end Go.Proofs.YtmlibjohhgpniaaGreatDoor
