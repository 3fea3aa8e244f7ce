/- tree, of one leaf: copied, changed, Put of a new key. -/
import Derived.Test.YtmlibjohhgpniaaGreatDoorTr3
namespace Go.Proofs.YtmlibjohhgpniaaGreatDoor
open Go.RowKit
set_option linter.unusedVariables false
structure CoP (w : World) (m : Nd) (u : Value) (W : World) : Prop where
  out : ∃ q z1 z2 z3 d1 d2 d3, u = .tuple #[.pointer (some ⟨q, 0, none⟩), .int .i64 0] ∧ w.heap.size ≤ q ∧ LP W q m z1 z2 z3 m.keys.length d1 m.vals.length d2 m.kids.length d3 ∧ Same w W
set_option maxHeartbeats 1000000 in
set_option maxRecDepth 100000 in
theorem copied_ins (n : Nd) (a1 a2 a3 : Option Addr) (k1 c1 k2 c2 k3 c3 : Nat) (w : World) (g p kb vb : Nat) (key value : ByteArray) (h : LT w g p n a1 a2 a3 k1 c1 k2 c2 k3 c3) (hk : w.cell? ⟨kb, 0, none⟩ = some (.string key)) (hv : w.cell? ⟨vb, 0, none⟩ = some (.string value)) (hl : n.leaf = true) (hb : n.Bd) (hbig : n.keys.length ≤ 8796093022206) (hq : n.has key = false ∨ (n.has key = true ∧ ∃ x, n.vals[n.cnt key]? = some x ∧ x ≠ value)) (m : Nd) (hp : n.put key value = (m, 0)) :
    Calls Tryz.prog 117 #[.pointer (some ⟨g, 0, none⟩), .agg #[.pointer (some ⟨p, 0, none⟩), .string ⟨#[]⟩, .string ⟨#[]⟩, .int .i64 1], .string key, .func (.func 56) #[] #[.pointer (some ⟨kb, 0, none⟩), .pointer (some ⟨vb, 0, none⟩)]] w fun e w' => ∃ u, e = .returned u ∧ CoP w m u w' := by
  have HLk := hidden (fun W (k : Same w W) => tlook n a1 a2 a3 k1 c1 k2 c2 k3 c3 W g p (h.same k) hl hb.k)
  have HEd := hidden (fun W (k : Same w W) => edit_any n a1 a2 a3 k1 c1 k2 c2 k3 c3 W kb vb key value (h.pg.r1.same k) (h.pg.r2.same k) (h.pg.r3.same k) (k.cell (fun h => h) hk) (k.cell (fun h => h) hv) hl hb hbig hq m hp)
  have HDp := hidden (fun W z1 z2 z3 d1 d2 d3 => dirtyPage_any m z1 z2 z3 m.keys.length d1 m.vals.length d2 m.kids.length d3 W)
  have HL := hidden h
  have K0 := hidden ((Kept.refl (fun _ => False) w).alloc (.cells #[.pointer (some ⟨p, 0, none⟩), .string ⟨#[]⟩, .string ⟨#[]⟩, .int .i64 1] 96))
  have GS := hidden (blk_new w (.cells #[.pointer (some ⟨p, 0, none⟩), .string ⟨#[]⟩, .string ⟨#[]⟩, .int .i64 1] 96))
  rw [hl] at HEd
  clear h hk hv hq hp
  go_enter Tryz.func117, Tryz.ntmps117
  go_wp2_with (first
    | (go_at_call 51; refine (HLk.out _ K0.out).mono ?_; rintro e w4 ⟨rfl, q4⟩
       have K4 := hidden (K0.out.trans q4)
       have gP := (HL.out.same K4.out).pg.box
       rw [hl] at gP
       have y0 : w4.cell? ⟨w.heap.size, 0, none⟩ = some (.pointer (some ⟨p, 0, none⟩)) := blk_cell (blk_kept q4 (fun h => h) GS.out)
       have m0 := blk_cell (j := 2) gP
       have m1 := blk_cell (j := 3) gP
       have m2 := blk_cell (j := 4) gP
       have m3 := blk_cell (j := 5) gP
       clear q4 gP)
    | (go_at_call 56; refine (HEd.out _ (K4.out.alloc _)).mono ?_; rintro e w5 ⟨u, rfl, ⟨v, rfl, hn, q5⟩⟩
       obtain ⟨z1, z2, z3, d1, d2, d3, rfl, o1, o2, o3, ap⟩ := hn.out
       have K5 := hidden (((K4.out.alloc _).trans q5).alloc (.cells #[.bool m.leaf, .slice z1 m.keys.length d1, .slice z2 m.vals.length d2, .slice z3 m.kids.length d3] 100))
       have O1 := hidden ((Row.own o1).same (same_alloc _ (.cells #[.bool m.leaf, .slice z1 m.keys.length d1, .slice z2 m.vals.length d2, .slice z3 m.kids.length d3] 100)))
       have O2 := hidden ((Row.own o2).same (same_alloc _ (.cells #[.bool m.leaf, .slice z1 m.keys.length d1, .slice z2 m.vals.length d2, .slice z3 m.kids.length d3] 100)))
       have O3 := hidden ((Row.own o3).same (same_alloc _ (.cells #[.bool m.leaf, .slice z1 m.keys.length d1, .slice z2 m.vals.length d2, .slice z3 m.kids.length d3] 100)))
       clear q5 hn o1 o2 o3 ap)
    | (go_at_call 108; refine (HDp.out _ _ _ _ _ _ _ O1.out O2.out O3.out).mono ?_; rintro e w6 ⟨u, rfl, ⟨q, rfl, hq, hlp, q6⟩⟩
       have K6 := hidden (K5.out.trans q6)
       have HLP := hidden hlp
       have hqq := Nat.le_trans K5.out.size hq
       clear q6 hlp))
  go_returns
  exact ⟨_, rfl, ⟨⟨q, z1, z2, z3, d1, d2, d3, rfl, hqq, HLP.out, K6.out⟩⟩⟩
structure ChP (w : World) (m : Nd) (u : Value) (W : World) : Prop where
  out : ∃ g q z1 z2 z3 d1 d2 d3, u = .tuple #[.pointer (some ⟨g, 0, none⟩), .int .i64 0] ∧ LT W g q m z1 z2 z3 m.keys.length d1 m.vals.length d2 m.kids.length d3 ∧ Same w W
set_option maxHeartbeats 1000000 in
set_option maxRecDepth 100000 in
theorem changed_ins (n : Nd) (a1 a2 a3 : Option Addr) (k1 c1 k2 c2 k3 c3 : Nat) (w : World) (g p kb vb : Nat) (key value : ByteArray) (h : LT w g p n a1 a2 a3 k1 c1 k2 c2 k3 c3) (hk : w.cell? ⟨kb, 0, none⟩ = some (.string key)) (hv : w.cell? ⟨vb, 0, none⟩ = some (.string value)) (hl : n.leaf = true) (hb : n.Bd) (hbig : n.keys.length ≤ 8796093022206) (hq : n.has key = false ∨ (n.has key = true ∧ ∃ x, n.vals[n.cnt key]? = some x ∧ x ≠ value)) (m : Nd) (hp : n.put key value = (m, 0)) (hml : m.leaf = true) (hmb : m.Bd) (hms : 16 + (m.keys.map fun k => 2 + k.size).sum + (m.vals.map fun v => v.size).sum ≤ 512) :
    Calls Tryz.prog 55 #[.pointer (some ⟨g, 0, none⟩), .string key, .func (.func 56) #[] #[.pointer (some ⟨kb, 0, none⟩), .pointer (some ⟨vb, 0, none⟩)]] w fun e w' => ∃ u, e = .returned u ∧ ChP w m u w' := by
  have HTp := hidden (ttop n a1 a2 a3 k1 c1 k2 c2 k3 c3 w g p h)
  have HCo := hidden (fun W (k : Same w W) => copied_ins n a1 a2 a3 k1 c1 k2 c2 k3 c3 W g p kb vb key value (h.same k) (k.cell (fun h => h) hk) (k.cell (fun h => h) hv) hl hb hbig hq m hp)
  have HT := hidden h.tr
  clear h hk hv hq hp
  go_enter Tryz.func55, Tryz.ntmps55
  go_wp2_with (first
    | (go_at_call 50; refine HTp.out.mono ?_; rintro e w1 ⟨rfl, q1⟩; have K1 := hidden q1; clear q1)
    | (go_at_call 117; refine (HCo.out _ K1.out).mono ?_; rintro e w2 ⟨u, rfl, ⟨q, z1, z2, z3, d1, d2, d3, rfl, hq, hlp, q2⟩⟩; have K2 := hidden (K1.out.trans q2); have HLP := hidden hlp; clear q2 hlp hq))
  have HSe := hidden (fun W (k : Same w2 W) => tsettled m z1 z2 z3 m.keys.length d1 m.vals.length d2 m.kids.length d3 W g q (.pointer (some ⟨p, 0, none⟩)) (blk_kept k (fun h => h) (blk_kept K2.out (fun h => h) HT.out)) (HLP.out.same k) hml hmb hms)
  have s0 : w2.cell? ⟨g, 0, none⟩ = some (.int .i64 512) := blk_cell (blk_kept K2.out (fun h => h) HT.out)
  have s1 : w2.cell? ⟨g, 1, none⟩ = some .nilIface := blk_cell (blk_kept K2.out (fun h => h) HT.out)
  go_region_law (refine step_call rfl 118 #[.pointer (some ⟨g, 0, none⟩), .pointer (some ⟨q, 0, none⟩)] (fun u W => u = .pointer (some ⟨q, 0, none⟩) ∧ Same w2 W) (by go_simp; try rfl) ((HSe.out _ ((Kept.refl _ _).drew)).mono (fun e w' ⟨h1, h2⟩ => ⟨_, h1, rfl, ((Kept.refl _ _).drew).trans h2⟩)) ?_; rintro u w3 ⟨rfl, q3⟩; have K3 := hidden q3; have s0' : w3.cell? ⟨g, 0, none⟩ = some (.int .i64 512) := q3.cell (fun h => h) s0; have s1' : w3.cell? ⟨g, 1, none⟩ = some .nilIface := q3.cell (fun h => h) s1; clear q3)
  all_goals
    go_wp2
    go_returns
    exact ⟨_, rfl, ⟨⟨w3.heap.size, q, z1, z2, z3, d1, d2, d3, rfl, ⟨blk_new _ _, (HLP.out.same K3.out).same (same_alloc _ _)⟩, (K2.out.trans K3.out).alloc _⟩⟩⟩
theorem nd0_chk : nd0.chk = 0 := by simp [Nd.chk, nd0, Nd.ents, Nd.shape, Nd.lists, rises]
theorem nd0_bd : nd0.Bd := ⟨by decide, by decide, by decide⟩
theorem nd0_put {key value : ByteArray} (h1 : mayK key = true) (h2 : mayV value = true) : nd0.put key value = (⟨true, [key], [value], []⟩, 0) := by
  unfold Nd.put
  rw [nd0_chk]
  have e1 : nd0.cnt key = 0 := rfl
  have e2 : nd0.has key = false := rfl
  have e3 : nd0.leaf = true := rfl
  simp only [h1, h2, e1, e2, e3, decide_true, Bool.and_self, if_true]
  rfl
set_option maxHeartbeats 1000000 in
set_option maxRecDepth 100000 in
theorem tput_ins (n : Nd) (a1 a2 a3 : Option Addr) (k1 c1 k2 c2 k3 c3 : Nat) (w : World) (g p : Nat) (key value : ByteArray) (h : LT w g p n a1 a2 a3 k1 c1 k2 c2 k3 c3) (hk : mayK key = true) (hv : mayV value = true) (hl : n.leaf = true) (hb : n.Bd) (hbig : n.keys.length ≤ 8796093022206) (hq : n.has key = false ∨ (n.has key = true ∧ ∃ x, n.vals[n.cnt key]? = some x ∧ x ≠ value)) (m : Nd) (hp : n.put key value = (m, 0)) (hml : m.leaf = true) (hmb : m.Bd) (hms : 16 + (m.keys.map fun k => 2 + k.size).sum + (m.vals.map fun v => v.size).sum ≤ 512) :
    Calls Tryz.prog 9 #[.pointer (some ⟨g, 0, none⟩), .string key, .string value] w fun e w' => ∃ u, e = .returned u ∧ ChP w m u w' := by
  have HM := hidden (fun W (k : Same w W) => tmade n a1 a2 a3 k1 c1 k2 c2 k3 c3 W g p (h.same k))
  have HP := hidden (fun W => put_any nd0 none none none 0 0 0 0 0 0 key value W (Row.nil _) (Row.nil _) (Row.nil _) nd0_bd (by decide))
  rw [nd0_put hk hv] at HP
  have HCh := hidden (fun W kb vb (k : Same w W) h1 h2 => changed_ins n a1 a2 a3 k1 c1 k2 c2 k3 c3 W g p kb vb key value (h.same k) h1 h2 hl hb hbig hq m hp hml hmb hms)
  have K0 : Hid (Same w ((w.alloc (.cells #[.string key] 9)).alloc (.cells #[.string value] 9))) := hidden (((Kept.refl _ w).alloc _).alloc _)
  have GK : Hid (((w.alloc (.cells #[.string key] 9)).alloc (.cells #[.string value] 9)).heap[w.heap.size]? = some (.cells #[.string key] 9 (0, 0))) := hidden (blk_alloc (blk_new _ _) _)
  have GV : Hid (((w.alloc (.cells #[.string key] 9)).alloc (.cells #[.string value] 9)).heap[w.heap.size + 1]? = some (.cells #[.string value] 9 (0, 0))) := hidden (by have := blk_new (w.alloc (.cells #[.string key] 9)) (.cells #[.string value] 9); simpa using this)
  clear h hq hp
  go_enter Tryz.func9, Tryz.ntmps9
  go_wp2_with (first
    | (go_at_call 49; refine (HM.out _ K0.out).mono ?_; rintro e w1 ⟨rfl, q1⟩; have K1 := hidden (K0.out.trans q1); have G1 := hidden (blk_kept q1 (fun h => h) GK.out); have G2 := hidden (blk_kept q1 (fun h => h) GV.out); have y0 : w1.cell? ⟨w.heap.size, 0, none⟩ = some (.string key) := blk_cell G1.out; have y1 : w1.cell? ⟨w.heap.size + 1, 0, none⟩ = some (.string value) := blk_cell G2.out; clear q1)
    | (go_at_call 54; refine (HP.out _).mono ?_; rintro e w2 ⟨u, rfl, ⟨v, rfl, hn, q2⟩⟩
       obtain ⟨z1, z2, z3, d1, d2, d3, rfl, o1, o2, o3, ap⟩ := hn.out
       have k2 := q2.alloc (.cells #[.bool true, .slice z1 1 d1, .slice z2 1 d2, .slice z3 0 d3] 100)
       have K2 := hidden (K1.out.trans k2)
       have G3 := hidden (blk_kept k2 (fun h => h) G1.out)
       have G4 := hidden (blk_kept k2 (fun h => h) G2.out)
       have y2 : (w2.alloc (.cells #[.bool true, .slice z1 1 d1, .slice z2 1 d2, .slice z3 0 d3] 100)).cell? ⟨w.heap.size, 0, none⟩ = some (.string key) := blk_cell G3.out
       have y3 : (w2.alloc (.cells #[.bool true, .slice z1 1 d1, .slice z2 1 d2, .slice z3 0 d3] 100)).cell? ⟨w.heap.size + 1, 0, none⟩ = some (.string value) := blk_cell G4.out
       clear q2 k2 hn o1 o2 o3 ap)
    | (go_at_call 55; refine (HCh.out _ _ _ K2.out y2 y3).mono ?_; rintro e w3 ⟨u, rfl, ⟨g', q', x1, x2, x3, e1, e2, e3, rfl, hlt, q3⟩⟩; have HLT := hidden hlt; have K3 := hidden (K2.out.trans q3); clear q3 hlt))
  go_returns
  exact ⟨_, rfl, ⟨⟨g', q', x1, x2, x3, e1, e2, e3, rfl, HLT.out, K3.out⟩⟩⟩
end Go.Proofs.YtmlibjohhgpniaaGreatDoor
