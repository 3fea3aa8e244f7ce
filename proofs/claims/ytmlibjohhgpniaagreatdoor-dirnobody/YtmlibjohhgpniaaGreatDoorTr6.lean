/- tree, of one leaf: Delete of a key that it has. (Made by mktr6.py.) -/
import Derived.Test.YtmlibjohhgpniaaGreatDoorTr5
import Derived.Test.YtmlibjohhgpniaaGreatDoorN21
namespace Go.Proofs.YtmlibjohhgpniaaGreatDoor
open Go.RowKit
set_option linter.unusedVariables false
set_option maxHeartbeats 1000000 in
set_option maxRecDepth 100000 in
theorem edit_del (n : Nd) (a1 a2 a3 : Option Addr) (k1 c1 k2 c2 k3 c3 : Nat) (w : World) (kb : Nat) (key : ByteArray) (r1 : Row w (.slice a1 k1 c1) (TS n.keys)) (r2 : Row w (.slice a2 k2 c2) (TS n.vals)) (r3 : Row w (.slice a3 k3 c3) (IS n.kids)) (hk : w.cell? ⟨kb, 0, none⟩ = some (.string key)) (hl : n.leaf = true) (hb : n.Bd) (hbig : n.keys.length ≤ 8796093022206) (hls : n.lists = true) (hr : rises n.keys = true) (hh : n.has key = true) (m : Nd) (hm : m = ⟨true, n.keys.eraseIdx (n.cnt key), n.vals.eraseIdx (n.cnt key), []⟩) :
    Calls Tryz.prog 57 #[.agg #[.bool n.leaf, .slice a1 k1 c1, .slice a2 k2 c2, .slice a3 k3 c3], .pointer (some ⟨kb, 0, none⟩)] w fun e w' => ∃ u, e = .returned u ∧ EdP w m true u w' := by
  have HRm := hidden (fun W (k : Same w W) => remove_yes n a1 a2 a3 k1 c1 k2 c2 k3 c3 key W (r1.same k) (r2.same k) (r3.same k) hb hbig hl hls hr hh)
  rw [← hm, hl] at HRm
  rw [hl]
  have HK := hidden hk
  clear r1 r2 r3 hh hk hm hls hr
  have K0 : Hid (Same w ((w.alloc (.cells #[.bool true, .slice a1 k1 c1, .slice a2 k2 c2, .slice a3 k3 c3] 100)).alloc (.cells #[.bool false, .slice none 0 0, .slice none 0 0, .slice none 0 0] 100))) := hidden (((Kept.refl _ w).alloc _).alloc _)
  have x1 : ((w.alloc (.cells #[.bool true, .slice a1 k1 c1, .slice a2 k2 c2, .slice a3 k3 c3] 100)).alloc (.cells #[.bool false, .slice none 0 0, .slice none 0 0, .slice none 0 0] 100)).cell? ⟨kb, 0, none⟩ = some (.string key) := K0.out.cell (fun h => h) HK.out
  have GB := hidden (zero_blk w #[.bool true, .slice a1 k1 c1, .slice a2 k2 c2, .slice a3 k3 c3])
  go_enter Tryz.func57, Tryz.ntmps57
  go_wp2_with (first
    | (go_at_call 58; refine (HRm.out _ K0.out).mono ?_; rintro e w2 ⟨u, rfl, ⟨v, rfl, hn, q2⟩⟩
       obtain ⟨z1, z2, z3, d1, d2, d3, rfl, o1, o2, o3, ap⟩ := hn.out
       have HN := hidden hn
       have K2 := hidden (K0.out.trans q2)
       have gb := blk_kept q2 (fun h => h) GB.out
       have y00 : w2.cell? ⟨w.heap.size + 1, 0, none⟩ = some (.bool false) := blk_cell gb
       have f00 : w2.frozen? ⟨w.heap.size + 1, 0, none⟩ = false := blk_free gb
       have y11 : w2.cell? ⟨w.heap.size + 1, 1, none⟩ = some (.slice none 0 0) := blk_cell gb
       have f11 : w2.frozen? ⟨w.heap.size + 1, 1, none⟩ = false := blk_free gb
       have y22 : w2.cell? ⟨w.heap.size + 1, 2, none⟩ = some (.slice none 0 0) := blk_cell gb
       have f22 : w2.frozen? ⟨w.heap.size + 1, 2, none⟩ = false := blk_free gb
       have y33 : w2.cell? ⟨w.heap.size + 1, 3, none⟩ = some (.slice none 0 0) := blk_cell gb
       have f33 : w2.frozen? ⟨w.heap.size + 1, 3, none⟩ = false := blk_free gb
       have GZ := hidden gb
       clear o1 o2 o3 ap hn q2 gb))
  have gf := fill4 GZ.out (.bool m.leaf) (.slice z1 m.keys.length d1) (.slice z2 m.vals.length d2) (.slice z3 m.kids.length d3)
  have kf := kept_fill4 (W := w2) (g := w.heap.size + 1) (.bool m.leaf) (.slice z1 m.keys.length d1) (.slice z2 m.vals.length d2) (.slice z3 m.kids.length d3)
  have sf := same_fill4 K2.out (g := w.heap.size + 1) (by omega) (.bool m.leaf) (.slice z1 m.keys.length d1) (.slice z2 m.vals.length d2) (.slice z3 m.kids.length d3)
  have nf := fill4_nf (HN.out.mono K0.out.size) GZ.out kf
  generalize (((w2.setCell ⟨w.heap.size + 1, 0, none⟩ (.bool m.leaf)).setCell ⟨w.heap.size + 1, 1, none⟩ (.slice z1 m.keys.length d1)).setCell ⟨w.heap.size + 1, 2, none⟩ (.slice z2 m.vals.length d2)).setCell ⟨w.heap.size + 1, 3, none⟩ (.slice z3 m.kids.length d3) = WF at gf kf sf nf ⊢
  have q0 : WF.cell? ⟨w.heap.size + 1, 0, none⟩ = some (.bool m.leaf) := blk_cell gf
  have q1 : WF.cell? ⟨w.heap.size + 1, 1, none⟩ = some (.slice z1 m.keys.length d1) := blk_cell gf
  have q2 : WF.cell? ⟨w.heap.size + 1, 2, none⟩ = some (.slice z2 m.vals.length d2) := blk_cell gf
  have q3 : WF.cell? ⟨w.heap.size + 1, 3, none⟩ = some (.slice z3 m.kids.length d3) := blk_cell gf
  refine bodyPost_ret (v := .tuple #[.agg #[.bool m.leaf, .slice z1 m.keys.length d1, .slice z2 m.vals.length d2, .slice z3 m.kids.length d3], .bool true]) (by simp [results, Tryz.results57, go_sem, q0, q1, q2, q3]) rfl ⟨_, rfl, ⟨⟨_, rfl, nf, sf⟩⟩⟩

set_option maxHeartbeats 1000000 in
set_option maxRecDepth 100000 in
theorem copied_del (n : Nd) (a1 a2 a3 : Option Addr) (k1 c1 k2 c2 k3 c3 : Nat) (w : World) (g p kb : Nat) (key : ByteArray) (h : LT w g p n a1 a2 a3 k1 c1 k2 c2 k3 c3) (hk : w.cell? ⟨kb, 0, none⟩ = some (.string key)) (hl : n.leaf = true) (hb : n.Bd) (hbig : n.keys.length ≤ 8796093022206) (hls : n.lists = true) (hr : rises n.keys = true) (hh : n.has key = true) (m : Nd) (hm : m = ⟨true, n.keys.eraseIdx (n.cnt key), n.vals.eraseIdx (n.cnt key), []⟩) :
    Calls Tryz.prog 117 #[.pointer (some ⟨g, 0, none⟩), .agg #[.pointer (some ⟨p, 0, none⟩), .string ⟨#[]⟩, .string ⟨#[]⟩, .int .i64 1], .string key, .func (.func 57) #[] #[.pointer (some ⟨kb, 0, none⟩)]] w fun e w' => ∃ u, e = .returned u ∧ CoP w m u w' := by
  have HLk := hidden (fun W (k : Same w W) => tlook n a1 a2 a3 k1 c1 k2 c2 k3 c3 W g p (h.same k) hl hb.k)
  have HEd := hidden (fun W (k : Same w W) => edit_del n a1 a2 a3 k1 c1 k2 c2 k3 c3 W kb key (h.pg.r1.same k) (h.pg.r2.same k) (h.pg.r3.same k) (k.cell (fun h => h) hk) hl hb hbig hls hr hh m hm)
  have HDp := hidden (fun W z1 z2 z3 d1 d2 d3 => dirtyPage_any m z1 z2 z3 m.keys.length d1 m.vals.length d2 m.kids.length d3 W)
  have HL := hidden h
  have K0 := hidden ((Kept.refl (fun _ => False) w).alloc (.cells #[.pointer (some ⟨p, 0, none⟩), .string ⟨#[]⟩, .string ⟨#[]⟩, .int .i64 1] 96))
  have GS := hidden (blk_new w (.cells #[.pointer (some ⟨p, 0, none⟩), .string ⟨#[]⟩, .string ⟨#[]⟩, .int .i64 1] 96))
  rw [hl] at HEd
  clear h hk hls hr hh hm
  go_enter Tryz.func117, Tryz.ntmps117
  go_wp2_with (first
    | (go_at_call 51; refine (HLk.out _ K0.out).mono ?_; rintro e w4 ⟨rfl, q4⟩
       have K4 := hidden (K0.out.trans q4)
       have gP := (HL.out.same K4.out).pg.box
       rw [hl] at gP
       have y0 : w4.cell? ⟨w.heap.size, 0, none⟩ = some (.pointer (some ⟨p, 0, none⟩)) := blk_cell (blk_kept q4 (fun h => h) GS.out)
       have m0 := blk_cell (j := 2) gP
       have m1 := blk_cell (j := 3) gP
       have m2 := blk_cell (j := 4) gP
       have m3 := blk_cell (j := 5) gP
       clear q4 gP)
    | (go_at_call 57; refine (HEd.out _ (K4.out.alloc _)).mono ?_; rintro e w5 ⟨u, rfl, ⟨v, rfl, hn, q5⟩⟩
       obtain ⟨z1, z2, z3, d1, d2, d3, rfl, o1, o2, o3, ap⟩ := hn.out
       have K5 := hidden (((K4.out.alloc _).trans q5).alloc (.cells #[.bool m.leaf, .slice z1 m.keys.length d1, .slice z2 m.vals.length d2, .slice z3 m.kids.length d3] 100))
       have O1 := hidden ((Row.own o1).same (same_alloc _ (.cells #[.bool m.leaf, .slice z1 m.keys.length d1, .slice z2 m.vals.length d2, .slice z3 m.kids.length d3] 100)))
       have O2 := hidden ((Row.own o2).same (same_alloc _ (.cells #[.bool m.leaf, .slice z1 m.keys.length d1, .slice z2 m.vals.length d2, .slice z3 m.kids.length d3] 100)))
       have O3 := hidden ((Row.own o3).same (same_alloc _ (.cells #[.bool m.leaf, .slice z1 m.keys.length d1, .slice z2 m.vals.length d2, .slice z3 m.kids.length d3] 100)))
       clear q5 hn o1 o2 o3 ap)
    | (go_at_call 108; refine (HDp.out _ _ _ _ _ _ _ O1.out O2.out O3.out).mono ?_; rintro e w6 ⟨u, rfl, ⟨q, rfl, hq, hlp, q6⟩⟩
       have K6 := hidden (K5.out.trans q6)
       have HLP := hidden hlp
       have hqq := Nat.le_trans K5.out.size hq
       clear q6 hlp))
  go_returns
  exact ⟨_, rfl, ⟨⟨q, z1, z2, z3, d1, d2, d3, rfl, hqq, HLP.out, K6.out⟩⟩⟩
set_option maxHeartbeats 1000000 in
set_option maxRecDepth 100000 in
theorem changed_del (n : Nd) (a1 a2 a3 : Option Addr) (k1 c1 k2 c2 k3 c3 : Nat) (w : World) (g p kb : Nat) (key : ByteArray) (h : LT w g p n a1 a2 a3 k1 c1 k2 c2 k3 c3) (hk : w.cell? ⟨kb, 0, none⟩ = some (.string key)) (hl : n.leaf = true) (hb : n.Bd) (hbig : n.keys.length ≤ 8796093022206) (hls : n.lists = true) (hr : rises n.keys = true) (hh : n.has key = true) (m : Nd) (hm : m = ⟨true, n.keys.eraseIdx (n.cnt key), n.vals.eraseIdx (n.cnt key), []⟩) (hml : m.leaf = true) (hmb : m.Bd) (hms : 16 + (m.keys.map fun k => 2 + k.size).sum + (m.vals.map fun v => v.size).sum ≤ 512) :
    Calls Tryz.prog 55 #[.pointer (some ⟨g, 0, none⟩), .string key, .func (.func 57) #[] #[.pointer (some ⟨kb, 0, none⟩)]] w fun e w' => ∃ u, e = .returned u ∧ ChP w m u w' := by
  have HTp := hidden (ttop n a1 a2 a3 k1 c1 k2 c2 k3 c3 w g p h)
  have HCo := hidden (fun W (k : Same w W) => copied_del n a1 a2 a3 k1 c1 k2 c2 k3 c3 W g p kb key (h.same k) (k.cell (fun h => h) hk) hl hb hbig hls hr hh m hm)
  have HT := hidden h.tr
  clear h hk hls hr hh hm
  go_enter Tryz.func55, Tryz.ntmps55
  go_wp2_with (first
    | (go_at_call 50; refine HTp.out.mono ?_; rintro e w1 ⟨rfl, q1⟩; have K1 := hidden q1; clear q1)
    | (go_at_call 117; refine (HCo.out _ K1.out).mono ?_; rintro e w2 ⟨u, rfl, ⟨q, z1, z2, z3, d1, d2, d3, rfl, hq, hlp, q2⟩⟩; have K2 := hidden (K1.out.trans q2); have HLP := hidden hlp; clear q2 hlp hq))
  have HSe := hidden (fun W (k : Same w2 W) => tsettled m z1 z2 z3 m.keys.length d1 m.vals.length d2 m.kids.length d3 W g q (.pointer (some ⟨p, 0, none⟩)) (blk_kept k (fun h => h) (blk_kept K2.out (fun h => h) HT.out)) (HLP.out.same k) hml hmb hms)
  have s0 : w2.cell? ⟨g, 0, none⟩ = some (.int .i64 512) := blk_cell (blk_kept K2.out (fun h => h) HT.out)
  have s1 : w2.cell? ⟨g, 1, none⟩ = some .nilIface := blk_cell (blk_kept K2.out (fun h => h) HT.out)
  go_region_law (refine step_call rfl 118 #[.pointer (some ⟨g, 0, none⟩), .pointer (some ⟨q, 0, none⟩)] (fun u W => u = .pointer (some ⟨q, 0, none⟩) ∧ Same w2 W) (by go_simp; try rfl) ((HSe.out _ ((Kept.refl _ _).drew)).mono (fun e w' ⟨h1, h2⟩ => ⟨_, h1, rfl, ((Kept.refl _ _).drew).trans h2⟩)) ?_; rintro u w3 ⟨rfl, q3⟩; have K3 := hidden q3; have s0' : w3.cell? ⟨g, 0, none⟩ = some (.int .i64 512) := q3.cell (fun h => h) s0; have s1' : w3.cell? ⟨g, 1, none⟩ = some .nilIface := q3.cell (fun h => h) s1; clear q3)
  all_goals
    go_wp2
    go_returns
    exact ⟨_, rfl, ⟨⟨w3.heap.size, q, z1, z2, z3, d1, d2, d3, rfl, ⟨blk_new _ _, (HLP.out.same K3.out).same (same_alloc _ _)⟩, (K2.out.trans K3.out).alloc _⟩⟩⟩

set_option maxHeartbeats 1000000 in
set_option maxRecDepth 100000 in
theorem tdel (n : Nd) (a1 a2 a3 : Option Addr) (k1 c1 k2 c2 k3 c3 : Nat) (w : World) (g p : Nat) (key : ByteArray) (h : LT w g p n a1 a2 a3 k1 c1 k2 c2 k3 c3) (hl : n.leaf = true) (hb : n.Bd) (hbig : n.keys.length ≤ 8796093022206) (hls : n.lists = true) (hr : rises n.keys = true) (hh : n.has key = true) (m : Nd) (hm : m = ⟨true, n.keys.eraseIdx (n.cnt key), n.vals.eraseIdx (n.cnt key), []⟩) (hml : m.leaf = true) (hmb : m.Bd) (hms : 16 + (m.keys.map fun k => 2 + k.size).sum + (m.vals.map fun v => v.size).sum ≤ 512) :
    Calls Tryz.prog 10 #[.pointer (some ⟨g, 0, none⟩), .string key] w fun e w' => ∃ u, e = .returned u ∧ ChP w m u w' := by
  have HM := hidden (fun W (k : Same w W) => tmade n a1 a2 a3 k1 c1 k2 c2 k3 c3 W g p (h.same k))
  have HCh := hidden (fun W kb (k : Same w W) h1 => changed_del n a1 a2 a3 k1 c1 k2 c2 k3 c3 W g p kb key (h.same k) h1 hl hb hbig hls hr hh m hm hml hmb hms)
  have K0 : Hid (Same w (w.alloc (.cells #[.string key] 9))) := hidden ((Kept.refl _ w).alloc _)
  have GK : Hid ((w.alloc (.cells #[.string key] 9)).heap[w.heap.size]? = some (.cells #[.string key] 9 (0, 0))) := hidden (blk_new _ _)
  clear h hls hr hh hm
  go_enter Tryz.func10, Tryz.ntmps10
  go_wp2_with (first
    | (go_at_call 49; refine (HM.out _ K0.out).mono ?_; rintro e w1 ⟨rfl, q1⟩; have K1 := hidden (K0.out.trans q1); have y0 : w1.cell? ⟨w.heap.size, 0, none⟩ = some (.string key) := blk_cell (blk_kept q1 (fun h => h) GK.out); clear q1)
    | (go_at_call 55; refine (HCh.out _ _ K1.out y0).mono ?_; rintro e w3 ⟨u, rfl, ⟨g', q', x1, x2, x3, e1, e2, e3, rfl, hlt, q3⟩⟩; have HLT := hidden hlt; have K3 := hidden (K1.out.trans q3); clear q3 hlt))
  go_returns
  exact ⟨_, rfl, ⟨⟨g', q', x1, x2, x3, e1, e2, e3, rfl, HLT.out, K3.out⟩⟩⟩
end Go.Proofs.YtmlibjohhgpniaaGreatDoor
