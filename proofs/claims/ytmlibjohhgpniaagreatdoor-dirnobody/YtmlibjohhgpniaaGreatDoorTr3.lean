/- tree, of one leaf: Put of a new key. -/
import Derived.Test.YtmlibjohhgpniaaGreatDoorTr2
namespace Go.Proofs.YtmlibjohhgpniaaGreatDoor
open Go.RowKit
set_option linter.unusedVariables false
structure EdP (w : World) (n : Nd) (t : Bool) (u : Value) (W : World) : Prop where
  out : ∃ v, u = .tuple #[v, .bool t] ∧ NF w.heap.size W v n ∧ Same w W
theorem fill4_nf {W : World} {B b0 : Nat} {v : Value} {m : Nd} (h : NF B W v m) {cs : Array Value} (hb : W.heap[b0]? = some (.cells cs 100 (0, 0))) {W' : World} (k : Kept (only b0) W W') : NF B W' v m := by
  obtain ⟨x1, x2, x3, d1, d2, d3, e, o1, o2, o3, ap⟩ := h.out
  refine ⟨x1, x2, x3, d1, d2, d3, e, own_kept o1 k (fun j hj hs => own_apart o1 hb (by decide) (by have e' : j = b0 := hs; rw [← e']; exact hj)), own_kept o2 k (fun j hj hs => own_apart o2 hb (by decide) (by have e' : j = b0 := hs; rw [← e']; exact hj)), own_kept o3 k (fun j hj hs => own_apart o3 hb (by decide) (by have e' : j = b0 := hs; rw [← e']; exact hj)), ap⟩
theorem NF.mono {B C : Nat} {W : World} {v : Value} {m : Nd} (h : NF B W v m) (hc : C ≤ B) : NF C W v m := by
  obtain ⟨x1, x2, x3, d1, d2, d3, e, o1, o2, o3, ap⟩ := h.out
  exact ⟨x1, x2, x3, d1, d2, d3, e, own_mono o1 hc, own_mono o2 hc, own_mono o3 hc, ap⟩
theorem NF.keep {B : Nat} {W W' : World} {v : Value} {m : Nd} (h : NF B W v m) (k : Same W W') : NF B W' v m := by
  obtain ⟨x1, x2, x3, d1, d2, d3, e, o1, o2, o3, ap⟩ := h.out
  exact ⟨x1, x2, x3, d1, d2, d3, e, own_kept o1 k (fun _ _ h => h), own_kept o2 k (fun _ _ h => h), own_kept o3 k (fun _ _ h => h), ap⟩
set_option maxHeartbeats 1000000 in
set_option maxRecDepth 100000 in
theorem edit_ins (n : Nd) (a1 a2 a3 : Option Addr) (k1 c1 k2 c2 k3 c3 : Nat) (w : World) (kb vb : Nat) (key value : ByteArray) (r1 : Row w (.slice a1 k1 c1) (TS n.keys)) (r2 : Row w (.slice a2 k2 c2) (TS n.vals)) (r3 : Row w (.slice a3 k3 c3) (IS n.kids)) (hk : w.cell? ⟨kb, 0, none⟩ = some (.string key)) (hv : w.cell? ⟨vb, 0, none⟩ = some (.string value)) (hl : n.leaf = true) (hb : n.Bd) (hbig : n.keys.length ≤ 8796093022206) (hh : n.has key = false) (m : Nd) (hp : n.put key value = (m, 0)) :
    Calls Tryz.prog 56 #[.agg #[.bool n.leaf, .slice a1 k1 c1, .slice a2 k2 c2, .slice a3 k3 c3], .pointer (some ⟨kb, 0, none⟩), .pointer (some ⟨vb, 0, none⟩)] w fun e w' => ∃ u, e = .returned u ∧ EdP w m true u w' := by
  have HFi := hidden (fun W (k : Same w W) => find_any n a1 a2 a3 k1 c1 k2 c2 k3 c3 key W (r1.same k) (r2.same k) (r3.same k) hb)
  have HPu := hidden (fun W (k : Same w W) => put_any n a1 a2 a3 k1 c1 k2 c2 k3 c3 key value W (r1.same k) (r2.same k) (r3.same k) hb hbig)
  rw [hh, hl] at HFi
  rw [hp, hl] at HPu
  rw [hl]
  generalize n.cnt key = c at HFi
  have HK := hidden hk
  have HV := hidden hv
  clear r1 r2 r3 hh hp hk hv
  have K0 : Hid (Same w ((w.alloc (.cells #[.bool true, .slice a1 k1 c1, .slice a2 k2 c2, .slice a3 k3 c3] 100)).alloc (.cells #[.bool false, .slice none 0 0, .slice none 0 0, .slice none 0 0] 100))) := hidden (((Kept.refl _ w).alloc _).alloc _)
  have x1 : ((w.alloc (.cells #[.bool true, .slice a1 k1 c1, .slice a2 k2 c2, .slice a3 k3 c3] 100)).alloc (.cells #[.bool false, .slice none 0 0, .slice none 0 0, .slice none 0 0] 100)).cell? ⟨kb, 0, none⟩ = some (.string key) := K0.out.cell (fun h => h) HK.out
  have GA := hidden (box_blk w #[.bool true, .slice a1 k1 c1, .slice a2 k2 c2, .slice a3 k3 c3] (.cells #[.bool false, .slice none 0 0, .slice none 0 0, .slice none 0 0] 100))
  have GB := hidden (zero_blk w #[.bool true, .slice a1 k1 c1, .slice a2 k2 c2, .slice a3 k3 c3])
  go_enter Tryz.func56, Tryz.ntmps56
  go_wp2_with (first
    | (go_at_call 52; refine (HFi.out _ K0.out).mono ?_; rintro e w1 ⟨rfl, q1⟩; have K1 := hidden (K0.out.trans q1); have G1 := hidden (blk_kept q1 (fun h => h) GA.out); have G2 := hidden (blk_kept q1 (fun h => h) GB.out); have y0 : w1.cell? ⟨kb, 0, none⟩ = some (.string key) := K1.out.cell (fun h => h) HK.out; have y1 : w1.cell? ⟨vb, 0, none⟩ = some (.string value) := K1.out.cell (fun h => h) HV.out; have b0 := blk_cell (j := 0) G1.out; have b1 := blk_cell (j := 1) G1.out; have b2 := blk_cell (j := 2) G1.out; have b3 := blk_cell (j := 3) G1.out; clear q1))
  go_quiet (fail)
  have KN := hidden (K1.out.drewN nq)
  have G3 : Hid ((w1.drewN nq).heap[w.heap.size + 1]? = some (.cells #[.bool false, .slice none 0 0, .slice none 0 0, .slice none 0 0] 100 (0, 0))) := hidden (blk_kept ((Kept.refl (fun _ => False) w1).drewN nq) (fun h => h) G2.out)
  go_wp2_with (first
    | (go_at_call 54; refine (HPu.out _ KN.out).mono ?_; rintro e w2 ⟨u, rfl, ⟨v, rfl, hn, q2⟩⟩
       obtain ⟨z1, z2, z3, d1, d2, d3, rfl, o1, o2, o3, ap⟩ := hn.out
       have HN := hidden hn
       have HQ := hidden q2
       have K2 := hidden (KN.out.trans q2)
       have ga := blk_new w2 (.cells #[.bool m.leaf, .slice z1 m.keys.length d1, .slice z2 m.vals.length d2, .slice z3 m.kids.length d3] 100)
       have gb := blk_alloc (blk_kept q2 (fun h => h) G3.out) (.cells #[.bool m.leaf, .slice z1 m.keys.length d1, .slice z2 m.vals.length d2, .slice z3 m.kids.length d3] 100)
       have y00 : (w2.alloc (.cells #[.bool m.leaf, .slice z1 m.keys.length d1, .slice z2 m.vals.length d2, .slice z3 m.kids.length d3] 100)).cell? ⟨w.heap.size + 1, 0, none⟩ = some (.bool false) := blk_cell gb
       have y11 : (w2.alloc (.cells #[.bool m.leaf, .slice z1 m.keys.length d1, .slice z2 m.vals.length d2, .slice z3 m.kids.length d3] 100)).cell? ⟨w.heap.size + 1, 1, none⟩ = some (.slice none 0 0) := blk_cell gb
       have y22 : (w2.alloc (.cells #[.bool m.leaf, .slice z1 m.keys.length d1, .slice z2 m.vals.length d2, .slice z3 m.kids.length d3] 100)).cell? ⟨w.heap.size + 1, 2, none⟩ = some (.slice none 0 0) := blk_cell gb
       have y33 : (w2.alloc (.cells #[.bool m.leaf, .slice z1 m.keys.length d1, .slice z2 m.vals.length d2, .slice z3 m.kids.length d3] 100)).cell? ⟨w.heap.size + 1, 3, none⟩ = some (.slice none 0 0) := blk_cell gb
       have f00 : (w2.alloc (.cells #[.bool m.leaf, .slice z1 m.keys.length d1, .slice z2 m.vals.length d2, .slice z3 m.kids.length d3] 100)).frozen? ⟨w.heap.size + 1, 0, none⟩ = false := blk_free gb
       have f11 : (w2.alloc (.cells #[.bool m.leaf, .slice z1 m.keys.length d1, .slice z2 m.vals.length d2, .slice z3 m.kids.length d3] 100)).frozen? ⟨w.heap.size + 1, 1, none⟩ = false := blk_free gb
       have f22 : (w2.alloc (.cells #[.bool m.leaf, .slice z1 m.keys.length d1, .slice z2 m.vals.length d2, .slice z3 m.kids.length d3] 100)).frozen? ⟨w.heap.size + 1, 2, none⟩ = false := blk_free gb
       have f33 : (w2.alloc (.cells #[.bool m.leaf, .slice z1 m.keys.length d1, .slice z2 m.vals.length d2, .slice z3 m.kids.length d3] 100)).frozen? ⟨w.heap.size + 1, 3, none⟩ = false := blk_free gb
       have GZ := hidden gb
       clear o1 o2 o3 ap hn q2 ga gb))
  have hsz := KN.out.size
  have gf := fill4 GZ.out (.bool m.leaf) (.slice z1 m.keys.length d1) (.slice z2 m.vals.length d2) (.slice z3 m.kids.length d3)
  have kf := kept_fill4 (W := w2.alloc (.cells #[.bool m.leaf, .slice z1 m.keys.length d1, .slice z2 m.vals.length d2, .slice z3 m.kids.length d3] 100)) (g := w.heap.size + 1) (.bool m.leaf) (.slice z1 m.keys.length d1) (.slice z2 m.vals.length d2) (.slice z3 m.kids.length d3)
  have sf := same_fill4 (K2.out.alloc (.cells #[.bool m.leaf, .slice z1 m.keys.length d1, .slice z2 m.vals.length d2, .slice z3 m.kids.length d3] 100)) (g := w.heap.size + 1) (by omega) (.bool m.leaf) (.slice z1 m.keys.length d1) (.slice z2 m.vals.length d2) (.slice z3 m.kids.length d3)
  have nf := fill4_nf (NF.keep (HN.out.mono KN.out.size) ((Kept.refl (fun _ => False) w2).alloc (.cells #[.bool m.leaf, .slice z1 m.keys.length d1, .slice z2 m.vals.length d2, .slice z3 m.kids.length d3] 100)) ) GZ.out kf
  generalize ((((w2.alloc (.cells #[.bool m.leaf, .slice z1 m.keys.length d1, .slice z2 m.vals.length d2, .slice z3 m.kids.length d3] 100)).setCell ⟨w.heap.size + 1, 0, none⟩ (.bool m.leaf)).setCell ⟨w.heap.size + 1, 1, none⟩ (.slice z1 m.keys.length d1)).setCell ⟨w.heap.size + 1, 2, none⟩ (.slice z2 m.vals.length d2)).setCell ⟨w.heap.size + 1, 3, none⟩ (.slice z3 m.kids.length d3) = WF at gf kf sf nf ⊢
  have q0 : WF.cell? ⟨w.heap.size + 1, 0, none⟩ = some (.bool m.leaf) := blk_cell gf
  have q1 : WF.cell? ⟨w.heap.size + 1, 1, none⟩ = some (.slice z1 m.keys.length d1) := blk_cell gf
  have q2 : WF.cell? ⟨w.heap.size + 1, 2, none⟩ = some (.slice z2 m.vals.length d2) := blk_cell gf
  have q3 : WF.cell? ⟨w.heap.size + 1, 3, none⟩ = some (.slice z3 m.kids.length d3) := blk_cell gf
  refine bodyPost_ret (v := .tuple #[.agg #[.bool m.leaf, .slice z1 m.keys.length d1, .slice z2 m.vals.length d2, .slice z3 m.kids.length d3], .bool true]) (by simp [results, Tryz.results56, go_sem, q0, q1, q2, q3]) rfl ⟨_, rfl, ⟨⟨_, rfl, nf, sf⟩⟩⟩
set_option maxHeartbeats 1000000 in
set_option maxRecDepth 100000 in
theorem edit_upd (n : Nd) (a1 a2 a3 : Option Addr) (k1 c1 k2 c2 k3 c3 : Nat) (w : World) (kb vb : Nat) (key value : ByteArray) (r1 : Row w (.slice a1 k1 c1) (TS n.keys)) (r2 : Row w (.slice a2 k2 c2) (TS n.vals)) (r3 : Row w (.slice a3 k3 c3) (IS n.kids)) (hk : w.cell? ⟨kb, 0, none⟩ = some (.string key)) (hv : w.cell? ⟨vb, 0, none⟩ = some (.string value)) (hl : n.leaf = true) (hb : n.Bd) (hbig : n.keys.length ≤ 8796093022206) (hh : n.has key = true) (x : ByteArray) (hx : n.vals[n.cnt key]? = some x) (hne : x ≠ value) (m : Nd) (hp : n.put key value = (m, 0)) :
    Calls Tryz.prog 56 #[.agg #[.bool n.leaf, .slice a1 k1 c1, .slice a2 k2 c2, .slice a3 k3 c3], .pointer (some ⟨kb, 0, none⟩), .pointer (some ⟨vb, 0, none⟩)] w fun e w' => ∃ u, e = .returned u ∧ EdP w m true u w' := by
  have HFi := hidden (fun W (k : Same w W) => find_any n a1 a2 a3 k1 c1 k2 c2 k3 c3 key W (r1.same k) (r2.same k) (r3.same k) hb)
  have HPu := hidden (fun W (k : Same w W) => put_any n a1 a2 a3 k1 c1 k2 c2 k3 c3 key value W (r1.same k) (r2.same k) (r3.same k) hb hbig)
  rw [hh, hl] at HFi
  rw [hp, hl] at HPu
  rw [hl]
  have hlt : n.cnt key < n.vals.length := (List.getElem?_eq_some_iff.1 hx).1
  have hx' : n.vals[n.cnt key] = x := (List.getElem?_eq_some_iff.1 hx).2
  obtain ⟨xb, xo, ha, hc⟩ := r2.text hlt
  rw [hx'] at hc
  have el2 := r2.tl
  obtain ⟨c, hce⟩ : ∃ c, c = n.cnt key := ⟨_, rfl⟩
  rw [← hce] at HFi hc hlt
  have t0 : (0 : Int) ≤ (c : Int) := Int.natCast_nonneg _
  have t1 : (c : Int) < (k2 : Int) := by omega
  subst ha
  have HC := hidden hc
  have hneq : (x.toList == value.toList) = false := beq_eq_false_iff_ne.2 (fun e => hne (bytes_ext e))
  clear hx hx' hce hlt el2 hc hne
  have HK := hidden hk
  have HV := hidden hv
  clear r1 r2 r3 hh hp hk hv
  have K0 : Hid (Same w ((w.alloc (.cells #[.bool true, .slice a1 k1 c1, .slice (some ⟨xb, xo, none⟩) k2 c2, .slice a3 k3 c3] 100)).alloc (.cells #[.bool false, .slice none 0 0, .slice none 0 0, .slice none 0 0] 100))) := hidden (((Kept.refl _ w).alloc _).alloc _)
  have x1 : ((w.alloc (.cells #[.bool true, .slice a1 k1 c1, .slice (some ⟨xb, xo, none⟩) k2 c2, .slice a3 k3 c3] 100)).alloc (.cells #[.bool false, .slice none 0 0, .slice none 0 0, .slice none 0 0] 100)).cell? ⟨kb, 0, none⟩ = some (.string key) := K0.out.cell (fun h => h) HK.out
  have GA := hidden (box_blk w #[.bool true, .slice a1 k1 c1, .slice (some ⟨xb, xo, none⟩) k2 c2, .slice a3 k3 c3] (.cells #[.bool false, .slice none 0 0, .slice none 0 0, .slice none 0 0] 100))
  have GB := hidden (zero_blk w #[.bool true, .slice a1 k1 c1, .slice (some ⟨xb, xo, none⟩) k2 c2, .slice a3 k3 c3])
  go_enter Tryz.func56, Tryz.ntmps56
  go_wp2_with (first
    | (go_at_call 52; refine (HFi.out _ K0.out).mono ?_; rintro e w1 ⟨rfl, q1⟩; have K1 := hidden (K0.out.trans q1); have G1 := hidden (blk_kept q1 (fun h => h) GA.out); have G2 := hidden (blk_kept q1 (fun h => h) GB.out); have y0 : w1.cell? ⟨kb, 0, none⟩ = some (.string key) := K1.out.cell (fun h => h) HK.out; have y1 : w1.cell? ⟨vb, 0, none⟩ = some (.string value) := K1.out.cell (fun h => h) HV.out; have y7 : w1.cell? ⟨xb, xo + c, none⟩ = some (.string x) := K1.out.cell (fun h => h) HC.out; have b0 := blk_cell (j := 0) G1.out; have b1 := blk_cell (j := 1) G1.out; have b2 := blk_cell (j := 2) G1.out; have b3 := blk_cell (j := 3) G1.out; clear q1))
  go_quiet (fail)
  have KN := hidden (K1.out.drewN nq)
  have G3 : Hid ((w1.drewN nq).heap[w.heap.size + 1]? = some (.cells #[.bool false, .slice none 0 0, .slice none 0 0, .slice none 0 0] 100 (0, 0))) := hidden (blk_kept ((Kept.refl (fun _ => False) w1).drewN nq) (fun h => h) G2.out)
  go_wp2_with (first
    | (go_at_call 54; refine (HPu.out _ KN.out).mono ?_; rintro e w2 ⟨u, rfl, ⟨v, rfl, hn, q2⟩⟩
       obtain ⟨z1, z2, z3, d1, d2, d3, rfl, o1, o2, o3, ap⟩ := hn.out
       have HN := hidden hn
       have HQ := hidden q2
       have K2 := hidden (KN.out.trans q2)
       have ga := blk_new w2 (.cells #[.bool m.leaf, .slice z1 m.keys.length d1, .slice z2 m.vals.length d2, .slice z3 m.kids.length d3] 100)
       have gb := blk_alloc (blk_kept q2 (fun h => h) G3.out) (.cells #[.bool m.leaf, .slice z1 m.keys.length d1, .slice z2 m.vals.length d2, .slice z3 m.kids.length d3] 100)
       have y00 : (w2.alloc (.cells #[.bool m.leaf, .slice z1 m.keys.length d1, .slice z2 m.vals.length d2, .slice z3 m.kids.length d3] 100)).cell? ⟨w.heap.size + 1, 0, none⟩ = some (.bool false) := blk_cell gb
       have y11 : (w2.alloc (.cells #[.bool m.leaf, .slice z1 m.keys.length d1, .slice z2 m.vals.length d2, .slice z3 m.kids.length d3] 100)).cell? ⟨w.heap.size + 1, 1, none⟩ = some (.slice none 0 0) := blk_cell gb
       have y22 : (w2.alloc (.cells #[.bool m.leaf, .slice z1 m.keys.length d1, .slice z2 m.vals.length d2, .slice z3 m.kids.length d3] 100)).cell? ⟨w.heap.size + 1, 2, none⟩ = some (.slice none 0 0) := blk_cell gb
       have y33 : (w2.alloc (.cells #[.bool m.leaf, .slice z1 m.keys.length d1, .slice z2 m.vals.length d2, .slice z3 m.kids.length d3] 100)).cell? ⟨w.heap.size + 1, 3, none⟩ = some (.slice none 0 0) := blk_cell gb
       have f00 : (w2.alloc (.cells #[.bool m.leaf, .slice z1 m.keys.length d1, .slice z2 m.vals.length d2, .slice z3 m.kids.length d3] 100)).frozen? ⟨w.heap.size + 1, 0, none⟩ = false := blk_free gb
       have f11 : (w2.alloc (.cells #[.bool m.leaf, .slice z1 m.keys.length d1, .slice z2 m.vals.length d2, .slice z3 m.kids.length d3] 100)).frozen? ⟨w.heap.size + 1, 1, none⟩ = false := blk_free gb
       have f22 : (w2.alloc (.cells #[.bool m.leaf, .slice z1 m.keys.length d1, .slice z2 m.vals.length d2, .slice z3 m.kids.length d3] 100)).frozen? ⟨w.heap.size + 1, 2, none⟩ = false := blk_free gb
       have f33 : (w2.alloc (.cells #[.bool m.leaf, .slice z1 m.keys.length d1, .slice z2 m.vals.length d2, .slice z3 m.kids.length d3] 100)).frozen? ⟨w.heap.size + 1, 3, none⟩ = false := blk_free gb
       have GZ := hidden gb
       clear o1 o2 o3 ap hn q2 ga gb))
  have hsz := KN.out.size
  have gf := fill4 GZ.out (.bool m.leaf) (.slice z1 m.keys.length d1) (.slice z2 m.vals.length d2) (.slice z3 m.kids.length d3)
  have kf := kept_fill4 (W := w2.alloc (.cells #[.bool m.leaf, .slice z1 m.keys.length d1, .slice z2 m.vals.length d2, .slice z3 m.kids.length d3] 100)) (g := w.heap.size + 1) (.bool m.leaf) (.slice z1 m.keys.length d1) (.slice z2 m.vals.length d2) (.slice z3 m.kids.length d3)
  have sf := same_fill4 (K2.out.alloc (.cells #[.bool m.leaf, .slice z1 m.keys.length d1, .slice z2 m.vals.length d2, .slice z3 m.kids.length d3] 100)) (g := w.heap.size + 1) (by omega) (.bool m.leaf) (.slice z1 m.keys.length d1) (.slice z2 m.vals.length d2) (.slice z3 m.kids.length d3)
  have nf := fill4_nf (NF.keep (HN.out.mono KN.out.size) ((Kept.refl (fun _ => False) w2).alloc (.cells #[.bool m.leaf, .slice z1 m.keys.length d1, .slice z2 m.vals.length d2, .slice z3 m.kids.length d3] 100)) ) GZ.out kf
  generalize ((((w2.alloc (.cells #[.bool m.leaf, .slice z1 m.keys.length d1, .slice z2 m.vals.length d2, .slice z3 m.kids.length d3] 100)).setCell ⟨w.heap.size + 1, 0, none⟩ (.bool m.leaf)).setCell ⟨w.heap.size + 1, 1, none⟩ (.slice z1 m.keys.length d1)).setCell ⟨w.heap.size + 1, 2, none⟩ (.slice z2 m.vals.length d2)).setCell ⟨w.heap.size + 1, 3, none⟩ (.slice z3 m.kids.length d3) = WF at gf kf sf nf ⊢
  have q0 : WF.cell? ⟨w.heap.size + 1, 0, none⟩ = some (.bool m.leaf) := blk_cell gf
  have q1 : WF.cell? ⟨w.heap.size + 1, 1, none⟩ = some (.slice z1 m.keys.length d1) := blk_cell gf
  have q2 : WF.cell? ⟨w.heap.size + 1, 2, none⟩ = some (.slice z2 m.vals.length d2) := blk_cell gf
  have q3 : WF.cell? ⟨w.heap.size + 1, 3, none⟩ = some (.slice z3 m.kids.length d3) := blk_cell gf
  refine bodyPost_ret (v := .tuple #[.agg #[.bool m.leaf, .slice z1 m.keys.length d1, .slice z2 m.vals.length d2, .slice z3 m.kids.length d3], .bool true]) (by simp [results, Tryz.results56, go_sem, q0, q1, q2, q3]) rfl ⟨_, rfl, ⟨⟨_, rfl, nf, sf⟩⟩⟩
theorem edit_any (n : Nd) (a1 a2 a3 : Option Addr) (k1 c1 k2 c2 k3 c3 : Nat) (w : World) (kb vb : Nat) (key value : ByteArray) (r1 : Row w (.slice a1 k1 c1) (TS n.keys)) (r2 : Row w (.slice a2 k2 c2) (TS n.vals)) (r3 : Row w (.slice a3 k3 c3) (IS n.kids)) (hk : w.cell? ⟨kb, 0, none⟩ = some (.string key)) (hv : w.cell? ⟨vb, 0, none⟩ = some (.string value)) (hl : n.leaf = true) (hb : n.Bd) (hbig : n.keys.length ≤ 8796093022206) (hq : n.has key = false ∨ (n.has key = true ∧ ∃ x, n.vals[n.cnt key]? = some x ∧ x ≠ value)) (m : Nd) (hp : n.put key value = (m, 0)) :
    Calls Tryz.prog 56 #[.agg #[.bool n.leaf, .slice a1 k1 c1, .slice a2 k2 c2, .slice a3 k3 c3], .pointer (some ⟨kb, 0, none⟩), .pointer (some ⟨vb, 0, none⟩)] w fun e w' => ∃ u, e = .returned u ∧ EdP w m true u w' := by
  rcases hq with h | ⟨h, x, hx, hne⟩
  · exact edit_ins n a1 a2 a3 k1 c1 k2 c2 k3 c3 w kb vb key value r1 r2 r3 hk hv hl hb hbig h m hp
  · exact edit_upd n a1 a2 a3 k1 c1 k2 c2 k3 c3 w kb vb key value r1 r2 r3 hk hv hl hb hbig h x hx hne m hp
end Go.Proofs.YtmlibjohhgpniaaGreatDoor
