/- node: Remove where there is nothing to remove. (Made by mkn21.py.) -/
import Derived.Test.YtmlibjohhgpniaaGreatDoorN20
namespace Go.Proofs.YtmlibjohhgpniaaGreatDoor
open Go.RowKit
set_option linter.unusedVariables false
set_option linter.unusedSimpArgs false
/-- A key that is among rising ones is found. -/
theorem any_has {n : Nd} {key : ByteArray} (hr : rises n.keys = true) (hl : n.leaf = true) (h : n.has key = false) : n.keys.any (fun x => x.toList == key.toList) = false := by
  rw [Bool.eq_false_iff]
  intro ha
  obtain ⟨x, hx, he⟩ := List.any_eq_true.1 ha
  obtain ⟨j, hj, rfl⟩ := List.mem_iff_getElem.1 hx
  have hk : n.keys[j] = key := bytes_ext (by simpa using he)
  have hc : n.cnt key = j := by
    refine cnt_first hr key (by omega) (fun i hi => ?_) (fun hl2 => ?_)
    · obtain ⟨k, hk2⟩ : ∃ k, j = i + (k + 1) := ⟨j - i - 1, by omega⟩
      subst hk2
      have := rises_lt hr k i hj
      rw [hk] at this
      unfold ahead
      rw [this]
      rfl
    · rw [hk, hl]
      unfold ahead
      have : ltS key key = false := by simp [ltS, List.lt_irrefl]
      rw [this]
      rfl
  unfold Nd.has at h
  rw [hl, hc, List.getElem?_eq_getElem hj, hk] at h
  simp at h
set_option maxHeartbeats 2000000 in
set_option maxRecDepth 100000 in
theorem remove_inner (n : Nd) (a1 a2 a3 : Option Addr) (k1 c1 k2 c2 k3 c3 : Nat) (key : ByteArray) (w : World) (r1 : Row w (.slice a1 k1 c1) (TS n.keys)) (r2 : Row w (.slice a2 k2 c2) (TS n.vals)) (r3 : Row w (.slice a3 k3 c3) (IS n.kids)) (hb : n.Bd) (h1 : n.keys.length ≤ 8796093022208) (h2 : n.vals.length ≤ 8796093022208) (h3 : n.kids.length ≤ 17592186044416) (hl : n.leaf = false) :
    Calls Tryz.prog 58 #[.agg #[.bool n.leaf, .slice a1 k1 c1, .slice a2 k2 c2, .slice a3 k3 c3], .string key] w fun e w' => ∃ u, e = .returned u ∧ RmP w n false u w' := by
  have HCl := hidden (fun W (k : Same w W) => clone_any n a1 a2 a3 k1 c1 k2 c2 k3 c3 W (r1.same k) (r2.same k) (r3.same k) h1 h2 h3)
  have E1 := hidden r1.tl
  have E2 := hidden r2.tl
  have E3 := hidden r3.il
  have HL := hidden hl
  have K0 : Hid (Same w ((w.alloc (.cells #[.bool false, .slice a1 k1 c1, .slice a2 k2 c2, .slice a3 k3 c3] 100)).alloc (.cells #[.bool false, .slice none 0 0, .slice none 0 0, .slice none 0 0] 100))) := hidden (((Kept.refl _ w).alloc _).alloc _)
  rw [hl] at HCl ⊢
  clear r1 r2 r3 hb h1 h2 h3 hl
  go_enter Tryz.func58, Tryz.ntmps58
  go_wp2_with (go_at_call 115; refine (HCl.out _ K0.out).mono ?_; rintro e w3 ⟨u, rfl, hn, q3⟩; obtain ⟨b1, b2, b3, d1, d2, d3, rfl, o1, o2, o3, oap⟩ := hn.out; clear hn; rw [E1.out] at o1; rw [E2.out] at o2; rw [E3.out] at o3; rw [E1.out, E2.out] at oap; rw [E1.out, E2.out, E3.out, HL.out]; have g1 := blk_kept q3 (fun h => h) (zero_blk _ _); have sc0 : w3.cell? ⟨w.heap.size + 1, 0, none⟩ = some (.bool false) := blk_cell g1; have sf0 : w3.frozen? ⟨w.heap.size + 1, 0, none⟩ = false := blk_free g1; have sc1 : w3.cell? ⟨w.heap.size + 1, 1, none⟩ = some (.slice none 0 0) := blk_cell g1; have sf1 : w3.frozen? ⟨w.heap.size + 1, 1, none⟩ = false := blk_free g1; have sc2 : w3.cell? ⟨w.heap.size + 1, 2, none⟩ = some (.slice none 0 0) := blk_cell g1; have sf2 : w3.frozen? ⟨w.heap.size + 1, 2, none⟩ = false := blk_free g1; have sc3 : w3.cell? ⟨w.heap.size + 1, 3, none⟩ = some (.slice none 0 0) := blk_cell g1; have sf3 : w3.frozen? ⟨w.heap.size + 1, 3, none⟩ = false := blk_free g1; have O1 := hidden o1; have O2 := hidden o2; have O3 := hidden o3; have OAP := hidden oap; have G1 := hidden g1; have K3 := hidden (K0.out.trans q3); clear o1 o2 o3 oap g1 q3)
  have hB : w.heap.size + 1 < ((w.alloc (.cells #[.bool false, .slice a1 k1 c1, .slice a2 k2 c2, .slice a3 k3 c3] 100)).alloc (.cells #[.bool false, .slice none 0 0, .slice none 0 0, .slice none 0 0] 100)).heap.size := by simp
  have gf := fill4 G1.out (.bool false) (.slice b1 k1 d1) (.slice b2 k2 d2) (.slice b3 k3 d3)
  have kf := kept_fill4 (W := w3) (g := w.heap.size + 1) (.bool false) (.slice b1 k1 d1) (.slice b2 k2 d2) (.slice b3 k3 d3)
  have sf := same_fill4 K3.out (g := w.heap.size + 1) (by omega) (.bool false) (.slice b1 k1 d1) (.slice b2 k2 d2) (.slice b3 k3 d3)
  generalize ((((w3.setCell ⟨w.heap.size + 1, 0, none⟩ (.bool false)).setCell ⟨w.heap.size + 1, 1, none⟩ (.slice b1 k1 d1)).setCell ⟨w.heap.size + 1, 2, none⟩ (.slice b2 k2 d2)).setCell ⟨w.heap.size + 1, 3, none⟩ (.slice b3 k3 d3)) = WF at gf kf sf ⊢
  have pc0 : WF.cell? ⟨w.heap.size + 1, 0, none⟩ = some (.bool false) := blk_cell gf
  have pc1 : WF.cell? ⟨w.heap.size + 1, 1, none⟩ = some (.slice b1 k1 d1) := blk_cell gf
  have pc2 : WF.cell? ⟨w.heap.size + 1, 2, none⟩ = some (.slice b2 k2 d2) := blk_cell gf
  have pc3 : WF.cell? ⟨w.heap.size + 1, 3, none⟩ = some (.slice b3 k3 d3) := blk_cell gf
  have e1 := E1.out
  have e2 := E2.out
  have e3 := E3.out
  subst e1 e2 e3
  refine bodyPost_ret (v := .tuple #[.agg #[.bool false, .slice b1 n.keys.length d1, .slice b2 n.vals.length d2, .slice b3 n.kids.length d3], .bool false]) (by simp [results, Tryz.results58, go_sem, pc0, pc1, pc2, pc3]) rfl ⟨_, rfl, ⟨⟨_, rfl, ⟨b1, b2, b3, d1, d2, d3, ?_, ?_, ?_, ?_, OAP.out⟩, sf⟩⟩⟩
  · rw [HL.out]
  · exact own_mono (own_kept O1.out kf (fun k hk hs => by have h1 := own_geN O1.out k hk; have h2 : k = w.heap.size + 1 := hs; omega)) K0.out.size
  · exact own_mono (own_kept O2.out kf (fun k hk hs => by have h1 := own_geN O2.out k hk; have h2 : k = w.heap.size + 1 := hs; omega)) K0.out.size
  · exact own_mono (own_kept O3.out kf (fun k hk hs => by have h1 := own_geN O3.out k hk; have h2 : k = w.heap.size + 1 := hs; omega)) K0.out.size
set_option maxHeartbeats 2000000 in
set_option maxRecDepth 100000 in
theorem remove_leaf (n : Nd) (a1 a2 a3 : Option Addr) (k1 c1 k2 c2 k3 c3 : Nat) (key : ByteArray) (w : World) (r1 : Row w (.slice a1 k1 c1) (TS n.keys)) (r2 : Row w (.slice a2 k2 c2) (TS n.vals)) (r3 : Row w (.slice a3 k3 c3) (IS n.kids)) (hb : n.Bd) (h1 : n.keys.length ≤ 8796093022208) (h2 : n.vals.length ≤ 8796093022208) (h3 : n.kids.length ≤ 17592186044416) (hl : n.leaf = true) (hls : n.lists = true) (hany : n.keys.any (fun x => x.toList == key.toList) = false) :
    Calls Tryz.prog 58 #[.agg #[.bool n.leaf, .slice a1 k1 c1, .slice a2 k2 c2, .slice a3 k3 c3], .string key] w fun e w' => ∃ u, e = .returned u ∧ RmP w n false u w' := by
  have HCl := hidden (fun W (k : Same w W) => clone_any n a1 a2 a3 k1 c1 k2 c2 k3 c3 W (r1.same k) (r2.same k) (r3.same k) h1 h2 h3)
  have HLs := hidden (fun W (k : Same w W) => mayLists_any n a1 a2 a3 k1 c1 k2 c2 k3 c3 W (r1.same k) (r2.same k) (r3.same k) hb)
  have HCo := hidden (fun W (k : Same w W) => contains_any key n.keys a1 k1 c1 W (r1.same k) hb.k)
  rw [hls] at HLs
  rw [hany] at HCo
  rw [hl] at HLs
  have E1 := hidden r1.tl
  have E2 := hidden r2.tl
  have E3 := hidden r3.il
  have HL := hidden hl
  have K0 : Hid (Same w ((w.alloc (.cells #[.bool true, .slice a1 k1 c1, .slice a2 k2 c2, .slice a3 k3 c3] 100)).alloc (.cells #[.bool false, .slice none 0 0, .slice none 0 0, .slice none 0 0] 100))) := hidden (((Kept.refl _ w).alloc _).alloc _)
  rw [hl] at HCl ⊢
  clear r1 r2 r3 hb h1 h2 h3 hl hls hany
  go_enter Tryz.func58, Tryz.ntmps58
  go_wp2_with (first
    | (go_at_call 119; refine (HLs.out _ K0.out).mono ?_; rintro e w1 ⟨rfl, q1⟩; have g0 : w1.heap[w.heap.size]? = some (.cells #[.bool true, .slice a1 k1 c1, .slice a2 k2 c2, .slice a3 k3 c3] 100 (0, 0)) := blk_kept q1 (fun h => h) (box_blk _ _ _); have g1 : w1.heap[w.heap.size + 1]? = some (.cells #[.bool false, .slice none 0 0, .slice none 0 0, .slice none 0 0] 100 (0, 0)) := blk_kept q1 (fun h => h) (zero_blk _ _); have xc0 : w1.cell? ⟨w.heap.size, 0, none⟩ = some (.bool true) := blk_cell g0; have xc1 : w1.cell? ⟨w.heap.size, 1, none⟩ = some (.slice a1 k1 c1) := blk_cell g0; have xc2 : w1.cell? ⟨w.heap.size, 2, none⟩ = some (.slice a2 k2 c2) := blk_cell g0; have xc3 : w1.cell? ⟨w.heap.size, 3, none⟩ = some (.slice a3 k3 c3) := blk_cell g0; have G0 := hidden g0; have GA := hidden g1; have K1 := hidden (K0.out.trans q1); clear q1 g0 g1)
    | (go_at_call 120; refine (HCo.out _ K1.out).mono ?_; rintro e w2 ⟨rfl, q2⟩; have g0 := blk_kept q2 (fun h => h) G0.out; have g1 := blk_kept q2 (fun h => h) GA.out; have yc0 : w2.cell? ⟨w.heap.size, 0, none⟩ = some (.bool true) := blk_cell g0; have yc1 : w2.cell? ⟨w.heap.size, 1, none⟩ = some (.slice a1 k1 c1) := blk_cell g0; have yc2 : w2.cell? ⟨w.heap.size, 2, none⟩ = some (.slice a2 k2 c2) := blk_cell g0; have yc3 : w2.cell? ⟨w.heap.size, 3, none⟩ = some (.slice a3 k3 c3) := blk_cell g0; have GB := hidden g1; have K2 := hidden (K1.out.trans q2); clear q2 g0 g1)
    | (go_at_call 115; refine (HCl.out _ K2.out).mono ?_; rintro e w3 ⟨u, rfl, hn, q3⟩; obtain ⟨b1, b2, b3, d1, d2, d3, rfl, o1, o2, o3, oap⟩ := hn.out; clear hn; rw [E1.out] at o1; rw [E2.out] at o2; rw [E3.out] at o3; rw [E1.out, E2.out] at oap; rw [E1.out, E2.out, E3.out, HL.out]; have g1 := blk_kept q3 (fun h => h) GB.out; have sc0 : w3.cell? ⟨w.heap.size + 1, 0, none⟩ = some (.bool false) := blk_cell g1; have sf0 : w3.frozen? ⟨w.heap.size + 1, 0, none⟩ = false := blk_free g1; have sc1 : w3.cell? ⟨w.heap.size + 1, 1, none⟩ = some (.slice none 0 0) := blk_cell g1; have sf1 : w3.frozen? ⟨w.heap.size + 1, 1, none⟩ = false := blk_free g1; have sc2 : w3.cell? ⟨w.heap.size + 1, 2, none⟩ = some (.slice none 0 0) := blk_cell g1; have sf2 : w3.frozen? ⟨w.heap.size + 1, 2, none⟩ = false := blk_free g1; have sc3 : w3.cell? ⟨w.heap.size + 1, 3, none⟩ = some (.slice none 0 0) := blk_cell g1; have sf3 : w3.frozen? ⟨w.heap.size + 1, 3, none⟩ = false := blk_free g1; have O1 := hidden o1; have O2 := hidden o2; have O3 := hidden o3; have OAP := hidden oap; have G1 := hidden g1; have K3 := hidden (K2.out.trans q3); clear o1 o2 o3 oap g1 q3))
  have hB := blk_lt GB.out
  have gf := fill4 G1.out (.bool true) (.slice b1 k1 d1) (.slice b2 k2 d2) (.slice b3 k3 d3)
  have kf := kept_fill4 (W := w3) (g := w.heap.size + 1) (.bool true) (.slice b1 k1 d1) (.slice b2 k2 d2) (.slice b3 k3 d3)
  have sf := same_fill4 K3.out (g := w.heap.size + 1) (by omega) (.bool true) (.slice b1 k1 d1) (.slice b2 k2 d2) (.slice b3 k3 d3)
  generalize ((((w3.setCell ⟨w.heap.size + 1, 0, none⟩ (.bool true)).setCell ⟨w.heap.size + 1, 1, none⟩ (.slice b1 k1 d1)).setCell ⟨w.heap.size + 1, 2, none⟩ (.slice b2 k2 d2)).setCell ⟨w.heap.size + 1, 3, none⟩ (.slice b3 k3 d3)) = WF at gf kf sf ⊢
  have pc0 : WF.cell? ⟨w.heap.size + 1, 0, none⟩ = some (.bool true) := blk_cell gf
  have pc1 : WF.cell? ⟨w.heap.size + 1, 1, none⟩ = some (.slice b1 k1 d1) := blk_cell gf
  have pc2 : WF.cell? ⟨w.heap.size + 1, 2, none⟩ = some (.slice b2 k2 d2) := blk_cell gf
  have pc3 : WF.cell? ⟨w.heap.size + 1, 3, none⟩ = some (.slice b3 k3 d3) := blk_cell gf
  have e1 := E1.out
  have e2 := E2.out
  have e3 := E3.out
  subst e1 e2 e3
  refine bodyPost_ret (v := .tuple #[.agg #[.bool true, .slice b1 n.keys.length d1, .slice b2 n.vals.length d2, .slice b3 n.kids.length d3], .bool false]) (by simp [results, Tryz.results58, go_sem, pc0, pc1, pc2, pc3]) rfl ⟨_, rfl, ⟨⟨_, rfl, ⟨b1, b2, b3, d1, d2, d3, ?_, ?_, ?_, ?_, OAP.out⟩, sf⟩⟩⟩
  · rw [HL.out]
  · exact own_mono (own_kept O1.out kf (fun k hk hs => by have h1 := own_geN O1.out k hk; have h2 : k = w.heap.size + 1 := hs; omega)) K2.out.size
  · exact own_mono (own_kept O2.out kf (fun k hk hs => by have h1 := own_geN O2.out k hk; have h2 : k = w.heap.size + 1 := hs; omega)) K2.out.size
  · exact own_mono (own_kept O3.out kf (fun k hk hs => by have h1 := own_geN O3.out k hk; have h2 : k = w.heap.size + 1 := hs; omega)) K2.out.size
end Go.Proofs.YtmlibjohhgpniaaGreatDoor
