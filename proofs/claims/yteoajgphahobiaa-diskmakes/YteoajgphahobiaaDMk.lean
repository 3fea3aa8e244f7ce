/- DiskMakes, walked. (Made by mkdm.py.) -/
import Derived.Test.YteoajgphahobiaaCh3
import Derived.Test.YteoajgphahobiaaPTab
import Derived.Deep.RegionHeld3
import Derived.Deep.Slices
import Derived.Carry
namespace Go.Proofs.Yteoajgphahobiaa
open Go.ChangeShapes Go.WideShapes Go.ChangeAt Go.RowKit Go.Joins Go.ChangeMaps
set_option linter.unusedVariables false
theorem bytesY1 : Try.prog.bytesOf 5 = 1 := by kernel_rfl
theorem cellsY1 : Try.prog.cellsOf 5 = 1 := by kernel_rfl
theorem U8_of' (z : Int) (h0 : 0 ≤ z) (h1 : z ≤ 255) : Value.int .u8 z = U8 (UInt8.ofNat z.toNat) := by
  obtain ⟨k, rfl⟩ := Int.eq_ofNat_of_zero_le h0
  have : (UInt8.ofNat k).toNat = k := by rw [UInt8.toNat_ofNat']; omega
  show Value.int .u8 (k : Int) = Value.int .u8 ((UInt8.ofNat k).toNat : Int)
  rw [this]
set_option maxRecDepth 100000 in
theorem dbytes_open {H : Type} {enc : TypeId × Value → H} {W : World} {base : Nat} {v : Value} {d : DataW H} {p : List MemPlace} (hv : Value.okWide Try.prog W .any base 22 v) (h : DataW.Trod enc Try.prog W 0 (fun _ => true) true 22 v d p)
    (ts : List TypeId) (ds : List (DataW H)) (j : Nat) (hall : (DataW.weightsEach Try.prog ts ds).all (· ≤ reachBytes) = true) (hts : ts[j]? = some 22) (hds : ds[j]? = some d) :
    ∃ l : List UInt8, Byt W v l ∧ l.length ≤ 140737488351232 := by
  obtain ⟨a1, len1, cap1, rfl⟩ := okWide_slice Try.underlying22 hv
  obtain ⟨fuel, hf⟩ := h
  rcases open_ints Try.underlying22 Try.underlying5 cellsY1 hf with ⟨hcs, hx⟩ | ⟨a, len, cap, zs, hcs, _, hl, hm, hz, hx, hcell, hwz⟩
  · simp [Value.cells] at hcs
    obtain ⟨rfl, rfl, rfl⟩ := hcs
    exact ⟨[], Or.inl ⟨rfl, rfl⟩, by simp⟩
  · simp [Value.cells] at hcs
    obtain ⟨rfl, rfl, rfl⟩ := hcs
    simp only [if_pos] at hz
    have hb : ∀ z ∈ zs, 0 ≤ z ∧ z ≤ 255 := fun z hz' => by simpa [Lit.wf, IntKind.min, IntKind.max, IntKind.signed, IntKind.bits] using hwz z hz'
    have hlen : ((zs.take len1).map fun z => UInt8.ofNat z.toNat).length = len1 := by rw [List.length_map, List.length_take]; omega
    refine ⟨(zs.take len1).map fun z => UInt8.ofNat z.toNat, Or.inr ⟨a, cap1, by rw [hlen], fun j hj => ?_⟩, ?_⟩
    · rw [hlen] at hj
      have hjz : j < zs.length := by omega
      rw [hcell j hjz]
      have h1 : zs.getD j 0 = zs[j] := by simp [hjz]
      have h3 := hb zs[j] (List.getElem_mem hjz)
      rw [h1, U8_of' _ h3.1 h3.2]
      simp
    · have hd : d = .slice (lits .u8 (zs.take len1)) (lits .u8 (zs.drop len1)) := congrArg Prod.fst hx
      rw [hd] at hds
      have := sized_slice hall (j := j) hts hds Try.underlying22
      rw [bytesY1] at this
      simp only [lits, List.length_map, List.length_take, List.length_drop, reachBytes] at this
      rw [hlen]
      omega
theorem byt_lies {w : World} {a : Option Addr} {L c : Nat} {l : List UInt8} (h : Byt w (.slice a L c) l) (hl : l.length = L) : Lies w a L (l.map U8) := fun hp => by
  rcases h with ⟨e, e2⟩ | ⟨ad, cap, e, hc⟩
  · rw [e2] at hl; simp at hl; omega
  · simp only [Value.slice.injEq] at e
    refine ⟨ad, e.1, fun j u hu => ?_⟩
    rw [List.getElem?_map, Option.map_eq_some_iff] at hu
    obtain ⟨x, hx, rfl⟩ := hu
    obtain ⟨hj, rfl⟩ := List.getElem?_eq_some_iff.1 hx
    exact hc j hj
theorem byt_own {w : World} {B L : Nat} {v : Value} {l : List UInt8} (h : w.ownsRow B 5 1 v L (l.map U8)) (hl : l.length = L) : Byt w v l := by
  subst hl
  rcases h.2 with ⟨e, e0⟩ | ⟨g, cap, cur, e, _⟩
  · exact Or.inl ⟨e, List.length_eq_zero_iff.1 e0⟩
  · exact Or.inr ⟨⟨g, 0, none⟩, cap, e, fun j hj => World.ownsRow.cells h (g := g) (by rw [e]; rfl) j _ (by rw [List.getElem?_map, List.getElem?_eq_getElem hj]; rfl)⟩
theorem zeros_flat (n c : Nat) : (List.replicate c (List.replicate n (0 : UInt8))).flatten = List.replicate (n * c) 0 := by rw [List.flatten_replicate_replicate, Nat.mul_comm]
theorem byt_zero {w : World} {b L : Nat} (h : w.heap[b]? = some (.cells (List.replicate L (U8 0)).toArray 5 (0, 0))) : Byt w (.slice (some ⟨b, 0, none⟩) L L) (List.replicate L 0) :=
  Or.inr ⟨⟨b, 0, none⟩, L, by simp, fun j hj => by rw [add_none, blk_cell h]; simp at hj; simp [hj]⟩
theorem one_of_u8 (l : List UInt8) : ∀ u ∈ l.map U8, u.oneCell' = true := fun u hu => by obtain ⟨b, _, rfl⟩ := List.mem_map.1 hu; exact U8_one b
theorem zd_off_b {n c g pb pc rb rc b N B : Nat} {s : St} {w w' : World} {cs : Array Value} (h : ZD (fun k => k < N) B n c g pb pc rb rc s w) (k : Kept (fun k => k = b) w w') (hb : w.heap[b]? = some (.cells cs 5 (0, 0))) (hN : b < N) : ZD (fun k => k < N) B n c g pb pc rb rc s w' := by
  obtain ⟨qv, qs, ps, rs, h1, h5, h6, h7, h8, h9, _⟩ := h.ex
  refine h.kept k (fun e => ?_) (fun e => ?_) (fun e => ?_) (fun i hi e => ?_) (fun i cs hi e => by rw [e]; exact hN)
  · rw [e, hb] at h1; simp at h1
  · exact own_apart h5 hb (by decide) (by rw [← e]; rfl)
  · exact own_apart h7 hb (by decide) (by rw [← e]; rfl)
  · rw [rowOf_dp h1] at hi
    exact own_apart h9 hb (by decide) (by rw [hi, e])
set_option maxHeartbeats 1000000 in
set_option maxRecDepth 100000 in
theorem makes_nn (n : Int) (c : Int) (va : Option Addr) (vc : Nat) (img : List UInt8) (L : Nat) (w : World) (hv : Byt w (.slice va L vc) img) (hi : img.length = L) (hLb : L ≤ 140737488351232) (hN : ¬ (JSize n ∧ 1 ≤ (c : Int) ∧ (c : Int) ≤ 4096)) (hM : ¬ MayLoad n L) :
    Calls Try.prog 3 #[.int .i64 n, .int .i64 c, .slice va L vc] w fun e w' => e = .returned (.bool true) ∧ Same w w' := by
  have HV : Hid (∀ W, Same w W → Byt W (.slice va L vc) img) := fun W kk => hv.same kk
  have HI := hidden hi
  obtain ⟨i5, hi5, hx0, hx1, hx2⟩ := info_parts info5
  have t1 : True := trivial
  have t2 : True := trivial
  clear hv hi
  have HNW := hidden (fun W => d_newNo n c W hN)
  have HRW := hidden (fun W => r_newNo n c W hN)
  clear hN
  have HLD := hidden (fun W a cap => load_no n a L cap W hM (by omega))
  have HRL := hidden (fun W => rload_no n va L vc W hM (by omega))
  clear hM
  go_enter Try.func3, Try.ntmps3
  go_wp2_with (first
    | (go_at_call 11; go_must (refine (d_lives _).mono ?_; rintro e w1 ⟨rfl, k1⟩; have K1 := hidden k1; clear k1))
    | (go_at_call 12; go_must (refine (HNW.out _).mono ?_; rintro e w2 ⟨rfl, rfl⟩))
    | (go_at_call 13; go_must (refine (HRW.out _).mono ?_; rintro e w2 ⟨rfl, rfl⟩)))
  go_quiet (fail)
  all_goals
    obtain ⟨w6, hw6, k6⟩ : ∃ W, W = w1.drewN nq ∧ Same w W := ⟨_, rfl, K1.out.trans ((Kept.refl _ w1).drewN nq)⟩
    rw [← hw6]
    have K6 := hidden k6
    clear hw6 k6
    have O6 : Hid ((w6.alloc (.cells #[] 5)).ownsRow w6.heap.size 5 1 (.slice (some ⟨w6.heap.size, 0, none⟩) 0 0) 0 []) := World.ownsRow_made w6 #[] 0 (Nat.le_refl _) (by decide) (by decide)
    go_wp2_with (first
      | (at_builtin; have _t := t1; go_must (refine wpList_append_any (by rfl) _ _ 22 (by rfl) w6.heap.size 5 i5 _ 1 1 Try.underlying22 hi5 hx0 hx1 hx2 rfl (by decide) _ _ _ _ (by rfl) O6.out va L vc (img.map U8) (by rfl) (by rw [List.length_map, HI.out, Nat.mul_one]) (byt_lies (HV.out _ (K6.out.alloc _)) HI.out) (one_of_u8 _) (by unfold maxLen; omega) (by omega) (by simp) ?_; intro a7 c7 w7 hown hgrow; have k67 := same_grown (m := 0) (same_alloc w6 _) O6.out hgrow; rw [Nat.zero_add, List.nil_append] at hown; have O7 := hidden hown; have K7 := hidden (K6.out.trans k67); clear t1 hown hgrow k67))
      | (go_at_call 18; go_must (refine (HLD.out _ _ _).mono ?_; rintro e w8 ⟨rfl, rfl⟩))
      | (go_at_call 19; go_must (refine (HRL.out _).mono ?_; rintro e w8 ⟨rfl, rfl⟩))
      | (go_at_call 14; go_must (refine (same_eq _ _ img _ (byt_own O7.out HI.out) (HV.out _ K7.out) (by rw [HI.out]; omega)).mono ?_; rintro e w9 ⟨rfl, k9⟩; have K9 := hidden (K7.out.trans k9); clear k9)))
    go_returns
    exact ⟨by first | rfl | simp, K9.out⟩
set_option maxHeartbeats 1000000 in
set_option maxRecDepth 100000 in
theorem makes_yn (n : Nat) (c : Nat) (va : Option Addr) (vc : Nat) (img : List UInt8) (L : Nat) (w : World) (hv : Byt w (.slice va L vc) img) (hi : img.length = L) (hLb : L ≤ 140737488351232) (hn : JSize n) (hc1 : 1 ≤ c) (hc2 : c ≤ 4096) (hM : ¬ MayLoad n L) :
    Calls Try.prog 3 #[.int .i64 n, .int .i64 c, .slice va L vc] w fun e w' => e = .returned (.bool true) ∧ Same w w' := by
  have HV : Hid (∀ W, Same w W → Byt W (.slice va L vc) img) := fun W kk => hv.same kk
  have HI := hidden hi
  obtain ⟨i5, hi5, hx0, hx1, hx2⟩ := info_parts info5
  have t1 : True := trivial
  have t2 : True := trivial
  clear hv hi
  have hn5 : 512 ≤ n := by have := hn.1; omega
  have hn4 : n ≤ 4096 := by have := hn.2.1; omega
  have hle : n * c ≤ 4096 * 4096 := Nat.mul_le_mul hn4 hc2
  obtain ⟨M, hM0⟩ : ∃ M, n * c = M := ⟨_, rfl⟩
  have hMb : M ≤ 16777216 := by omega
  have HNW := hidden (fun W => d_new n c W hn hc1 hc2)
  have HRW := hidden (fun W => r_new n c W hn hc1 hc2)
  have HZ0 := hidden (zeros_flat n c)
  rw [hM0] at HRW HZ0
  clear hn hle hM0
  have HLD := hidden (fun W a cap => load_no n a L cap W hM (by omega))
  have HRL := hidden (fun W => rload_no n va L vc W hM (by omega))
  clear hM
  go_enter Try.func3, Try.ntmps3
  go_wp2_with (first
    | (go_at_call 11; go_must (refine (d_lives _).mono ?_; rintro e w1 ⟨rfl, k1⟩; have K1 := hidden k1; clear k1))
    | (go_at_call 12; go_must (refine (HNW.out _).mono ?_; rintro e w2 ⟨g, rfl, m2⟩; obtain ⟨pb, rb, rc, z2, k2⟩ := m2.zd (by omega) (by omega) hc1 hc2; have Z2 := hidden z2; have K2 := hidden (K1.out.trans k2); clear z2 k2 m2))
    | (go_at_call 13; go_must (refine (HRW.out _).mono ?_; rintro e w3 ⟨x, rfl, hx, hb3, hp3, k3⟩; have Z3 := hidden (Z2.out.same k3); have x2 : w3.cell? ⟨x, 2, none⟩ = some (.slice (some ⟨w2.heap.size, 0, none⟩) M M) := blk_cell hb3; have P3 := hidden (byt_zero hp3); have K3 := hidden (K2.out.trans k3); clear hb3 hp3 k3)))
  go_region_held3 (fun w' => w'.cell? ⟨x, 2, none⟩ = some (.slice (some ⟨w2.heap.size, 0, none⟩) M M))
    (first | go_keep | (go_split_ands; assumption) | assumption)
    ((first
      | (go_at_call 15; go_must (refine (zd_image (Z3.out.same (Kept.refl _ w3).drew)).mono ?_; rintro e w4 ⟨u4, rfl, o4, k4⟩; have k4' := (Kept.refl (fun _ => False) w3).drew.trans k4; have x4 := Kept.cell k4' (fun h => h) x2; have B4 := hidden (show Byt w4 u4 (List.replicate M 0) by have h8 := o4.byt; rw [HZ0.out] at h8; exact h8); have P4 := hidden (P3.out.same k4'); have Z4 := hidden (Z3.out.same k4'); have K4 := hidden (K3.out.trans k4'); clear o4 k4 k4'))
      | (go_at_call 14; go_must (refine (same_eq _ _ _ _ B4.out P4.out (by simp; omega)).mono ?_; rintro e w5 ⟨rfl, k5⟩; have x5 := Kept.cell k5 (fun h => h) x4; have Z5 := hidden (Z4.out.same k5); have K5 := hidden (K4.out.trans k5); clear k5))
      | (go_at_call 16; go_must (refine (zd_size Z5.out).mono ?_; rintro e w6 ⟨rfl, rfl⟩))
      | (go_at_call 17; go_must (refine (zd_count Z5.out).mono ?_; rintro e w6 ⟨rfl, rfl⟩))))
  all_goals
    obtain ⟨w6, hw6, k6⟩ : ∃ W, W = w5 ∧ Same w W := ⟨_, rfl, K5.out⟩
    rw [← hw6]
    have K6 := hidden k6
    clear hw6 k6
    have O6 : Hid ((w6.alloc (.cells #[] 5)).ownsRow w6.heap.size 5 1 (.slice (some ⟨w6.heap.size, 0, none⟩) 0 0) 0 []) := World.ownsRow_made w6 #[] 0 (Nat.le_refl _) (by decide) (by decide)
    go_wp2_with (first
      | (at_builtin; have _t := t1; go_must (refine wpList_append_any (by rfl) _ _ 22 (by rfl) w6.heap.size 5 i5 _ 1 1 Try.underlying22 hi5 hx0 hx1 hx2 rfl (by decide) _ _ _ _ (by rfl) O6.out va L vc (img.map U8) (by rfl) (by rw [List.length_map, HI.out, Nat.mul_one]) (byt_lies (HV.out _ (K6.out.alloc _)) HI.out) (one_of_u8 _) (by unfold maxLen; omega) (by omega) (by simp) ?_; intro a7 c7 w7 hown hgrow; have k67 := same_grown (m := 0) (same_alloc w6 _) O6.out hgrow; rw [Nat.zero_add, List.nil_append] at hown; have O7 := hidden hown; have K7 := hidden (K6.out.trans k67); clear t1 hown hgrow k67))
      | (go_at_call 18; go_must (refine (HLD.out _ _ _).mono ?_; rintro e w8 ⟨rfl, rfl⟩))
      | (go_at_call 19; go_must (refine (HRL.out _).mono ?_; rintro e w8 ⟨rfl, rfl⟩))
      | (go_at_call 14; go_must (refine (same_eq _ _ img _ (byt_own O7.out HI.out) (HV.out _ K7.out) (by rw [HI.out]; omega)).mono ?_; rintro e w9 ⟨rfl, k9⟩; have K9 := hidden (K7.out.trans k9); clear k9)))
    go_returns
    exact ⟨by first | rfl | simp, K9.out⟩
set_option maxHeartbeats 1000000 in
set_option maxRecDepth 100000 in
theorem makes_ny (n : Nat) (c : Int) (va : Option Addr) (vc : Nat) (img : List UInt8) (L : Nat) (w : World) (hv : Byt w (.slice va L vc) img) (hi : img.length = L) (hLb : L ≤ 140737488351232) (hN : ¬ (JSize n ∧ 1 ≤ (c : Int) ∧ (c : Int) ≤ 4096)) (hn2 : JSize n) (q : Nat) (hq1 : 1 ≤ q) (hq2 : q ≤ 4096) (hL : L = n * q) :
    Calls Try.prog 3 #[.int .i64 n, .int .i64 c, .slice va L vc] w fun e w' => e = .returned (.bool true) ∧ Same w w' := by
  have HV : Hid (∀ W, Same w W → Byt W (.slice va L vc) img) := fun W kk => hv.same kk
  have HI := hidden hi
  obtain ⟨i5, hi5, hx0, hx1, hx2⟩ := info_parts info5
  have t1 : True := trivial
  have t2 : True := trivial
  clear hv hi
  have HNW := hidden (fun W => d_newNo n c W hN)
  have HRW := hidden (fun W => r_newNo n c W hN)
  clear hN
  have hq4 : n ≤ 4096 := by have := hn2.2.1; omega
  have hq5 : 512 ≤ n := by have := hn2.1; omega
  have hL1 : 1 ≤ L := by rw [hL]; exact Nat.mul_pos (by omega) hq1
  have HLD := hidden (fun W b cap (h : W.ownsRow 0 5 1 (.slice (some ⟨b, 0, none⟩) L cap) L (img.map U8)) => load_yes n q hn2 hq1 hq2 b cap L img W hL h)
  have HRL := hidden (fun W (kk : Same w W) => rload_yes n q hn2 hq1 hq2 (.slice va L vc) img L W hL HI.out (HV.out W kk))
  have HPF := hidden (pcs_flat q n img (by rw [HI.out]; exact hL))
  clear hn2 hL
  go_enter Try.func3, Try.ntmps3
  go_wp2_with (first
    | (go_at_call 11; go_must (refine (d_lives _).mono ?_; rintro e w1 ⟨rfl, k1⟩; have K1 := hidden k1; clear k1))
    | (go_at_call 12; go_must (refine (HNW.out _).mono ?_; rintro e w2 ⟨rfl, rfl⟩))
    | (go_at_call 13; go_must (refine (HRW.out _).mono ?_; rintro e w2 ⟨rfl, rfl⟩)))
  go_quiet (fail)
  all_goals
    obtain ⟨w6, hw6, k6⟩ : ∃ W, W = w1.drewN nq ∧ Same w W := ⟨_, rfl, K1.out.trans ((Kept.refl _ w1).drewN nq)⟩
    rw [← hw6]
    have K6 := hidden k6
    clear hw6 k6
    have O6 : Hid ((w6.alloc (.cells #[] 5)).ownsRow w6.heap.size 5 1 (.slice (some ⟨w6.heap.size, 0, none⟩) 0 0) 0 []) := World.ownsRow_made w6 #[] 0 (Nat.le_refl _) (by decide) (by decide)
    go_wp2_with (first
      | (at_builtin; have _t := t1; go_must (refine wpList_append_any (by rfl) _ _ 22 (by rfl) w6.heap.size 5 i5 _ 1 1 Try.underlying22 hi5 hx0 hx1 hx2 rfl (by decide) _ _ _ _ (by rfl) O6.out va L vc (img.map U8) (by rfl) (by rw [List.length_map, HI.out, Nat.mul_one]) (byt_lies (HV.out _ (K6.out.alloc _)) HI.out) (one_of_u8 _) (by unfold maxLen; omega) (by omega) (by simp) ?_; intro a7 c7 w7 hown hgrow; have k67 := same_grown (m := 0) (same_alloc w6 _) O6.out hgrow; rw [Nat.zero_add, List.nil_append] at hown; obtain ⟨b, c7', e7, hb7, hb8⟩ := hown.form hL1; simp only [Value.slice.injEq] at e7; obtain ⟨rfl, -, rfl⟩ := e7; have HB7 := hidden hb7; clear hb7 hb8; have O7 := hidden hown; have K7 := hidden (K6.out.trans k67); clear t1 hown hgrow k67))
      | (go_at_call 18; go_must (refine (HLD.out _ _ _ (own_base O7.out)).mono ?_; rintro e w8 ⟨g8, pb8, pc8, rb8, rc8, rfl, z8, k8⟩; have Z8 := hidden z8; have O8 := hidden (own_kept O7.out k8 (fun _ _ h => h)); have K8 := hidden (K7.out.trans k8); have K78 := hidden k8; clear z8 k8))
      | (go_at_call 19; go_must (refine (HRL.out _ K8.out).mono ?_; rintro e w9 ⟨x9, rfl, hx9, hxs, k9⟩; have X9 := hidden hx9; have HXS := hidden hxs; have Z9 := hidden (Z8.out.same k9); have O9 := hidden (own_kept O8.out k9 (fun _ _ h => h)); have K9 := hidden (K8.out.trans k9); clear hx9 k9))
      | (go_at_call 14; go_must (refine (same_eq _ _ img _ (byt_own O9.out HI.out) (HV.out _ K9.out) (by rw [HI.out]; omega)).mono ?_; rintro e wA ⟨rfl, kA⟩; have XA := hidden (Kept.cell kA (fun h => h) X9.out); have ZA := hidden (Z9.out.same kA); have OA := hidden (own_base (own_kept O9.out kA (fun _ _ h => h))); have KA := hidden (K9.out.trans kA); clear kA)))
    have hsz7 : w.heap.size ≤ b := by have h1 := HB7.out; have h2 := K6.out.size; omega
    have hxb : b < w7.heap.size := (O7.out.lt b rfl).2
    have hxx : w8.heap.size ≤ x9 := HXS.out
    have hz8 : w7.heap.size ≤ w8.heap.size := K78.out.size
    go_loopw [12] (fun iv wr => ∃ (i : Nat) (xs : List Value), i ≤ L ∧ iv = .int .i64 i ∧ (∀ j, j < L → ∃ z : Int, xs[j]? = some (.int .u8 z)) ∧ wr.ownsRow 0 5 1 (.slice (some ⟨b, 0, none⟩) L c7) L xs ∧ Kept (fun k => k = b) wA wr) (fun iv wr => L - (intOf iv).toNat)
    case atStart => exact ⟨0, img.map U8, Nat.zero_le _, rfl, fun j hj => ⟨_, by rw [List.getElem?_map, List.getElem?_eq_getElem (by rw [HI.out]; exact hj)]; rfl⟩, OA.out, Kept.refl _ _⟩
    case round =>
      obtain ⟨i, xs, hi, rfl, hxs2, hO, hK⟩ := hrel
      have HX2 := hidden hxs2
      have HO := hidden hO
      have HK := hidden hK
      clear hxs2 hO hK
      by_cases hlt : i < L
      · obtain ⟨z, hz⟩ := HX2.out i hlt
        obtain ⟨cz, cf⟩ := own_cell HO.out _ hz
        have q1 : (i : Int) < (L : Int) := by omega
        have q0 : (0 : Int) ≤ (i : Int) := Int.natCast_nonneg _
        go_wp2
        go_roundw
        case rel => exact ⟨i + 1, _, by omega, by go_num, fun j hj => by
            by_cases e : j = i
            · subst e; exact ⟨_, by rw [List.getElem?_set_self (by have h8 := HO.out.1; omega)]⟩
            · rw [List.getElem?_set_ne (Ne.symm e)]; exact HX2.out j hj, own_set (i := i) HO.out hlt _, HK.out.setCell (p := ⟨b, i, none⟩) rfl _⟩
        case measure => simp [intOf]; omega
      · obtain rfl : i = L := by omega
        have q1 : ¬ (i : Int) < (i : Int) := by omega
        have hbA : ∃ cs, wA.heap[b]? = some (.cells cs 5 (0, 0)) := by
          rcases OA.out.2 with ⟨e, _⟩ | ⟨g', cap', cur, e, _, hg, _⟩
          · cases e
          · obtain ⟨rfl, _⟩ : b = g' ∧ c7 = cap' := by simpa using e
            exact ⟨_, hg⟩
        obtain ⟨csb, hbA⟩ := hbA
        have ZR := hidden (zd_off_b ZA.out HK.out hbA hxb)
        have xr : wr.cell? ⟨x9, 1, none⟩ = some (.int .i64 q) := Kept.cell HK.out (by show ¬ x9 = b; omega) XA.out
        have KR : Hid (Same w wr) := KA.out.trans' HK.out (fun j hj e => by omega)
        have hsb : SB 0 (⟨pcs n q img, [], false, 0, 0, 0, 0⟩ : St) := ⟨Nat.le_refl _, Nat.le_refl _, Nat.le_refl _, Nat.le_refl _⟩
        go_wp2
        go_region_held3 (fun w' => w'.cell? ⟨x9, 1, none⟩ = some (.int .i64 q))
          (first | go_keep | (go_split_ands; assumption) | assumption)
          ((first
            | (go_at_call 15; go_must (refine (zd_image (ZR.out.same (Kept.refl _ wr).drew)).mono ?_; rintro e v4 ⟨u4, rfl, o4, k4⟩; have k4' := (Kept.refl (fun _ => False) wr).drew.trans k4; have x4 := Kept.cell k4' (fun h => h) xr; have B4 := hidden (show Byt v4 u4 img by have h8 := o4.byt; rw [show (⟨pcs n q img, [], false, 0, 0, 0, 0⟩ : St).pl.flatten = img from HPF.out] at h8; exact h8); have Z4' := hidden (ZR.out.same k4'); have K4' := hidden (KR.out.trans k4'); clear o4 k4 k4'))
            | (go_at_call 14; go_must (refine (same_eq _ _ img _ B4.out (HV.out _ K4'.out) (by rw [HI.out]; omega)).mono ?_; rintro e v5 ⟨rfl, k5⟩; have x5' := Kept.cell k5 (fun h => h) x4; have Z5' := hidden (Z4'.out.same k5); have K5' := hidden (K4'.out.trans k5); clear k5))
            | (go_at_call 16; go_must (refine (zd_size Z5'.out).mono ?_; rintro e v6 ⟨rfl, rfl⟩))
            | (go_at_call 17; go_must (refine (zd_count Z5'.out).mono ?_; rintro e v6 ⟨rfl, rfl⟩))
            | (go_at_call 20; go_must (refine (zd_pending Z5'.out hsb (by decide)).mono ?_; rintro e v7 ⟨rfl, _, k7⟩; have x7 := Kept.cell k7 (fun h => h) x5'; have K7' := hidden (K5'.out.trans k7); clear k7))))
        go_wp2
        go_returns
        exact ⟨by first | rfl | simp, K7'.out⟩
set_option maxHeartbeats 1000000 in
set_option maxRecDepth 100000 in
theorem makes_yy (n : Nat) (c : Nat) (va : Option Addr) (vc : Nat) (img : List UInt8) (L : Nat) (w : World) (hv : Byt w (.slice va L vc) img) (hi : img.length = L) (hLb : L ≤ 140737488351232) (hn : JSize n) (hc1 : 1 ≤ c) (hc2 : c ≤ 4096) (hn2 : JSize n) (q : Nat) (hq1 : 1 ≤ q) (hq2 : q ≤ 4096) (hL : L = n * q) :
    Calls Try.prog 3 #[.int .i64 n, .int .i64 c, .slice va L vc] w fun e w' => e = .returned (.bool true) ∧ Same w w' := by
  have HV : Hid (∀ W, Same w W → Byt W (.slice va L vc) img) := fun W kk => hv.same kk
  have HI := hidden hi
  obtain ⟨i5, hi5, hx0, hx1, hx2⟩ := info_parts info5
  have t1 : True := trivial
  have t2 : True := trivial
  clear hv hi
  have hn5 : 512 ≤ n := by have := hn.1; omega
  have hn4 : n ≤ 4096 := by have := hn.2.1; omega
  have hle : n * c ≤ 4096 * 4096 := Nat.mul_le_mul hn4 hc2
  obtain ⟨M, hM0⟩ : ∃ M, n * c = M := ⟨_, rfl⟩
  have hMb : M ≤ 16777216 := by omega
  have HNW := hidden (fun W => d_new n c W hn hc1 hc2)
  have HRW := hidden (fun W => r_new n c W hn hc1 hc2)
  have HZ0 := hidden (zeros_flat n c)
  rw [hM0] at HRW HZ0
  clear hn hle hM0
  have hq4 : n ≤ 4096 := by have := hn2.2.1; omega
  have hq5 : 512 ≤ n := by have := hn2.1; omega
  have hL1 : 1 ≤ L := by rw [hL]; exact Nat.mul_pos (by omega) hq1
  have HLD := hidden (fun W b cap (h : W.ownsRow 0 5 1 (.slice (some ⟨b, 0, none⟩) L cap) L (img.map U8)) => load_yes n q hn2 hq1 hq2 b cap L img W hL h)
  have HRL := hidden (fun W (kk : Same w W) => rload_yes n q hn2 hq1 hq2 (.slice va L vc) img L W hL HI.out (HV.out W kk))
  have HPF := hidden (pcs_flat q n img (by rw [HI.out]; exact hL))
  clear hn2 hL
  go_enter Try.func3, Try.ntmps3
  go_wp2_with (first
    | (go_at_call 11; go_must (refine (d_lives _).mono ?_; rintro e w1 ⟨rfl, k1⟩; have K1 := hidden k1; clear k1))
    | (go_at_call 12; go_must (refine (HNW.out _).mono ?_; rintro e w2 ⟨g, rfl, m2⟩; obtain ⟨pb, rb, rc, z2, k2⟩ := m2.zd (by omega) (by omega) hc1 hc2; have Z2 := hidden z2; have K2 := hidden (K1.out.trans k2); clear z2 k2 m2))
    | (go_at_call 13; go_must (refine (HRW.out _).mono ?_; rintro e w3 ⟨x, rfl, hx, hb3, hp3, k3⟩; have Z3 := hidden (Z2.out.same k3); have x2 : w3.cell? ⟨x, 2, none⟩ = some (.slice (some ⟨w2.heap.size, 0, none⟩) M M) := blk_cell hb3; have P3 := hidden (byt_zero hp3); have K3 := hidden (K2.out.trans k3); clear hb3 hp3 k3)))
  go_region_held3 (fun w' => w'.cell? ⟨x, 2, none⟩ = some (.slice (some ⟨w2.heap.size, 0, none⟩) M M))
    (first | go_keep | (go_split_ands; assumption) | assumption)
    ((first
      | (go_at_call 15; go_must (refine (zd_image (Z3.out.same (Kept.refl _ w3).drew)).mono ?_; rintro e w4 ⟨u4, rfl, o4, k4⟩; have k4' := (Kept.refl (fun _ => False) w3).drew.trans k4; have x4 := Kept.cell k4' (fun h => h) x2; have B4 := hidden (show Byt w4 u4 (List.replicate M 0) by have h8 := o4.byt; rw [HZ0.out] at h8; exact h8); have P4 := hidden (P3.out.same k4'); have Z4 := hidden (Z3.out.same k4'); have K4 := hidden (K3.out.trans k4'); clear o4 k4 k4'))
      | (go_at_call 14; go_must (refine (same_eq _ _ _ _ B4.out P4.out (by simp; omega)).mono ?_; rintro e w5 ⟨rfl, k5⟩; have x5 := Kept.cell k5 (fun h => h) x4; have Z5 := hidden (Z4.out.same k5); have K5 := hidden (K4.out.trans k5); clear k5))
      | (go_at_call 16; go_must (refine (zd_size Z5.out).mono ?_; rintro e w6 ⟨rfl, rfl⟩))
      | (go_at_call 17; go_must (refine (zd_count Z5.out).mono ?_; rintro e w6 ⟨rfl, rfl⟩))))
  all_goals
    obtain ⟨w6, hw6, k6⟩ : ∃ W, W = w5 ∧ Same w W := ⟨_, rfl, K5.out⟩
    rw [← hw6]
    have K6 := hidden k6
    clear hw6 k6
    have O6 : Hid ((w6.alloc (.cells #[] 5)).ownsRow w6.heap.size 5 1 (.slice (some ⟨w6.heap.size, 0, none⟩) 0 0) 0 []) := World.ownsRow_made w6 #[] 0 (Nat.le_refl _) (by decide) (by decide)
    go_wp2_with (first
      | (at_builtin; have _t := t1; go_must (refine wpList_append_any (by rfl) _ _ 22 (by rfl) w6.heap.size 5 i5 _ 1 1 Try.underlying22 hi5 hx0 hx1 hx2 rfl (by decide) _ _ _ _ (by rfl) O6.out va L vc (img.map U8) (by rfl) (by rw [List.length_map, HI.out, Nat.mul_one]) (byt_lies (HV.out _ (K6.out.alloc _)) HI.out) (one_of_u8 _) (by unfold maxLen; omega) (by omega) (by simp) ?_; intro a7 c7 w7 hown hgrow; have k67 := same_grown (m := 0) (same_alloc w6 _) O6.out hgrow; rw [Nat.zero_add, List.nil_append] at hown; obtain ⟨b, c7', e7, hb7, hb8⟩ := hown.form hL1; simp only [Value.slice.injEq] at e7; obtain ⟨rfl, -, rfl⟩ := e7; have HB7 := hidden hb7; clear hb7 hb8; have O7 := hidden hown; have K7 := hidden (K6.out.trans k67); clear t1 hown hgrow k67))
      | (go_at_call 18; go_must (refine (HLD.out _ _ _ (own_base O7.out)).mono ?_; rintro e w8 ⟨g8, pb8, pc8, rb8, rc8, rfl, z8, k8⟩; have Z8 := hidden z8; have O8 := hidden (own_kept O7.out k8 (fun _ _ h => h)); have K8 := hidden (K7.out.trans k8); have K78 := hidden k8; clear z8 k8))
      | (go_at_call 19; go_must (refine (HRL.out _ K8.out).mono ?_; rintro e w9 ⟨x9, rfl, hx9, hxs, k9⟩; have X9 := hidden hx9; have HXS := hidden hxs; have Z9 := hidden (Z8.out.same k9); have O9 := hidden (own_kept O8.out k9 (fun _ _ h => h)); have K9 := hidden (K8.out.trans k9); clear hx9 k9))
      | (go_at_call 14; go_must (refine (same_eq _ _ img _ (byt_own O9.out HI.out) (HV.out _ K9.out) (by rw [HI.out]; omega)).mono ?_; rintro e wA ⟨rfl, kA⟩; have XA := hidden (Kept.cell kA (fun h => h) X9.out); have ZA := hidden (Z9.out.same kA); have OA := hidden (own_base (own_kept O9.out kA (fun _ _ h => h))); have KA := hidden (K9.out.trans kA); clear kA)))
    have hsz7 : w.heap.size ≤ b := by have h1 := HB7.out; have h2 := K6.out.size; omega
    have hxb : b < w7.heap.size := (O7.out.lt b rfl).2
    have hxx : w8.heap.size ≤ x9 := HXS.out
    have hz8 : w7.heap.size ≤ w8.heap.size := K78.out.size
    go_loopw [12] (fun iv wr => ∃ (i : Nat) (xs : List Value), i ≤ L ∧ iv = .int .i64 i ∧ (∀ j, j < L → ∃ z : Int, xs[j]? = some (.int .u8 z)) ∧ wr.ownsRow 0 5 1 (.slice (some ⟨b, 0, none⟩) L c7) L xs ∧ Kept (fun k => k = b) wA wr) (fun iv wr => L - (intOf iv).toNat)
    case atStart => exact ⟨0, img.map U8, Nat.zero_le _, rfl, fun j hj => ⟨_, by rw [List.getElem?_map, List.getElem?_eq_getElem (by rw [HI.out]; exact hj)]; rfl⟩, OA.out, Kept.refl _ _⟩
    case round =>
      obtain ⟨i, xs, hi, rfl, hxs2, hO, hK⟩ := hrel
      have HX2 := hidden hxs2
      have HO := hidden hO
      have HK := hidden hK
      clear hxs2 hO hK
      by_cases hlt : i < L
      · obtain ⟨z, hz⟩ := HX2.out i hlt
        obtain ⟨cz, cf⟩ := own_cell HO.out _ hz
        have q1 : (i : Int) < (L : Int) := by omega
        have q0 : (0 : Int) ≤ (i : Int) := Int.natCast_nonneg _
        go_wp2
        go_roundw
        case rel => exact ⟨i + 1, _, by omega, by go_num, fun j hj => by
            by_cases e : j = i
            · subst e; exact ⟨_, by rw [List.getElem?_set_self (by have h8 := HO.out.1; omega)]⟩
            · rw [List.getElem?_set_ne (Ne.symm e)]; exact HX2.out j hj, own_set (i := i) HO.out hlt _, HK.out.setCell (p := ⟨b, i, none⟩) rfl _⟩
        case measure => simp [intOf]; omega
      · obtain rfl : i = L := by omega
        have q1 : ¬ (i : Int) < (i : Int) := by omega
        have hbA : ∃ cs, wA.heap[b]? = some (.cells cs 5 (0, 0)) := by
          rcases OA.out.2 with ⟨e, _⟩ | ⟨g', cap', cur, e, _, hg, _⟩
          · cases e
          · obtain ⟨rfl, _⟩ : b = g' ∧ c7 = cap' := by simpa using e
            exact ⟨_, hg⟩
        obtain ⟨csb, hbA⟩ := hbA
        have ZR := hidden (zd_off_b ZA.out HK.out hbA hxb)
        have xr : wr.cell? ⟨x9, 1, none⟩ = some (.int .i64 q) := Kept.cell HK.out (by show ¬ x9 = b; omega) XA.out
        have KR : Hid (Same w wr) := KA.out.trans' HK.out (fun j hj e => by omega)
        have hsb : SB 0 (⟨pcs n q img, [], false, 0, 0, 0, 0⟩ : St) := ⟨Nat.le_refl _, Nat.le_refl _, Nat.le_refl _, Nat.le_refl _⟩
        go_wp2
        go_region_held3 (fun w' => w'.cell? ⟨x9, 1, none⟩ = some (.int .i64 q))
          (first | go_keep | (go_split_ands; assumption) | assumption)
          ((first
            | (go_at_call 15; go_must (refine (zd_image (ZR.out.same (Kept.refl _ wr).drew)).mono ?_; rintro e v4 ⟨u4, rfl, o4, k4⟩; have k4' := (Kept.refl (fun _ => False) wr).drew.trans k4; have x4 := Kept.cell k4' (fun h => h) xr; have B4 := hidden (show Byt v4 u4 img by have h8 := o4.byt; rw [show (⟨pcs n q img, [], false, 0, 0, 0, 0⟩ : St).pl.flatten = img from HPF.out] at h8; exact h8); have Z4' := hidden (ZR.out.same k4'); have K4' := hidden (KR.out.trans k4'); clear o4 k4 k4'))
            | (go_at_call 14; go_must (refine (same_eq _ _ img _ B4.out (HV.out _ K4'.out) (by rw [HI.out]; omega)).mono ?_; rintro e v5 ⟨rfl, k5⟩; have x5' := Kept.cell k5 (fun h => h) x4; have Z5' := hidden (Z4'.out.same k5); have K5' := hidden (K4'.out.trans k5); clear k5))
            | (go_at_call 16; go_must (refine (zd_size Z5'.out).mono ?_; rintro e v6 ⟨rfl, rfl⟩))
            | (go_at_call 17; go_must (refine (zd_count Z5'.out).mono ?_; rintro e v6 ⟨rfl, rfl⟩))
            | (go_at_call 20; go_must (refine (zd_pending Z5'.out hsb (by decide)).mono ?_; rintro e v7 ⟨rfl, _, k7⟩; have x7 := Kept.cell k7 (fun h => h) x5'; have K7' := hidden (K5'.out.trans k7); clear k7))))
        go_wp2
        go_returns
        exact ⟨by first | rfl | simp, K7'.out⟩
theorem makes_walk (n c : Int) (v : Value) (img : List UInt8) (w : World) (_ : -9223372036854775808 ≤ n) (_ : n ≤ 9223372036854775807) (_ : -9223372036854775808 ≤ c) (_ : c ≤ 9223372036854775807) (hv : Byt w v img) (hl : img.length ≤ 140737488351232) :
    Calls Try.prog 3 #[.int .i64 n, .int .i64 c, v] w fun e w' => e = .returned (.bool true) ∧ Same w w' := by
  obtain ⟨va, vc, rfl⟩ := hv.form
  by_cases hM : MayLoad n img.length
  · obtain ⟨hn, h2, h3, h4⟩ := hM
    obtain ⟨n, rfl⟩ := Int.eq_ofNat_of_zero_le (show 0 ≤ n by have := hn.1; omega)
    have hn5 : 512 ≤ n := by have := hn.1; omega
    have hq : ((img.length / n : Nat) : Int) = (img.length : Int) / (n : Int) := by simp
    have hL : img.length = n * (img.length / n) := by
      have h5 : img.length % n = 0 := by
        have h6 : ((img.length % n : Nat) : Int) = (img.length : Int) % (n : Int) := by simp
        rw [h2] at h6
        omega
      have h7 := Nat.div_add_mod img.length n
      rw [h5] at h7
      omega
    by_cases hN : JSize (n : Int) ∧ 1 ≤ c ∧ c ≤ 4096
    · obtain ⟨c, rfl⟩ := Int.eq_ofNat_of_zero_le (show 0 ≤ c by omega)
      exact makes_yy n c va vc img img.length w hv rfl hl hN.1 (by omega) (by omega) hn (img.length / n) (by omega) (by omega) hL
    · exact makes_ny n c va vc img img.length w hv rfl hl hN hn (img.length / n) (by omega) (by omega) hL
  · by_cases hN : JSize n ∧ 1 ≤ c ∧ c ≤ 4096
    · obtain ⟨n, rfl⟩ := Int.eq_ofNat_of_zero_le (show 0 ≤ n by have := hN.1.1; omega)
      obtain ⟨c, rfl⟩ := Int.eq_ofNat_of_zero_le (show 0 ≤ c by omega)
      exact makes_yn n c va vc img img.length w hv rfl hl hN.1 (by omega) (by omega) hM
    · exact makes_nn n c va vc img img.length w hv rfl hl hN hM
end Go.Proofs.Yteoajgphahobiaa
