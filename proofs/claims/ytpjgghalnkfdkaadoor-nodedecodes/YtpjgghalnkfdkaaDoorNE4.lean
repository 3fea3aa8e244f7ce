/- node: Encode, whatever it is handed. -/
import Derived.Test.YtpjgghalnkfdkaaDoorNE3
namespace Go.Proofs.YtpjgghalnkfdkaaDoor
open Go.RowKit
set_option linter.unusedVariables false
set_option linter.unusedSimpArgs false
/-- The error that Encode tells. -/
def Nd.encE (n : Nd) (sz : Int) : Int := if n.chk = 0 then (if JSize sz then (if sz < (n.size : Int) then 2 else 0) else 1) else n.chk
/-- The bytes that Encode tells. -/
def Nd.encB (n : Nd) (sz : Int) : List UInt8 := if n.encE sz = 0 then n.enc sz.toNat else []
structure EnQ (n : Nd) (sz : Int) (w : World) (u : Value) (W : World) : Prop where
  out : ∃ v, u = .tuple #[v, .int .i64 (n.encE sz)] ∧ Bt W v (n.encB sz) ∧ Same w W
theorem fine_size {n : Nd} (h : n.Fine) : n.size = n.base + n.pre n.keys.length := by
  unfold Nd.size Nd.base
  cases hl : n.leaf
  · rw [Nd.pre_all_inner h hl]; simp; omega
  · rw [Nd.pre_all_leaf h hl]; simp; omega
theorem chk_fine {n : Nd} (h : n.chk = 0) : n.Fine := fine_part (chk_part h).1
theorem chk_cases (n : Nd) : n.chk = 0 ∨ n.chk = 90 ∨ n.chk = 91 := by
  unfold Nd.chk
  split
  · split
    · exact .inl rfl
    · exact .inr (.inl rfl)
  · exact .inr (.inr rfl)
theorem fine_keys {n : Nd} (h : n.Fine) : n.keys.length ≤ n.size := by
  rw [fine_size h]
  have : ∀ k, k ≤ n.keys.length → k ≤ n.pre k := by
    intro k
    induction k with
    | zero => intro _; exact Nat.zero_le _
    | succ k ih => intro hk; have := ih (by omega); have := (h.es_le (i := k) (by omega)).1; simp only [Nd.pre]; omega
  have := this _ (Nat.le_refl _)
  omega
set_option maxHeartbeats 4000000 in
set_option maxRecDepth 100000 in
theorem encode_ok (n : Nd) (a1 a2 a3 : Option Addr) (k1 c1 k2 c2 k3 c3 : Nat) (sz : Nat) (w : World) (r1 : Row w (.slice a1 k1 c1) (TS n.keys)) (r2 : Row w (.slice a2 k2 c2) (TS n.vals)) (r3 : Row w (.slice a3 k3 c3) (IS n.kids)) (hb : n.Bd) (hbd : n.keys.length ≤ 8796093022208) (hc : n.chk = 0) (hj : JSize sz) (hfit : n.size ≤ sz) (hT : Tab w) :
    Calls Tryd.prog 9 #[.int .i64 (sz : Nat), .agg #[.bool n.leaf, .slice a1 k1 c1, .slice a2 k2 c2, .slice a3 k3 c3]] w fun e w' => ∃ u, e = .returned u ∧ EnP sz (n.enc sz) w u w' := by
  obtain ⟨i0, hi, hz0, hz1, hz2⟩ := info_parts info5
  have hF := chk_fine hc
  have hbl := body_len hF
  have hs : sz ≤ 4096 := by have := hj.2.1; omega
  have hs0 : 512 ≤ sz := by have := hj.1; omega
  have hke : n.keys.length < 65536 := by have := fine_keys hF; omega
  have HCk := hidden (fun W (k : Same w W) => check_any n a1 a2 a3 k1 c1 k2 c2 k3 c3 W (r1.same k) (r2.same k) (r3.same k) hb)
  have hns := fun W u (q : NdR W u n) => nsize_any n u W q hF hb hbd
  rw [← fine_size hF, ← hbl] at hns
  have e1 := r1.tl
  have e2 := r2.tl
  have e3 := r3.il
  have HSz := hidden (fun W (k : Same w W) => hns W (.agg #[.bool n.leaf, .slice a1 k1 c1, .slice a2 k2 c2, .slice a3 k3 c3]) ⟨a1, a2, a3, c1, c2, c3, by rw [e1, e2, e3], by rw [e1]; exact r1.same k, by rw [e2]; exact r2.same k, by rw [e3]; exact r3.same k⟩)
  have HEn := hidden (fun W (k : Same w W) => entriesOf_any n a1 a2 a3 k1 c1 k2 c2 k3 c3 sz W (r1.same k) (r2.same k) (r3.same k) hb hF hs (by omega) (by omega))
  have HHd := hidden (fun W (k : Same w W) => headOf_any n a1 a2 a3 k1 c1 k2 c2 k3 c3 n.body W (by rw [← r1.tl]; exact hke) (by omega) (hT.same k))
  have hkd : n.kd < 256 := by unfold Nd.kd; split <;> decide
  have hcl := crc_lt ((headB n.kd k1 n.body.length 0).take 12 ++ n.body)
  have HTx := hidden (fun W => text_any n.kd k1 n.body.length (crc ((headB n.kd k1 n.body.length 0).take 12 ++ n.body)) hkd (by rw [← r1.tl]; exact hke) (by omega) hcl W)
  have HMs := hidden (fun W => maySize_any (sz : Int) W)
  have hjt : decide (JSize (sz : Int)) = true := decide_eq_true hj
  rw [hjt] at HMs
  have HL : Hid (n.enc sz = headB n.kd k1 n.body.length (crc ((headB n.kd k1 n.body.length 0).take 12 ++ n.body)) ++ (n.body ++ List.replicate (sz - (16 + n.body.length)) 0)) := by rw [Hid, Nd.enc, encS, encH, r1.tl]
  have hH16 := headB_len n.kd k1 n.body.length (crc ((headB n.kd k1 n.body.length 0).take 12 ++ n.body))
  rw [hc] at HCk
  have hesz : 16 + n.body.length ≤ sz := by omega
  have K0 : Hid (Same w (w.alloc (.cells #[.bool n.leaf, .slice a1 k1 c1, .slice a2 k2 c2, .slice a3 k3 c3] 25))) := hidden (same_alloc _ _)
  unfold hdV at HHd
  clear hT hke hfit hc hb r1 r2 r3 hcl hns hF hj hjt hbd e1 e2 e3 hkd hbl
  generalize crc ((headB n.kd k1 n.body.length 0).take 12 ++ n.body) = c at *
  generalize n.kd = kd at *
  generalize n.enc sz = EL at *
  generalize n.body = es at *
  generalize headB kd k1 es.length c = H16 at *
  have HLH := hidden hH16
  have hgt : ¬ (sz : Int) < ((16 + es.length : Nat) : Int) := by omega
  have hmk0 := fun W => make_bytes sz (by omega) W
  obtain ⟨ZA, hZA⟩ : ∃ ZA, (List.replicate sz (U8 0)).toArray = ZA := ⟨_, rfl⟩
  rw [hZA] at hmk0
  have HZA := hidden hZA
  have hmk := hidden hmk0
  have hsk : 16 + (sz - 16) = sz := by omega
  obtain ⟨s16, hs16⟩ : ∃ s16, sz - 16 = s16 := ⟨_, rfl⟩
  rw [hs16] at hsk
  have hs16' : 0 < s16 ∧ es.length ≤ s16 := by omega
  have HSL := hidden (fun g W => slice16 g sz (by omega) W s16 hsk hs16'.1)
  have hzsz : ZA.size = sz := by rw [← hZA]; simp
  have HZS := hidden hzsz
  clear hmk0 hZA hs16 hzsz
  clear hH16
  go_enter Tryd.func9, Tryd.ntmps9
  go_wp2_with (first
    | (go_at_call 13; refine (HCk.out _ K0.out).mono ?_; rintro e w1 ⟨rfl, q1⟩; have b1 := blk_kept q1 (fun h => h) (blk_new w (.cells #[.bool n.leaf, .slice a1 k1 c1, .slice a2 k2 c2, .slice a3 k3 c3] 25)); have x0 : w1.cell? ⟨w.heap.size, 0, none⟩ = some (.bool n.leaf) := blk_cell b1; have x1 : w1.cell? ⟨w.heap.size, 1, none⟩ = some (.slice a1 k1 c1) := blk_cell b1; have x2 : w1.cell? ⟨w.heap.size, 2, none⟩ = some (.slice a2 k2 c2) := blk_cell b1; have x3 : w1.cell? ⟨w.heap.size, 3, none⟩ = some (.slice a3 k3 c3) := blk_cell b1; have K1 := hidden (K0.out.trans q1); have B1 := hidden b1; clear q1 b1)
    | (go_at_call 31; refine (HMs.out _).mono ?_; rintro e w1' ⟨rfl, rfl⟩)
    | (go_at_call 15; refine (HSz.out _ K1.out).mono ?_; rintro e w2 ⟨rfl, q2⟩; have b2 := blk_kept q2 (fun h => h) B1.out; have y0 : w2.cell? ⟨w.heap.size, 0, none⟩ = some (.bool n.leaf) := blk_cell b2; have y1 : w2.cell? ⟨w.heap.size, 1, none⟩ = some (.slice a1 k1 c1) := blk_cell b2; have y2 : w2.cell? ⟨w.heap.size, 2, none⟩ = some (.slice a2 k2 c2) := blk_cell b2; have y3 : w2.cell? ⟨w.heap.size, 3, none⟩ = some (.slice a3 k3 c3) := blk_cell b2; have K2 := hidden (K1.out.trans q2); have B2 := hidden b2; clear q2 b2)
    | (go_at_call 32; refine (HEn.out _ K2.out).mono ?_; rintro e w3 ⟨rfl, q3⟩; have hmk3 := hmk.out w3; have b3 := blk_alloc (blk_kept q3 (fun h => h) B2.out) (.cells ZA 5); have z0 : (w3.alloc (.cells ZA 5)).cell? ⟨w.heap.size, 0, none⟩ = some (.bool n.leaf) := blk_cell b3; have z1 : (w3.alloc (.cells ZA 5)).cell? ⟨w.heap.size, 1, none⟩ = some (.slice a1 k1 c1) := blk_cell b3; have z2 : (w3.alloc (.cells ZA 5)).cell? ⟨w.heap.size, 2, none⟩ = some (.slice a2 k2 c2) := blk_cell b3; have z3 : (w3.alloc (.cells ZA 5)).cell? ⟨w.heap.size, 3, none⟩ = some (.slice a3 k3 c3) := blk_cell b3; have K3 := hidden ((K2.out.trans q3).alloc (.cells ZA 5)); have hw3 : w.heap.size < w3.heap.size := (by have h9 := blk_lt (blk_kept q3 (fun h => h) B2.out); exact h9); clear q3 b3)
    | (go_at_call 33; refine (HHd.out _ K3.out).mono ?_; rintro e w5 ⟨rfl, q5⟩; have g5 := blk_kept q5 (fun h => h) (blk_new w3 (.cells ZA 5)); have G5 := hidden g5; have K5 := hidden (K3.out.trans q5); clear q5 g5)
    | (go_at_call 34; refine (HTx.out _).mono ?_; rintro e w6 ⟨rfl, q6⟩; have g6 := blk_kept q6 (fun h => h) G5.out; obtain ⟨W7, hcp, g7, k7⟩ := copy_str H16 w6 w3.heap.size 0 sz sz ZA 5 g6 (by rw [HLH.out]; omega) (by rw [HLH.out, HZS.out]; omega); obtain ⟨C7, hC7⟩ : ∃ C7, (ZA.toList.take 0 ++ H16.map U8 ++ ZA.toList.drop (0 + H16.length)).toArray = C7 := ⟨_, rfl⟩; rw [hC7] at g7; have hC7s : C7.size = sz := (by rw [← hC7]; simp [HLH.out, HZS.out]; omega); obtain ⟨W8, hcp2, g8, k8⟩ := copy_str es W7 w3.heap.size 16 s16 s16 C7 5 g7 (by omega) (by rw [hC7s]; omega); have hsl := HSL.out w3.heap.size W7; have HC7 := hidden hC7; have HC7S := hidden hC7s; have G8 := hidden g8; have K8 := hidden ((((K5.out.trans q6).trans' k7 (fun i hi hs => by have : i = w3.heap.size := hs; omega))).trans' k8 (fun i hi hs => by have : i = w3.heap.size := hs; omega)); clear q6 g6 g7 k7 g8 k8 hC7 hC7s))
  go_returns
  refine ⟨_, rfl, ⟨w3.heap.size, rfl, ?_, K8.out⟩⟩
  have hz := HZA.out
  have hlen : EL.length = sz := by
    rw [HL.out, List.length_append, List.length_append, List.length_replicate, HLH.out]
    omega
  refine ⟨by rw [List.length_map, hlen, Nat.mul_one], .inr ⟨w3.heap.size, sz, _, rfl, by omega, G8.out, Nat.le_refl _, by unfold maxLen; omega, ?_, ?_⟩⟩
  · simp [HC7S.out]
    omega
  · rw [HL.out]
    have h7 := HC7.out
    rw [← hz] at h7
    exact enc_list H16 es sz HLH.out (by omega) _ h7
set_option maxHeartbeats 2000000 in
set_option maxRecDepth 100000 in
theorem encode_any (n : Nd) (a1 a2 a3 : Option Addr) (k1 c1 k2 c2 k3 c3 : Nat) (sz : Int) (w : World) (r1 : Row w (.slice a1 k1 c1) (TS n.keys)) (r2 : Row w (.slice a2 k2 c2) (TS n.vals)) (r3 : Row w (.slice a3 k3 c3) (IS n.kids)) (hb : n.Bd) (hbd : n.keys.length ≤ 8796093022208) (hT : Tab w) :
    Calls Tryd.prog 9 #[.int .i64 sz, .agg #[.bool n.leaf, .slice a1 k1 c1, .slice a2 k2 c2, .slice a3 k3 c3]] w fun e w' => ∃ u, e = .returned u ∧ EnQ n sz w u w' := by
  have HCk := hidden (fun W (k : Same w W) => check_any n a1 a2 a3 k1 c1 k2 c2 k3 c3 W (r1.same k) (r2.same k) (r3.same k) hb)
  have K0 : Hid (Same w (w.alloc (.cells #[.bool n.leaf, .slice a1 k1 c1, .slice a2 k2 c2, .slice a3 k3 c3] 25))) := hidden (same_alloc _ _)
  by_cases hc : n.chk = 0
  · have hF := chk_fine hc
    by_cases hj : JSize sz
    · by_cases hf : sz < (n.size : Int)
      · have he : n.encE sz = 2 := by unfold Nd.encE; rw [if_pos hc, if_pos hj, if_pos hf]
        have hB : n.encB sz = [] := by unfold Nd.encB; rw [he]; rfl
        have hns := fun W u (q : NdR W u n) => nsize_any n u W q hF hb hbd
        rw [← fine_size hF] at hns
        have e1 := r1.tl
        have e2 := r2.tl
        have e3 := r3.il
        have HSz := hidden (fun W (k : Same w W) => hns W (.agg #[.bool n.leaf, .slice a1 k1 c1, .slice a2 k2 c2, .slice a3 k3 c3]) ⟨a1, a2, a3, c1, c2, c3, by rw [e1, e2, e3], by rw [e1]; exact r1.same k, by rw [e2]; exact r2.same k, by rw [e3]; exact r3.same k⟩)
        have HMs := hidden (fun W => maySize_any sz W)
        rw [decide_eq_true hj] at HMs
        rw [hc] at HCk
        have HR := hidden (show ∀ W, Same w W → EnQ n sz w (.tuple #[.slice none 0 0, .int .i64 2]) W from fun W k => ⟨_, by rw [he], by rw [hB]; exact Bt.nil _, k⟩)
        clear hns hF hj hc he hB r1 r2 r3 hb hbd hT e1 e2 e3
        generalize n.size = nz at *
        go_enter Tryd.func9, Tryd.ntmps9
        go_wp2_with (first
          | (go_at_call 13; refine (HCk.out _ K0.out).mono ?_; rintro e w1 ⟨rfl, q1⟩; have b1 := blk_kept q1 (fun h => h) (blk_new w (.cells #[.bool n.leaf, .slice a1 k1 c1, .slice a2 k2 c2, .slice a3 k3 c3] 25)); have x0 : w1.cell? ⟨w.heap.size, 0, none⟩ = some (.bool n.leaf) := blk_cell b1; have x1 : w1.cell? ⟨w.heap.size, 1, none⟩ = some (.slice a1 k1 c1) := blk_cell b1; have x2 : w1.cell? ⟨w.heap.size, 2, none⟩ = some (.slice a2 k2 c2) := blk_cell b1; have x3 : w1.cell? ⟨w.heap.size, 3, none⟩ = some (.slice a3 k3 c3) := blk_cell b1; have K1 := hidden (K0.out.trans q1); clear q1 b1)
          | (go_at_call 31; refine (HMs.out _).mono ?_; rintro e w1' ⟨rfl, rfl⟩)
          | (go_at_call 15; refine (HSz.out _ K1.out).mono ?_; rintro e w2 ⟨rfl, q2⟩; have K2 := hidden (K1.out.trans q2); clear q2))
        go_returns
        exact ⟨_, rfl, HR.out _ K2.out⟩
      · obtain ⟨s, rfl⟩ : ∃ s : Nat, sz = (s : Int) := ⟨sz.toNat, by have := hj.1; omega⟩
        have he : n.encE (s : Int) = 0 := by unfold Nd.encE; rw [if_pos hc, if_pos hj, if_neg hf]
        have hB : n.encB (s : Int) = n.enc s := by unfold Nd.encB; rw [if_pos he]; rfl
        refine (encode_ok n a1 a2 a3 k1 c1 k2 c2 k3 c3 s w r1 r2 r3 hb hbd hc hj (by omega) hT).mono ?_
        rintro e w' ⟨u, rfl, hu⟩
        obtain ⟨g, rfl, ho, k⟩ := hu.out
        have hl : (n.enc s).length = s := encS_len _ _ _ _ (by have := body_len hF; omega)
        refine ⟨_, rfl, ⟨_, by rw [he], ?_, k⟩⟩
        rw [hB]
        exact Bt.own (by rw [hl]; exact ho)
    · have he : n.encE sz = 1 := by unfold Nd.encE; rw [if_pos hc, if_neg hj]
      have hB : n.encB sz = [] := by unfold Nd.encB; rw [he]; rfl
      have HMs := hidden (fun W => maySize_any sz W)
      rw [decide_eq_false hj] at HMs
      rw [hc] at HCk
      have HR := hidden (show ∀ W, Same w W → EnQ n sz w (.tuple #[.slice none 0 0, .int .i64 1]) W from fun W k => ⟨_, by rw [he], by rw [hB]; exact Bt.nil _, k⟩)
      clear hF hj hc he hB r1 r2 r3 hb hbd hT
      go_enter Tryd.func9, Tryd.ntmps9
      go_wp2_with (first
        | (go_at_call 13; refine (HCk.out _ K0.out).mono ?_; rintro e w1 ⟨rfl, q1⟩; have K1 := hidden (K0.out.trans q1); clear q1)
        | (go_at_call 31; refine (HMs.out _).mono ?_; rintro e w1' ⟨rfl, rfl⟩))
      go_returns
      exact ⟨_, rfl, HR.out _ K1.out⟩
  · have he : n.encE sz = n.chk := by unfold Nd.encE; rw [if_neg hc]
    have hB : n.encB sz = [] := by unfold Nd.encB; rw [he, if_neg hc]
    have HR := hidden (show ∀ W, Same w W → EnQ n sz w (.tuple #[.slice none 0 0, .int .i64 n.chk]) W from fun W k => ⟨_, by rw [he], by rw [hB]; exact Bt.nil _, k⟩)
    have hne : (n.chk != 0) = true := by simpa using hc
    clear hc he hB r1 r2 r3 hb hbd hT
    generalize n.chk = ck at *
    go_enter Tryd.func9, Tryd.ntmps9
    go_wp2_with (go_at_call 13; refine (HCk.out _ K0.out).mono ?_; rintro e w1 ⟨rfl, q1⟩; have K1 := hidden (K0.out.trans q1); clear q1)
    go_returns
    exact ⟨_, rfl, HR.out _ K1.out⟩
end Go.Proofs.YtpjgghalnkfdkaaDoor
