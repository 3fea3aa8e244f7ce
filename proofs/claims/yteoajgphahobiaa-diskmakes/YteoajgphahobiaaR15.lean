/- The law's step, walked: Write. -/
import Derived.Test.YteoajgphahobiaaR12
/- The law's step, walked: Counts. -/
namespace Go.Proofs.Yteoajgphahobiaa
open Go.RowKit
set_option linter.unusedVariables false
set_option maxHeartbeats 1000000 in
set_option maxRecDepth 100000 in
theorem y_counts (g r wn f : Nat) (w : World) (h6 : w.cell? ⟨g, 6, none⟩ = some (.int .i64 r)) (h7 : w.cell? ⟨g, 7, none⟩ = some (.int .i64 wn)) (h8 : w.cell? ⟨g, 8, none⟩ = some (.int .i64 f)) :
    Calls Try.prog 33 #[.pointer (some ⟨g, 0, none⟩)] w fun e w' => e = .returned (.tuple #[.int .i64 r, .int .i64 wn, .int .i64 f]) ∧ Same w w' := by
  go_enter Try.func33, Try.ntmps33
  go_wp2
  go_quiet (fail)
  go_wp2
  go_returns
  exact ⟨rfl, (Kept.refl (fun _ => False) w).drewN _⟩
theorem zd_counts {A : Nat → Prop} {B n c g pb pc rb rc : Nat} {s : St} {w : World} (h : ZD A B n c g pb pc rb rc s w) :
    Calls Try.prog 33 #[.pointer (some ⟨g, 0, none⟩)] w fun e w' => e = .returned (.tuple #[.int .i64 s.r, .int .i64 s.wn, .int .i64 s.f]) ∧ Same w w' := by
  obtain ⟨qv, qs, ps, rs, h1, _⟩ := h.ex
  exact y_counts g s.r s.wn s.f w (blk_cell h1) (blk_cell h1) (blk_cell h1)
set_option maxHeartbeats 4000000 in
set_option maxRecDepth 100000 in
theorem step_7 {A : Nat → Prop} {B n c g pb pc rb rc x xb xc M : Nat} {s : St} {w : World} (h : Pair A B n c g pb pc rb rc x xb xc s s w) (p : Op5) (hp : p.ok w) (h1 : p.kind ≠ 1) (h2 : p.kind ≠ 2) (h3 : p.kind ≠ 3) (h4 : p.kind ≠ 4) (h5 : p.kind ≠ 5) (h6 : p.kind ≠ 6) (h9 : p.kind ≠ 9) (h10 : p.kind ≠ 10) :
    Calls Try.prog 26 #[.pointer (some ⟨g, 0, none⟩), .pointer (some ⟨x, 0, none⟩), .agg #[.int .i64 p.kind, .int .i64 p.N, .int .u8 p.byte, .int .i64 p.more, p.kv]] w fun e w' => e = .returned (.bool true) ∧ Pair A B n c g pb pc rb rc x xb xc s s w' ∧ KF B g pb rb x xb w w' := by
  obtain ⟨kd, N, yb, mo, kv, ks⟩ := p
  obtain ⟨ka, kc, hkv⟩ := hp.ints.form
  simp only at hkv h1 h2 h3 h4 h5 h6 h9 h10
  subst hkv
  have hPs : ∀ w', Same w w' → Pair A B n c g pb pc rb rc x xb xc s s w' := fun w' k => h.same k
  have HPS := hidden hPs
  have hc4 : Hid (∀ w', Same w w' → w'.cell? ⟨x, 4, none⟩ = some (.int .i64 s.r) ∧ w'.cell? ⟨x, 5, none⟩ = some (.int .i64 s.wn) ∧ w'.cell? ⟨x, 6, none⟩ = some (.int .i64 s.f)) := fun w' k => by
    obtain ⟨rv, rq, more, i1, _⟩ := (h.same k).r.ex
    exact ⟨blk_cell i1, blk_cell i1, blk_cell i1⟩
  have e1 : (kd == 1) = false := by simpa using h1
  have e2 : (kd == 2) = false := by simpa using h2
  have e3 : (kd == 3) = false := by simpa using h3
  have e4 : (kd == 4) = false := by simpa using h4
  have e5 : (kd == 5) = false := by simpa using h5
  have e6 : (kd == 6) = false := by simpa using h6
  have e9 : (kd == 9) = false := by simpa using h9
  have e10 : (kd == 10) = false := by simpa using h10
  clear hp h hPs
  go_enter Try.func26, Try.ntmps26
  go_wp2_with (go_at_call 33; refine (zd_counts (HPS.out _ (same_alloc w _)).d).mono ?_; rintro e w2 ⟨rfl, k2⟩; have S2 := hidden (Kept.trans (same_alloc w _) k2); obtain ⟨c4, c5, c6⟩ := hc4.out _ S2.out; clear k2)
  go_returns
  exact ⟨by first | rfl | simp, HPS.out _ S2.out, (HPS.out _ (Kept.refl _ _)).kfS S2.out⟩
end Go.Proofs.Yteoajgphahobiaa
/- The law's step, walked: Pending. -/
namespace Go.Proofs.Yteoajgphahobiaa
open Go.RowKit
set_option linter.unusedVariables false
set_option maxHeartbeats 4000000 in
set_option maxRecDepth 100000 in
theorem step_4 {A : Nat → Prop} {B n c g pb pc rb rc x xb xc M : Nat} {s : St} {w : World} (h : Pair A B n c g pb pc rb rc x xb xc s s w) (hM : SB M s) (hm : M ≤ 4398046511102) (hB : B ≤ w.heap.size) (p : Op5) (hp : p.ok w) (hk : p.kind = 4) :
    Calls Try.prog 26 #[.pointer (some ⟨g, 0, none⟩), .pointer (some ⟨x, 0, none⟩), .agg #[.int .i64 p.kind, .int .i64 p.N, .int .u8 p.byte, .int .i64 p.more, p.kv]] w fun e w' => e = .returned (.bool true) ∧ Pair A B n c g pb pc rb rc x xb xc s s w' ∧ KF B g pb rb x xb w w' := by
  rw [hk]
  obtain ⟨kd, N, yb, mo, kv, ks⟩ := p
  have HOK := hidden hp
  obtain ⟨ka, kc, hkv⟩ := hp.ints.form
  simp only at hkv
  subst hkv
  have hPs : ∀ w', Same w w' → Pair A B n c g pb pc rb rc x xb xc s s w' := fun w' k => h.same k
  have HP := hidden h
  have HPS := hidden hPs
  have HM := hidden hM
  clear hp hk h hPs hM
  have hmm := HM.out.m
  have HPL2 : Hid (s.pds.length = s.pend.length) := by rw [Hid]; simp [St.pds]
  have HPD : Hid (s.pds.length ≤ 140737488355328) := by rw [Hid]; simp [St.pds]; omega
  go_enter Try.func26, Try.ntmps26
  go_wp2_with (first
    | (go_at_call 20; refine (zd_pending (HPS.out _ (same_alloc w _)).d HM.out (by omega)).mono ?_; rintro e w2 ⟨rfl, i2, k2⟩; rw [World.size_alloc] at i2; have K2 := hidden (Kept.trans (same_alloc w _) k2); have I2 := hidden i2; clear i2 k2)
    | (go_at_call 48; refine (rd_pending (HPS.out _ K2.out).r HM.out (by omega)).mono ?_; rintro e w3 ⟨v3, rfl, i3, k3⟩; have K3 := hidden (Kept.trans K2.out k3); have I3 := hidden i3; have I2' := hidden (I2.out.same' k3); obtain ⟨va, vc, hve⟩ := i3.form; rw [HPL2.out] at hve; subst hve; clear i3 k3)
    | (go_at_call 31; refine (sameInts_eq _ _ s.pds _ I2'.out I3.out HPD.out).mono ?_; rintro e w4 ⟨rfl, k4⟩; have K4 := hidden (Kept.trans K3.out k4); clear k4))
  go_returns
  exact ⟨by first | rfl | simp, HPS.out _ K4.out, (HPS.out _ (Kept.refl _ _)).kfS K4.out⟩
end Go.Proofs.Yteoajgphahobiaa
namespace Go.Proofs.Yteoajgphahobiaa
open Go.RowKit
set_option linter.unusedVariables false
theorem RD.cell0 {A : Nat → Prop} {B n c g pb pc : Nat} {s : St} {w : World} (h : RD A B n c g pb pc s w) : w.cell? ⟨g, 0, none⟩ = some (.int .i64 n) := by
  obtain ⟨qv, qs, more, h1, _⟩ := h.ex
  exact blk_cell h1
theorem tm8 (z : Int) : -8 < Int.tmod z 8 ∧ Int.tmod z 8 < 8 := ⟨Int.lt_tmod_of_pos z (by decide), Int.tmod_lt_of_pos z (by decide)⟩
theorem wrapN (n : Nat) (h : n ≤ 5000) : IntKind.i64.wrap (n : Int) = (n : Int) := by rw [IntKind.wrap_i64]; omega
/-- A byte and one more. -/
theorem u8_inc (b : UInt8) : Value.int .u8 (IntKind.u8.wrap ((b.toNat : Int) + 1)) = U8 (b + 1) := by
  unfold U8
  rw [IntKind.wrap_u8', UInt8.toNat_add]
  simp
/-- What the document's Disk writes to is no block that was made since. -/
theorem Pair.boxR2 {A : Nat → Prop} {B n c g pb pc rb rc x xb xc q : Nat} {s1 s2 : St} {w w1 w2 : World} {o : Obj} (hw : Pair A B n c g pb pc rb rc x xb xc s1 s2 w) (e : rowOf w1 x 3 = rowOf w x 3) (hq : w.heap.size ≤ q) (hb : w1.heap[q]? = some o) (f : RF x xb w1 w2) : w2.heap[q]? = some o := by
  obtain ⟨l1, l2, l4⟩ := hw.r.lt
  refine blk_kept f.kept (fun hs => ?_) hb
  rcases hs with e' | e' | e'
  · omega
  · omega
  · rw [e] at e'
    have := l4 _ e'
    omega
set_option maxHeartbeats 4000000 in
set_option maxRecDepth 100000 in
theorem step_1y {A : Nat → Prop} {B n c g pb pc rb rc x xb xc M : Nat} {s : St} {w : World} (h : Pair A B n c g pb pc rb rc x xb xc s s w) (hM : SB M s) (hm : M ≤ 4398046511102) (hB : B ≤ w.heap.size) (hn5 : 512 ≤ n) (p : Op5) (hp : p.ok w) (hk : p.kind = 1) (i : Nat) (hi : i < c) (hN : p.N = i) (hmo : Int.tmod p.more 8 = 0) :
    Calls Try.prog 26 #[.pointer (some ⟨g, 0, none⟩), .pointer (some ⟨x, 0, none⟩), .agg #[.int .i64 p.kind, .int .i64 p.N, .int .u8 p.byte, .int .i64 p.more, p.kv]] w fun e w' => e = .returned (.bool true) ∧ Pair A B n c g pb pc rb rc x xb xc (s.write i (flTo n p.byte (min n 40))) (s.write i (flTo n p.byte (min n 40))) w' ∧ KF B g pb rb x xb w w' := by
  rw [hk, hN]
  obtain ⟨kd, N, yb, mo, kv, ks⟩ := p
  have HOK := hidden hp
  obtain ⟨ka, kc, hkv⟩ := hp.ints.form
  simp only at hkv hmo
  subst hkv
  have hPs : ∀ w', Same w w' → Pair A B n c g pb pc rb rc x xb xc s s w' := fun w' k => h.same k
  have HP := hidden h
  have HPS := hidden hPs
  have HM := hidden hM
  have HYB := hidden hp.byte
  have HI := hidden hi
  clear hp hk h hPs hM hN hi
  have hn4 := HP.out.d.hn
  have hwn := wrapN n (by omega)
  have HX0 : Hid (∀ w', Same w w' → w'.cell? ⟨x, 0, none⟩ = some (.int .i64 n)) := fun w' k => (HPS.out w' k).r.cell0
  have HXL := hidden HP.out.r.lt
  have HBX : Hid (∀ cs t, ((w.alloc (.cells cs t)).drew).heap[w.heap.size]? = some (.cells cs t (0, 0))) := fun cs t => heap_alloc_new w _
  have HFL : Hid (∀ W, Calls Try.prog 24 #[.int .i64 n, .int .u8 yb] W fun e w' => ∃ q, e = .returned (.slice (some ⟨q, 0, none⟩) n n) ∧ W.heap.size ≤ q ∧ q < w'.heap.size ∧ w'.heap[q]? = some (.cells ((flTo n yb (min n 40)).map U8).toArray 5 (0, 0)) ∧ Same W w') := fun W => by
    refine (filled_any n yb W (by omega) HYB.out).mono ?_
    rintro e w' ⟨u, rfl, ⟨q, hq, rfl, hb⟩, k⟩
    rw [flTo_len] at *
    exact ⟨q, rfl, hq, blk_lt hb, hb, k⟩
  have hx0 : ∀ cs t, (w.alloc (.cells cs t)).cell? ⟨x, 0, none⟩ = some (.int .i64 n) := fun cs t => HX0.out _ (same_alloc _ _)
  go_enter Try.func26, Try.ntmps26
  go_wp2
  go_region_held3 (fun w' => w'.cell? ⟨x, 0, none⟩ = some (.int .i64 n) ∧ w'.cell? ⟨w.heap.size, 3, none⟩ = some (.int .i64 mo) ∧ w'.cell? ⟨w.heap.size, 2, none⟩ = some (.int .u8 yb))
    (first | go_keep | (go_split_ands; assumption) | assumption)
    ((first
      | (go_at_call 24; refine (HFL.out _).mono ?_; rintro e w1 ⟨q1, rfl, hq1, hq1', hb1, k1⟩; have S1 := hidden (Kept.trans (same_alloc w _).drew k1); have B1 := hidden hb1; have O1 : Hid (Own w1 (.slice (some ⟨q1, 0, none⟩) n n) (flTo n yb (min n 40)) w.heap.size) := ⟨q1, Nat.le_trans (same_alloc w _).drew.size hq1, by rw [flTo_len], hb1⟩; have P1 := hidden (HP.out.fresh (q := q1) S1.out (Nat.le_trans (same_alloc w _).drew.size hq1) hq1'); have hbx := blk_kept k1 (fun h => h) (HBX.out _ _); have BX1 := hidden hbx; have cx0 := HX0.out _ S1.out; have cb1 : w1.cell? ⟨w.heap.size, 1, none⟩ = some (.int .i64 i) := blk_cell hbx;  have cb2 : w1.cell? ⟨w.heap.size, 2, none⟩ = some (.int .u8 yb) := blk_cell hbx; have cb3 : w1.cell? ⟨w.heap.size, 3, none⟩ = some (.int .i64 mo) := blk_cell hbx; clear hbx k1 hb1)))
  all_goals
    go_wp2
    go_region_held3 (fun w' => w'.cell? ⟨x, 0, none⟩ = some (.int .i64 n) ∧ w'.cell? ⟨w.heap.size, 1, none⟩ = some (.int .i64 i) ∧ w'.cell? ⟨w.heap.size, 3, none⟩ = some (.int .i64 mo) ∧ w'.cell? ⟨w.heap.size, 2, none⟩ = some (.int .u8 yb))
      (first | go_keep | (go_split_ands; assumption) | assumption)
      ((first
        | (go_at_call 23; refine (zd_write (P1.out.same (Kept.refl _ w1).drew).d (P1.out.same (Kept.refl _ w1).drew).hA HM.out hm (by have := S1.out.size; simp; omega) i HI.out _ (flTo n yb (min n 40)) ((O1.out.weak (Nat.zero_le _)).same (Kept.refl _ w1).drew) (flTo_len _ _ _)).mono ?_; rintro e w2 ⟨rfl, d2, k2, f2⟩; have P2 := hidden ((P1.out.same (Kept.refl _ w1).drew).left d2 f2); have K2 := hidden ((HP.out.kfS (Kept.trans S1.out (Kept.refl _ w1).drew)).trans ((P1.out.same (Kept.refl _ w1).drew).kfD f2)); have b2 := HP.out.boxD' (Kept.trans S1.out (Kept.refl _ w1).drew) BX1.out f2; have BX2 := hidden b2; have EX2 := hidden (((P1.out.same (Kept.refl _ w1).drew).rowX f2).trans (rowOf_same HP.out.r.lt.1 (Kept.trans S1.out (Kept.refl _ w1).drew))); have Q2 := hidden (blk_kept f2.kept ((P1.out.same (Kept.refl _ w1).drew).outD.2.2.2 q1 _ B1.out) B1.out); have cx2 := P2.out.r.cell0; have cb21 : w2.cell? ⟨w.heap.size, 1, none⟩ = some (.int .i64 i) := blk_cell b2; have cb22 : w2.cell? ⟨w.heap.size, 2, none⟩ = some (.int .u8 yb) := blk_cell b2; have cb23 : w2.cell? ⟨w.heap.size, 3, none⟩ = some (.int .i64 mo) := blk_cell b2; clear d2 k2 f2 b2)
        | (go_at_call 24; go_must (refine (HFL.out _).mono ?_; rintro e w3 ⟨q2, rfl, hq2, hq2', hb2, k3⟩; have S3 := hidden k3; have B3 := hidden hb2; have P3 := hidden (P2.out.same k3); have hbx := blk_kept k3 (fun h => h) BX2.out; have BX3 := hidden hbx; have Q3 := hidden (blk_kept k3 (fun h => h) Q2.out); have EX3 := hidden ((rowOf_same P2.out.r.lt.1 k3).trans EX2.out); have K3 := hidden (K2.out.trans (P2.out.kfS k3)); have O3 : Hid (Own w3 (.slice (some ⟨q2, 0, none⟩) n n) (flTo n yb (min n 40)) 0) := ⟨q2, Nat.zero_le _, by rw [flTo_len], hb2⟩; have hxq : ∀ a k cap, Value.slice (some ⟨q2, 0, none⟩) n n = .slice (some a) k cap → a.block ≠ x := (fun a k cap e => by simp only [Value.slice.injEq, Option.some.injEq] at e; obtain ⟨rfl, _, _⟩ := e; have := P2.out.r.lt.1; simp only; omega); have HXQ := hidden hxq; have cx3 := P3.out.r.cell0; have cb31 : w3.cell? ⟨w.heap.size, 1, none⟩ = some (.int .i64 i) := blk_cell hbx; have cb32 : w3.cell? ⟨w.heap.size, 2, none⟩ = some (.int .u8 yb) := blk_cell hbx; have cb33 : w3.cell? ⟨w.heap.size, 3, none⟩ = some (.int .i64 mo) := blk_cell hbx; clear k3 hbx hb2 hxq))
        | (go_at_call 45; go_must (refine (rd_write P3.out.r P3.out.hA HM.out hm (by have := K3.out.kb.size; omega) i HI.out _ (flTo n yb (min n 40)) O3.out.byt HXQ.out (flTo_len _ _ _)).mono ?_; rintro e w4 ⟨rfl, r4, k4, f4⟩; have P4 := hidden (P3.out.right r4 f4); have K4 := hidden (K3.out.trans (P3.out.kfR f4)); have Q4 := hidden (HP.out.boxR2 EX3.out (Nat.le_trans (same_alloc w _).drew.size hq1) Q3.out f4); have b4 := HP.out.boxR2 EX3.out (Nat.le_refl _) BX3.out f4; have cx4 := P4.out.r.cell0; have cb41 : w4.cell? ⟨w.heap.size, 1, none⟩ = some (.int .i64 i) := blk_cell b4; have cb42 : w4.cell? ⟨w.heap.size, 2, none⟩ = some (.int .u8 yb) := blk_cell b4; have cb43 : w4.cell? ⟨w.heap.size, 3, none⟩ = some (.int .i64 mo) := blk_cell b4; clear r4 k4 f4 b4))))
    all_goals
      go_wp2
      have HSq : Hid (w.heap.size ≤ q1) := (Nat.le_trans (same_alloc w _).drew.size hq1)
      have HBq : Hid (B ≤ q1) := Nat.le_trans hB HSq.out
      have HQX : Hid (q1 ≠ xb) := fun e => by have := HXL.out.2.1; have := Nat.le_trans (same_alloc w _).drew.size hq1; omega
      go_loopw [8] (fun t wr => ∃ (k : Nat) (l : List UInt8), k ≤ n ∧ t = .int .i64 k ∧ l.length = n ∧ wr.heap[q1]? = some (.cells (l.map U8).toArray 5 (0, 0)) ∧ Kept (fun i => i = q1) w4 wr) (fun t wr => n - (intOf t).toNat)
      case atStart => exact ⟨0, _, Nat.zero_le _, rfl, flTo_len _ _ _, Q4.out, Kept.refl _ _⟩
      case round =>
        obtain ⟨k, l, hk, rfl, hl, hb, hK⟩ := hrel
        have HK := hidden hK
        have HB := hidden hb
        have HL := hidden hl
        by_cases h1 : k < n
        · have q1' : (k : Int) < (n : Int) := by omega
          have hx : ∃ z : UInt8, wr.cell? ⟨q1, k, none⟩ = some (U8 z) := ⟨l[k]'(by omega), by rw [blk_cell hb]; simp [hl, h1]⟩
          have hfz : wr.frozen? ⟨q1, k, none⟩ = false := blk_free hb
          obtain ⟨z, hx⟩ := hx
          have HU := hidden (u8_inc z)
          unfold U8 at hx
          clear hb hK hl
          go_wp2
          go_roundw
          case rel =>
            refine ⟨k + 1, l.set k (z + 1), by omega, by go_num, by rw [List.length_set]; exact HL.out, ?_, HK.out.setCell (p := ⟨q1, k, none⟩) rfl _⟩
            have e := HU.out
            rw [IntKind.wrap_u8'] at e
            rw [e, blk_set HB.out]
            simp [List.map_set]
          case measure => simp [intOf]; omega
        · have q1' : ¬ (k : Int) < (n : Int) := by omega
          clear hb hK hl
          go_wp2
          go_returns
          exact ⟨rfl, (P4.out.bump HK.out (Or.inr rfl) Q4.out HQX.out).more HP.out.r.ap (fun k hk => Or.inl hk), HP.out.kfB K4.out HK.out HSq.out HBq.out⟩
end Go.Proofs.Yteoajgphahobiaa
