/- The law's step, walked: Write refused. -/
import Derived.Test.YteoajgphahobiaaR15
namespace Go.Proofs.Yteoajgphahobiaa
open Go.RowKit
set_option linter.unusedVariables false
theorem zd_writeBad {A : Nat → Prop} {B n c g pb pc rb rc : Nat} {s : St} {w : World} (h : ZD A B n c g pb pc rb rc s w) (N : Int) (v : Value) (l : List UInt8) (hv : Byt w v l) (hbad : ¬ (0 ≤ N ∧ N < c) ∨ l.length ≠ n) :
    Calls Try.prog 23 #[.pointer (some ⟨g, 0, none⟩), .int .i64 N, v] w fun e w' => e = .returned (.int .i64 30) ∧ w = w' := by
  by_cases hN : 0 ≤ N ∧ N < c
  · obtain ⟨i, rfl⟩ := Int.eq_ofNat_of_zero_le hN.1
    exact zd_writeLen h i (by omega) v l hv (hbad.resolve_left (fun h => h hN))
  · exact zd_writeNo h N hN v
theorem rd_writeBad {A : Nat → Prop} {B n c g pb pc : Nat} {s : St} {w : World} (h : RD A B n c g pb pc s w) (N : Int) (v : Value) (l : List UInt8) (hv : Byt w v l) (hbad : ¬ (0 ≤ N ∧ N < c) ∨ l.length ≠ n) :
    Calls Try.prog 45 #[.pointer (some ⟨g, 0, none⟩), .int .i64 N, v] w fun e w' => e = .returned (.int .i64 30) ∧ w = w' := by
  obtain ⟨qv, qs, more, h1, _⟩ := h.ex
  by_cases hN : 0 ≤ N ∧ N < c
  · obtain ⟨i, rfl⟩ := Int.eq_ofNat_of_zero_le hN.1
    exact r_writeLen n c pb (n * c) pc g i qv s.lim more s.r s.wn s.f v l w h1 hv (hbad.resolve_left (fun h => h hN)) (by omega)
  · exact r_writeNo n c pb (n * c) pc g N qv s.lim more s.r s.wn s.f v w h1 hN
set_option maxHeartbeats 4000000 in
set_option maxRecDepth 100000 in
theorem step_1n {A : Nat → Prop} {B n c g pb pc rb rc x xb xc M : Nat} {s : St} {w : World} (h : Pair A B n c g pb pc rb rc x xb xc s s w) (hM : SB M s) (hm : M ≤ 4398046511102) (hB : B ≤ w.heap.size) (hn5 : 512 ≤ n) (p : Op5) (hp : p.ok w) (hk : p.kind = 1) (L : Nat) (hL : (n : Int) + Int.tmod p.more 8 = L) (hbad : ¬ (0 ≤ p.N ∧ p.N < c) ∨ L ≠ n) :
    Calls Try.prog 26 #[.pointer (some ⟨g, 0, none⟩), .pointer (some ⟨x, 0, none⟩), .agg #[.int .i64 p.kind, .int .i64 p.N, .int .u8 p.byte, .int .i64 p.more, p.kv]] w fun e w' => e = .returned (.bool true) ∧ Pair A B n c g pb pc rb rc x xb xc s s w' ∧ KF B g pb rb x xb w w' := by
  rw [hk]
  obtain ⟨kd, N, yb, mo, kv, ks⟩ := p
  have HOK := hidden hp
  obtain ⟨ka, kc, hkv⟩ := hp.ints.form
  simp only at hkv hL hbad
  subst hkv
  have hPs : ∀ w', Same w w' → Pair A B n c g pb pc rb rc x xb xc s s w' := fun w' k => h.same k
  have HP := hidden h
  have HPS := hidden hPs
  have HM := hidden hM
  have HYB := hidden hp.byte
  have HBAD := hidden hbad
  clear hp hk h hPs hM hbad
  obtain ⟨m0, m1⟩ := tm8 mo
  have hn4 := HP.out.d.hn
  have hL2 : L ≤ 5000 := by omega
  have hwm : IntKind.i64.wrap (Int.tmod mo 8) = Int.tmod mo 8 := by rw [IntKind.wrap_i64]; omega
  have hwn : IntKind.i64.wrap ((n : Int) + Int.tmod mo 8) = (L : Int) := by rw [hL]; exact wrapN L hL2
  have HX0 : Hid (∀ w', Same w w' → w'.cell? ⟨x, 0, none⟩ = some (.int .i64 n)) := fun w' k => (HPS.out w' k).r.cell0
  have HXL := hidden HP.out.r.lt
  have HBX : Hid (∀ cs t, ((w.alloc (.cells cs t)).drew).heap[w.heap.size]? = some (.cells cs t (0, 0))) := fun cs t => heap_alloc_new w _
  have HFL : Hid (∀ W, Calls Try.prog 24 #[.int .i64 L, .int .u8 yb] W fun e w' => ∃ q, e = .returned (.slice (some ⟨q, 0, none⟩) L L) ∧ W.heap.size ≤ q ∧ q < w'.heap.size ∧ w'.heap[q]? = some (.cells ((flTo L yb (min L 40)).map U8).toArray 5 (0, 0)) ∧ Same W w') := fun W => by
    refine (filled_any L yb W (by omega) HYB.out).mono ?_
    rintro e w' ⟨u, rfl, ⟨q, hq, rfl, hb⟩, k⟩
    rw [flTo_len] at *
    exact ⟨q, rfl, hq, blk_lt hb, hb, k⟩
  have hx0 : ∀ cs t, (w.alloc (.cells cs t)).cell? ⟨x, 0, none⟩ = some (.int .i64 n) := fun cs t => HX0.out _ (same_alloc _ _)
  have HLL := hidden hL
  clear hL
  go_enter Try.func26, Try.ntmps26
  go_wp2
  go_region_held3 (fun w' => w'.cell? ⟨x, 0, none⟩ = some (.int .i64 n) ∧ w'.cell? ⟨w.heap.size, 3, none⟩ = some (.int .i64 mo) ∧ w'.cell? ⟨w.heap.size, 2, none⟩ = some (.int .u8 yb))
    (first | go_keep | (go_split_ands; assumption) | assumption)
    ((first
      | (go_at_call 24; go_must (refine (HFL.out _).mono ?_; rintro e w1 ⟨q1, rfl, hq1, hq1', hb1, k1⟩; have S1 := hidden (Kept.trans (same_alloc w _).drew k1); have B1 := hidden hb1; have O1 : Hid (Own w1 (.slice (some ⟨q1, 0, none⟩) L L) (flTo L yb (min L 40)) w.heap.size) := ⟨q1, Nat.le_trans (same_alloc w _).drew.size hq1, by rw [flTo_len], hb1⟩; have P1 := hidden (HP.out.fresh (q := q1) S1.out (Nat.le_trans (same_alloc w _).drew.size hq1) hq1'); have hbx := blk_kept k1 (fun h => h) (HBX.out _ _); have BX1 := hidden hbx; have cx0 := HX0.out _ S1.out; have cb1 : w1.cell? ⟨w.heap.size, 1, none⟩ = some (.int .i64 N) := blk_cell hbx;  have cb2 : w1.cell? ⟨w.heap.size, 2, none⟩ = some (.int .u8 yb) := blk_cell hbx; have cb3 : w1.cell? ⟨w.heap.size, 3, none⟩ = some (.int .i64 mo) := blk_cell hbx; clear hbx k1 hb1))))
  all_goals
    go_wp2
    go_region_held3 (fun w' => w'.cell? ⟨x, 0, none⟩ = some (.int .i64 n) ∧ w'.cell? ⟨w.heap.size, 1, none⟩ = some (.int .i64 N) ∧ w'.cell? ⟨w.heap.size, 3, none⟩ = some (.int .i64 mo) ∧ w'.cell? ⟨w.heap.size, 2, none⟩ = some (.int .u8 yb))
      (first | go_keep | (go_split_ands; assumption) | assumption)
      ((first
        | (go_at_call 23; go_must (refine (zd_writeBad (P1.out.same (Kept.refl _ w1).drew).d N _ (flTo L yb (min L 40)) (O1.out.byt.same (Kept.refl _ w1).drew) (by rw [flTo_len]; exact HBAD.out)).mono ?_; rintro e w2 ⟨rfl, hw2⟩; have S2 : Hid (Same w1 w2) := (by rw [← hw2]; exact (Kept.refl _ w1).drew); clear hw2; have hbx := blk_kept S2.out (fun h => h) BX1.out; have BX2 := hidden hbx; have Q2 := hidden (blk_kept S2.out (fun h => h) B1.out); have P2 := hidden (P1.out.same S2.out); have cx2 := P2.out.r.cell0; have cb21 : w2.cell? ⟨w.heap.size, 1, none⟩ = some (.int .i64 N) := blk_cell hbx; have cb22 : w2.cell? ⟨w.heap.size, 2, none⟩ = some (.int .u8 yb) := blk_cell hbx; have cb23 : w2.cell? ⟨w.heap.size, 3, none⟩ = some (.int .i64 mo) := blk_cell hbx; clear hbx))
        | (go_at_call 24; go_must (refine (HFL.out _).mono ?_; rintro e w3 ⟨q2, rfl, hq2, hq2', hb2, k3⟩; have S3 := hidden k3; have P3 := hidden (P2.out.same k3); have hbx := blk_kept k3 (fun h => h) BX2.out; have BX3 := hidden hbx; have Q3 := hidden (blk_kept k3 (fun h => h) Q2.out); have O3 : Hid (Own w3 (.slice (some ⟨q2, 0, none⟩) L L) (flTo L yb (min L 40)) 0) := ⟨q2, Nat.zero_le _, by rw [flTo_len], hb2⟩; have cx3 := P3.out.r.cell0; have cb31 : w3.cell? ⟨w.heap.size, 1, none⟩ = some (.int .i64 N) := blk_cell hbx; have cb32 : w3.cell? ⟨w.heap.size, 2, none⟩ = some (.int .u8 yb) := blk_cell hbx; have cb33 : w3.cell? ⟨w.heap.size, 3, none⟩ = some (.int .i64 mo) := blk_cell hbx; clear k3 hbx hb2))
        | (go_at_call 45; go_must (refine (rd_writeBad P3.out.r N _ (flTo L yb (min L 40)) O3.out.byt (by rw [flTo_len]; exact HBAD.out)).mono ?_; rintro e w4 ⟨rfl, rfl⟩))))
    all_goals
      go_wp2
      have HSq : Hid (w.heap.size ≤ q1) := (Nat.le_trans (same_alloc w _).drew.size hq1)
      have HBq : Hid (B ≤ q1) := Nat.le_trans hB HSq.out
      have HQX : Hid (q1 ≠ xb) := fun e => by have := HXL.out.2.1; have := Nat.le_trans (same_alloc w _).drew.size hq1; omega
      go_loopw [8] (fun t wr => ∃ (k : Nat) (l : List UInt8), k ≤ L ∧ t = .int .i64 k ∧ l.length = L ∧ wr.heap[q1]? = some (.cells (l.map U8).toArray 5 (0, 0)) ∧ Kept (fun i => i = q1) w3 wr) (fun t wr => L - (intOf t).toNat)
      case atStart => exact ⟨0, _, Nat.zero_le _, rfl, flTo_len _ _ _, Q3.out, Kept.refl _ _⟩
      case round =>
        obtain ⟨k, l, hk, rfl, hl, hb, hK⟩ := hrel
        have HK := hidden hK
        have HB := hidden hb
        have HL := hidden hl
        by_cases h1 : k < L
        · have q1' : (k : Int) < (L : Int) := by omega
          have hx : ∃ z : UInt8, wr.cell? ⟨q1, k, none⟩ = some (U8 z) := ⟨l[k]'(by omega), by rw [blk_cell hb]; simp [hl, h1]⟩
          have hfz : wr.frozen? ⟨q1, k, none⟩ = false := blk_free hb
          obtain ⟨z, hx⟩ := hx
          have HU := hidden (u8_inc z)
          unfold U8 at hx
          clear hb hK hl
          go_wp2
          go_roundw
          case rel =>
            refine ⟨k + 1, l.set k (z + 1), by omega, by go_num, by rw [List.length_set]; exact HL.out, ?_, HK.out.setCell (p := ⟨q1, k, none⟩) rfl _⟩
            have e := HU.out
            rw [IntKind.wrap_u8'] at e
            rw [e, blk_set HB.out]
            simp [List.map_set]
          case measure => simp [intOf]; omega
        · have q1' : ¬ (k : Int) < (L : Int) := by omega
          clear hb hK hl
          go_wp2
          go_returns
          exact ⟨rfl, (P3.out.bump HK.out (Or.inr rfl) Q3.out HQX.out).more HP.out.r.ap (fun k hk => Or.inl hk), HP.out.kfB (HP.out.kfS (Kept.trans S1.out (Kept.trans S2.out S3.out))) HK.out HSq.out HBq.out⟩
end Go.Proofs.Yteoajgphahobiaa
