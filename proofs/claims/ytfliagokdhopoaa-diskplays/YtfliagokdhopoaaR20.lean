/- DiskPlays, walked. -/
import Derived.Test.YtfliagokdhopoaaR19
import Derived.Test.YtfliagokdhopoaaPTab
namespace Go.Proofs.Ytfliagokdhopoaa
open Go.RowKit
set_option linter.unusedVariables false
theorem Op5.ok.kb {B : Nat} {w w' : World} {p : Op5} (h : p.ok w) (k : KB B w w') (hB : w.heap.size ≤ B) : p.ok w' :=
  ⟨h.byte, h.kind, h.N, h.more, h.ints.kb k (fun a k c e z => Nat.lt_of_lt_of_le (h.blk a k c e z) hB), h.len, h.each, fun a i c e z => Nat.lt_of_lt_of_le (h.blk a i c e z) k.size⟩
/-- The steps read as before. -/
theorem DOps5.kb {B n : Nat} {w w' : World} {v : Value} {f : Nat → Op5} (h : DOps5 w v n f) (k : KB B w w') (hB : w.heap.size ≤ B) : DOps5 w' v n f := by
  obtain ⟨a, cap, e, hc⟩ := h
  refine ⟨a, cap, e, fun hn => ?_⟩
  obtain ⟨b, off, rfl, hc2⟩ := hc hn
  have key : ∀ {p : Addr} {v : Value}, w.cell? p = some v → w'.cell? p = some v := fun {p v} h => Kept.cell k (by have := World.block_lt_of_cell? w p h; omega) h
  refine ⟨b, off, rfl, fun i hi => ?_⟩
  obtain ⟨o, c0, c1, c2, c3, c4⟩ := hc2 i hi
  exact ⟨o.kb k hB, key c0, key c1, key c2, key c3, key c4⟩
theorem Same.ofKB {B : Nat} {w w' : World} (k : KB B w w') (hB : w.heap.size ≤ B) : Same w w' := k.mono (fun i hi h => by omega)
set_option maxHeartbeats 1000000 in
set_option maxRecDepth 100000 in
theorem plays_no (n c : Int) (v : Value) (w : World) (h : ¬ (JSize n ∧ 1 ≤ c ∧ c ≤ 4096)) :
    Calls Try.prog 4 #[.int .i64 n, .int .i64 c, v] w fun e w' => e = .returned (.bool true) ∧ Same w w' := by
  go_enter Try.func4, Try.ntmps4
  go_wp2_with (first
    | (go_at_call 11; go_must (refine (d_lives _).mono ?_; rintro e w1 ⟨rfl, k1⟩; have K1 := hidden k1; clear k1))
    | (go_at_call 12; go_must (refine (d_newNo n c _ h).mono ?_; rintro e w2 ⟨rfl, rfl⟩))
    | (go_at_call 13; go_must (refine (r_newNo n c _ h).mono ?_; rintro e w2 ⟨rfl, rfl⟩)))
  go_returns
  exact ⟨rfl, K1.out⟩
set_option maxHeartbeats 4000000 in
set_option maxRecDepth 100000 in
theorem plays_yes (n c : Nat) (v : Value) (nl : Nat) (f : Nat → Op5) (w : World) (hn : JSize n) (hc1 : 1 ≤ c) (hc2 : c ≤ 4096) (hl : DOps5 w v nl f) (hnl : nl * 56 ≤ 140737488351232) :
    Calls Try.prog 4 #[.int .i64 n, .int .i64 c, v] w fun e w' => e = .returned (.bool true) ∧ Same w w' := by
  have hn5 : 512 ≤ n := by have := hn.1; omega
  have hn4 : n ≤ 4096 := by have := hn.2.1; omega
  obtain ⟨la, lc, rfl, _⟩ := id hl
  have HL := hidden hl
  have HN := hidden hn
  clear hl hn
  go_enter Try.func4, Try.ntmps4
  go_wp2_with (first
    | (go_at_call 11; go_must (refine (d_lives _).mono ?_; rintro e w1 ⟨rfl, k1⟩; have K1 := hidden k1; clear k1))
    | (go_at_call 12; go_must (refine (d_new n c _ HN.out hc1 hc2).mono ?_; rintro e w2 ⟨g0, rfl, m2⟩; obtain ⟨pb0, rb0, rc0, z2, k2⟩ := m2.zd (by omega) (by omega) hc1 hc2; have Z2 := hidden z2; have K2 := hidden k2; clear z2 k2 m2))
    | (go_at_call 13; go_must (refine (r_new n c _ HN.out hc1 hc2).mono ?_; rintro e w3 ⟨x, rfl, hx, hb3, hp3, k3⟩; have P3 := hidden (pair_new Z2.out K2.out.size hx hb3 hp3 k3); have K3 := hidden (Kept.trans K2.out k3); clear hb3 hp3 k3)))
  have HB0 : Hid (w.heap.size ≤ w1.heap.size) := K1.out.size
  have HD := hidden (HL.out.kb (B := w1.heap.size) (KB.ofSame (Kept.trans K1.out K3.out)) K1.out.size)
  have KB3 : Hid (KB w1.heap.size w1 w3) := KB.ofSame K3.out
  go_loopw [7, 11] (fun dv iv wr => ∃ (k g pb pc rb rc : Nat) (s : St), k ≤ nl ∧ iv = .int .i64 k ∧ dv = .pointer (some ⟨g, 0, none⟩) ∧ Pair (fun i => i = w2.heap.size) w1.heap.size n c g pb pc rb rc x w2.heap.size (n * c) s s wr ∧ SB k s ∧ KB w1.heap.size w1 wr) (fun dv iv wr => nl - (intOf iv).toNat)
  case atStart => exact ⟨0, g0, pb0, c, rb0, rc0, _, Nat.zero_le _, rfl, rfl, P3.out, SB.new n c, KB3.out⟩
  case round =>
    obtain ⟨k, g, pb, pc, rb, rc, s, hk, rfl, rfl, hP, hS, hK⟩ := hrel
    have HP := hidden hP
    have HS := hidden hS
    have HK := hidden hK
    have hBw := hK.size
    clear hP hS hK
    by_cases h1 : k < nl
    · have hd := HL.out.kb (B := w1.heap.size) ((KB.ofSame K1.out).trans HK.out) K1.out.size
      obtain ⟨la', lc', e, hc⟩ := hd
      simp only [Value.slice.injEq] at e
      obtain ⟨rfl, _, rfl⟩ := e
      obtain ⟨lb, lo, rfl, hc2⟩ := hc (by omega)
      obtain ⟨ok, c0, c1, c2, c3, c4⟩ := hc2 k h1
      have q1 : (k : Int) < (nl : Int) := by omega
      have OK := hidden ok
      have HKV : Hid (∀ a j c, (f k).kv = .slice (some a) j c → 0 < j → a.block < w1.heap.size) := fun a j c e z => by
        obtain ⟨_, _, e0, hc0⟩ := HL.out
        obtain ⟨_, _, _, hc0⟩ := hc0 (by omega)
        have := (hc0 k h1).1.blk a j c e z
        have := HB0.out
        omega
      clear hc hc2 ok
      have hkn : k ≤ 4398046511100 := by omega
      by_cases h8 : (f k).kind = 8
      · have e8 : ((f k).kind == 8) = true := by simpa using h8
        have HBW := hidden hBw
        generalize (f k) = p at *
        clear h8
        go_wp2_with (first
          | (go_at_call 21; go_must (refine (zd_fork HP.out.d HS.out (by omega)).mono ?_; rintro e w4 ⟨g', pb', pc', rb', rc', rfl, d4, k4⟩; have T4 := hidden (HP.out.fork HBW.out d4 k4); have KK4 := hidden (HK.out.trans (KB.ofSame k4)); clear d4 k4))
          | (go_at_call 22; go_must (refine (zd_stop T4.out.p.d (-1) (by decide)).mono ?_; rintro e w5 ⟨rfl, d5, k5, f5⟩; have T5 := hidden (T4.out.left d5 k5 f5); have KK5 := hidden (KK4.out.trans (T4.out.p.kbD f5)); clear d5 k5 f5))
          | (go_at_call 24; go_must (refine (filled_any n 99 _ (by omega) (by decide)).mono ?_; rintro e w6 ⟨u6, rfl, o6, k6⟩; have T6 := hidden (T5.out.same k6); have KK6 := hidden (KK5.out.trans (KB.ofSame k6)); have O6 := hidden (o6.weak (Nat.zero_le _)); obtain ⟨ua, uc, hue⟩ := o6.byt.form; rw [flTo_len] at hue; subst hue; clear o6 k6))
          | (go_at_call 23; go_must (refine (zd_write T6.out.p.d T6.out.p.hA (HS.out.stop _) (by omega) KK6.out.size 0 (by omega) _ (flTo n 99 (min n 40)) O6.out (flTo_len _ _ _)).mono ?_; rintro e w7 ⟨rfl, d7, k7, f7⟩; have T7 := hidden (T6.out.left d7 k7 f7); have KK7 := hidden (KK6.out.trans (T6.out.p.kbD f7)); clear d7 k7 f7))
          | (go_at_call 25; go_must (refine (zd_flush T7.out.p.d ((HS.out.stop _).write _ _) (by omega)).mono ?_; rintro e w8 ⟨rfl, d8, k8, f8⟩; have T8 := hidden (T7.out.left d8 k8 f8); have KK8 := hidden (KK7.out.trans (T7.out.p.kbD f8)); clear d8 k8 f8)))
        go_roundw
        case rel => exact ⟨k + 1, g', pb', pc', rb', rc', s, by omega, by go_num, rfl, T8.out.q, HS.out.up (Nat.le_succ _), KK8.out⟩
        case measure => simp [intOf]; omega
      · have e8 : ((f k).kind == 8) = false := by simpa using h8
        generalize (f k) = p at *
        clear h8
        go_wp2_with (go_at_call 26; go_must (refine (step_any HP.out HS.out (by omega) hBw hn5 p OK.out HKV.out).mono ?_; rintro e w4 ⟨rfl, p4, k4⟩; have P4 := hidden p4; have KK4 := hidden (HK.out.trans k4.kb); clear p4 k4))
        go_roundw
        case rel => exact ⟨k + 1, g, pb, pc, rb, rc, _, by omega, by go_num, rfl, P4.out, HS.out.step n c p, KK4.out⟩
        case measure => simp [intOf]; omega
    · have q1 : ¬ (k : Int) < (nl : Int) := by omega
      go_wp2_with (go_at_call 27; go_must (refine (looks_any HP.out HS.out (by omega) hBw hn5).mono ?_; rintro e w4 ⟨rfl, p4, k4⟩; have KK4 := hidden (HK.out.trans k4.kb); clear p4 k4))
      go_returns
      exact ⟨rfl, Kept.trans K1.out (Same.ofKB KK4.out (Nat.le_refl _))⟩
theorem plays_walk (n c : Int) (v : Value) (nl : Nat) (f : Nat → Op5) (w : World) (_ : -9223372036854775808 ≤ n) (_ : n ≤ 9223372036854775807) (_ : -9223372036854775808 ≤ c) (_ : c ≤ 9223372036854775807) (hl : DOps5 w v nl f) (hnl : nl * 56 ≤ 140737488351232) :
    Calls Try.prog 4 #[.int .i64 n, .int .i64 c, v] w fun e w' => e = .returned (.bool true) ∧ Same w w' := by
  by_cases h : JSize n ∧ 1 ≤ c ∧ c ≤ 4096
  · obtain ⟨n, rfl⟩ := Int.eq_ofNat_of_zero_le (show 0 ≤ n by have := h.1.1; omega)
    obtain ⟨c, rfl⟩ := Int.eq_ofNat_of_zero_le (show 0 ≤ c by omega)
    exact plays_yes n c v nl f w h.1 (by omega) (by omega) hl hnl
  · exact plays_no n c v w h
end Go.Proofs.Ytfliagokdhopoaa
