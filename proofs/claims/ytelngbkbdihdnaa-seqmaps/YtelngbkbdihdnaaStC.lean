/- The law's step: At, Range. (Made by mkstep.py.) -/
import Derived.Test.YtelngbkbdihdnaaStB
import Derived.Test.YtelngbkbdihdnaaGoesR
import Derived.Deep.RegionHeld3
namespace Go.Proofs.Ytelngbkbdihdnaa
open Go.RowKit
set_option linter.unusedVariables false
set_option maxHeartbeats 1000000 in
set_option maxRecDepth 100000 in
theorem step_at0 {B g : Nat} {l : List Kv} {v : Value} {w : World} (hm : MP B g l w) (h : ItR 0 w v l) (hl : (l.length + 2) * 24 ≤ 140737488355328) (key to : ByteArray) (N : Int) (h0 : N < 0) :
    Calls Try.prog 26 #[.pointer (some ⟨g, 0, none⟩), v, .agg #[.int .i64 4, .string key, .string to, .int .i64 N]] w fun e w' => ∃ u l', e = .returned (.tuple #[u, .bool true]) ∧ StT B g l.length w u l' w' := by
  have HM : Hid (∀ W, Same w W → MP B g l W) := fun W kk => hm.same kk
  have HR : Hid (∀ W, Same w W → ItR 0 W v l) := fun W kk => h.same kk
  have HS := hidden hm.st
  have hgl : g < w.heap.size := hm.lt
  obtain ⟨a0, c0, rfl, hc0, hb⟩ := h.form
  have HB := hidden hb

  have HF : Hid (∀ W, Same w W → Calls Try.prog 40 #[.slice a0 l.length c0, .string key] W fun e w' => e = .returned (.tuple #[.int .i64 (rkL key l), .bool (lk key l).isSome]) ∧ Same W w') := fun W kk => findD_any key (HR.out W kk).its HS.out (by omega)
  clear h hb hm
  have hl2 : l.length ≤ 562949953421312 := by omega
  have HL2 := hidden hl2
  clear hl2
  generalize hbo : (lk key l).isSome = bo at HF
  generalize hrk : rkL key l = rk at HF
  clear hbo hrk
  obtain ⟨n, hn⟩ : ∃ n, l.length = n := ⟨_, rfl⟩
  have HN := hidden hn
  have HAO : Hid (∀ W, Same w W → Calls Try.prog 29 #[.pointer (some ⟨g, 0, none⟩), .int .i64 N] W fun e w' => e = .returned (.tuple #[It ByteArray.empty 0, .bool false]) ∧ Same W w') := fun W kk => atM_out (HM.out W kk) N (Or.inl h0) HL2.out
  rw [hn] at HF hc0 hl ⊢
  clear hn
  go_enter Try.func26, Try.ntmps26
  go_wp2_with (first
    | (go_at_call 40; go_must (refine (HF.out _ (same_alloc w _)).mono ?_; rintro e w1 ⟨rfl, k1⟩; have b1 := blk_kept k1 (fun h => h) (heap_alloc_new w _); have x0 : w1.cell? ⟨w.heap.size, 0, none⟩ = some (.int .i64 4) := blk_cell b1; have x1 : w1.cell? ⟨w.heap.size, 1, none⟩ = some (.string key) := blk_cell b1; have x2 : w1.cell? ⟨w.heap.size, 2, none⟩ = some (.string to) := blk_cell b1; have x3 : w1.cell? ⟨w.heap.size, 3, none⟩ = some (.int .i64 N) := blk_cell b1; have K1 := hidden (Kept.trans (same_alloc w _) k1); clear k1 b1))
    | (go_at_call 29; go_must (refine (HAO.out _ K1.out).mono ?_; rintro e w2 ⟨rfl, k2⟩; have y3 : ∀ o, (w2.alloc o).cell? ⟨w.heap.size, 3, none⟩ = some (.int .i64 N) := fun o => Kept.cell (k2.trans (same_alloc w2 o)) (fun h => h) x3;  have K2 := hidden (K1.out.trans k2); clear k2)))
  go_quiet (fail)
  go_wp2
  go_returns
  exact ⟨_, l, by first | rfl | simp, by first | exact StT.still (HM.out w (Kept.refl _ _)) (HR.out w (Kept.refl _ _)) ((K2.out.alloc _).trans ((Kept.refl _ _).drewN _)) | (rw [← HN.out]; exact StT.still (HM.out w (Kept.refl _ _)) (HR.out w (Kept.refl _ _)) ((K2.out.alloc _).trans ((Kept.refl _ _).drewN _)))⟩
set_option maxHeartbeats 1000000 in
set_option maxRecDepth 100000 in
theorem step_at1 {B g : Nat} {l : List Kv} {v : Value} {w : World} (hm : MP B g l w) (h : ItR 0 w v l) (hl : (l.length + 2) * 24 ≤ 140737488355328) (key to : ByteArray) (N : Int) (h0 : ¬ N < 0) (h1 : (l.length : Int) ≤ N) :
    Calls Try.prog 26 #[.pointer (some ⟨g, 0, none⟩), v, .agg #[.int .i64 4, .string key, .string to, .int .i64 N]] w fun e w' => ∃ u l', e = .returned (.tuple #[u, .bool true]) ∧ StT B g l.length w u l' w' := by
  have HM : Hid (∀ W, Same w W → MP B g l W) := fun W kk => hm.same kk
  have HR : Hid (∀ W, Same w W → ItR 0 W v l) := fun W kk => h.same kk
  have HS := hidden hm.st
  have hgl : g < w.heap.size := hm.lt
  obtain ⟨a0, c0, rfl, hc0, hb⟩ := h.form
  have HB := hidden hb

  have HF : Hid (∀ W, Same w W → Calls Try.prog 40 #[.slice a0 l.length c0, .string key] W fun e w' => e = .returned (.tuple #[.int .i64 (rkL key l), .bool (lk key l).isSome]) ∧ Same W w') := fun W kk => findD_any key (HR.out W kk).its HS.out (by omega)
  clear h hb hm
  have hl2 : l.length ≤ 562949953421312 := by omega
  have HL2 := hidden hl2
  clear hl2
  generalize hbo : (lk key l).isSome = bo at HF
  generalize hrk : rkL key l = rk at HF
  clear hbo hrk
  obtain ⟨n, hn⟩ : ∃ n, l.length = n := ⟨_, rfl⟩
  have HN := hidden hn
  have HAO : Hid (∀ W, Same w W → Calls Try.prog 29 #[.pointer (some ⟨g, 0, none⟩), .int .i64 N] W fun e w' => e = .returned (.tuple #[It ByteArray.empty 0, .bool false]) ∧ Same W w') := fun W kk => atM_out (HM.out W kk) N (Or.inr h1) HL2.out
  rw [hn] at HF hc0 hl ⊢
  rw [hn] at h1
  clear hn
  go_enter Try.func26, Try.ntmps26
  go_wp2_with (first
    | (go_at_call 40; go_must (refine (HF.out _ (same_alloc w _)).mono ?_; rintro e w1 ⟨rfl, k1⟩; have b1 := blk_kept k1 (fun h => h) (heap_alloc_new w _); have x0 : w1.cell? ⟨w.heap.size, 0, none⟩ = some (.int .i64 4) := blk_cell b1; have x1 : w1.cell? ⟨w.heap.size, 1, none⟩ = some (.string key) := blk_cell b1; have x2 : w1.cell? ⟨w.heap.size, 2, none⟩ = some (.string to) := blk_cell b1; have x3 : w1.cell? ⟨w.heap.size, 3, none⟩ = some (.int .i64 N) := blk_cell b1; have K1 := hidden (Kept.trans (same_alloc w _) k1); clear k1 b1))
    | (go_at_call 29; go_must (refine (HAO.out _ K1.out).mono ?_; rintro e w2 ⟨rfl, k2⟩; have y3 : ∀ o, (w2.alloc o).cell? ⟨w.heap.size, 3, none⟩ = some (.int .i64 N) := fun o => Kept.cell (k2.trans (same_alloc w2 o)) (fun h => h) x3;  have K2 := hidden (K1.out.trans k2); clear k2)))
  go_quiet (fail)
  go_wp2
  go_returns
  exact ⟨_, l, by first | rfl | simp, by first | exact StT.still (HM.out w (Kept.refl _ _)) (HR.out w (Kept.refl _ _)) ((K2.out.alloc _).trans ((Kept.refl _ _).drewN _)) | (rw [← HN.out]; exact StT.still (HM.out w (Kept.refl _ _)) (HR.out w (Kept.refl _ _)) ((K2.out.alloc _).trans ((Kept.refl _ _).drewN _)))⟩
set_option maxHeartbeats 1000000 in
set_option maxRecDepth 100000 in
theorem step_at2 {B g : Nat} {l : List Kv} {v : Value} {w : World} (hm : MP B g l w) (h : ItR 0 w v l) (hl : (l.length + 2) * 24 ≤ 140737488355328) (key to : ByteArray) (N : Int) (h0 : ¬ N < 0) (h1 : ¬ (l.length : Int) ≤ N) :
    Calls Try.prog 26 #[.pointer (some ⟨g, 0, none⟩), v, .agg #[.int .i64 4, .string key, .string to, .int .i64 N]] w fun e w' => ∃ u l', e = .returned (.tuple #[u, .bool true]) ∧ StT B g l.length w u l' w' := by
  have HM : Hid (∀ W, Same w W → MP B g l W) := fun W kk => hm.same kk
  have HR : Hid (∀ W, Same w W → ItR 0 W v l) := fun W kk => h.same kk
  have HS := hidden hm.st
  have hgl : g < w.heap.size := hm.lt
  obtain ⟨a0, c0, rfl, hc0, hb⟩ := h.form
  have HB := hidden hb

  have HF : Hid (∀ W, Same w W → Calls Try.prog 40 #[.slice a0 l.length c0, .string key] W fun e w' => e = .returned (.tuple #[.int .i64 (rkL key l), .bool (lk key l).isSome]) ∧ Same W w') := fun W kk => findD_any key (HR.out W kk).its HS.out (by omega)
  clear h hb hm
  have hl2 : l.length ≤ 562949953421312 := by omega
  have HL2 := hidden hl2
  clear hl2
  generalize hbo : (lk key l).isSome = bo at HF
  generalize hrk : rkL key l = rk at HF
  clear hbo hrk
  obtain ⟨i, hi⟩ : ∃ i : Nat, (i : Int) = N := ⟨N.toNat, by omega⟩
  have hil : i < l.length := by omega
  obtain ⟨⟨a, y⟩, hay⟩ : ∃ e, l[i] = e := ⟨_, rfl⟩
  obtain ⟨b, rfl⟩ := HB.out (by omega)
  have HC : Hid (∀ W, Same w W → W.cell? ⟨b, i * 2, none⟩ = some (.string a) ∧ W.cell? ⟨b, i * 2 + 1, none⟩ = some (.int .i64 y)) := fun W kk => by
    have h1 := (HR.out W kk).at _ hil
    rw [hay] at h1
    exact h1
  have HQ := hidden (show l[i]? = some (a, y) by rw [List.getElem?_eq_getElem hil, hay])
  subst hi
  obtain ⟨n, hn⟩ : ∃ n, l.length = n := ⟨_, rfl⟩
  have HN := hidden hn
  have HAO : Hid (∀ W, Same w W → Calls Try.prog 29 #[.pointer (some ⟨g, 0, none⟩), .int .i64 (i : Int)] W fun e w' => e = .returned (.tuple #[It a y, .bool true]) ∧ Same W w') := fun W kk => atM_any (HM.out W kk) i a y HQ.out HL2.out
  rw [hn] at HF hc0 hl ⊢
  rw [hn] at hil h1
  have q1 : (i : Int) < (n : Int) := by omega
  have q0 : (0 : Int) ≤ (i : Int) := Int.natCast_nonneg _
  have q2 : ¬ (n : Int) ≤ (i : Int) := by omega
  have t1 : (a.toList == a.toList) = true := by simp
  clear hn hay h1 h0
  go_enter Try.func26, Try.ntmps26
  go_wp2_with (first
    | (go_at_call 40; go_must (refine (HF.out _ (same_alloc w _)).mono ?_; rintro e w1 ⟨rfl, k1⟩; have b1 := blk_kept k1 (fun h => h) (heap_alloc_new w _); have x0 : w1.cell? ⟨w.heap.size, 0, none⟩ = some (.int .i64 4) := blk_cell b1; have x1 : w1.cell? ⟨w.heap.size, 1, none⟩ = some (.string key) := blk_cell b1; have x2 : w1.cell? ⟨w.heap.size, 2, none⟩ = some (.string to) := blk_cell b1; have x3 : w1.cell? ⟨w.heap.size, 3, none⟩ = some (.int .i64 (i : Int)) := blk_cell b1; have K1 := hidden (Kept.trans (same_alloc w _) k1); clear k1 b1))
    | (go_at_call 29; go_must (refine (HAO.out _ K1.out).mono ?_; rintro e w2 ⟨rfl, k2⟩; have y3 : ∀ o, (w2.alloc o).cell? ⟨w.heap.size, 3, none⟩ = some (.int .i64 (i : Int)) := fun o => Kept.cell (k2.trans (same_alloc w2 o)) (fun h => h) x3; have yc := fun o => HC.out (w2.alloc o) (K1.out.trans (k2.trans (same_alloc w2 o))); have yc0 := fun o => (yc o).1; have yc1 := fun o => (yc o).2; clear yc; have K2 := hidden (K1.out.trans k2); clear k2)))
  go_quiet (fail)
  go_wp2
  go_returns
  exact ⟨_, l, by first | rfl | simp, by first | exact StT.still (HM.out w (Kept.refl _ _)) (HR.out w (Kept.refl _ _)) ((K2.out.alloc _).trans ((Kept.refl _ _).drewN _)) | (rw [← HN.out]; exact StT.still (HM.out w (Kept.refl _ _)) (HR.out w (Kept.refl _ _)) ((K2.out.alloc _).trans ((Kept.refl _ _).drewN _)))⟩
set_option maxHeartbeats 1000000 in
set_option maxRecDepth 100000 in
theorem step_range {B g : Nat} {l : List Kv} {v : Value} {w : World} (hm : MP B g l w) (h : ItR 0 w v l) (hl : (l.length + 2) * 24 ≤ 140737488355328) (key to : ByteArray) (N : Int) :
    Calls Try.prog 26 #[.pointer (some ⟨g, 0, none⟩), v, .agg #[.int .i64 6, .string key, .string to, .int .i64 N]] w fun e w' => ∃ u l', e = .returned (.tuple #[u, .bool true]) ∧ StT B g l.length w u l' w' := by
  have HM : Hid (∀ W, Same w W → MP B g l W) := fun W kk => hm.same kk
  have HR : Hid (∀ W, Same w W → ItR 0 W v l) := fun W kk => h.same kk
  have HS := hidden hm.st
  have hgl : g < w.heap.size := hm.lt
  obtain ⟨a0, c0, rfl, hc0, hb⟩ := h.form
  have HB := hidden hb

  have HF : Hid (∀ W, Same w W → Calls Try.prog 40 #[.slice a0 l.length c0, .string key] W fun e w' => e = .returned (.tuple #[.int .i64 (rkL key l), .bool (lk key l).isSome]) ∧ Same W w') := fun W kk => findD_any key (HR.out W kk).its HS.out (by omega)
  clear h hb hm
  have hl2 : l.length ≤ 562949953421312 := by omega
  have HL2 := hidden hl2
  clear hl2
  generalize hbo : (lk key l).isSome = bo at HF
  generalize hrk : rkL key l = rk at HF
  clear hbo hrk
  obtain ⟨n, hn⟩ : ∃ n, l.length = n := ⟨_, rfl⟩
  have HN := hidden hn
  have HL3 : Hid ((l.length + 1) * 24 ≤ 140737488355328) := by show _ ≤ _; omega
  rw [hn] at HF hc0 hl ⊢
  clear hn
  have HPA : Hid (∀ W, Same w W → Calls Try.prog 54 #[.slice a0 n c0, .string key, .string to] W fun e w' => ∃ u, e = .returned u ∧ ItR W.heap.size w' u (rng key to l) ∧ Same W w') := fun W kk => by have := part_any key to (HR.out W kk) HL3.out; rw [HN.out] at this; exact this
  go_enter Try.func26, Try.ntmps26
  go_wp2_with ((go_at_call 40; go_must (refine (HF.out _ (same_alloc w _)).mono ?_; rintro e w1 ⟨rfl, k1⟩; have b1 := blk_kept k1 (fun h => h) (heap_alloc_new w _); have x0 : w1.cell? ⟨w.heap.size, 0, none⟩ = some (.int .i64 6) := blk_cell b1; have x1 : w1.cell? ⟨w.heap.size, 1, none⟩ = some (.string key) := blk_cell b1; have x2 : w1.cell? ⟨w.heap.size, 2, none⟩ = some (.string to) := blk_cell b1; have x3 : w1.cell? ⟨w.heap.size, 3, none⟩ = some (.int .i64 N) := blk_cell b1; have K1 := hidden (Kept.trans (same_alloc w _) k1); clear k1 b1)))
  go_region_held3 (fun w' => w'.cell? ⟨w.heap.size, 1, none⟩ = some (.string key) ∧ w'.cell? ⟨w.heap.size, 2, none⟩ = some (.string to) ∧ w'.cell? ⟨w.heap.size, 3, none⟩ = some (.int .i64 N))
    (first | go_keep | (go_split_ands; exact ⟨by assumption, by assumption, by assumption⟩))
    ((first
      | (go_at_call 54; go_must (refine (HPA.out _ (K1.out.drew)).mono ?_; rintro e w2 ⟨u, rfl, i2, k2⟩; have k2' := Kept.trans (Kept.refl _ w1).drew k2; have y1 := Kept.cell k2' (fun h => h) x1; have y2 := Kept.cell k2' (fun h => h) x2; have y3 := Kept.cell k2' (fun h => h) x3; have I2 := hidden i2; have K2 := hidden (K1.out.trans k2'); clear i2 k2 k2'))
      | (go_at_call 53; go_must (refine (goes_rng key to N (HM.out _ K2.out) I2.out.base (by have h9 := rng_len key to l; have := HL3.out; omega)).mono ?_; rintro e w3 ⟨rfl, k3⟩; have z1 := Kept.cell k3 (fun h => h) y1; have z2 := Kept.cell k3 (fun h => h) y2; have z3 := Kept.cell k3 (fun h => h) y3; have K3 := hidden (K2.out.trans k3); clear k3))))
  go_wp2
  go_returns
  exact ⟨_, l, by first | rfl | simp, by rw [← HN.out]; exact StT.still (HM.out w (Kept.refl _ _)) (HR.out w (Kept.refl _ _)) K3.out⟩
end Go.Proofs.Ytelngbkbdihdnaa
