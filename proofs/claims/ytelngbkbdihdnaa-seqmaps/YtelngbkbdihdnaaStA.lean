/- The law's step: Put, Delete, Get. (Made by mkstep.py.) -/
import Derived.Test.YtelngbkbdihdnaaItPut2
namespace Go.Proofs.Ytelngbkbdihdnaa
open Go.RowKit
set_option linter.unusedVariables false
/-- What a step leaves. -/
structure StT (B g n : Nat) (w : World) (u : Value) (l' : List Kv) (w' : World) : Prop where
  len : l'.length ≤ n + 1
  mp : MP B g l' w'
  it : ItR 0 w' u l'
  kept : Kept (fun i => i = g) w w'
theorem StT.still {B g : Nat} {l : List Kv} {u : Value} {w w' : World} (hm : MP B g l w) (h : ItR 0 w u l) (k : Same w w') : StT B g l.length w u l w' :=
  ⟨by omega, hm.same k, h.same k, k.mono (fun _ _ h => h.elim)⟩
set_option maxHeartbeats 2000000 in
set_option maxRecDepth 100000 in
theorem atM_out {B g : Nat} {l : List Kv} {w : World} (h : MP B g l w) (N : Int) (hN : N < 0 ∨ (l.length : Int) ≤ N) (hl : l.length ≤ 562949953421312) :
    Calls Try.prog 29 #[.pointer (some ⟨g, 0, none⟩), .int .i64 N] w fun e w' => e = .returned (.tuple #[It ByteArray.empty 0, .bool false]) ∧ Same w w' := by
  have HL : Hid (∀ o, Calls Try.prog 27 #[.pointer (some ⟨g, 0, none⟩)] (w.alloc o) fun e w' => e = .returned (.int .i64 l.length) ∧ w.alloc o = w') := fun o => lenM_any (h.same (same_alloc w o))
  clear h
  generalize l.length = n at *
  by_cases h0 : N < 0
  · clear hN
    go_enter Try.func29, Try.ntmps29
    go_wp2_with (go_at_call 27; go_must (refine (HL.out _).mono ?_; rintro e w1 ⟨rfl, rfl⟩))
    exact bodyPost_ret (v := .tuple #[It ByteArray.empty 0, .bool false]) (by simp [results, Try.results29, go_sem]; rfl) rfl ⟨rfl, same_alloc w _⟩
  · have h1 : (n : Int) ≤ N := by omega
    clear hN
    go_enter Try.func29, Try.ntmps29
    go_wp2_with (go_at_call 27; go_must (refine (HL.out _).mono ?_; rintro e w1 ⟨rfl, rfl⟩))
    exact bodyPost_ret (v := .tuple #[It ByteArray.empty 0, .bool false]) (by simp [results, Try.results29, go_sem]; rfl) rfl ⟨rfl, same_alloc w _⟩
set_option maxHeartbeats 1000000 in
set_option maxRecDepth 100000 in
theorem step_put {B g : Nat} {l : List Kv} {v : Value} {w : World} (hm : MP B g l w) (h : ItR 0 w v l) (hl : (l.length + 2) * 24 ≤ 140737488355328) (key to : ByteArray) (N : Int) :
    Calls Try.prog 26 #[.pointer (some ⟨g, 0, none⟩), v, .agg #[.int .i64 0, .string key, .string to, .int .i64 N]] w fun e w' => ∃ u l', e = .returned (.tuple #[u, .bool true]) ∧ StT B g l.length w u l' w' := by
  have HM : Hid (∀ W, Same w W → MP B g l W) := fun W kk => hm.same kk
  have HR : Hid (∀ W, Same w W → ItR 0 W v l) := fun W kk => h.same kk
  have HS := hidden hm.st
  have hgl : g < w.heap.size := hm.lt
  obtain ⟨a0, c0, rfl, hc0, hb⟩ := h.form
  have HB := hidden hb

  have HF : Hid (∀ W, Same w W → Calls Try.prog 40 #[.slice a0 l.length c0, .string key] W fun e w' => e = .returned (.tuple #[.int .i64 (rkL key l), .bool (lk key l).isSome]) ∧ Same W w') := fun W kk => findD_any key (HR.out W kk).its HS.out (by omega)
  clear h hb hm
  obtain ⟨n, hn⟩ : ∃ n, l.length = n := ⟨_, rfl⟩
  have HN := hidden hn
  have hl2 : l.length ≤ 562949953421312 := by omega
  have hl3 : (l.length + 1) * 24 ≤ 140737488355328 := by omega
  have HL2 := hidden hl2
  have HL3 := hidden hl3
  have HP : Hid (∀ W, Same w W → Calls Try.prog 24 #[.pointer (some ⟨g, 0, none⟩), .string key, .int .i64 N] W fun e w' => e = .returned (.tuple #[.int .i64 ((lk key l).getD 0), .bool (lk key l).isSome]) ∧ MP B g (insL key N l) w' ∧ ItR 0 w' (.slice a0 l.length c0) l ∧ Kept (fun i => i = g) W w') := fun W kk => (put_any (HM.out W kk) key N HL2.out).mono (fun e w' hh => ⟨hh.1, hh.2.1, (HR.out W kk).kept hh.2.2 (fun q cs hq => (HM.out W kk).ng hq (by decide)), hh.2.2⟩)
  have HD : Hid (∀ W, ItR 0 W (.slice a0 l.length c0) l → Calls Try.prog 51 #[.slice a0 l.length c0, It key N] W fun e w' => ∃ u o, e = .returned (.tuple #[u, It o ((lk key l).getD 0), .bool (lk key l).isSome]) ∧ ItR 0 w' u (insL key N l) ∧ Same W w') := fun W hi => putD_any key N hi HS.out HL3.out
  have HLEN : Hid ((insL key N l).length ≤ l.length + 1) := insL_len _ _ _
  rw [hn] at HP HD HF HLEN hc0 hl ⊢
  generalize insL key N l = l2 at HP HD HLEN
  generalize (lk key l).getD 0 = z at HP HD
  generalize (lk key l).isSome = bo at HP HD HF
  generalize rkL key l = rk at HF
  clear hn hl2 hl3
  go_enter Try.func26, Try.ntmps26
  go_wp2_with (first
    | (go_at_call 40; go_must (refine (HF.out _ (same_alloc w _)).mono ?_; rintro e w1 ⟨rfl, k1⟩; have b1 := blk_kept k1 (fun h => h) (heap_alloc_new w _); have x0 : w1.cell? ⟨w.heap.size, 0, none⟩ = some (.int .i64 0) := blk_cell b1; have x1 : w1.cell? ⟨w.heap.size, 1, none⟩ = some (.string key) := blk_cell b1; have x2 : w1.cell? ⟨w.heap.size, 2, none⟩ = some (.string to) := blk_cell b1; have x3 : w1.cell? ⟨w.heap.size, 3, none⟩ = some (.int .i64 N) := blk_cell b1; have K1 := hidden (Kept.trans (same_alloc w _) k1); clear k1 b1))
    | (go_at_call 24; go_must (refine (HP.out _ K1.out).mono ?_; rintro e w2 ⟨rfl, m2, i2, k2⟩; have y1 : w2.cell? ⟨w.heap.size, 1, none⟩ = some (.string key) := Kept.cell k2 (by simp; omega) x1; have y3 : w2.cell? ⟨w.heap.size, 3, none⟩ = some (.int .i64 N) := Kept.cell k2 (by simp; omega) x3; have M2 := hidden m2; have I2 := hidden i2; have K2 := hidden ((K1.out.mono (fun _ _ h => h.elim)).trans k2); clear m2 i2 k2))
    | (go_at_call 51; go_must (refine (HD.out _ I2.out).mono ?_; rintro e w3 ⟨u, o, rfl, i3, k3⟩; have M3 := hidden (M2.out.same k3); have I3 := hidden i3; have K3 := hidden (K2.out.trans (k3.mono (fun _ _ h => h.elim))); clear i3 k3)))
  go_returns
  exact ⟨u, l2, by first | rfl | simp, ⟨HLEN.out, M3.out.same (same_alloc _ _), I3.out.same (same_alloc _ _), K3.out.alloc _⟩⟩
set_option maxHeartbeats 1000000 in
set_option maxRecDepth 100000 in
theorem step_del {B g : Nat} {l : List Kv} {v : Value} {w : World} (hm : MP B g l w) (h : ItR 0 w v l) (hl : (l.length + 2) * 24 ≤ 140737488355328) (key to : ByteArray) (N : Int) :
    Calls Try.prog 26 #[.pointer (some ⟨g, 0, none⟩), v, .agg #[.int .i64 2, .string key, .string to, .int .i64 N]] w fun e w' => ∃ u l', e = .returned (.tuple #[u, .bool true]) ∧ StT B g l.length w u l' w' := by
  have HM : Hid (∀ W, Same w W → MP B g l W) := fun W kk => hm.same kk
  have HR : Hid (∀ W, Same w W → ItR 0 W v l) := fun W kk => h.same kk
  have HS := hidden hm.st
  have hgl : g < w.heap.size := hm.lt
  obtain ⟨a0, c0, rfl, hc0, hb⟩ := h.form
  have HB := hidden hb

  have HF : Hid (∀ W, Same w W → Calls Try.prog 40 #[.slice a0 l.length c0, .string key] W fun e w' => e = .returned (.tuple #[.int .i64 (rkL key l), .bool (lk key l).isSome]) ∧ Same W w') := fun W kk => findD_any key (HR.out W kk).its HS.out (by omega)
  clear h hb hm
  obtain ⟨n, hn⟩ : ∃ n, l.length = n := ⟨_, rfl⟩
  have HN := hidden hn
  have hl2 : l.length ≤ 562949953421312 := by omega
  have hl3 : (l.length + 1) * 24 ≤ 140737488355328 := by omega
  have HL2 := hidden hl2
  have HL3 := hidden hl3
  have HP : Hid (∀ W, Same w W → Calls Try.prog 25 #[.pointer (some ⟨g, 0, none⟩), .string key] W fun e w' => e = .returned (.tuple #[.int .i64 ((lk key l).getD 0), .bool (lk key l).isSome]) ∧ MP B g (delL key l) w' ∧ ItR 0 w' (.slice a0 l.length c0) l ∧ Kept (fun i => i = g) W w') := fun W kk => (delete_any (HM.out W kk) key HL2.out).mono (fun e w' hh => ⟨hh.1, hh.2.1, (HR.out W kk).kept hh.2.2 (fun q cs hq => (HM.out W kk).ng hq (by decide)), hh.2.2⟩)
  have HD : Hid (∀ W, ItR 0 W (.slice a0 l.length c0) l → Calls Try.prog 52 #[.slice a0 l.length c0, .string key] W fun e w' => ∃ u o, e = .returned (.tuple #[u, It o ((lk key l).getD 0), .bool (lk key l).isSome]) ∧ ItR 0 w' u (delL key l) ∧ Same W w') := fun W hi => delD_any key hi HS.out HL3.out
  have HLEN : Hid ((delL key l).length ≤ l.length + 1) := Nat.le_trans (delL_len _ _) (by omega)
  rw [hn] at HP HD HF HLEN hc0 hl ⊢
  generalize delL key l = l2 at HP HD HLEN
  generalize (lk key l).getD 0 = z at HP HD
  generalize (lk key l).isSome = bo at HP HD HF
  generalize rkL key l = rk at HF
  clear hn hl2 hl3
  go_enter Try.func26, Try.ntmps26
  go_wp2_with (first
    | (go_at_call 40; go_must (refine (HF.out _ (same_alloc w _)).mono ?_; rintro e w1 ⟨rfl, k1⟩; have b1 := blk_kept k1 (fun h => h) (heap_alloc_new w _); have x0 : w1.cell? ⟨w.heap.size, 0, none⟩ = some (.int .i64 2) := blk_cell b1; have x1 : w1.cell? ⟨w.heap.size, 1, none⟩ = some (.string key) := blk_cell b1; have x2 : w1.cell? ⟨w.heap.size, 2, none⟩ = some (.string to) := blk_cell b1; have x3 : w1.cell? ⟨w.heap.size, 3, none⟩ = some (.int .i64 N) := blk_cell b1; have K1 := hidden (Kept.trans (same_alloc w _) k1); clear k1 b1))
    | (go_at_call 25; go_must (refine (HP.out _ K1.out).mono ?_; rintro e w2 ⟨rfl, m2, i2, k2⟩; have y1 : w2.cell? ⟨w.heap.size, 1, none⟩ = some (.string key) := Kept.cell k2 (by simp; omega) x1; have y3 : w2.cell? ⟨w.heap.size, 3, none⟩ = some (.int .i64 N) := Kept.cell k2 (by simp; omega) x3; have M2 := hidden m2; have I2 := hidden i2; have K2 := hidden ((K1.out.mono (fun _ _ h => h.elim)).trans k2); clear m2 i2 k2))
    | (go_at_call 52; go_must (refine (HD.out _ I2.out).mono ?_; rintro e w3 ⟨u, o, rfl, i3, k3⟩; have M3 := hidden (M2.out.same k3); have I3 := hidden i3; have K3 := hidden (K2.out.trans (k3.mono (fun _ _ h => h.elim))); clear i3 k3)))
  go_returns
  exact ⟨u, l2, by first | rfl | simp, ⟨HLEN.out, M3.out.same (same_alloc _ _), I3.out.same (same_alloc _ _), K3.out.alloc _⟩⟩
set_option maxHeartbeats 1000000 in
set_option maxRecDepth 100000 in
theorem step_get0 {B g : Nat} {l : List Kv} {v : Value} {w : World} (hm : MP B g l w) (h : ItR 0 w v l) (hl : (l.length + 2) * 24 ≤ 140737488355328) (key to : ByteArray) (N : Int) (hlk : lk key l = none) :
    Calls Try.prog 26 #[.pointer (some ⟨g, 0, none⟩), v, .agg #[.int .i64 1, .string key, .string to, .int .i64 N]] w fun e w' => ∃ u l', e = .returned (.tuple #[u, .bool true]) ∧ StT B g l.length w u l' w' := by
  have HM : Hid (∀ W, Same w W → MP B g l W) := fun W kk => hm.same kk
  have HR : Hid (∀ W, Same w W → ItR 0 W v l) := fun W kk => h.same kk
  have HS := hidden hm.st
  have hgl : g < w.heap.size := hm.lt
  obtain ⟨a0, c0, rfl, hc0, hb⟩ := h.form
  have HB := hidden hb

  have HF : Hid (∀ W, Same w W → Calls Try.prog 40 #[.slice a0 l.length c0, .string key] W fun e w' => e = .returned (.tuple #[.int .i64 (rkL key l), .bool (lk key l).isSome]) ∧ Same W w') := fun W kk => findD_any key (HR.out W kk).its HS.out (by omega)
  clear h hb hm
  rw [hlk] at HF
  go_enter Try.func26, Try.ntmps26
  have HG : Hid (∀ W, Same w W → Calls Try.prog 30 #[.pointer (some ⟨g, 0, none⟩), .string key] W fun e w' => e = .returned (.tuple #[.int .i64 0, .bool false]) ∧ W = w') := fun W kk => by
    have := get_any (HM.out W kk) key
    rw [hlk] at this
    exact this
  clear hlk
  go_wp2_with (first
    | (go_at_call 40; go_must (refine (HF.out _ (same_alloc w _)).mono ?_; rintro e w1 ⟨rfl, k1⟩; have b1 := blk_kept k1 (fun h => h) (heap_alloc_new w _); have x0 : w1.cell? ⟨w.heap.size, 0, none⟩ = some (.int .i64 1) := blk_cell b1; have x1 : w1.cell? ⟨w.heap.size, 1, none⟩ = some (.string key) := blk_cell b1; have x2 : w1.cell? ⟨w.heap.size, 2, none⟩ = some (.string to) := blk_cell b1; have x3 : w1.cell? ⟨w.heap.size, 3, none⟩ = some (.int .i64 N) := blk_cell b1; have K1 := hidden (Kept.trans (same_alloc w _) k1); clear k1 b1))
    | (go_at_call 30; go_must (refine (HG.out _ K1.out).mono ?_; rintro e w2 ⟨rfl, rfl⟩)))
  go_returns
  exact ⟨_, l, by first | rfl | simp, StT.still (HM.out w (Kept.refl _ _)) (HR.out w (Kept.refl _ _)) (K1.out)⟩
set_option maxHeartbeats 1000000 in
set_option maxRecDepth 100000 in
theorem step_get1 {B g : Nat} {l : List Kv} {v : Value} {w : World} (hm : MP B g l w) (h : ItR 0 w v l) (hl : (l.length + 2) * 24 ≤ 140737488355328) (key to : ByteArray) (N : Int) {z : Int} (hlk : lk key l = some z) :
    Calls Try.prog 26 #[.pointer (some ⟨g, 0, none⟩), v, .agg #[.int .i64 1, .string key, .string to, .int .i64 N]] w fun e w' => ∃ u l', e = .returned (.tuple #[u, .bool true]) ∧ StT B g l.length w u l' w' := by
  have HM : Hid (∀ W, Same w W → MP B g l W) := fun W kk => hm.same kk
  have HR : Hid (∀ W, Same w W → ItR 0 W v l) := fun W kk => h.same kk
  have HS := hidden hm.st
  have hgl : g < w.heap.size := hm.lt
  obtain ⟨a0, c0, rfl, hc0, hb⟩ := h.form
  have HB := hidden hb

  have HF : Hid (∀ W, Same w W → Calls Try.prog 40 #[.slice a0 l.length c0, .string key] W fun e w' => e = .returned (.tuple #[.int .i64 (rkL key l), .bool (lk key l).isSome]) ∧ Same W w') := fun W kk => findD_any key (HR.out W kk).its HS.out (by omega)
  clear h hb hm
  have HA := hidden (lk_rk HS.out hlk)
  have hil : rkL key l < l.length := (List.getElem?_eq_some_iff.1 HA.out).1
  obtain ⟨b, rfl⟩ := HB.out (by omega)
  have HC : Hid (∀ W, Same w W → W.cell? ⟨b, rkL key l * 2 + 1, none⟩ = some (.int .i64 z)) := fun W kk => by
    have h1 := (HR.out W kk).at _ hil
    rw [(List.getElem?_eq_some_iff.1 HA.out).2] at h1
    exact h1.2
  rw [hlk] at HF
  simp only [Option.isSome_some] at HF
  go_enter Try.func26, Try.ntmps26
  have HG : Hid (∀ W, Same w W → Calls Try.prog 30 #[.pointer (some ⟨g, 0, none⟩), .string key] W fun e w' => e = .returned (.tuple #[.int .i64 z, .bool true]) ∧ W = w') := fun W kk => by
    have := get_any (HM.out W kk) key
    rw [hlk] at this
    exact this
  clear hlk
  obtain ⟨n, hn⟩ : ∃ n, l.length = n := ⟨_, rfl⟩
  obtain ⟨i, hi⟩ : ∃ i, rkL key l = i := ⟨_, rfl⟩
  have HN := hidden hn
  rw [hn] at HF hil hc0 hl ⊢
  rw [hi] at HF hil HC
  clear hn hi
  have q1 : (i : Int) < (n : Int) := by omega
  have q0 : (0 : Int) ≤ (i : Int) := Int.natCast_nonneg _
  go_wp2_with (first
    | (go_at_call 40; go_must (refine (HF.out _ (same_alloc w _)).mono ?_; rintro e w1 ⟨rfl, k1⟩; have b1 := blk_kept k1 (fun h => h) (heap_alloc_new w _); have x0 : w1.cell? ⟨w.heap.size, 0, none⟩ = some (.int .i64 1) := blk_cell b1; have x1 : w1.cell? ⟨w.heap.size, 1, none⟩ = some (.string key) := blk_cell b1; have x2 : w1.cell? ⟨w.heap.size, 2, none⟩ = some (.string to) := blk_cell b1; have x3 : w1.cell? ⟨w.heap.size, 3, none⟩ = some (.int .i64 N) := blk_cell b1; have K1 := hidden (Kept.trans (same_alloc w _) k1); have xc := HC.out _ K1.out; clear k1 b1))
    | (go_at_call 30; go_must (refine (HG.out _ K1.out).mono ?_; rintro e w2 ⟨rfl, rfl⟩)))
  go_returns
  exact ⟨_, l, by first | rfl | simp | (rw [HN.out]), by rw [← HN.out]; exact StT.still (HM.out w (Kept.refl _ _)) (HR.out w (Kept.refl _ _)) (K1.out)⟩
end Go.Proofs.Ytelngbkbdihdnaa
