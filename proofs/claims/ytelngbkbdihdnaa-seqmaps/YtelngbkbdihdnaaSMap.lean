/- SeqMaps, walked. (Made by mkstep.py.) -/
import Derived.Test.YtelngbkbdihdnaaStC
import Derived.Test.YtelngbkbdihdnaaSOp
namespace Go.Proofs.Ytelngbkbdihdnaa
open Go.RowKit
set_option linter.unusedVariables false
set_option maxHeartbeats 1000000 in
set_option maxRecDepth 100000 in
theorem step_all2 {B g : Nat} {l : List Kv} {v : Value} {w : World} (hm : MP B g l w) (h : ItR 0 w v l) (hl : (l.length + 2) * 24 ≤ 140737488355328) (key to : ByteArray) (N : Int) :
    Calls Try.prog 26 #[.pointer (some ⟨g, 0, none⟩), v, .agg #[.int .i64 7, .string key, .string to, .int .i64 N]] w fun e w' => e = .returned (.tuple #[v, .bool true]) ∧ Same w w' := by
  have HM : Hid (∀ W, Same w W → MP B g l W) := fun W kk => hm.same kk
  have HR : Hid (∀ W, Same w W → ItR 0 W v l) := fun W kk => h.same kk
  have HS := hidden hm.st
  have hgl : g < w.heap.size := hm.lt
  obtain ⟨a0, c0, rfl, hc0, hb⟩ := h.form
  have HB := hidden hb

  have HF : Hid (∀ W, Same w W → Calls Try.prog 40 #[.slice a0 l.length c0, .string key] W fun e w' => e = .returned (.tuple #[.int .i64 (rkL key l), .bool (lk key l).isSome]) ∧ Same W w') := fun W kk => findD_any key (HR.out W kk).its HS.out (by omega)
  clear h hb hm
  have hl2 : l.length ≤ 562949953421312 := by omega
  have HL2 := hidden hl2
  clear hl2
  generalize hbo : (lk key l).isSome = bo at HF
  go_enter Try.func26, Try.ntmps26
  go_wp2_with (first
    | (go_at_call 40; go_must (refine (HF.out _ (same_alloc w _)).mono ?_; rintro e w1 ⟨rfl, k1⟩; have b1 := blk_kept k1 (fun h => h) (heap_alloc_new w _); have x0 : w1.cell? ⟨w.heap.size, 0, none⟩ = some (.int .i64 7) := blk_cell b1; have x1 : w1.cell? ⟨w.heap.size, 1, none⟩ = some (.string key) := blk_cell b1; have x2 : w1.cell? ⟨w.heap.size, 2, none⟩ = some (.string to) := blk_cell b1; have x3 : w1.cell? ⟨w.heap.size, 3, none⟩ = some (.int .i64 N) := blk_cell b1; have K1 := hidden (Kept.trans (same_alloc w _) k1); clear k1 b1))
    | (go_at_call 53; go_must (refine (goes_all _ _ N (HM.out _ K1.out) (HR.out _ K1.out) (by omega)).mono ?_; rintro e w2 ⟨rfl, k2⟩)))

  go_returns
  exact ⟨by first | rfl | simp, K1.out.trans k2⟩
theorem step_any {B g : Nat} {l : List Kv} {v : Value} {w : World} (hm : MP B g l w) (h : ItR 0 w v l) (hl : (l.length + 2) * 24 ≤ 140737488355328) (kd : Int) (key to : ByteArray) (N : Int) :
    Calls Try.prog 26 #[.pointer (some ⟨g, 0, none⟩), v, .agg #[.int .i64 kd, .string key, .string to, .int .i64 N]] w fun e w' => ∃ u l', e = .returned (.tuple #[u, .bool true]) ∧ StT B g l.length w u l' w' := by
  by_cases h0 : kd = 0
  · subst h0; exact step_put hm h hl key to N
  by_cases h1 : kd = 1
  · subst h1
    cases e : lk key l with
    | none => exact step_get0 hm h hl key to N e
    | some z => exact step_get1 hm h hl key to N e
  by_cases h2 : kd = 2
  · subst h2; exact step_del hm h hl key to N
  by_cases h3 : kd = 3
  · subst h3; exact step_len hm h hl key to N
  by_cases h4 : kd = 4
  · subst h4
    by_cases q0 : N < 0
    · exact step_at0 hm h hl key to N q0
    by_cases q1 : (l.length : Int) ≤ N
    · exact step_at1 hm h hl key to N q0 q1
    · exact step_at2 hm h hl key to N q0 q1
  by_cases h5 : kd = 5
  · subst h5; exact step_rank hm h hl key to N
  by_cases h6 : kd = 6
  · subst h6; exact step_range hm h hl key to N
  by_cases h7 : kd = 7
  · subst h7; exact step_all hm h hl key to N
  · exact step_other hm h hl kd key to N h0 h1 h2 h3 h4 h5 h6 h7
/-- The law's map and its list; what was there is as it was. -/
structure MI (w : World) (g : Nat) (v : Value) (l : List Kv) (W : World) : Prop where
  mp : MP w.heap.size g l W
  it : ItR 0 W v l
  same : Same w W
theorem MI.keep {w W W' : World} {g : Nat} {v : Value} {l : List Kv} (h : MI w g v l W) (k : Same W W') : MI w g v l W' := ⟨h.mp.same k, h.it.same k, h.same.trans k⟩
theorem MI.step {w W W' : World} {g n : Nat} {v u : Value} {l l' : List Kv} (h : MI w g v l W) (s : StT w.heap.size g n W u l' W') : MI w g u l' W' := ⟨s.mp, s.it, h.same.trans' s.kept (fun i hi e => by have := h.mp.lg; omega)⟩
/-- A fork, and what stands beside it. -/
structure FK (w : World) (g c : Nat) (v : Value) (l l0 : List Kv) (W : World) : Prop where
  old : MP w.heap.size g l0 W
  new : MP w.heap.size c l W
  it : ItR 0 W v l
  same : Same w W
  ne : g ≠ c
theorem FK.of {w W W' : World} {g c B : Nat} {v : Value} {l : List Kv} (h : MI w g v l W) (k : Same W W') (m : MP B c l W') (hc : W.heap.size ≤ c) : FK w g c v l l W' := by
  have hs := h.same.size
  exact ⟨h.mp.same k, ⟨m.ex, m.st, by omega⟩, h.it.same k, h.same.trans k, by have := h.mp.lt; omega⟩
theorem FK.turn {w W W' : World} {g c : Nat} {v : Value} {l l0 l1 : List Kv} (h : FK w g c v l l0 W) (m : MP w.heap.size g l1 W') (k : Kept (fun i => i = g) W W') : FK w g c v l l1 W' :=
  ⟨m, h.new.kept k (Ne.symm h.ne) (fun i cs hi => h.old.ng hi (by decide)), h.it.kept k (fun q cs hq => h.old.ng hq (by decide)), h.same.trans' k (fun i hi e => by have := h.old.lg; omega), h.ne⟩
theorem FK.keep {w W W' : World} {g c : Nat} {v : Value} {l l0 : List Kv} (h : FK w g c v l l0 W) (k : Same W W') : FK w g c v l l0 W' := ⟨h.old.same k, h.new.same k, h.it.same k, h.same.trans k, h.ne⟩
theorem FK.mi {w W : World} {g c : Nat} {v : Value} {l l0 : List Kv} (h : FK w g c v l l0 W) : MI w c v l W := ⟨h.new, h.it, h.same⟩
set_option maxRecDepth 100000 in
set_option maxHeartbeats 1000000 in
theorem maps_walk (v : Value) (n : Nat) (f : Nat → Op10) (w : World) (hl : SOps w v n f) (hsz : n * 48 ≤ 140737488351232) :
    Calls Try.prog 5 #[v] w fun e w' => e = .returned (.bool true) ∧ Same w w' := by
  obtain ⟨a0, c0, rfl, hin⟩ := hl
  have HIN : Hid (∀ W, Same w W → ∀ k, k < n → ∃ b off, a0 = some ⟨b, off, none⟩ ∧ W.cell? ⟨b, off + k * 4, none⟩ = some (.int .i64 (f k).kind) ∧ W.cell? ⟨b, off + k * 4 + 1, none⟩ = some (.string (f k).key) ∧ W.cell? ⟨b, off + k * 4 + 2, none⟩ = some (.string (f k).to) ∧ W.cell? ⟨b, off + k * 4 + 3, none⟩ = some (.int .i64 (f k).N)) := fun W kk k hk => by
    obtain ⟨b, off, e, h⟩ := hin (by omega)
    obtain ⟨h0, h1, h2, h3⟩ := h k hk
    exact ⟨b, off, e, Kept.cell kk (fun h => h) h0, Kept.cell kk (fun h => h) h1, Kept.cell kk (fun h => h) h2, Kept.cell kk (fun h => h) h3⟩
  clear hin
  go_enter Try.func5, Try.ntmps5
  go_wp2_with (first
    | (go_at_call 22; go_must (refine (newM_any _).mono ?_; rintro e w1 ⟨g, rfl, hg, h1, k1⟩; have H1 := hidden h1; have K1 := hidden k1; clear h1 k1))
    | (go_at_call 12; go_must (refine (awake_any _).mono ?_; rintro e w2 ⟨rfl, k2⟩; have I0 : Hid (MI w g (.slice none 0 0) [] w2) := ⟨H1.out.same k2, ItR.nil 0 w2, Kept.trans K1.out k2⟩; clear k2)))
  go_loopw [3, 4, 5, 18] (fun mv lv bv iv wr => ∃ (k g : Nat) (l : List Kv) (a : Option Addr) (c : Nat), iv = .int .i64 k ∧ mv = .pointer (some ⟨g, 0, none⟩) ∧ bv = .bool true ∧ k ≤ n ∧ lv = .slice a l.length c ∧ l.length ≤ k ∧ MI w g (.slice a l.length c) l wr) (fun mv lv bv iv wr => n - (intOf iv).toNat)
  case atStart => exact ⟨0, g, [], none, 0, rfl, rfl, rfl, Nat.zero_le _, rfl, Nat.zero_le _, I0.out⟩
  case round =>
    clear I0 H1 K1 hg
    obtain ⟨k, g, l, al, cl, rfl, rfl, rfl, hk, rfl, hlk, hI⟩ := hrel
    have HI := hidden hI
    obtain ⟨m, hm⟩ : ∃ m, l.length = m := ⟨_, rfl⟩
    have HM := hidden hm
    rw [hm] at hlk HI ⊢
    clear hI
    by_cases h1 : k < n
    · obtain ⟨b, off, rfl, y0, y1, y2, y3⟩ := HIN.out wr HI.out.same k h1
      have q1 : (k : Int) < (n : Int) := by omega
      have q0 : (0 : Int) ≤ (k : Int) := Int.natCast_nonneg _
      obtain ⟨kd, hkd⟩ : ∃ z, (f k).kind = z := ⟨_, rfl⟩
      obtain ⟨key, hkey⟩ : ∃ z, (f k).key = z := ⟨_, rfl⟩
      obtain ⟨to, hto⟩ : ∃ z, (f k).to = z := ⟨_, rfl⟩
      obtain ⟨N, hNN⟩ : ∃ z, (f k).N = z := ⟨_, rfl⟩
      rw [hkd] at y0
      rw [hkey] at y1
      rw [hto] at y2
      rw [hNN] at y3
      have hbe := heap_alloc_new wr (.cells #[.int .i64 kd, .string key, .string to, .int .i64 N] 44)
      have HBE := hidden hbe
      have HKW := hidden (same_alloc wr (.cells #[.int .i64 kd, .string key, .string to, .int .i64 N] 44))
      have d0 : (wr.alloc (.cells #[.int .i64 kd, .string key, .string to, .int .i64 N] 44)).cell? ⟨wr.heap.size, 0, none⟩ = some (.int .i64 kd) := blk_cell hbe
      have d1 : (wr.alloc (.cells #[.int .i64 kd, .string key, .string to, .int .i64 N] 44)).cell? ⟨wr.heap.size, 1, none⟩ = some (.string key) := blk_cell hbe
      have d2 : (wr.alloc (.cells #[.int .i64 kd, .string key, .string to, .int .i64 N] 44)).cell? ⟨wr.heap.size, 2, none⟩ = some (.string to) := blk_cell hbe
      have d3 : (wr.alloc (.cells #[.int .i64 kd, .string key, .string to, .int .i64 N] 44)).cell? ⟨wr.heap.size, 3, none⟩ = some (.int .i64 N) := blk_cell hbe
      clear hbe hkd hkey hto hNN hm
      by_cases hk8 : kd = 8
      · subst hk8
        go_wp2_with (first
          | (go_at_call 23; go_must (refine (forkM_any (HI.out.keep HKW.out).mp).mono ?_; rintro e w2 ⟨c, rfl, hc, m2, k2⟩; have F2 := hidden (FK.of (HI.out.keep HKW.out) k2 m2 hc); have B2 := hidden (blk_kept k2 (fun h => h) HBE.out); clear hc m2 k2))
          | (go_at_call 24; go_must (refine (put_any F2.out.old _ 1 (by have := HM.out; omega)).mono ?_; rintro e w3 ⟨rfl, m3, k3⟩; have b3 := blk_kept k3 (fun e => F2.out.old.ng B2.out (by decide) e) B2.out; have x1 : w3.cell? ⟨wr.heap.size, 1, none⟩ = some (.string key) := blk_cell b3; have F3 := hidden (F2.out.turn m3 k3); clear m3 k3 b3))
          | (go_at_call 25; go_must (refine (delete_any F3.out.old key (by have := insL_len { data := #[97, 32, 102, 111, 114, 107, 39, 115, 32, 111, 119, 110] } 1 l; have := HM.out; omega)).mono ?_; rintro e w4 ⟨rfl, m4, k4⟩; have F4 := hidden (F3.out.turn m4 k4); clear m4 k4)))
        go_roundw
        case rel => exact ⟨k + 1, c, l, al, cl, by go_num, rfl, rfl, by omega, by rw [HM.out], by have := HM.out; omega, by rw [HM.out]; exact F4.out.mi⟩
        case measure => simp [intOf]; omega
      · go_wp2_with (go_at_call 26; go_must (refine (step_any (HI.out.keep HKW.out).mp (HI.out.keep HKW.out).it (by have := HM.out; omega) kd key to N).mono ?_; rintro e w4 ⟨u, l4, rfl, s4⟩; have I4 := hidden ((HI.out.keep HKW.out).step s4); have L4 := hidden s4.len; clear s4))
        obtain ⟨a4, c4, e4, _⟩ := I4.out.it.form
        go_roundw
        case rel => exact ⟨k + 1, g, l4, a4, c4, by go_num, rfl, rfl, by omega, e4, by have := HM.out; have := L4.out; omega, by rw [← e4]; exact I4.out⟩
        case measure => simp [intOf]; omega
    · obtain rfl : k = n := by omega
      have q1 : ¬ (k : Int) < (k : Int) := by omega
      go_wp2_with (first
        | (go_at_call 26; go_must (refine (step_all2 HI.out.mp HI.out.it (by have := HM.out; omega) _ _ _).mono ?_; rintro e w4 ⟨rfl, k4⟩; have I4 := hidden (HI.out.keep k4); clear k4))
        | (go_at_call 27; go_must (refine (lenM_any I4.out.mp).mono ?_; rw [HM.out]; rintro e w5 ⟨rfl, rfl⟩)))
      go_returns
      exact ⟨by first | rfl | simp, I4.out.same⟩
end Go.Proofs.Ytelngbkbdihdnaa
