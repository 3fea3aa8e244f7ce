/- SeqAgrees, walked. -/
import Derived.Test.YtcejgbojiejjdaaRnd
import Derived.RangeFuncCalls
import Derived.Test.YtcejgbojiejjdaaSOp
import Derived.Test.YtcejgbojiejjdaaSNobody
namespace Go.Proofs.Ytcejgbojiejjdaa
open Go.RowKit Go.Shelf
set_option linter.unusedVariables false
attribute [local go_sem] Oper.semAt_some
/-- The map, the law's result, the law's own m; what was there is as it was. -/
structure AG (w : World) (B R M g : Nat) (l : List Kv) (W : World) : Prop where
  mp : MP B g l W
  res : W.heap[R]? = some (.cells #[.bool false] 4 (0, 0))
  box : W.heap[M]? = some (.cells #[.pointer (some ⟨g, 0, none⟩)] 40 (0, 0))
  same : Same w W
theorem AG.keep {w W W' : World} {B R M g : Nat} {l : List Kv} (h : AG w B R M g l W) (k : Same W W') : AG w B R M g l W' :=
  ⟨h.mp.same k, blk_kept k (fun h => h) h.res, blk_kept k (fun h => h) h.box, h.same.trans k⟩
theorem AG.turn {w W W' : World} {B R M g : Nat} {l l' : List Kv} (h : AG w B R M g l W) (hB : w.heap.size ≤ B) (hm : MP B g l' W') (k : Kept (fun i => i = g) W W') : AG w B R M g l' W' :=
  ⟨hm, blk_kept k (h.mp.ng h.res (by decide)) h.res, blk_kept k (h.mp.ng h.box (by decide)) h.box, h.same.trans' k (fun i hi e => by have := h.mp.lg; omega)⟩
theorem AG.kept {S : Nat → Prop} {w W W' : World} {B R M g : Nat} {l : List Kv} (h : AG w B R M g l W) (k : Kept S W W') (h1 : ¬ S g) (h2 : ¬ S R) (h3 : ¬ S M) (hb : ∀ i cs, W.heap[i]? = some (.cells cs 99 (0, 0)) → ¬ S i) (hw : ∀ i, i < w.heap.size → ¬ S i) : AG w B R M g l W' :=
  ⟨h.mp.kept k h1 hb, blk_kept k h2 h.res, blk_kept k h3 h.box, h.same.trans' k (fun i hi e => hw i hi e)⟩
theorem keepsFrom_of {B b : Nat} {W W' : World} (k : Kept (fun j => j = b) W W') (hb : b < B) : KeepsFrom B W W' :=
  ⟨k.size, fun i o hB hi _ => (k.block i (Array.getElem?_eq_some_iff.1 hi).1 (by omega)).trans hi⟩
theorem beqS_ne' {a b : ByteArray} (h : a ≠ b) : (a.toList == b.toList) = false := by
  rw [beq_eq_false_iff_ne]
  exact fun e => h (bytes_ext e)
theorem pf_iff {pre l : List Kv} {i : Nat} {x e : Kv} (hp : pre <+: l) (hl : pre.length = i) (he : l[i]? = some e) : (pre ++ [x]) <+: l ↔ x = e := by
  obtain ⟨q, rfl⟩ := hp
  rw [List.prefix_append_right_inj]
  rw [List.getElem?_append_right (by omega)] at he
  have e0 : i - pre.length = 0 := by omega
  rw [e0] at he
  rcases q with _ | ⟨c, q⟩
  · simp at he
  · simp at he
    subst he
    simp [List.cons_prefix_cons]
set_option maxRecDepth 100000 in
set_option maxHeartbeats 4000000 in
theorem agrees_walk (v : Value) (n : Nat) (f : Nat → Op10) (w : World) (hl : SOps w v n f) (hsz : n * 48 ≤ 140737488351232) :
    Calls Try.prog 6 #[v] w fun e w' => e = .returned (.bool true) ∧ Same w w' := by
  obtain ⟨a0, c0, rfl, hin⟩ := hl
  have HIN : Hid (∀ W, Same w W → ∀ k, k < n → ∃ b off, a0 = some ⟨b, off, none⟩ ∧ W.cell? ⟨b, off + k * 4, none⟩ = some (.int .i64 (f k).kind) ∧ W.cell? ⟨b, off + k * 4 + 1, none⟩ = some (.string (f k).key) ∧ W.cell? ⟨b, off + k * 4 + 2, none⟩ = some (.string (f k).to) ∧ W.cell? ⟨b, off + k * 4 + 3, none⟩ = some (.int .i64 (f k).N)) := fun W kk k hk => by
    obtain ⟨b, off, e, h⟩ := hin (by omega)
    obtain ⟨h0, h1, h2, h3⟩ := h k hk
    exact ⟨b, off, e, Kept.cell kk (fun h => h) h0, Kept.cell kk (fun h => h) h1, Kept.cell kk (fun h => h) h2, Kept.cell kk (fun h => h) h3⟩
  have C1 := hidden (fun W => (callsIn_wide (n := 5)).2 (newM_any W))
  have C2 := hidden (fun W => (callsIn_wide (n := 5)).2 (awake_any W))
  have CP := hidden (fun B g l W (h : MP B g l W) k x hl => (callsIn_wide (n := 5)).2 (put_any h k x hl))
  have CD := hidden (fun B g l W (h : MP B g l W) k hl => (callsIn_wide (n := 5)).2 (delete_any h k hl))
  have CA := hidden (fun m W => (callsIn_wide (n := 5)).2 (all_fn m W))
  clear hin
  refine (callsIn_wide (n := 6)).1 ?_
  refine callsIn_of_wp_marks Try.func6 rfl trivial ?_ rfl
  simp only [Try.ntmps6, List.size_toArray, List.length_cons, List.length_nil, Nat.reduceAdd, Nat.reduceSub, Array.replicate_succ, Array.replicate_zero, List.push_toArray, List.append_toArray, List.nil_append, List.cons_append]
  gi_wp2_with (first
    | (refine ⟨trivial, ?_⟩; gi_at_call 22; refine (C1.out _).mono ?_; rintro e w1 ⟨g, rfl, hg, h1, k1⟩; have H1 := hidden h1; have K1 := hidden (Kept.trans (same_alloc w _) k1); have R1 := hidden (blk_kept k1 (fun h => h) (heap_alloc_new w _)); clear h1 k1)
    | (refine ⟨trivial, ?_⟩; gi_at_call 12; refine (C2.out _).mono ?_; rintro e w2 ⟨rfl, k2⟩; have b2 := blk_kept k2 (fun h => h) (heap_alloc_new w1 _); have x2 : w2.cell? ⟨w1.heap.size, 0, none⟩ = some (.pointer (some ⟨g, 0, none⟩)) := blk_cell b2; have k2' := Kept.trans (same_alloc w1 _) k2; have H2 := hidden (H1.out.same k2'); have R2 := hidden (blk_kept k2' (fun h => h) R1.out); have B2 := hidden b2; have K2 := hidden (Kept.trans K1.out k2'); clear b2 k2 k2'))
  obtain ⟨B, hB, HB, H2⟩ : ∃ B, Hid (w.heap.size ≤ B) ∧ w.heap.size ≤ g ∧ Hid (MP B g [] w2) := ⟨_, by simp [Hid], by simp at hg; omega, H2⟩
  have A0 : Hid (AG w B w.heap.size w1.heap.size g [] w2) := ⟨H2.out, R2.out, B2.out, K2.out⟩
  clear hg H1 K1 R1 H2 R2 B2 K2 x2
  gi_loopw [22] (fun iv wr => ∃ (k : Nat) (l : List Kv), iv = .int .i64 k ∧ k ≤ n ∧ l.length ≤ k ∧ AG w B w.heap.size w1.heap.size g l wr) (fun iv _ => n - (intOf iv).toNat)
  case atStart => exact ⟨0, [], rfl, Nat.zero_le _, Nat.zero_le _, A0.out⟩
  case round =>
    obtain ⟨k, l, rfl, hk, hlk, hA⟩ := hrel
    have HA := hidden hA
    clear hA
    by_cases h1 : k < n
    · obtain ⟨b, off, rfl, y0, y1, y2, y3⟩ := HIN.out wr HA.out.same k h1
      have q1 : (k : Int) < (n : Int) := by omega
      have q0 : (0 : Int) ≤ (k : Int) := Int.natCast_nonneg _
      have m0 : ∀ o, (wr.alloc o).cell? ⟨w1.heap.size, 0, none⟩ = some (.pointer (some ⟨g, 0, none⟩)) := fun o => blk_cell (HA.out.keep (same_alloc wr o)).box
      have HP : Hid (∀ o k x, CallsIn Fence.wide 5 Try.prog 24 #[.pointer (some ⟨g, 0, none⟩), .string k, .int .i64 x] (wr.alloc o) fun e w' => (∃ t, e = .returned t) ∧ AG w B w.heap.size w1.heap.size g (insL k x l) w') := fun o k x => (CP.out _ _ _ _ (HA.out.keep (same_alloc wr o)).mp k x (by omega)).mono (fun e w' h => ⟨⟨_, h.1⟩, (HA.out.keep (same_alloc wr o)).turn hB.out h.2.1 h.2.2⟩)
      have HD : Hid (∀ o k, CallsIn Fence.wide 5 Try.prog 25 #[.pointer (some ⟨g, 0, none⟩), .string k] (wr.alloc o) fun e w' => (∃ t, e = .returned t) ∧ AG w B w.heap.size w1.heap.size g (delL k l) w') := fun o k => (CD.out _ _ _ _ (HA.out.keep (same_alloc wr o)).mp k (by omega)).mono (fun e w' h => ⟨⟨_, h.1⟩, (HA.out.keep (same_alloc wr o)).turn hB.out h.2.1 h.2.2⟩)
      obtain ⟨kd, hkd⟩ : ∃ z, (f k).kind = z := ⟨_, rfl⟩
      rw [hkd] at y0
      clear hkd
      by_cases hk0 : kd = 0
      · subst hk0
        gi_wp2_with (refine ⟨trivial, ?_⟩; gi_at_call 24; refine (HP.out _ _ _).mono ?_; rintro e w5 ⟨⟨t5, rfl⟩, h5⟩; have H5 := hidden h5; clear h5)
        exact ⟨⟨k + 1, _, by go_num, by omega, Nat.le_trans (insL_len _ _ _) (by omega), H5.out⟩, by simp [intOf]; omega⟩
      · by_cases hk2 : kd = 2
        · subst hk2
          gi_wp2_with (refine ⟨trivial, ?_⟩; gi_at_call 25; refine (HD.out _ _).mono ?_; rintro e w5 ⟨⟨t5, rfl⟩, h5⟩; have H5 := hidden h5; clear h5)
          exact ⟨⟨k + 1, _, by go_num, by omega, Nat.le_trans (delL_len _ _) (by omega), H5.out⟩, by simp [intOf]; omega⟩
        · gi_wp2
          exact ⟨⟨k + 1, l, by go_num, by omega, by omega, HA.out.keep (same_alloc _ _)⟩, by simp [intOf]; omega⟩
    · obtain rfl : k = n := by omega
      have q1 : ¬ (k : Int) < (k : Int) := by omega
      have m0 : ∀ o, (wr.alloc o).cell? ⟨w1.heap.size, 0, none⟩ = some (.pointer (some ⟨g, 0, none⟩)) := fun o => blk_cell (HA.out.keep (same_alloc wr o)).box
      gi_wp2_with (refine ⟨trivial, ?_⟩; gi_at_call 28; refine (CA.out _ _).mono ?_; rintro e w3 ⟨rfl, rfl⟩)
      obtain ⟨WB, hWB⟩ : ∃ W, W = (wr.alloc (.cells #[.int .i64 0] 3)).alloc (.cells #[.pointer (some ⟨g, 0, none⟩)] 40) := ⟨_, rfl⟩
      rw [← hWB]
      have kWB : Same wr WB := by rw [hWB]; exact Kept.trans (same_alloc _ _) (same_alloc _ _)
      have hszB : WB.heap.size = wr.heap.size + 2 := by rw [hWB]; simp
      have bI : WB.heap[wr.heap.size]? = some (.cells #[.int .i64 0] 3 (0, 0)) := by rw [hWB]; exact blk_alloc (heap_alloc_new wr _) _
      have bA : WB.heap[wr.heap.size + 1]? = some (.cells #[.pointer (some ⟨g, 0, none⟩)] 40 (0, 0)) := by
        rw [hWB]
        have z := heap_alloc_new (wr.alloc (.cells #[.int .i64 0] 3)) (.cells #[.pointer (some ⟨g, 0, none⟩)] 40)
        rw [World.size_alloc] at z
        exact z
      have aB := HA.out.keep kWB
      obtain ⟨v, t, e1, e2, e3⟩ := aB.mp.ex
      obtain ⟨p, rfl⟩ := e2.ptr
      obtain ⟨S, hS⟩ : ∃ S : Nat → Prop, S = fun j => j = wr.heap.size ∨ WB.heap.size ≤ j := ⟨_, rfl⟩
      have nS : ∀ {i : Nat} {cs : Array Value} {e : TypeId}, WB.heap[i]? = some (.cells cs e (0, 0)) → e ≠ 3 → ¬ S i := fun {i cs e} hi he => by
        rw [hS]
        rintro (rfl | hl)
        · rw [bI] at hi
          simp at hi
          exact he hi.2.symm
        · have := blk_lt hi
          omega
      have nb : ∀ i cs, WB.heap[i]? = some (.cells cs 99 (0, 0)) → ¬ S i := fun i cs hi => nS hi (by decide)
      have hrun := allM_stops 5 (wr.heap.size + 1) g (by decide) S WB p t (blk_cell bA) (blk_cell e1) (BTo.of nb e2)
      rw [e3] at hrun
      have hw0 : ∀ i, i < w.heap.size → ¬ S i := fun i hi => by
        have := HA.out.same.size
        rw [hS]
        rintro (rfl | hl) <;> omega
      have HAB : Hid (∀ W, Kept S WB W → AG w B w.heap.size w1.heap.size g l W) := fun W kk => aB.kept kk (nS e1 (by decide)) (nS aB.res (by decide)) (nS aB.box (by decide)) nb hw0
      have hlw : w1.heap.size ≠ wr.heap.size := fun e => nS aB.box (by decide) (by rw [hS]; exact Or.inl e)
      have hrw : w.heap.size ≠ wr.heap.size := fun e => nS aB.res (by decide) (by rw [hS]; exact Or.inl e)
      have hbs : wr.heap.size < WB.heap.size := by omega
      have HST := hidden aB.mp.st
      have BI := hidden bI
      have HSS := hidden hS
      have hmx : Try.prog.follows .mixedOrders = true := by kernel_rfl
      clear hWB kWB bI bA aB e1 e2 e3 nS nb hw0 m0
      have HS1 : Hid (S wr.heap.size) := by rw [Hid, hS]; exact Or.inl rfl
      have HS2 : Hid (∀ j, WB.heap.size ≤ j → S j) := fun j hj => by rw [hS]; exact Or.inr hj
      clear hS
      refine wpIn_rangeFunc_ownG rfl (by decide) (gf := 57) (lb := #[.pointer (some ⟨wr.heap.size + 1, 0, none⟩)]) rfl trivial (enters_of Try.func57 (by kernel_rfl) rfl)
        hrun (fun h k => h.trans k) (fun W l o o' hl _ _ _ => kept_putObj W l o' (HS2.out l hl)) (Below.refl _ _) (fun _ => rfl)
        (fun pre W => Kept S WB W ∧ (W.heap[wr.heap.size]? = some (.cells #[.int .i64 (pre.length : Nat)] 3 (0, 0)) ∧ pre <+: l)) (fun _ pre _ => ¬ pre <+: l)
        (OwnFrom.and (fun _ _ _ row hs hg hr => hs.grown hg (fun k e _ => HS2.out k (hr k e).1)) (OwnFrom.and (fun _ X Y row hs hg hr => (hg.block wr.heap.size (blk_lt hs) (fun e => by have := (hr wr.heap.size e.symm).1; omega)).trans hs) (fun _ _ _ _ hs _ _ => hs)))
        (fun _ _ _ _ _ hs _ _ => hs) ⟨Kept.refl _ _, BI.out, List.nil_prefix⟩ ?a1 ?assign ?body ?done ?stop
      case assign =>
        intro lp x W K hK
        gi_wp2
        exact hK
      case stop =>
        rintro D c pre W _ hp h _
        exact absurd hp h
      case body =>
        rintro lp pre ⟨xk, xv⟩ W ⟨kW, hi, hpf⟩ hlt
        obtain ⟨⟨a, y⟩, hay⟩ : ∃ e, l[pre.length]? = some e := ⟨_, List.getElem?_eq_getElem hlt⟩
        have aW := HAB.out W kW
        have HW := hidden aW
        have hll : l.length ≤ 562949953421312 := by omega
        have m1 : W.cell? ⟨w1.heap.size, 0, none⟩ = some (.pointer (some ⟨g, 0, none⟩)) := blk_cell aW.box
        have m2 : W.cell? ⟨wr.heap.size, 0, none⟩ = some (.int .i64 (pre.length : Nat)) := blk_cell hi
        have HI := hidden hi
        have HAY := hidden hay
        have KW := hidden kW
        have HPF := hidden hpf
        clear aW hi hay kW hpf hrun
        generalize hpl : pre.length = i at *
        have HPL := hidden hpl
        clear hpl
        gi_wp2_with (first
          | (refine ⟨trivial, ?_⟩; gi_at_call 29; refine (CallsIn.inRound lp (callsIn_wide.2 (atM_any HW.out.mp i a y HAY.out hll))).mono ?_; rintro e w4 ⟨rfl, k4⟩; have A4 := hidden (HW.out.keep k4); have I4 := hidden (blk_kept k4 (fun h => h) HI.out); have K4 := hidden k4; have m1' : ∀ o, (w4.alloc o).cell? ⟨w1.heap.size, 0, none⟩ = some (.pointer (some ⟨g, 0, none⟩)) := fun o => blk_cell (A4.out.keep (same_alloc w4 o)).box; clear k4)
          | (refine ⟨trivial, ?_⟩; gi_at_call 30; refine (CallsIn.inRound lp (callsIn_wide.2 (get_any (A4.out.keep (same_alloc w4 _)).mp xk))).mono ?_; rintro e w5 ⟨rfl, rfl⟩))
        obtain ⟨w6, hw6⟩ : ∃ W, W = w4.alloc (.cells #[.string a, .int .i64 y] 54) := ⟨_, rfl⟩
        rw [← hw6]
        have k6 : Same w4 w6.drew := by rw [hw6]; exact (same_alloc _ _).drew
        have b6 : w6.drew.heap[w4.heap.size]? = some (.cells #[.string a, .int .i64 y] 54 (0, 0)) := by rw [hw6]; exact heap_alloc_new w4 _
        have z0 : w6.drew.cell? ⟨w4.heap.size, 0, none⟩ = some (.string a) := blk_cell b6
        have z1 : w6.drew.cell? ⟨w4.heap.size, 1, none⟩ = some (.int .i64 y) := blk_cell b6
        have A6 := hidden (A4.out.keep k6)
        have I6 := hidden (blk_kept k6 (fun h => h) I4.out)
        have z2 : w6.drew.cell? ⟨w1.heap.size, 0, none⟩ = some (.pointer (some ⟨g, 0, none⟩)) := blk_cell A6.out.box
        have z3 : w6.drew.cell? ⟨wr.heap.size, 0, none⟩ = some (.int .i64 (i : Nat)) := blk_cell I6.out
        have z4 : w6.drew.frozen? ⟨wr.heap.size, 0, none⟩ = false := blk_free I6.out
        have z5 : w6.drew.cell? ⟨w.heap.size, 0, none⟩ = some (.bool false) := blk_cell A6.out.res
        have z6 : w6.drew.frozen? ⟨w.heap.size, 0, none⟩ = false := blk_free A6.out.res
        have KF : Hid (Kept (fun j => j = wr.heap.size) W (w6.drew.setCell ⟨wr.heap.size, 0, none⟩ (.int .i64 ((i : Int) + 1)))) := ((K4.out.trans k6).mono (fun _ _ h => h.elim)).trans ((Kept.refl (fun j => j = wr.heap.size) _).setCell (p := ⟨wr.heap.size, 0, none⟩) rfl _)
        have KR : Hid (Kept (fun j => j = w.heap.size) W (w6.drew.setCell ⟨w.heap.size, 0, none⟩ (.bool false))) := ((K4.out.trans k6).mono (fun _ _ h => h.elim)).trans ((Kept.refl (fun j => j = w.heap.size) _).setCell (p := ⟨w.heap.size, 0, none⟩) rfl _)
        have hR0 : w.heap.size ≤ wr.heap.size := HA.out.same.size
        have hdd : ∀ k : Nat, (Fence.wide.depth.isSome = true → 1 ≤ k) := fun k h => by cases h
        have PFX : Hid ((pre ++ [(xk, xv)]) <+: l ↔ (xk, xv) = (a, y)) := pf_iff HPF.out HPL.out HAY.out
        have LKA := hidden (lk_at HST.out HAY.out)
        have RK := hidden (rk_at HST.out HAY.out)
        generalize hgv : (lk xk l).getD 0 = gv
        generalize hgs : (lk xk l).isSome = gs
        clear hw6 k6 b6 m1 m2 m1'
        by_cases hk : a = xk
        · subst hk
          rw [LKA.out] at hgv hgs
          obtain rfl : y = gv := hgv
          obtain rfl : true = gs := hgs
          by_cases hv : y = xv
          · subst hv
            have PF : Hid ((pre ++ [(a, y)]) <+: l) := PFX.out.2 rfl
            refine wpIn_region_any hmx ?_
            change wpAnyIn _ _ _ _ _ _ _ _ _ (World.drew _)
            refine wpAnyIn_inRound rfl (semAt_same (by kernel_rfl)) _ _ _ _ ?_
            refine wpAnyIn_take (i := 0) (v := .bool true) rfl rfl (by kernel_rfl) (by kernel_rfl) (by kernel_rfl) (fun _ _ _ h => h) ⟨Or.inl ⟨by rfl, (by intro w; go_simp; try rfl)⟩, fun _ => rfl⟩ ?_; (try go_simp)
            refine wpAnyIn_take (i := 1) (v := .bool false) rfl rfl (by kernel_rfl) (by kernel_rfl) (by kernel_rfl) (fun _ _ _ h => h) ⟨Or.inl ⟨by rfl, (by intro w; go_simp; try rfl)⟩, fun _ => rfl⟩ ?_; (try go_simp)
            refine wpAnyIn_take (i := 2) (v := .bool false) rfl rfl (by kernel_rfl) (by kernel_rfl) (by kernel_rfl) (fun _ _ _ h => h) ⟨Or.inl ⟨by rfl, (by intro w; go_simp; try rfl)⟩, fun _ => rfl⟩ ?_; (try go_simp)
            refine wpAnyIn_take (i := 3) (v := (.pointer (some ⟨w4.heap.size, 0, none⟩))) rfl rfl (by kernel_rfl) (by kernel_rfl) (by kernel_rfl) (fun _ _ _ h => h) ⟨Or.inl ⟨by rfl, (by intro w; go_simp; try rfl)⟩, fun _ => rfl⟩ ?_; (try go_simp)
            refine wpAnyIn_take (i := 5) (v := .string a) rfl rfl (by kernel_rfl) (by kernel_rfl) (by kernel_rfl) (fun _ _ _ h => h) ⟨Or.inl ⟨by rfl, (by intro w; go_simp; try rfl)⟩, fun _ => rfl⟩ ?_; (try go_simp)
            refine wpAnyIn_ready (rs := [4]) (by kernel_rfl) (by simp) ?_; refine AllReadyIn.cons rfl (fun K hK => ?_) AllReadyIn.nil; go_simp
            refine hK _ _ ?_; clear hK K
            refine wpAnyIn_take (i := 6) (v := .bool false) rfl rfl (by kernel_rfl) (by kernel_rfl) (by kernel_rfl) (fun _ _ _ h => h) ⟨Or.inl ⟨by rfl, (by intro w; go_simp; try rfl)⟩, fun _ => rfl⟩ ?_; (try go_simp)
            refine wpAnyIn_take (i := 7) (v := .bool false) rfl rfl (by kernel_rfl) (by kernel_rfl) (by kernel_rfl) (fun _ _ _ h => h) ⟨Or.inl ⟨by rfl, (by intro w; go_simp; try rfl)⟩, fun _ => rfl⟩ ?_; (try go_simp)
            refine wpAnyIn_take (i := 8) (v := .bool false) rfl rfl (by kernel_rfl) (by kernel_rfl) (by kernel_rfl) (fun _ _ _ h => h) ⟨Or.inl ⟨by rfl, (by intro w; go_simp; try rfl)⟩, fun _ => rfl⟩ ?_; (try go_simp)
            refine wpAnyIn_take (i := 9) (v := (.pointer (some ⟨w4.heap.size, 1, none⟩))) rfl rfl (by kernel_rfl) (by kernel_rfl) (by kernel_rfl) (fun _ _ _ h => h) ⟨Or.inl ⟨by rfl, (by intro w; go_simp; try rfl)⟩, fun _ => rfl⟩ ?_; (try go_simp)
            refine wpAnyIn_take (i := 11) (v := .int .i64 y) rfl rfl (by kernel_rfl) (by kernel_rfl) (by kernel_rfl) (fun _ _ _ h => h) ⟨Or.inl ⟨by rfl, (by intro w; go_simp; try rfl)⟩, fun _ => rfl⟩ ?_; (try go_simp)
            refine wpAnyIn_ready (rs := [10]) (by kernel_rfl) (by simp) ?_; refine AllReadyIn.cons rfl (fun K hK => ?_) AllReadyIn.nil; go_simp
            refine hK _ _ ?_; clear hK K
            refine wpAnyIn_take (i := 12) (v := .bool false) rfl rfl (by kernel_rfl) (by kernel_rfl) (by kernel_rfl) (fun _ _ _ h => h) ⟨Or.inl ⟨by rfl, (by intro w; go_simp; try rfl)⟩, fun _ => rfl⟩ ?_; (try go_simp)
            refine wpAnyIn_take (i := 13) (v := .bool false) rfl rfl (by kernel_rfl) (by kernel_rfl) (by kernel_rfl) (fun _ _ _ h => h) ⟨Or.inl ⟨by rfl, (by intro w; go_simp; try rfl)⟩, fun _ => rfl⟩ ?_; (try go_simp)
            refine wpAnyIn_take (i := 14) (v := .bool false) rfl rfl (by kernel_rfl) (by kernel_rfl) (by kernel_rfl) (fun _ _ _ h => h) ⟨Or.inl ⟨by rfl, (by intro w; go_simp; try rfl)⟩, fun _ => rfl⟩ ?_; (try go_simp)
            refine wpAnyIn_take (i := 15) (v := .bool true) rfl rfl (by kernel_rfl) (by kernel_rfl) (by kernel_rfl) (fun _ _ _ h => h) ⟨Or.inl ⟨by rfl, (by intro w; go_simp; try rfl)⟩, fun _ => rfl⟩ ?_; (try go_simp)
            refine wpAnyIn_take (i := 16) (v := .bool false) rfl rfl (by kernel_rfl) (by kernel_rfl) (by kernel_rfl) (fun _ _ _ h => h) ⟨Or.inl ⟨by rfl, (by intro w; go_simp; try rfl)⟩, fun _ => rfl⟩ ?_; (try go_simp)
            refine wpAnyIn_take (i := 17) (v := .bool false) rfl rfl (by kernel_rfl) (by kernel_rfl) (by kernel_rfl) (fun _ _ _ h => h) ⟨Or.inl ⟨by rfl, (by intro w; go_simp; try rfl)⟩, fun _ => rfl⟩ ?_; (try go_simp)
            refine wpAnyIn_take (i := 18) (v := .bool false) rfl rfl (by kernel_rfl) (by kernel_rfl) (by kernel_rfl) (fun _ _ _ h => h) ⟨Or.inl ⟨by rfl, (by intro w; go_simp; try rfl)⟩, fun _ => rfl⟩ ?_; (try go_simp)
            refine wpAnyIn_take (i := 19) (v := .int .i64 y) rfl rfl (by kernel_rfl) (by kernel_rfl) (by kernel_rfl) (fun _ _ _ h => h) ⟨Or.inl ⟨by rfl, (by intro w; go_simp; try rfl)⟩, fun _ => rfl⟩ ?_; (try go_simp)
            refine wpAnyIn_take (i := 20) (v := .int .i64 y) rfl rfl (by kernel_rfl) (by kernel_rfl) (by kernel_rfl) (fun _ _ _ h => h) ⟨Or.inl ⟨by rfl, (by intro w; go_simp; try rfl)⟩, fun _ => rfl⟩ ?_; (try go_simp)
            refine wpAnyIn_take (i := 21) (v := .bool false) rfl rfl (by kernel_rfl) (by kernel_rfl) (by kernel_rfl) (fun _ _ _ h => h) ⟨Or.inl ⟨by rfl, (by intro w; go_simp; try rfl)⟩, fun _ => rfl⟩ ?_; (try go_simp)
            refine wpAnyIn_take (i := 22) (v := .bool false) rfl rfl (by kernel_rfl) (by kernel_rfl) (by kernel_rfl) (fun _ _ _ h => h) ⟨Or.inl ⟨by rfl, (by intro w; go_simp; try rfl)⟩, fun _ => rfl⟩ ?_; (try go_simp)
            refine wpAnyIn_take (i := 23) (v := .bool false) rfl rfl (by kernel_rfl) (by kernel_rfl) (by kernel_rfl) (fun _ _ _ h => h) ⟨Or.inl ⟨by rfl, (by intro w; go_simp; try rfl)⟩, fun _ => rfl⟩ ?_; (try go_simp)
            refine wpAnyIn_take (i := 25) (v := .string a) rfl rfl (by kernel_rfl) (by kernel_rfl) (by kernel_rfl) (fun _ _ _ h => h) ⟨Or.inl ⟨by rfl, (by intro w; go_simp; try rfl)⟩, fun _ => rfl⟩ ?_; (try go_simp)
            refine wpAnyIn_ready (rs := [24, 27]) (by kernel_rfl) (by simp) ?_
            refine AllReadyIn.cons rfl (fun K hK => ?_) (AllReadyIn.cons rfl (fun K hK => ?_) AllReadyIn.nil)
            · skip
              go_simp
              refine hK _ _ ?_; clear hK K
              refine wpAnyIn_ready (rs := [26, 27]) (by kernel_rfl) (by simp) ?_
              refine AllReadyIn.cons rfl (fun K hK => ?_) (AllReadyIn.cons rfl (fun K hK => ?_) AllReadyIn.nil)
              · skip
                go_simp
                (first | refine ⟨trivial, ?_⟩ | skip)
                (first | refine ⟨hdd _, ?_⟩ | skip)
                refine (callsIn_wide.2 (rankM_any A6.out.mp a hll)).mono ?_
                rintro e w7 ⟨rfl, rfl⟩
                rw [RK.out]
                refine hK _ _ ?_; clear hK K
                refine wpAnyIn_ready (rs := [27]) (by kernel_rfl) (by simp) ?_; refine AllReadyIn.cons rfl (fun K hK => ?_) AllReadyIn.nil; go_simp
                refine hK _ _ ?_; clear hK K
                refine wpAnyIn_take (i := 28) (v := .bool false) rfl rfl (by kernel_rfl) (by kernel_rfl) (by kernel_rfl) (fun _ _ _ h => h) ⟨Or.inl ⟨by rfl, (by intro w; go_simp; try rfl)⟩, fun _ => rfl⟩ ?_; (try go_simp)
                refine wpAnyIn_take (i := 29) (v := .bool false) rfl rfl (by kernel_rfl) (by kernel_rfl) (by kernel_rfl) (fun _ _ _ h => h) ⟨Or.inl ⟨by rfl, (by intro w; go_simp; try rfl)⟩, fun _ => rfl⟩ ?_; (try go_simp)
                refine wpAnyIn_done (by kernel_rfl) ?_ _
                gi_wp2
                refine ⟨keepsFrom_of KF.out (by omega), KF.out.mono (fun j _ e => by rw [e]; exact HS1.out), KW.out.trans (KF.out.mono (fun j _ e => by rw [e]; exact HS1.out)), ?_, PF.out⟩
                have z := blk_set (j := 0) I6.out (.int .i64 ((i : Int) + 1))
                rw [List.length_append, HPL.out]
                exact z
              · skip
                go_simp
                refine hK _ _ ?_; clear hK K
                refine wpAnyIn_ready (rs := [26]) (by kernel_rfl) (by simp) ?_; refine AllReadyIn.cons rfl (fun K hK => ?_) AllReadyIn.nil; go_simp
                (first | refine ⟨trivial, ?_⟩ | skip)
                (first | refine ⟨hdd _, ?_⟩ | skip)
                refine (callsIn_wide.2 (rankM_any A6.out.mp a hll)).mono ?_
                rintro e w7 ⟨rfl, rfl⟩
                rw [RK.out]
                refine hK _ _ ?_; clear hK K
                refine wpAnyIn_take (i := 28) (v := .bool false) rfl rfl (by kernel_rfl) (by kernel_rfl) (by kernel_rfl) (fun _ _ _ h => h) ⟨Or.inl ⟨by rfl, (by intro w; go_simp; try rfl)⟩, fun _ => rfl⟩ ?_; (try go_simp)
                refine wpAnyIn_take (i := 29) (v := .bool false) rfl rfl (by kernel_rfl) (by kernel_rfl) (by kernel_rfl) (fun _ _ _ h => h) ⟨Or.inl ⟨by rfl, (by intro w; go_simp; try rfl)⟩, fun _ => rfl⟩ ?_; (try go_simp)
                refine wpAnyIn_done (by kernel_rfl) ?_ _
                gi_wp2
                refine ⟨keepsFrom_of KF.out (by omega), KF.out.mono (fun j _ e => by rw [e]; exact HS1.out), KW.out.trans (KF.out.mono (fun j _ e => by rw [e]; exact HS1.out)), ?_, PF.out⟩
                have z := blk_set (j := 0) I6.out (.int .i64 ((i : Int) + 1))
                rw [List.length_append, HPL.out]
                exact z
            · skip
              go_simp
              refine hK _ _ ?_; clear hK K
              refine wpAnyIn_ready (rs := [24]) (by kernel_rfl) (by simp) ?_; refine AllReadyIn.cons rfl (fun K hK => ?_) AllReadyIn.nil; go_simp
              refine hK _ _ ?_; clear hK K
              refine wpAnyIn_ready (rs := [26]) (by kernel_rfl) (by simp) ?_; refine AllReadyIn.cons rfl (fun K hK => ?_) AllReadyIn.nil; go_simp
              (first | refine ⟨trivial, ?_⟩ | skip)
              (first | refine ⟨hdd _, ?_⟩ | skip)
              refine (callsIn_wide.2 (rankM_any A6.out.mp a hll)).mono ?_
              rintro e w7 ⟨rfl, rfl⟩
              rw [RK.out]
              refine hK _ _ ?_; clear hK K
              refine wpAnyIn_take (i := 28) (v := .bool false) rfl rfl (by kernel_rfl) (by kernel_rfl) (by kernel_rfl) (fun _ _ _ h => h) ⟨Or.inl ⟨by rfl, (by intro w; go_simp; try rfl)⟩, fun _ => rfl⟩ ?_; (try go_simp)
              refine wpAnyIn_take (i := 29) (v := .bool false) rfl rfl (by kernel_rfl) (by kernel_rfl) (by kernel_rfl) (fun _ _ _ h => h) ⟨Or.inl ⟨by rfl, (by intro w; go_simp; try rfl)⟩, fun _ => rfl⟩ ?_; (try go_simp)
              refine wpAnyIn_done (by kernel_rfl) ?_ _
              gi_wp2
              refine ⟨keepsFrom_of KF.out (by omega), KF.out.mono (fun j _ e => by rw [e]; exact HS1.out), KW.out.trans (KF.out.mono (fun j _ e => by rw [e]; exact HS1.out)), ?_, PF.out⟩
              have z := blk_set (j := 0) I6.out (.int .i64 ((i : Int) + 1))
              rw [List.length_append, HPL.out]
              exact z
          · have NPF : Hid (¬ (pre ++ [(a, xv)]) <+: l) := fun h => hv (by have := PFX.out.1 h; simp at this; exact this.symm)
            refine wpIn_region_any hmx ?_
            change wpAnyIn _ _ _ _ _ _ _ _ _ (World.drew _)
            refine wpAnyIn_inRound rfl (semAt_same (by kernel_rfl)) _ _ _ _ ?_
            refine wpAnyIn_take (i := 0) (v := .bool true) rfl rfl (by kernel_rfl) (by kernel_rfl) (by kernel_rfl) (fun _ _ _ h => h) ⟨Or.inl ⟨by rfl, (by intro w; go_simp; try rfl)⟩, fun _ => rfl⟩ ?_; (try go_simp)
            refine wpAnyIn_take (i := 1) (v := .bool false) rfl rfl (by kernel_rfl) (by kernel_rfl) (by kernel_rfl) (fun _ _ _ h => h) ⟨Or.inl ⟨by rfl, (by intro w; go_simp; try rfl)⟩, fun _ => rfl⟩ ?_; (try go_simp)
            refine wpAnyIn_take (i := 2) (v := .bool false) rfl rfl (by kernel_rfl) (by kernel_rfl) (by kernel_rfl) (fun _ _ _ h => h) ⟨Or.inl ⟨by rfl, (by intro w; go_simp; try rfl)⟩, fun _ => rfl⟩ ?_; (try go_simp)
            refine wpAnyIn_take (i := 3) (v := (.pointer (some ⟨w4.heap.size, 0, none⟩))) rfl rfl (by kernel_rfl) (by kernel_rfl) (by kernel_rfl) (fun _ _ _ h => h) ⟨Or.inl ⟨by rfl, (by intro w; go_simp; try rfl)⟩, fun _ => rfl⟩ ?_; (try go_simp)
            refine wpAnyIn_take (i := 5) (v := .string a) rfl rfl (by kernel_rfl) (by kernel_rfl) (by kernel_rfl) (fun _ _ _ h => h) ⟨Or.inl ⟨by rfl, (by intro w; go_simp; try rfl)⟩, fun _ => rfl⟩ ?_; (try go_simp)
            refine wpAnyIn_ready (rs := [4]) (by kernel_rfl) (by simp) ?_; refine AllReadyIn.cons rfl (fun K hK => ?_) AllReadyIn.nil; go_simp
            refine hK _ _ ?_; clear hK K
            refine wpAnyIn_take (i := 6) (v := .bool false) rfl rfl (by kernel_rfl) (by kernel_rfl) (by kernel_rfl) (fun _ _ _ h => h) ⟨Or.inl ⟨by rfl, (by intro w; go_simp; try rfl)⟩, fun _ => rfl⟩ ?_; (try go_simp)
            refine wpAnyIn_take (i := 7) (v := .bool false) rfl rfl (by kernel_rfl) (by kernel_rfl) (by kernel_rfl) (fun _ _ _ h => h) ⟨Or.inl ⟨by rfl, (by intro w; go_simp; try rfl)⟩, fun _ => rfl⟩ ?_; (try go_simp)
            refine wpAnyIn_take (i := 8) (v := .bool false) rfl rfl (by kernel_rfl) (by kernel_rfl) (by kernel_rfl) (fun _ _ _ h => h) ⟨Or.inl ⟨by rfl, (by intro w; go_simp; try rfl)⟩, fun _ => rfl⟩ ?_; (try go_simp)
            refine wpAnyIn_take (i := 9) (v := (.pointer (some ⟨w4.heap.size, 1, none⟩))) rfl rfl (by kernel_rfl) (by kernel_rfl) (by kernel_rfl) (fun _ _ _ h => h) ⟨Or.inl ⟨by rfl, (by intro w; go_simp; try rfl)⟩, fun _ => rfl⟩ ?_; (try go_simp)
            refine wpAnyIn_take (i := 11) (v := .int .i64 xv) rfl rfl (by kernel_rfl) (by kernel_rfl) (by kernel_rfl) (fun _ _ _ h => h) ⟨Or.inl ⟨by rfl, (by intro w; go_simp; try rfl)⟩, fun _ => rfl⟩ ?_; (try go_simp)
            refine wpAnyIn_ready (rs := [10]) (by kernel_rfl) (by simp) ?_; refine AllReadyIn.cons rfl (fun K hK => ?_) AllReadyIn.nil; go_simp
            refine hK _ _ ?_; clear hK K
            refine wpAnyIn_take (i := 12) (v := .bool true) rfl rfl (by kernel_rfl) (by kernel_rfl) (by kernel_rfl) (fun _ _ _ h => h) ⟨Or.inl ⟨by rfl, (by intro w; go_simp; try rfl)⟩, fun _ => rfl⟩ ?_; (try go_simp)
            refine wpAnyIn_take (i := 13) (v := .bool true) rfl rfl (by kernel_rfl) (by kernel_rfl) (by kernel_rfl) (fun _ _ _ h => h) ⟨Or.inl ⟨by rfl, (by intro w; go_simp; try rfl)⟩, fun _ => rfl⟩ ?_; (try go_simp)
            refine wpAnyIn_take (i := 14) (v := .bool true) rfl rfl (by kernel_rfl) (by kernel_rfl) (by kernel_rfl) (fun _ _ _ h => h) ⟨Or.inl ⟨by rfl, (by intro w; go_simp; try rfl)⟩, fun _ => rfl⟩ ?_; (try go_simp)
            refine wpAnyIn_take (i := 15) (v := undef) rfl rfl (by kernel_rfl) (by kernel_rfl) (by kernel_rfl) (fun _ _ _ h => h) ⟨Or.inr ⟨by rfl, rfl⟩, fun _ => rfl⟩ ?_; (try go_simp)
            refine wpAnyIn_take (i := 16) (v := undef) rfl rfl (by kernel_rfl) (by kernel_rfl) (by kernel_rfl) (fun _ _ _ h => h) ⟨Or.inr ⟨by rfl, rfl⟩, fun _ => rfl⟩ ?_; (try go_simp)
            refine wpAnyIn_take (i := 17) (v := .bool true) rfl rfl (by kernel_rfl) (by kernel_rfl) (by kernel_rfl) (fun _ _ _ h => h) ⟨Or.inl ⟨by rfl, (by intro w; go_simp; try rfl)⟩, fun _ => rfl⟩ ?_; (try go_simp)
            refine wpAnyIn_take (i := 18) (v := .bool true) rfl rfl (by kernel_rfl) (by kernel_rfl) (by kernel_rfl) (fun _ _ _ h => h) ⟨Or.inl ⟨by rfl, (by intro w; go_simp; try rfl)⟩, fun _ => rfl⟩ ?_; (try go_simp)
            refine wpAnyIn_take (i := 19) (v := undef) rfl rfl (by kernel_rfl) (by kernel_rfl) (by kernel_rfl) (fun _ _ _ h => h) ⟨Or.inr ⟨by rfl, rfl⟩, fun _ => rfl⟩ ?_; (try go_simp)
            refine wpAnyIn_take (i := 20) (v := undef) rfl rfl (by kernel_rfl) (by kernel_rfl) (by kernel_rfl) (fun _ _ _ h => h) ⟨Or.inr ⟨by rfl, rfl⟩, fun _ => rfl⟩ ?_; (try go_simp)
            refine wpAnyIn_take (i := 21) (v := undef) rfl rfl (by kernel_rfl) (by kernel_rfl) (by kernel_rfl) (fun _ _ _ h => h) ⟨Or.inr ⟨by rfl, rfl⟩, fun _ => rfl⟩ ?_; (try go_simp)
            refine wpAnyIn_take (i := 22) (v := .bool true) rfl rfl (by kernel_rfl) (by kernel_rfl) (by kernel_rfl) (fun _ _ _ h => h) ⟨Or.inl ⟨by rfl, (by intro w; go_simp; try rfl)⟩, fun _ => rfl⟩ ?_; (try go_simp)
            refine wpAnyIn_take (i := 23) (v := .bool true) rfl rfl (by kernel_rfl) (by kernel_rfl) (by kernel_rfl) (fun _ _ _ h => h) ⟨Or.inl ⟨by rfl, (by intro w; go_simp; try rfl)⟩, fun _ => rfl⟩ ?_; (try go_simp)
            refine wpAnyIn_take (i := 24) (v := undef) rfl rfl (by kernel_rfl) (by kernel_rfl) (by kernel_rfl) (fun _ _ _ h => h) ⟨Or.inr ⟨by rfl, rfl⟩, fun _ => rfl⟩ ?_; (try go_simp)
            refine wpAnyIn_take (i := 25) (v := undef) rfl rfl (by kernel_rfl) (by kernel_rfl) (by kernel_rfl) (fun _ _ _ h => h) ⟨Or.inr ⟨by rfl, rfl⟩, fun _ => rfl⟩ ?_; (try go_simp)
            refine wpAnyIn_take (i := 27) (v := undef) rfl rfl (by kernel_rfl) (by kernel_rfl) (by kernel_rfl) (fun _ _ _ h => h) ⟨Or.inr ⟨by rfl, rfl⟩, fun _ => rfl⟩ ?_; (try go_simp)
            refine wpAnyIn_ready (rs := [26]) (by kernel_rfl) (by simp) ?_; refine AllReadyIn.cons rfl (fun K hK => ?_) AllReadyIn.nil; go_simp; (first | refine ⟨fun _ _ => trivial, ?_⟩ | refine ⟨trivial, ?_⟩ | skip); refine hK _ _ ?_; clear hK K
            refine wpAnyIn_take (i := 28) (v := undef) rfl rfl (by kernel_rfl) (by kernel_rfl) (by kernel_rfl) (fun _ _ _ h => h) ⟨Or.inr ⟨by rfl, rfl⟩, fun _ => rfl⟩ ?_; (try go_simp)
            refine wpAnyIn_take (i := 29) (v := .bool true) rfl rfl (by kernel_rfl) (by kernel_rfl) (by kernel_rfl) (fun _ _ _ h => h) ⟨Or.inl ⟨by rfl, (by intro w; go_simp; try rfl)⟩, fun _ => rfl⟩ ?_; (try go_simp)
            refine wpAnyIn_done (by kernel_rfl) ?_ _
            gi_wp2
            exact ⟨keepsFrom_of KR.out (by omega), NPF.out⟩
        · have NPF : Hid (¬ (pre ++ [(xk, xv)]) <+: l) := fun h => hk (by have := PFX.out.1 h; simp at this; exact this.1.symm)
          have hk2 : (a.toList == xk.toList) = false := beqS_ne' hk
          refine wpIn_region_any hmx ?_
          change wpAnyIn _ _ _ _ _ _ _ _ _ (World.drew _)
          refine wpAnyIn_inRound rfl (semAt_same (by kernel_rfl)) _ _ _ _ ?_
          refine wpAnyIn_take (i := 0) (v := .bool true) rfl rfl (by kernel_rfl) (by kernel_rfl) (by kernel_rfl) (fun _ _ _ h => h) ⟨Or.inl ⟨by rfl, (by intro w; go_simp; try rfl)⟩, fun _ => rfl⟩ ?_; (try go_simp)
          refine wpAnyIn_take (i := 1) (v := .bool false) rfl rfl (by kernel_rfl) (by kernel_rfl) (by kernel_rfl) (fun _ _ _ h => h) ⟨Or.inl ⟨by rfl, (by intro w; go_simp; try rfl)⟩, fun _ => rfl⟩ ?_; (try go_simp)
          refine wpAnyIn_take (i := 2) (v := .bool false) rfl rfl (by kernel_rfl) (by kernel_rfl) (by kernel_rfl) (fun _ _ _ h => h) ⟨Or.inl ⟨by rfl, (by intro w; go_simp; try rfl)⟩, fun _ => rfl⟩ ?_; (try go_simp)
          refine wpAnyIn_take (i := 3) (v := (.pointer (some ⟨w4.heap.size, 0, none⟩))) rfl rfl (by kernel_rfl) (by kernel_rfl) (by kernel_rfl) (fun _ _ _ h => h) ⟨Or.inl ⟨by rfl, (by intro w; go_simp; try rfl)⟩, fun _ => rfl⟩ ?_; (try go_simp)
          refine wpAnyIn_take (i := 5) (v := .string xk) rfl rfl (by kernel_rfl) (by kernel_rfl) (by kernel_rfl) (fun _ _ _ h => h) ⟨Or.inl ⟨by rfl, (by intro w; go_simp; try rfl)⟩, fun _ => rfl⟩ ?_; (try go_simp)
          refine wpAnyIn_ready (rs := [4]) (by kernel_rfl) (by simp) ?_; refine AllReadyIn.cons rfl (fun K hK => ?_) AllReadyIn.nil; go_simp
          refine hK _ _ ?_; clear hK K
          refine wpAnyIn_take (i := 6) (v := .bool true) rfl rfl (by kernel_rfl) (by kernel_rfl) (by kernel_rfl) (fun _ _ _ h => h) ⟨Or.inl ⟨by rfl, (by intro w; go_simp; try rfl)⟩, fun _ => rfl⟩ ?_; (try go_simp)
          refine wpAnyIn_take (i := 7) (v := .bool true) rfl rfl (by kernel_rfl) (by kernel_rfl) (by kernel_rfl) (fun _ _ _ h => h) ⟨Or.inl ⟨by rfl, (by intro w; go_simp; try rfl)⟩, fun _ => rfl⟩ ?_; (try go_simp)
          refine wpAnyIn_take (i := 8) (v := .bool true) rfl rfl (by kernel_rfl) (by kernel_rfl) (by kernel_rfl) (fun _ _ _ h => h) ⟨Or.inl ⟨by rfl, (by intro w; go_simp; try rfl)⟩, fun _ => rfl⟩ ?_; (try go_simp)
          refine wpAnyIn_take (i := 9) (v := undef) rfl rfl (by kernel_rfl) (by kernel_rfl) (by kernel_rfl) (fun _ _ _ h => h) ⟨Or.inr ⟨by rfl, rfl⟩, fun _ => rfl⟩ ?_; (try go_simp)
          refine wpAnyIn_take (i := 10) (v := undef) rfl rfl (by kernel_rfl) (by kernel_rfl) (by kernel_rfl) (fun _ _ _ h => h) ⟨Or.inr ⟨by rfl, rfl⟩, fun _ => rfl⟩ ?_; (try go_simp)
          refine wpAnyIn_take (i := 11) (v := undef) rfl rfl (by kernel_rfl) (by kernel_rfl) (by kernel_rfl) (fun _ _ _ h => h) ⟨Or.inr ⟨by rfl, rfl⟩, fun _ => rfl⟩ ?_; (try go_simp)
          refine wpAnyIn_take (i := 12) (v := undef) rfl rfl (by kernel_rfl) (by kernel_rfl) (by kernel_rfl) (fun _ _ _ h => h) ⟨Or.inr ⟨by rfl, rfl⟩, fun _ => rfl⟩ ?_; (try go_simp)
          refine wpAnyIn_take (i := 13) (v := .bool true) rfl rfl (by kernel_rfl) (by kernel_rfl) (by kernel_rfl) (fun _ _ _ h => h) ⟨Or.inl ⟨by rfl, (by intro w; go_simp; try rfl)⟩, fun _ => rfl⟩ ?_; (try go_simp)
          refine wpAnyIn_take (i := 14) (v := .bool true) rfl rfl (by kernel_rfl) (by kernel_rfl) (by kernel_rfl) (fun _ _ _ h => h) ⟨Or.inl ⟨by rfl, (by intro w; go_simp; try rfl)⟩, fun _ => rfl⟩ ?_; (try go_simp)
          refine wpAnyIn_take (i := 15) (v := undef) rfl rfl (by kernel_rfl) (by kernel_rfl) (by kernel_rfl) (fun _ _ _ h => h) ⟨Or.inr ⟨by rfl, rfl⟩, fun _ => rfl⟩ ?_; (try go_simp)
          refine wpAnyIn_take (i := 16) (v := undef) rfl rfl (by kernel_rfl) (by kernel_rfl) (by kernel_rfl) (fun _ _ _ h => h) ⟨Or.inr ⟨by rfl, rfl⟩, fun _ => rfl⟩ ?_; (try go_simp)
          refine wpAnyIn_take (i := 17) (v := .bool true) rfl rfl (by kernel_rfl) (by kernel_rfl) (by kernel_rfl) (fun _ _ _ h => h) ⟨Or.inl ⟨by rfl, (by intro w; go_simp; try rfl)⟩, fun _ => rfl⟩ ?_; (try go_simp)
          refine wpAnyIn_take (i := 18) (v := .bool true) rfl rfl (by kernel_rfl) (by kernel_rfl) (by kernel_rfl) (fun _ _ _ h => h) ⟨Or.inl ⟨by rfl, (by intro w; go_simp; try rfl)⟩, fun _ => rfl⟩ ?_; (try go_simp)
          refine wpAnyIn_take (i := 19) (v := undef) rfl rfl (by kernel_rfl) (by kernel_rfl) (by kernel_rfl) (fun _ _ _ h => h) ⟨Or.inr ⟨by rfl, rfl⟩, fun _ => rfl⟩ ?_; (try go_simp)
          refine wpAnyIn_take (i := 20) (v := undef) rfl rfl (by kernel_rfl) (by kernel_rfl) (by kernel_rfl) (fun _ _ _ h => h) ⟨Or.inr ⟨by rfl, rfl⟩, fun _ => rfl⟩ ?_; (try go_simp)
          refine wpAnyIn_take (i := 21) (v := undef) rfl rfl (by kernel_rfl) (by kernel_rfl) (by kernel_rfl) (fun _ _ _ h => h) ⟨Or.inr ⟨by rfl, rfl⟩, fun _ => rfl⟩ ?_; (try go_simp)
          refine wpAnyIn_take (i := 22) (v := .bool true) rfl rfl (by kernel_rfl) (by kernel_rfl) (by kernel_rfl) (fun _ _ _ h => h) ⟨Or.inl ⟨by rfl, (by intro w; go_simp; try rfl)⟩, fun _ => rfl⟩ ?_; (try go_simp)
          refine wpAnyIn_take (i := 23) (v := .bool true) rfl rfl (by kernel_rfl) (by kernel_rfl) (by kernel_rfl) (fun _ _ _ h => h) ⟨Or.inl ⟨by rfl, (by intro w; go_simp; try rfl)⟩, fun _ => rfl⟩ ?_; (try go_simp)
          refine wpAnyIn_take (i := 24) (v := undef) rfl rfl (by kernel_rfl) (by kernel_rfl) (by kernel_rfl) (fun _ _ _ h => h) ⟨Or.inr ⟨by rfl, rfl⟩, fun _ => rfl⟩ ?_; (try go_simp)
          refine wpAnyIn_take (i := 25) (v := undef) rfl rfl (by kernel_rfl) (by kernel_rfl) (by kernel_rfl) (fun _ _ _ h => h) ⟨Or.inr ⟨by rfl, rfl⟩, fun _ => rfl⟩ ?_; (try go_simp)
          refine wpAnyIn_take (i := 27) (v := undef) rfl rfl (by kernel_rfl) (by kernel_rfl) (by kernel_rfl) (fun _ _ _ h => h) ⟨Or.inr ⟨by rfl, rfl⟩, fun _ => rfl⟩ ?_; (try go_simp)
          refine wpAnyIn_ready (rs := [26]) (by kernel_rfl) (by simp) ?_; refine AllReadyIn.cons rfl (fun K hK => ?_) AllReadyIn.nil; go_simp; (first | refine ⟨fun _ _ => trivial, ?_⟩ | refine ⟨trivial, ?_⟩ | skip); refine hK _ _ ?_; clear hK K
          refine wpAnyIn_take (i := 28) (v := undef) rfl rfl (by kernel_rfl) (by kernel_rfl) (by kernel_rfl) (fun _ _ _ h => h) ⟨Or.inr ⟨by rfl, rfl⟩, fun _ => rfl⟩ ?_; (try go_simp)
          refine wpAnyIn_take (i := 29) (v := .bool true) rfl rfl (by kernel_rfl) (by kernel_rfl) (by kernel_rfl) (fun _ _ _ h => h) ⟨Or.inl ⟨by rfl, (by intro w; go_simp; try rfl)⟩, fun _ => rfl⟩ ?_; (try go_simp)
          refine wpAnyIn_done (by kernel_rfl) ?_ _
          gi_wp2
          exact ⟨keepsFrom_of KR.out (by omega), NPF.out⟩
      case done =>
        rintro D ys W hD hys ⟨kW, hi, _⟩ hK
        rw [hys] at hi
        have aW := (HAB.out W kW).keep (Kept.refl _ W).drew
        have AW := hidden aW
        have hR0 : w.heap.size ≤ wr.heap.size := HA.out.same.size
        have z2 : W.drew.cell? ⟨w1.heap.size, 0, none⟩ = some (.pointer (some ⟨g, 0, none⟩)) := blk_cell aW.box
        have z3 : W.drew.cell? ⟨wr.heap.size, 0, none⟩ = some (.int .i64 (l.length : Nat)) := blk_cell hi
        have z5 : W.drew.cell? ⟨w.heap.size, 0, none⟩ = some (.bool false) := blk_cell aW.res
        have z6 : W.drew.frozen? ⟨w.heap.size, 0, none⟩ = false := blk_free aW.res
        have hdd : ∀ k : Nat, (Fence.wide.depth.isSome = true → 1 ≤ k) := fun k h => by cases h
        have E1 : Hid ((W.drew.setCell ⟨w.heap.size, 0, none⟩ (.bool true)).heap[D]? = some (.deferred (some []))) := blk_off (w := W.drew) hK (by omega)
        have C4 : Hid (((W.drew.setCell ⟨w.heap.size, 0, none⟩ (.bool true)).putObj D (.deferred none)).cell? ⟨w.heap.size, 0, none⟩ = some (.bool true)) := Kept.cell (kept_putObj (S := fun k => k = D) _ D _ rfl) (by simp; omega) (World.cell?_setCell_same' _ _ _ (by rw [z5]; rfl))
        have SM : Hid (Same w ((W.drew.setCell ⟨w.heap.size, 0, none⟩ (.bool true)).putObj D (.deferred none))) := Kept.trans' aW.same (((Kept.refl (fun k => w.heap.size ≤ k) W.drew).setCell (p := ⟨w.heap.size, 0, none⟩) (Nat.le_refl _) _).trans (kept_putObj _ D _ (by omega))) (fun k hk h => by omega)
        clear aW hi hK kW
        gi_wp2
        refine wpIn_region_any hmx ?_
        change wpAnyIn _ _ _ _ _ _ _ _ _ (World.drew _)
        refine wpAnyIn_ready (rs := [0, 1]) (by kernel_rfl) (by simp) ?_
        refine AllReadyIn.cons rfl (fun K hK => ?_) (AllReadyIn.cons rfl (fun K hK => ?_) AllReadyIn.nil)
        · skip
          go_simp
          refine hK _ _ ?_; clear hK K
          refine wpAnyIn_ready (rs := [1]) (by kernel_rfl) (by simp) ?_; refine AllReadyIn.cons rfl (fun K hK => ?_) AllReadyIn.nil; go_simp
          refine hK _ _ ?_; clear hK K
          refine wpAnyIn_ready (rs := [2]) (by kernel_rfl) (by simp) ?_; refine AllReadyIn.cons rfl (fun K hK => ?_) AllReadyIn.nil; go_simp
          (first | refine ⟨trivial, ?_⟩ | skip)
          (first | refine ⟨hdd _, ?_⟩ | skip)
          refine (callsIn_wide.2 (lenM_any AW.out.mp)).mono ?_
          rintro e w7 ⟨rfl, rfl⟩
          refine hK _ _ ?_; clear hK K
          refine wpAnyIn_ready (rs := [3]) (by kernel_rfl) (by simp) ?_; refine AllReadyIn.cons rfl (fun K hK => ?_) AllReadyIn.nil; go_simp
          refine hK _ _ ?_; clear hK K
          refine wpAnyIn_ready (rs := [4]) (by kernel_rfl) (by simp) ?_; refine AllReadyIn.cons rfl (fun K hK => ?_) AllReadyIn.nil; go_simp
          refine hK _ _ ?_; clear hK K
          refine wpAnyIn_done (by kernel_rfl) ?_ _
          gi_wp2
          refine ⟨by simp, .inl ⟨_, _, rfl, run_takeDeferred E1.out, ?_⟩⟩
          have c5 : ((W.setCell ⟨w.heap.size, 0, none⟩ (.bool true)).drew.putObj D (.deferred none)).cell? ⟨w.heap.size, 0, none⟩ = some (.bool true) := C4.out
          refine ⟨_, by simp [results, Try.results6, go_sem, c5], rfl, ?_⟩
          exact SM.out
        · skip
          go_simp
          refine hK _ _ ?_; clear hK K
          refine wpAnyIn_ready (rs := [0, 2]) (by kernel_rfl) (by simp) ?_
          refine AllReadyIn.cons rfl (fun K hK => ?_) (AllReadyIn.cons rfl (fun K hK => ?_) AllReadyIn.nil)
          · skip
            go_simp
            refine hK _ _ ?_; clear hK K
            refine wpAnyIn_ready (rs := [2]) (by kernel_rfl) (by simp) ?_; refine AllReadyIn.cons rfl (fun K hK => ?_) AllReadyIn.nil; go_simp
            (first | refine ⟨trivial, ?_⟩ | skip)
            (first | refine ⟨hdd _, ?_⟩ | skip)
            refine (callsIn_wide.2 (lenM_any AW.out.mp)).mono ?_
            rintro e w7 ⟨rfl, rfl⟩
            refine hK _ _ ?_; clear hK K
            refine wpAnyIn_ready (rs := [3]) (by kernel_rfl) (by simp) ?_; refine AllReadyIn.cons rfl (fun K hK => ?_) AllReadyIn.nil; go_simp
            refine hK _ _ ?_; clear hK K
            refine wpAnyIn_ready (rs := [4]) (by kernel_rfl) (by simp) ?_; refine AllReadyIn.cons rfl (fun K hK => ?_) AllReadyIn.nil; go_simp
            refine hK _ _ ?_; clear hK K
            refine wpAnyIn_done (by kernel_rfl) ?_ _
            gi_wp2
            refine ⟨by simp, .inl ⟨_, _, rfl, run_takeDeferred E1.out, ?_⟩⟩
            have c5 : ((W.setCell ⟨w.heap.size, 0, none⟩ (.bool true)).drew.putObj D (.deferred none)).cell? ⟨w.heap.size, 0, none⟩ = some (.bool true) := C4.out
            refine ⟨_, by simp [results, Try.results6, go_sem, c5], rfl, ?_⟩
            exact SM.out
          · skip
            go_simp
            (first | refine ⟨trivial, ?_⟩ | skip)
            (first | refine ⟨hdd _, ?_⟩ | skip)
            refine (callsIn_wide.2 (lenM_any AW.out.mp)).mono ?_
            rintro e w7 ⟨rfl, rfl⟩
            refine hK _ _ ?_; clear hK K
            refine wpAnyIn_ready (rs := [0]) (by kernel_rfl) (by simp) ?_; refine AllReadyIn.cons rfl (fun K hK => ?_) AllReadyIn.nil; go_simp
            refine hK _ _ ?_; clear hK K
            refine wpAnyIn_ready (rs := [3]) (by kernel_rfl) (by simp) ?_; refine AllReadyIn.cons rfl (fun K hK => ?_) AllReadyIn.nil; go_simp
            refine hK _ _ ?_; clear hK K
            refine wpAnyIn_ready (rs := [4]) (by kernel_rfl) (by simp) ?_; refine AllReadyIn.cons rfl (fun K hK => ?_) AllReadyIn.nil; go_simp
            refine hK _ _ ?_; clear hK K
            refine wpAnyIn_done (by kernel_rfl) ?_ _
            gi_wp2
            refine ⟨by simp, .inl ⟨_, _, rfl, run_takeDeferred E1.out, ?_⟩⟩
            have c5 : ((W.setCell ⟨w.heap.size, 0, none⟩ (.bool true)).drew.putObj D (.deferred none)).cell? ⟨w.heap.size, 0, none⟩ = some (.bool true) := C4.out
            refine ⟨_, by simp [results, Try.results6, go_sem, c5], rfl, ?_⟩
            exact SM.out
end Go.Proofs.Ytcejgbojiejjdaa
