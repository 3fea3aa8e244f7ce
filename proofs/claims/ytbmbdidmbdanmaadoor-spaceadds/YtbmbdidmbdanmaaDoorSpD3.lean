/- The law's does at the kinds whose region draws the order of two calls: Mark, Free, Later, Reserve, Release. -/
import Derived.Test.YtbmbdidmbdanmaaDoorSpD2
namespace Go.Proofs.YtbmbdidmbdanmaaDoor
open Go.RowKit Go.Shelf
set_option linter.unusedVariables false
set_option linter.unusedSimpArgs false
variable {zp : Spare}
structure BoB (zp : Spare) (g q r first count : Nat) (u v : Nat → Bool) (res : Nat) (fA fB : Nat) (x : List Value) : Prop where
  ex : ∃ (e : Bool) (u' v' : Nat → Bool) (res' : Nat),
    (∀ W, SpAt g first count u v res W → Tab W → Calls Tryd.prog fA (#[.pointer (some ⟨g, 0, none⟩)] ++ x.toArray) W fun a w' => a = .returned (.bool e) ∧ SpAt g first count u' v' res' w' ∧ Kept (fun b => b = g) W w') ∧
    (∀ W, RfAt zp q r first count u v res W → Calls Tryd.prog fB (#[.pointer (some ⟨q, 0, none⟩)] ++ x.toArray) W fun a w' => a = .returned (.bool e) ∧ RfAt zp q r first count u' v' res' w' ∧ Kept (fun b => b = q ∨ b = r) W w') ∧ Pl first count u' v' res'
theorem both_has {g q r first count : Nat} {u v : Nat → Bool} {res : Nat} (hp : Pl first count u v res) (n : Int) (hn : n ≤ 9223372036854775807) : BoB zp g q r first count u v res 28 42 [.int .i64 n] := by
  refine ⟨_, u, v, res, fun W hW hT => (sp_has g first count u v res n W hW hn hT).mono fun a w' z => ⟨z.1, same_sp hW z.2⟩, fun W hW => ?_, hp⟩
  by_cases h1 : Wi first count n 1
  · obtain ⟨_, q2, q3⟩ := h1
    obtain ⟨k, hk⟩ := Int.eq_ofNat_of_zero_le (show 0 ≤ n - first by omega)
    have e : (n - first).toNat = k := by omega
    rw [decide_eq_true (show Wi first count n 1 from ⟨by omega, q2, q3⟩), Bool.true_and, e]
    exact (rf_hasIn q r first count k u v res n W hW hp.fits.2.1 (by omega) (by omega)).mono fun a w' z => ⟨z.1, same_rf hW z.2⟩
  · rw [decide_eq_false h1, Bool.false_and]
    exact (rf_hasNo q r first count u v res n W hW hp.fits.2.1 hn (fun h => h1 ⟨by omega, h.1, by omega⟩)).mono fun a w' z => ⟨z.1, same_rf hW z.2⟩
set_option maxHeartbeats 4000000 in
set_option maxRecDepth 100000 in
theorem does_mark {g q r first count : Nat} {u v : Nat → Bool} {res : Nat} (n af ac : Int) (w : World) (h : Pr zp g q r first count u v res w) (ha : I64 af) :
    Calls Tryd.prog 11 #[.pointer (some ⟨g, 0, none⟩), .pointer (some ⟨q, 0, none⟩), .agg #[.int .i64 1, .int .i64 n, .int .i64 af, .int .i64 ac]] w fun e w' => e = .returned (.bool true) ∧ DOut zp g q r first count w w' := by
  have HP := hidden h
  have lg : g < w.heap.size := by obtain ⟨cs, hb, _⟩ := h.sp.box; exact blk_lt hb
  have n1 := h.gq
  have n2 := h.gr
  obtain ⟨er, u', v', res', hA, hB, hpl⟩ := (both_mark (zp := zp) (g := g) (q := q) (r := r) h.pl af ac ha).ex
  have HA := hidden hA
  have HB := hidden hB
  have HPL := hidden hpl
  clear h hA hB hpl
  refine (callsIn_wide (n := 6)).1 ?_
  refine callsIn_of_wp Tryd.func11 rfl trivial ?_ rfl
  simp only [Tryd.ntmps11, List.size_toArray, List.length_cons, List.length_nil, Nat.reduceAdd, Nat.reduceSub, Array.replicate_succ, Array.replicate_zero, List.push_toArray, List.append_toArray, List.nil_append, List.cons_append]
  gi_wp2
  have B0 := hidden (blk_new w (.cells #[.int .i64 1, .int .i64 n, .int .i64 af, .int .i64 ac] 32))
  have K0 := hidden (same_alloc w (.cells #[.int .i64 1, .int .i64 n, .int .i64 af, .int .i64 ac] 32))
  generalize w.alloc (.cells #[.int .i64 1, .int .i64 n, .int .i64 af, .int .i64 ac] 32) = w0 at *
  have c1 : w0.cell? ⟨w.heap.size, 1, none⟩ = some (.int .i64 n) := blk_cell B0.out
  have c2 : w0.cell? ⟨w.heap.size, 2, none⟩ = some (.int .i64 af) := blk_cell B0.out
  have c3 : w0.cell? ⟨w.heap.size, 3, none⟩ = some (.int .i64 ac) := blk_cell B0.out
  have hmx : Tryd.prog.follows .mixedOrders = true := by kernel_rfl
  refine wpIn_region_any hmx ?_
  change wpAnyIn _ _ _ _ _ _ _ _ _ (World.drew _)
  refine wpAnyIn_take (i := 0) (v := (.pointer (some ⟨g, 0, none⟩))) rfl rfl (by kernel_rfl) (by kernel_rfl) (by kernel_rfl) (fun _ _ _ h => h) ⟨Or.inl ⟨by rfl, (by intro w; go_simp; try rfl)⟩, fun _ => rfl⟩ ?_; (try go_simp)
  refine wpAnyIn_take (i := 1) (v := (.pointer (some ⟨w.heap.size, 2, none⟩))) rfl rfl (by kernel_rfl) (by kernel_rfl) (by kernel_rfl) (fun _ _ _ h => h) ⟨Or.inl ⟨by rfl, (by intro w; go_simp; try rfl)⟩, fun _ => rfl⟩ ?_; (try go_simp)
  refine wpAnyIn_take (i := 4) (v := (.pointer (some ⟨q, 0, none⟩))) rfl rfl (by kernel_rfl) (by kernel_rfl) (by kernel_rfl) (fun _ _ _ h => h) ⟨Or.inl ⟨by rfl, (by intro w; go_simp; try rfl)⟩, fun _ => rfl⟩ ?_; (try go_simp)
  refine wpAnyIn_take (i := 5) (v := (.pointer (some ⟨w.heap.size, 2, none⟩))) rfl rfl (by kernel_rfl) (by kernel_rfl) (by kernel_rfl) (fun _ _ _ h => h) ⟨Or.inl ⟨by rfl, (by intro w; go_simp; try rfl)⟩, fun _ => rfl⟩ ?_; (try go_simp)
  refine wpAnyIn_ready (rs := [2, 6]) (by kernel_rfl) (by simp) ?_
  refine AllReadyIn.cons rfl (fun K hK => ?_) (AllReadyIn.cons rfl (fun K hK => ?_) AllReadyIn.nil)
  · skip
    go_simp
    refine hK _ _ ?_; clear hK K
    refine wpAnyIn_ready (rs := [3, 6]) (by kernel_rfl) (by simp) ?_
    refine AllReadyIn.cons rfl (fun K hK => ?_) (AllReadyIn.cons rfl (fun K hK => ?_) AllReadyIn.nil)
    · skip
      go_simp
      (first | refine ⟨trivial, ?_⟩ | skip)
      refine ((callsIn_wide (n := _)).2 (HA.out w0.drew (HP.out.sp.kept (K0.out.trans ((Kept.refl _ _).drew)) (fun h => h)) (HP.out.tab.same (K0.out.trans ((Kept.refl _ _).drew))))).mono ?_
      rintro e w3 ⟨rfl, s3, k3⟩
      have S3 := hidden s3
      have K3 := hidden (((K0.out.trans ((Kept.refl _ w0).drew)).mono (T := fun b => b = g) (fun _ _ h => h.elim)).trans k3)
      have bb := blk_kept k3 (by omega) (blk_kept ((Kept.refl (fun _ => False) w0).drew) (fun h => h) B0.out)
      have d1 : w3.cell? ⟨w.heap.size, 1, none⟩ = some (.int .i64 n) := blk_cell bb
      have d2 : w3.cell? ⟨w.heap.size, 2, none⟩ = some (.int .i64 af) := blk_cell bb
      have d3 : w3.cell? ⟨w.heap.size, 3, none⟩ = some (.int .i64 ac) := blk_cell bb
      clear s3 k3 bb
      refine hK _ _ ?_; clear hK K
      refine wpAnyIn_ready (rs := [6]) (by kernel_rfl) (by simp) ?_; refine AllReadyIn.cons rfl (fun K hK => ?_) AllReadyIn.nil; go_simp
      refine hK _ _ ?_; clear hK K
      refine wpAnyIn_ready (rs := [7]) (by kernel_rfl) (by simp) ?_; refine AllReadyIn.cons rfl (fun K hK => ?_) AllReadyIn.nil; go_simp
      (first | refine ⟨trivial, ?_⟩ | skip)
      refine ((callsIn_wide (n := _)).2 (HB.out w3 (HP.out.rf.kept K3.out (by omega) (by omega)))).mono ?_
      rintro e w4 ⟨rfl, s4, k4⟩
      have S4 := hidden s4
      have K4 := hidden k4
      clear s4 k4
      refine hK _ _ ?_; clear hK K
      refine wpAnyIn_take (i := 8) (v := (.bool true)) rfl rfl (by kernel_rfl) (by kernel_rfl) (by kernel_rfl) (fun _ _ _ h => h) ⟨Or.inl ⟨by rfl, (by intro w; go_simp; try rfl)⟩, fun _ => rfl⟩ ?_; (try go_simp)
      refine wpAnyIn_take (i := 9) (v := (.bool true)) rfl rfl (by kernel_rfl) (by kernel_rfl) (by kernel_rfl) (fun _ _ _ h => h) ⟨Or.inl ⟨by rfl, (by intro w; go_simp; try rfl)⟩, fun _ => rfl⟩ ?_; (try go_simp)
      refine wpAnyIn_done (by kernel_rfl) ?_ _
      gi_wp2
      have z := HP.out.step S3.out K3.out S4.out K4.out HPL.out
      refine bodyPost_ret (v := .bool true) (by simp [results, Tryd.results11, go_sem]) rfl ⟨rfl, ⟨_, _, _, z.1, z.2⟩⟩
    · skip
      go_simp
      refine hK _ _ ?_; clear hK K
      refine wpAnyIn_ready (rs := [3]) (by kernel_rfl) (by simp) ?_; refine AllReadyIn.cons rfl (fun K hK => ?_) AllReadyIn.nil; go_simp
      (first | refine ⟨trivial, ?_⟩ | skip)
      refine ((callsIn_wide (n := _)).2 (HA.out w0.drew (HP.out.sp.kept (K0.out.trans ((Kept.refl _ _).drew)) (fun h => h)) (HP.out.tab.same (K0.out.trans ((Kept.refl _ _).drew))))).mono ?_
      rintro e w3 ⟨rfl, s3, k3⟩
      have S3 := hidden s3
      have K3 := hidden (((K0.out.trans ((Kept.refl _ w0).drew)).mono (T := fun b => b = g) (fun _ _ h => h.elim)).trans k3)
      have bb := blk_kept k3 (by omega) (blk_kept ((Kept.refl (fun _ => False) w0).drew) (fun h => h) B0.out)
      have d1 : w3.cell? ⟨w.heap.size, 1, none⟩ = some (.int .i64 n) := blk_cell bb
      have d2 : w3.cell? ⟨w.heap.size, 2, none⟩ = some (.int .i64 af) := blk_cell bb
      have d3 : w3.cell? ⟨w.heap.size, 3, none⟩ = some (.int .i64 ac) := blk_cell bb
      clear s3 k3 bb
      refine hK _ _ ?_; clear hK K
      refine wpAnyIn_ready (rs := [7]) (by kernel_rfl) (by simp) ?_; refine AllReadyIn.cons rfl (fun K hK => ?_) AllReadyIn.nil; go_simp
      (first | refine ⟨trivial, ?_⟩ | skip)
      refine ((callsIn_wide (n := _)).2 (HB.out w3 (HP.out.rf.kept K3.out (by omega) (by omega)))).mono ?_
      rintro e w4 ⟨rfl, s4, k4⟩
      have S4 := hidden s4
      have K4 := hidden k4
      clear s4 k4
      refine hK _ _ ?_; clear hK K
      refine wpAnyIn_take (i := 8) (v := (.bool true)) rfl rfl (by kernel_rfl) (by kernel_rfl) (by kernel_rfl) (fun _ _ _ h => h) ⟨Or.inl ⟨by rfl, (by intro w; go_simp; try rfl)⟩, fun _ => rfl⟩ ?_; (try go_simp)
      refine wpAnyIn_take (i := 9) (v := (.bool true)) rfl rfl (by kernel_rfl) (by kernel_rfl) (by kernel_rfl) (fun _ _ _ h => h) ⟨Or.inl ⟨by rfl, (by intro w; go_simp; try rfl)⟩, fun _ => rfl⟩ ?_; (try go_simp)
      refine wpAnyIn_done (by kernel_rfl) ?_ _
      gi_wp2
      have z := HP.out.step S3.out K3.out S4.out K4.out HPL.out
      refine bodyPost_ret (v := .bool true) (by simp [results, Tryd.results11, go_sem]) rfl ⟨rfl, ⟨_, _, _, z.1, z.2⟩⟩
  · skip
    go_simp
    refine hK _ _ ?_; clear hK K
    refine wpAnyIn_ready (rs := [2]) (by kernel_rfl) (by simp) ?_; refine AllReadyIn.cons rfl (fun K hK => ?_) AllReadyIn.nil; go_simp
    refine hK _ _ ?_; clear hK K
    refine wpAnyIn_ready (rs := [3]) (by kernel_rfl) (by simp) ?_; refine AllReadyIn.cons rfl (fun K hK => ?_) AllReadyIn.nil; go_simp
    (first | refine ⟨trivial, ?_⟩ | skip)
    refine ((callsIn_wide (n := _)).2 (HA.out w0.drew (HP.out.sp.kept (K0.out.trans ((Kept.refl _ _).drew)) (fun h => h)) (HP.out.tab.same (K0.out.trans ((Kept.refl _ _).drew))))).mono ?_
    rintro e w3 ⟨rfl, s3, k3⟩
    have S3 := hidden s3
    have K3 := hidden (((K0.out.trans ((Kept.refl _ w0).drew)).mono (T := fun b => b = g) (fun _ _ h => h.elim)).trans k3)
    have bb := blk_kept k3 (by omega) (blk_kept ((Kept.refl (fun _ => False) w0).drew) (fun h => h) B0.out)
    have d1 : w3.cell? ⟨w.heap.size, 1, none⟩ = some (.int .i64 n) := blk_cell bb
    have d2 : w3.cell? ⟨w.heap.size, 2, none⟩ = some (.int .i64 af) := blk_cell bb
    have d3 : w3.cell? ⟨w.heap.size, 3, none⟩ = some (.int .i64 ac) := blk_cell bb
    clear s3 k3 bb
    refine hK _ _ ?_; clear hK K
    refine wpAnyIn_ready (rs := [7]) (by kernel_rfl) (by simp) ?_; refine AllReadyIn.cons rfl (fun K hK => ?_) AllReadyIn.nil; go_simp
    (first | refine ⟨trivial, ?_⟩ | skip)
    refine ((callsIn_wide (n := _)).2 (HB.out w3 (HP.out.rf.kept K3.out (by omega) (by omega)))).mono ?_
    rintro e w4 ⟨rfl, s4, k4⟩
    have S4 := hidden s4
    have K4 := hidden k4
    clear s4 k4
    refine hK _ _ ?_; clear hK K
    refine wpAnyIn_take (i := 8) (v := (.bool true)) rfl rfl (by kernel_rfl) (by kernel_rfl) (by kernel_rfl) (fun _ _ _ h => h) ⟨Or.inl ⟨by rfl, (by intro w; go_simp; try rfl)⟩, fun _ => rfl⟩ ?_; (try go_simp)
    refine wpAnyIn_take (i := 9) (v := (.bool true)) rfl rfl (by kernel_rfl) (by kernel_rfl) (by kernel_rfl) (fun _ _ _ h => h) ⟨Or.inl ⟨by rfl, (by intro w; go_simp; try rfl)⟩, fun _ => rfl⟩ ?_; (try go_simp)
    refine wpAnyIn_done (by kernel_rfl) ?_ _
    gi_wp2
    have z := HP.out.step S3.out K3.out S4.out K4.out HPL.out
    refine bodyPost_ret (v := .bool true) (by simp [results, Tryd.results11, go_sem]) rfl ⟨rfl, ⟨_, _, _, z.1, z.2⟩⟩
set_option maxHeartbeats 4000000 in
set_option maxRecDepth 100000 in
theorem does_free {g q r first count : Nat} {u v : Nat → Bool} {res : Nat} (n af ac : Int) (w : World) (h : Pr zp g q r first count u v res w) (ha : I64 af) :
    Calls Tryd.prog 11 #[.pointer (some ⟨g, 0, none⟩), .pointer (some ⟨q, 0, none⟩), .agg #[.int .i64 2, .int .i64 n, .int .i64 af, .int .i64 ac]] w fun e w' => e = .returned (.bool true) ∧ DOut zp g q r first count w w' := by
  have HP := hidden h
  have lg : g < w.heap.size := by obtain ⟨cs, hb, _⟩ := h.sp.box; exact blk_lt hb
  have n1 := h.gq
  have n2 := h.gr
  obtain ⟨er, u', v', res', hA, hB, hpl⟩ := (both_free (zp := zp) (g := g) (q := q) (r := r) h.pl af ac ha).ex
  have HA := hidden hA
  have HB := hidden hB
  have HPL := hidden hpl
  clear h hA hB hpl
  refine (callsIn_wide (n := 6)).1 ?_
  refine callsIn_of_wp Tryd.func11 rfl trivial ?_ rfl
  simp only [Tryd.ntmps11, List.size_toArray, List.length_cons, List.length_nil, Nat.reduceAdd, Nat.reduceSub, Array.replicate_succ, Array.replicate_zero, List.push_toArray, List.append_toArray, List.nil_append, List.cons_append]
  gi_wp2
  have B0 := hidden (blk_new w (.cells #[.int .i64 2, .int .i64 n, .int .i64 af, .int .i64 ac] 32))
  have K0 := hidden (same_alloc w (.cells #[.int .i64 2, .int .i64 n, .int .i64 af, .int .i64 ac] 32))
  generalize w.alloc (.cells #[.int .i64 2, .int .i64 n, .int .i64 af, .int .i64 ac] 32) = w0 at *
  have c1 : w0.cell? ⟨w.heap.size, 1, none⟩ = some (.int .i64 n) := blk_cell B0.out
  have c2 : w0.cell? ⟨w.heap.size, 2, none⟩ = some (.int .i64 af) := blk_cell B0.out
  have c3 : w0.cell? ⟨w.heap.size, 3, none⟩ = some (.int .i64 ac) := blk_cell B0.out
  have hmx : Tryd.prog.follows .mixedOrders = true := by kernel_rfl
  refine wpIn_region_any hmx ?_
  change wpAnyIn _ _ _ _ _ _ _ _ _ (World.drew _)
  refine wpAnyIn_take (i := 0) (v := (.pointer (some ⟨g, 0, none⟩))) rfl rfl (by kernel_rfl) (by kernel_rfl) (by kernel_rfl) (fun _ _ _ h => h) ⟨Or.inl ⟨by rfl, (by intro w; go_simp; try rfl)⟩, fun _ => rfl⟩ ?_; (try go_simp)
  refine wpAnyIn_take (i := 1) (v := (.pointer (some ⟨w.heap.size, 2, none⟩))) rfl rfl (by kernel_rfl) (by kernel_rfl) (by kernel_rfl) (fun _ _ _ h => h) ⟨Or.inl ⟨by rfl, (by intro w; go_simp; try rfl)⟩, fun _ => rfl⟩ ?_; (try go_simp)
  refine wpAnyIn_take (i := 4) (v := (.pointer (some ⟨q, 0, none⟩))) rfl rfl (by kernel_rfl) (by kernel_rfl) (by kernel_rfl) (fun _ _ _ h => h) ⟨Or.inl ⟨by rfl, (by intro w; go_simp; try rfl)⟩, fun _ => rfl⟩ ?_; (try go_simp)
  refine wpAnyIn_take (i := 5) (v := (.pointer (some ⟨w.heap.size, 2, none⟩))) rfl rfl (by kernel_rfl) (by kernel_rfl) (by kernel_rfl) (fun _ _ _ h => h) ⟨Or.inl ⟨by rfl, (by intro w; go_simp; try rfl)⟩, fun _ => rfl⟩ ?_; (try go_simp)
  refine wpAnyIn_ready (rs := [2, 6]) (by kernel_rfl) (by simp) ?_
  refine AllReadyIn.cons rfl (fun K hK => ?_) (AllReadyIn.cons rfl (fun K hK => ?_) AllReadyIn.nil)
  · skip
    go_simp
    refine hK _ _ ?_; clear hK K
    refine wpAnyIn_ready (rs := [3, 6]) (by kernel_rfl) (by simp) ?_
    refine AllReadyIn.cons rfl (fun K hK => ?_) (AllReadyIn.cons rfl (fun K hK => ?_) AllReadyIn.nil)
    · skip
      go_simp
      (first | refine ⟨trivial, ?_⟩ | skip)
      refine ((callsIn_wide (n := _)).2 (HA.out w0.drew (HP.out.sp.kept (K0.out.trans ((Kept.refl _ _).drew)) (fun h => h)) (HP.out.tab.same (K0.out.trans ((Kept.refl _ _).drew))))).mono ?_
      rintro e w3 ⟨rfl, s3, k3⟩
      have S3 := hidden s3
      have K3 := hidden (((K0.out.trans ((Kept.refl _ w0).drew)).mono (T := fun b => b = g) (fun _ _ h => h.elim)).trans k3)
      have bb := blk_kept k3 (by omega) (blk_kept ((Kept.refl (fun _ => False) w0).drew) (fun h => h) B0.out)
      have d1 : w3.cell? ⟨w.heap.size, 1, none⟩ = some (.int .i64 n) := blk_cell bb
      have d2 : w3.cell? ⟨w.heap.size, 2, none⟩ = some (.int .i64 af) := blk_cell bb
      have d3 : w3.cell? ⟨w.heap.size, 3, none⟩ = some (.int .i64 ac) := blk_cell bb
      clear s3 k3 bb
      refine hK _ _ ?_; clear hK K
      refine wpAnyIn_ready (rs := [6]) (by kernel_rfl) (by simp) ?_; refine AllReadyIn.cons rfl (fun K hK => ?_) AllReadyIn.nil; go_simp
      refine hK _ _ ?_; clear hK K
      refine wpAnyIn_ready (rs := [7]) (by kernel_rfl) (by simp) ?_; refine AllReadyIn.cons rfl (fun K hK => ?_) AllReadyIn.nil; go_simp
      (first | refine ⟨trivial, ?_⟩ | skip)
      refine ((callsIn_wide (n := _)).2 (HB.out w3 (HP.out.rf.kept K3.out (by omega) (by omega)))).mono ?_
      rintro e w4 ⟨rfl, s4, k4⟩
      have S4 := hidden s4
      have K4 := hidden k4
      clear s4 k4
      refine hK _ _ ?_; clear hK K
      refine wpAnyIn_take (i := 8) (v := (.bool true)) rfl rfl (by kernel_rfl) (by kernel_rfl) (by kernel_rfl) (fun _ _ _ h => h) ⟨Or.inl ⟨by rfl, (by intro w; go_simp; try rfl)⟩, fun _ => rfl⟩ ?_; (try go_simp)
      refine wpAnyIn_take (i := 9) (v := (.bool true)) rfl rfl (by kernel_rfl) (by kernel_rfl) (by kernel_rfl) (fun _ _ _ h => h) ⟨Or.inl ⟨by rfl, (by intro w; go_simp; try rfl)⟩, fun _ => rfl⟩ ?_; (try go_simp)
      refine wpAnyIn_done (by kernel_rfl) ?_ _
      gi_wp2
      have z := HP.out.step S3.out K3.out S4.out K4.out HPL.out
      refine bodyPost_ret (v := .bool true) (by simp [results, Tryd.results11, go_sem]) rfl ⟨rfl, ⟨_, _, _, z.1, z.2⟩⟩
    · skip
      go_simp
      refine hK _ _ ?_; clear hK K
      refine wpAnyIn_ready (rs := [3]) (by kernel_rfl) (by simp) ?_; refine AllReadyIn.cons rfl (fun K hK => ?_) AllReadyIn.nil; go_simp
      (first | refine ⟨trivial, ?_⟩ | skip)
      refine ((callsIn_wide (n := _)).2 (HA.out w0.drew (HP.out.sp.kept (K0.out.trans ((Kept.refl _ _).drew)) (fun h => h)) (HP.out.tab.same (K0.out.trans ((Kept.refl _ _).drew))))).mono ?_
      rintro e w3 ⟨rfl, s3, k3⟩
      have S3 := hidden s3
      have K3 := hidden (((K0.out.trans ((Kept.refl _ w0).drew)).mono (T := fun b => b = g) (fun _ _ h => h.elim)).trans k3)
      have bb := blk_kept k3 (by omega) (blk_kept ((Kept.refl (fun _ => False) w0).drew) (fun h => h) B0.out)
      have d1 : w3.cell? ⟨w.heap.size, 1, none⟩ = some (.int .i64 n) := blk_cell bb
      have d2 : w3.cell? ⟨w.heap.size, 2, none⟩ = some (.int .i64 af) := blk_cell bb
      have d3 : w3.cell? ⟨w.heap.size, 3, none⟩ = some (.int .i64 ac) := blk_cell bb
      clear s3 k3 bb
      refine hK _ _ ?_; clear hK K
      refine wpAnyIn_ready (rs := [7]) (by kernel_rfl) (by simp) ?_; refine AllReadyIn.cons rfl (fun K hK => ?_) AllReadyIn.nil; go_simp
      (first | refine ⟨trivial, ?_⟩ | skip)
      refine ((callsIn_wide (n := _)).2 (HB.out w3 (HP.out.rf.kept K3.out (by omega) (by omega)))).mono ?_
      rintro e w4 ⟨rfl, s4, k4⟩
      have S4 := hidden s4
      have K4 := hidden k4
      clear s4 k4
      refine hK _ _ ?_; clear hK K
      refine wpAnyIn_take (i := 8) (v := (.bool true)) rfl rfl (by kernel_rfl) (by kernel_rfl) (by kernel_rfl) (fun _ _ _ h => h) ⟨Or.inl ⟨by rfl, (by intro w; go_simp; try rfl)⟩, fun _ => rfl⟩ ?_; (try go_simp)
      refine wpAnyIn_take (i := 9) (v := (.bool true)) rfl rfl (by kernel_rfl) (by kernel_rfl) (by kernel_rfl) (fun _ _ _ h => h) ⟨Or.inl ⟨by rfl, (by intro w; go_simp; try rfl)⟩, fun _ => rfl⟩ ?_; (try go_simp)
      refine wpAnyIn_done (by kernel_rfl) ?_ _
      gi_wp2
      have z := HP.out.step S3.out K3.out S4.out K4.out HPL.out
      refine bodyPost_ret (v := .bool true) (by simp [results, Tryd.results11, go_sem]) rfl ⟨rfl, ⟨_, _, _, z.1, z.2⟩⟩
  · skip
    go_simp
    refine hK _ _ ?_; clear hK K
    refine wpAnyIn_ready (rs := [2]) (by kernel_rfl) (by simp) ?_; refine AllReadyIn.cons rfl (fun K hK => ?_) AllReadyIn.nil; go_simp
    refine hK _ _ ?_; clear hK K
    refine wpAnyIn_ready (rs := [3]) (by kernel_rfl) (by simp) ?_; refine AllReadyIn.cons rfl (fun K hK => ?_) AllReadyIn.nil; go_simp
    (first | refine ⟨trivial, ?_⟩ | skip)
    refine ((callsIn_wide (n := _)).2 (HA.out w0.drew (HP.out.sp.kept (K0.out.trans ((Kept.refl _ _).drew)) (fun h => h)) (HP.out.tab.same (K0.out.trans ((Kept.refl _ _).drew))))).mono ?_
    rintro e w3 ⟨rfl, s3, k3⟩
    have S3 := hidden s3
    have K3 := hidden (((K0.out.trans ((Kept.refl _ w0).drew)).mono (T := fun b => b = g) (fun _ _ h => h.elim)).trans k3)
    have bb := blk_kept k3 (by omega) (blk_kept ((Kept.refl (fun _ => False) w0).drew) (fun h => h) B0.out)
    have d1 : w3.cell? ⟨w.heap.size, 1, none⟩ = some (.int .i64 n) := blk_cell bb
    have d2 : w3.cell? ⟨w.heap.size, 2, none⟩ = some (.int .i64 af) := blk_cell bb
    have d3 : w3.cell? ⟨w.heap.size, 3, none⟩ = some (.int .i64 ac) := blk_cell bb
    clear s3 k3 bb
    refine hK _ _ ?_; clear hK K
    refine wpAnyIn_ready (rs := [7]) (by kernel_rfl) (by simp) ?_; refine AllReadyIn.cons rfl (fun K hK => ?_) AllReadyIn.nil; go_simp
    (first | refine ⟨trivial, ?_⟩ | skip)
    refine ((callsIn_wide (n := _)).2 (HB.out w3 (HP.out.rf.kept K3.out (by omega) (by omega)))).mono ?_
    rintro e w4 ⟨rfl, s4, k4⟩
    have S4 := hidden s4
    have K4 := hidden k4
    clear s4 k4
    refine hK _ _ ?_; clear hK K
    refine wpAnyIn_take (i := 8) (v := (.bool true)) rfl rfl (by kernel_rfl) (by kernel_rfl) (by kernel_rfl) (fun _ _ _ h => h) ⟨Or.inl ⟨by rfl, (by intro w; go_simp; try rfl)⟩, fun _ => rfl⟩ ?_; (try go_simp)
    refine wpAnyIn_take (i := 9) (v := (.bool true)) rfl rfl (by kernel_rfl) (by kernel_rfl) (by kernel_rfl) (fun _ _ _ h => h) ⟨Or.inl ⟨by rfl, (by intro w; go_simp; try rfl)⟩, fun _ => rfl⟩ ?_; (try go_simp)
    refine wpAnyIn_done (by kernel_rfl) ?_ _
    gi_wp2
    have z := HP.out.step S3.out K3.out S4.out K4.out HPL.out
    refine bodyPost_ret (v := .bool true) (by simp [results, Tryd.results11, go_sem]) rfl ⟨rfl, ⟨_, _, _, z.1, z.2⟩⟩
set_option maxHeartbeats 4000000 in
set_option maxRecDepth 100000 in
theorem does_later {g q r first count : Nat} {u v : Nat → Bool} {res : Nat} (n af ac : Int) (w : World) (h : Pr zp g q r first count u v res w) (ha : I64 af) :
    Calls Tryd.prog 11 #[.pointer (some ⟨g, 0, none⟩), .pointer (some ⟨q, 0, none⟩), .agg #[.int .i64 3, .int .i64 n, .int .i64 af, .int .i64 ac]] w fun e w' => e = .returned (.bool true) ∧ DOut zp g q r first count w w' := by
  have HP := hidden h
  have lg : g < w.heap.size := by obtain ⟨cs, hb, _⟩ := h.sp.box; exact blk_lt hb
  have n1 := h.gq
  have n2 := h.gr
  obtain ⟨er, u', v', res', hA, hB, hpl⟩ := (both_later (zp := zp) (g := g) (q := q) (r := r) h.pl af ac ha).ex
  have HA := hidden hA
  have HB := hidden hB
  have HPL := hidden hpl
  clear h hA hB hpl
  refine (callsIn_wide (n := 6)).1 ?_
  refine callsIn_of_wp Tryd.func11 rfl trivial ?_ rfl
  simp only [Tryd.ntmps11, List.size_toArray, List.length_cons, List.length_nil, Nat.reduceAdd, Nat.reduceSub, Array.replicate_succ, Array.replicate_zero, List.push_toArray, List.append_toArray, List.nil_append, List.cons_append]
  gi_wp2
  have B0 := hidden (blk_new w (.cells #[.int .i64 3, .int .i64 n, .int .i64 af, .int .i64 ac] 32))
  have K0 := hidden (same_alloc w (.cells #[.int .i64 3, .int .i64 n, .int .i64 af, .int .i64 ac] 32))
  generalize w.alloc (.cells #[.int .i64 3, .int .i64 n, .int .i64 af, .int .i64 ac] 32) = w0 at *
  have c1 : w0.cell? ⟨w.heap.size, 1, none⟩ = some (.int .i64 n) := blk_cell B0.out
  have c2 : w0.cell? ⟨w.heap.size, 2, none⟩ = some (.int .i64 af) := blk_cell B0.out
  have c3 : w0.cell? ⟨w.heap.size, 3, none⟩ = some (.int .i64 ac) := blk_cell B0.out
  have hmx : Tryd.prog.follows .mixedOrders = true := by kernel_rfl
  refine wpIn_region_any hmx ?_
  change wpAnyIn _ _ _ _ _ _ _ _ _ (World.drew _)
  refine wpAnyIn_take (i := 0) (v := (.pointer (some ⟨g, 0, none⟩))) rfl rfl (by kernel_rfl) (by kernel_rfl) (by kernel_rfl) (fun _ _ _ h => h) ⟨Or.inl ⟨by rfl, (by intro w; go_simp; try rfl)⟩, fun _ => rfl⟩ ?_; (try go_simp)
  refine wpAnyIn_take (i := 1) (v := (.pointer (some ⟨w.heap.size, 2, none⟩))) rfl rfl (by kernel_rfl) (by kernel_rfl) (by kernel_rfl) (fun _ _ _ h => h) ⟨Or.inl ⟨by rfl, (by intro w; go_simp; try rfl)⟩, fun _ => rfl⟩ ?_; (try go_simp)
  refine wpAnyIn_take (i := 4) (v := (.pointer (some ⟨q, 0, none⟩))) rfl rfl (by kernel_rfl) (by kernel_rfl) (by kernel_rfl) (fun _ _ _ h => h) ⟨Or.inl ⟨by rfl, (by intro w; go_simp; try rfl)⟩, fun _ => rfl⟩ ?_; (try go_simp)
  refine wpAnyIn_take (i := 5) (v := (.pointer (some ⟨w.heap.size, 2, none⟩))) rfl rfl (by kernel_rfl) (by kernel_rfl) (by kernel_rfl) (fun _ _ _ h => h) ⟨Or.inl ⟨by rfl, (by intro w; go_simp; try rfl)⟩, fun _ => rfl⟩ ?_; (try go_simp)
  refine wpAnyIn_ready (rs := [2, 6]) (by kernel_rfl) (by simp) ?_
  refine AllReadyIn.cons rfl (fun K hK => ?_) (AllReadyIn.cons rfl (fun K hK => ?_) AllReadyIn.nil)
  · skip
    go_simp
    refine hK _ _ ?_; clear hK K
    refine wpAnyIn_ready (rs := [3, 6]) (by kernel_rfl) (by simp) ?_
    refine AllReadyIn.cons rfl (fun K hK => ?_) (AllReadyIn.cons rfl (fun K hK => ?_) AllReadyIn.nil)
    · skip
      go_simp
      (first | refine ⟨trivial, ?_⟩ | skip)
      refine ((callsIn_wide (n := _)).2 (HA.out w0.drew (HP.out.sp.kept (K0.out.trans ((Kept.refl _ _).drew)) (fun h => h)) (HP.out.tab.same (K0.out.trans ((Kept.refl _ _).drew))))).mono ?_
      rintro e w3 ⟨rfl, s3, k3⟩
      have S3 := hidden s3
      have K3 := hidden (((K0.out.trans ((Kept.refl _ w0).drew)).mono (T := fun b => b = g) (fun _ _ h => h.elim)).trans k3)
      have bb := blk_kept k3 (by omega) (blk_kept ((Kept.refl (fun _ => False) w0).drew) (fun h => h) B0.out)
      have d1 : w3.cell? ⟨w.heap.size, 1, none⟩ = some (.int .i64 n) := blk_cell bb
      have d2 : w3.cell? ⟨w.heap.size, 2, none⟩ = some (.int .i64 af) := blk_cell bb
      have d3 : w3.cell? ⟨w.heap.size, 3, none⟩ = some (.int .i64 ac) := blk_cell bb
      clear s3 k3 bb
      refine hK _ _ ?_; clear hK K
      refine wpAnyIn_ready (rs := [6]) (by kernel_rfl) (by simp) ?_; refine AllReadyIn.cons rfl (fun K hK => ?_) AllReadyIn.nil; go_simp
      refine hK _ _ ?_; clear hK K
      refine wpAnyIn_ready (rs := [7]) (by kernel_rfl) (by simp) ?_; refine AllReadyIn.cons rfl (fun K hK => ?_) AllReadyIn.nil; go_simp
      (first | refine ⟨trivial, ?_⟩ | skip)
      refine ((callsIn_wide (n := _)).2 (HB.out w3 (HP.out.rf.kept K3.out (by omega) (by omega)))).mono ?_
      rintro e w4 ⟨rfl, s4, k4⟩
      have S4 := hidden s4
      have K4 := hidden k4
      clear s4 k4
      refine hK _ _ ?_; clear hK K
      refine wpAnyIn_take (i := 8) (v := (.bool true)) rfl rfl (by kernel_rfl) (by kernel_rfl) (by kernel_rfl) (fun _ _ _ h => h) ⟨Or.inl ⟨by rfl, (by intro w; go_simp; try rfl)⟩, fun _ => rfl⟩ ?_; (try go_simp)
      refine wpAnyIn_take (i := 9) (v := (.bool true)) rfl rfl (by kernel_rfl) (by kernel_rfl) (by kernel_rfl) (fun _ _ _ h => h) ⟨Or.inl ⟨by rfl, (by intro w; go_simp; try rfl)⟩, fun _ => rfl⟩ ?_; (try go_simp)
      refine wpAnyIn_done (by kernel_rfl) ?_ _
      gi_wp2
      have z := HP.out.step S3.out K3.out S4.out K4.out HPL.out
      refine bodyPost_ret (v := .bool true) (by simp [results, Tryd.results11, go_sem]) rfl ⟨rfl, ⟨_, _, _, z.1, z.2⟩⟩
    · skip
      go_simp
      refine hK _ _ ?_; clear hK K
      refine wpAnyIn_ready (rs := [3]) (by kernel_rfl) (by simp) ?_; refine AllReadyIn.cons rfl (fun K hK => ?_) AllReadyIn.nil; go_simp
      (first | refine ⟨trivial, ?_⟩ | skip)
      refine ((callsIn_wide (n := _)).2 (HA.out w0.drew (HP.out.sp.kept (K0.out.trans ((Kept.refl _ _).drew)) (fun h => h)) (HP.out.tab.same (K0.out.trans ((Kept.refl _ _).drew))))).mono ?_
      rintro e w3 ⟨rfl, s3, k3⟩
      have S3 := hidden s3
      have K3 := hidden (((K0.out.trans ((Kept.refl _ w0).drew)).mono (T := fun b => b = g) (fun _ _ h => h.elim)).trans k3)
      have bb := blk_kept k3 (by omega) (blk_kept ((Kept.refl (fun _ => False) w0).drew) (fun h => h) B0.out)
      have d1 : w3.cell? ⟨w.heap.size, 1, none⟩ = some (.int .i64 n) := blk_cell bb
      have d2 : w3.cell? ⟨w.heap.size, 2, none⟩ = some (.int .i64 af) := blk_cell bb
      have d3 : w3.cell? ⟨w.heap.size, 3, none⟩ = some (.int .i64 ac) := blk_cell bb
      clear s3 k3 bb
      refine hK _ _ ?_; clear hK K
      refine wpAnyIn_ready (rs := [7]) (by kernel_rfl) (by simp) ?_; refine AllReadyIn.cons rfl (fun K hK => ?_) AllReadyIn.nil; go_simp
      (first | refine ⟨trivial, ?_⟩ | skip)
      refine ((callsIn_wide (n := _)).2 (HB.out w3 (HP.out.rf.kept K3.out (by omega) (by omega)))).mono ?_
      rintro e w4 ⟨rfl, s4, k4⟩
      have S4 := hidden s4
      have K4 := hidden k4
      clear s4 k4
      refine hK _ _ ?_; clear hK K
      refine wpAnyIn_take (i := 8) (v := (.bool true)) rfl rfl (by kernel_rfl) (by kernel_rfl) (by kernel_rfl) (fun _ _ _ h => h) ⟨Or.inl ⟨by rfl, (by intro w; go_simp; try rfl)⟩, fun _ => rfl⟩ ?_; (try go_simp)
      refine wpAnyIn_take (i := 9) (v := (.bool true)) rfl rfl (by kernel_rfl) (by kernel_rfl) (by kernel_rfl) (fun _ _ _ h => h) ⟨Or.inl ⟨by rfl, (by intro w; go_simp; try rfl)⟩, fun _ => rfl⟩ ?_; (try go_simp)
      refine wpAnyIn_done (by kernel_rfl) ?_ _
      gi_wp2
      have z := HP.out.step S3.out K3.out S4.out K4.out HPL.out
      refine bodyPost_ret (v := .bool true) (by simp [results, Tryd.results11, go_sem]) rfl ⟨rfl, ⟨_, _, _, z.1, z.2⟩⟩
  · skip
    go_simp
    refine hK _ _ ?_; clear hK K
    refine wpAnyIn_ready (rs := [2]) (by kernel_rfl) (by simp) ?_; refine AllReadyIn.cons rfl (fun K hK => ?_) AllReadyIn.nil; go_simp
    refine hK _ _ ?_; clear hK K
    refine wpAnyIn_ready (rs := [3]) (by kernel_rfl) (by simp) ?_; refine AllReadyIn.cons rfl (fun K hK => ?_) AllReadyIn.nil; go_simp
    (first | refine ⟨trivial, ?_⟩ | skip)
    refine ((callsIn_wide (n := _)).2 (HA.out w0.drew (HP.out.sp.kept (K0.out.trans ((Kept.refl _ _).drew)) (fun h => h)) (HP.out.tab.same (K0.out.trans ((Kept.refl _ _).drew))))).mono ?_
    rintro e w3 ⟨rfl, s3, k3⟩
    have S3 := hidden s3
    have K3 := hidden (((K0.out.trans ((Kept.refl _ w0).drew)).mono (T := fun b => b = g) (fun _ _ h => h.elim)).trans k3)
    have bb := blk_kept k3 (by omega) (blk_kept ((Kept.refl (fun _ => False) w0).drew) (fun h => h) B0.out)
    have d1 : w3.cell? ⟨w.heap.size, 1, none⟩ = some (.int .i64 n) := blk_cell bb
    have d2 : w3.cell? ⟨w.heap.size, 2, none⟩ = some (.int .i64 af) := blk_cell bb
    have d3 : w3.cell? ⟨w.heap.size, 3, none⟩ = some (.int .i64 ac) := blk_cell bb
    clear s3 k3 bb
    refine hK _ _ ?_; clear hK K
    refine wpAnyIn_ready (rs := [7]) (by kernel_rfl) (by simp) ?_; refine AllReadyIn.cons rfl (fun K hK => ?_) AllReadyIn.nil; go_simp
    (first | refine ⟨trivial, ?_⟩ | skip)
    refine ((callsIn_wide (n := _)).2 (HB.out w3 (HP.out.rf.kept K3.out (by omega) (by omega)))).mono ?_
    rintro e w4 ⟨rfl, s4, k4⟩
    have S4 := hidden s4
    have K4 := hidden k4
    clear s4 k4
    refine hK _ _ ?_; clear hK K
    refine wpAnyIn_take (i := 8) (v := (.bool true)) rfl rfl (by kernel_rfl) (by kernel_rfl) (by kernel_rfl) (fun _ _ _ h => h) ⟨Or.inl ⟨by rfl, (by intro w; go_simp; try rfl)⟩, fun _ => rfl⟩ ?_; (try go_simp)
    refine wpAnyIn_take (i := 9) (v := (.bool true)) rfl rfl (by kernel_rfl) (by kernel_rfl) (by kernel_rfl) (fun _ _ _ h => h) ⟨Or.inl ⟨by rfl, (by intro w; go_simp; try rfl)⟩, fun _ => rfl⟩ ?_; (try go_simp)
    refine wpAnyIn_done (by kernel_rfl) ?_ _
    gi_wp2
    have z := HP.out.step S3.out K3.out S4.out K4.out HPL.out
    refine bodyPost_ret (v := .bool true) (by simp [results, Tryd.results11, go_sem]) rfl ⟨rfl, ⟨_, _, _, z.1, z.2⟩⟩
set_option maxHeartbeats 4000000 in
set_option maxRecDepth 100000 in
theorem does_reserve {g q r first count : Nat} {u v : Nat → Bool} {res : Nat} (n af ac : Int) (w : World) (h : Pr zp g q r first count u v res w) :
    Calls Tryd.prog 11 #[.pointer (some ⟨g, 0, none⟩), .pointer (some ⟨q, 0, none⟩), .agg #[.int .i64 5, .int .i64 n, .int .i64 af, .int .i64 ac]] w fun e w' => e = .returned (.bool true) ∧ DOut zp g q r first count w w' := by
  have HP := hidden h
  have lg : g < w.heap.size := by obtain ⟨cs, hb, _⟩ := h.sp.box; exact blk_lt hb
  have n1 := h.gq
  have n2 := h.gr
  obtain ⟨er, u', v', res', hA, hB, hpl⟩ := (both_reserve (zp := zp) (g := g) (q := q) (r := r) h.pl n).ex
  have HA := hidden hA
  have HB := hidden hB
  have HPL := hidden hpl
  clear h hA hB hpl
  refine (callsIn_wide (n := 6)).1 ?_
  refine callsIn_of_wp Tryd.func11 rfl trivial ?_ rfl
  simp only [Tryd.ntmps11, List.size_toArray, List.length_cons, List.length_nil, Nat.reduceAdd, Nat.reduceSub, Array.replicate_succ, Array.replicate_zero, List.push_toArray, List.append_toArray, List.nil_append, List.cons_append]
  gi_wp2
  have B0 := hidden (blk_new w (.cells #[.int .i64 5, .int .i64 n, .int .i64 af, .int .i64 ac] 32))
  have K0 := hidden (same_alloc w (.cells #[.int .i64 5, .int .i64 n, .int .i64 af, .int .i64 ac] 32))
  generalize w.alloc (.cells #[.int .i64 5, .int .i64 n, .int .i64 af, .int .i64 ac] 32) = w0 at *
  have c1 : w0.cell? ⟨w.heap.size, 1, none⟩ = some (.int .i64 n) := blk_cell B0.out
  have c2 : w0.cell? ⟨w.heap.size, 2, none⟩ = some (.int .i64 af) := blk_cell B0.out
  have c3 : w0.cell? ⟨w.heap.size, 3, none⟩ = some (.int .i64 ac) := blk_cell B0.out
  have hmx : Tryd.prog.follows .mixedOrders = true := by kernel_rfl
  refine wpIn_region_any hmx ?_
  change wpAnyIn _ _ _ _ _ _ _ _ _ (World.drew _)
  refine wpAnyIn_take (i := 0) (v := (.pointer (some ⟨g, 0, none⟩))) rfl rfl (by kernel_rfl) (by kernel_rfl) (by kernel_rfl) (fun _ _ _ h => h) ⟨Or.inl ⟨by rfl, (by intro w; go_simp; try rfl)⟩, fun _ => rfl⟩ ?_; (try go_simp)
  refine wpAnyIn_take (i := 1) (v := (.pointer (some ⟨w.heap.size, 1, none⟩))) rfl rfl (by kernel_rfl) (by kernel_rfl) (by kernel_rfl) (fun _ _ _ h => h) ⟨Or.inl ⟨by rfl, (by intro w; go_simp; try rfl)⟩, fun _ => rfl⟩ ?_; (try go_simp)
  refine wpAnyIn_take (i := 4) (v := (.pointer (some ⟨q, 0, none⟩))) rfl rfl (by kernel_rfl) (by kernel_rfl) (by kernel_rfl) (fun _ _ _ h => h) ⟨Or.inl ⟨by rfl, (by intro w; go_simp; try rfl)⟩, fun _ => rfl⟩ ?_; (try go_simp)
  refine wpAnyIn_take (i := 5) (v := (.pointer (some ⟨w.heap.size, 1, none⟩))) rfl rfl (by kernel_rfl) (by kernel_rfl) (by kernel_rfl) (fun _ _ _ h => h) ⟨Or.inl ⟨by rfl, (by intro w; go_simp; try rfl)⟩, fun _ => rfl⟩ ?_; (try go_simp)
  refine wpAnyIn_ready (rs := [2, 6]) (by kernel_rfl) (by simp) ?_
  refine AllReadyIn.cons rfl (fun K hK => ?_) (AllReadyIn.cons rfl (fun K hK => ?_) AllReadyIn.nil)
  · skip
    go_simp
    refine hK _ _ ?_; clear hK K
    refine wpAnyIn_ready (rs := [3, 6]) (by kernel_rfl) (by simp) ?_
    refine AllReadyIn.cons rfl (fun K hK => ?_) (AllReadyIn.cons rfl (fun K hK => ?_) AllReadyIn.nil)
    · skip
      go_simp
      (first | refine ⟨trivial, ?_⟩ | skip)
      refine ((callsIn_wide (n := _)).2 (HA.out w0.drew (HP.out.sp.kept (K0.out.trans ((Kept.refl _ _).drew)) (fun h => h)) (HP.out.tab.same (K0.out.trans ((Kept.refl _ _).drew))))).mono ?_
      rintro e w3 ⟨rfl, s3, k3⟩
      have S3 := hidden s3
      have K3 := hidden (((K0.out.trans ((Kept.refl _ w0).drew)).mono (T := fun b => b = g) (fun _ _ h => h.elim)).trans k3)
      have bb := blk_kept k3 (by omega) (blk_kept ((Kept.refl (fun _ => False) w0).drew) (fun h => h) B0.out)
      have d1 : w3.cell? ⟨w.heap.size, 1, none⟩ = some (.int .i64 n) := blk_cell bb
      have d2 : w3.cell? ⟨w.heap.size, 2, none⟩ = some (.int .i64 af) := blk_cell bb
      have d3 : w3.cell? ⟨w.heap.size, 3, none⟩ = some (.int .i64 ac) := blk_cell bb
      clear s3 k3 bb
      refine hK _ _ ?_; clear hK K
      refine wpAnyIn_ready (rs := [6]) (by kernel_rfl) (by simp) ?_; refine AllReadyIn.cons rfl (fun K hK => ?_) AllReadyIn.nil; go_simp
      refine hK _ _ ?_; clear hK K
      refine wpAnyIn_ready (rs := [7]) (by kernel_rfl) (by simp) ?_; refine AllReadyIn.cons rfl (fun K hK => ?_) AllReadyIn.nil; go_simp
      (first | refine ⟨trivial, ?_⟩ | skip)
      refine ((callsIn_wide (n := _)).2 (HB.out w3 (HP.out.rf.kept K3.out (by omega) (by omega)))).mono ?_
      rintro e w4 ⟨rfl, s4, k4⟩
      have S4 := hidden s4
      have K4 := hidden k4
      clear s4 k4
      refine hK _ _ ?_; clear hK K
      refine wpAnyIn_take (i := 8) (v := (.bool true)) rfl rfl (by kernel_rfl) (by kernel_rfl) (by kernel_rfl) (fun _ _ _ h => h) ⟨Or.inl ⟨by rfl, (by intro w; go_simp; try rfl)⟩, fun _ => rfl⟩ ?_; (try go_simp)
      refine wpAnyIn_take (i := 9) (v := (.bool true)) rfl rfl (by kernel_rfl) (by kernel_rfl) (by kernel_rfl) (fun _ _ _ h => h) ⟨Or.inl ⟨by rfl, (by intro w; go_simp; try rfl)⟩, fun _ => rfl⟩ ?_; (try go_simp)
      refine wpAnyIn_done (by kernel_rfl) ?_ _
      gi_wp2
      have z := HP.out.step S3.out K3.out S4.out K4.out HPL.out
      refine bodyPost_ret (v := .bool true) (by simp [results, Tryd.results11, go_sem]) rfl ⟨rfl, ⟨_, _, _, z.1, z.2⟩⟩
    · skip
      go_simp
      refine hK _ _ ?_; clear hK K
      refine wpAnyIn_ready (rs := [3]) (by kernel_rfl) (by simp) ?_; refine AllReadyIn.cons rfl (fun K hK => ?_) AllReadyIn.nil; go_simp
      (first | refine ⟨trivial, ?_⟩ | skip)
      refine ((callsIn_wide (n := _)).2 (HA.out w0.drew (HP.out.sp.kept (K0.out.trans ((Kept.refl _ _).drew)) (fun h => h)) (HP.out.tab.same (K0.out.trans ((Kept.refl _ _).drew))))).mono ?_
      rintro e w3 ⟨rfl, s3, k3⟩
      have S3 := hidden s3
      have K3 := hidden (((K0.out.trans ((Kept.refl _ w0).drew)).mono (T := fun b => b = g) (fun _ _ h => h.elim)).trans k3)
      have bb := blk_kept k3 (by omega) (blk_kept ((Kept.refl (fun _ => False) w0).drew) (fun h => h) B0.out)
      have d1 : w3.cell? ⟨w.heap.size, 1, none⟩ = some (.int .i64 n) := blk_cell bb
      have d2 : w3.cell? ⟨w.heap.size, 2, none⟩ = some (.int .i64 af) := blk_cell bb
      have d3 : w3.cell? ⟨w.heap.size, 3, none⟩ = some (.int .i64 ac) := blk_cell bb
      clear s3 k3 bb
      refine hK _ _ ?_; clear hK K
      refine wpAnyIn_ready (rs := [7]) (by kernel_rfl) (by simp) ?_; refine AllReadyIn.cons rfl (fun K hK => ?_) AllReadyIn.nil; go_simp
      (first | refine ⟨trivial, ?_⟩ | skip)
      refine ((callsIn_wide (n := _)).2 (HB.out w3 (HP.out.rf.kept K3.out (by omega) (by omega)))).mono ?_
      rintro e w4 ⟨rfl, s4, k4⟩
      have S4 := hidden s4
      have K4 := hidden k4
      clear s4 k4
      refine hK _ _ ?_; clear hK K
      refine wpAnyIn_take (i := 8) (v := (.bool true)) rfl rfl (by kernel_rfl) (by kernel_rfl) (by kernel_rfl) (fun _ _ _ h => h) ⟨Or.inl ⟨by rfl, (by intro w; go_simp; try rfl)⟩, fun _ => rfl⟩ ?_; (try go_simp)
      refine wpAnyIn_take (i := 9) (v := (.bool true)) rfl rfl (by kernel_rfl) (by kernel_rfl) (by kernel_rfl) (fun _ _ _ h => h) ⟨Or.inl ⟨by rfl, (by intro w; go_simp; try rfl)⟩, fun _ => rfl⟩ ?_; (try go_simp)
      refine wpAnyIn_done (by kernel_rfl) ?_ _
      gi_wp2
      have z := HP.out.step S3.out K3.out S4.out K4.out HPL.out
      refine bodyPost_ret (v := .bool true) (by simp [results, Tryd.results11, go_sem]) rfl ⟨rfl, ⟨_, _, _, z.1, z.2⟩⟩
  · skip
    go_simp
    refine hK _ _ ?_; clear hK K
    refine wpAnyIn_ready (rs := [2]) (by kernel_rfl) (by simp) ?_; refine AllReadyIn.cons rfl (fun K hK => ?_) AllReadyIn.nil; go_simp
    refine hK _ _ ?_; clear hK K
    refine wpAnyIn_ready (rs := [3]) (by kernel_rfl) (by simp) ?_; refine AllReadyIn.cons rfl (fun K hK => ?_) AllReadyIn.nil; go_simp
    (first | refine ⟨trivial, ?_⟩ | skip)
    refine ((callsIn_wide (n := _)).2 (HA.out w0.drew (HP.out.sp.kept (K0.out.trans ((Kept.refl _ _).drew)) (fun h => h)) (HP.out.tab.same (K0.out.trans ((Kept.refl _ _).drew))))).mono ?_
    rintro e w3 ⟨rfl, s3, k3⟩
    have S3 := hidden s3
    have K3 := hidden (((K0.out.trans ((Kept.refl _ w0).drew)).mono (T := fun b => b = g) (fun _ _ h => h.elim)).trans k3)
    have bb := blk_kept k3 (by omega) (blk_kept ((Kept.refl (fun _ => False) w0).drew) (fun h => h) B0.out)
    have d1 : w3.cell? ⟨w.heap.size, 1, none⟩ = some (.int .i64 n) := blk_cell bb
    have d2 : w3.cell? ⟨w.heap.size, 2, none⟩ = some (.int .i64 af) := blk_cell bb
    have d3 : w3.cell? ⟨w.heap.size, 3, none⟩ = some (.int .i64 ac) := blk_cell bb
    clear s3 k3 bb
    refine hK _ _ ?_; clear hK K
    refine wpAnyIn_ready (rs := [7]) (by kernel_rfl) (by simp) ?_; refine AllReadyIn.cons rfl (fun K hK => ?_) AllReadyIn.nil; go_simp
    (first | refine ⟨trivial, ?_⟩ | skip)
    refine ((callsIn_wide (n := _)).2 (HB.out w3 (HP.out.rf.kept K3.out (by omega) (by omega)))).mono ?_
    rintro e w4 ⟨rfl, s4, k4⟩
    have S4 := hidden s4
    have K4 := hidden k4
    clear s4 k4
    refine hK _ _ ?_; clear hK K
    refine wpAnyIn_take (i := 8) (v := (.bool true)) rfl rfl (by kernel_rfl) (by kernel_rfl) (by kernel_rfl) (fun _ _ _ h => h) ⟨Or.inl ⟨by rfl, (by intro w; go_simp; try rfl)⟩, fun _ => rfl⟩ ?_; (try go_simp)
    refine wpAnyIn_take (i := 9) (v := (.bool true)) rfl rfl (by kernel_rfl) (by kernel_rfl) (by kernel_rfl) (fun _ _ _ h => h) ⟨Or.inl ⟨by rfl, (by intro w; go_simp; try rfl)⟩, fun _ => rfl⟩ ?_; (try go_simp)
    refine wpAnyIn_done (by kernel_rfl) ?_ _
    gi_wp2
    have z := HP.out.step S3.out K3.out S4.out K4.out HPL.out
    refine bodyPost_ret (v := .bool true) (by simp [results, Tryd.results11, go_sem]) rfl ⟨rfl, ⟨_, _, _, z.1, z.2⟩⟩
set_option maxHeartbeats 4000000 in
set_option maxRecDepth 100000 in
theorem does_release {g q r first count : Nat} {u v : Nat → Bool} {res : Nat} (n af ac : Int) (w : World) (h : Pr zp g q r first count u v res w) :
    Calls Tryd.prog 11 #[.pointer (some ⟨g, 0, none⟩), .pointer (some ⟨q, 0, none⟩), .agg #[.int .i64 6, .int .i64 n, .int .i64 af, .int .i64 ac]] w fun e w' => e = .returned (.bool true) ∧ DOut zp g q r first count w w' := by
  have HP := hidden h
  have lg : g < w.heap.size := by obtain ⟨cs, hb, _⟩ := h.sp.box; exact blk_lt hb
  have n1 := h.gq
  have n2 := h.gr
  obtain ⟨er, u', v', res', hA, hB, hpl⟩ := (both_release (zp := zp) (g := g) (q := q) (r := r) h.pl n).ex
  have HA := hidden hA
  have HB := hidden hB
  have HPL := hidden hpl
  clear h hA hB hpl
  refine (callsIn_wide (n := 6)).1 ?_
  refine callsIn_of_wp Tryd.func11 rfl trivial ?_ rfl
  simp only [Tryd.ntmps11, List.size_toArray, List.length_cons, List.length_nil, Nat.reduceAdd, Nat.reduceSub, Array.replicate_succ, Array.replicate_zero, List.push_toArray, List.append_toArray, List.nil_append, List.cons_append]
  gi_wp2
  have B0 := hidden (blk_new w (.cells #[.int .i64 6, .int .i64 n, .int .i64 af, .int .i64 ac] 32))
  have K0 := hidden (same_alloc w (.cells #[.int .i64 6, .int .i64 n, .int .i64 af, .int .i64 ac] 32))
  generalize w.alloc (.cells #[.int .i64 6, .int .i64 n, .int .i64 af, .int .i64 ac] 32) = w0 at *
  have c1 : w0.cell? ⟨w.heap.size, 1, none⟩ = some (.int .i64 n) := blk_cell B0.out
  have c2 : w0.cell? ⟨w.heap.size, 2, none⟩ = some (.int .i64 af) := blk_cell B0.out
  have c3 : w0.cell? ⟨w.heap.size, 3, none⟩ = some (.int .i64 ac) := blk_cell B0.out
  have hmx : Tryd.prog.follows .mixedOrders = true := by kernel_rfl
  refine wpIn_region_any hmx ?_
  change wpAnyIn _ _ _ _ _ _ _ _ _ (World.drew _)
  refine wpAnyIn_take (i := 0) (v := (.pointer (some ⟨g, 0, none⟩))) rfl rfl (by kernel_rfl) (by kernel_rfl) (by kernel_rfl) (fun _ _ _ h => h) ⟨Or.inl ⟨by rfl, (by intro w; go_simp; try rfl)⟩, fun _ => rfl⟩ ?_; (try go_simp)
  refine wpAnyIn_take (i := 1) (v := (.pointer (some ⟨w.heap.size, 1, none⟩))) rfl rfl (by kernel_rfl) (by kernel_rfl) (by kernel_rfl) (fun _ _ _ h => h) ⟨Or.inl ⟨by rfl, (by intro w; go_simp; try rfl)⟩, fun _ => rfl⟩ ?_; (try go_simp)
  refine wpAnyIn_take (i := 4) (v := (.pointer (some ⟨q, 0, none⟩))) rfl rfl (by kernel_rfl) (by kernel_rfl) (by kernel_rfl) (fun _ _ _ h => h) ⟨Or.inl ⟨by rfl, (by intro w; go_simp; try rfl)⟩, fun _ => rfl⟩ ?_; (try go_simp)
  refine wpAnyIn_take (i := 5) (v := (.pointer (some ⟨w.heap.size, 1, none⟩))) rfl rfl (by kernel_rfl) (by kernel_rfl) (by kernel_rfl) (fun _ _ _ h => h) ⟨Or.inl ⟨by rfl, (by intro w; go_simp; try rfl)⟩, fun _ => rfl⟩ ?_; (try go_simp)
  refine wpAnyIn_ready (rs := [2, 6]) (by kernel_rfl) (by simp) ?_
  refine AllReadyIn.cons rfl (fun K hK => ?_) (AllReadyIn.cons rfl (fun K hK => ?_) AllReadyIn.nil)
  · skip
    go_simp
    refine hK _ _ ?_; clear hK K
    refine wpAnyIn_ready (rs := [3, 6]) (by kernel_rfl) (by simp) ?_
    refine AllReadyIn.cons rfl (fun K hK => ?_) (AllReadyIn.cons rfl (fun K hK => ?_) AllReadyIn.nil)
    · skip
      go_simp
      (first | refine ⟨trivial, ?_⟩ | skip)
      refine ((callsIn_wide (n := _)).2 (HA.out w0.drew (HP.out.sp.kept (K0.out.trans ((Kept.refl _ _).drew)) (fun h => h)) (HP.out.tab.same (K0.out.trans ((Kept.refl _ _).drew))))).mono ?_
      rintro e w3 ⟨rfl, s3, k3⟩
      have S3 := hidden s3
      have K3 := hidden (((K0.out.trans ((Kept.refl _ w0).drew)).mono (T := fun b => b = g) (fun _ _ h => h.elim)).trans k3)
      have bb := blk_kept k3 (by omega) (blk_kept ((Kept.refl (fun _ => False) w0).drew) (fun h => h) B0.out)
      have d1 : w3.cell? ⟨w.heap.size, 1, none⟩ = some (.int .i64 n) := blk_cell bb
      have d2 : w3.cell? ⟨w.heap.size, 2, none⟩ = some (.int .i64 af) := blk_cell bb
      have d3 : w3.cell? ⟨w.heap.size, 3, none⟩ = some (.int .i64 ac) := blk_cell bb
      clear s3 k3 bb
      refine hK _ _ ?_; clear hK K
      refine wpAnyIn_ready (rs := [6]) (by kernel_rfl) (by simp) ?_; refine AllReadyIn.cons rfl (fun K hK => ?_) AllReadyIn.nil; go_simp
      refine hK _ _ ?_; clear hK K
      refine wpAnyIn_ready (rs := [7]) (by kernel_rfl) (by simp) ?_; refine AllReadyIn.cons rfl (fun K hK => ?_) AllReadyIn.nil; go_simp
      (first | refine ⟨trivial, ?_⟩ | skip)
      refine ((callsIn_wide (n := _)).2 (HB.out w3 (HP.out.rf.kept K3.out (by omega) (by omega)))).mono ?_
      rintro e w4 ⟨rfl, s4, k4⟩
      have S4 := hidden s4
      have K4 := hidden k4
      clear s4 k4
      refine hK _ _ ?_; clear hK K
      refine wpAnyIn_take (i := 8) (v := (.bool true)) rfl rfl (by kernel_rfl) (by kernel_rfl) (by kernel_rfl) (fun _ _ _ h => h) ⟨Or.inl ⟨by rfl, (by intro w; go_simp; try rfl)⟩, fun _ => rfl⟩ ?_; (try go_simp)
      refine wpAnyIn_take (i := 9) (v := (.bool true)) rfl rfl (by kernel_rfl) (by kernel_rfl) (by kernel_rfl) (fun _ _ _ h => h) ⟨Or.inl ⟨by rfl, (by intro w; go_simp; try rfl)⟩, fun _ => rfl⟩ ?_; (try go_simp)
      refine wpAnyIn_done (by kernel_rfl) ?_ _
      gi_wp2
      have z := HP.out.step S3.out K3.out S4.out K4.out HPL.out
      refine bodyPost_ret (v := .bool true) (by simp [results, Tryd.results11, go_sem]) rfl ⟨rfl, ⟨_, _, _, z.1, z.2⟩⟩
    · skip
      go_simp
      refine hK _ _ ?_; clear hK K
      refine wpAnyIn_ready (rs := [3]) (by kernel_rfl) (by simp) ?_; refine AllReadyIn.cons rfl (fun K hK => ?_) AllReadyIn.nil; go_simp
      (first | refine ⟨trivial, ?_⟩ | skip)
      refine ((callsIn_wide (n := _)).2 (HA.out w0.drew (HP.out.sp.kept (K0.out.trans ((Kept.refl _ _).drew)) (fun h => h)) (HP.out.tab.same (K0.out.trans ((Kept.refl _ _).drew))))).mono ?_
      rintro e w3 ⟨rfl, s3, k3⟩
      have S3 := hidden s3
      have K3 := hidden (((K0.out.trans ((Kept.refl _ w0).drew)).mono (T := fun b => b = g) (fun _ _ h => h.elim)).trans k3)
      have bb := blk_kept k3 (by omega) (blk_kept ((Kept.refl (fun _ => False) w0).drew) (fun h => h) B0.out)
      have d1 : w3.cell? ⟨w.heap.size, 1, none⟩ = some (.int .i64 n) := blk_cell bb
      have d2 : w3.cell? ⟨w.heap.size, 2, none⟩ = some (.int .i64 af) := blk_cell bb
      have d3 : w3.cell? ⟨w.heap.size, 3, none⟩ = some (.int .i64 ac) := blk_cell bb
      clear s3 k3 bb
      refine hK _ _ ?_; clear hK K
      refine wpAnyIn_ready (rs := [7]) (by kernel_rfl) (by simp) ?_; refine AllReadyIn.cons rfl (fun K hK => ?_) AllReadyIn.nil; go_simp
      (first | refine ⟨trivial, ?_⟩ | skip)
      refine ((callsIn_wide (n := _)).2 (HB.out w3 (HP.out.rf.kept K3.out (by omega) (by omega)))).mono ?_
      rintro e w4 ⟨rfl, s4, k4⟩
      have S4 := hidden s4
      have K4 := hidden k4
      clear s4 k4
      refine hK _ _ ?_; clear hK K
      refine wpAnyIn_take (i := 8) (v := (.bool true)) rfl rfl (by kernel_rfl) (by kernel_rfl) (by kernel_rfl) (fun _ _ _ h => h) ⟨Or.inl ⟨by rfl, (by intro w; go_simp; try rfl)⟩, fun _ => rfl⟩ ?_; (try go_simp)
      refine wpAnyIn_take (i := 9) (v := (.bool true)) rfl rfl (by kernel_rfl) (by kernel_rfl) (by kernel_rfl) (fun _ _ _ h => h) ⟨Or.inl ⟨by rfl, (by intro w; go_simp; try rfl)⟩, fun _ => rfl⟩ ?_; (try go_simp)
      refine wpAnyIn_done (by kernel_rfl) ?_ _
      gi_wp2
      have z := HP.out.step S3.out K3.out S4.out K4.out HPL.out
      refine bodyPost_ret (v := .bool true) (by simp [results, Tryd.results11, go_sem]) rfl ⟨rfl, ⟨_, _, _, z.1, z.2⟩⟩
  · skip
    go_simp
    refine hK _ _ ?_; clear hK K
    refine wpAnyIn_ready (rs := [2]) (by kernel_rfl) (by simp) ?_; refine AllReadyIn.cons rfl (fun K hK => ?_) AllReadyIn.nil; go_simp
    refine hK _ _ ?_; clear hK K
    refine wpAnyIn_ready (rs := [3]) (by kernel_rfl) (by simp) ?_; refine AllReadyIn.cons rfl (fun K hK => ?_) AllReadyIn.nil; go_simp
    (first | refine ⟨trivial, ?_⟩ | skip)
    refine ((callsIn_wide (n := _)).2 (HA.out w0.drew (HP.out.sp.kept (K0.out.trans ((Kept.refl _ _).drew)) (fun h => h)) (HP.out.tab.same (K0.out.trans ((Kept.refl _ _).drew))))).mono ?_
    rintro e w3 ⟨rfl, s3, k3⟩
    have S3 := hidden s3
    have K3 := hidden (((K0.out.trans ((Kept.refl _ w0).drew)).mono (T := fun b => b = g) (fun _ _ h => h.elim)).trans k3)
    have bb := blk_kept k3 (by omega) (blk_kept ((Kept.refl (fun _ => False) w0).drew) (fun h => h) B0.out)
    have d1 : w3.cell? ⟨w.heap.size, 1, none⟩ = some (.int .i64 n) := blk_cell bb
    have d2 : w3.cell? ⟨w.heap.size, 2, none⟩ = some (.int .i64 af) := blk_cell bb
    have d3 : w3.cell? ⟨w.heap.size, 3, none⟩ = some (.int .i64 ac) := blk_cell bb
    clear s3 k3 bb
    refine hK _ _ ?_; clear hK K
    refine wpAnyIn_ready (rs := [7]) (by kernel_rfl) (by simp) ?_; refine AllReadyIn.cons rfl (fun K hK => ?_) AllReadyIn.nil; go_simp
    (first | refine ⟨trivial, ?_⟩ | skip)
    refine ((callsIn_wide (n := _)).2 (HB.out w3 (HP.out.rf.kept K3.out (by omega) (by omega)))).mono ?_
    rintro e w4 ⟨rfl, s4, k4⟩
    have S4 := hidden s4
    have K4 := hidden k4
    clear s4 k4
    refine hK _ _ ?_; clear hK K
    refine wpAnyIn_take (i := 8) (v := (.bool true)) rfl rfl (by kernel_rfl) (by kernel_rfl) (by kernel_rfl) (fun _ _ _ h => h) ⟨Or.inl ⟨by rfl, (by intro w; go_simp; try rfl)⟩, fun _ => rfl⟩ ?_; (try go_simp)
    refine wpAnyIn_take (i := 9) (v := (.bool true)) rfl rfl (by kernel_rfl) (by kernel_rfl) (by kernel_rfl) (fun _ _ _ h => h) ⟨Or.inl ⟨by rfl, (by intro w; go_simp; try rfl)⟩, fun _ => rfl⟩ ?_; (try go_simp)
    refine wpAnyIn_done (by kernel_rfl) ?_ _
    gi_wp2
    have z := HP.out.step S3.out K3.out S4.out K4.out HPL.out
    refine bodyPost_ret (v := .bool true) (by simp [results, Tryd.results11, go_sem]) rfl ⟨rfl, ⟨_, _, _, z.1, z.2⟩⟩
set_option maxHeartbeats 4000000 in
set_option maxRecDepth 100000 in
theorem does_has {g q r first count : Nat} {u v : Nat → Bool} {res : Nat} (n af ac : Int) (w : World) (h : Pr zp g q r first count u v res w) (hn : n ≤ 9223372036854775807) :
    Calls Tryd.prog 11 #[.pointer (some ⟨g, 0, none⟩), .pointer (some ⟨q, 0, none⟩), .agg #[.int .i64 9, .int .i64 n, .int .i64 af, .int .i64 ac]] w fun e w' => e = .returned (.bool true) ∧ DOut zp g q r first count w w' := by
  have HP := hidden h
  have lg : g < w.heap.size := by obtain ⟨cs, hb, _⟩ := h.sp.box; exact blk_lt hb
  have n1 := h.gq
  have n2 := h.gr
  obtain ⟨er, u', v', res', hA, hB, hpl⟩ := (both_has (zp := zp) (g := g) (q := q) (r := r) h.pl n hn).ex
  have HA := hidden hA
  have HB := hidden hB
  have HPL := hidden hpl
  clear h hA hB hpl
  refine (callsIn_wide (n := 6)).1 ?_
  refine callsIn_of_wp Tryd.func11 rfl trivial ?_ rfl
  simp only [Tryd.ntmps11, List.size_toArray, List.length_cons, List.length_nil, Nat.reduceAdd, Nat.reduceSub, Array.replicate_succ, Array.replicate_zero, List.push_toArray, List.append_toArray, List.nil_append, List.cons_append]
  gi_wp2
  have B0 := hidden (blk_new w (.cells #[.int .i64 9, .int .i64 n, .int .i64 af, .int .i64 ac] 32))
  have K0 := hidden (same_alloc w (.cells #[.int .i64 9, .int .i64 n, .int .i64 af, .int .i64 ac] 32))
  generalize w.alloc (.cells #[.int .i64 9, .int .i64 n, .int .i64 af, .int .i64 ac] 32) = w0 at *
  have c1 : w0.cell? ⟨w.heap.size, 1, none⟩ = some (.int .i64 n) := blk_cell B0.out
  have c2 : w0.cell? ⟨w.heap.size, 2, none⟩ = some (.int .i64 af) := blk_cell B0.out
  have c3 : w0.cell? ⟨w.heap.size, 3, none⟩ = some (.int .i64 ac) := blk_cell B0.out
  have hmx : Tryd.prog.follows .mixedOrders = true := by kernel_rfl
  refine wpIn_region_any hmx ?_
  change wpAnyIn _ _ _ _ _ _ _ _ _ (World.drew _)
  refine wpAnyIn_take (i := 0) (v := (.pointer (some ⟨g, 0, none⟩))) rfl rfl (by kernel_rfl) (by kernel_rfl) (by kernel_rfl) (fun _ _ _ h => h) ⟨Or.inl ⟨by rfl, (by intro w; go_simp; try rfl)⟩, fun _ => rfl⟩ ?_; (try go_simp)
  refine wpAnyIn_take (i := 1) (v := (.pointer (some ⟨w.heap.size, 1, none⟩))) rfl rfl (by kernel_rfl) (by kernel_rfl) (by kernel_rfl) (fun _ _ _ h => h) ⟨Or.inl ⟨by rfl, (by intro w; go_simp; try rfl)⟩, fun _ => rfl⟩ ?_; (try go_simp)
  refine wpAnyIn_take (i := 4) (v := (.pointer (some ⟨q, 0, none⟩))) rfl rfl (by kernel_rfl) (by kernel_rfl) (by kernel_rfl) (fun _ _ _ h => h) ⟨Or.inl ⟨by rfl, (by intro w; go_simp; try rfl)⟩, fun _ => rfl⟩ ?_; (try go_simp)
  refine wpAnyIn_take (i := 5) (v := (.pointer (some ⟨w.heap.size, 1, none⟩))) rfl rfl (by kernel_rfl) (by kernel_rfl) (by kernel_rfl) (fun _ _ _ h => h) ⟨Or.inl ⟨by rfl, (by intro w; go_simp; try rfl)⟩, fun _ => rfl⟩ ?_; (try go_simp)
  refine wpAnyIn_ready (rs := [2, 6]) (by kernel_rfl) (by simp) ?_
  refine AllReadyIn.cons rfl (fun K hK => ?_) (AllReadyIn.cons rfl (fun K hK => ?_) AllReadyIn.nil)
  · skip
    go_simp
    refine hK _ _ ?_; clear hK K
    refine wpAnyIn_ready (rs := [3, 6]) (by kernel_rfl) (by simp) ?_
    refine AllReadyIn.cons rfl (fun K hK => ?_) (AllReadyIn.cons rfl (fun K hK => ?_) AllReadyIn.nil)
    · skip
      go_simp
      (first | refine ⟨trivial, ?_⟩ | skip)
      refine ((callsIn_wide (n := _)).2 (HA.out w0.drew (HP.out.sp.kept (K0.out.trans ((Kept.refl _ _).drew)) (fun h => h)) (HP.out.tab.same (K0.out.trans ((Kept.refl _ _).drew))))).mono ?_
      rintro e w3 ⟨rfl, s3, k3⟩
      have S3 := hidden s3
      have K3 := hidden (((K0.out.trans ((Kept.refl _ w0).drew)).mono (T := fun b => b = g) (fun _ _ h => h.elim)).trans k3)
      have bb := blk_kept k3 (by omega) (blk_kept ((Kept.refl (fun _ => False) w0).drew) (fun h => h) B0.out)
      have d1 : w3.cell? ⟨w.heap.size, 1, none⟩ = some (.int .i64 n) := blk_cell bb
      have d2 : w3.cell? ⟨w.heap.size, 2, none⟩ = some (.int .i64 af) := blk_cell bb
      have d3 : w3.cell? ⟨w.heap.size, 3, none⟩ = some (.int .i64 ac) := blk_cell bb
      clear s3 k3 bb
      refine hK _ _ ?_; clear hK K
      refine wpAnyIn_ready (rs := [6]) (by kernel_rfl) (by simp) ?_; refine AllReadyIn.cons rfl (fun K hK => ?_) AllReadyIn.nil; go_simp
      refine hK _ _ ?_; clear hK K
      refine wpAnyIn_ready (rs := [7]) (by kernel_rfl) (by simp) ?_; refine AllReadyIn.cons rfl (fun K hK => ?_) AllReadyIn.nil; go_simp
      (first | refine ⟨trivial, ?_⟩ | skip)
      refine ((callsIn_wide (n := _)).2 (HB.out w3 (HP.out.rf.kept K3.out (by omega) (by omega)))).mono ?_
      rintro e w4 ⟨rfl, s4, k4⟩
      have S4 := hidden s4
      have K4 := hidden k4
      clear s4 k4
      refine hK _ _ ?_; clear hK K
      refine wpAnyIn_take (i := 8) (v := (.bool true)) rfl rfl (by kernel_rfl) (by kernel_rfl) (by kernel_rfl) (fun _ _ _ h => h) ⟨Or.inl ⟨by rfl, (by intro w; go_simp; try rfl)⟩, fun _ => rfl⟩ ?_; (try go_simp)
      refine wpAnyIn_take (i := 9) (v := (.bool true)) rfl rfl (by kernel_rfl) (by kernel_rfl) (by kernel_rfl) (fun _ _ _ h => h) ⟨Or.inl ⟨by rfl, (by intro w; go_simp; try rfl)⟩, fun _ => rfl⟩ ?_; (try go_simp)
      refine wpAnyIn_done (by kernel_rfl) ?_ _
      gi_wp2
      have z := HP.out.step S3.out K3.out S4.out K4.out HPL.out
      refine bodyPost_ret (v := .bool true) (by simp [results, Tryd.results11, go_sem]) rfl ⟨rfl, ⟨_, _, _, z.1, z.2⟩⟩
    · skip
      go_simp
      refine hK _ _ ?_; clear hK K
      refine wpAnyIn_ready (rs := [3]) (by kernel_rfl) (by simp) ?_; refine AllReadyIn.cons rfl (fun K hK => ?_) AllReadyIn.nil; go_simp
      (first | refine ⟨trivial, ?_⟩ | skip)
      refine ((callsIn_wide (n := _)).2 (HA.out w0.drew (HP.out.sp.kept (K0.out.trans ((Kept.refl _ _).drew)) (fun h => h)) (HP.out.tab.same (K0.out.trans ((Kept.refl _ _).drew))))).mono ?_
      rintro e w3 ⟨rfl, s3, k3⟩
      have S3 := hidden s3
      have K3 := hidden (((K0.out.trans ((Kept.refl _ w0).drew)).mono (T := fun b => b = g) (fun _ _ h => h.elim)).trans k3)
      have bb := blk_kept k3 (by omega) (blk_kept ((Kept.refl (fun _ => False) w0).drew) (fun h => h) B0.out)
      have d1 : w3.cell? ⟨w.heap.size, 1, none⟩ = some (.int .i64 n) := blk_cell bb
      have d2 : w3.cell? ⟨w.heap.size, 2, none⟩ = some (.int .i64 af) := blk_cell bb
      have d3 : w3.cell? ⟨w.heap.size, 3, none⟩ = some (.int .i64 ac) := blk_cell bb
      clear s3 k3 bb
      refine hK _ _ ?_; clear hK K
      refine wpAnyIn_ready (rs := [7]) (by kernel_rfl) (by simp) ?_; refine AllReadyIn.cons rfl (fun K hK => ?_) AllReadyIn.nil; go_simp
      (first | refine ⟨trivial, ?_⟩ | skip)
      refine ((callsIn_wide (n := _)).2 (HB.out w3 (HP.out.rf.kept K3.out (by omega) (by omega)))).mono ?_
      rintro e w4 ⟨rfl, s4, k4⟩
      have S4 := hidden s4
      have K4 := hidden k4
      clear s4 k4
      refine hK _ _ ?_; clear hK K
      refine wpAnyIn_take (i := 8) (v := (.bool true)) rfl rfl (by kernel_rfl) (by kernel_rfl) (by kernel_rfl) (fun _ _ _ h => h) ⟨Or.inl ⟨by rfl, (by intro w; go_simp; try rfl)⟩, fun _ => rfl⟩ ?_; (try go_simp)
      refine wpAnyIn_take (i := 9) (v := (.bool true)) rfl rfl (by kernel_rfl) (by kernel_rfl) (by kernel_rfl) (fun _ _ _ h => h) ⟨Or.inl ⟨by rfl, (by intro w; go_simp; try rfl)⟩, fun _ => rfl⟩ ?_; (try go_simp)
      refine wpAnyIn_done (by kernel_rfl) ?_ _
      gi_wp2
      have z := HP.out.step S3.out K3.out S4.out K4.out HPL.out
      refine bodyPost_ret (v := .bool true) (by simp [results, Tryd.results11, go_sem]) rfl ⟨rfl, ⟨_, _, _, z.1, z.2⟩⟩
  · skip
    go_simp
    refine hK _ _ ?_; clear hK K
    refine wpAnyIn_ready (rs := [2]) (by kernel_rfl) (by simp) ?_; refine AllReadyIn.cons rfl (fun K hK => ?_) AllReadyIn.nil; go_simp
    refine hK _ _ ?_; clear hK K
    refine wpAnyIn_ready (rs := [3]) (by kernel_rfl) (by simp) ?_; refine AllReadyIn.cons rfl (fun K hK => ?_) AllReadyIn.nil; go_simp
    (first | refine ⟨trivial, ?_⟩ | skip)
    refine ((callsIn_wide (n := _)).2 (HA.out w0.drew (HP.out.sp.kept (K0.out.trans ((Kept.refl _ _).drew)) (fun h => h)) (HP.out.tab.same (K0.out.trans ((Kept.refl _ _).drew))))).mono ?_
    rintro e w3 ⟨rfl, s3, k3⟩
    have S3 := hidden s3
    have K3 := hidden (((K0.out.trans ((Kept.refl _ w0).drew)).mono (T := fun b => b = g) (fun _ _ h => h.elim)).trans k3)
    have bb := blk_kept k3 (by omega) (blk_kept ((Kept.refl (fun _ => False) w0).drew) (fun h => h) B0.out)
    have d1 : w3.cell? ⟨w.heap.size, 1, none⟩ = some (.int .i64 n) := blk_cell bb
    have d2 : w3.cell? ⟨w.heap.size, 2, none⟩ = some (.int .i64 af) := blk_cell bb
    have d3 : w3.cell? ⟨w.heap.size, 3, none⟩ = some (.int .i64 ac) := blk_cell bb
    clear s3 k3 bb
    refine hK _ _ ?_; clear hK K
    refine wpAnyIn_ready (rs := [7]) (by kernel_rfl) (by simp) ?_; refine AllReadyIn.cons rfl (fun K hK => ?_) AllReadyIn.nil; go_simp
    (first | refine ⟨trivial, ?_⟩ | skip)
    refine ((callsIn_wide (n := _)).2 (HB.out w3 (HP.out.rf.kept K3.out (by omega) (by omega)))).mono ?_
    rintro e w4 ⟨rfl, s4, k4⟩
    have S4 := hidden s4
    have K4 := hidden k4
    clear s4 k4
    refine hK _ _ ?_; clear hK K
    refine wpAnyIn_take (i := 8) (v := (.bool true)) rfl rfl (by kernel_rfl) (by kernel_rfl) (by kernel_rfl) (fun _ _ _ h => h) ⟨Or.inl ⟨by rfl, (by intro w; go_simp; try rfl)⟩, fun _ => rfl⟩ ?_; (try go_simp)
    refine wpAnyIn_take (i := 9) (v := (.bool true)) rfl rfl (by kernel_rfl) (by kernel_rfl) (by kernel_rfl) (fun _ _ _ h => h) ⟨Or.inl ⟨by rfl, (by intro w; go_simp; try rfl)⟩, fun _ => rfl⟩ ?_; (try go_simp)
    refine wpAnyIn_done (by kernel_rfl) ?_ _
    gi_wp2
    have z := HP.out.step S3.out K3.out S4.out K4.out HPL.out
    refine bodyPost_ret (v := .bool true) (by simp [results, Tryd.results11, go_sem]) rfl ⟨rfl, ⟨_, _, _, z.1, z.2⟩⟩
end Go.Proofs.YtbmbdidmbdanmaaDoor
