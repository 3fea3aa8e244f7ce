/- journal's Sectors: how many sectors are right. -/
import Derived.Test.YtljbmpnpbjnbkaaDoorJ9
import Derived.Test.YtljbmpnpbjnbkaaDoorJR7
namespace Go.Proofs.YtljbmpnpbjnbkaaDoor
open Go.RowKit Go.Shelf
set_option linter.unusedVariables false
set_option linter.unusedSimpArgs false
attribute [local go_sem] Oper.semAt_some
theorem cell_cells {w : World} {p : Addr} {v : Value} (h : w.cell? p = some v) : ∃ cs t fz, w.heap[p.block]? = some (.cells cs t fz) := by
  unfold World.cell? at h
  cases e : w.heap[p.block]? with
  | none => simp [e] at h
  | some o =>
    rw [e] at h
    cases o <;> first | exact ⟨_, _, _, rfl⟩ | (simp at h)
theorem KE.cell {E : Nat → TypeId → Prop} {a b : World} (k : KE E a b) {p : Addr} {v : Value} (h : a.cell? p = some v) (hn : ∀ t, ¬ E p.block t) : b.cell? p = some v := by
  obtain ⟨cs, t, fz, ho⟩ := cell_cells h
  exact (World.cell?_of_block ((k.cells _ _ _ _ ho (hn t)).trans ho.symm)).trans h
theorem Bt.ke {E : Nat → TypeId → Prop} {a c : World} {b off n cap : Nat} {l : List UInt8} (h : Bt a (.slice (some ⟨b, off, none⟩) n cap) l) (k : KE E a c) (hn : ∀ t, ¬ E b t) : Bt c (.slice (some ⟨b, off, none⟩) n cap) l := by
  have hl := h.len
  refine ⟨some ⟨b, off, none⟩, cap, by rw [hl.1], hl.2, fun h0 => ⟨b, off, rfl, fun j hj => ?_⟩⟩
  obtain ⟨b', o', e', hc⟩ := h.cell h0
  cases e'
  exact k.cell (hc j hj) hn
theorem RtW.ke {E : Nat → TypeId → Prop} {W V : World} {B b off L cap n gen : Nat} {img : List UInt8} (h : RtW W B b off L cap n gen img) (k : KE E W V) (hg : ∀ t, ¬ E 0 t) (hb : ∀ t, ¬ E b t) (h0 : ¬ E B 3) (h1 : ¬ E (B + 1) 22) (h2 : ¬ E (B + 2) 39) : RtW V B b off L cap n gen img :=
  ⟨fun j hj => k.cell (h.tab j hj) hg, h.bt.ke k hb, k.cells _ _ _ _ h.b0 h0, k.cells _ _ _ _ h.b1 h1, k.cells _ _ _ _ h.b2 h2⟩
set_option maxHeartbeats 400000 in
set_option maxRecDepth 100000 in
theorem sectors_may (n c b off L cap gen : Nat) (img : List UInt8) (w : World) (T : Tab w) (hm : MayJ n L) (hL : L = n * c) (hb : Bt w (.slice (some ⟨b, off, none⟩) L cap) img) (h1 : 512 ≤ n) (h2 : n ≤ 4096) (hc1 : 1 ≤ c) (hc : c ≤ 4096) (hcb : cap ≤ 9223372036854775807) (hg : gen < 18446744073709551616) :
    Calls Tryd.prog 22 #[.int .i64 n, .int .u64 gen, .slice (some ⟨b, off, none⟩) L cap] w fun e w' => e = .returned (.tuple #[.int .i64 ((roomsJ n gen img c 0).length : Nat), .int .i64 0]) ∧ Same w w' := by
  have hLb : L ≤ 16777216 := by rw [hL]; exact Nat.mul_le_mul h2 hc
  have hll := hb.len
  have hml : (roomsJ n gen img c 0).length ≤ c := roomsJ_len n gen img c 0
  obtain ⟨m, hmE⟩ : ∃ m, m = (roomsJ n gen img c 0).length := ⟨_, rfl⟩
  rw [← hmE] at hml ⊢
  have HmE := hidden hmE
  clear hmE
  have HM := hidden (fun W => (callsIn_wide (n := 8)).2 (mayScan_any n (some ⟨b, off, none⟩) L cap (by omega) W))
  have HF := hidden (fun W => (callsIn_wide (n := 8)).2 (right_fn n gen (some ⟨b, off, none⟩) L cap W))
  have G0 := hidden (blk_new w (.cells #[.int .i64 0] 3))
  have K0 := hidden (same_alloc w (.cells #[.int .i64 0] 3))
  have HT := hidden T
  have HB := hidden hb
  have HMy := hidden hm
  rw [decide_eq_true hm] at HM
  have HL := hidden hL
  have HLb := hidden hLb
  have Hll := hidden hll
  clear T hb hm hL hLb hll
  refine (callsIn_wide (n := 9)).1 ?_
  refine callsIn_of_wp_marks Tryd.func22 rfl trivial ?_ rfl
  simp only [Tryd.ntmps22, List.size_toArray, List.length_cons, List.length_nil, Nat.reduceAdd, Nat.reduceSub, Array.replicate_succ, Array.replicate_zero, List.push_toArray, List.append_toArray, List.nil_append, List.cons_append]
  gi_wp2_with (first
    | (refine ⟨trivial, ?_⟩; gi_at_call 41; refine (HM.out _).mono ?_; rintro e w1 ⟨rfl, rfl⟩)
    | (refine ⟨trivial, ?_⟩; gi_at_call 42; refine (HF.out _).mono ?_; rintro e w2 ⟨B, rfl, hB0, hB1, hB2, hB3, q2⟩; have K2 := hidden (K0.out.trans q2); have G1 := hidden hB1; have G2 := hidden hB2; have G3 := hidden hB3; have P2 := hidden (blk_kept q2 (fun h => h) G0.out); clear q2 hB1 hB2 hB3))
  have hB0' : w.heap.size + 1 ≤ B := by simpa using hB0
  have hsz := K2.out.size
  have hP2 := blk_lt P2.out
  have hB2 := blk_lt G3.out
  have hbw : b < w.heap.size := by
    obtain ⟨b', o', e', hx⟩ := HB.out.cell (by rw [← Hll.out.1, HL.out]; exact Nat.mul_pos (by omega) hc1)
    cases e'
    obtain ⟨cs, t, fz, ho⟩ := cell_cells (hx 0 (by rw [← Hll.out.1, HL.out]; exact Nat.mul_pos (by omega) hc1))
    exact blk_lt ho
  have hgw : 0 < w.heap.size := by
    obtain ⟨cs, t, fz, ho⟩ := cell_cells (HT.out 0 (by decide))
    exact blk_lt ho
  have HRt : Hid (∀ W1, Same w2 W1 → RtW W1 B b off L cap n gen img) := hidden (fun W1 kk => ⟨HT.out.kept (K2.out.trans kk) (fun h => h), HB.out.same (K2.out.trans kk), blk_kept kk (fun h => h) G1.out, blk_kept kk (fun h => h) G2.out, blk_kept kk (fun h => h) G3.out⟩)
  have HLc := hidden (show L ≤ cap by have := Hll.out; omega)
  clear hB0
  refine range_ownI (ti := 3) rfl (by decide) (gf := 52) (lb := #[.pointer (some ⟨B + 2, 0, none⟩), .pointer (some ⟨B, 0, none⟩), .pointer (some ⟨B + 1, 0, none⟩)]) rfl trivial (enters_of Tryd.func52 (by kernel_rfl) rfl) (T := fun k _ => k = w.heap.size)
    (fun W1 kk hs => right_at (fun k _ => k = w.heap.size) (w2.heap.size + 2) W1 B b off L cap n gen c img h1 h2 HL.out hc hc1 HLc.out hcb hg (by omega) (by omega) (fun V kV => (HRt.out W1 kk).ke kV (fun t e => by omega) (fun t e => by omega) (by omega) (by omega) (by omega)) (fun k hk => ⟨by omega, by omega, by omega⟩)) (fun _ => rfl)
    (fun pre V => Same w V ∧ V.heap[w.heap.size]? = some (.cells #[.int .i64 (pre.length : Nat)] 3 (0, 0)))
    (fun _ _ _ => False)
    (fun s A C row hs hg' hr => ⟨hs.1.grown hg' (fun k e hk => by have := (hr k e).1; omega), (hg'.block _ (blk_lt hs.2) (fun e => by have := (hr _ e.symm).1; omega)).trans hs.2⟩)
    (fun _ _ _ _ _ hs _ _ => hs)
    ⟨K2.out, P2.out⟩
    (fun x a' V => a' = { tmps := #[.int .i64 n, .int .u64 gen, .slice (some ⟨b, off, none⟩) L cap, undef, undef, undef, .int .i64 0, .int .i64 0, .pointer (some ⟨w.heap.size, 0, none⟩), .int .i64 n, .slice (some ⟨b, off, none⟩) L cap, .bool true, .bool false, .int .i64 n, .int .u64 gen, .slice (some ⟨b, off, none⟩) L cap, .func (.func 52) #[] #[.pointer (some ⟨B + 2, 0, none⟩), .pointer (some ⟨B, 0, none⟩), .pointer (some ⟨B + 1, 0, none⟩)], .slice (some ⟨b, off + x.1.val * n + 24, none⟩) (usedJ (secP n x.1.val img)) (n - 24), undef, undef, undef], defers := [] })
    (fun x a' _ A C row hs hg' hr => hs) ?assign ?body ?done ?stop
  case assign =>
    intro l pre x W K hI hK
    dsimp only [encU]
    gi_wp2
    exact hK _ _ (KX.refl _ _ _) hI (by simp [Array.zip, Array.zipWith, Array.zipWithMAux])
  case body =>
    intro l pre x a' V hI hA hlt
    subst hA
    have y1 : V.cell? ⟨w.heap.size, 0, none⟩ = some (.int .i64 (pre.length : Nat)) := blk_cell hI.2
    have y2 : V.frozen? ⟨w.heap.size, 0, none⟩ = false := blk_free hI.2
    have HI := hidden hI
    obtain ⟨pl, hpl⟩ : ∃ pl, pl = pre.length := ⟨_, rfl⟩
    rw [← hpl] at y1 hlt
    have HPl := hidden hpl
    have a1 : IntKind.i64.wrap ((pl : Int) + 1) = (pl : Int) + 1 := by rw [IntKind.wrap_i64]; omega
    clear hI hpl
    gi_wp2
    have hb := blk_set (j := 0) HI.out.2 (.int .i64 ((pl : Int) + 1))
    refine ⟨(KX.refl _ _ _).set (fun t => rfl) hP2 _, HI.out.1.grown (grown_set V w.heap.size 0 _) (fun k e hk => by cases e; omega), ?_⟩
    rw [List.length_append, ← HPl.out]
    exact hb
  case done =>
    rintro D ys V hD hS hI hK
    have hlen : ys.length = m := by
      have h9 := congrArg List.length hS
      rw [List.length_map, ← HmE.out] at h9
      rw [h9]
      unfold fl
      rw [List.length_take, List.length_finRange]
      omega
    rw [hlen] at hI
    have y1 : V.cell? ⟨w.heap.size, 0, none⟩ = some (.int .i64 (m : Nat)) := blk_cell hI.2
    have hS5 := hidden (show Same w (V.putObj D (.deferred none)) from hI.1.grown (grownBy_putObj' V D _) (fun k e hk => by cases e; omega))
    clear hI hS hlen
    gi_wp2
    refine ⟨by simp, .inl ⟨_, _, rfl, run_takeDeferred hK, ?_⟩⟩
    refine ⟨.tuple #[.int .i64 (m : Nat), .int .i64 0], ?_, rfl, hS5.out⟩
    simp [results, Tryd.f22, go_sem]
  case stop =>
    rintro D c pre V _ _ h _
    exact h.elim
end Go.Proofs.YtljbmpnpbjnbkaaDoor
