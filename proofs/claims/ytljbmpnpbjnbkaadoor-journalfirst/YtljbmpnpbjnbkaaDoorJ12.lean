/- journal: Scan and Sectors of both sides, whatever the bytes; the law's sameBytes, sameTexts. (Made by mkj12.py.) -/
import Derived.Test.YtljbmpnpbjnbkaaDoorJ9
import Derived.Test.YtljbmpnpbjnbkaaDoorJR7
/- journal's Scan: the records found. -/
/- journal's Sectors: how many sectors are right. -/
namespace Go.Proofs.YtljbmpnpbjnbkaaDoor
open Go.RowKit Go.Shelf
set_option linter.unusedVariables false
set_option linter.unusedSimpArgs false
attribute [local go_sem] Oper.semAt_some
theorem cell_cells {w : World} {p : Addr} {v : Value} (h : w.cell? p = some v) : ∃ cs t fz, w.heap[p.block]? = some (.cells cs t fz) := by
  unfold World.cell? at h
  cases e : w.heap[p.block]? with
  | none => simp [e] at h
  | some o =>
    rw [e] at h
    cases o <;> first | exact ⟨_, _, _, rfl⟩ | (simp at h)
theorem KE.cell {E : Nat → TypeId → Prop} {a b : World} (k : KE E a b) {p : Addr} {v : Value} (h : a.cell? p = some v) (hn : ∀ t, ¬ E p.block t) : b.cell? p = some v := by
  obtain ⟨cs, t, fz, ho⟩ := cell_cells h
  exact (World.cell?_of_block ((k.cells _ _ _ _ ho (hn t)).trans ho.symm)).trans h
theorem Bt.ke {E : Nat → TypeId → Prop} {a c : World} {b off n cap : Nat} {l : List UInt8} (h : Bt a (.slice (some ⟨b, off, none⟩) n cap) l) (k : KE E a c) (hn : ∀ t, ¬ E b t) : Bt c (.slice (some ⟨b, off, none⟩) n cap) l := by
  have hl := h.len
  refine ⟨some ⟨b, off, none⟩, cap, by rw [hl.1], hl.2, fun h0 => ⟨b, off, rfl, fun j hj => ?_⟩⟩
  obtain ⟨b', o', e', hc⟩ := h.cell h0
  cases e'
  exact k.cell (hc j hj) hn
theorem RtW.ke {E : Nat → TypeId → Prop} {W V : World} {B b off L cap n gen : Nat} {img : List UInt8} (h : RtW W B b off L cap n gen img) (k : KE E W V) (hg : ∀ t, ¬ E 0 t) (hb : ∀ t, ¬ E b t) (h0 : ¬ E B 3) (h1 : ¬ E (B + 1) 22) (h2 : ¬ E (B + 2) 39) : RtW V B b off L cap n gen img :=
  ⟨fun j hj => k.cell (h.tab j hj) hg, h.bt.ke k hb, k.cells _ _ _ _ h.b0 h0, k.cells _ _ _ _ h.b1 h1, k.cells _ _ _ _ h.b2 h2⟩
set_option maxHeartbeats 400000 in
set_option maxRecDepth 100000 in
theorem sectors_may (n c b off L cap gen : Nat) (img : List UInt8) (w : World) (T : Tab w) (hm : MayJ n L) (hL : L = n * c) (hb : Bt w (.slice (some ⟨b, off, none⟩) L cap) img) (h1 : 512 ≤ n) (h2 : n ≤ 4096) (hc1 : 1 ≤ c) (hc : c ≤ 4096) (hcb : cap ≤ 9223372036854775807) (hg : gen < 18446744073709551616) :
    Calls Tryd.prog 22 #[.int .i64 n, .int .u64 gen, .slice (some ⟨b, off, none⟩) L cap] w fun e w' => e = .returned (.tuple #[.int .i64 ((roomsJ n gen img c 0).length : Nat), .int .i64 0]) ∧ Same w w' := by
  have hLb : L ≤ 16777216 := by rw [hL]; exact Nat.mul_le_mul h2 hc
  have hll := hb.len
  have hml : (roomsJ n gen img c 0).length ≤ c := roomsJ_len n gen img c 0
  obtain ⟨m, hmE⟩ : ∃ m, m = (roomsJ n gen img c 0).length := ⟨_, rfl⟩
  rw [← hmE] at hml ⊢
  have HmE := hidden hmE
  clear hmE
  have HM := hidden (fun W => (callsIn_wide (n := 8)).2 (mayScan_any n (some ⟨b, off, none⟩) L cap (by omega) W))
  have HF := hidden (fun W => (callsIn_wide (n := 8)).2 (right_fn n gen (some ⟨b, off, none⟩) L cap W))
  have G0 := hidden (blk_new w (.cells #[.int .i64 0] 3))
  have K0 := hidden (same_alloc w (.cells #[.int .i64 0] 3))
  have HT := hidden T
  have HB := hidden hb
  have HMy := hidden hm
  rw [decide_eq_true hm] at HM
  have HL := hidden hL
  have HLb := hidden hLb
  have Hll := hidden hll
  clear T hb hm hL hLb hll
  refine (callsIn_wide (n := 9)).1 ?_
  refine callsIn_of_wp_marks Tryd.func22 rfl trivial ?_ rfl
  simp only [Tryd.ntmps22, List.size_toArray, List.length_cons, List.length_nil, Nat.reduceAdd, Nat.reduceSub, Array.replicate_succ, Array.replicate_zero, List.push_toArray, List.append_toArray, List.nil_append, List.cons_append]
  gi_wp2_with (first
    | (refine ⟨trivial, ?_⟩; gi_at_call 41; refine (HM.out _).mono ?_; rintro e w1 ⟨rfl, rfl⟩)
    | (refine ⟨trivial, ?_⟩; gi_at_call 42; refine (HF.out _).mono ?_; rintro e w2 ⟨B, rfl, hB0, hB1, hB2, hB3, q2⟩; have K2 := hidden (K0.out.trans q2); have G1 := hidden hB1; have G2 := hidden hB2; have G3 := hidden hB3; have P2 := hidden (blk_kept q2 (fun h => h) G0.out); clear q2 hB1 hB2 hB3))
  have hB0' : w.heap.size + 1 ≤ B := by simpa using hB0
  have hsz := K2.out.size
  have hP2 := blk_lt P2.out
  have hB2 := blk_lt G3.out
  have hbw : b < w.heap.size := by
    obtain ⟨b', o', e', hx⟩ := HB.out.cell (by rw [← Hll.out.1, HL.out]; exact Nat.mul_pos (by omega) hc1)
    cases e'
    obtain ⟨cs, t, fz, ho⟩ := cell_cells (hx 0 (by rw [← Hll.out.1, HL.out]; exact Nat.mul_pos (by omega) hc1))
    exact blk_lt ho
  have hgw : 0 < w.heap.size := by
    obtain ⟨cs, t, fz, ho⟩ := cell_cells (HT.out 0 (by decide))
    exact blk_lt ho
  have HRt : Hid (∀ W1, Same w2 W1 → RtW W1 B b off L cap n gen img) := hidden (fun W1 kk => ⟨HT.out.kept (K2.out.trans kk) (fun h => h), HB.out.same (K2.out.trans kk), blk_kept kk (fun h => h) G1.out, blk_kept kk (fun h => h) G2.out, blk_kept kk (fun h => h) G3.out⟩)
  have HLc := hidden (show L ≤ cap by have := Hll.out; omega)
  clear hB0
  refine range_ownI (ti := 3) rfl (by decide) (gf := 52) (lb := #[.pointer (some ⟨B + 2, 0, none⟩), .pointer (some ⟨B, 0, none⟩), .pointer (some ⟨B + 1, 0, none⟩)]) rfl trivial (enters_of Tryd.func52 (by kernel_rfl) rfl) (T := fun k _ => k = w.heap.size)
    (fun W1 kk hs => right_at (fun k _ => k = w.heap.size) (w2.heap.size + 2) W1 B b off L cap n gen c img h1 h2 HL.out hc hc1 HLc.out hcb hg (by omega) (by omega) (fun V kV => (HRt.out W1 kk).ke kV (fun t e => by omega) (fun t e => by omega) (by omega) (by omega) (by omega)) (fun k hk => ⟨by omega, by omega, by omega⟩)) (fun _ => rfl)
    (fun pre V => Same w V ∧ V.heap[w.heap.size]? = some (.cells #[.int .i64 (pre.length : Nat)] 3 (0, 0)))
    (fun _ _ _ => False)
    (fun s A C row hs hg' hr => ⟨hs.1.grown hg' (fun k e hk => by have := (hr k e).1; omega), (hg'.block _ (blk_lt hs.2) (fun e => by have := (hr _ e.symm).1; omega)).trans hs.2⟩)
    (fun _ _ _ _ _ hs _ _ => hs)
    ⟨K2.out, P2.out⟩
    (fun x a' V => a' = { tmps := #[.int .i64 n, .int .u64 gen, .slice (some ⟨b, off, none⟩) L cap, undef, undef, undef, .int .i64 0, .int .i64 0, .pointer (some ⟨w.heap.size, 0, none⟩), .int .i64 n, .slice (some ⟨b, off, none⟩) L cap, .bool true, .bool false, .int .i64 n, .int .u64 gen, .slice (some ⟨b, off, none⟩) L cap, .func (.func 52) #[] #[.pointer (some ⟨B + 2, 0, none⟩), .pointer (some ⟨B, 0, none⟩), .pointer (some ⟨B + 1, 0, none⟩)], .slice (some ⟨b, off + x.1.val * n + 24, none⟩) (usedJ (secP n x.1.val img)) (n - 24), undef, undef, undef], defers := [] })
    (fun x a' _ A C row hs hg' hr => hs) ?assign ?body ?done ?stop
  case assign =>
    intro l pre x W K hI hK
    dsimp only [encU]
    gi_wp2
    exact hK _ _ (KX.refl _ _ _) hI (by simp [Array.zip, Array.zipWith, Array.zipWithMAux])
  case body =>
    intro l pre x a' V hI hA hlt
    subst hA
    have y1 : V.cell? ⟨w.heap.size, 0, none⟩ = some (.int .i64 (pre.length : Nat)) := blk_cell hI.2
    have y2 : V.frozen? ⟨w.heap.size, 0, none⟩ = false := blk_free hI.2
    have HI := hidden hI
    obtain ⟨pl, hpl⟩ : ∃ pl, pl = pre.length := ⟨_, rfl⟩
    rw [← hpl] at y1 hlt
    have HPl := hidden hpl
    have a1 : IntKind.i64.wrap ((pl : Int) + 1) = (pl : Int) + 1 := by rw [IntKind.wrap_i64]; omega
    clear hI hpl
    gi_wp2
    have hb := blk_set (j := 0) HI.out.2 (.int .i64 ((pl : Int) + 1))
    refine ⟨(KX.refl _ _ _).set (fun t => rfl) hP2 _, HI.out.1.grown (grown_set V w.heap.size 0 _) (fun k e hk => by cases e; omega), ?_⟩
    rw [List.length_append, ← HPl.out]
    exact hb
  case done =>
    rintro D ys V hD hS hI hK
    have hlen : ys.length = m := by
      have h9 := congrArg List.length hS
      rw [List.length_map, ← HmE.out] at h9
      rw [h9]
      unfold fl
      rw [List.length_take, List.length_finRange]
      omega
    rw [hlen] at hI
    have y1 : V.cell? ⟨w.heap.size, 0, none⟩ = some (.int .i64 (m : Nat)) := blk_cell hI.2
    have hS5 := hidden (show Same w (V.putObj D (.deferred none)) from hI.1.grown (grownBy_putObj' V D _) (fun k e hk => by cases e; omega))
    clear hI hS hlen
    gi_wp2
    refine ⟨by simp, .inl ⟨_, _, rfl, run_takeDeferred hK, ?_⟩⟩
    refine ⟨.tuple #[.int .i64 (m : Nat), .int .i64 0], ?_, rfl, hS5.out⟩
    simp [results, Tryd.f22, go_sem]
  case stop =>
    rintro D c pre V _ _ h _
    exact h.elim
end Go.Proofs.YtljbmpnpbjnbkaaDoor
namespace Go.Proofs.YtljbmpnpbjnbkaaDoor
open Go.RowKit Go.Shelf
set_option linter.unusedVariables false
set_option linter.unusedSimpArgs false
attribute [local go_sem] Oper.semAt_some
theorem own_blk {w : World} {B n s r : Nat} {e : TypeId} {v : Value} {xs : List Value} (h : w.ownsRow B e s v n xs) (hr : v.ownBlock = some r) : B ≤ r ∧ ∃ cs, w.heap[r]? = some (.cells cs e (0, 0)) := by
  rcases h.2 with ⟨rfl, _⟩ | ⟨g, cap, cur, rfl, h1, h2, _⟩
  · cases hr
  · cases hr
    exact ⟨h1, cur, h2⟩
theorem own_grown {w w' : World} {B n s : Nat} {e : TypeId} {v : Value} {xs : List Value} {row : Option Nat} (h : w.ownsRow B e s v n xs) (hg : w.grownBy w' row) (hr : ∀ r, row = some r → ∃ o : Obj, w.heap[r]? = some o ∧ ∀ cs fz, o ≠ .cells cs e fz) : w'.ownsRow B e s v n xs := by
  refine ⟨h.1, h.2.elim .inl fun ⟨g, cap, cur, h1, h2, h3, h4⟩ => .inr ⟨g, cap, cur, h1, h2, ?_, h4⟩⟩
  refine (hg.block g (blk_lt h3) fun e' => ?_).trans h3
  obtain ⟨o, ho, hn⟩ := hr g e'.symm
  rw [h3] at ho
  exact hn _ _ (Option.some.inj ho).symm
theorem KX.row {T : Nat → TypeId → Prop} {X : Nat} {a c : World} {row : Option Nat} (hg : a.grownBy c row) (hr : ∀ r, row = some r → ∃ cs t fz, a.heap[r]? = some (.cells cs t fz) ∧ T r t) : KX T X a c :=
  ⟨hg.size, fun k cs t fz hk hn => (hg.block k (blk_lt hk) fun e => by
    obtain ⟨cs', t', fz', h1, h2⟩ := hr k e.symm
    rw [hk] at h1
    cases h1
    exact hn h2).trans hk, fun k o hx hk ho => (hg.block k (blk_lt hk) fun e => by
    obtain ⟨cs', t', fz', h1, h2⟩ := hr k e.symm
    rw [hk] at h1
    cases h1
    cases ho).trans hk⟩
/-- The bytes of records of some chunks, one behind the other. -/
def flA (n : Nat) {c : Nat} (img : List UInt8) (pre : List (ItJ n c img)) : List UInt8 := (pre.map fun x => roomJ (secP n x.1.val img)).flatten
theorem flA_snoc (n : Nat) {c : Nat} (img : List UInt8) (pre : List (ItJ n c img)) (x : ItJ n c img) : flA n img (pre ++ [x]) = flA n img pre ++ roomJ (secP n x.1.val img) := by simp [flA]
theorem room_le {n : Nat} {b : List UInt8} (h : usedJ b ≤ n - 24) : (roomJ b).length ≤ n := by simp [roomJ]; omega
theorem flA_len (n : Nat) {c : Nat} (img : List UInt8) : ∀ pre : List (ItJ n c img), (flA n img pre).length ≤ pre.length * n
  | [] => by simp [flA]
  | x :: l => by
    have h := flA_len n img l
    have h2 := room_le x.2
    have e : flA n img (x :: l) = roomJ (secP n x.1.val img) ++ flA n img l := by simp [flA]
    rw [e, List.length_append, List.length_cons, Nat.succ_mul]
    omega
theorem rooms_fl (n gen c : Nat) (img : List UInt8) : (fl c (roomsJ n gen img c 0).length).map (fun x => roomJ (secP n x.val img)) = roomsJ n gen img c 0 := by
  have hm := roomsJ_len n gen img c 0
  apply List.ext_getElem?
  intro i
  rw [List.getElem?_map]
  by_cases h : i < (roomsJ n gen img c 0).length
  · rw [fl_at h (by omega)]
    have hr := roomsJ_at n gen img c 0 i _ (List.getElem?_eq_getElem h)
    rw [Nat.zero_add] at hr
    rw [List.getElem?_eq_getElem h, ← (rtJ_le hr).2]
    rfl
  · rw [List.getElem?_eq_none (by omega : (roomsJ n gen img c 0).length ≤ i)]
    have : (fl c (roomsJ n gen img c 0).length).length ≤ i := by
      unfold fl
      rw [List.length_take]
      omega
    rw [List.getElem?_eq_none this]
    rfl
theorem infoB : (Tryd.prog.info? 5).map (fun i => (i.zero, i.size, i.bytes)) = some (some (.int .u8 0), 1, 1) := by kernel_rfl
set_option maxHeartbeats 400000 in
set_option maxRecDepth 100000 in
theorem scan_may (n c b off L cap gen : Nat) (img : List UInt8) (w : World) (T : Tab w) (hm : MayJ n L) (hL : L = n * c) (hb : Bt w (.slice (some ⟨b, off, none⟩) L cap) img) (h1 : 512 ≤ n) (h2 : n ≤ 4096) (hc1 : 1 ≤ c) (hc : c ≤ 4096) (hcb : cap ≤ 9223372036854775807) (hg : gen < 18446744073709551616) :
    Calls Tryd.prog 20 #[.int .i64 n, .int .u64 gen, .slice (some ⟨b, off, none⟩) L cap] w fun e w' => (∃ v, e = .returned (.tuple #[v, .int .i64 0]) ∧ w'.ownsRow w.heap.size 9 1 v (scanJ n gen img c).length (TJ (scanJ n gen img c))) ∧ Same w w' := by
  obtain ⟨i0, hi, hz0, hz1, hz2⟩ := info_parts infoB
  have hLb : L ≤ 16777216 := by rw [hL]; exact Nat.mul_le_mul h2 hc
  have hll := hb.len
  have HM := hidden (fun W => (callsIn_wide (n := 8)).2 (mayScan_any n (some ⟨b, off, none⟩) L cap (by omega) W))
  have HF := hidden (fun W => (callsIn_wide (n := 8)).2 (right_fn n gen (some ⟨b, off, none⟩) L cap W))
  have HRo := hidden (fun (s : List UInt8) (hs : s.length ≤ 16777216) W => (callsIn_wide (n := 8)).2 (recordsOf_any s hs W))
  have G0 := hidden (blk_new w (.cells #[.slice none 0 0] 39))
  have K0 := hidden (same_alloc w (.cells #[.slice none 0 0] 39))
  have HT := hidden T
  have HB := hidden hb
  rw [decide_eq_true hm] at HM
  have HL := hidden hL
  have HLb := hidden hLb
  have Hll := hidden hll
  clear T hb hm hL hLb hll
  refine (callsIn_wide (n := 9)).1 ?_
  refine callsIn_of_wp_marks Tryd.func20 rfl trivial ?_ rfl
  simp only [Tryd.ntmps20, List.size_toArray, List.length_cons, List.length_nil, Nat.reduceAdd, Nat.reduceSub, Array.replicate_succ, Array.replicate_zero, List.push_toArray, List.append_toArray, List.nil_append, List.cons_append]
  gi_wp2_with (first
    | (refine ⟨trivial, ?_⟩; gi_at_call 41; refine (HM.out _).mono ?_; rintro e w1 ⟨rfl, rfl⟩)
    | (refine ⟨trivial, ?_⟩; gi_at_call 42; refine (HF.out _).mono ?_; rintro e w2 ⟨B, rfl, hB0, hB1, hB2, hB3, q2⟩; have K2 := hidden (K0.out.trans q2); have G1 := hidden hB1; have G2 := hidden hB2; have G3 := hidden hB3; have P2 := hidden (blk_kept q2 (fun h => h) G0.out); clear q2 hB1 hB2 hB3))
  have hB0' : w.heap.size + 1 ≤ B := by simpa using hB0
  have hsz := K2.out.size
  have hP2 := blk_lt P2.out
  have hB2 := blk_lt G3.out
  have hbw : b < w.heap.size := by
    obtain ⟨b', o', e', hx⟩ := HB.out.cell (by rw [← Hll.out.1, HL.out]; exact Nat.mul_pos (by omega) hc1)
    cases e'
    obtain ⟨cs, t, fz, ho⟩ := cell_cells (hx 0 (by rw [← Hll.out.1, HL.out]; exact Nat.mul_pos (by omega) hc1))
    exact blk_lt ho
  have hgw : 0 < w.heap.size := by
    obtain ⟨cs, t, fz, ho⟩ := cell_cells (HT.out 0 (by decide))
    exact blk_lt ho
  have HRt : Hid (∀ W1, Same w2 W1 → RtW W1 B b off L cap n gen img) := hidden (fun W1 kk => ⟨HT.out.kept (K2.out.trans kk) (fun h => h), HB.out.same (K2.out.trans kk), blk_kept kk (fun h => h) G1.out, blk_kept kk (fun h => h) G2.out, blk_kept kk (fun h => h) G3.out⟩)
  have HLc := hidden (show L ≤ cap by have := Hll.out; omega)
  obtain ⟨E, hE⟩ : ∃ E : Nat → TypeId → Prop, E = fun k t => k = w.heap.size ∨ (w.heap.size ≤ k ∧ t = 5) := ⟨_, rfl⟩
  have HEn : Hid (∀ k t, t ≠ 5 → k ≠ w.heap.size → ¬ E k t) := hidden (fun k t h1 h2 h => by rw [hE] at h; rcases h with h | h; exact h2 h; exact h1 h.2)
  have HEo : Hid (∀ k t, k < w.heap.size → ¬ E k t) := hidden (fun k t h1 h => by rw [hE] at h; rcases h with h | h <;> omega)
  have HEp : Hid (∀ t, E w.heap.size t) := hidden (fun t => by rw [hE]; exact .inl rfl)
  have HEr : Hid (∀ k, w.heap.size ≤ k → E k 5) := hidden (fun k h => by rw [hE]; exact .inr ⟨h, rfl⟩)
  clear hB0 hE
  refine range_ownI (ti := 3) rfl (by decide) (gf := 52) (lb := #[.pointer (some ⟨B + 2, 0, none⟩), .pointer (some ⟨B, 0, none⟩), .pointer (some ⟨B + 1, 0, none⟩)]) rfl trivial (enters_of Tryd.func52 (by kernel_rfl) rfl) (T := E)
    (fun W1 kk hs => right_at E (w2.heap.size + 2) W1 B b off L cap n gen c img h1 h2 HL.out hc hc1 HLc.out hcb hg (by omega) (by omega) (fun V kV => (HRt.out W1 kk).ke kV (fun t => HEo.out _ _ hgw) (fun t => HEo.out _ _ hbw) (HEn.out _ _ (by decide) (by omega)) (HEn.out _ _ (by decide) (by omega)) (HEn.out _ _ (by decide) (by omega))) (fun k hk => ⟨HEn.out _ _ (by decide) (by omega), HEn.out _ _ (by decide) (by omega), HEn.out _ _ (by decide) (by omega)⟩)) (fun _ => rfl)
    (fun pre V => Same w V ∧ ∃ sv, V.heap[w.heap.size]? = some (.cells #[sv] 39 (0, 0)) ∧ V.ownsRow (w.heap.size + 1) 5 1 sv (flA n img pre).length ((flA n img pre).map U8))
    (fun _ _ _ => False)
    (fun s A C row hs hg' hr => by
      obtain ⟨hS, sv, hP, hO⟩ := hs
      refine ⟨hS.grown hg' (fun k e hk => by have := (hr k e).1; omega), sv, (hg'.block _ (blk_lt hP) (fun e => by have := (hr _ e.symm).1; omega)).trans hP, own_grown hO hg' (fun r e => ?_)⟩
      obtain ⟨_, o, ho, ht⟩ := hr r e
      refine ⟨o, ho, fun cs fz e2 => ?_⟩
      subst e2
      rcases ht with ht | ⟨cs', fz', ht⟩
      · cases ht
      · cases ht)
    (fun _ _ _ _ _ hs _ _ => hs)
    ⟨K2.out, _, P2.out, World.ownsRow_nil _ _ _ _⟩
    (fun x a' V => a' = { tmps := #[.int .i64 n, .int .u64 gen, .slice (some ⟨b, off, none⟩) L cap, undef, undef, undef, .slice none 0 0, .int .i64 0, .pointer (some ⟨w.heap.size, 0, none⟩), .slice (some ⟨b, off + x.1.val * n + 24, none⟩) (usedJ (secP n x.1.val img)) (n - 24), .int .i64 n, .slice (some ⟨b, off, none⟩) L cap, .bool true, .bool false, .int .i64 n, .int .u64 gen, .slice (some ⟨b, off, none⟩) L cap, .func (.func 52) #[] #[.pointer (some ⟨B + 2, 0, none⟩), .pointer (some ⟨B, 0, none⟩), .pointer (some ⟨B + 1, 0, none⟩)], .slice (some ⟨b, off + x.1.val * n + 24, none⟩) (usedJ (secP n x.1.val img)) (n - 24), undef, undef, undef, undef, undef, undef], defers := [] })
    (fun x a' _ A C row hs hg' hr => hs) ?assign ?body ?done ?stop
  case assign =>
    intro l pre x W K hI hK
    dsimp only [encU]
    gi_wp2
    exact hK _ _ (KX.refl _ _ _) hI rfl
  case body =>
    intro l pre x a' V hI hA hlt
    subst hA
    obtain ⟨hS, sv, hP, hO⟩ := hI
    have y1 : V.cell? ⟨w.heap.size, 0, none⟩ = some sv := blk_cell hP
    have hll2 := flA_len n img pre
    have hrl : (roomJ (secP n x.1.val img)).length = usedJ (secP n x.1.val img) := by
      refine roomJ_len (n := n) ?_ x.2 (by omega)
      exact (bt_chunk HB.out HL.out x.1.isLt).len.1.symm
    have hbt : Bt V (.slice (some ⟨b, off + x.1.val * n + 24, none⟩) (usedJ (secP n x.1.val img)) (n - 24)) (roomJ (secP n x.1.val img)) := by
      have h9 := x.2
      have h := ((bt_chunk (HB.out.same hS) HL.out x.1.isLt).subA (i := 24) (j := 24 + usedJ (secP n x.1.val img)) (by omega) (by omega) (by omega) _ _ rfl rfl).2 V (Kept.refl _ _)
      rw [show 24 + usedJ (secP n x.1.val img) - 24 = usedJ (secP n x.1.val img) by omega] at h
      exact h
    have hsn := flA_snoc n img pre x
    have hus := x.2
    obtain ⟨xo, hxo⟩ : ∃ xo, xo = off + x.1.val * n + 24 := ⟨_, rfl⟩
    obtain ⟨u, hu⟩ : ∃ u, u = usedJ (secP n x.1.val img) := ⟨_, rfl⟩
    obtain ⟨r, hr⟩ : ∃ r, r = roomJ (secP n x.1.val img) := ⟨_, rfl⟩
    rw [← hu, ← hxo, ← hr] at hbt
    rw [← hu] at hus hrl ⊢
    rw [← hr] at hsn hrl
    rw [← hxo]
    obtain ⟨fa, hfa⟩ : ∃ fa, fa = flA n img pre := ⟨_, rfl⟩
    rw [← hfa] at hO hsn hll2
    have hfb : fa.length ≤ 16777216 := Nat.le_trans hll2 (Nat.mul_le_mul (show pre.length ≤ 4096 by omega) h2)
    have HC : Hid (∀ j u', (r.map U8)[j]? = some u' → V.cell? ((⟨b, xo, none⟩ : Addr).add j) = some u') := hidden (fun j u' hj => by
      rw [List.getElem?_map, Option.map_eq_some_iff] at hj
      obtain ⟨y, hy, rfl⟩ := hj
      obtain ⟨hj, rfl⟩ := List.getElem?_eq_some_iff.1 hy
      obtain ⟨b', o', e', hc'⟩ := hbt.cell (by omega)
      cases e'
      rw [add_none]
      exact hc' j hj)
    have HS := hidden hS
    have HP := hidden hP
    have HO := hidden hO
    have HSn := hidden hsn
    have HRl := hidden hrl
    have HSz := hidden hS.size
    clear hS hP hO hsn hbt hxo hu hr hfa hll2 hrl
    gi_wp2_with (gi_at_builtin; refine wpListIn_append_own _ rfl _ _ 39 rfl (w.heap.size + 1) 5 i0 (.int .u8 0) 1 1 Tryd.underlying39 hi hz0 hz1 hz2 rfl (by decide) sv fa.length (fa.map U8) rfl HO.out ⟨b, xo, none⟩ u (n - 24) (r.map U8) rfl (by rw [List.length_map, HRl.out, Nat.mul_one]) HC.out (fun q hq => by obtain ⟨y, _, rfl⟩ := List.mem_map.1 hq; rfl) (by unfold maxLen; omega) (by omega) (blk_lt HP.out) ?_; intro v' V1 hown' hgrow _; obtain ⟨va, vc, rfl⟩ := own_form hown'; have HO1 := hidden hown'; have HG1 := hidden hgrow; have P1 : V1.heap[w.heap.size]? = some (.cells #[sv] 39 (0, 0)) := (hgrow.block _ (blk_lt HP.out) (fun e => by have := (own_blk HO.out e.symm).1; omega)).trans HP.out; have f1 : V1.frozen? ⟨w.heap.size, 0, none⟩ = false := blk_free P1; have z1 : V1.cell? ⟨w.heap.size, 0, none⟩ = some sv := blk_cell P1; have HP1 := hidden P1; clear hown' hgrow P1)
    have S1 : Same w V1 := HS.out.grown HG1.out (fun k e hk => by have := (own_blk HO.out e).1; omega)
    refine ⟨(KX.row HG1.out (fun q e => by obtain ⟨h8, cs, h9⟩ := own_blk HO.out e; exact ⟨cs, _, _, h9, HEr.out q (by omega)⟩)).trans ((KX.refl _ _ _).set HEp.out hP2 _), S1.grown (grown_set V1 w.heap.size 0 _) (fun k e hk => by cases e; omega), _, blk_set (j := 0) HP1.out _, ?_⟩
    rw [HSn.out, List.map_append, List.length_append, HRl.out]
    exact own_grown HO1.out (grown_set V1 w.heap.size 0 _) (fun q e => by cases e; exact ⟨_, HP1.out, fun cs fz e2 => by cases e2⟩)
  case done =>
    rintro D ys V hD hS hI hK
    obtain ⟨hS1, sv, hP, hO⟩ := hI
    have hfl : flA n img ys = (roomsJ n gen img c 0).flatten := by
      have h9 : (ys.map fun x => roomJ (secP n x.1.val img)) = (ys.map (·.1)).map (fun x => roomJ (secP n x.val img)) := by rw [List.map_map]; rfl
      unfold flA
      rw [h9, hS, rooms_fl]
    have hfb := flA_len n img ys
    have hyl : ys.length ≤ c := by
      have h9 := congrArg List.length hS
      rw [List.length_map] at h9
      rw [h9]
      unfold fl
      rw [List.length_take, List.length_finRange]
      omega
    rw [hfl] at hO hfb
    have hsb : (roomsJ n gen img c 0).flatten.length ≤ 16777216 := Nat.le_trans hfb (Nat.mul_le_mul (show ys.length ≤ 4096 by omega) h2)
    have HRr := hidden (HRo.out _ hsb)
    obtain ⟨S0, hS0⟩ : ∃ S0, S0 = (roomsJ n gen img c 0).flatten := ⟨_, rfl⟩
    rw [← hS0] at hO HRr
    have y1 : V.cell? ⟨w.heap.size, 0, none⟩ = some sv := blk_cell hP
    have hsf : ∃ ao cp, sv = .slice ao S0.length cp := by
      rcases hO.2 with ⟨rfl, h⟩ | ⟨g, cp, cur, rfl, _⟩
      · exact ⟨none, 0, by rw [h]⟩
      · exact ⟨_, _, rfl⟩
    obtain ⟨ao, cp, rfl⟩ := hsf
    have ht := (Bt.own hO).text
    have HS1 := hidden hS1
    have HK := hidden hK
    have HScJ := hidden (show scanJ n gen img c = recs S0 by rw [hS0]; rfl)
    clear hS hfl hfb hsb hP hO hS1 hS0
    gi_wp2_with (refine ⟨trivial, ?_⟩; gi_at_call 43; refine (HRr.out _).mono ?_; rintro e w5 ⟨⟨v, rfl, ho⟩, q5⟩; have HO5 := hidden ho; have K5 := hidden q5; clear ho q5)
    have hk5 : w5.heap[D]? = some (.deferred (some [])) := (K5.out.block D (blk_lt HK.out) (fun h => h)).trans HK.out
    have hS5 : Same w (w5.putObj D (.deferred none)) := (HS1.out.trans K5.out).grown (grownBy_putObj' w5 D _) (fun k e hk => by cases e; omega)
    have hO5 : (w5.putObj D (.deferred none)).ownsRow w.heap.size 9 1 v (scanJ n gen img c).length (TJ (scanJ n gen img c)) := by
      rw [HScJ.out]
      exact own_grown (own_mono HO5.out HS1.out.size) (grownBy_putObj' w5 D _) (fun r e => by cases e; exact ⟨_, hk5, fun cs fz e2 => by cases e2⟩)
    refine ⟨by simp, .inl ⟨_, _, rfl, run_takeDeferred hk5, ?_⟩⟩
    refine ⟨.tuple #[v, .int .i64 0], ?_, ⟨v, rfl, hO5⟩, hS5⟩
    simp [results, Tryd.f20, go_sem]
  case stop =>
    rintro D c pre V _ _ h _
    exact h.elim
end Go.Proofs.YtljbmpnpbjnbkaaDoor
namespace Go.Proofs.YtljbmpnpbjnbkaaDoor
open Go.RowKit
set_option linter.unusedVariables false
set_option linter.unusedSimpArgs false
set_option maxHeartbeats 1000000 in
set_option maxRecDepth 100000 in
theorem sameB_any (x y : Value) (a b : List UInt8) (w : World) (hx : Bt w x a) (hy : Bt w y b) (ha : a.length ≤ 140737488355328) (hb : b.length ≤ 140737488355328) : Calls Tryd.prog 25 #[x, y] w fun e w' => e = .returned (.bool (decide (a = b))) ∧ Same w w' := by
  by_cases hl : a.length = b.length
  · obtain ⟨a1, c1, rfl, _⟩ := hx.form
    obtain ⟨a2, c2, rfl, _⟩ := hy.form
    have HX := hidden hx
    have HY := hidden hy
    obtain ⟨R, hR⟩ : ∃ R, decide (a = b) = R := ⟨_, rfl⟩
    rw [hR, show b.length = a.length from hl.symm]
    have HL := hidden hl
    rw [show b.length = a.length from hl.symm] at hb
    have HR := hidden hR
    clear hx hy hR hl
    go_enter Tryd.func25, Tryd.ntmps25
    go_wp2
    go_loopw [5] (fun i wr => ∃ k : Nat, k ≤ a.length ∧ i = .int .i64 k ∧ a.take k = b.take k ∧ Same w wr) (fun i wr => a.length - (intOf i).toNat)
    case atStart => exact ⟨0, Nat.zero_le _, rfl, rfl, Kept.refl _ _⟩
    case round =>
      obtain ⟨k, hk, rfl, htk, hK⟩ := hrel
      by_cases h1 : k < a.length
      · obtain ⟨b1, o1, rfl, hc1⟩ := HX.out.cell (by omega)
        obtain ⟨b2, o2, rfl, hc2⟩ := HY.out.cell (by have := HL.out; omega)
        have q0 : (0 : Int) ≤ (k : Int) := Int.natCast_nonneg _
        have q1 : (k : Int) < (a.length : Int) := by omega
        have hkb : k < b.length := by have := HL.out; omega
        have x1 := Kept.cell hK (fun h => h) (hc1 k h1)
        have x2 := Kept.cell hK (fun h => h) (hc2 k hkb)
        unfold U8 at x1 x2
        have HK := hidden hK
        have HT := hidden htk
        by_cases hz : a[k] = b[k]
        · have htn : a.take (k + 1) = b.take (k + 1) := by rw [List.take_add_one, List.take_add_one, htk, List.getElem?_eq_getElem h1, List.getElem?_eq_getElem hkb, hz]
          have HTN := hidden htn
          rw [hz] at x1
          generalize ((b[k]).toNat : Int) = z at x1 x2
          clear hK hc1 hc2 htn htk hz
          go_wp2
          go_quiet (fail)
          go_wp2
          go_roundw
          case rel => exact ⟨k + 1, by omega, by go_num, HTN.out, HK.out.drewN _⟩
          case measure => simp [intOf]; omega
        · have hd : decide (a = b) = false := by simpa using fun e : a = b => hz (by subst e; rfl)
          have hzi : ((a[k]).toNat : Int) ≠ ((b[k]).toNat : Int) := fun e => hz (UInt8.toNat_inj.1 (by omega))
          have hzb : (((a[k]).toNat : Int) == ((b[k]).toNat : Int)) = false := by simpa using hzi
          obtain rfl : R = false := HR.out.symm.trans hd
          generalize ((a[k]).toNat : Int) = z1 at x1 hzi hzb
          generalize ((b[k]).toNat : Int) = z2 at x2 hzi hzb
          clear hK hc1 hc2 htk hz hd
          go_wp2
          go_quiet (fail)
          go_wp2
          go_returns
          exact ⟨rfl, HK.out.drewN _⟩
      · have q1 : ¬ (k : Int) < (a.length : Int) := by omega
        have he : a = b := by rw [List.take_of_length_le (by omega), List.take_of_length_le (by have := HL.out; omega)] at htk; exact htk
        obtain rfl : R = true := HR.out.symm.trans (by simpa using he)
        clear he htk
        go_wp2
        go_returns
        exact ⟨rfl, hK⟩
  · obtain ⟨a1, c1, rfl, _⟩ := hx.form
    obtain ⟨a2, c2, rfl, _⟩ := hy.form
    have hd : decide (a = b) = false := by simpa using fun e : a = b => hl (by rw [e])
    have hi : (a.length : Int) ≠ (b.length : Int) := by omega
    have hib : ((a.length : Int) == (b.length : Int)) = false := by simpa using hi
    rw [hd]
    clear hx hy
    go_enter Tryd.func25, Tryd.ntmps25
    go_wp2
    go_returns
    exact ⟨rfl, Kept.refl _ _⟩

/-- Texts in memory. -/
def RowS (w : World) (v : Value) (l : List (List UInt8)) : Prop := ∃ ao cap, v = .slice ao l.length cap ∧ ∀ i (hi : i < l.length), ∃ g, ao = some ⟨g, 0, none⟩ ∧ w.cell? ⟨g, i, none⟩ = some (.string ⟨l[i].toArray⟩)
theorem RowS.same {w w' : World} {v : Value} {l : List (List UInt8)} (h : RowS w v l) (k : Same w w') : RowS w' v l := by
  obtain ⟨ao, cap, e, hc⟩ := h
  exact ⟨ao, cap, e, fun i hi => by obtain ⟨g, e1, h1⟩ := hc i hi; exact ⟨g, e1, k.cell (fun h => h) h1⟩⟩
theorem RowS.own {w : World} {B : Nat} {v : Value} {l : List (List UInt8)} (h : w.ownsRow B 9 1 v l.length (TJ l)) : RowS w v l := by
  rcases h.2 with ⟨rfl, h0⟩ | ⟨g, cap, cur, rfl, h1, h2, h3, h4, h5, h6⟩
  · exact ⟨none, 0, by rw [h0], fun i hi => absurd hi (by omega)⟩
  · refine ⟨_, cap, rfl, fun i hi => ⟨g, rfl, ?_⟩⟩
    rw [blk_cell h2]
    have : (cur.toList.take (l.length * 1))[i]? = (TJ l)[i]? := by rw [h6]
    rw [List.getElem?_take, if_pos (by omega)] at this
    rw [← Array.getElem?_toList, this]
    simp [TJ, hi]
set_option maxHeartbeats 2000000 in
set_option maxRecDepth 100000 in
theorem sameT_eq (l : List (List UInt8)) (x y : Value) (w : World) (r : RowS w x l) (s : RowS w y l) (hb : l.length ≤ 17592186044416) :
    Calls Tryd.prog 24 #[x, y] w fun e w' => e = .returned (.bool true) ∧ Same w w' := by
  obtain ⟨a, c, rfl, hr⟩ := r
  obtain ⟨b, c', rfl, hs⟩ := s
  have R := hidden hr
  have S := hidden hs
  obtain ⟨k', hk⟩ : ∃ k', k' = l.length := ⟨_, rfl⟩
  have E1 := hidden hk
  rw [← hk] at hb ⊢
  clear hr hs hk
  go_enter Tryd.func24, Tryd.ntmps24
  go_wp2
  go_loopw [5] (fun i wr => ∃ i' : Nat, i = .int .i64 i' ∧ i' ≤ k' ∧ Same w wr) (fun i _ => k' - (intOf i).toNat)
  case atStart => exact ⟨0, rfl, Nat.zero_le _, Kept.refl _ _⟩
  case round =>
    obtain ⟨i, rfl, hi, hsm⟩ := hrel
    have HSM := hidden hsm
    clear hsm
    by_cases h1 : i < k'
    · have hil : i < l.length := by rw [← E1.out]; exact h1
      obtain ⟨g, rfl, hc0⟩ := R.out i hil
      obtain ⟨g', rfl, hc0'⟩ := S.out i hil
      have hc := HSM.out.cell (fun h => h) hc0
      have hc' := HSM.out.cell (fun h => h) hc0'
      clear hc0 hc0'
      obtain ⟨x, hx⟩ : ∃ x : ByteArray, (⟨l[i].toArray⟩ : ByteArray) = x := ⟨_, rfl⟩
      rw [hx] at hc hc'
      have q0 : (0 : Int) ≤ (i : Int) := Int.natCast_nonneg _
      have q1 : (i : Int) < (k' : Int) := by omega
      have q2 : (x.toList == x.toList) = true := by simp
      clear hx
      go_wp2
      go_quiet (fail)
      go_wp2
      go_roundw
      case rel => exact ⟨i + 1, by go_num, by omega, HSM.out.trans ((Kept.refl _ _).drewN _)⟩
      case measure => simp [intOf]; omega
    · obtain rfl : i = k' := by omega
      have q1 : ¬ (i : Int) < (i : Int) := by omega
      go_wp2
      go_returns
      exact ⟨rfl, HSM.out⟩
/-- What both Sectors tell of bytes; what both Scans do. -/
def secOf (z : Int) (gen L : Nat) (img : List UInt8) : Int := if MayJ z L then ((roomsJ z.toNat gen img (L / z.toNat) 0).length : Nat) else 0
def errJ (z : Int) (L : Nat) : Int := if MayJ z L then 0 else 1
def rowsOf (z : Int) (gen L : Nat) (img : List UInt8) : List (List UInt8) := if MayJ z L then scanJ z.toNat gen img (L / z.toNat) else []
theorem MayJ.all {z : Int} {L : Nat} (h : MayJ z L) : ∃ n c : Nat, z = n ∧ L / n = c ∧ MayJ (n : Int) L ∧ 512 ≤ n ∧ n ≤ 4096 ∧ L = n * c ∧ 1 ≤ c ∧ c ≤ 4096 := by
  have h1 : 512 ≤ z := h.1.1
  obtain ⟨n, rfl⟩ : ∃ n : Nat, z = n := ⟨z.toNat, by omega⟩
  obtain ⟨a, b, c, e, f, g⟩ := h.form
  exact ⟨n, c, rfl, by rw [e, Nat.mul_div_cancel_left _ (by omega)], h, a, b, e, f, g⟩
set_option maxHeartbeats 1000000 in
set_option maxRecDepth 100000 in
theorem sectors_no (z : Int) (gen : Nat) (ao : Option Addr) (L cap : Nat) (hL : L ≤ 281474976710656) (w : World) (hM : ¬ MayJ z L) :
    Calls Tryd.prog 22 #[.int .i64 z, .int .u64 gen, .slice ao L cap] w fun e w' => e = .returned (.tuple #[.int .i64 0, .int .i64 1]) ∧ Same w w' := by
  have HF := hidden (fun W => mayScan_any z ao L cap hL W)
  rw [decide_eq_false hM] at HF
  clear hM
  go_enter Tryd.func22, Tryd.ntmps22
  go_wp2_with (go_at_call 41; refine (HF.out _).mono ?_; rintro e w1 ⟨rfl, rfl⟩)
  go_returns
  exact ⟨rfl, by first | exact Kept.refl _ _ | exact same_alloc _ _⟩
set_option maxHeartbeats 1000000 in
set_option maxRecDepth 100000 in
theorem scan_no (z : Int) (gen : Nat) (ao : Option Addr) (L cap : Nat) (hL : L ≤ 281474976710656) (w : World) (hM : ¬ MayJ z L) :
    Calls Tryd.prog 20 #[.int .i64 z, .int .u64 gen, .slice ao L cap] w fun e w' => e = .returned (.tuple #[.slice none 0 0, .int .i64 1]) ∧ Same w w' := by
  have HF := hidden (fun W => mayScan_any z ao L cap hL W)
  rw [decide_eq_false hM] at HF
  clear hM
  go_enter Tryd.func20, Tryd.ntmps20
  go_wp2_with (go_at_call 41; refine (HF.out _).mono ?_; rintro e w1 ⟨rfl, rfl⟩)
  go_returns
  exact ⟨rfl, by first | exact Kept.refl _ _ | exact same_alloc _ _⟩
set_option maxHeartbeats 1000000 in
set_option maxRecDepth 100000 in
theorem scanD_no (z : Int) (gen : Nat) (ao : Option Addr) (L cap : Nat) (hL : L ≤ 281474976710656) (w : World) (hM : ¬ MayJ z L) :
    Calls Tryd.prog 21 #[.int .i64 z, .int .u64 gen, .slice ao L cap] w fun e w' => e = .returned (.tuple #[.slice none 0 0, .int .i64 1]) ∧ Same w w' := by
  have HF := hidden (fun W => sectorsD_no z gen ao L cap hL W hM)
  clear hM
  go_enter Tryd.func21, Tryd.ntmps21
  go_wp2_with (go_at_call 23; refine (HF.out _).mono ?_; rintro e w1 ⟨rfl, rfl⟩)
  go_returns
  exact ⟨rfl, by first | exact Kept.refl _ _ | exact same_alloc _ _⟩
theorem Bt.addr {w : World} {ao : Option Addr} {n cap : Nat} {l : List UInt8} (h : Bt w (.slice ao n cap) l) (h0 : 0 < n) : ∃ b off, ao = some ⟨b, off, none⟩ := by
  obtain ⟨b, off, e, _⟩ := h.cell (by rw [← h.len.1]; exact h0)
  exact ⟨b, off, e⟩
theorem sectorsP_all (z : Int) (gen : Nat) (ao : Option Addr) (L cap : Nat) (img : List UInt8) (hL : L ≤ 281474976710656) (hcb : cap ≤ 9223372036854775807) (hg : gen < 18446744073709551616) (w : World) (T : Tab w) (hb : Bt w (.slice ao L cap) img) :
    Calls Tryd.prog 22 #[.int .i64 z, .int .u64 gen, .slice ao L cap] w fun e w' => e = .returned (.tuple #[.int .i64 (secOf z gen L img), .int .i64 (errJ z L)]) ∧ Same w w' := by
  unfold secOf errJ
  by_cases h : MayJ z L
  · obtain ⟨n, c, rfl, hq, hm, h1, h2, h3, h4, h5⟩ := h.all
    obtain ⟨b, off, rfl⟩ := hb.addr (by rw [h3]; exact Nat.mul_pos (by omega) h4)
    rw [if_pos h, if_pos h, Int.toNat_natCast, hq]
    exact sectors_may n c b off L cap gen img w T hm h3 hb h1 h2 h4 h5 hcb hg
  · rw [if_neg h, if_neg h]
    exact sectors_no z gen ao L cap hL w h
theorem sectorsD_all (z : Int) (gen : Nat) (ao : Option Addr) (L cap : Nat) (img : List UInt8) (hL : L ≤ 281474976710656) (hg : gen < 18446744073709551616) (w : World) (hb : Bt w (.slice ao L cap) img) :
    Calls Tryd.prog 23 #[.int .i64 z, .int .u64 gen, .slice ao L cap] w fun e w' => e = .returned (.tuple #[.int .i64 (secOf z gen L img), .int .i64 (errJ z L)]) ∧ Same w w' := by
  unfold secOf errJ
  by_cases h : MayJ z L
  · obtain ⟨n, c, rfl, hq, hm, h1, h2, h3, h4, h5⟩ := h.all
    obtain ⟨b, off, rfl⟩ := hb.addr (by rw [h3]; exact Nat.mul_pos (by omega) h4)
    rw [if_pos h, if_pos h, Int.toNat_natCast, hq]
    exact sectorsD_any n gen c L _ cap img w hb hm h3 h1 h2 h5 hg
  · rw [if_neg h, if_neg h]
    exact (sectorsD_no z gen ao L cap hL w h).mono fun e w' ⟨h1, h2⟩ => ⟨h1, h2 ▸ Kept.refl _ _⟩
theorem scanP_all (z : Int) (gen : Nat) (ao : Option Addr) (L cap : Nat) (img : List UInt8) (hL : L ≤ 281474976710656) (hcb : cap ≤ 9223372036854775807) (hg : gen < 18446744073709551616) (w : World) (T : Tab w) (hb : Bt w (.slice ao L cap) img) :
    Calls Tryd.prog 20 #[.int .i64 z, .int .u64 gen, .slice ao L cap] w fun e w' => (∃ v, e = .returned (.tuple #[v, .int .i64 (errJ z L)]) ∧ RowS w' v (rowsOf z gen L img)) ∧ Same w w' := by
  unfold rowsOf errJ
  by_cases h : MayJ z L
  · obtain ⟨n, c, rfl, hq, hm, h1, h2, h3, h4, h5⟩ := h.all
    obtain ⟨b, off, rfl⟩ := hb.addr (by rw [h3]; exact Nat.mul_pos (by omega) h4)
    rw [if_pos h, if_pos h, Int.toNat_natCast, hq]
    exact (scan_may n c b off L cap gen img w T hm h3 hb h1 h2 h4 h5 hcb hg).mono fun e w' ⟨⟨v, e1, e2⟩, e3⟩ => ⟨⟨v, e1, RowS.own e2⟩, e3⟩
  · rw [if_neg h, if_neg h]
    exact (scan_no z gen ao L cap hL w h).mono fun e w' ⟨h1, h2⟩ => ⟨⟨_, h1, none, 0, rfl, fun i hi => absurd hi (by simp)⟩, h2⟩
theorem scanD_all (z : Int) (gen : Nat) (ao : Option Addr) (L cap : Nat) (img : List UInt8) (hL : L ≤ 281474976710656) (hg : gen < 18446744073709551616) (w : World) (hb : Bt w (.slice ao L cap) img) :
    Calls Tryd.prog 21 #[.int .i64 z, .int .u64 gen, .slice ao L cap] w fun e w' => (∃ v, e = .returned (.tuple #[v, .int .i64 (errJ z L)]) ∧ RowS w' v (rowsOf z gen L img)) ∧ Same w w' := by
  unfold rowsOf errJ
  by_cases h : MayJ z L
  · obtain ⟨n, c, rfl, hq, hm, h1, h2, h3, h4, h5⟩ := h.all
    obtain ⟨b, off, rfl⟩ := hb.addr (by rw [h3]; exact Nat.mul_pos (by omega) h4)
    rw [if_pos h, if_pos h, Int.toNat_natCast, hq]
    exact (scanD_any n gen c L _ cap img w hb hm h3 h1 h2 h5 hg).mono fun e w' ⟨⟨v, e1, e2⟩, e3⟩ => ⟨⟨v, e1, RowS.own e2⟩, e3⟩
  · rw [if_neg h, if_neg h]
    exact (scanD_no z gen ao L cap hL w h).mono fun e w' ⟨h1, h2⟩ => ⟨⟨_, h1, none, 0, rfl, fun i hi => absurd hi (by simp)⟩, h2⟩
end Go.Proofs.YtljbmpnpbjnbkaaDoor
