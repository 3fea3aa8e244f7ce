/- journal's Scan: the records found. -/
import Derived.Test.YtljbmpnpbjnbkaaDoorJ10
namespace Go.Proofs.YtljbmpnpbjnbkaaDoor
open Go.RowKit Go.Shelf
set_option linter.unusedVariables false
set_option linter.unusedSimpArgs false
attribute [local go_sem] Oper.semAt_some
theorem own_blk {w : World} {B n s r : Nat} {e : TypeId} {v : Value} {xs : List Value} (h : w.ownsRow B e s v n xs) (hr : v.ownBlock = some r) : B ≤ r ∧ ∃ cs, w.heap[r]? = some (.cells cs e (0, 0)) := by
  rcases h.2 with ⟨rfl, _⟩ | ⟨g, cap, cur, rfl, h1, h2, _⟩
  · cases hr
  · cases hr
    exact ⟨h1, cur, h2⟩
theorem own_grown {w w' : World} {B n s : Nat} {e : TypeId} {v : Value} {xs : List Value} {row : Option Nat} (h : w.ownsRow B e s v n xs) (hg : w.grownBy w' row) (hr : ∀ r, row = some r → ∃ o : Obj, w.heap[r]? = some o ∧ ∀ cs fz, o ≠ .cells cs e fz) : w'.ownsRow B e s v n xs := by
  refine ⟨h.1, h.2.elim .inl fun ⟨g, cap, cur, h1, h2, h3, h4⟩ => .inr ⟨g, cap, cur, h1, h2, ?_, h4⟩⟩
  refine (hg.block g (blk_lt h3) fun e' => ?_).trans h3
  obtain ⟨o, ho, hn⟩ := hr g e'.symm
  rw [h3] at ho
  exact hn _ _ (Option.some.inj ho).symm
theorem KX.row {T : Nat → TypeId → Prop} {X : Nat} {a c : World} {row : Option Nat} (hg : a.grownBy c row) (hr : ∀ r, row = some r → ∃ cs t fz, a.heap[r]? = some (.cells cs t fz) ∧ T r t) : KX T X a c :=
  ⟨hg.size, fun k cs t fz hk hn => (hg.block k (blk_lt hk) fun e => by
    obtain ⟨cs', t', fz', h1, h2⟩ := hr k e.symm
    rw [hk] at h1
    cases h1
    exact hn h2).trans hk, fun k o hx hk ho => (hg.block k (blk_lt hk) fun e => by
    obtain ⟨cs', t', fz', h1, h2⟩ := hr k e.symm
    rw [hk] at h1
    cases h1
    cases ho).trans hk⟩
/-- The bytes of records of some chunks, one behind the other. -/
def flA (n : Nat) {c : Nat} (img : List UInt8) (pre : List (ItJ n c img)) : List UInt8 := (pre.map fun x => roomJ (secP n x.1.val img)).flatten
theorem flA_snoc (n : Nat) {c : Nat} (img : List UInt8) (pre : List (ItJ n c img)) (x : ItJ n c img) : flA n img (pre ++ [x]) = flA n img pre ++ roomJ (secP n x.1.val img) := by simp [flA]
theorem room_le {n : Nat} {b : List UInt8} (h : usedJ b ≤ n - 24) : (roomJ b).length ≤ n := by simp [roomJ]; omega
theorem flA_len (n : Nat) {c : Nat} (img : List UInt8) : ∀ pre : List (ItJ n c img), (flA n img pre).length ≤ pre.length * n
  | [] => by simp [flA]
  | x :: l => by
    have h := flA_len n img l
    have h2 := room_le x.2
    have e : flA n img (x :: l) = roomJ (secP n x.1.val img) ++ flA n img l := by simp [flA]
    rw [e, List.length_append, List.length_cons, Nat.succ_mul]
    omega
theorem rooms_fl (n gen c : Nat) (img : List UInt8) : (fl c (roomsJ n gen img c 0).length).map (fun x => roomJ (secP n x.val img)) = roomsJ n gen img c 0 := by
  have hm := roomsJ_len n gen img c 0
  apply List.ext_getElem?
  intro i
  rw [List.getElem?_map]
  by_cases h : i < (roomsJ n gen img c 0).length
  · rw [fl_at h (by omega)]
    have hr := roomsJ_at n gen img c 0 i _ (List.getElem?_eq_getElem h)
    rw [Nat.zero_add] at hr
    rw [List.getElem?_eq_getElem h, ← (rtJ_le hr).2]
    rfl
  · rw [List.getElem?_eq_none (by omega : (roomsJ n gen img c 0).length ≤ i)]
    have : (fl c (roomsJ n gen img c 0).length).length ≤ i := by
      unfold fl
      rw [List.length_take]
      omega
    rw [List.getElem?_eq_none this]
    rfl
theorem infoB : (Tryd.prog.info? 5).map (fun i => (i.zero, i.size, i.bytes)) = some (some (.int .u8 0), 1, 1) := by kernel_rfl
set_option maxHeartbeats 400000 in
set_option maxRecDepth 100000 in
theorem scan_may (n c b off L cap gen : Nat) (img : List UInt8) (w : World) (T : Tab w) (hm : MayJ n L) (hL : L = n * c) (hb : Bt w (.slice (some ⟨b, off, none⟩) L cap) img) (h1 : 512 ≤ n) (h2 : n ≤ 4096) (hc1 : 1 ≤ c) (hc : c ≤ 4096) (hcb : cap ≤ 9223372036854775807) (hg : gen < 18446744073709551616) :
    Calls Tryd.prog 20 #[.int .i64 n, .int .u64 gen, .slice (some ⟨b, off, none⟩) L cap] w fun e w' => (∃ v, e = .returned (.tuple #[v, .int .i64 0]) ∧ w'.ownsRow w.heap.size 9 1 v (scanJ n gen img c).length (TJ (scanJ n gen img c))) ∧ Same w w' := by
  obtain ⟨i0, hi, hz0, hz1, hz2⟩ := info_parts infoB
  have hLb : L ≤ 16777216 := by rw [hL]; exact Nat.mul_le_mul h2 hc
  have hll := hb.len
  have HM := hidden (fun W => (callsIn_wide (n := 8)).2 (mayScan_any n (some ⟨b, off, none⟩) L cap (by omega) W))
  have HF := hidden (fun W => (callsIn_wide (n := 8)).2 (right_fn n gen (some ⟨b, off, none⟩) L cap W))
  have HRo := hidden (fun (s : List UInt8) (hs : s.length ≤ 16777216) W => (callsIn_wide (n := 8)).2 (recordsOf_any s hs W))
  have G0 := hidden (blk_new w (.cells #[.slice none 0 0] 39))
  have K0 := hidden (same_alloc w (.cells #[.slice none 0 0] 39))
  have HT := hidden T
  have HB := hidden hb
  rw [decide_eq_true hm] at HM
  have HL := hidden hL
  have HLb := hidden hLb
  have Hll := hidden hll
  clear T hb hm hL hLb hll
  refine (callsIn_wide (n := 9)).1 ?_
  refine callsIn_of_wp_marks Tryd.func20 rfl trivial ?_ rfl
  simp only [Tryd.ntmps20, List.size_toArray, List.length_cons, List.length_nil, Nat.reduceAdd, Nat.reduceSub, Array.replicate_succ, Array.replicate_zero, List.push_toArray, List.append_toArray, List.nil_append, List.cons_append]
  gi_wp2_with (first
    | (refine ⟨trivial, ?_⟩; gi_at_call 41; refine (HM.out _).mono ?_; rintro e w1 ⟨rfl, rfl⟩)
    | (refine ⟨trivial, ?_⟩; gi_at_call 42; refine (HF.out _).mono ?_; rintro e w2 ⟨B, rfl, hB0, hB1, hB2, hB3, q2⟩; have K2 := hidden (K0.out.trans q2); have G1 := hidden hB1; have G2 := hidden hB2; have G3 := hidden hB3; have P2 := hidden (blk_kept q2 (fun h => h) G0.out); clear q2 hB1 hB2 hB3))
  have hB0' : w.heap.size + 1 ≤ B := by simpa using hB0
  have hsz := K2.out.size
  have hP2 := blk_lt P2.out
  have hB2 := blk_lt G3.out
  have hbw : b < w.heap.size := by
    obtain ⟨b', o', e', hx⟩ := HB.out.cell (by rw [← Hll.out.1, HL.out]; exact Nat.mul_pos (by omega) hc1)
    cases e'
    obtain ⟨cs, t, fz, ho⟩ := cell_cells (hx 0 (by rw [← Hll.out.1, HL.out]; exact Nat.mul_pos (by omega) hc1))
    exact blk_lt ho
  have hgw : 0 < w.heap.size := by
    obtain ⟨cs, t, fz, ho⟩ := cell_cells (HT.out 0 (by decide))
    exact blk_lt ho
  have HRt : Hid (∀ W1, Same w2 W1 → RtW W1 B b off L cap n gen img) := hidden (fun W1 kk => ⟨HT.out.kept (K2.out.trans kk) (fun h => h), HB.out.same (K2.out.trans kk), blk_kept kk (fun h => h) G1.out, blk_kept kk (fun h => h) G2.out, blk_kept kk (fun h => h) G3.out⟩)
  have HLc := hidden (show L ≤ cap by have := Hll.out; omega)
  obtain ⟨E, hE⟩ : ∃ E : Nat → TypeId → Prop, E = fun k t => k = w.heap.size ∨ (w.heap.size ≤ k ∧ t = 5) := ⟨_, rfl⟩
  have HEn : Hid (∀ k t, t ≠ 5 → k ≠ w.heap.size → ¬ E k t) := hidden (fun k t h1 h2 h => by rw [hE] at h; rcases h with h | h; exact h2 h; exact h1 h.2)
  have HEo : Hid (∀ k t, k < w.heap.size → ¬ E k t) := hidden (fun k t h1 h => by rw [hE] at h; rcases h with h | h <;> omega)
  have HEp : Hid (∀ t, E w.heap.size t) := hidden (fun t => by rw [hE]; exact .inl rfl)
  have HEr : Hid (∀ k, w.heap.size ≤ k → E k 5) := hidden (fun k h => by rw [hE]; exact .inr ⟨h, rfl⟩)
  clear hB0 hE
  refine range_ownI (ti := 3) rfl (by decide) (gf := 52) (lb := #[.pointer (some ⟨B + 2, 0, none⟩), .pointer (some ⟨B, 0, none⟩), .pointer (some ⟨B + 1, 0, none⟩)]) rfl trivial (enters_of Tryd.func52 (by kernel_rfl) rfl) (T := E)
    (fun W1 kk hs => right_at E (w2.heap.size + 2) W1 B b off L cap n gen c img h1 h2 HL.out hc hc1 HLc.out hcb hg (by omega) (by omega) (fun V kV => (HRt.out W1 kk).ke kV (fun t => HEo.out _ _ hgw) (fun t => HEo.out _ _ hbw) (HEn.out _ _ (by decide) (by omega)) (HEn.out _ _ (by decide) (by omega)) (HEn.out _ _ (by decide) (by omega))) (fun k hk => ⟨HEn.out _ _ (by decide) (by omega), HEn.out _ _ (by decide) (by omega), HEn.out _ _ (by decide) (by omega)⟩)) (fun _ => rfl)
    (fun pre V => Same w V ∧ ∃ sv, V.heap[w.heap.size]? = some (.cells #[sv] 39 (0, 0)) ∧ V.ownsRow (w.heap.size + 1) 5 1 sv (flA n img pre).length ((flA n img pre).map U8))
    (fun _ _ _ => False)
    (fun s A C row hs hg' hr => by
      obtain ⟨hS, sv, hP, hO⟩ := hs
      refine ⟨hS.grown hg' (fun k e hk => by have := (hr k e).1; omega), sv, (hg'.block _ (blk_lt hP) (fun e => by have := (hr _ e.symm).1; omega)).trans hP, own_grown hO hg' (fun r e => ?_)⟩
      obtain ⟨_, o, ho, ht⟩ := hr r e
      refine ⟨o, ho, fun cs fz e2 => ?_⟩
      subst e2
      rcases ht with ht | ⟨cs', fz', ht⟩
      · cases ht
      · cases ht)
    (fun _ _ _ _ _ hs _ _ => hs)
    ⟨K2.out, _, P2.out, World.ownsRow_nil _ _ _ _⟩
    (fun x a' V => a' = { tmps := #[.int .i64 n, .int .u64 gen, .slice (some ⟨b, off, none⟩) L cap, undef, undef, undef, .slice none 0 0, .int .i64 0, .pointer (some ⟨w.heap.size, 0, none⟩), .slice (some ⟨b, off + x.1.val * n + 24, none⟩) (usedJ (secP n x.1.val img)) (n - 24), .int .i64 n, .slice (some ⟨b, off, none⟩) L cap, .bool true, .bool false, .int .i64 n, .int .u64 gen, .slice (some ⟨b, off, none⟩) L cap, .func (.func 52) #[] #[.pointer (some ⟨B + 2, 0, none⟩), .pointer (some ⟨B, 0, none⟩), .pointer (some ⟨B + 1, 0, none⟩)], .slice (some ⟨b, off + x.1.val * n + 24, none⟩) (usedJ (secP n x.1.val img)) (n - 24), undef, undef, undef, undef, undef, undef], defers := [] })
    (fun x a' _ A C row hs hg' hr => hs) ?assign ?body ?done ?stop
  case assign =>
    intro l pre x W K hI hK
    dsimp only [encU]
    gi_wp2
    exact hK _ _ (KX.refl _ _ _) hI rfl
  case body =>
    intro l pre x a' V hI hA hlt
    subst hA
    obtain ⟨hS, sv, hP, hO⟩ := hI
    have y1 : V.cell? ⟨w.heap.size, 0, none⟩ = some sv := blk_cell hP
    have hll2 := flA_len n img pre
    have hrl : (roomJ (secP n x.1.val img)).length = usedJ (secP n x.1.val img) := by
      refine roomJ_len (n := n) ?_ x.2 (by omega)
      exact (bt_chunk HB.out HL.out x.1.isLt).len.1.symm
    have hbt : Bt V (.slice (some ⟨b, off + x.1.val * n + 24, none⟩) (usedJ (secP n x.1.val img)) (n - 24)) (roomJ (secP n x.1.val img)) := by
      have h9 := x.2
      have h := ((bt_chunk (HB.out.same hS) HL.out x.1.isLt).subA (i := 24) (j := 24 + usedJ (secP n x.1.val img)) (by omega) (by omega) (by omega) _ _ rfl rfl).2 V (Kept.refl _ _)
      rw [show 24 + usedJ (secP n x.1.val img) - 24 = usedJ (secP n x.1.val img) by omega] at h
      exact h
    have hsn := flA_snoc n img pre x
    have hus := x.2
    obtain ⟨xo, hxo⟩ : ∃ xo, xo = off + x.1.val * n + 24 := ⟨_, rfl⟩
    obtain ⟨u, hu⟩ : ∃ u, u = usedJ (secP n x.1.val img) := ⟨_, rfl⟩
    obtain ⟨r, hr⟩ : ∃ r, r = roomJ (secP n x.1.val img) := ⟨_, rfl⟩
    rw [← hu, ← hxo, ← hr] at hbt
    rw [← hu] at hus hrl ⊢
    rw [← hr] at hsn hrl
    rw [← hxo]
    obtain ⟨fa, hfa⟩ : ∃ fa, fa = flA n img pre := ⟨_, rfl⟩
    rw [← hfa] at hO hsn hll2
    have hfb : fa.length ≤ 16777216 := Nat.le_trans hll2 (Nat.mul_le_mul (show pre.length ≤ 4096 by omega) h2)
    have HC : Hid (∀ j u', (r.map U8)[j]? = some u' → V.cell? ((⟨b, xo, none⟩ : Addr).add j) = some u') := hidden (fun j u' hj => by
      rw [List.getElem?_map, Option.map_eq_some_iff] at hj
      obtain ⟨y, hy, rfl⟩ := hj
      obtain ⟨hj, rfl⟩ := List.getElem?_eq_some_iff.1 hy
      obtain ⟨b', o', e', hc'⟩ := hbt.cell (by omega)
      cases e'
      rw [add_none]
      exact hc' j hj)
    have HS := hidden hS
    have HP := hidden hP
    have HO := hidden hO
    have HSn := hidden hsn
    have HRl := hidden hrl
    have HSz := hidden hS.size
    clear hS hP hO hsn hbt hxo hu hr hfa hll2 hrl
    gi_wp2_with (gi_at_builtin; refine wpListIn_append_own _ rfl _ _ 39 rfl (w.heap.size + 1) 5 i0 (.int .u8 0) 1 1 Tryd.underlying39 hi hz0 hz1 hz2 rfl (by decide) sv fa.length (fa.map U8) rfl HO.out ⟨b, xo, none⟩ u (n - 24) (r.map U8) rfl (by rw [List.length_map, HRl.out, Nat.mul_one]) HC.out (fun q hq => by obtain ⟨y, _, rfl⟩ := List.mem_map.1 hq; rfl) (by unfold maxLen; omega) (by omega) (blk_lt HP.out) ?_; intro v' V1 hown' hgrow _; obtain ⟨va, vc, rfl⟩ := own_form hown'; have HO1 := hidden hown'; have HG1 := hidden hgrow; have P1 : V1.heap[w.heap.size]? = some (.cells #[sv] 39 (0, 0)) := (hgrow.block _ (blk_lt HP.out) (fun e => by have := (own_blk HO.out e.symm).1; omega)).trans HP.out; have f1 : V1.frozen? ⟨w.heap.size, 0, none⟩ = false := blk_free P1; have z1 : V1.cell? ⟨w.heap.size, 0, none⟩ = some sv := blk_cell P1; have HP1 := hidden P1; clear hown' hgrow P1)
    have S1 : Same w V1 := HS.out.grown HG1.out (fun k e hk => by have := (own_blk HO.out e).1; omega)
    refine ⟨(KX.row HG1.out (fun q e => by obtain ⟨h8, cs, h9⟩ := own_blk HO.out e; exact ⟨cs, _, _, h9, HEr.out q (by omega)⟩)).trans ((KX.refl _ _ _).set HEp.out hP2 _), S1.grown (grown_set V1 w.heap.size 0 _) (fun k e hk => by cases e; omega), _, blk_set (j := 0) HP1.out _, ?_⟩
    rw [HSn.out, List.map_append, List.length_append, HRl.out]
    exact own_grown HO1.out (grown_set V1 w.heap.size 0 _) (fun q e => by cases e; exact ⟨_, HP1.out, fun cs fz e2 => by cases e2⟩)
  case done =>
    rintro D ys V hD hS hI hK
    obtain ⟨hS1, sv, hP, hO⟩ := hI
    have hfl : flA n img ys = (roomsJ n gen img c 0).flatten := by
      have h9 : (ys.map fun x => roomJ (secP n x.1.val img)) = (ys.map (·.1)).map (fun x => roomJ (secP n x.val img)) := by rw [List.map_map]; rfl
      unfold flA
      rw [h9, hS, rooms_fl]
    have hfb := flA_len n img ys
    have hyl : ys.length ≤ c := by
      have h9 := congrArg List.length hS
      rw [List.length_map] at h9
      rw [h9]
      unfold fl
      rw [List.length_take, List.length_finRange]
      omega
    rw [hfl] at hO hfb
    have hsb : (roomsJ n gen img c 0).flatten.length ≤ 16777216 := Nat.le_trans hfb (Nat.mul_le_mul (show ys.length ≤ 4096 by omega) h2)
    have HRr := hidden (HRo.out _ hsb)
    obtain ⟨S0, hS0⟩ : ∃ S0, S0 = (roomsJ n gen img c 0).flatten := ⟨_, rfl⟩
    rw [← hS0] at hO HRr
    have y1 : V.cell? ⟨w.heap.size, 0, none⟩ = some sv := blk_cell hP
    have hsf : ∃ ao cp, sv = .slice ao S0.length cp := by
      rcases hO.2 with ⟨rfl, h⟩ | ⟨g, cp, cur, rfl, _⟩
      · exact ⟨none, 0, by rw [h]⟩
      · exact ⟨_, _, rfl⟩
    obtain ⟨ao, cp, rfl⟩ := hsf
    have ht := (Bt.own hO).text
    have HS1 := hidden hS1
    have HK := hidden hK
    have HScJ := hidden (show scanJ n gen img c = recs S0 by rw [hS0]; rfl)
    clear hS hfl hfb hsb hP hO hS1 hS0
    gi_wp2_with (refine ⟨trivial, ?_⟩; gi_at_call 43; refine (HRr.out _).mono ?_; rintro e w5 ⟨⟨v, rfl, ho⟩, q5⟩; have HO5 := hidden ho; have K5 := hidden q5; clear ho q5)
    have hk5 : w5.heap[D]? = some (.deferred (some [])) := (K5.out.block D (blk_lt HK.out) (fun h => h)).trans HK.out
    have hS5 : Same w (w5.putObj D (.deferred none)) := (HS1.out.trans K5.out).grown (grownBy_putObj' w5 D _) (fun k e hk => by cases e; omega)
    have hO5 : (w5.putObj D (.deferred none)).ownsRow w.heap.size 9 1 v (scanJ n gen img c).length (TJ (scanJ n gen img c)) := by
      rw [HScJ.out]
      exact own_grown (own_mono HO5.out HS1.out.size) (grownBy_putObj' w5 D _) (fun r e => by cases e; exact ⟨_, hk5, fun cs fz e2 => by cases e2⟩)
    refine ⟨by simp, .inl ⟨_, _, rfl, run_takeDeferred hk5, ?_⟩⟩
    refine ⟨.tuple #[v, .int .i64 0], ?_, ⟨v, rfl, hO5⟩, hS5⟩
    simp [results, Tryd.f20, go_sem]
  case stop =>
    rintro D c pre V _ _ h _
    exact h.elim
end Go.Proofs.YtljbmpnpbjnbkaaDoor
