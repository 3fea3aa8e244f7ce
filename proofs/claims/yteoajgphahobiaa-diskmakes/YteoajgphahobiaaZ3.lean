/- A Disk whatever its power is: Flush, Crash, and where the bytes come from. -/
import Derived.Test.YteoajgphahobiaaY3
namespace Go.Proofs.Yteoajgphahobiaa
open Go.RowKit
set_option linter.unusedVariables false
structure FlushedZ (xs qs : List Value) (n pb c pc rb rc g : Nat) (pl : List (List UInt8)) (pend : List (Nat × List UInt8)) (lim : Bool) (lf : Int) (r wn f : Nat) (w w' : World) : Prop where
  ex : ∃ ys, w'.heap[g]? = some (.cells (DP n pb c pc rb rc (.slice none 0 0) lim (spL lim lf) r wn (f + 1)) 74 (0, 0)) ∧ w'.ownsRow 0 22 1 (.slice (some ⟨pb, 0, none⟩) c pc) c ys ∧ LL w' ys (app pend pl) ∧ Kept (fun k => k = g ∨ k = pb) w w' ∧ (∀ u ∈ ys, u ∈ xs ∨ u ∈ qs)
set_option maxHeartbeats 1000000 in
set_option maxRecDepth 100000 in
theorem z_flush (n pb c pc rb rc g : Nat) (qv : Value) (qs xs : List Value) (pl : List (List UInt8)) (pend : List (Nat × List UInt8)) (m : Nat) (hpm : pend.length = m)  (lim : Bool) (lf : Int) (r wn f : Nat) (w : World)
    (hb : w.heap[g]? = some (.cells (DP n pb c pc rb rc qv lim lf r wn f) 74 (0, 0))) (hq : w.ownsRow 0 58 2 qv m qs)
    (hN : QL w c n qs pend) (hp : w.ownsRow 0 22 1 (.slice (some ⟨pb, 0, none⟩) c pc) c xs) (hx : LL w xs pl) (hng : ¬ (lim = true ∧ lf = 0)) (hf0 : 0 ≤ lf) (hf1 : lf ≤ 9223372036854775807) (hm : m ≤ 4398046511104) (hf : f ≤ 4398046511104) :
    Calls Try.prog 25 #[.pointer (some ⟨g, 0, none⟩)] w fun e w' => e = .returned (.int .i64 m) ∧ FlushedZ xs qs n pb c pc rb rc g pl pend lim lf r wn f w w' := by
  obtain ⟨qa, qc, rfl⟩ := own_form hq
  have c3 : w.cell? ⟨g, 3, none⟩ = some (.slice qa m qc) := blk_cell hb
  have B := hidden (y_spend n pb c pc rb rc g _ lim lf hng hf0 hf1 r wn f w hb)
  have HB0 := hidden hb
  have HQ0 := hidden hq
  have HN0 := hidden hN
  have HP0 := hidden hp
  have HX0 := hidden hx
  have ngq := hidden (own_apart hq hb (by decide))
  have hne : pb ≠ g := fun e => own_apart hp hb (by decide) (by rw [← e]; rfl)
  have hne2 : g ≠ pb := hne.symm
  have hqp := own_rows hq hp (by decide)
  clear hb hq hN hp hx
  go_enter Try.func25, Try.ntmps25
  go_wp2_with (first
    | (go_at_call 44; refine (B.out).mono ?_; rintro e w1 ⟨rfl, b1, k1⟩; have ko : ∀ u l, Own w u l 0 → Own w1 u l 0 := (fun u l o => o.kept k1 (fun i cs _ hb e => by rw [e, HB0.out] at hb; simp at hb)); have HB := hidden b1; have d3' : w1.cell? ⟨g, 3, none⟩ = some (.slice qa m qc) := blk_cell b1; have HP := hidden (own_kept HP0.out k1 (fun k hk e => by simp [Value.ownBlock] at hk; omega)); have HQ := hidden (own_kept HQ0.out k1 (fun k hk e => ngq.out (by rw [hk, e]))); have HN := hidden (HN0.out.kept ko); have HX := hidden (HX0.out.kept ko); have KK := hidden k1; clear b1 k1 B ko))
  go_loopw [24] (fun i wr => ∃ k : Nat, k ≤ m ∧ i = .int .i64 k ∧ (∃ ys, wr.ownsRow 0 22 1 (.slice (some ⟨pb, 0, none⟩) c pc) c ys ∧ LL wr ys (app (pend.take k) pl) ∧ Hid (∀ u ∈ ys, u ∈ xs ∨ u ∈ qs)) ∧ Kept (fun x => x = pb) w1 wr) (fun i wr => m - (intOf i).toNat)
  case atStart => exact ⟨0, Nat.zero_le _, rfl, ⟨xs, HP.out, HX.out, fun u h => Or.inl h⟩, Kept.refl _ _⟩
  case round =>
    obtain ⟨k, hk, rfl, ⟨ys, hy, hyn, hmy⟩, hK⟩ := hrel
    have hb := blk_kept hK (fun e => hne2 e) HB.out
    have d1 : wr.cell? ⟨g, 1, none⟩ = some (.slice (some ⟨pb, 0, none⟩) c pc) := blk_cell hb
    have d3 : wr.cell? ⟨g, 3, none⟩ = some (.slice qa m qc) := blk_cell hb
    have d8 : wr.cell? ⟨g, 8, none⟩ = some (.int .i64 f) := blk_cell hb
    have f3 : wr.frozen? ⟨g, 3, none⟩ = false := blk_free hb
    have f8 : wr.frozen? ⟨g, 8, none⟩ = false := blk_free hb
    have HB1 := hidden hb
    have HK := hidden hK
    have HY := hidden hy
    have HYN := hidden hyn
    clear hb hK hyn
    by_cases hlt : k < m
    · obtain ⟨u, n1, n2, n4, n3, n5⟩ := HN.out k (by omega)
      have happ := app_succ pend pl k (by omega)
      obtain ⟨N, hNe⟩ : ∃ N, pend[k].1 = N := ⟨_, rfl⟩
      obtain ⟨lk, hLe⟩ : ∃ lk, pend[k].2 = lk := ⟨_, rfl⟩
      rw [hNe, hLe] at happ
      rw [hNe] at n1 n3
      rw [hLe] at n4 n5
      have HAP := hidden happ
      have U1 := hidden n4
      have HMQ := hidden (List.mem_of_getElem? n2)
      obtain ⟨a, y, rfl⟩ := n4.byt.form
      subst n5
      clear happ hNe hLe
      obtain ⟨gq, rfl⟩ : ∃ gq : Nat, qa = some ⟨gq, 0, none⟩ := by
        rcases HQ.out.2 with ⟨_, h⟩ | ⟨gq, cap, cur, h, _⟩
        · omega
        · exact ⟨gq, by simpa using (Value.slice.inj h).1⟩
      have hqp2 : gq ≠ pb := fun e => by
        rcases hqp with h | h
        · cases h
        · exact h (by rw [e]; rfl)
      have hqr := own_kept HQ.out HK.out (fun i hi e => by simp [Value.ownBlock] at hi; omega)
      have z1 := hqr.cells (g := gq) rfl (k * 2) _ n1
      have z2 := hqr.cells (g := gq) rfl (k * 2 + 1) _ n2
      rw [add_none, Nat.zero_add] at z1 z2
      have hyl : ys.length = c := by simpa using hy.1
      obtain ⟨p, hp⟩ : ∃ p, ys[N]? = some p := ⟨ys[N]'(by omega), List.getElem?_eq_getElem (by omega)⟩
      obtain ⟨p1, p2⟩ := own_cell hy p hp
      have q0 : (0 : Int) ≤ (k : Int) := Int.natCast_nonneg _
      have q1 : (k : Int) < (m : Int) := by omega
      have q2 : (0 : Int) ≤ (N : Int) := Int.natCast_nonneg _
      have q3 : (N : Int) < (c : Int) := by omega
      have hp1 : ∀ o, (wr.alloc o).cell? ⟨pb, N, none⟩ = some p := fun o => (Kept.cell (same_alloc wr o) (fun h => h) p1)
      have hp2 : ∀ o, (wr.alloc o).frozen? ⟨pb, N, none⟩ = false := fun o => (own_cell (hy.alloc o) p hp).2
      have hne6 : pb ≠ wr.heap.size := Nat.ne_of_lt (World.block_lt_of_cell? wr _ p1)
      have hne7 : wr.heap.size ≠ pb := hne6.symm
      have hne3 := World.new_ne wr _ p1
      have hne4 := World.new_ne wr _ d1
      have hne5 := World.new_ne wr _ z1
      clear hqr hy hp n1 n2 n4 hqp
      go_wp2
      go_region_held3 (fun w' => w'.cell? ⟨g, 1, none⟩ = some (.slice (some ⟨pb, 0, none⟩) c pc) ∧ w'.cell? ⟨wr.heap.size, 0, none⟩ = some (.int .i64 N) ∧ w'.cell? ⟨wr.heap.size, 1, none⟩ = some (.slice a lk.length y)) (go_keep) (fail)
      all_goals
        go_wp2
        go_roundw
        case rel =>
          have KW : Kept (fun x => x = pb) wr (((wr.alloc (.cells #[.int .i64 (N : Int), .slice a lk.length y] 58)).drew).setCell ⟨pb, N, none⟩ (.slice a lk.length y)) := ((Kept.refl (fun x => x = pb) wr).alloc _).drew.setCell (p := ⟨pb, N, none⟩) rfl _
          refine ⟨k + 1, by omega, by go_num, ⟨_, own_set (ownsRow_drew (HY.out.alloc _)) n3 _, ?_, fun u hu => (List.mem_or_eq_of_mem_set hu).elim (hmy.out u) (fun e => Or.inr (e ▸ HMQ.out))⟩, (HK.out.alloc _).drew.setCell (p := ⟨pb, N, none⟩) rfl _⟩
          rw [HAP.out]
          exact (HYN.out.kept (fun u l o => o.row HY.out KW)).set ((U1.out.row HP.out HK.out).row HY.out KW) N
        case measure => simp [intOf]; omega
    · have q1 : ¬ (k : Int) < (m : Int) := by omega
      go_wp2
      go_returns
      have KW : Kept (fun x => x = g) wr ((wr.setCell ⟨g, 3, none⟩ (.slice none 0 0)).setCell ⟨g, 8, none⟩ (.int .i64 ((f : Int) + 1))) := ((Kept.refl (fun x => x = g) wr).setCell (p := ⟨g, 3, none⟩) rfl _).setCell (p := ⟨g, 8, none⟩) rfl _
      refine ⟨rfl, ⟨ys, ?_, own_kept HY.out KW (fun i hi e => by simp [Value.ownBlock] at hi; omega), ?_, (KK.out.mono (T := fun k => k = g ∨ k = pb) (fun _ _ h => Or.inl h)).trans' (((HK.out.mono (T := fun k => k = g ∨ k = pb) (fun _ _ h => Or.inr h)).setCell (p := ⟨g, 3, none⟩) (Or.inl rfl) _).setCell (p := ⟨g, 8, none⟩) (Or.inl rfl) _) (fun _ _ h => h), hmy.out⟩⟩
      · exact blk_set (j := 8) (blk_set (j := 3) HB1.out _) _
      · have hy := HYN.out
        rw [List.take_of_length_le (by omega)] at hy
        exact hy.kept (fun u l o => o.kept KW (fun i cs _ hb e => by rw [e, HB1.out] at hb; simp at hb))
structure CrashedZ (xs rs qs : List Value) (n pb c pc rb rc g : Nat) (pl rl : List (List UInt8)) (pend sel : List (Nat × List UInt8)) (r wn f : Nat) (w w' : World) : Prop where
  ex : ∃ ys zs, w'.heap[g]? = some (.cells (DP n pb c pc rb rc (.slice none 0 0) false 0 r wn f) 74 (0, 0)) ∧ w'.ownsRow 0 22 1 (.slice (some ⟨pb, 0, none⟩) c pc) c ys ∧ LL w' ys (app sel pl) ∧
    w'.ownsRow 0 22 1 (.slice (some ⟨rb, 0, none⟩) c rc) c zs ∧ LL w' zs (rd (app sel pl) pend rl) ∧ Kept (fun k => k = g ∨ k = pb ∨ k = rb) w w' ∧ (∀ u ∈ ys, u ∈ xs ∨ u ∈ qs) ∧ (∀ u ∈ zs, u ∈ rs ∨ u ∈ ys)
set_option maxHeartbeats 2000000 in
set_option maxRecDepth 100000 in
theorem z_crash (n pb c pc rb rc g m : Nat) (kv : Value) (ks : List Int) (qv : Value) (qs xs rs : List Value) (pl rl : List (List UInt8)) (pend sel : List (Nat × List UInt8)) (hpm : pend.length = m) (hpl : pl.length = c) (hsl : sel.length = ks.length) (hse : ∀ k (h : k < ks.length) (h' : k < sel.length) (j : Nat), ks[k] = (j : Int) → ∃ h2 : j < pend.length, sel[k] = pend[j]) (lim : Bool) (lf : Int) (r wn f : Nat) (w : World) (hk : Ints w kv ks) (hkb : ∀ a k c, kv = .slice (some a) k c → 0 < k → a.block ≠ pb) (hl : ks.length ≤ 140737488355328)
    (hb : w.heap[g]? = some (.cells (DP n pb c pc rb rc qv lim lf r wn f) 74 (0, 0))) (hq : w.ownsRow 0 58 2 qv m qs)
    (hN : QL w c n qs pend) (hp : w.ownsRow 0 22 1 (.slice (some ⟨pb, 0, none⟩) c pc) c xs) (hx : LL w xs pl) (hr : w.ownsRow 0 22 1 (.slice (some ⟨rb, 0, none⟩) c rc) c rs) (hrx : LL w rs rl) (hpr : pb ≠ rb) (hm : m ≤ 4398046511104)
    (hall : ∀ i ∈ ks, 0 ≤ i ∧ i < m)
    (hmk : Calls Try.prog 52 #[kv, .int .i64 m] w fun e w' => e = .returned (.bool true) ∧ w = w') :
    Calls Try.prog 28 #[.pointer (some ⟨g, 0, none⟩), kv] w fun e w' => e = .returned (.int .i64 0) ∧ CrashedZ xs rs qs n pb c pc rb rc g pl rl pend sel r wn f w w' := by
  obtain ⟨a, cap, rfl⟩ := hk.form
  obtain ⟨qa, qc, rfl⟩ := own_form hq
  have A := hidden hmk
  have c3 : w.cell? ⟨g, 3, none⟩ = some (.slice qa m qc) := blk_cell hb
  have HB := hidden hb
  have HQ := hidden hq
  have HN := hidden hN
  have HP := hidden hp
  have HX := hidden hx
  have HR := hidden hr
  have HRX := hidden hrx
  have HKS := hidden hk
  have HKB := hidden hkb
  have HALL := hidden hall
  have HSE := hidden hse
  have hne : pb ≠ g := fun e => own_apart hp hb (by decide) (by rw [← e]; rfl)
  have hne2 : g ≠ pb := hne.symm
  have hnr : rb ≠ g := fun e => own_apart hr hb (by decide) (by rw [← e]; rfl)
  have hnr2 : g ≠ rb := hnr.symm
  have hrp : rb ≠ pb := hpr.symm
  have hqp := hidden (own_rows hq hp (by decide))
  have hqr0 := hidden (own_rows hq hr (by decide))
  clear hb hq hN hp hx hr hrx hk hkb hall hmk hse
  go_enter Try.func28, Try.ntmps28
  go_wp2_with (go_at_call 52; refine (A.out).mono ?_; rintro e w1 ⟨rfl, rfl⟩)
  go_loopw [22] (fun i wr => ∃ k : Nat, k ≤ ks.length ∧ i = .int .i64 k ∧ (∃ ys, wr.ownsRow 0 22 1 (.slice (some ⟨pb, 0, none⟩) c pc) c ys ∧ LL wr ys (app (sel.take k) pl) ∧ Hid (∀ u ∈ ys, u ∈ xs ∨ u ∈ qs)) ∧ Kept (fun x => x = pb) w wr) (fun i wr => ks.length - (intOf i).toNat)
  case atStart => exact ⟨0, Nat.zero_le _, rfl, ⟨xs, HP.out, HX.out, fun u h => Or.inl h⟩, Kept.refl _ _⟩
  case round =>
    obtain ⟨k, hk, rfl, ⟨ys, hy, hyn, hmy⟩, hK⟩ := hrel
    have hb := blk_kept hK (fun e => hne2 e) HB.out
    have d1 : wr.cell? ⟨g, 1, none⟩ = some (.slice (some ⟨pb, 0, none⟩) c pc) := blk_cell hb
    have d3 : wr.cell? ⟨g, 3, none⟩ = some (.slice qa m qc) := blk_cell hb
    have HB1 := hidden hb
    have HK := hidden hK
    have HY := hidden hy
    have HYN := hidden hyn
    clear hb hK hyn
    by_cases hlt : k < ks.length
    · rcases HKS.out with ⟨_, h0⟩ | ⟨b1, e1', e1, hc1⟩
      · simp [h0] at hlt
      obtain ⟨rfl, rfl⟩ : a = some b1 ∧ cap = e1' := by simpa using e1
      have x1 := Kept.cell HK.out (p := b1.add k) (by rw [add_block]; exact HKB.out b1 _ _ rfl (by omega)) (hc1 k hlt)
      obtain ⟨hz0, hz1⟩ := HALL.out _ (List.getElem_mem hlt)
      obtain ⟨j, hj⟩ := Int.eq_ofNat_of_zero_le hz0
      rw [hj] at x1 hz1
      have hjm : j < m := by omega
      obtain ⟨u, n1, n2, n4, n3, n5⟩ := HN.out j (by omega)
      obtain ⟨_, hsk⟩ := HSE.out k hlt (by omega) j hj
      have happ := app_succ sel pl k (by omega)
      rw [hsk] at happ
      obtain ⟨N, hNe⟩ : ∃ N, pend[j].1 = N := ⟨_, rfl⟩
      obtain ⟨lk, hLe⟩ : ∃ lk, pend[j].2 = lk := ⟨_, rfl⟩
      rw [hNe, hLe] at happ
      rw [hNe] at n1 n3
      rw [hLe] at n4 n5
      have HAP := hidden happ
      have U1 := hidden n4
      have HMQ := hidden (List.mem_of_getElem? n2)
      obtain ⟨ua, y, rfl⟩ := n4.byt.form
      subst n5
      clear happ hNe hLe hsk
      obtain ⟨gq, rfl⟩ : ∃ gq : Nat, qa = some ⟨gq, 0, none⟩ := by
        rcases HQ.out.2 with ⟨_, h⟩ | ⟨gq, cap, cur, h, _⟩
        · omega
        · exact ⟨gq, by simpa using (Value.slice.inj h).1⟩
      have hqp2 : gq ≠ pb := fun e => by
        rcases hqp.out with h | h
        · cases h
        · exact h (by rw [e]; rfl)
      have hqr := own_kept HQ.out HK.out (fun i hi e => by simp [Value.ownBlock] at hi; omega)
      have z1 := hqr.cells (g := gq) rfl (j * 2) _ n1
      have z2 := hqr.cells (g := gq) rfl (j * 2 + 1) _ n2
      rw [add_none, Nat.zero_add] at z1 z2
      have hyl : ys.length = c := by simpa using hy.1
      obtain ⟨p, hp⟩ : ∃ p, ys[N]? = some p := ⟨ys[N]'(by omega), List.getElem?_eq_getElem (by omega)⟩
      obtain ⟨p1, p2⟩ := own_cell hy p hp
      have q0 : (0 : Int) ≤ (k : Int) := Int.natCast_nonneg _
      have q1 : (k : Int) < (ks.length : Int) := by omega
      have q2 : (0 : Int) ≤ (N : Int) := Int.natCast_nonneg _
      have q3 : (N : Int) < (c : Int) := by omega
      have q4 : (0 : Int) ≤ (j : Int) := Int.natCast_nonneg _
      have q5 : (j : Int) < (m : Int) := by omega
      have hp1 : ∀ o, (wr.alloc o).cell? ⟨pb, N, none⟩ = some p := fun o => (Kept.cell (same_alloc wr o) (fun h => h) p1)
      have hp2 : ∀ o, (wr.alloc o).frozen? ⟨pb, N, none⟩ = false := fun o => (own_cell (hy.alloc o) p hp).2
      have hne6 : pb ≠ wr.heap.size := Nat.ne_of_lt (World.block_lt_of_cell? wr _ p1)
      have hne7 : wr.heap.size ≠ pb := hne6.symm
      have hne3 := World.new_ne wr _ p1
      have hne4 := World.new_ne wr _ d1
      have hne5 := World.new_ne wr _ z1
      clear hqr hy hp n1 n2 n4 hc1 e1 hj hz0 hz1
      go_wp2
      go_region_held3 (fun w' => w'.cell? ⟨g, 1, none⟩ = some (.slice (some ⟨pb, 0, none⟩) c pc) ∧ w'.cell? ⟨wr.heap.size, 0, none⟩ = some (.int .i64 N) ∧ w'.cell? ⟨wr.heap.size, 1, none⟩ = some (.slice ua lk.length y)) (go_keep) (fail)
      all_goals
        go_wp2
        go_roundw
        case rel =>
          have KW : Kept (fun x => x = pb) wr (((wr.alloc (.cells #[.int .i64 (N : Int), .slice ua lk.length y] 58)).drew).setCell ⟨pb, N, none⟩ (.slice ua lk.length y)) := ((Kept.refl (fun x => x = pb) wr).alloc _).drew.setCell (p := ⟨pb, N, none⟩) rfl _
          refine ⟨k + 1, by omega, by go_num, ⟨_, own_set (ownsRow_drew (HY.out.alloc _)) n3 _, ?_, fun u hu => (List.mem_or_eq_of_mem_set hu).elim (hmy.out u) (fun e => Or.inr (e ▸ HMQ.out))⟩, (HK.out.alloc _).drew.setCell (p := ⟨pb, N, none⟩) rfl _⟩
          rw [HAP.out]
          exact (HYN.out.kept (fun u l o => o.row HY.out KW)).set ((U1.out.row HP.out HK.out).row HY.out KW) N
        case measure => simp [intOf]; omega
    · have q1 : ¬ (k : Int) < (ks.length : Int) := by omega
      clear hy
      obtain ⟨w2, hw2⟩ : ∃ w2, w2 = wr := ⟨_, rfl⟩
      subst hw2
      go_wp2
      go_loopw [48] (fun i wr => ∃ k2 : Nat, k2 ≤ m ∧ i = .int .i64 k2 ∧ (∃ zs, wr.ownsRow 0 22 1 (.slice (some ⟨rb, 0, none⟩) c rc) c zs ∧ LL wr zs (rd (app sel pl) (pend.take k2) rl) ∧ Hid (∀ u ∈ zs, u ∈ rs ∨ u ∈ ys)) ∧ Kept (fun x => x = rb) w2 wr) (fun i wr => m - (intOf i).toNat)
      case atStart => exact ⟨0, Nat.zero_le _, rfl, ⟨rs, own_kept HR.out HK.out (fun i hi e => by simp [Value.ownBlock] at hi; omega), HRX.out.kept (fun u l o => o.row HP.out HK.out), fun u h => Or.inl h⟩, Kept.refl _ _⟩
      case round =>
        obtain ⟨k2, hk2, rfl, ⟨zs, hz, hzn, hmz⟩, hK2⟩ := hrel
        have hb2 := blk_kept hK2 (fun e => hnr2 e) HB1.out
        have g1 : wr.cell? ⟨g, 1, none⟩ = some (.slice (some ⟨pb, 0, none⟩) c pc) := blk_cell hb2
        have g2 : wr.cell? ⟨g, 2, none⟩ = some (.slice (some ⟨rb, 0, none⟩) c rc) := blk_cell hb2
        have g3 : wr.cell? ⟨g, 3, none⟩ = some (.slice qa m qc) := blk_cell hb2
        have g4 : wr.cell? ⟨g, 4, none⟩ = some (.bool lim) := blk_cell hb2
        have g5 : wr.cell? ⟨g, 5, none⟩ = some (.int .i64 lf) := blk_cell hb2
        have f3 : wr.frozen? ⟨g, 3, none⟩ = false := blk_free hb2
        have f4 : wr.frozen? ⟨g, 4, none⟩ = false := blk_free hb2
        have f5 : wr.frozen? ⟨g, 5, none⟩ = false := blk_free hb2
        have HB2 := hidden hb2
        have HK2 := hidden hK2
        have HZ := hidden hz
        have HZN := hidden hzn
        have hpz := own_kept HY.out hK2 (fun i hi e => by simp [Value.ownBlock] at hi; omega)
        have HPZ := hidden hpz
        have hrz : w2.ownsRow 0 22 1 (.slice (some ⟨rb, 0, none⟩) c rc) c rs := own_kept HR.out HK.out (fun i hi e => by simp [Value.ownBlock] at hi; omega)
        have HRZ := hidden hrz
        clear hb2 hK2 hzn hrz
        by_cases hlt2 : k2 < m
        · obtain ⟨u, n1, n2, n4, n3, n5⟩ := HN.out k2 (by omega)
          have hrd := rd_succ (app sel pl) pend rl k2 (by omega)
          obtain ⟨N, hNe⟩ : ∃ N, pend[k2].1 = N := ⟨_, rfl⟩
          rw [hNe] at n1 n3 hrd
          have HRD := hidden hrd
          obtain ⟨ua, y, rfl⟩ := n4.byt.form
          rw [n5] at n2
          clear hNe hrd
          obtain ⟨gq, rfl⟩ : ∃ gq : Nat, qa = some ⟨gq, 0, none⟩ := by
            rcases HQ.out.2 with ⟨_, h⟩ | ⟨gq, cap, cur, h, _⟩
            · omega
            · exact ⟨gq, by simpa using (Value.slice.inj h).1⟩
          have hqp2 : gq ≠ pb := fun e => by
            rcases hqp.out with h | h
            · cases h
            · exact h (by rw [e]; rfl)
          have hqr2 : gq ≠ rb := fun e => by
            rcases hqr0.out with h | h
            · cases h
            · exact h (by rw [e]; rfl)
          have hqr := own_kept (own_kept HQ.out HK.out (fun i hi e => by simp [Value.ownBlock] at hi; omega)) HK2.out (fun i hi e => by simp [Value.ownBlock] at hi; omega)
          have z1 := hqr.cells (g := gq) rfl (k2 * 2) _ n1
          have z2 := hqr.cells (g := gq) rfl (k2 * 2 + 1) _ n2
          rw [add_none, Nat.zero_add] at z1 z2
          have hzl : zs.length = c := by simpa using hz.1
          have hyl : ys.length = c := by simpa using HY.out.1
          obtain ⟨p, hp⟩ : ∃ p, zs[N]? = some p := ⟨zs[N]'(by omega), List.getElem?_eq_getElem (by omega)⟩
          obtain ⟨p1, p2⟩ := own_cell hz p hp
          have hyn' := HYN.out
          rw [List.take_of_length_le (by omega)] at hyn'
          have hapl : (app sel pl).length = c := by rw [app_len, hpl]
          have hPn := (hyn'.2 N (by omega) (by omega)).row HRZ.out HK2.out
          obtain ⟨va, vc, hve⟩ := hPn.byt.form
          have hgd : (app sel pl).getD N [] = (app sel pl)[N] := by simp [List.getD, hapl, n3]
          obtain ⟨lp, hlp⟩ : ∃ lp, (app sel pl)[N] = lp := ⟨_, rfl⟩
          rw [hlp] at hPn hve hgd
          have HGD := hidden hgd
          clear hgd hlp hyn'
          have hpc := (own_cell hpz ys[N] (List.getElem?_eq_getElem (by omega))).1
          rw [hve] at hpc hPn
          have hmem : ys[N] ∈ ys := List.getElem_mem _
          rw [hve] at hmem
          have HMZ := hidden hmem
          clear hmem
          have HPN := hidden hPn
          have q0 : (0 : Int) ≤ (k2 : Int) := Int.natCast_nonneg _
          have q1' : (k2 : Int) < (m : Int) := by omega
          have q2 : (0 : Int) ≤ (N : Int) := Int.natCast_nonneg _
          have q3 : (N : Int) < (c : Int) := by omega
          have hp1 : ∀ o, (wr.alloc o).cell? ⟨rb, N, none⟩ = some p := fun o => (Kept.cell (same_alloc wr o) (fun h => h) p1)
          have hp2 : ∀ o, (wr.alloc o).frozen? ⟨rb, N, none⟩ = false := fun o => (own_cell (hz.alloc o) p hp).2
          have hne6 : rb ≠ wr.heap.size := Nat.ne_of_lt (World.block_lt_of_cell? wr _ p1)
          have hne7 : wr.heap.size ≠ rb := hne6.symm
          have hne3 := World.new_ne wr _ p1
          have hne4 := World.new_ne wr _ g1
          have hne5 := World.new_ne wr _ z1
          have hne8 := World.new_ne wr _ hpc
          clear hqr hz hp n1 n2 n4 hPn hve hpz
          go_wp2
          go_region_held3 (fun w' => w'.cell? ⟨g, 1, none⟩ = some (.slice (some ⟨pb, 0, none⟩) c pc) ∧ w'.cell? ⟨g, 2, none⟩ = some (.slice (some ⟨rb, 0, none⟩) c rc) ∧ w'.cell? ⟨wr.heap.size, 0, none⟩ = some (.int .i64 N) ∧ w'.cell? ⟨pb, N, none⟩ = some (.slice va lp.length vc)) (go_keep) (fail)
          all_goals
            go_wp2
            go_roundw
            case rel =>
              have KW : Kept (fun x => x = rb) wr (((wr.alloc (.cells #[.int .i64 (N : Int), .slice ua n y] 58)).drew).setCell ⟨rb, N, none⟩ (.slice va lp.length vc)) := ((Kept.refl (fun x => x = rb) wr).alloc _).drew.setCell (p := ⟨rb, N, none⟩) rfl _
              refine ⟨k2 + 1, by omega, by go_num, ⟨_, own_set (ownsRow_drew (HZ.out.alloc _)) n3 _, ?_, fun u hu => (List.mem_or_eq_of_mem_set hu).elim (hmz.out u) (fun e => Or.inr (e ▸ HMZ.out))⟩, (HK2.out.alloc _).drew.setCell (p := ⟨rb, N, none⟩) rfl _⟩
              rw [HRD.out, HGD.out]
              exact (HZN.out.kept (fun u l o => o.row HZ.out KW)).set (HPN.out.row HZ.out KW) N
            case measure => simp [intOf]; omega
        · have q1' : ¬ (k2 : Int) < (m : Int) := by omega
          clear hz hpz
          go_wp2
          go_returns
          have KW : Kept (fun x => x = g) wr (((wr.setCell ⟨g, 3, none⟩ (.slice none 0 0)).setCell ⟨g, 4, none⟩ (.bool false)).setCell ⟨g, 5, none⟩ (.int .i64 0)) := (((Kept.refl (fun x => x = g) wr).setCell (p := ⟨g, 3, none⟩) rfl _).setCell (p := ⟨g, 4, none⟩) rfl _).setCell (p := ⟨g, 5, none⟩) rfl _
          have nbg : ∀ u l, Own wr u l 0 → Own (((wr.setCell ⟨g, 3, none⟩ (.slice none 0 0)).setCell ⟨g, 4, none⟩ (.bool false)).setCell ⟨g, 5, none⟩ (.int .i64 0)) u l 0 := fun u l o => o.kept KW (fun i cs _ hb e => by rw [e, HB2.out] at hb; simp at hb)
          have hyn' := HYN.out
          rw [List.take_of_length_le (by omega)] at hyn'
          have hzn' := HZN.out
          rw [List.take_of_length_le (by omega)] at hzn'
          refine ⟨rfl, ⟨ys, zs, ?_, own_kept HPZ.out KW (fun i hi e => by simp [Value.ownBlock] at hi; omega), (hyn'.kept (fun u l o => o.row HRZ.out HK2.out)).kept nbg, own_kept HZ.out KW (fun i hi e => by simp [Value.ownBlock] at hi; omega), hzn'.kept nbg, ?_, hmy.out, hmz.out⟩⟩
          · exact blk_set (j := 5) (blk_set (j := 4) (blk_set (j := 3) HB2.out _) _) _
          · exact ((HK.out.mono (T := fun k => k = g ∨ k = pb ∨ k = rb) (fun _ _ h => Or.inr (Or.inl h))).trans' HK2.out (fun _ _ h => Or.inr (Or.inr h))).trans' KW (fun _ _ h => Or.inl h)
end Go.Proofs.Yteoajgphahobiaa
