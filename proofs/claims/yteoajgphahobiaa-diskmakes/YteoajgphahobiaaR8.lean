/- The document's disk: Read. -/
import Derived.Test.YteoajgphahobiaaR4
namespace Go.Proofs.Yteoajgphahobiaa
open Go.RowKit
set_option linter.unusedVariables false
theorem flat_at' {n : Nat} {pl : List (List UInt8)} (hn : ∀ l ∈ pl, l.length = n) (j : Nat) (hj : j < pl.length) : ∀ i (hi : i < pl[j].length), pl.flatten[j * n + i]? = some pl[j][i] := by
  intro i hi
  have hl : (pl.take j).flatten.length = j * n := by rw [flat_len (n := n) (fun l h => hn l (List.mem_of_mem_take h)), List.length_take, Nat.min_eq_left (by omega)]
  have hs : pl.flatten = (pl.take j).flatten ++ (pl[j] ++ (pl.drop (j + 1)).flatten) := by
    rw [← List.flatten_cons, ← List.flatten_append, ← List.drop_eq_getElem_cons hj, List.take_append_drop]
  rw [hs, List.getElem?_append_right (by omega), hl, Nat.add_sub_cancel_left, List.getElem?_append_left hi, List.getElem?_eq_getElem hi]
theorem PR.cells' {w : World} {pb L pc n : Nat} {pl : List (List UInt8)} (h : PR w pb L pc pl.flatten) (hn : ∀ l ∈ pl, l.length = n) (i : Nat) (hi : i < pl.length) : ∀ j u, (pl[i].map U8)[j]? = some u → w.cell? ((⟨pb, i * n, none⟩ : Addr).add j) = some u := by
  intro j u hu
  rw [List.getElem?_map, Option.map_eq_some_iff] at hu
  obtain ⟨b, hb, rfl⟩ := hu
  obtain ⟨hj, rfl⟩ := List.getElem?_eq_some_iff.1 hb
  have := h.2.cells (g := pb) rfl (i * n + j) (U8 pl[i][j]) (by rw [List.getElem?_map, flat_at' hn i hi j hj]; rfl)
  rw [add_none] at this ⊢
  rw [Nat.zero_add] at this
  exact this
set_option maxHeartbeats 1000000 in
set_option maxRecDepth 100000 in
theorem r_readNo (n c pb L pc g : Nat) (i : Int) (qv : Value) (lim : Bool) (more : Int) (r wn f : Nat) (w : World)
    (hb : w.heap[g]? = some (.cells (RC n c pb L pc qv r wn f lim more) 35 (0, 0))) (hi : ¬ (0 ≤ i ∧ i < c)) :
    Calls Try.prog 46 #[.pointer (some ⟨g, 0, none⟩), .int .i64 i] w fun e w' => e = .returned (.tuple #[.slice none 0 0, .int .i64 30]) ∧ w = w' := by
  have c1 : w.cell? ⟨g, 1, none⟩ = some (.int .i64 c) := blk_cell hb
  clear hb
  by_cases h0 : i < 0
  · go_enter Try.func46, Try.ntmps46
    go_wp2
    go_returns
    exact ⟨rfl, rfl⟩
  · have h1 : (c : Int) ≤ i := by omega
    have h2 : ¬ i < (c : Int) := by omega
    go_enter Try.func46, Try.ntmps46
    go_wp2
    go_returns
    exact ⟨rfl, rfl⟩
set_option maxHeartbeats 4000000 in
set_option maxRecDepth 100000 in
theorem r_read (n c pb L pc g m i : Nat) (qv : Value) (qs : List Value) (pl : List (List UInt8)) (pend : List (Nat × List UInt8)) (lim : Bool) (more : Int) (r wn f : Nat) (w : World)
    (hb : w.heap[g]? = some (.cells (RC n c pb L pc qv r wn f lim more) 35 (0, 0))) (hLe : L = n * c) (hp : PR w pb L pc pl.flatten) (hpl : pl.length = c) (hpn : ∀ l ∈ pl, l.length = n) (hq : w.ownsRow 0 58 2 qv m qs) (hpm : pend.length = m) (hN : RQ w c n qs pend)
    (hn1 : 1 ≤ n) (hn4 : n ≤ 4096) (hc4 : c ≤ 4096) (hm : m ≤ 4398046511104) (hr : r ≤ 4398046511104) (hi : i < c) (hil : i < (app pend pl).length) :
    Calls Try.prog 46 #[.pointer (some ⟨g, 0, none⟩), .int .i64 i] w fun e w' => ∃ go gc, e = .returned (.tuple #[.slice (some ⟨go, 0, none⟩) n gc, .int .i64 0]) ∧ w.heap.size ≤ go ∧ PR w' go n gc (app pend pl)[i] ∧ w'.heap[g]? = some (.cells (RC n c pb L pc qv (r + 1) wn f lim more) 35 (0, 0)) ∧ Kept (fun k => k = g) w w' := by
  obtain ⟨qa, qc, rfl⟩ := own_form hq
  have c0 : w.cell? ⟨g, 0, none⟩ = some (.int .i64 n) := blk_cell hb
  have c1 : w.cell? ⟨g, 1, none⟩ = some (.int .i64 c) := blk_cell hb
  have c2 : w.cell? ⟨g, 2, none⟩ = some (.slice (some ⟨pb, 0, none⟩) L pc) := blk_cell hb
  have c4 : w.cell? ⟨g, 4, none⟩ = some (.int .i64 r) := blk_cell hb
  have f4 : w.frozen? ⟨g, 4, none⟩ = false := blk_free hb
  obtain ⟨i5, hi5, hx0, hx1, hx2⟩ := info_parts info5
  have hne : pb ≠ g := fun e => own_apart hp.2 hb (by decide) (by rw [← e]; rfl)
  have ngq := own_apart hq hb (by decide)
  have K1 : Kept (fun k => k = g) w (w.setCell ⟨g, 4, none⟩ (.int .i64 ((r : Int) + 1))) := (Kept.refl (fun k => k = g) w).setCell (p := ⟨g, 4, none⟩) rfl _
  have hb1 : (w.setCell ⟨g, 4, none⟩ (.int .i64 ((r : Int) + 1))).heap[g]? = some (.cells (RC n c pb L pc (.slice qa m qc) (r + 1) wn f lim more) 35 (0, 0)) := blk_set (j := 4) hb _
  have hp1 := hp.kept K1 hne
  have hq1 := own_kept hq K1 (fun k hk e => ngq (by rw [hk, e]))
  have hung : ∀ u ∈ qs, ∀ i, u.ownBlock = some i → ¬ i = g := fun u hu i hi e => by
    obtain ⟨j, hj, rfl⟩ := List.getElem_of_mem hu
    have hql : qs.length = m * 2 := hq.1
    obtain ⟨v, a, b, d, _⟩ := hN (j / 2) (by omega)
    rcases Nat.mod_two_eq_zero_or_one j with hm | hm
    · rw [show j / 2 * 2 = j by omega, List.getElem?_eq_getElem hj] at a
      rw [Option.some.inj a] at hi
      cases hi
    · rw [show j / 2 * 2 + 1 = j by omega, List.getElem?_eq_getElem hj] at b
      rw [Option.some.inj b] at hi
      subst e
      exact own_apart d hb (by decide) hi
  have hN1 := hN.kept K1 hung
  have hgl := blk_lt hb
  have hs1 : (w.setCell ⟨g, 4, none⟩ (.int .i64 ((r : Int) + 1))).heap.size = w.heap.size := by simp [World.setCell]
  obtain ⟨w1, hw1⟩ : ∃ w1, w1 = w.setCell ⟨g, 4, none⟩ (.int .i64 ((r : Int) + 1)) := ⟨_, rfl⟩
  rw [← hw1] at K1 hb1 hp1 hq1 hN1 hs1
  have hii : i < pl.length := by omega
  have hpil : pl[i].length = n := hpn _ (List.getElem_mem _)
  have hbc : ∀ o, ∀ j u, (pl[i].map U8)[j]? = some u → (w1.alloc o).cell? ((⟨pb, i * n, none⟩ : Addr).add j) = some u := fun o => (hp1.kept (same_alloc w1 o) (fun h => h)).cells' hpn i hii
  have d0 : w1.cell? ⟨g, 0, none⟩ = some (.int .i64 n) := blk_cell hb1
  have d2 : w1.cell? ⟨g, 2, none⟩ = some (.slice (some ⟨pb, 0, none⟩) L pc) := blk_cell hb1
  have hX := off_le (n := n) hi
  have e1 : (i : Int) * (n : Int) = ((i * n : Nat) : Int) := (Int.natCast_mul _ _).symm
  have e4 : (i + 1) * n = i * n + n := by rw [Nat.add_mul, Nat.one_mul]
  have e2 : ((i : Int) + 1) * (n : Int) = (((i + 1) * n : Nat) : Int) := by rw [Int.natCast_mul]; rfl
  have hLL : L ≤ 16777216 := by rw [hLe]; have := Nat.mul_le_mul hn4 hc4; omega
  have hXL : i * n + n ≤ L := by rw [hLe]; exact hX
  have hpcL : L ≤ pc := by obtain ⟨cur, _, h1, h2, _⟩ := hp.open; omega
  generalize hX1 : i * n = X1 at *
  have e5 : IntKind.i64.wrap ((i : Int) * (n : Int)) = (X1 : Int) := by rw [e1, IntKind.wrap_i64]; omega
  have e6 : IntKind.i64.wrap (((i : Int) + 1) * (n : Int)) = ((X1 + n : Nat) : Int) := by rw [e2, e4, IntKind.wrap_i64]; omega
  have e7 : IntKind.i64.wrap ((i : Int) + 1) = (i : Int) + 1 := by rw [IntKind.wrap_i64]; omega
  have q0 : ¬ (i : Int) < 0 := by omega
  have q1 : ¬ (c : Int) ≤ (i : Int) := by omega
  have q2 : (i : Int) < (c : Int) := by omega
  have q3 : (0 : Int) ≤ (X1 : Int) := Int.natCast_nonneg _
  have q4 : (X1 : Int) ≤ (X1 : Int) + (n : Int) := by omega
  have q5 : (X1 : Int) + (n : Int) ≤ (pc : Int) := by omega
  have q6 : (X1 : Int) ≤ (pc : Int) := by omega
  have q7 : ¬ pc = X1 := by omega
  have e8 : ((X1 : Int) + (n : Int)).toNat = X1 + n := by omega
  have e9 : X1 + n - X1 = n := by omega
  have q8 : (0 : Int) ≤ (X1 : Int) + (n : Int) := by omega
  have HS1 := hidden hs1
  clear hs1
  have HB := hidden hb1
  have HP := hidden hp1
  have HQ := hidden hq1
  have HN := hidden hN1
  have KK := hidden K1
  have HBC := hidden hbc
  have HPN := hidden hpn
  have HPI := hidden hpil
  have HW1 := hidden hw1
  have HLE := hidden hLe
  have m3 : Hid (0 + n ≤ maxLen) := by rw [Hid]; unfold maxLen; omega
  have m4 : Hid ((0 + n) * 1 ≤ 140737488355328) := by rw [Hid]; omega
  clear hb hb1 hp hp1 hq hq1 hN hN1 hung K1 hbc hpn hpil hLe hX e1 e2 e4 ngq
  go_enter Try.func46, Try.ntmps46
  go_wp2
  rw [← hw1]
  clear hw1
  go_region_held3 (fun w' => w'.cell? ⟨g, 0, none⟩ = some (.int .i64 n) ∧ w'.cell? ⟨g, 2, none⟩ = some (.slice (some ⟨pb, 0, none⟩) L pc))
    (first | go_keep | (go_split_ands; exact ⟨by assumption, by assumption⟩))
    ((refine step_append_lies _ (by rfl) _ _ 22 (by rfl) w1.heap.size 5 i5 _ 1 1 Try.underlying22 hi5 hx0 hx1 hx2 rfl (by decide) _ _ _ (by rfl) (ownsRow_drew (World.ownsRow_made w1 #[] 0 (Nat.le_refl _) (by decide) (by decide))) ⟨pb, X1, none⟩ n (pc - X1) (pl[i].map U8) (by rfl) (by rw [List.length_map, HPI.out, Nat.mul_one]) (fun j u hu => HBC.out _ j u hu) (by intro u hu; obtain ⟨b, _, rfl⟩ := List.mem_map.1 hu; exact U8_one b) (by omega) m3.out m4.out (by simp) (w1.heap.size + 1) (by simp) ?_; intro go gc w2 hown2 hgrow2 hat2 hlt2; rw [Nat.zero_add, List.nil_append] at hown2; have k2 : Same w1 w2 := ((Kept.refl (fun _ => False) w1).alloc _).drew.grown hgrow2 (fun k hk hl => by simp [Value.ownBlock] at hk; omega); have hgu : w1.heap.size ≤ go := hat2.elim (fun h => by simp [Value.ownBlock] at h; omega) (fun h => by omega); have b2 := blk_kept k2 (fun h => h) HB.out; have r0 : w2.cell? ⟨g, 0, none⟩ = some (.int .i64 n) := blk_cell b2; have r2 : w2.cell? ⟨g, 2, none⟩ = some (.slice (some ⟨pb, 0, none⟩) L pc) := blk_cell b2; have O2 := hidden hown2; have B2 := hidden b2; have K2 := hidden k2; clear hown2 hgrow2 hat2 b2 k2))
  go_wp2
  have hR2 : PR w2 go n gc ((app (pend.take 0) pl)[i]'(by rw [app_len]; exact hii)) := ⟨HPI.out, by rw [List.take_zero]; exact own_base O2.out⟩
  have P2 := hidden hR2
  clear hR2
  go_loopw [7] (fun q wr => ∃ k : Nat, k ≤ m ∧ q = .int .i64 k ∧ PR wr go n gc ((app (pend.take k) pl)[i]'(by rw [app_len]; exact hii)) ∧ Kept (fun x => x = go) w2 wr) (fun q wr => m - (intOf q).toNat)
  case atStart => exact ⟨0, Nat.zero_le _, rfl, P2.out, Kept.refl _ _⟩
  case round =>
    obtain ⟨k, hk, rfl, hP, hK⟩ := hrel
    have HPk := hidden hP
    have HK := hidden hK
    have hgg : g ≠ go := by have := blk_lt HB.out; omega
    have hb := blk_kept hK hgg B2.out
    have d3 : wr.cell? ⟨g, 3, none⟩ = some (.slice qa m qc) := blk_cell hb
    have HBk := hidden hb
    clear hP hK hb
    by_cases hlt : k < m
    · obtain ⟨u, n1, n2, n4, n3, n5⟩ := HN.out k (by omega)
      have happ := app_succ pend pl k (by omega)
      obtain ⟨N, hNe⟩ : ∃ N, pend[k].1 = N := ⟨_, rfl⟩
      obtain ⟨lk, hLk⟩ : ∃ lk, pend[k].2 = lk := ⟨_, rfl⟩
      rw [hNe, hLk] at happ
      rw [hNe] at n1 n3
      rw [hLk] at n4 n5
      have hnext : (app (pend.take (k + 1)) pl)[i]'(by rw [app_len]; exact hii) = if N = i then lk else (app (pend.take k) pl)[i]'(by rw [app_len]; exact hii) := by
        simp only [happ]
        rw [List.getElem_set]
      have HNX := hidden hnext
      have hug : Hid (∀ q, u.ownBlock = some q → ¬ q = go) := fun q hq e => by have := (n4.lt q hq).2; omega
      have n4' := (n4.kept K2.out (fun _ _ h => h)).kept HK.out hug.out
      have U4 := hidden n4'
      obtain ⟨va, y, rfl⟩ := n4.byt.form
      rw [n5] at n2 U4
      have HN5 := hidden n5
      obtain ⟨gq, rfl⟩ : ∃ gq : Nat, qa = some ⟨gq, 0, none⟩ := by
        rcases HQ.out.2 with ⟨_, h⟩ | ⟨gq, cap, cur, h, _⟩
        · omega
        · exact ⟨gq, by simpa using (Value.slice.inj h).1⟩
      have hqg : gq ≠ go := by have := (HQ.out.lt gq rfl).2; omega
      have hqr := own_kept (own_kept HQ.out K2.out (fun _ _ h => h)) HK.out (fun q hq e => by simp [Value.ownBlock] at hq; omega)
      have z1 := hqr.cells (g := gq) rfl (k * 2) _ n1
      have z2 := hqr.cells (g := gq) rfl (k * 2 + 1) _ n2
      rw [add_none, Nat.zero_add] at z1 z2
      have p0 : (0 : Int) ≤ (k : Int) := Int.natCast_nonneg _
      have p1 : (k : Int) < (m : Int) := by omega
      clear hqr n1 n2 n4 n4' n5 happ hNe hLk hnext
      by_cases hNi : N = i
      · have e10 : ((N : Int) == (i : Int)) = true := by simp; omega
        have e11 : (N : Int) = (i : Int) := by omega
        obtain ⟨cur, hg, hs, hgc, hml, ht⟩ := HPk.out.open
        have hcp := fun ty => copy_put wr ty go n gc 0 n cur lk _ hg hs U4.out.byt HN5.out hn1 (by omega)
        rw [Nat.sub_zero, Nat.sub_zero] at hcp
        obtain ⟨x1, x2⟩ := putX_ok (off := 0) HN5.out (by omega) hs ht
        have hpl0 : ∀ bs : List UInt8, bs.length = n → putL bs 0 n lk = lk := fun bs hb => by unfold putL; rw [List.take_zero, List.nil_append, List.drop_of_length_le (by omega), List.append_nil]
        rw [hpl0 _ HPk.out.1] at x2
        have HF : Hid (PR (wr.setRow go (putX cur 0 n lk)) go n gc lk ∧ Kept (fun x => x = go) wr (wr.setRow go (putX cur 0 n lk))) := ⟨PR.mk' HN5.out (setRow_heap _ _ _ _ _ _ hg) (by omega) (by omega) hml x2, ⟨rfl, rfl, rfl, by simp, fun q hq hs => setRow_other _ _ _ _ (fun e => hs e)⟩⟩
        generalize putX cur 0 n lk = X at hcp HF
        clear hg hs hgc hml ht x1 x2 hpl0
        go_wp2
        go_roundw
        case rel => exact ⟨k + 1, by omega, by go_num, by rw [HNX.out, if_pos hNi]; exact HF.out.1, HK.out.trans HF.out.2⟩
        case measure => simp [intOf]; omega
      · have e10 : ((N : Int) == (i : Int)) = false := by simp; omega
        have e11 : (N : Int) ≠ (i : Int) := by omega
        go_wp2
        go_roundw
        case rel => exact ⟨k + 1, by omega, by go_num, by rw [HNX.out, if_neg hNi]; exact HPk.out, HK.out⟩
        case measure => simp [intOf]; omega
    · have z1 : ¬ (k : Int) < (m : Int) := by omega
      go_wp2
      go_returns
      have hy := HPk.out
      obtain rfl : k = m := by omega
      have ht : pend.take k = pend := List.take_of_length_le (by omega)
      refine ⟨go, gc, rfl, by have := HS1.out; omega, ?_, HBk.out, KK.out.trans' ((K2.out.mono (fun _ _ h => h.elim)).trans' HK.out (fun q hq e => by omega)) (fun _ _ h => h)⟩
      have e : (app (pend.take k) pl)[i]'(by rw [app_len]; exact hii) = (app pend pl)[i] := by simp only [ht]
      rw [← e]
      exact hy
end Go.Proofs.Yteoajgphahobiaa
