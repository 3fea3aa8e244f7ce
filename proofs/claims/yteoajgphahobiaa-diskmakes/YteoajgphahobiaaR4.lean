/- The document's disk: Flush. -/
import Derived.Test.YteoajgphahobiaaR3
namespace Go.Proofs.Yteoajgphahobiaa
open Go.RowKit
set_option linter.unusedVariables false
theorem flat_set {n : Nat} {pl : List (List UInt8)} (hn : ∀ l ∈ pl, l.length = n) (N : Nat) (hN : N < pl.length) (l : List UInt8) (hl : l.length = n) : (pl.set N l).flatten = putL pl.flatten (N * n) n l := by
  have ht : (pl.take N).flatten.length = N * n := by rw [flat_len (n := n) (fun l h => hn l (List.mem_of_mem_take h)), List.length_take, Nat.min_eq_left (by omega)]
  have hs : pl.flatten = (pl.take N).flatten ++ (pl[N] ++ (pl.drop (N + 1)).flatten) := by
    rw [← List.flatten_cons, ← List.flatten_append, ← List.drop_eq_getElem_cons hN, List.take_append_drop]
  have hNl : pl[N].length = n := hn _ (List.getElem_mem _)
  have h2 : ((pl.take N).flatten ++ pl[N]).length = N * n + n := by rw [List.length_append, ht, hNl]
  have e1 : pl.flatten.take (N * n) = (pl.take N).flatten := by rw [hs, List.take_left' ht]
  have e2 : pl.flatten.drop (N * n + n) = (pl.drop (N + 1)).flatten := by rw [hs, ← List.append_assoc, List.drop_left' h2]
  unfold putL
  rw [e1, e2, List.set_eq_take_append_cons_drop, if_pos hN, List.flatten_append, List.flatten_cons, List.append_assoc]
/-- The pending writes of the document's Disk. -/
def RQ (w : World) (c n : Nat) (qs : List Value) (pend : List (Nat × List UInt8)) : Prop :=
  ∀ k (h : k < pend.length), ∃ u, qs[k * 2]? = some (.int .i64 (pend[k].1 : Nat)) ∧ qs[k * 2 + 1]? = some u ∧ RB w u pend[k].2 ∧ pend[k].1 < c ∧ pend[k].2.length = n
theorem RQ.kept {w w' : World} {c n : Nat} {qs : List Value} {pend : List (Nat × List UInt8)} {S : Nat → Prop} (h : RQ w c n qs pend) (k : Kept S w w') (hs : ∀ u ∈ qs, ∀ i, u.ownBlock = some i → ¬ S i) : RQ w' c n qs pend :=
  fun j hj => let ⟨u, a, b, d, e, f⟩ := h j hj; ⟨u, a, b, d.kept k (hs u (List.mem_of_getElem? b)), e, f⟩
theorem PR.kept {w w' : World} {pb L pc : Nat} {bs : List UInt8} {S : Nat → Prop} (h : PR w pb L pc bs) (k : Kept S w w') (hs : ¬ S pb) : PR w' pb L pc bs := ⟨h.1, own_kept h.2 k (fun i hi => by simp [Value.ownBlock] at hi; subst hi; exact hs)⟩
theorem off_le {N c n : Nat} (h : N < c) : N * n + n ≤ n * c := by
  have h1 : (N + 1) * n ≤ c * n := Nat.mul_le_mul_right _ (by omega)
  rw [Nat.add_mul, Nat.one_mul, Nat.mul_comm c n] at h1
  exact h1
set_option maxHeartbeats 2000000 in
set_option maxRecDepth 100000 in
theorem r_flush (n c pb L pc g m : Nat) (qv : Value) (qs : List Value) (pl : List (List UInt8)) (pend : List (Nat × List UInt8)) (lim : Bool) (more : Int) (hng : ¬ (lim = true ∧ more = 0)) (h0 : lim = true → 0 ≤ more) (h1 : more ≤ 9223372036854775807) (r wn f : Nat) (w : World)
    (hb : w.heap[g]? = some (.cells (RC n c pb L pc qv r wn f lim more) 35 (0, 0))) (hLe : L = n * c) (hp : PR w pb L pc pl.flatten) (hpl : pl.length = c) (hpn : ∀ l ∈ pl, l.length = n) (hq : w.ownsRow 0 58 2 qv m qs) (hpm : pend.length = m) (hN : RQ w c n qs pend)
    (hav : ∀ u ∈ qs, u.ownBlock ≠ some pb) (hn1 : 1 ≤ n) (hn4 : n ≤ 4096) (hc4 : c ≤ 4096) (hm : m ≤ 4398046511104) (hf : f ≤ 4398046511104) :
    Calls Try.prog 47 #[.pointer (some ⟨g, 0, none⟩)] w fun e w' => e = .returned (.int .i64 m) ∧ w'.heap[g]? = some (.cells (RC n c pb L pc (.slice none 0 0) r wn (f + 1) lim (spL lim more)) 35 (0, 0)) ∧ PR w' pb L pc (app pend pl).flatten ∧ Kept (fun k => k = g ∨ k = pb) w w' := by
  obtain ⟨qa, qc, rfl⟩ := own_form hq
  have c3 : w.cell? ⟨g, 3, none⟩ = some (.slice qa m qc) := blk_cell hb
  have G := hidden (r_goneNo n c pb L pc g _ r wn f lim more hng h0 h1 w hb)
  have HB0 := hidden hb
  have HQ0 := hidden hq
  have HN0 := hidden hN
  have HP0 := hidden hp
  have HAV := hidden hav
  have HPN := hidden hpn
  have hne : pb ≠ g := fun e => own_apart hp.2 hb (by decide) (by rw [← e]; rfl)
  have hne2 : g ≠ pb := hne.symm
  have ngq := hidden (own_apart hq hb (by decide))
  have hqp := hidden (own_rows hq hp.2 (by decide))
  have hLL : L ≤ 16777216 := by rw [hLe]; have := Nat.mul_le_mul hn4 hc4; omega
  have hung : Hid (∀ u ∈ qs, ∀ i, u.ownBlock = some i → ¬ i = g) := fun u hu i hi e => by
    obtain ⟨j, hj, rfl⟩ := List.getElem_of_mem hu
    have hql : qs.length = m * 2 := hq.1
    obtain ⟨v, a, b, d, _⟩ := hN (j / 2) (by omega)
    rcases Nat.mod_two_eq_zero_or_one j with hm | hm
    · rw [show j / 2 * 2 = j by omega, List.getElem?_eq_getElem hj] at a
      rw [Option.some.inj a] at hi
      cases hi
    · rw [show j / 2 * 2 + 1 = j by omega, List.getElem?_eq_getElem hj] at b
      rw [Option.some.inj b] at hi
      subst e
      exact own_apart d hb (by decide) hi
  have HLE := hidden hLe
  clear hb hq hN hp hav hpn hng h0 h1 hLe
  go_enter Try.func47, Try.ntmps47
  go_wp2_with (go_at_call 56; refine (G.out).mono ?_; rintro e w1 ⟨rfl, b1, k1⟩; have HB := hidden b1; have d3' : w1.cell? ⟨g, 3, none⟩ = some (.slice qa m qc) := blk_cell b1; have HP := hidden (HP0.out.kept k1 hne); have HQ := hidden (own_kept HQ0.out k1 (fun k hk e => ngq.out (by rw [hk, e]))); have HN := hidden (HN0.out.kept k1 hung.out); have KK := hidden k1; clear b1 k1 G)
  go_loopw [4] (fun i wr => ∃ k : Nat, k ≤ m ∧ i = .int .i64 k ∧ PR wr pb L pc (app (pend.take k) pl).flatten ∧ Kept (fun x => x = pb) w1 wr) (fun i wr => m - (intOf i).toNat)
  case atStart => exact ⟨0, Nat.zero_le _, rfl, HP.out, Kept.refl _ _⟩
  case round =>
    obtain ⟨k, hk, rfl, hyn, hK⟩ := hrel
    have hb := blk_kept hK (fun e => hne2 e) HB.out
    have d3 : wr.cell? ⟨g, 3, none⟩ = some (.slice qa m qc) := blk_cell hb
    have d6 : wr.cell? ⟨g, 6, none⟩ = some (.int .i64 f) := blk_cell hb
    have f3 : wr.frozen? ⟨g, 3, none⟩ = false := blk_free hb
    have f6 : wr.frozen? ⟨g, 6, none⟩ = false := blk_free hb
    have HB1 := hidden hb
    have HK := hidden hK
    have HYN := hidden hyn
    clear hb hK hyn
    by_cases hlt : k < m
    · obtain ⟨u, n1, n2, n4, n3, n5⟩ := HN.out k (by omega)
      have happ := app_succ pend pl k (by omega)
      obtain ⟨N, hNe⟩ : ∃ N, pend[k].1 = N := ⟨_, rfl⟩
      obtain ⟨lk, hLk⟩ : ∃ lk, pend[k].2 = lk := ⟨_, rfl⟩
      rw [hNe, hLk] at happ
      rw [hNe] at n1 n3
      rw [hLk] at n4 n5
      have hpt : ∀ l ∈ app (pend.take k) pl, l.length = n := app_n _ _ HPN.out (fun x hx => by
        obtain ⟨j, hj, rfl⟩ := List.getElem_of_mem (List.mem_of_mem_take hx)
        obtain ⟨_, _, _, _, _, hl⟩ := HN.out j hj
        exact hl)
      have hfs := flat_set hpt N (by rw [app_len, hpl]; exact n3) lk n5
      rw [← happ] at hfs
      have HAP := hidden hfs
      have hum := List.mem_of_getElem? n2
      have n4' := n4.kept HK.out (fun i hi e => HAV.out u hum (by rw [hi, e]))
      have hput := r_put n c pb L pc g N (N * n) _ r wn f lim (spL lim more) _ lk u wr HB1.out HYN.out n4'.byt n5 hn1 rfl (by rw [HLE.out]; exact off_le n3) hLL
      obtain ⟨a, y, rfl⟩ := n4.byt.form
      rw [n5] at hput
      have HPUT := hidden hput
      rw [n5] at n2
      clear happ hNe hLk hput hfs n4 n4' hpt hum
      obtain ⟨gq, rfl⟩ : ∃ gq : Nat, qa = some ⟨gq, 0, none⟩ := by
        rcases HQ.out.2 with ⟨_, h⟩ | ⟨gq, cap, cur, h, _⟩
        · omega
        · exact ⟨gq, by simpa using (Value.slice.inj h).1⟩
      have hqp2 : gq ≠ pb := fun e => by
        rcases hqp.out with h | h
        · cases h
        · exact h (by rw [e]; rfl)
      have hqr := own_kept HQ.out HK.out (fun i hi e => by simp [Value.ownBlock] at hi; omega)
      have z1 := hqr.cells (g := gq) rfl (k * 2) _ n1
      have z2 := hqr.cells (g := gq) rfl (k * 2 + 1) _ n2
      rw [add_none, Nat.zero_add] at z1 z2
      have q0 : (0 : Int) ≤ (k : Int) := Int.natCast_nonneg _
      have q1 : (k : Int) < (m : Int) := by omega
      clear hqr n1 n2
      go_wp2_with (go_at_call 57; refine (HPUT.out).mono ?_; rintro e w2 ⟨rfl, p2, k2⟩; have P2 := hidden p2; have K2 := hidden k2; clear p2 k2)
      go_roundw
      case rel => exact ⟨k + 1, by omega, by go_num, by rw [HAP.out]; exact P2.out, HK.out.trans K2.out⟩
      case measure => simp [intOf]; omega
    · have q1 : ¬ (k : Int) < (m : Int) := by omega
      go_wp2
      go_returns
      have KW : Kept (fun x => x = g) wr ((wr.setCell ⟨g, 3, none⟩ (.slice none 0 0)).setCell ⟨g, 6, none⟩ (.int .i64 ((f : Int) + 1))) := ((Kept.refl (fun x => x = g) wr).setCell (p := ⟨g, 3, none⟩) rfl _).setCell (p := ⟨g, 6, none⟩) rfl _
      have hy := HYN.out
      rw [List.take_of_length_le (by omega)] at hy
      refine ⟨rfl, blk_set (j := 6) (blk_set (j := 3) HB1.out _) _, hy.kept KW hne, (KK.out.mono (T := fun k => k = g ∨ k = pb) (fun _ _ h => Or.inl h)).trans' ((HK.out.mono (T := fun k => k = g ∨ k = pb) (fun _ _ h => Or.inr h)).trans' KW (fun _ _ h => Or.inl h)) (fun _ _ h => h)⟩
set_option maxHeartbeats 1000000 in
set_option maxRecDepth 100000 in
theorem r_flushOff (n c pb L pc g m qc : Nat) (qa : Option Addr) (r wn f : Nat) (w : World)
    (hb : w.heap[g]? = some (.cells (RC n c pb L pc (.slice qa m qc) r wn f true 0) 35 (0, 0))) :
    Calls Try.prog 47 #[.pointer (some ⟨g, 0, none⟩)] w fun e w' => e = .returned (.int .i64 m) ∧ w = w' := by
  have c3 : w.cell? ⟨g, 3, none⟩ = some (.slice qa m qc) := blk_cell hb
  have G := hidden (r_goneYes g w (blk_cell hb) (blk_cell hb))
  clear hb
  go_enter Try.func47, Try.ntmps47
  go_wp2_with (go_at_call 56; refine (G.out).mono ?_; rintro e w1 ⟨rfl, rfl⟩)
  go_returns
  exact ⟨rfl, rfl⟩
end Go.Proofs.Yteoajgphahobiaa
