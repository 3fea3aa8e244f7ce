/- The document's disk: Crash that is taken. -/
import Derived.Test.YteoajgphahobiaaR6
namespace Go.Proofs.Yteoajgphahobiaa
open Go.RowKit
set_option linter.unusedVariables false
set_option maxHeartbeats 4000000 in
set_option maxRecDepth 100000 in
theorem r_crash (n c pb L pc g m : Nat) (kv : Value) (ks : List Int) (qv : Value) (qs : List Value) (pl : List (List UInt8)) (pend sel : List (Nat × List UInt8)) (lim : Bool) (more : Int) (r wn f : Nat) (w : World) (hk : Ints w kv ks) (hkb : ∀ a k c, kv = .slice (some a) k c → 0 < k → a.block ≠ pb ∧ a.block ≠ g) (hl : ks.length ≤ 140737488355328)
    (hb : w.heap[g]? = some (.cells (RC n c pb L pc qv r wn f lim more) 35 (0, 0))) (hLe : L = n * c) (hp : PR w pb L pc pl.flatten) (hpl : pl.length = c) (hpn : ∀ l ∈ pl, l.length = n) (hq : w.ownsRow 0 58 2 qv m qs) (hpm : pend.length = m) (hN : RQ w c n qs pend)
    (hav : ∀ u ∈ qs, u.ownBlock ≠ some pb) (hsl : sel.length = ks.length) (hse : ∀ k (h : k < ks.length) (h' : k < sel.length) (j : Nat), ks[k] = (j : Int) → ∃ h2 : j < pend.length, sel[k] = pend[j]) (hn1 : 1 ≤ n) (hn4 : n ≤ 4096) (hc4 : c ≤ 4096) (hm : m ≤ 4398046511104) (hy : mayB m 0 ks = true) :
    Calls Try.prog 49 #[.pointer (some ⟨g, 0, none⟩), kv] w fun e w' => e = .returned (.int .i64 0) ∧ w'.heap[g]? = some (.cells (RC n c pb L pc (.slice none 0 0) r wn f false 0) 35 (0, 0)) ∧ PR w' pb L pc (app sel pl).flatten ∧ Kept (fun k => k = g ∨ k = pb) w w' := by
  obtain ⟨a, cap, rfl⟩ := hk.form
  obtain ⟨qa, qc, rfl⟩ := own_form hq
  have c3 : w.cell? ⟨g, 3, none⟩ = some (.slice qa m qc) := blk_cell hb
  have hall := mayB_all m ks 0 (Int.le_refl _) hy
  have hstp := mayB_step m ks 0 hy
  have HKS := hidden hk
  have HKB := hidden hkb
  have HB := hidden hb
  have HQ := hidden hq
  have HN := hidden hN
  have HP := hidden hp
  have HAV := hidden hav
  have HPN := hidden hpn
  have HALL := hidden hall
  have HST := hidden hstp
  have HSE := hidden hse
  have HLE := hidden hLe
  have hne : pb ≠ g := fun e => own_apart hp.2 hb (by decide) (by rw [← e]; rfl)
  have hne2 : g ≠ pb := hne.symm
  have hqp := hidden (own_rows hq hp.2 (by decide))
  have hLL : L ≤ 16777216 := by rw [hLe]; have := Nat.mul_le_mul hn4 hc4; omega
  have hsn : ∀ k (h : k < sel.length), sel[k].2.length = n := fun k h => by
    have hk' : k < ks.length := by omega
    obtain ⟨h0, _⟩ := hall _ (List.getElem_mem hk')
    obtain ⟨j, hj⟩ := Int.eq_ofNat_of_zero_le h0
    obtain ⟨h2, e⟩ := hse k hk' h j hj
    obtain ⟨_, _, _, _, _, hl⟩ := hN j h2
    rw [e]
    exact hl
  have HSN := hidden hsn
  clear hb hq hN hp hav hpn hk hkb hall hstp hse hLe hsn
  go_enter Try.func49, Try.ntmps49
  go_wp2
  go_loopw [5] (fun i wr => ∃ k : Nat, k ≤ ks.length ∧ i = .int .i64 k ∧ Same w wr) (fun i wr => ks.length - (intOf i).toNat)
  case atStart => exact ⟨0, Nat.zero_le _, rfl, Kept.refl _ _⟩
  case round =>
    obtain ⟨k, hk, rfl, hS⟩ := hrel
    have SA := hidden hS
    have d3 : wr.cell? ⟨g, 3, none⟩ = some (.slice qa m qc) := Kept.cell hS (fun h => h) c3
    by_cases hlt : k < ks.length
    · rcases HKS.out with ⟨_, h0'⟩ | ⟨b1, e1', e1, hc1⟩
      · rw [h0'] at hlt; simp at hlt
      obtain ⟨rfl, rfl⟩ : a = some b1 ∧ cap = e1' := by simpa using e1
      have x1 := Kept.cell hS (fun h => h) (hc1 k hlt)
      have q0 : (0 : Int) ≤ (k : Int) := Int.natCast_nonneg _
      have q1 : (k : Int) < (ks.length : Int) := by omega
      obtain ⟨z, hz⟩ : ∃ z, ks[k] = z := ⟨_, rfl⟩
      obtain ⟨h1, h2⟩ := HALL.out _ (List.getElem_mem hlt)
      rw [hz] at x1 h1 h2
      have bb0 : decide (z < 0) = false := by simp; omega
      have bb1 : decide ((m : Int) ≤ z) = false := by simp; omega
      have h1' : ¬ z < 0 := by omega
      have h2' : ¬ (m : Int) ≤ z := by omega
      by_cases hk0 : k = 0
      · have bb2 : decide ((0 : Int) < (k : Int)) = false := by simp; omega
        have bb3 : decide (0 < k) = false := by simp; omega
        have h3 : ¬ (0 : Int) < (k : Int) := by omega
        clear hS hz hc1 e1 hk0
        go_wp2
        go_quiet (fail)
        go_wp2
        go_roundw
        case rel => exact ⟨k + 1, by omega, by go_num, SA.out.drewN _⟩
        case measure => simp [intOf]; omega
      · obtain ⟨j, hj⟩ : ∃ j, k = j + 1 := ⟨k - 1, by omega⟩
        have hjl : j < ks.length := by omega
        have x0 := Kept.cell hS (fun h => h) (hc1 j hjl)
        have hjk := HST.out j (by omega)
        obtain ⟨y, hy'⟩ : ∃ y, ks[j] = y := ⟨_, rfl⟩
        have hz' : ks[j + 1]'(by omega) = z := by rw [← hz]; congr 1; omega
        rw [hy', hz'] at hjk
        rw [hy'] at x0
        have e5 : IntKind.i64.wrap ((k : Int) - 1) = (j : Int) := by rw [IntKind.wrap_i64]; omega
        have e6 : ((k : Int) - 1) = (j : Int) := by omega
        have e7 : (0 : Int) < (k : Int) := by omega
        have e8 : (0 : Int) ≤ (j : Int) := by omega
        have e9 : (j : Int) < (ks.length : Int) := by omega
        have bb2 : decide ((0 : Int) < (k : Int)) = true := by simp; omega
        have bb3 : decide (0 < k) = true := by simp; omega
        have bb4 : decide (z ≤ y) = false := by simp; omega
        have h4 : ¬ z ≤ y := by omega
        clear hS hz hz' hc1 e1 hj hk0 hy'
        go_wp2
        go_quiet (fail)
        go_wp2
        go_roundw
        case rel => exact ⟨k + 1, by omega, by go_num, SA.out.drewN _⟩
        case measure => simp [intOf]; omega
    · have q1 : ¬ (k : Int) < (ks.length : Int) := by omega
      obtain ⟨w2, hw2⟩ : ∃ w2, w2 = wr := ⟨_, rfl⟩
      subst hw2
      clear hS
      go_wp2
      go_loopw [6] (fun i wr => ∃ k2 : Nat, k2 ≤ ks.length ∧ i = .int .i64 k2 ∧ PR wr pb L pc (app (sel.take k2) pl).flatten ∧ Kept (fun x => x = pb) w wr) (fun i wr => ks.length - (intOf i).toNat)
      case atStart => exact ⟨0, Nat.zero_le _, rfl, HP.out.kept SA.out (fun h => h), SA.out.mono (fun _ _ h => h.elim)⟩
      case round =>
        obtain ⟨k2, hk2, rfl, hyn, hK⟩ := hrel
        have hb := blk_kept hK (fun e => hne2 e) HB.out
        have d3 : wr.cell? ⟨g, 3, none⟩ = some (.slice qa m qc) := blk_cell hb
        have d7 : wr.cell? ⟨g, 7, none⟩ = some (.bool lim) := blk_cell hb
        have d8 : wr.cell? ⟨g, 8, none⟩ = some (.int .i64 more) := blk_cell hb
        have f3 : wr.frozen? ⟨g, 3, none⟩ = false := blk_free hb
        have f7 : wr.frozen? ⟨g, 7, none⟩ = false := blk_free hb
        have f8 : wr.frozen? ⟨g, 8, none⟩ = false := blk_free hb
        have HB1 := hidden hb
        have HK := hidden hK
        have HYN := hidden hyn
        clear hb hK hyn
        by_cases hlt : k2 < ks.length
        · rcases HKS.out with ⟨_, h0'⟩ | ⟨b1, e1', e1, hc1⟩
          · rw [h0'] at hlt; simp at hlt
          obtain ⟨rfl, rfl⟩ : a = some b1 ∧ cap = e1' := by simpa using e1
          obtain ⟨hb1, hb2⟩ := HKB.out b1 _ _ rfl (by omega)
          have x1 := Kept.cell HK.out (p := b1.add k2) (by rw [add_block]; exact hb1) (hc1 k2 hlt)
          obtain ⟨hz0, hz1⟩ := HALL.out _ (List.getElem_mem hlt)
          obtain ⟨j, hj⟩ := Int.eq_ofNat_of_zero_le hz0
          rw [hj] at x1 hz1
          have hjm : j < m := by omega
          obtain ⟨u, n1, n2, n4, n3, n5⟩ := HN.out j (by omega)
          obtain ⟨_, hsk⟩ := HSE.out k2 hlt (by omega) j hj
          have happ := app_succ sel pl k2 (by omega)
          rw [hsk] at happ
          obtain ⟨N, hNe⟩ : ∃ N, pend[j].1 = N := ⟨_, rfl⟩
          obtain ⟨lk, hLk⟩ : ∃ lk, pend[j].2 = lk := ⟨_, rfl⟩
          rw [hNe, hLk] at happ
          rw [hNe] at n1 n3
          rw [hLk] at n4 n5
          have hpt : ∀ l ∈ app (sel.take k2) pl, l.length = n := app_n _ _ HPN.out (fun x hx => by
            obtain ⟨q, hq, rfl⟩ := List.getElem_of_mem (List.mem_of_mem_take hx)
            exact HSN.out q hq)
          have hfs := flat_set hpt N (by rw [app_len, hpl]; exact n3) lk n5
          rw [← happ] at hfs
          have HAP := hidden hfs
          have hum := List.mem_of_getElem? n2
          have n4' := n4.kept HK.out (fun i hi e => HAV.out u hum (by rw [hi, e]))
          have hput := fun (W : World) (kW : Same wr W) => r_put n c pb L pc g N (N * n) _ r wn f lim more _ lk u W (blk_kept kW (fun h => h) HB1.out) (HYN.out.kept kW (fun h => h)) (n4'.byt.same kW) n5 hn1 rfl (by rw [HLE.out]; exact off_le n3) hLL
          obtain ⟨va, y, rfl⟩ := n4.byt.form
          rw [n5] at hput
          have HPUT := hidden hput
          rw [n5] at n2
          clear happ hNe hLk hput hfs n4 n4' hpt hum hsk
          obtain ⟨gq, rfl⟩ : ∃ gq : Nat, qa = some ⟨gq, 0, none⟩ := by
            rcases HQ.out.2 with ⟨_, h⟩ | ⟨gq, cap, cur, h, _⟩
            · omega
            · exact ⟨gq, by simpa using (Value.slice.inj h).1⟩
          have hqp2 : gq ≠ pb := fun e => by
            rcases hqp.out with h | h
            · cases h
            · exact h (by rw [e]; rfl)
          have hqr := own_kept HQ.out HK.out (fun i hi e => by simp [Value.ownBlock] at hi; omega)
          have z1 := hqr.cells (g := gq) rfl (j * 2) _ n1
          have z2 := hqr.cells (g := gq) rfl (j * 2 + 1) _ n2
          rw [add_none, Nat.zero_add] at z1 z2
          have q0 : (0 : Int) ≤ (k2 : Int) := Int.natCast_nonneg _
          have q1' : (k2 : Int) < (ks.length : Int) := by omega
          have q2 : (0 : Int) ≤ (j : Int) := Int.natCast_nonneg _
          have q3 : (j : Int) < (m : Int) := by omega
          clear hqr n1 n2 hc1 e1 hj hz0 hz1
          go_wp2
          go_region_held3 (fun w' => w'.cell? ⟨g, 3, none⟩ = some (.slice (some ⟨gq, 0, none⟩) m qc) ∧ w'.cell? (b1.add k2) = some (.int .i64 j) ∧ w'.cell? ⟨gq, j * 2, none⟩ = some (.int .i64 N) ∧ w'.cell? ⟨gq, j * 2 + 1, none⟩ = some (.slice va n y))
            (first | go_keep | (go_split_ands; exact ⟨by assumption, by assumption, by assumption, by assumption⟩))
            ((go_at_call 57; refine (HPUT.out _ ((Kept.refl _ wr).drew)).mono ?_; rintro e w4 ⟨rfl, p4, k4'⟩; have k4 : Kept (fun x => x = pb) wr w4 := Kept.trans ((Kept.refl _ wr).drew) k4'; have P4 := hidden p4; have K4 := hidden k4; have r3 : w4.cell? ⟨g, 3, none⟩ = some (.slice (some ⟨gq, 0, none⟩) m qc) := Kept.cell k4 hne2 d3; have rx : w4.cell? (b1.add k2) = some (.int .i64 j) := Kept.cell k4 (by rw [add_block]; exact hb1) x1; have r1 : w4.cell? ⟨gq, j * 2, none⟩ = some (.int .i64 N) := Kept.cell k4 hqp2 z1; have r2 : w4.cell? ⟨gq, j * 2 + 1, none⟩ = some (.slice va n y) := Kept.cell k4 hqp2 z2; clear p4 k4' k4))
          all_goals
            go_wp2
            go_roundw
            case rel => exact ⟨k2 + 1, by omega, by go_num, by rw [HAP.out]; exact P4.out, HK.out.trans K4.out⟩
            case measure => simp [intOf]; omega
        · have q1' : ¬ (k2 : Int) < (ks.length : Int) := by omega
          go_wp2
          go_returns
          have KW : Kept (fun x => x = g) wr (((wr.setCell ⟨g, 3, none⟩ (.slice none 0 0)).setCell ⟨g, 7, none⟩ (.bool false)).setCell ⟨g, 8, none⟩ (.int .i64 0)) := (((Kept.refl (fun x => x = g) wr).setCell (p := ⟨g, 3, none⟩) rfl _).setCell (p := ⟨g, 7, none⟩) rfl _).setCell (p := ⟨g, 8, none⟩) rfl _
          have hy' := HYN.out
          rw [List.take_of_length_le (by omega)] at hy'
          exact ⟨rfl, blk_set (j := 8) (blk_set (j := 7) (blk_set (j := 3) HB1.out _) _) _, hy'.kept KW hne, (HK.out.mono (T := fun k => k = g ∨ k = pb) (fun _ _ h => Or.inr h)).trans' KW (fun _ _ h => Or.inl h)⟩
end Go.Proofs.Yteoajgphahobiaa
