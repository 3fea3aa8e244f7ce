/- disk's Crash, told exactly. -/
import Derived.Test.YteoajgphahobiaaX2
namespace Go.Proofs.Yteoajgphahobiaa
open Go.RowKit
set_option linter.unusedVariables false
/-- What is read behind a crash: of each sector that had a pending write what the platter has. -/
def rd (pl : List (List UInt8)) (pend : List (Nat × List UInt8)) (rl : List (List UInt8)) : List (List UInt8) := pend.foldl (fun r x => r.set x.1 (pl.getD x.1 [])) rl
theorem rd_succ (pl : List (List UInt8)) (pend : List (Nat × List UInt8)) (rl : List (List UInt8)) (k : Nat) (h : k < pend.length) : rd pl (pend.take (k + 1)) rl = (rd pl (pend.take k) rl).set pend[k].1 (pl.getD pend[k].1 []) := by
  unfold rd
  rw [List.take_add_one, List.getElem?_eq_getElem h, Option.toList_some, List.foldl_append]
  rfl
structure CrashedX (n pb c pc rb rc g : Nat) (pl rl : List (List UInt8)) (pend sel : List (Nat × List UInt8)) (r wn f : Nat) (w w' : World) : Prop where
  ex : ∃ ys zs, w'.heap[g]? = some (.cells (DC n pb c pc rb rc (.slice none 0 0) r wn f) 74 (0, 0)) ∧ w'.ownsRow 0 22 1 (.slice (some ⟨pb, 0, none⟩) c pc) c ys ∧ LL w' ys (app sel pl) ∧
    w'.ownsRow 0 22 1 (.slice (some ⟨rb, 0, none⟩) c rc) c zs ∧ LL w' zs (rd (app sel pl) pend rl) ∧ Kept (fun k => k = g ∨ k = pb ∨ k = rb) w w'
set_option maxHeartbeats 2000000 in
set_option maxRecDepth 100000 in
theorem d_crashX (n pb c pc rb rc g m : Nat) (kv : Value) (ks : List Int) (qv : Value) (qs xs rs : List Value) (pl rl : List (List UInt8)) (pend sel : List (Nat × List UInt8)) (hpm : pend.length = m) (hpl : pl.length = c) (hsl : sel.length = ks.length) (hse : ∀ k (h : k < ks.length) (h' : k < sel.length) (j : Nat), ks[k] = (j : Int) → ∃ h2 : j < pend.length, sel[k] = pend[j]) (r wn f : Nat) (w : World) (hk : Ints w kv ks) (hkb : ∀ a k c, kv = .slice (some a) k c → 0 < k → a.block ≠ pb) (hl : ks.length ≤ 140737488355328)
    (hb : w.heap[g]? = some (.cells (DC n pb c pc rb rc qv r wn f) 74 (0, 0))) (hq : w.ownsRow 0 58 2 qv m qs)
    (hN : QL w c n qs pend) (hp : w.ownsRow 0 22 1 (.slice (some ⟨pb, 0, none⟩) c pc) c xs) (hx : LL w xs pl) (hr : w.ownsRow 0 22 1 (.slice (some ⟨rb, 0, none⟩) c rc) c rs) (hrx : LL w rs rl) (hpr : pb ≠ rb) (hm : m ≤ 4398046511104)
    (hall : ∀ i ∈ ks, 0 ≤ i ∧ i < m)
    (hmk : Calls Try.prog 52 #[kv, .int .i64 m] w fun e w' => e = .returned (.bool true) ∧ w = w') :
    Calls Try.prog 28 #[.pointer (some ⟨g, 0, none⟩), kv] w fun e w' => e = .returned (.int .i64 0) ∧ CrashedX n pb c pc rb rc g pl rl pend sel r wn f w w' := by
  obtain ⟨a, cap, rfl⟩ := hk.form
  obtain ⟨qa, qc, rfl⟩ := own_form hq
  have A := hidden hmk
  have c3 : w.cell? ⟨g, 3, none⟩ = some (.slice qa m qc) := blk_cell hb
  have HB := hidden hb
  have HQ := hidden hq
  have HN := hidden hN
  have HP := hidden hp
  have HX := hidden hx
  have HR := hidden hr
  have HRX := hidden hrx
  have HKS := hidden hk
  have HKB := hidden hkb
  have HALL := hidden hall
  have HSE := hidden hse
  have hne : pb ≠ g := fun e => own_apart hp hb (by decide) (by rw [← e]; rfl)
  have hne2 : g ≠ pb := hne.symm
  have hnr : rb ≠ g := fun e => own_apart hr hb (by decide) (by rw [← e]; rfl)
  have hnr2 : g ≠ rb := hnr.symm
  have hrp : rb ≠ pb := hpr.symm
  have hqp := hidden (own_rows hq hp (by decide))
  have hqr0 := hidden (own_rows hq hr (by decide))
  clear hb hq hN hp hx hr hrx hk hkb hall hmk hse
  go_enter Try.func28, Try.ntmps28
  go_wp2_with (go_at_call 52; refine (A.out).mono ?_; rintro e w1 ⟨rfl, rfl⟩)
  go_loopw [22] (fun i wr => ∃ k : Nat, k ≤ ks.length ∧ i = .int .i64 k ∧ (∃ ys, wr.ownsRow 0 22 1 (.slice (some ⟨pb, 0, none⟩) c pc) c ys ∧ LL wr ys (app (sel.take k) pl)) ∧ Kept (fun x => x = pb) w wr) (fun i wr => ks.length - (intOf i).toNat)
  case atStart => exact ⟨0, Nat.zero_le _, rfl, ⟨xs, HP.out, HX.out⟩, Kept.refl _ _⟩
  case round =>
    obtain ⟨k, hk, rfl, ⟨ys, hy, hyn⟩, hK⟩ := hrel
    have hb := blk_kept hK (fun e => hne2 e) HB.out
    have d1 : wr.cell? ⟨g, 1, none⟩ = some (.slice (some ⟨pb, 0, none⟩) c pc) := blk_cell hb
    have d3 : wr.cell? ⟨g, 3, none⟩ = some (.slice qa m qc) := blk_cell hb
    have HB1 := hidden hb
    have HK := hidden hK
    have HY := hidden hy
    have HYN := hidden hyn
    clear hb hK hyn
    by_cases hlt : k < ks.length
    · rcases HKS.out with ⟨_, h0⟩ | ⟨b1, e1', e1, hc1⟩
      · simp [h0] at hlt
      obtain ⟨rfl, rfl⟩ : a = some b1 ∧ cap = e1' := by simpa using e1
      have x1 := Kept.cell HK.out (p := b1.add k) (by rw [add_block]; exact HKB.out b1 _ _ rfl (by omega)) (hc1 k hlt)
      obtain ⟨hz0, hz1⟩ := HALL.out _ (List.getElem_mem hlt)
      obtain ⟨j, hj⟩ := Int.eq_ofNat_of_zero_le hz0
      rw [hj] at x1 hz1
      have hjm : j < m := by omega
      obtain ⟨u, n1, n2, n4, n3, n5⟩ := HN.out j (by omega)
      obtain ⟨_, hsk⟩ := HSE.out k hlt (by omega) j hj
      have happ := app_succ sel pl k (by omega)
      rw [hsk] at happ
      obtain ⟨N, hNe⟩ : ∃ N, pend[j].1 = N := ⟨_, rfl⟩
      obtain ⟨lk, hLe⟩ : ∃ lk, pend[j].2 = lk := ⟨_, rfl⟩
      rw [hNe, hLe] at happ
      rw [hNe] at n1 n3
      rw [hLe] at n4 n5
      have HAP := hidden happ
      have U1 := hidden n4
      obtain ⟨ua, y, rfl⟩ := n4.byt.form
      subst n5
      clear happ hNe hLe hsk
      obtain ⟨gq, rfl⟩ : ∃ gq : Nat, qa = some ⟨gq, 0, none⟩ := by
        rcases HQ.out.2 with ⟨_, h⟩ | ⟨gq, cap, cur, h, _⟩
        · omega
        · exact ⟨gq, by simpa using (Value.slice.inj h).1⟩
      have hqp2 : gq ≠ pb := fun e => by
        rcases hqp.out with h | h
        · cases h
        · exact h (by rw [e]; rfl)
      have hqr := own_kept HQ.out HK.out (fun i hi e => by simp [Value.ownBlock] at hi; omega)
      have z1 := hqr.cells (g := gq) rfl (j * 2) _ n1
      have z2 := hqr.cells (g := gq) rfl (j * 2 + 1) _ n2
      rw [add_none, Nat.zero_add] at z1 z2
      have hyl : ys.length = c := by simpa using hy.1
      obtain ⟨p, hp⟩ : ∃ p, ys[N]? = some p := ⟨ys[N]'(by omega), List.getElem?_eq_getElem (by omega)⟩
      obtain ⟨p1, p2⟩ := own_cell hy p hp
      have q0 : (0 : Int) ≤ (k : Int) := Int.natCast_nonneg _
      have q1 : (k : Int) < (ks.length : Int) := by omega
      have q2 : (0 : Int) ≤ (N : Int) := Int.natCast_nonneg _
      have q3 : (N : Int) < (c : Int) := by omega
      have q4 : (0 : Int) ≤ (j : Int) := Int.natCast_nonneg _
      have q5 : (j : Int) < (m : Int) := by omega
      have hp1 : ∀ o, (wr.alloc o).cell? ⟨pb, N, none⟩ = some p := fun o => (Kept.cell (same_alloc wr o) (fun h => h) p1)
      have hp2 : ∀ o, (wr.alloc o).frozen? ⟨pb, N, none⟩ = false := fun o => (own_cell (hy.alloc o) p hp).2
      have hne6 : pb ≠ wr.heap.size := Nat.ne_of_lt (World.block_lt_of_cell? wr _ p1)
      have hne7 : wr.heap.size ≠ pb := hne6.symm
      have hne3 := World.new_ne wr _ p1
      have hne4 := World.new_ne wr _ d1
      have hne5 := World.new_ne wr _ z1
      clear hqr hy hp n1 n2 n4 hc1 e1 hj hz0 hz1
      go_wp2
      go_region_held3 (fun w' => w'.cell? ⟨g, 1, none⟩ = some (.slice (some ⟨pb, 0, none⟩) c pc) ∧ w'.cell? ⟨wr.heap.size, 0, none⟩ = some (.int .i64 N) ∧ w'.cell? ⟨wr.heap.size, 1, none⟩ = some (.slice ua lk.length y)) (go_keep) (fail)
      all_goals
        go_wp2
        go_roundw
        case rel =>
          have KW : Kept (fun x => x = pb) wr (((wr.alloc (.cells #[.int .i64 (N : Int), .slice ua lk.length y] 58)).drew).setCell ⟨pb, N, none⟩ (.slice ua lk.length y)) := ((Kept.refl (fun x => x = pb) wr).alloc _).drew.setCell (p := ⟨pb, N, none⟩) rfl _
          refine ⟨k + 1, by omega, by go_num, ⟨_, own_set (ownsRow_drew (HY.out.alloc _)) n3 _, ?_⟩, (HK.out.alloc _).drew.setCell (p := ⟨pb, N, none⟩) rfl _⟩
          rw [HAP.out]
          exact (HYN.out.kept (fun u l o => o.row HY.out KW)).set ((U1.out.row HP.out HK.out).row HY.out KW) N
        case measure => simp [intOf]; omega
    · have q1 : ¬ (k : Int) < (ks.length : Int) := by omega
      clear hy
      obtain ⟨w2, hw2⟩ : ∃ w2, w2 = wr := ⟨_, rfl⟩
      subst hw2
      go_wp2
      go_loopw [48] (fun i wr => ∃ k2 : Nat, k2 ≤ m ∧ i = .int .i64 k2 ∧ (∃ zs, wr.ownsRow 0 22 1 (.slice (some ⟨rb, 0, none⟩) c rc) c zs ∧ LL wr zs (rd (app sel pl) (pend.take k2) rl)) ∧ Kept (fun x => x = rb) w2 wr) (fun i wr => m - (intOf i).toNat)
      case atStart => exact ⟨0, Nat.zero_le _, rfl, ⟨rs, own_kept HR.out HK.out (fun i hi e => by simp [Value.ownBlock] at hi; omega), HRX.out.kept (fun u l o => o.row HP.out HK.out)⟩, Kept.refl _ _⟩
      case round =>
        obtain ⟨k2, hk2, rfl, ⟨zs, hz, hzn⟩, hK2⟩ := hrel
        have hb2 := blk_kept hK2 (fun e => hnr2 e) HB1.out
        have g1 : wr.cell? ⟨g, 1, none⟩ = some (.slice (some ⟨pb, 0, none⟩) c pc) := blk_cell hb2
        have g2 : wr.cell? ⟨g, 2, none⟩ = some (.slice (some ⟨rb, 0, none⟩) c rc) := blk_cell hb2
        have g3 : wr.cell? ⟨g, 3, none⟩ = some (.slice qa m qc) := blk_cell hb2
        have g4 : wr.cell? ⟨g, 4, none⟩ = some (.bool false) := blk_cell hb2
        have g5 : wr.cell? ⟨g, 5, none⟩ = some (.int .i64 0) := blk_cell hb2
        have f3 : wr.frozen? ⟨g, 3, none⟩ = false := blk_free hb2
        have f4 : wr.frozen? ⟨g, 4, none⟩ = false := blk_free hb2
        have f5 : wr.frozen? ⟨g, 5, none⟩ = false := blk_free hb2
        have HB2 := hidden hb2
        have HK2 := hidden hK2
        have HZ := hidden hz
        have HZN := hidden hzn
        have hpz := own_kept HY.out hK2 (fun i hi e => by simp [Value.ownBlock] at hi; omega)
        have HPZ := hidden hpz
        have hrz : w2.ownsRow 0 22 1 (.slice (some ⟨rb, 0, none⟩) c rc) c rs := own_kept HR.out HK.out (fun i hi e => by simp [Value.ownBlock] at hi; omega)
        have HRZ := hidden hrz
        clear hb2 hK2 hzn hrz
        by_cases hlt2 : k2 < m
        · obtain ⟨u, n1, n2, n4, n3, n5⟩ := HN.out k2 (by omega)
          have hrd := rd_succ (app sel pl) pend rl k2 (by omega)
          obtain ⟨N, hNe⟩ : ∃ N, pend[k2].1 = N := ⟨_, rfl⟩
          rw [hNe] at n1 n3 hrd
          have HRD := hidden hrd
          obtain ⟨ua, y, rfl⟩ := n4.byt.form
          rw [n5] at n2
          clear hNe hrd
          obtain ⟨gq, rfl⟩ : ∃ gq : Nat, qa = some ⟨gq, 0, none⟩ := by
            rcases HQ.out.2 with ⟨_, h⟩ | ⟨gq, cap, cur, h, _⟩
            · omega
            · exact ⟨gq, by simpa using (Value.slice.inj h).1⟩
          have hqp2 : gq ≠ pb := fun e => by
            rcases hqp.out with h | h
            · cases h
            · exact h (by rw [e]; rfl)
          have hqr2 : gq ≠ rb := fun e => by
            rcases hqr0.out with h | h
            · cases h
            · exact h (by rw [e]; rfl)
          have hqr := own_kept (own_kept HQ.out HK.out (fun i hi e => by simp [Value.ownBlock] at hi; omega)) HK2.out (fun i hi e => by simp [Value.ownBlock] at hi; omega)
          have z1 := hqr.cells (g := gq) rfl (k2 * 2) _ n1
          have z2 := hqr.cells (g := gq) rfl (k2 * 2 + 1) _ n2
          rw [add_none, Nat.zero_add] at z1 z2
          have hzl : zs.length = c := by simpa using hz.1
          have hyl : ys.length = c := by simpa using HY.out.1
          obtain ⟨p, hp⟩ : ∃ p, zs[N]? = some p := ⟨zs[N]'(by omega), List.getElem?_eq_getElem (by omega)⟩
          obtain ⟨p1, p2⟩ := own_cell hz p hp
          have hyn' := HYN.out
          rw [List.take_of_length_le (by omega)] at hyn'
          have hapl : (app sel pl).length = c := by rw [app_len, hpl]
          have hPn := (hyn'.2 N (by omega) (by omega)).row HRZ.out HK2.out
          obtain ⟨va, vc, hve⟩ := hPn.byt.form
          have hgd : (app sel pl).getD N [] = (app sel pl)[N] := by simp [List.getD, hapl, n3]
          obtain ⟨lp, hlp⟩ : ∃ lp, (app sel pl)[N] = lp := ⟨_, rfl⟩
          rw [hlp] at hPn hve hgd
          have HGD := hidden hgd
          clear hgd hlp hyn'
          have hpc := (own_cell hpz ys[N] (List.getElem?_eq_getElem (by omega))).1
          rw [hve] at hpc hPn
          have HPN := hidden hPn
          have q0 : (0 : Int) ≤ (k2 : Int) := Int.natCast_nonneg _
          have q1' : (k2 : Int) < (m : Int) := by omega
          have q2 : (0 : Int) ≤ (N : Int) := Int.natCast_nonneg _
          have q3 : (N : Int) < (c : Int) := by omega
          have hp1 : ∀ o, (wr.alloc o).cell? ⟨rb, N, none⟩ = some p := fun o => (Kept.cell (same_alloc wr o) (fun h => h) p1)
          have hp2 : ∀ o, (wr.alloc o).frozen? ⟨rb, N, none⟩ = false := fun o => (own_cell (hz.alloc o) p hp).2
          have hne6 : rb ≠ wr.heap.size := Nat.ne_of_lt (World.block_lt_of_cell? wr _ p1)
          have hne7 : wr.heap.size ≠ rb := hne6.symm
          have hne3 := World.new_ne wr _ p1
          have hne4 := World.new_ne wr _ g1
          have hne5 := World.new_ne wr _ z1
          have hne8 := World.new_ne wr _ hpc
          clear hqr hz hp n1 n2 n4 hPn hve hpz
          go_wp2
          go_region_held3 (fun w' => w'.cell? ⟨g, 1, none⟩ = some (.slice (some ⟨pb, 0, none⟩) c pc) ∧ w'.cell? ⟨g, 2, none⟩ = some (.slice (some ⟨rb, 0, none⟩) c rc) ∧ w'.cell? ⟨wr.heap.size, 0, none⟩ = some (.int .i64 N) ∧ w'.cell? ⟨pb, N, none⟩ = some (.slice va lp.length vc)) (go_keep) (fail)
          all_goals
            go_wp2
            go_roundw
            case rel =>
              have KW : Kept (fun x => x = rb) wr (((wr.alloc (.cells #[.int .i64 (N : Int), .slice ua n y] 58)).drew).setCell ⟨rb, N, none⟩ (.slice va lp.length vc)) := ((Kept.refl (fun x => x = rb) wr).alloc _).drew.setCell (p := ⟨rb, N, none⟩) rfl _
              refine ⟨k2 + 1, by omega, by go_num, ⟨_, own_set (ownsRow_drew (HZ.out.alloc _)) n3 _, ?_⟩, (HK2.out.alloc _).drew.setCell (p := ⟨rb, N, none⟩) rfl _⟩
              rw [HRD.out, HGD.out]
              exact (HZN.out.kept (fun u l o => o.row HZ.out KW)).set (HPN.out.row HZ.out KW) N
            case measure => simp [intOf]; omega
        · have q1' : ¬ (k2 : Int) < (m : Int) := by omega
          clear hz hpz
          go_wp2
          go_returns
          have KW : Kept (fun x => x = g) wr (((wr.setCell ⟨g, 3, none⟩ (.slice none 0 0)).setCell ⟨g, 4, none⟩ (.bool false)).setCell ⟨g, 5, none⟩ (.int .i64 0)) := (((Kept.refl (fun x => x = g) wr).setCell (p := ⟨g, 3, none⟩) rfl _).setCell (p := ⟨g, 4, none⟩) rfl _).setCell (p := ⟨g, 5, none⟩) rfl _
          have nbg : ∀ u l, Own wr u l 0 → Own (((wr.setCell ⟨g, 3, none⟩ (.slice none 0 0)).setCell ⟨g, 4, none⟩ (.bool false)).setCell ⟨g, 5, none⟩ (.int .i64 0)) u l 0 := fun u l o => o.kept KW (fun i cs _ hb e => by rw [e, HB2.out] at hb; simp at hb)
          have hyn' := HYN.out
          rw [List.take_of_length_le (by omega)] at hyn'
          have hzn' := HZN.out
          rw [List.take_of_length_le (by omega)] at hzn'
          refine ⟨rfl, ⟨ys, zs, ?_, own_kept HPZ.out KW (fun i hi e => by simp [Value.ownBlock] at hi; omega), (hyn'.kept (fun u l o => o.row HRZ.out HK2.out)).kept nbg, own_kept HZ.out KW (fun i hi e => by simp [Value.ownBlock] at hi; omega), hzn'.kept nbg, ?_⟩⟩
          · exact blk_set (j := 5) (blk_set (j := 4) (blk_set (j := 3) HB2.out _) _) _
          · exact ((HK.out.mono (T := fun k => k = g ∨ k = pb ∨ k = rb) (fun _ _ h => Or.inr (Or.inl h))).trans' HK2.out (fun _ _ h => Or.inr (Or.inr h))).trans' KW (fun _ _ h => Or.inl h)
theorem rd_len (pl : List (List UInt8)) (pend : List (Nat × List UInt8)) : ∀ rl : List (List UInt8), (rd pl pend rl).length = rl.length := by
  unfold rd
  induction pend with
  | nil => intro rl; rfl
  | cons x t ih => intro rl; rw [List.foldl_cons, ih]; simp
theorem rd_n {n : Nat} (pl : List (List UInt8)) (hp : ∀ l ∈ pl, l.length = n) (pend : List (Nat × List UInt8)) : ∀ rl : List (List UInt8), (∀ l ∈ rl, l.length = n) → (∀ x ∈ pend, x.1 < pl.length) → ∀ l ∈ rd pl pend rl, l.length = n := by
  unfold rd
  induction pend with
  | nil => intro rl h _; exact h
  | cons x t ih =>
    intro rl h hx
    rw [List.foldl_cons]
    refine ih _ (fun l hl => ?_) (fun y hy => hx y (List.mem_cons_of_mem _ hy))
    rcases List.mem_or_eq_of_mem_set hl with hl | rfl
    · exact h l hl
    · have := hx x (List.mem_cons_self ..)
      rw [List.getD_eq_getElem?_getD, List.getElem?_eq_getElem this]
      exact hp _ (List.getElem_mem this)
/-- The pending writes at these places. -/
def selOf (pend : List (Nat × List UInt8)) (ks : List Int) : List (Nat × List UInt8) := ks.map fun i => pend.getD i.toNat (0, [])
theorem xd_crashYes {B n c g pb pc rb rc M : Nat} {pl rl : List (List UInt8)} {pend : List (Nat × List UInt8)} {w : World} (h : XD B n c g pb pc rb rc M pl rl pend w) (hpl : pl.length = c) (hM : M ≤ 4398046511104) (kv : Value) (ks : List Int) (hk : Ints w kv ks) (hkb : ∀ a k c, kv = .slice (some a) k c → 0 < k → a.block < B) (hl : ks.length ≤ 140737488355328) (hy : mayB pend.length 0 ks = true) :
    Calls Try.prog 28 #[.pointer (some ⟨g, 0, none⟩), kv] w fun e w' => e = .returned (.int .i64 0) ∧ XD B n c g pb pc rb rc M (app (selOf pend ks) pl) (rd (app (selOf pend ks) pl) pend rl) [] w' ∧ KT B w w' ∧ DF g pb rb w w' := by
  obtain ⟨qv, qs, ps, rs, r, wn, f, h1, h2, h3, h4, h5, h6, h7, h8, h9, h10, h11⟩ := h.ex
  have hmM := h.mM
  have hmk := d_mayKeep kv ks pend.length w hk hl (by omega)
  rw [hy] at hmk
  have hlp := h.lp
  have hall := mayB_all pend.length ks 0 (Int.le_refl _) hy
  have hpn : ∀ x ∈ pend, x.2.length = n ∧ x.1 < c := fun x hx => by
    obtain ⟨k, hk, rfl⟩ := List.getElem_of_mem hx
    obtain ⟨_, _, _, _, hc, hl⟩ := h10 k hk
    exact ⟨hl, hc⟩
  have hsel : ∀ x ∈ selOf pend ks, x ∈ pend := fun x hx => by
    obtain ⟨i, hi, rfl⟩ := List.mem_map.1 hx
    have := hall i hi
    rw [List.getD_eq_getElem?_getD, List.getElem?_eq_getElem (show i.toNat < pend.length by omega)]
    exact List.getElem_mem _
  refine (d_crashX n pb c pc rb rc g pend.length kv ks qv qs ps rs pl rl pend (selOf pend ks) rfl hpl (by simp [selOf]) (fun k h h' j hj => ?_) r wn f w hk (fun a k c e hk0 he => by have := hkb a k c e hk0; omega) hl h1 h9 h10 h5 h6 h7 h8 h.ne (by omega) hall hmk).mono ?_
  · have hm := hall _ (List.getElem_mem h)
    rw [hj] at hm
    refine ⟨by omega, ?_⟩
    simp only [selOf, List.getElem_map, hj]
    rw [List.getD_eq_getElem?_getD, Int.toNat_natCast, List.getElem?_eq_getElem (by omega)]
    rfl
  rintro e w' ⟨rfl, ⟨ys, zs, o1, o2, o3, o5, o6, o7⟩⟩
  have kk : KT B w w' := KT.of o7 fun k hk hs => by
    rcases hs with rfl | rfl | rfl
    · exact kt_of h1 h.lg (by decide)
    · exact kt_row h5 rfl h.lp (by decide)
    · exact kt_row h7 rfl h.lr (by decide)
  have hap := app_n (selOf pend ks) pl h.pn (fun x hx => (hpn x (hsel x hx)).1)
  exact ⟨rfl, ⟨⟨_, [], ys, zs, r, wn, f, o1, h2, h3, h4, o2, o3, o5, o6, World.ownsRow_nil _ _ _ _, (fun k hk => absurd hk (by simp)), (fun k hk => by cases hk)⟩, hap, rd_n _ hap pend rl h.rn (fun x hx => by rw [app_len, hpl]; exact (hpn x hx).2), h.ne, h.lg, h.lp, h.lr, Nat.zero_le _, h.hn, h.hc⟩, kk, ⟨o7.mono (fun k _ hs => hs.imp id (fun h => h.imp id Or.inl)), fun k hk hr => by rw [rowOf_dc o1] at hr; cases hr⟩⟩
theorem xd_crashNo {B n c g pb pc rb rc M : Nat} {pl rl : List (List UInt8)} {pend : List (Nat × List UInt8)} {w : World} (h : XD B n c g pb pc rb rc M pl rl pend w) (hM : M ≤ 4398046511104) (kv : Value) (ks : List Int) (hk : Ints w kv ks) (hl : ks.length ≤ 140737488355328) (hy : mayB pend.length 0 ks = false) :
    Calls Try.prog 28 #[.pointer (some ⟨g, 0, none⟩), kv] w fun e w' => e = .returned (.int .i64 1) ∧ w = w' := by
  obtain ⟨qv, qs, ps, rs, r, wn, f, h1, h2, h3, h4, h5, h6, h7, h8, h9, h10, h11⟩ := h.ex
  have hmM := h.mM
  have hmk := d_mayKeep kv ks pend.length w hk hl (by omega)
  rw [hy] at hmk
  obtain ⟨qa, qc, rfl⟩ := own_form h9
  exact d_crashNo n pb c pc rb rc g pend.length kv qa qc r wn f w h1 hmk
end Go.Proofs.Yteoajgphahobiaa
