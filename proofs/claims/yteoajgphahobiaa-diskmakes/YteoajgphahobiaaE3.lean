/- disk's mayKeep, Crash. -/
import Derived.Test.YteoajgphahobiaaE2
namespace Go.Proofs.Yteoajgphahobiaa
open Go.RowKit
set_option linter.unusedVariables false
/-- Numbers among what was there. -/
def Ints (w : World) (v : Value) (l : List Int) : Prop :=
  v = .slice none 0 0 ∧ l = [] ∨ ∃ a cap, v = .slice (some a) l.length cap ∧ ∀ j (hj : j < l.length), w.cell? (a.add j) = some (.int .i64 l[j])
theorem Ints.form {w : World} {v : Value} {l : List Int} (h : Ints w v l) : ∃ a cap, v = .slice a l.length cap := by
  rcases h with ⟨rfl, rfl⟩ | ⟨a, cap, rfl, _⟩
  · exact ⟨none, 0, rfl⟩
  · exact ⟨_, _, rfl⟩
/-- What mayKeep tells. -/
def mayB (m : Nat) : Int → List Int → Bool
  | _, [] => true
  | y, z :: t => if z < y ∨ (m : Int) ≤ z then false else mayB m (z + 1) t
theorem mayB_all (m : Nat) : ∀ (ks : List Int) (y : Int), 0 ≤ y → mayB m y ks = true → ∀ i ∈ ks, 0 ≤ i ∧ i < m
  | [], _, _, _, i, hi => by cases hi
  | z :: t, y, hy, h, i, hi => by
    unfold mayB at h
    by_cases hz : z < y ∨ (m : Int) ≤ z
    · rw [if_pos hz] at h; cases h
    · rw [if_neg hz] at h
      rcases List.mem_cons.1 hi with rfl | hi
      · omega
      · exact mayB_all m t (z + 1) (by omega) h i hi
set_option maxHeartbeats 1000000 in
set_option maxRecDepth 100000 in
theorem d_mayKeep (kv : Value) (ks : List Int) (m : Nat) (w : World) (hk : Ints w kv ks) (hl : ks.length ≤ 140737488355328) (hm : m ≤ 4398046511104) :
    Calls Try.prog 52 #[kv, .int .i64 m] w fun e w' => e = .returned (.bool (mayB m 0 ks)) ∧ w = w' := by
  obtain ⟨a, cap, rfl⟩ := hk.form
  have HK := hidden hk
  clear hk
  generalize hR : mayB m 0 ks = R
  have HR := hidden hR
  clear hR
  go_enter Try.func52, Try.ntmps52
  go_wp2
  go_loopw [5, 10] (fun t i wr => ∃ (k : Nat) (y : Int), k ≤ ks.length ∧ t = .int .i64 y ∧ 0 ≤ y ∧ y ≤ m ∧ i = .int .i64 k ∧ Hid (mayB m y (ks.drop k) = R) ∧ w = wr) (fun t i wr => ks.length - (intOf i).toNat)
  case atStart => exact ⟨0, 0, Nat.zero_le _, rfl, Int.le_refl _, by omega, rfl, by rw [List.drop_zero]; exact HR, rfl⟩
  case round =>
    obtain ⟨k, y, hk, rfl, hy0, hy1, rfl, hall, rfl⟩ := hrel
    by_cases hlt : k < ks.length
    · rcases HK.out with ⟨_, h0⟩ | ⟨b1, d1, e1, hc1⟩
      · simp [h0] at hlt
      obtain ⟨rfl, rfl⟩ : a = some b1 ∧ cap = d1 := by simpa using e1
      have x1 := hc1 k hlt
      have q0 : (0 : Int) ≤ (k : Int) := Int.natCast_nonneg _
      have q1 : (k : Int) < (ks.length : Int) := by omega
      have hz : ∃ z, ks[k] = z := ⟨_, rfl⟩
      obtain ⟨z, hz⟩ := hz
      rw [hz] at x1
      have hd : ks.drop k = z :: ks.drop (k + 1) := by rw [List.drop_eq_getElem_cons hlt, hz]
      have hu := hall.out
      rw [hd, mayB] at hu
      have HU := hidden hu
      clear hall hc1 e1 hz hd hu
      by_cases h1 : z < y
      · go_wp2
        go_returns
        have h := HU.out
        rw [if_pos (Or.inl h1)] at h
        exact ⟨by rw [← h]; rfl, rfl⟩
      · by_cases h2 : (m : Int) ≤ z
        · have h2' : ¬ z < (m : Int) := by omega
          go_wp2
          go_returns
          have h := HU.out
          rw [if_pos (Or.inr h2)] at h
          exact ⟨by rw [← h]; rfl, rfl⟩
        · have h2' : z < (m : Int) := by omega
          go_wp2
          go_roundw
          case rel =>
            have h := HU.out
            rw [if_neg (by omega)] at h
            exact ⟨k + 1, z + 1, by omega, by go_num, by omega, by omega, by go_num, h, by first | rfl | trivial⟩
          case measure => simp [intOf]; omega
    · have q1 : ¬ (k : Int) < (ks.length : Int) := by omega
      have h := hall.out
      rw [List.drop_of_length_le (by omega), mayB] at h
      have HH := hidden h
      clear hall h
      go_wp2
      go_returns
      exact ⟨by rw [← HH.out]; rfl, rfl⟩
structure Crashed (n pb c pc rb rc g : Nat) (ks : List Int) (xs : List Value) (r wn f : Nat) (w w' : World) : Prop where
  ex : ∃ ys zs, w'.heap[g]? = some (.cells (DC n pb c pc rb rc (.slice none 0 0) r wn f) 74 (0, 0)) ∧ w'.ownsRow 0 22 1 (.slice (some ⟨pb, 0, none⟩) c pc) c ys ∧ (∀ u ∈ ys, NB n w' u) ∧ (ks = [] → ys = xs) ∧
    w'.ownsRow 0 22 1 (.slice (some ⟨rb, 0, none⟩) c rc) c zs ∧ (∀ u ∈ zs, NB n w' u) ∧ Kept (fun k => k = g ∨ k = pb ∨ k = rb) w w'
set_option maxHeartbeats 2000000 in
set_option maxRecDepth 100000 in
theorem d_crashYes (n pb c pc rb rc g m : Nat) (kv : Value) (ks : List Int) (qv : Value) (qs xs rs : List Value) (r wn f : Nat) (w : World) (hk : Ints w kv ks) (hkb : ∀ a k c, kv = .slice (some a) k c → 0 < k → a.block ≠ pb) (hl : ks.length ≤ 140737488355328)
    (hb : w.heap[g]? = some (.cells (DC n pb c pc rb rc qv r wn f) 74 (0, 0))) (hq : w.ownsRow 0 58 2 qv m qs)
    (hN : QOk n c m qs w) (hp : w.ownsRow 0 22 1 (.slice (some ⟨pb, 0, none⟩) c pc) c xs) (hx : ∀ u ∈ xs, NB n w u) (hr : w.ownsRow 0 22 1 (.slice (some ⟨rb, 0, none⟩) c rc) c rs) (hrx : ∀ u ∈ rs, NB n w u) (hpr : pb ≠ rb) (hm : m ≤ 4398046511104)
    (hall : ∀ i ∈ ks, 0 ≤ i ∧ i < m)
    (hmk : Calls Try.prog 52 #[kv, .int .i64 m] w fun e w' => e = .returned (.bool true) ∧ w = w') :
    Calls Try.prog 28 #[.pointer (some ⟨g, 0, none⟩), kv] w fun e w' => e = .returned (.int .i64 0) ∧ Crashed n pb c pc rb rc g ks xs r wn f w w' := by
  obtain ⟨a, cap, rfl⟩ := hk.form
  obtain ⟨qa, qc, rfl⟩ := own_form hq
  have A := hidden hmk
  have c3 : w.cell? ⟨g, 3, none⟩ = some (.slice qa m qc) := blk_cell hb
  have HB := hidden hb
  have HQ := hidden hq
  have HN := hidden hN
  have HP := hidden hp
  have HX := hidden hx
  have HR := hidden hr
  have HRX := hidden hrx
  have HKS := hidden hk
  have HKB := hidden hkb
  have HALL := hidden hall
  have hne : pb ≠ g := fun e => own_apart hp hb (by decide) (by rw [← e]; rfl)
  have hne2 : g ≠ pb := hne.symm
  have hnr : rb ≠ g := fun e => own_apart hr hb (by decide) (by rw [← e]; rfl)
  have hnr2 : g ≠ rb := hnr.symm
  have hrp : rb ≠ pb := hpr.symm
  have hqp := hidden (own_rows hq hp (by decide))
  have hqr0 := hidden (own_rows hq hr (by decide))
  clear hb hq hN hp hx hr hrx hk hkb hall hmk
  go_enter Try.func28, Try.ntmps28
  go_wp2_with (go_at_call 52; refine (A.out).mono ?_; rintro e w1 ⟨rfl, rfl⟩)
  go_loopw [22] (fun i wr => ∃ k : Nat, k ≤ ks.length ∧ i = .int .i64 k ∧ (∃ ys, wr.ownsRow 0 22 1 (.slice (some ⟨pb, 0, none⟩) c pc) c ys ∧ (∀ u ∈ ys, NB n wr u) ∧ (k = 0 → ys = xs)) ∧ Kept (fun x => x = pb) w wr) (fun i wr => ks.length - (intOf i).toNat)
  case atStart => exact ⟨0, Nat.zero_le _, rfl, ⟨xs, HP.out, HX.out, fun _ => rfl⟩, Kept.refl _ _⟩
  case round =>
    obtain ⟨k, hk, rfl, ⟨ys, hy, hyn, hy0⟩, hK⟩ := hrel
    have hb := blk_kept hK (fun e => hne2 e) HB.out
    have d1 : wr.cell? ⟨g, 1, none⟩ = some (.slice (some ⟨pb, 0, none⟩) c pc) := blk_cell hb
    have d3 : wr.cell? ⟨g, 3, none⟩ = some (.slice qa m qc) := blk_cell hb
    have HB1 := hidden hb
    have HK := hidden hK
    have HY := hidden hy
    have HYN := hidden hyn
    have HY0 := hidden hy0
    clear hb hK hyn hy0
    by_cases hlt : k < ks.length
    · rcases HKS.out with ⟨_, h0⟩ | ⟨b1, e1', e1, hc1⟩
      · simp [h0] at hlt
      obtain ⟨rfl, rfl⟩ : a = some b1 ∧ cap = e1' := by simpa using e1
      have x1 := Kept.cell HK.out (p := b1.add k) (by rw [add_block]; exact HKB.out b1 _ _ rfl (by omega)) (hc1 k hlt)
      obtain ⟨hz0, hz1⟩ := HALL.out _ (List.getElem_mem hlt)
      obtain ⟨j, hj⟩ := Int.eq_ofNat_of_zero_le hz0
      rw [hj] at x1 hz1
      have hjm : j < m := by omega
      obtain ⟨N, u, n1, n2, n3, n4⟩ := HN.out j hjm
      have U1 := hidden n4
      obtain ⟨ua, y, rfl⟩ := n4.form
      obtain ⟨gq, rfl⟩ : ∃ gq : Nat, qa = some ⟨gq, 0, none⟩ := by
        rcases HQ.out.2 with ⟨_, h⟩ | ⟨gq, cap, cur, h, _⟩
        · omega
        · exact ⟨gq, by simpa using (Value.slice.inj h).1⟩
      have hqp2 : gq ≠ pb := fun e => by
        rcases hqp.out with h | h
        · cases h
        · exact h (by rw [e]; rfl)
      have hqr := own_kept HQ.out HK.out (fun i hi e => by simp [Value.ownBlock] at hi; omega)
      have z1 := hqr.cells (g := gq) rfl (j * 2) _ n1
      have z2 := hqr.cells (g := gq) rfl (j * 2 + 1) _ n2
      rw [add_none, Nat.zero_add] at z1 z2
      have hyl : ys.length = c := by simpa using hy.1
      obtain ⟨p, hp⟩ : ∃ p, ys[N]? = some p := ⟨ys[N]'(by omega), List.getElem?_eq_getElem (by omega)⟩
      obtain ⟨p1, p2⟩ := own_cell hy p hp
      have q0 : (0 : Int) ≤ (k : Int) := Int.natCast_nonneg _
      have q1 : (k : Int) < (ks.length : Int) := by omega
      have q2 : (0 : Int) ≤ (N : Int) := Int.natCast_nonneg _
      have q3 : (N : Int) < (c : Int) := by omega
      have q4 : (0 : Int) ≤ (j : Int) := Int.natCast_nonneg _
      have q5 : (j : Int) < (m : Int) := by omega
      have hp1 : ∀ o, (wr.alloc o).cell? ⟨pb, N, none⟩ = some p := fun o => (Kept.cell (same_alloc wr o) (fun h => h) p1)
      have hp2 : ∀ o, (wr.alloc o).frozen? ⟨pb, N, none⟩ = false := fun o => (own_cell (hy.alloc o) p hp).2
      have hne6 : pb ≠ wr.heap.size := Nat.ne_of_lt (World.block_lt_of_cell? wr _ p1)
      have hne7 : wr.heap.size ≠ pb := hne6.symm
      have hne3 := World.new_ne wr _ p1
      have hne4 := World.new_ne wr _ d1
      have hne5 := World.new_ne wr _ z1
      clear hqr hy hp n1 n2 n4 hc1 e1 hj hz0 hz1
      go_wp2
      go_region_held3 (fun w' => w'.cell? ⟨g, 1, none⟩ = some (.slice (some ⟨pb, 0, none⟩) c pc) ∧ w'.cell? ⟨wr.heap.size, 0, none⟩ = some (.int .i64 N) ∧ w'.cell? ⟨wr.heap.size, 1, none⟩ = some (.slice ua n y)) (go_keep) (fail)
      all_goals
        go_wp2
        go_roundw
        case rel =>
          have KW : Kept (fun x => x = pb) wr (((wr.alloc (.cells #[.int .i64 (N : Int), .slice ua n y] 58)).drew).setCell ⟨pb, N, none⟩ (.slice ua n y)) := ((Kept.refl (fun x => x = pb) wr).alloc _).drew.setCell (p := ⟨pb, N, none⟩) rfl _
          refine ⟨k + 1, by omega, by go_num, ⟨_, own_set (ownsRow_drew (HY.out.alloc _)) n3 _, fun x hx => ?_, fun h => by omega⟩, (HK.out.alloc _).drew.setCell (p := ⟨pb, N, none⟩) rfl _⟩
          rcases List.mem_or_eq_of_mem_set hx with hx | rfl
          · exact (HYN.out x hx).row HY.out KW
          · exact (U1.out.row HP.out HK.out).row HY.out KW
        case measure => simp [intOf]; omega
    · have q1 : ¬ (k : Int) < (ks.length : Int) := by omega
      clear hy
      obtain ⟨w2, hw2⟩ : ∃ w2, w2 = wr := ⟨_, rfl⟩
      subst hw2
      go_wp2
      go_loopw [48] (fun i wr => ∃ k2 : Nat, k2 ≤ m ∧ i = .int .i64 k2 ∧ (∃ zs, wr.ownsRow 0 22 1 (.slice (some ⟨rb, 0, none⟩) c rc) c zs ∧ (∀ u ∈ zs, NB n wr u)) ∧ Kept (fun x => x = rb) w2 wr) (fun i wr => m - (intOf i).toNat)
      case atStart => exact ⟨0, Nat.zero_le _, rfl, ⟨rs, own_kept HR.out HK.out (fun i hi e => by simp [Value.ownBlock] at hi; omega), fun u hu => (HRX.out u hu).row HP.out HK.out⟩, Kept.refl _ _⟩
      case round =>
        obtain ⟨k2, hk2, rfl, ⟨zs, hz, hzn⟩, hK2⟩ := hrel
        have hb2 := blk_kept hK2 (fun e => hnr2 e) HB1.out
        have g1 : wr.cell? ⟨g, 1, none⟩ = some (.slice (some ⟨pb, 0, none⟩) c pc) := blk_cell hb2
        have g2 : wr.cell? ⟨g, 2, none⟩ = some (.slice (some ⟨rb, 0, none⟩) c rc) := blk_cell hb2
        have g3 : wr.cell? ⟨g, 3, none⟩ = some (.slice qa m qc) := blk_cell hb2
        have g4 : wr.cell? ⟨g, 4, none⟩ = some (.bool false) := blk_cell hb2
        have g5 : wr.cell? ⟨g, 5, none⟩ = some (.int .i64 0) := blk_cell hb2
        have f3 : wr.frozen? ⟨g, 3, none⟩ = false := blk_free hb2
        have f4 : wr.frozen? ⟨g, 4, none⟩ = false := blk_free hb2
        have f5 : wr.frozen? ⟨g, 5, none⟩ = false := blk_free hb2
        have HB2 := hidden hb2
        have HK2 := hidden hK2
        have HZ := hidden hz
        have HZN := hidden hzn
        have hpz := own_kept HY.out hK2 (fun i hi e => by simp [Value.ownBlock] at hi; omega)
        have HPZ := hidden hpz
        have hrz : w2.ownsRow 0 22 1 (.slice (some ⟨rb, 0, none⟩) c rc) c rs := own_kept HR.out HK.out (fun i hi e => by simp [Value.ownBlock] at hi; omega)
        have HRZ := hidden hrz
        clear hb2 hK2 hzn hrz
        by_cases hlt2 : k2 < m
        · obtain ⟨N, u, n1, n2, n3, n4⟩ := HN.out k2 hlt2
          obtain ⟨ua, y, rfl⟩ := n4.form
          obtain ⟨gq, rfl⟩ : ∃ gq : Nat, qa = some ⟨gq, 0, none⟩ := by
            rcases HQ.out.2 with ⟨_, h⟩ | ⟨gq, cap, cur, h, _⟩
            · omega
            · exact ⟨gq, by simpa using (Value.slice.inj h).1⟩
          have hqp2 : gq ≠ pb := fun e => by
            rcases hqp.out with h | h
            · cases h
            · exact h (by rw [e]; rfl)
          have hqr2 : gq ≠ rb := fun e => by
            rcases hqr0.out with h | h
            · cases h
            · exact h (by rw [e]; rfl)
          have hqr := own_kept (own_kept HQ.out HK.out (fun i hi e => by simp [Value.ownBlock] at hi; omega)) HK2.out (fun i hi e => by simp [Value.ownBlock] at hi; omega)
          have z1 := hqr.cells (g := gq) rfl (k2 * 2) _ n1
          have z2 := hqr.cells (g := gq) rfl (k2 * 2 + 1) _ n2
          rw [add_none, Nat.zero_add] at z1 z2
          have hzl : zs.length = c := by simpa using hz.1
          have hyl : ys.length = c := by simpa using HY.out.1
          obtain ⟨p, hp⟩ : ∃ p, zs[N]? = some p := ⟨zs[N]'(by omega), List.getElem?_eq_getElem (by omega)⟩
          obtain ⟨p1, p2⟩ := own_cell hz p hp
          have hPn := (HYN.out ys[N] (List.getElem_mem _)).row HRZ.out HK2.out
          obtain ⟨va, vc, hve⟩ := hPn.form
          have hpc := (own_cell hpz ys[N] (List.getElem?_eq_getElem (by omega))).1
          rw [hve] at hpc hPn
          have HPN := hidden hPn
          have q0 : (0 : Int) ≤ (k2 : Int) := Int.natCast_nonneg _
          have q1' : (k2 : Int) < (m : Int) := by omega
          have q2 : (0 : Int) ≤ (N : Int) := Int.natCast_nonneg _
          have q3 : (N : Int) < (c : Int) := by omega
          have hp1 : ∀ o, (wr.alloc o).cell? ⟨rb, N, none⟩ = some p := fun o => (Kept.cell (same_alloc wr o) (fun h => h) p1)
          have hp2 : ∀ o, (wr.alloc o).frozen? ⟨rb, N, none⟩ = false := fun o => (own_cell (hz.alloc o) p hp).2
          have hne6 : rb ≠ wr.heap.size := Nat.ne_of_lt (World.block_lt_of_cell? wr _ p1)
          have hne7 : wr.heap.size ≠ rb := hne6.symm
          have hne3 := World.new_ne wr _ p1
          have hne4 := World.new_ne wr _ g1
          have hne5 := World.new_ne wr _ z1
          have hne8 := World.new_ne wr _ hpc
          clear hqr hz hp n1 n2 n4 hPn hve hpz
          go_wp2
          go_region_held3 (fun w' => w'.cell? ⟨g, 1, none⟩ = some (.slice (some ⟨pb, 0, none⟩) c pc) ∧ w'.cell? ⟨g, 2, none⟩ = some (.slice (some ⟨rb, 0, none⟩) c rc) ∧ w'.cell? ⟨wr.heap.size, 0, none⟩ = some (.int .i64 N) ∧ w'.cell? ⟨pb, N, none⟩ = some (.slice va n vc)) (go_keep) (fail)
          all_goals
            go_wp2
            go_roundw
            case rel =>
              have KW : Kept (fun x => x = rb) wr (((wr.alloc (.cells #[.int .i64 (N : Int), .slice ua n y] 58)).drew).setCell ⟨rb, N, none⟩ (.slice va n vc)) := ((Kept.refl (fun x => x = rb) wr).alloc _).drew.setCell (p := ⟨rb, N, none⟩) rfl _
              refine ⟨k2 + 1, by omega, by go_num, ⟨_, own_set (ownsRow_drew (HZ.out.alloc _)) n3 _, fun x hx => ?_⟩, (HK2.out.alloc _).drew.setCell (p := ⟨rb, N, none⟩) rfl _⟩
              rcases List.mem_or_eq_of_mem_set hx with hx | rfl
              · exact (HZN.out x hx).row HZ.out KW
              · exact HPN.out.row HZ.out KW
            case measure => simp [intOf]; omega
        · have q1' : ¬ (k2 : Int) < (m : Int) := by omega
          clear hz hpz
          go_wp2
          go_returns
          have KW : Kept (fun x => x = g) wr (((wr.setCell ⟨g, 3, none⟩ (.slice none 0 0)).setCell ⟨g, 4, none⟩ (.bool false)).setCell ⟨g, 5, none⟩ (.int .i64 0)) := (((Kept.refl (fun x => x = g) wr).setCell (p := ⟨g, 3, none⟩) rfl _).setCell (p := ⟨g, 4, none⟩) rfl _).setCell (p := ⟨g, 5, none⟩) rfl _
          have nbg : ∀ u, NB n wr u → NB n (((wr.setCell ⟨g, 3, none⟩ (.slice none 0 0)).setCell ⟨g, 4, none⟩ (.bool false)).setCell ⟨g, 5, none⟩ (.int .i64 0)) u := fun u ⟨l, a, b⟩ => ⟨l, a.kept KW (fun i cs _ hb e => by rw [e, HB2.out] at hb; simp at hb), b⟩
          refine ⟨rfl, ⟨ys, zs, ?_, own_kept HPZ.out KW (fun i hi e => by simp [Value.ownBlock] at hi; omega), fun u hu => nbg u ((HYN.out u hu).row HRZ.out HK2.out), fun h => HY0.out (by rw [h] at hk; simpa using hk), own_kept HZ.out KW (fun i hi e => by simp [Value.ownBlock] at hi; omega), fun u hu => nbg u (HZN.out u hu), ?_⟩⟩
          · exact blk_set (j := 5) (blk_set (j := 4) (blk_set (j := 3) HB2.out _) _) _
          · exact ((HK.out.mono (T := fun k => k = g ∨ k = pb ∨ k = rb) (fun _ _ h => Or.inr (Or.inl h))).trans' HK2.out (fun _ _ h => Or.inr (Or.inr h))).trans' KW (fun _ _ h => Or.inl h)
end Go.Proofs.Yteoajgphahobiaa
