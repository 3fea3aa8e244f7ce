/- pack: Take of the program. -/
import Derived.Test.YtafdkfieajdeiaaDoorPT1
import Derived.Handy
import Derived.Deep.RegionLaw
import Derived.Deep.AppendLies
/- pack: sectors in memory; bytes that are not all zeros. -/
namespace Go.Proofs.YtafdkfieajdeiaaDoor
open Go.RowKit
set_option linter.unusedVariables false
set_option linter.unusedSimpArgs false
theorem infoSec : (Tryd.prog.info? 79).map (fun i => (i.zero, i.size, i.bytes)) = some (some (.agg #[.int .i64 0, .slice none 0 0]), 2, 32) := by kernel_rfl
/-- The cells of sectors: their places, where their bytes lie. -/
def tCells : List Nat → List Value → List Value
  | n :: ns, u :: us => .int .i64 (n : Nat) :: u :: tCells ns us
  | _, _ => []
theorem tCells_snoc (n : Nat) (u : Value) : ∀ (ns : List Nat) (us : List Value), ns.length = us.length → tCells (ns ++ [n]) (us ++ [u]) = tCells ns us ++ [.int .i64 (n : Nat), u]
  | [], [], _ => rfl
  | m :: ns, x :: us, h => by
    simp only [List.cons_append, tCells, tCells_snoc n u ns us (by simpa using h)]
  | [], _ :: _, h => by simp at h
  | _ :: _, [], h => by simp at h
theorem tCells_len : ∀ (ns : List Nat) (us : List Value), ns.length = us.length → (tCells ns us).length = us.length * 2
  | [], [], _ => rfl
  | m :: ns, x :: us, h => by simp only [tCells, List.length_cons, tCells_len ns us (by simpa using h)]; omega
  | [], _ :: _, h => by simp at h
  | _ :: _, [], h => by simp at h
theorem tCells_at : ∀ (ns : List Nat) (us : List Value) (i n : Nat) (u : Value), ns[i]? = some n → us[i]? = some u → (tCells ns us)[i * 2]? = some (.int .i64 (n : Nat)) ∧ (tCells ns us)[i * 2 + 1]? = some u
  | m :: ns, x :: us, 0, n, u, h, h2 => by simp at h h2; subst h; subst h2; simp [tCells]
  | m :: ns, x :: us, i + 1, n, u, h, h2 => by
    have := tCells_at ns us i n u (by simpa using h) (by simpa using h2)
    simp only [tCells, show (i + 1) * 2 = i * 2 + 1 + 1 by omega, List.getElem?_cons_succ]
    exact this
  | [], _, _, _, _, h, _ => by simp at h
  | _ :: _, [], _, _, _, _, h => by simp at h
/-- Bytes that lie in a block of their own, from B on. -/
structure OwnB (w : World) (v : Value) (l : List UInt8) (B : Nat) : Prop where
  lies : ∃ g, B ≤ g ∧ v = .slice (some ⟨g, 0, none⟩) l.length l.length ∧ w.heap[g]? = some (.cells (l.map U8).toArray 5 (0, 0))
theorem OwnB.kept {w w' : World} {v : Value} {l : List UInt8} {B : Nat} {S : Nat → Prop} (h : OwnB w v l B) (k : Kept S w w') (hs : ∀ i, v.ownBlock = some i → ¬ S i) : OwnB w' v l B := by
  obtain ⟨g, hB, rfl, hb⟩ := h
  exact ⟨g, hB, rfl, blk_kept k (hs g rfl) hb⟩
theorem OwnB.same {w w' : World} {v : Value} {l : List UInt8} {B : Nat} (h : OwnB w v l B) (k : Same w w') : OwnB w' v l B := h.kept k (fun _ _ h => h)
theorem OwnB.weak {w : World} {v : Value} {l : List UInt8} {B C : Nat} (h : OwnB w v l B) (hc : C ≤ B) : OwnB w v l C := by
  obtain ⟨g, hB, e, hb⟩ := h
  exact ⟨g, Nat.le_trans hc hB, e, hb⟩
theorem OwnB.bt {w : World} {v : Value} {l : List UInt8} {B : Nat} (h : OwnB w v l B) : Bt w v l := by
  obtain ⟨g, _, rfl, hb⟩ := h
  refine ⟨_, _, rfl, Nat.le_refl _, fun _ => ⟨g, 0, rfl, fun j hj => ?_⟩⟩
  rw [blk_cell hb]
  simp [hj]
theorem OwnB.blk {w : World} {v : Value} {l : List UInt8} {B : Nat} (h : OwnB w v l B) : ∃ g, v.ownBlock = some g ∧ B ≤ g ∧ g < w.heap.size := by
  obtain ⟨g, hB, rfl, hb⟩ := h
  exact ⟨g, rfl, hB, blk_lt hb⟩
/-- Sectors, each with bytes in a block of its own; all of it lies in blocks from B on. -/
structure TSecs (w : World) (v : Value) (ls : List (Nat × List UInt8)) (B : Nat) (us : List Value) : Prop where
  len : us.length = ls.length
  row : w.ownsRow B 79 2 v ls.length (tCells (ls.map (·.1)) us)
  own : ∀ (i : Nat) (x : Nat × List UInt8) (u : Value), ls[i]? = some x → us[i]? = some u → OwnB w u x.2 B
  apart : ∀ (i j : Nat) (u t : Value), i < j → us[i]? = some u → us[j]? = some t → u.ownBlock ≠ t.ownBlock
theorem TSecs.nil (w : World) (B : Nat) : TSecs w (.slice none 0 0) [] B [] := ⟨rfl, World.ownsRow_nil _ _ _ _, fun i x u h => by simp at h, fun i j u t _ h => by simp at h⟩
theorem TSecs.kept {w w' : World} {v : Value} {ls : List (Nat × List UInt8)} {B : Nat} {us : List Value} {S : Nat → Prop} (h : TSecs w v ls B us) (k : Kept S w w') (hs : ∀ i, B ≤ i → i < w.heap.size → ¬ S i) : TSecs w' v ls B us :=
  ⟨h.len, own_kept h.row k (fun i hi => hs i (h.row.lt i hi).1 (h.row.lt i hi).2), fun i x u hx hu => (h.own i x u hx hu).kept k (fun j hj => by
    obtain ⟨q, e, a, b⟩ := (h.own i x u hx hu).blk
    rw [hj] at e
    cases e
    exact hs j a b), h.apart⟩
theorem TSecs.same {w w' : World} {v : Value} {ls : List (Nat × List UInt8)} {B : Nat} {us : List Value} (h : TSecs w v ls B us) (k : Same w w') : TSecs w' v ls B us := h.kept k (fun _ _ _ h => h)
/-- One more behind them, its bytes in a block that is newer than theirs. -/
theorem TSecs.snoc {w w1 : World} {l u v' : Value} {ls : List (Nat × List UInt8)} {n : Nat} {b : List UInt8} {B C : Nat} {us : List Value} (h : TSecs w l ls B us) (hC : ∀ (i : Nat) (t : Value), us[i]? = some t → ∀ k, t.ownBlock = some k → k < C) (hBC : B ≤ C)
    (hu : OwnB w u b C) (hg : w.grownBy w1 l.ownBlock) (ho : w1.ownsRow B 79 2 v' (ls.length + 1) (tCells (ls.map (·.1)) us ++ [.int .i64 (n : Nat), u])) : TSecs w1 v' (ls ++ [(n, b)]) B (us ++ [u]) := by
  have ha : ∀ i (cs : Array Value), w.heap[i]? = some (.cells cs 5 (0, 0)) → some i ≠ l.ownBlock := fun i cs hb e => own_apart h.row hb (by decide) e.symm
  have hk : ∀ (D : Nat) (x : Value) (y : List UInt8), OwnB w x y D → OwnB w1 x y D := fun D x y ⟨g, hB, e, hb⟩ => ⟨g, hB, e, (hg.block g (blk_lt hb) (ha g _ hb)).trans hb⟩
  have hat : ∀ (i : Nat) (x : Value), (us ++ [u])[i]? = some x → us[i]? = some x ∧ i < us.length ∨ i = us.length ∧ x = u := fun i x hx => by
    rw [List.getElem?_append] at hx
    split at hx
    next h => exact Or.inl ⟨hx, h⟩
    next h =>
      right
      obtain ⟨h1, h2⟩ := List.getElem?_eq_some_iff.1 hx
      have h3 : i - us.length = 0 := by simp at h1; omega
      refine ⟨by omega, ?_⟩
      rw [← h2]
      simp [h3]
  have hap : ∀ (i j : Nat) (x t : Value), i < j → (us ++ [u])[i]? = some x → (us ++ [u])[j]? = some t → x.ownBlock ≠ t.ownBlock := by
    intro i j x t hij hx ht
    rcases hat i x hx with ⟨a, a2⟩ | ⟨a, a2⟩
    · rcases hat j t ht with ⟨b, b2⟩ | ⟨b, b2⟩
      · exact h.apart i j x t hij a b
      · subst b2
        obtain ⟨g, e, q, _⟩ := hu.blk
        rw [e]
        intro e2
        have := hC i x a g e2
        omega
    · rcases hat j t ht with ⟨b, b2⟩ | ⟨b, b2⟩ <;> omega
  refine ⟨by simp [h.len], ?_, ?_, hap⟩
  · rw [List.map_append, List.map_cons, List.map_nil, tCells_snoc _ _ _ _ (by rw [List.length_map, h.len]), List.length_append]
    exact ho
  · intro i x y hx hy
    rcases hat i y hy with ⟨a, a2⟩ | ⟨a, a2⟩
    · have hl : i < ls.length := by rw [← h.len]; exact a2
      rw [List.getElem?_append_left hl] at hx
      exact hk _ _ _ (h.own i x y hx a)
    · subst a2
      rw [a, h.len, List.getElem?_append_right (Nat.le_refl _), Nat.sub_self] at hx
      simp at hx
      subst hx
      exact hk _ _ _ (hu.weak hBC)
theorem TSecs.below {w : World} {v : Value} {ls : List (Nat × List UInt8)} {B : Nat} {us : List Value} (h : TSecs w v ls B us) : ∀ (i : Nat) (t : Value), us[i]? = some t → ∀ k, t.ownBlock = some k → B ≤ k ∧ k < w.heap.size := by
  intro i t ht k hk
  obtain ⟨hi, _⟩ := List.getElem?_eq_some_iff.1 ht
  have hl : i < ls.length := by rw [← h.len]; exact hi
  obtain ⟨g, e, a, b⟩ := (h.own i _ t (List.getElem?_eq_getElem hl) ht).blk
  rw [hk] at e
  cases e
  exact ⟨a, b⟩
/-! ### Are there bytes that are not 0? -/
def nz (x : UInt8) : Bool := decide (x ≠ 0)
theorem nz_any (x : UInt8) (w : World) : Calls Tryd.prog 70 #[U8 x] w fun e w' => e = .returned (.bool (nz x)) ∧ w = w' := by
  have hx : nz x = !((x.toNat : Int) == 0) := by
    unfold nz
    by_cases h : x = 0
    · subst h; rfl
    · have : x.toNat ≠ 0 := fun e => h (by rw [← UInt8.toNat_inj]; simpa using e)
      rw [decide_eq_true h, beq_eq_false_iff_ne.2 (by omega)]
      rfl
  have HX := hidden hx
  clear hx
  unfold U8
  go_enter Tryd.func70, Tryd.ntmps70
  go_wp2
  go_returns
  refine ⟨?_, rfl⟩
  rw [HX.out]
  simp [go_sem, bne]
set_option maxHeartbeats 2000000 in
set_option maxRecDepth 100000 in
theorem indexFunc_nz (l : List UInt8) (v : Value) (w : World) (hb : Bt w v l) (hl : l.length ≤ 262144) :
    Calls Tryd.prog 78 #[v, .func (.func 70) #[] #[]] w fun e w' => ∃ z : Int, e = .returned (.int .i64 z) ∧ decide (0 ≤ z) = l.any nz ∧ w = w' := by
  have HN := hidden (fun z w => nz_any z w)
  obtain ⟨ao, cap, rfl, _⟩ := hb.form
  have HB := hidden hb
  obtain ⟨k, hk⟩ : ∃ k, l.length = k := ⟨_, rfl⟩
  rw [hk] at hl
  have E1 := hidden hk
  rw [hk]
  clear hb hk
  go_enter Tryd.func78, Tryd.ntmps78
  go_wp2
  go_loopw [8] (fun i wr => ∃ i' : Nat, i = .int .i64 i' ∧ i' ≤ k ∧ (l.take i').any nz = false ∧ w = wr) (fun i _ => k - (intOf i).toNat)
  case atStart => exact ⟨0, rfl, Nat.zero_le _, rfl, rfl⟩
  case round =>
    obtain ⟨i, rfl, hi, ha, rfl⟩ := hrel
    have HA := hidden ha
    clear ha
    by_cases h1 : i < k
    · have hil : i < l.length := by rw [E1.out]; exact h1
      obtain ⟨b, off, rfl, hc0⟩ := (HB.out).cell (by omega)
      have hc := hc0 i hil
      obtain ⟨x, hx⟩ : ∃ x, l[i] = x := ⟨_, rfl⟩
      have HX := hidden hx
      rw [hx] at hc
      have hall : Hid ((l.take (i + 1)).any nz = nz x) := by
        rw [Hid, List.take_add_one, List.any_append, HA.out, List.getElem?_eq_getElem hil, hx]
        simp
      clear hx hc0
      have q0 : (0 : Int) ≤ (i : Int) := Int.natCast_nonneg _
      have q1 : (i : Int) < (k : Int) := by omega
      cases hm : nz x
      · have HKx := HN.out x
        rw [hm] at HKx hall
        have HKX := hidden HKx
        clear hm HKx
        go_wp2_with (go_at_call 70; refine (HKX.out _).mono ?_; rintro e w1 ⟨rfl, rfl⟩)
        go_roundw
        case rel => exact ⟨i + 1, by go_num, by omega, hall.out, trivial⟩
        case measure => simp [intOf]; omega
      · have HM := hidden hm
        have HKx := HN.out x
        rw [hm] at HKx
        have HKX := hidden HKx
        clear hm HKx
        go_wp2_with (go_at_call 70; refine (HKX.out _).mono ?_; rintro e w1 ⟨rfl, rfl⟩)
        go_returns
        refine ⟨_, rfl, ?_, rfl⟩
        rw [List.any_eq_true.2 ⟨x, by rw [← HX.out]; exact List.getElem_mem _, HM.out⟩]
        simp
    · obtain rfl : i = k := by omega
      go_wp2
      go_returns
      refine ⟨_, rfl, ?_, rfl⟩
      have := HA.out
      rw [← E1.out, List.take_length] at this
      rw [this]
      rfl
set_option maxHeartbeats 2000000 in
set_option maxRecDepth 100000 in
theorem containsFunc_nz (l : List UInt8) (v : Value) (w : World) (hb : Bt w v l) (hl : l.length ≤ 262144) :
    Calls Tryd.prog 69 #[v, .func (.func 70) #[] #[]] w fun e w' => e = .returned (.bool (l.any nz)) ∧ w = w' := by
  have HI := hidden (indexFunc_nz l v w hb hl)
  clear hb hl
  go_enter Tryd.func69, Tryd.ntmps69
  go_wp2_with (go_at_call 78; refine HI.out.mono ?_; rintro e w1 ⟨z, rfl, hz, rfl⟩; have HZ := hidden hz; clear hz)
  go_returns
  refine ⟨?_, rfl⟩
  rw [← HZ.out]
  simp [go_sem]
set_option maxHeartbeats 2000000 in
set_option maxRecDepth 100000 in
theorem hasBytes_any (l : List UInt8) (v : Value) (w : World) (hb : Bt w v l) (hl : l.length ≤ 262144) :
    Calls Tryd.prog 42 #[v] w fun e w' => e = .returned (.bool (l.any nz)) ∧ w = w' := by
  have HI := hidden (containsFunc_nz l v w hb hl)
  clear hb hl
  go_enter Tryd.func42, Tryd.ntmps42
  go_wp2_with (go_at_call 69; refine HI.out.mono ?_; rintro e w1 ⟨rfl, rfl⟩)
  go_returns
  exact ⟨rfl, rfl⟩
end Go.Proofs.YtafdkfieajdeiaaDoor
namespace Go.Proofs.YtafdkfieajdeiaaDoor
open Go.RowKit
set_option linter.unusedVariables false
set_option linter.unusedSimpArgs false
set_option maxRecDepth 100000 in
theorem Bt.subA {w : World} {b off n cap : Nat} {l : List UInt8} (h : Bt w (.slice (some ⟨b, off, none⟩) n cap) l) {i j : Nat} (hij : i ≤ j) (hj : j ≤ n) (hne : cap ≠ i) (x y : Int) (hx : x = (i : Int)) (hy : y = (j : Int)) :
    (∀ W, (Instr.sliceAt 32 (.slice (some ⟨b, off, none⟩) n cap) (some (.int .i64 x)) (some (.int .i64 y)) none).run Tryd.prog W = .ok (.slice (some ⟨b, off + i, none⟩) (j - i) (cap - i)) W) ∧ ∀ W, Same w W → Bt W (.slice (some ⟨b, off + i, none⟩) (j - i) (cap - i)) ((l.take j).drop i) := by
  have e2 := h.len.2
  have e1 := h.len.1
  subst hx hy
  have hp : (if cap = i then (some ⟨b, off, none⟩ : Option Addr) else (some ⟨b, off, none⟩ : Option Addr).map (·.add (i * 1))) = some ⟨b, off + i, none⟩ := by rw [if_neg hne]; simp [add_none]
  refine ⟨fun W => ?_, fun W k => by have := h.part hij hj W k; rw [hp] at this; exact this⟩
  rw [← hp, run_sliceAt_slice (h := Tryd.underlying32), run_slice_lh (ht := Tryd.underlying32) (h0 := by omega) (h1 := by omega) (h2 := by omega), size_byte]
  simp [sliced]
theorem bt_row {w : World} {g n : Nat} {l : List UInt8} (h : w.heap[g]? = some (.cells (l.map U8).toArray 5 (0, 0))) (hn : l.length = n) : Bt w (.slice (some ⟨g, 0, none⟩) n n) l := by
  subst hn
  refine ⟨_, _, rfl, Nat.le_refl _, fun _ => ⟨g, 0, rfl, fun j hj => ?_⟩⟩
  rw [blk_cell h]
  simp [hj]
theorem sec_lies (w : World) (x y : Value) : Lies (w.alloc (.cells #[x, y] 79)) (some ⟨w.heap.size, 0, none⟩) 1 [x, y] := fun _ => ⟨_, rfl, fun j u hj => by
  match j, hj with
  | 0, hj => cases hj; exact blk_cell (j := 0) (blk_new w _)
  | 1, hj => cases hj; exact blk_cell (j := 1) (blk_new w _)⟩
theorem PW.put_row {g : Nat} {s : PSt} {w : World} (h : PW g s w) (j : Nat) (h2 : j ≠ 2) (h3 : j ≠ 3) (u : Value) : ∀ i, pS g (w.setCell ⟨g, j, none⟩ u) i → pS g w i := by
  obtain ⟨⟨vb, vs, h1, _, _⟩, _, _⟩ := h
  have hb := blk_set (j := j) h1 u
  have e : ∀ q, q ≠ j → (w.setCell ⟨g, j, none⟩ u).cell? ⟨g, q, none⟩ = w.cell? ⟨g, q, none⟩ := fun q hq => by
    rw [blk_cell hb, blk_cell h1]
    exact Array.getElem?_setIfInBounds_ne (Ne.symm hq)
  intro i hi
  unfold pS rowOf at hi ⊢
  rw [e 2 (Ne.symm h2), e 3 (Ne.symm h3)] at hi
  exact hi
def PSt.took0 (s : PSt) : PSt := { s with tslots := s.chunks.length, tend := s.bs.length, tshut := s.shut }
theorem took_put {g : Nat} {s : PSt} {w : World} (h : PW g s w) : PW g s.took0 (((w.setCell ⟨g, 5, none⟩ (.int .i64 (s.slots.length : Nat))).setCell ⟨g, 6, none⟩ (.int .i64 (s.bs.length : Nat))).setCell ⟨g, 7, none⟩ (.bool s.shut)) ∧ Turns g w (((w.setCell ⟨g, 5, none⟩ (.int .i64 (s.slots.length : Nat))).setCell ⟨g, 6, none⟩ (.int .i64 (s.bs.length : Nat))).setCell ⟨g, 7, none⟩ (.bool s.shut)) ∧ ∀ i, pS g (((w.setCell ⟨g, 5, none⟩ (.int .i64 (s.slots.length : Nat))).setCell ⟨g, 6, none⟩ (.int .i64 (s.bs.length : Nat))).setCell ⟨g, 7, none⟩ (.bool s.shut)) i → pS g w i := by
  have e : s.slots.length = s.chunks.length := slotsFrom_len _ _
  rw [e]
  obtain ⟨a1, a2⟩ := h.put (t := { s with tslots := s.chunks.length }) rfl rfl rfl rfl (Nat.le_refl _) 5 (.int .i64 (s.chunks.length : Nat)) (fun vb vs => rfl)
  obtain ⟨b1, b2⟩ := a1.put (t := { s with tslots := s.chunks.length, tend := s.bs.length }) rfl rfl rfl rfl (Nat.le_refl _) 6 (.int .i64 (s.bs.length : Nat)) (fun vb vs => rfl)
  obtain ⟨c1, c2⟩ := b1.put (t := s.took0) rfl rfl rfl rfl (Nat.le_refl _) 7 (.bool s.shut) (fun vb vs => rfl)
  exact ⟨c1, (a2.trans b2).trans c2, fun i hi => h.put_row 5 (by decide) (by decide) _ i (a1.put_row 6 (by decide) (by decide) _ i (b1.put_row 7 (by decide) (by decide) _ i hi))⟩
theorem took_put2 {g : Nat} {s : PSt} {w : World} (h : PW g s w) (hs : s.shut = true) : PW g s.took ((((w.setCell ⟨g, 5, none⟩ (.int .i64 (s.slots.length : Nat))).setCell ⟨g, 6, none⟩ (.int .i64 (s.bs.length : Nat))).setCell ⟨g, 7, none⟩ (.bool s.shut)).setCell ⟨g, 6, none⟩ (.int .i64 (s.len : Nat))) ∧ Turns g w ((((w.setCell ⟨g, 5, none⟩ (.int .i64 (s.slots.length : Nat))).setCell ⟨g, 6, none⟩ (.int .i64 (s.bs.length : Nat))).setCell ⟨g, 7, none⟩ (.bool s.shut)).setCell ⟨g, 6, none⟩ (.int .i64 (s.len : Nat))) ∧ ∀ i, pS g ((((w.setCell ⟨g, 5, none⟩ (.int .i64 (s.slots.length : Nat))).setCell ⟨g, 6, none⟩ (.int .i64 (s.bs.length : Nat))).setCell ⟨g, 7, none⟩ (.bool s.shut)).setCell ⟨g, 6, none⟩ (.int .i64 (s.len : Nat))) i → pS g w i := by
  obtain ⟨c1, c2, c3⟩ := took_put h
  obtain ⟨d1, d2⟩ := c1.put (t := s.took) rfl rfl rfl rfl (Nat.le_refl _) 6 (.int .i64 (s.len : Nat)) (fun vb vs => by unfold PSt.took PSt.took0 PCells; rw [hs]; rfl)
  exact ⟨d1, c2.trans d2, fun i hi => c3 i (c1.put_row 6 (by decide) (by decide) _ i hi)⟩
theorem PSt.took_is {s : PSt} (h : s.shut = false) : s.took = s.took0 := by unfold PSt.took PSt.took0; rw [h]; rfl
theorem Turns.drew {g : Nat} {w w' : World} (h : Turns g w w') : Turns g w w'.drew := ⟨h.kept.drew, h.row⟩
theorem PW.drew {g : Nat} {s : PSt} {w : World} (h : PW g s w) : PW g s w.drew := h.same ((Kept.refl _ _).drew)
/-- What was there behind the container, when only its own cells are written. -/
theorem TSecs.past {w w' : World} {v : Value} {ls : List (Nat × List UInt8)} {B g : Nat} {us : List Value} (h : TSecs w v ls B us) (k : Kept (fun i => i = g) w w') (hg : g < B) : TSecs w' v ls B us := h.kept k (fun i hi _ e => by omega)
theorem TSecs.weak {w : World} {v : Value} {ls : List (Nat × List UInt8)} {B C : Nat} {us : List Value} (h : TSecs w v ls B us) (hc : C ≤ B) : TSecs w v ls C us :=
  ⟨h.len, own_mono h.row hc, fun i x u hx hu => (h.own i x u hx hu).weak hc, h.apart⟩
set_option maxHeartbeats 4000000 in
set_option maxRecDepth 100000 in
theorem p_take {g : Nat} {s : PSt} {w : World} (h : PW g s w) (hT : Tab w) (ti : s.TI) : Calls Tryd.prog 14 #[.pointer (some ⟨g, 0, none⟩)] w fun e w' => ∃ v us, e = .returned v ∧ TSecs w' v (s.secs s.sectors) w.heap.size us ∧ PW g s.took w' ∧ Turns g w w' ∧ ∀ k, pS g w' k → pS g w k := by
  obtain ⟨i0, hi, hz0, hz1, hz2⟩ := info_parts infoSec
  have A := hidden (p_made h)
  have HI := hidden (p_image h hT)
  have HP := hidden h
  have HTI := hidden ti
  obtain ⟨vb, vs, hbox, h2, h3⟩ := h.lies
  obtain ⟨va, vc, rfl, _⟩ := h3.form
  obtain ⟨ba, bc, rfl, _⟩ := h2.form
  have ok := h.ok
  have hs0 := ok.s0
  have hs1 := ok.s1
  have hc0 := ok.c0
  have hc1 := ok.c1
  have hroom : s.len ≤ 262144 := ok.room
  have htl := PSt.tend_le ok ti
  have hdv0 : Int.tdiv (s.tend : Int) (s.size : Int) = ((s.tend / s.size : Nat) : Int) := (Int.ofNat_tdiv _ _).symm
  have hq0 : s.tend / s.size ≤ s.sectors := Nat.div_le_of_le_mul htl
  have hqm : s.tend < (s.tend / s.size + 1) * s.size := by
    have := Nat.lt_div_mul_add (a := s.tend) (b := s.size) (by omega)
    rw [Nat.add_mul]
    omega
  have hqf := PSt.secs_first ok ti
  obtain ⟨q, hq⟩ : ∃ q, s.tend / s.size = q := ⟨_, rfl⟩
  rw [hq] at hdv0 hq0 hqm hqf
  have hdv : wrap64 ((s.tend : Int) / (s.size : Int)) = (q : Int) := by
    rw [← Int.tdiv_eq_ediv_of_nonneg (by omega), hdv0]
    exact IntWalk.wrap64_in _ ⟨by omega, by omega⟩
  have HDV := hidden hdv
  have HBX : Hid (∀ W, Same w W → W.heap[g]? = some (.cells (PCells s (.slice ba s.bs.length bc) (.slice va s.slots.length vc)) 70 (0, 0))) := hidden (fun W k => blk_kept k (fun h => h) hbox)
  have HOK := hidden ok
  have hsz : ((s.size : Int) == 0) = false := by rw [beq_eq_false_iff_ne]; omega
  have hsz2 : ¬ (s.size : Int) = 0 := by omega
  have HQ := hidden (show s.size ≤ 4096 ∧ s.sectors ≤ 64 ∧ s.len ≤ 262144 ∧ s.tend ≤ s.len ∧ q ≤ s.sectors ∧ s.tend < (q + 1) * s.size from ⟨hs1, hc1, hroom, htl, hq0, hqm⟩)
  have HF := hidden hqf
  clear h hT ti hbox h2 h3 ok hs0 hs1 hc0 hc1 hroom htl hq0 hqm hqf hq hdv0 hdv
  go_enter Tryd.func14, Tryd.ntmps14
  go_wp2_with (first
    | (go_at_call 38; refine (A.out).mono ?_; rintro e w1 ⟨rfl, rfl⟩)
    | (go_at_call 18; refine (HI.out).mono ?_; rintro e w1 ⟨rfl, him, k1⟩; have HIM := hidden him; have K1 := hidden k1; have D0 : ∀ m, (w1.drewN m).cell? ⟨g, 0, none⟩ = some (.int .i64 s.size) := fun m => blk_cell (HBX.out _ (k1.drewN m)); have D6 : ∀ m, (w1.drewN m).cell? ⟨g, 6, none⟩ = some (.int .i64 s.tend) := fun m => blk_cell (HBX.out _ (k1.drewN m)); clear him k1))
  go_quiet (fail)
  go_wp2
  go_loopw [3, 5] (fun lv nv wr => ∃ (k : Nat) (us : List Value), nv = .int .i64 k ∧ q ≤ k ∧ k ≤ s.sectors ∧ TSecs wr lv (s.secs k) w1.heap.size us ∧ Same w1 wr) (fun _ nv wr => s.sectors - (intOf nv).toNat)
  case atStart => exact ⟨q, [], by rw [HDV.out], Nat.le_refl _, HQ.out.2.2.2.2.1, by rw [HF.out]; exact TSecs.nil _ _, (Kept.refl _ _).drewN _⟩
  case round =>
    obtain ⟨k, us, rfl, hqk, hk, hT, hs⟩ := hrel
    have HT := hidden hT
    have HS := hidden hs
    have C0 : ∀ m, (wr.drewN m).cell? ⟨g, 0, none⟩ = some (.int .i64 s.size) := fun m => blk_cell (HBX.out _ (K1.out.trans (hs.drewN m)))
    have C6 : ∀ m, (wr.drewN m).cell? ⟨g, 6, none⟩ = some (.int .i64 s.tend) := fun m => blk_cell (HBX.out _ (K1.out.trans (hs.drewN m)))
    have C1 : wr.cell? ⟨g, 1, none⟩ = some (.int .i64 s.sectors) := blk_cell (HBX.out _ (K1.out.trans hs))
    have C00 : wr.cell? ⟨g, 0, none⟩ = some (.int .i64 s.size) := blk_cell (HBX.out _ (K1.out.trans hs))
    by_cases h1 : k < s.sectors
    · obtain ⟨F, hF⟩ : ∃ F, k * s.size = F := ⟨_, rfl⟩
      obtain ⟨T, hTT⟩ : ∃ T, (k + 1) * s.size = T := ⟨_, rfl⟩
      obtain ⟨M, hM⟩ : ∃ M, max F s.tend = M := ⟨_, rfl⟩
      have hFT : T = F + s.size := by rw [← hF, ← hTT, Nat.add_mul]; omega
      have hTL : T ≤ s.len := by
        rw [← hTT]
        have := Nat.mul_le_mul_right s.size h1
        unfold PSt.len
        rw [Nat.mul_comm s.size]
        exact this
      have hMT : s.tend < T := by
        have h5 := HQ.out.2.2.2.2.2
        have h6 : (q + 1) * s.size ≤ (k + 1) * s.size := Nat.mul_le_mul_right _ (by omega)
        omega
      have hq1 := HQ.out.1
      have hq2 := HQ.out.2.2.1
      have hsz0 := HOK.out.s0
      have w1' : IntKind.i64.wrap ((k : Int) * (s.size : Int)) = (F : Int) := by rw [← hF, IntKind.wrap_i64]; have : ((k * s.size : Nat) : Int) = (k : Int) * (s.size : Int) := Int.natCast_mul _ _; omega
      have w2' : IntKind.i64.wrap ((k : Int) + 1) = (k : Int) + 1 := by rw [IntKind.wrap_i64]; have := HQ.out.2.1; omega
      have w3' : IntKind.i64.wrap (((k : Int) + 1) * (s.size : Int)) = (T : Int) := by
        rw [← hTT, IntKind.wrap_i64]
        have : (((k + 1) * s.size : Nat) : Int) = ((k : Int) + 1) * (s.size : Int) := by rw [Int.natCast_mul, Int.natCast_add]; rfl
        omega
      have hmx : ∀ ts t (W : World), (Builtin.max_ ts t #[.int .i64 (F : Int), .int .i64 (s.tend : Int)]).run Tryd.prog W = .ok (.int .i64 (M : Int)) W := fun ts t W => by
        rw [run_max_int2]; congr 2; split <;> omega
      have HBT : Hid (∀ W, Same w1 W → Bt W (.slice (some ⟨w.heap.size, 0, none⟩) s.len s.len) s.img) := hidden (fun W kk => bt_row (blk_kept kk (fun h => h) HIM.out) (PSt.img_len HOK.out))
      obtain ⟨hsM, hbM⟩ := (HBT.out w1 (Kept.refl _ _)).subA (i := M) (j := T) (by omega) hTL (by omega) (M : Int) (T : Int) rfl rfl
      obtain ⟨hsF, hbF⟩ := (HBT.out w1 (Kept.refl _ _)).subA (i := F) (j := T) (by omega) hTL (by omega) (F : Int) (T : Int) rfl rfl
      rw [Nat.zero_add] at hsM hsF
      simp only [Nat.zero_add] at hbM hbF
      have hdf := PSt.diff_rest HOK.out HTI.out k (by rw [hTT]; omega) h1
      rw [hF, hTT, hM] at hdf
      have hHB : Hid (∀ W, Same w1 W → Calls Tryd.prog 42 #[.slice (some ⟨w.heap.size, M, none⟩) (T - M) (s.len - M)] W fun e w' => e = .returned (.bool (s.diff k)) ∧ W = w') := hidden (fun W kk => by
        have h5 := hasBytes_any _ _ W (hbM W kk) (by rw [List.length_drop, List.length_take]; omega)
        rw [take_drop_sub _ _ _ (by omega)] at h5
        rw [← hdf]
        exact h5)
      have hsec : (s.img.take T).drop F = secB s.size s.img k := by
        rw [take_drop_sub _ _ _ (by omega), show T - F = s.size by omega]
        unfold secB
        rw [hF]
      rw [hsec] at hbF
      have HSS : Hid (s.secs (k + 1) = s.secs k ++ (if s.diff k then [(k, secB s.size s.img k)] else [])) := hidden rfl
      have hsl := secB_len (show s.img.length = s.size * s.sectors from PSt.img_len HOK.out) k h1
      rw [show T - F = s.size by omega] at hbF hsF
      have HBF := hidden hbF
      have HLN := hidden hsl
      have q0 : (0 : Int) ≤ (k : Int) := Int.natCast_nonneg _
      have q1 : (k : Int) < (s.sectors : Int) := by omega
      obtain ⟨sec, hse⟩ : ∃ sec, secB s.size s.img k = sec := ⟨_, rfl⟩
      rw [hse] at HBF HLN HSS
      have HSL := hidden (show (s.secs k).length ≤ 64 from by have := s.secs_le k; have := HQ.out.2.1; omega)
      clear hbM hbF hdf hsec hsl hse hF hTT hM hT hs hFT hTL hMT hq2
      cases hd : s.diff k with
      | false =>
        rw [hd] at hHB HSS
        clear hd
        go_wp2
        go_quiet (fail)
        go_wp2_with (go_at_call 42; refine (hHB.out _ (HS.out.drewN _)).mono ?_; rintro e w2 ⟨rfl, rfl⟩)
        go_roundw
        case rel => exact ⟨k + 1, us, by go_num, by omega, by omega, by rw [HSS.out]; simpa using HT.out.same ((Kept.refl _ _).drewN _), HS.out.drewN _⟩
        case measure => simp [intOf]; omega
      | true =>
        rw [hd] at hHB HSS
        clear hd
        have hmk := make_bytes s.size (by omega)
        obtain ⟨a0, c0, hlv⟩ := own_form HT.out.row
        subst hlv
        have hS0 := HS.out.size
        have KX : Hid (∀ m, Same wr ((wr.drewN m).alloc (.cells (List.replicate s.size (U8 0)).toArray 5))) := hidden (fun m => ((Kept.refl _ wr).drewN m).alloc _)
        have hcp : ∀ m, (Builtin.copy_ #[32, 32] 3 #[.slice (some ⟨wr.heap.size, 0, none⟩) s.size s.size, .slice (some ⟨w.heap.size, F, none⟩) s.size (s.len - F)]).run Tryd.prog ((wr.drewN m).alloc (.cells (List.replicate s.size (U8 0)).toArray 5)) = .ok (goInt s.size) (((wr.drewN m).alloc (.cells (List.replicate s.size (U8 0)).toArray 5)).setRow wr.heap.size (sec.map U8).toArray) := fun m => by
          have h5 := copy_zero s.size ⟨w.heap.size, F, none⟩ (s.len - F) sec ((wr.drewN m).alloc (.cells (List.replicate s.size (U8 0)).toArray 5)) (by rw [HLN.out]; exact HBF.out _ (HS.out.trans (KX.out m))) (by rw [HLN.out]; exact Nat.le_refl _) wr.heap.size (blk_new (wr.drewN m) _)
          rw [HLN.out, Nat.sub_self, List.replicate_zero, List.append_nil] at h5
          exact h5
        obtain ⟨Z, hZ⟩ : ∃ Z : Nat → World, ∀ m, ((wr.drewN m).alloc (.cells (List.replicate s.size (U8 0)).toArray 5)).setRow wr.heap.size (sec.map U8).toArray = Z m := ⟨_, fun _ => rfl⟩
        have HZB : Hid (∀ m, (Z m).heap[wr.heap.size]? = some (.cells (sec.map U8).toArray 5 (0, 0))) := hidden (fun m => by rw [← hZ]; exact setRow_heap _ _ _ _ 5 (0, 0) (blk_new (wr.drewN m) _))
        have HZK : Hid (∀ m, Same wr (Z m)) := hidden (fun m => by rw [← hZ]; exact same_setRow (KX.out m) (Nat.le_refl _) _)
        have hcp2 : ∀ m, (Builtin.copy_ #[32, 32] 3 #[.slice (some ⟨wr.heap.size, 0, none⟩) s.size s.size, .slice (some ⟨w.heap.size, F, none⟩) s.size (s.len - F)]).run Tryd.prog ((wr.drewN m).alloc (.cells (Array.replicate s.size (U8 0)) 5)) = .ok (goInt s.size) (Z m) := fun m => by
          have h5 := hcp m
          rw [hZ] at h5
          simpa only [List.toArray_replicate] using h5
        have HSZ := hidden hS0
        have m1 : Hid ((s.secs k).length + 1 ≤ maxLen) := hidden (by have := HSL.out; unfold maxLen; omega)
        have m2 : Hid (((s.secs k).length + 1) * 32 ≤ 140737488355328) := hidden (by have := HSL.out; omega)
        have m3 : Hid (∀ m, w1.heap.size ≤ (Z m).heap.size) := hidden (fun m => Nat.le_trans HSZ.out (HZK.out m).size)
        clear hcp hZ hS0
        go_wp2
        go_quiet (fail)
        go_wp2_with (first
          | (go_at_call 42; refine (hHB.out _ (HS.out.drewN _)).mono ?_; rintro e w2 ⟨rfl, rfl⟩)
          | (at_builtin; refine wpList_append_where (P := Tryd.prog) rfl _ _ 40 rfl w1.heap.size 79 i0 _ 2 32 Tryd.underlying40 hi hz0 hz1 hz2 rfl (by decide) a0 (s.secs k).length c0 _ rfl ((own_kept HT.out.row (HZK.out _) (fun _ _ h => h)).alloc _) (some ⟨(Z _).heap.size, 0, none⟩) 1 1 [.int .i64 (k : Nat), .slice (some ⟨wr.heap.size, 0, none⟩) s.size s.size] rfl rfl (sec_lies _ _ _) (fun u hu => by simp at hu; rcases hu with rfl | rfl <;> rfl) m1.out m2.out (by have := m3.out; simp; exact Nat.le_succ_of_le (this _)) ?_; intro a' cap' w3 hown hgrow _))
        go_roundw
        case rel =>
          refine ⟨k + 1, us ++ [.slice (some ⟨wr.heap.size, 0, none⟩) s.size s.size], by go_num, by omega, by omega, ?_, ?_⟩
          · rw [HSS.out]
            exact TSecs.snoc (HT.out.same ((HZK.out _).alloc _)) (fun i t ht k hk => (HT.out.below i t ht k hk).2) HSZ.out ⟨wr.heap.size, Nat.le_refl _, by rw [HLN.out], blk_alloc (HZB.out _) _⟩ hgrow hown
          · exact ((HS.out.trans (HZK.out _)).alloc _).grown hgrow (fun q e hk => by have := (HT.out.row.lt q e).1; omega)
        case measure => simp [intOf]; omega
    · have he : k = s.sectors := by omega
      subst he
      have q1 : ¬ (s.sectors : Int) < (s.sectors : Int) := by omega
      have B := HBX.out _ (K1.out.trans hs)
      have HB := hidden B
      have X2 : wr.cell? ⟨g, 2, none⟩ = some (.slice ba s.bs.length bc) := blk_cell B
      have X3 : wr.cell? ⟨g, 3, none⟩ = some (.slice va s.slots.length vc) := blk_cell B
      have X4 : wr.cell? ⟨g, 4, none⟩ = some (.bool s.shut) := blk_cell B
      have Y2 : wr.drew.cell? ⟨g, 2, none⟩ = some (.slice ba s.bs.length bc) := blk_cell B
      have Y3 : wr.drew.cell? ⟨g, 3, none⟩ = some (.slice va s.slots.length vc) := blk_cell B
      have Y4 : wr.drew.cell? ⟨g, 4, none⟩ = some (.bool s.shut) := blk_cell B
      have X5 : wr.cell? ⟨g, 5, none⟩ = some (.int .i64 s.tslots) := blk_cell B
      have X6 : wr.cell? ⟨g, 6, none⟩ = some (.int .i64 s.tend) := blk_cell B
      have X7 : wr.cell? ⟨g, 7, none⟩ = some (.bool s.tshut) := blk_cell B
      have f5 : wr.frozen? ⟨g, 5, none⟩ = false := blk_free B
      have f6 : wr.frozen? ⟨g, 6, none⟩ = false := blk_free B
      have f7 : wr.frozen? ⟨g, 7, none⟩ = false := blk_free B
      have PWr := hidden (HP.out.same (K1.out.trans hs))
      have KW := hidden (K1.out.trans hs)
      obtain ⟨b, hb⟩ : ∃ b, s.shut = b := ⟨_, rfl⟩
      rw [hb] at X4 Y4
      have HBB := hidden hb
      clear B hT hs C0 C6 C00 hb
      go_wp2
      go_region_law fail
      all_goals
        cases b with
        | false =>
          go_wp2
          go_returns
          have e := took_put PWr.out
          rw [HBB.out, ← PSt.took_is HBB.out] at e
          have kk := HT.out.past (((((Kept.refl (fun i => i = g) wr).setCell (p := ⟨g, 5, none⟩) rfl (.int .i64 (s.slots.length : Nat)))).setCell (p := ⟨g, 6, none⟩) rfl (.int .i64 (s.bs.length : Nat))).setCell (p := ⟨g, 7, none⟩) rfl (.bool false)) (Nat.lt_of_lt_of_le HP.out.lt K1.out.size)
          exact ⟨_, us, rfl, by first | exact kk.weak K1.out.size | exact (kk.weak K1.out.size).same ((Kept.refl _ _).drew), by first | exact e.1 | exact e.1.drew, by first | exact (Turns.same HP.out.lt KW.out).trans e.2.1 | exact ((Turns.same HP.out.lt KW.out).trans e.2.1).drew, fun q hq => (pS_same HP.out.lt KW.out q).1 (e.2.2 q hq)⟩
        | true =>
          go_wp2
          go_returns
          have e := took_put2 PWr.out HBB.out
          rw [HBB.out] at e
          have kk := HT.out.past ((((((Kept.refl (fun i => i = g) wr).setCell (p := ⟨g, 5, none⟩) rfl (.int .i64 (s.slots.length : Nat)))).setCell (p := ⟨g, 6, none⟩) rfl (.int .i64 (s.bs.length : Nat))).setCell (p := ⟨g, 7, none⟩) rfl (.bool true)).setCell (p := ⟨g, 6, none⟩) rfl (.int .i64 (s.len : Nat))) (Nat.lt_of_lt_of_le HP.out.lt K1.out.size)
          exact ⟨_, us, rfl, by first | exact kk.weak K1.out.size | exact (kk.weak K1.out.size).same ((Kept.refl _ _).drew), by first | exact e.1 | exact e.1.drew, by first | exact (Turns.same HP.out.lt KW.out).trans e.2.1 | exact ((Turns.same HP.out.lt KW.out).trans e.2.1).drew, fun q hq => (pS_same HP.out.lt KW.out q).1 (e.2.2 q hq)⟩
end Go.Proofs.YtafdkfieajdeiaaDoor
