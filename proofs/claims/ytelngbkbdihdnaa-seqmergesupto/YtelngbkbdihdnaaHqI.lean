/- seq's heap of int: dropFirst, Push, Pop, Least, Len. (Made by mkq.py of hq.src.) -/
import Derived.Test.YtelngbkbdihdnaaHpI
import Derived.Test.YtelngbkbdihdnaaQ2
import Derived.Lib.SliceRun
namespace Go.Proofs.Ytelngbkbdihdnaa
open Go.RowKit
set_option linter.unusedVariables false
theorem zero_I (w : World) : (zeroValue 3).run Try.prog w = .ok (kI 0) w := by kernel_rfl
theorem clear1_I (b o c : Nat) (w : World) (v : Value) (hc : w.cell? ⟨b, o, none⟩ = some v) (hf : w.frozen? ⟨b, o, none⟩ = false) (ty : TypeId) :
    (Builtin.clear_ #[22] ty #[.slice (some ⟨b, o, none⟩) 1 c]).run Try.prog w = .ok (.tuple #[]) (w.setCell ⟨b, o, none⟩ (kI 0)) := by
  have h := Lib.run_clear_slice (P := Try.prog) w 22 3 ty (kI 0) Try.underlying22 zero_I rfl rfl b o 1 c (by decide) (fun j hj => by
    obtain rfl : j = 0 := by omega
    rw [Nat.add_zero, hc]; rfl) (fun j hj => by
    obtain rfl : j = 0 := by omega
    exact hf)
  rw [h]
  rfl
theorem own_take {w : World} {B g n m cap : Nat} {e : TypeId} {xs : List Value} (h : w.ownsRow B e 1 (.slice (some ⟨g, 0, none⟩) n cap) n xs) (hm : m ≤ n) : w.ownsRow B e 1 (.slice (some ⟨g, 0, none⟩) m cap) m (xs.take m) := by
  obtain ⟨h1, h2⟩ := h
  refine ⟨by rw [List.length_take]; omega, ?_⟩
  rcases h2 with ⟨h2, _⟩ | ⟨g', cap', cur, hv, hb, hg, hn, hc, hs, ht⟩
  · cases h2
  · obtain ⟨rfl, rfl⟩ : g = g' ∧ cap = cap' := by simpa using hv
    refine Or.inr ⟨g, cap, cur, rfl, hb, hg, by omega, hc, hs, ?_⟩
    rw [← ht, List.take_take]
    congr 1
    omega
set_option maxHeartbeats 4000000 in
set_option maxRecDepth 100000 in
theorem drop_I (b cap n : Nat) (L : List Int) (w : World) (hL : L.length = n) (h1 : 0 < L.length) (hn : n ≤ 140737488355328) (hcap : n ≤ cap) (hb : w.ownsRow 0 3 1 (.slice (some ⟨b, 0, none⟩) n cap) n (L.map kI)) (hH : IsHeap ltI L) :
    Calls Try.prog 42 #[.slice (some ⟨b, 0, none⟩) n cap, lessV_I] w fun e w' => e = .returned (.slice (some ⟨b, 0, none⟩) (n - 1) cap) ∧ ∃ L', L'.Perm (dropL L h1) ∧ IsHeap ltI L' ∧ w'.ownsRow 0 3 1 (.slice (some ⟨b, 0, none⟩) (n - 1) cap) (n - 1) (L'.map kI) ∧ Kept (fun k => k = b) w w' := by
  obtain ⟨m, hm⟩ : ∃ m, n = m + 1 := ⟨n - 1, by omega⟩
  subst hm
  have hml : m < L.length := by omega
  obtain ⟨c1, c1f⟩ := own_cell hb (i := m) (kI L[m]) (by rw [List.getElem?_map, List.getElem?_eq_getElem hml]; rfl)
  obtain ⟨c0, c0f⟩ := own_cell hb (i := 0) (kI L[0]) (by rw [List.getElem?_map, List.getElem?_eq_getElem h1]; rfl)
  have HB := hidden hb
  have HH := hidden hH
  obtain ⟨x, hx⟩ : ∃ x, L[m] = x := ⟨_, rfl⟩
  rw [hx] at c1
  have HX := hidden hx
  have c1' : (w.setCell ⟨b, 0, none⟩ (kI x)).cell? ⟨b, m, none⟩ = some (kI x) := by
    refine (own_cell (own_set HB.out (i := 0) (by omega) (kI x)) (i := m) (kI x) ?_).1
    by_cases h0 : m = 0
    · subst h0; rw [List.getElem?_set_self (by rw [List.length_map]; exact h1)]
    · rw [List.getElem?_set_ne (by omega), List.getElem?_map, List.getElem?_eq_getElem hml, hx]; rfl
  have hcl := clear1_I b m (cap - m) (w.setCell ⟨b, 0, none⟩ (kI x)) _ c1' (own_free (own_set HB.out (i := 0) (by omega) _))
  have q1 : (m : Int) ≤ (cap : Int) := by omega
  have e1 : L.length - 1 = m := by omega
  have hrow : (((w.setCell ⟨b, 0, none⟩ (kI x)).setCell ⟨b, m, none⟩ (kI 0))).ownsRow 0 3 1 (.slice (some ⟨b, 0, none⟩) m cap) m ((dropL L h1).map kI) := by
    have z := own_take (m := m) (own_set (i := m) (own_set (i := 0) HB.out (by omega) (kI x)) (by omega) (kI 0)) (by omega)
    have e : (dropL L h1).map kI = (((L.map kI).set 0 (kI x)).set m (kI 0)).take m := by
      rw [dropL, List.map_take, List.map_set]
      simp only [e1, hx]
      conv => rhs; rw [List.take_set_of_le (Nat.le_refl m)]
    rw [e]
    exact z
  have SK := hidden (sink_I b cap m (dropL L h1) _ (by rw [dropL_len]; omega) (by omega) hrow (down_start hH h1))
  clear hb hH hx hrow e1 hL
  go_enter Try.func42, Try.ntmps42
  go_wp2_with (first
    | (rw [hcl])
    | (go_at_call 75; go_must (refine (SK.out).mono ?_; rintro e w1 ⟨rfl, L', hp, hh, hr, hk⟩)))
  go_returns
  exact ⟨rfl, L', hp, hh, hr, ((((Kept.refl (fun k => k = b) w).setCell (p := ⟨b, 0, none⟩) rfl _).setCell (p := ⟨b, m, none⟩) rfl _)).trans hk⟩
theorem infoK_I : (Try.prog.info? 3).map (fun i => (i.zero, i.size, i.bytes)) = some (some (kI 0), 1, 8) := by kernel_rfl
/-- A heap in memory. -/
structure HI (B g : Nat) (L : List Int) (w : World) : Prop where
  ex : ∃ v, w.heap[g]? = some (.cells #[v] 75 (0, 0)) ∧ w.ownsRow 0 3 1 v L.length (L.map kI) ∧ (∀ k, v.ownBlock = some k → B ≤ k)
  hp : IsHeap ltI L
  lg : B ≤ g
/-- What a call of a heap may write: its own block, its row, and new ones. -/
structure HFI (g : Nat) (w w' : World) : Prop where
  kept : Kept (fun k => k = g ∨ rowOf w g 0 = some k) w w'
  row : ∀ k, k < w.heap.size → rowOf w' g 0 = some k → rowOf w g 0 = some k
theorem HI.same {B g : Nat} {L : List Int} {w w' : World} (h : HI B g L w) (k : Same w w') : HI B g L w' := by
  obtain ⟨v, h1, h2, h3⟩ := h.ex
  exact ⟨⟨v, blk_kept k (fun h => h) h1, own_kept h2 k (fun _ _ h => h), h3⟩, h.hp, h.lg⟩
theorem HI.lt {B g : Nat} {L : List Int} {w : World} (h : HI B g L w) : g < w.heap.size ∧ ∀ k, rowOf w g 0 = some k → B ≤ k ∧ k < w.heap.size := by
  obtain ⟨v, h1, h2, h3⟩ := h.ex
  refine ⟨blk_lt h1, fun k hk => ?_⟩
  have e : rowOf w g 0 = v.ownBlock := by unfold rowOf; rw [blk_cell h1]; rfl
  rw [e] at hk
  exact ⟨h3 k hk, (h2.lt k hk).2⟩
theorem HI.kept {B g : Nat} {L : List Int} {w w' : World} {S : Nat → Prop} (h : HI B g L w) (k : Kept S w w') (hg : ¬ S g) (hr : ∀ i, rowOf w g 0 = some i → ¬ S i) : HI B g L w' := by
  obtain ⟨v, h1, h2, h3⟩ := h.ex
  have e : rowOf w g 0 = v.ownBlock := by unfold rowOf; rw [blk_cell h1]; rfl
  exact ⟨⟨v, blk_kept k hg h1, own_kept h2 k (fun i hi => hr i (by rw [e]; exact hi)), h3⟩, h.hp, h.lg⟩
set_option maxHeartbeats 1000000 in
set_option maxRecDepth 100000 in
theorem new_I (w : World) : Calls Try.prog 11 #[] w fun e w' => ∃ g, e = .returned (.pointer (some ⟨g, 0, none⟩)) ∧ w.heap.size ≤ g ∧ HI w.heap.size g [] w' ∧ Same w w' := by
  go_enter Try.func11, Try.ntmps11
  go_wp2
  go_returns
  exact ⟨w.heap.size, rfl, Nat.le_refl _, ⟨⟨_, heap_alloc_new w _, World.ownsRow_nil _ _ _ _, (fun k hk => by cases hk)⟩, (fun j hj => by simp at hj), Nat.le_refl _⟩, same_alloc _ _⟩
set_option maxHeartbeats 1000000 in
set_option maxRecDepth 100000 in
theorem len_I {B g : Nat} {L : List Int} {w : World} (h : HI B g L w) : Calls Try.prog 15 #[.pointer (some ⟨g, 0, none⟩)] w fun e w' => e = .returned (.int .i64 L.length) ∧ w = w' := by
  obtain ⟨v, h1, h2, _⟩ := h.ex
  obtain ⟨a, cap, rfl⟩ := own_form h2
  have c0 : w.cell? ⟨g, 0, none⟩ = some (.slice a L.length cap) := blk_cell h1
  clear h h1 h2
  go_enter Try.func15, Try.ntmps15
  go_wp2
  go_returns
  exact ⟨rfl, rfl⟩
set_option maxHeartbeats 1000000 in
set_option maxRecDepth 100000 in
theorem least_I {B g : Nat} {L : List Int} {w : World} (h : HI B g L w) : Calls Try.prog 14 #[.pointer (some ⟨g, 0, none⟩)] w fun e w' => e = .returned (.tuple #[kI (L[0]?.getD 0), .bool (decide (0 < L.length))]) ∧ w = w' := by
  have hl := hidden (len_I h)
  obtain ⟨v, h1, h2, _⟩ := h.ex
  obtain ⟨a, cap, rfl⟩ := own_form h2
  have c0 : w.cell? ⟨g, 0, none⟩ = some (.slice a L.length cap) := blk_cell h1
  by_cases h0 : 0 < L.length
  · obtain ⟨b, rfl⟩ : ∃ b : Nat, a = some ⟨b, 0, none⟩ := by
      rcases h2.2 with ⟨_, h⟩ | ⟨b, cap', cur, h, _⟩
      · omega
      · exact ⟨b, by simpa using (Value.slice.inj h).1⟩
    obtain ⟨c1, c1f⟩ := own_cell h2 (i := 0) (kI L[0]) (by rw [List.getElem?_map, List.getElem?_eq_getElem h0]; rfl)
    have e0 : L[0]?.getD 0 = L[0] := by rw [List.getElem?_eq_getElem h0]; rfl
    have e1 : decide (0 < L.length) = true := by simpa using h0
    have e2 : ((L.length : Int) == 0) = false := by rw [beq_eq_false_iff_ne]; omega
    have q1 : (0 : Int) < (L.length : Int) := by omega
    rw [e0, e1]
    clear h h1 h2
    generalize L[0] = x at *
    generalize L.length = n at *
    go_enter Try.func14, Try.ntmps14
    go_wp2_with (go_at_call 15; go_must (refine (hl.out).mono ?_; rintro e w1 ⟨rfl, rfl⟩))
    go_returns
    exact ⟨rfl, rfl⟩
  · obtain rfl : L = [] := List.length_eq_zero_iff.1 (by omega)
    clear h h1 h2
    go_enter Try.func14, Try.ntmps14
    go_wp2_with (go_at_call 15; go_must (refine (hl.out).mono ?_; rintro e w1 ⟨rfl, rfl⟩))
    go_returns
    exact ⟨rfl, rfl⟩
set_option maxHeartbeats 2000000 in
set_option maxRecDepth 100000 in
theorem push_I {B g : Nat} {L : List Int} {w : World} (h : HI B g L w) (hB : B ≤ w.heap.size) (x : Int) (hl : (L.length + 1) * 8 ≤ 140737488355328) :
    Calls Try.prog 16 #[.pointer (some ⟨g, 0, none⟩), kI x] w fun e w' => e = .returned (.tuple #[]) ∧ ∃ L', L'.Perm (x :: L) ∧ HI B g L' w' ∧ HFI g w w' := by
  obtain ⟨v, h1, h2, h3⟩ := h.ex
  have hp := h.hp
  have hlg := h.lg
  obtain ⟨a, cap, rfl⟩ := own_form h2
  have erow : rowOf w g 0 = (Value.slice a L.length cap).ownBlock := by unfold rowOf; rw [blk_cell h1]; rfl
  have c0 : w.cell? ⟨g, 0, none⟩ = some (.slice a L.length cap) := blk_cell h1
  have hgl := blk_lt h1
  obtain ⟨i0, hi, hz0, hz1, hz2⟩ := info_parts infoK_I
  have H1 := hidden h1
  have H2 := hidden h2
  have H3 := hidden h3
  have ER := hidden erow
  have ng := hidden (own_apart h2 h1 (by decide))
  have m1 : Hid (L.length + 1 ≤ maxLen) := by rw [Hid]; unfold maxLen; omega
  have m2 := hidden hl
  clear h h1 h2 h3 erow hl
  go_enter Try.func16, Try.ntmps16
  go_wp2_with (first
    | (at_builtin; go_must (refine wpList_append_lies _ (by rfl) _ _ 22 (by rfl) 0 3 i0 _ 1 8 Try.underlying22 hi hz0 hz1 hz2 rfl (by decide) _ _ _ (by rfl) (H2.out.alloc _) ⟨w.heap.size, 0, none⟩ 1 1 _ (by rfl) (by rfl) (World.news_of_block (heap_alloc_new w _)) (by simp [Value.oneCell']) (by decide) m1.out m2.out (Nat.zero_le _) (w.heap.size + 1) (by simp) ?_; intro gq qc w1 hown hgrow hat hlt; have b1 : w1.heap[g]? = _ := (hgrow.block g (by simp; omega) (Ne.symm ng.out)).trans (blk_alloc H1.out _); have g0 : w1.cell? ⟨g, 0, none⟩ = some (.slice a L.length cap) := blk_cell b1; have y0 : w1.frozen? ⟨g, 0, none⟩ = false := blk_free b1; have B1 := hidden b1; have O1 := hidden hown; have G1 := hidden hgrow; have A1 := hidden hat; have nq : gq ≠ g := (fun e => own_apart hown b1 (by decide) (by rw [← e]; rfl)); have OS := hidden (own_kept hown ((Kept.refl (fun k => k = g) w1).setCell (p := ⟨g, 0, none⟩) rfl (.slice (some ⟨gq, 0, none⟩) (L.length + 1) qc)) (fun k hk e => by simp [Value.ownBlock] at hk; omega)); clear b1 hown hgrow hat))
    | (go_at_call 44; go_must (refine (climb_I gq qc (L.length + 1) (L ++ [x]) _ (by simp) (by omega) (by have := m2.out; omega) (by rw [List.map_append]; exact OS.out) (by rw [Nat.add_sub_cancel]; exact up_start hp x)).mono ?_; rintro e w3 ⟨rfl, L', hp', hh', hr', hk'⟩)))
  go_returns
  have hll : L'.length = L.length + 1 := by rw [hp'.length_eq]; simp
  have hg3 : w3.heap[g]? = some (.cells #[.slice (some ⟨gq, 0, none⟩) (L.length + 1) qc] 75 (0, 0)) := blk_kept hk' (fun e => nq e.symm) (blk_set (j := 0) B1.out _)
  have er3 : rowOf w3 g 0 = some gq := by unfold rowOf; rw [blk_cell hg3]; rfl
  have K1 : Kept (fun k => k = g ∨ rowOf w g 0 = some k) w w1 := ((Kept.refl (fun k => k = g ∨ rowOf w g 0 = some k) w).alloc _).grown G1.out (fun k hk _ => Or.inr (by rw [ER.out]; exact hk))
  have hgq : rowOf w g 0 = some gq ∨ w.heap.size ≤ gq := A1.out.imp (fun h => by rw [ER.out]; exact h) (fun h => by omega)
  refine ⟨rfl, L', hp'.trans List.perm_append_comm, ⟨⟨_, hg3, by rw [hll]; exact hr', fun k hk => ?_⟩, hh', hlg⟩, ⟨?_, fun k hk e => ?_⟩⟩
  · simp [Value.ownBlock] at hk
    subst hk
    rcases A1.out with h | h
    · exact H3.out _ h
    · omega
  · refine (K1.setCell (p := ⟨g, 0, none⟩) (Or.inl rfl) _).trans' hk' (fun k hk e => ?_)
    rw [e]
    rcases hgq with h | h
    · exact Or.inr h
    · omega
  · rw [er3] at e
    cases e
    rcases hgq with h | h
    · exact h
    · omega
set_option maxHeartbeats 2000000 in
set_option maxRecDepth 100000 in
/-- Pop of one that is not empty. -/
theorem pop_I {B g : Nat} {L : List Int} {w : World} (h : HI B g L w) (h0 : 0 < L.length) (hn0 : L.length ≤ 140737488355328) :
    Calls Try.prog 13 #[.pointer (some ⟨g, 0, none⟩)] w fun e w' => e = .returned (.tuple #[kI L[0], .bool true]) ∧ ∃ L', L.Perm (L[0] :: L') ∧ HI B g L' w' ∧ HFI g w w' := by
  have HL := hidden (least_I h)
  have e0 : L[0]?.getD 0 = L[0] := by rw [List.getElem?_eq_getElem h0]; rfl
  have e1 : decide (0 < L.length) = true := by simpa using h0
  rw [e0, e1] at HL
  obtain ⟨v, h1, h2, h3⟩ := h.ex
  have hp := h.hp
  have hlg := h.lg
  obtain ⟨a, cap, rfl⟩ := own_form h2
  have erow : rowOf w g 0 = (Value.slice a L.length cap).ownBlock := by unfold rowOf; rw [blk_cell h1]; rfl
  obtain ⟨b, rfl⟩ : ∃ b : Nat, a = some ⟨b, 0, none⟩ := by
    rcases h2.2 with ⟨_, h⟩ | ⟨b, cap', cur, h, _⟩
    · omega
    · exact ⟨b, by simpa using (Value.slice.inj h).1⟩
  have hcap : L.length ≤ cap := by
    rcases h2.2 with ⟨_, h⟩ | ⟨b', cap', cur, h, _, hg, hn, hc, hs, _⟩
    · omega
    · obtain ⟨_, rfl⟩ : b = b' ∧ cap = cap' := by simpa using h
      omega
  have c0 : w.cell? ⟨g, 0, none⟩ = some (.slice (some ⟨b, 0, none⟩) L.length cap) := blk_cell h1
  have ng : b ≠ g := fun e => own_apart h2 h1 (by decide) (by rw [← e]; rfl)
  have DR := hidden (drop_I b cap L.length L w rfl h0 hn0 hcap h2 hp)
  have H1 := hidden h1
  have H3 := hidden h3
  have ER := hidden erow
  have DP := hidden (dropL_perm L h0)
  have DL := hidden (dropL_len L h0)
  clear h h1 h2 h3 erow hp
  go_enter Try.func13, Try.ntmps13
  go_wp2_with (first
    | (go_at_call 14; go_must (refine (HL.out).mono ?_; rintro e w1 ⟨rfl, rfl⟩))
    | (go_at_call 42; go_must (refine (DR.out).mono ?_; rintro e w1 ⟨rfl, L', hp', hh', hr', hk'⟩; have b1 := blk_kept hk' (fun e => ng e.symm) H1.out; have g0 : w1.cell? ⟨g, 0, none⟩ = some (.slice (some ⟨b, 0, none⟩) L.length cap) := blk_cell b1; have y0 : w1.frozen? ⟨g, 0, none⟩ = false := blk_free b1; have B1 := hidden b1; clear b1)))
  go_returns
  have hll : L'.length = L.length - 1 := by rw [hp'.length_eq]; exact DL.out
  have hg3 := blk_set (j := 0) B1.out (.slice (some ⟨b, 0, none⟩) (L.length - 1) cap)
  have er3 : rowOf (w1.setCell ⟨g, 0, none⟩ (.slice (some ⟨b, 0, none⟩) (L.length - 1) cap)) g 0 = some b := by unfold rowOf; rw [blk_cell hg3]; rfl
  have ew : rowOf w g 0 = some b := by rw [ER.out]; rfl
  refine ⟨rfl, L', DP.out.trans (List.Perm.cons _ hp'.symm), ⟨⟨_, hg3, by rw [hll]; exact own_kept hr' ((Kept.refl (fun k => k = g) w1).setCell (p := ⟨g, 0, none⟩) rfl _) (fun k hk e => by simp [Value.ownBlock] at hk; omega), fun k hk => H3.out k hk⟩, hh', hlg⟩, ⟨Kept.setCell (S := fun k => k = g ∨ rowOf w g 0 = some k) (hk'.mono (fun k _ e => Or.inr (by rw [ew, e]))) (p := ⟨g, 0, none⟩) (Or.inl rfl) _, fun k hk e => ?_⟩⟩
  rw [er3] at e
  rw [ew]
  exact e
set_option maxHeartbeats 2000000 in
set_option maxRecDepth 100000 in
theorem popNo_I {B g : Nat} {w : World} (h : HI B g [] w) :
    Calls Try.prog 13 #[.pointer (some ⟨g, 0, none⟩)] w fun e w' => e = .returned (.tuple #[kI 0, .bool false]) ∧ w = w' := by
  have HL := hidden (least_I h)
  clear h
  go_enter Try.func13, Try.ntmps13
  go_wp2_with (go_at_call 14; go_must (refine (HL.out).mono ?_; rintro e w1 ⟨rfl, rfl⟩))
  go_returns
  exact ⟨rfl, rfl⟩
end Go.Proofs.Ytelngbkbdihdnaa
