/- journal: slices.Clone of bytes; the program's Fork. (Made by mkjf.py.) -/
import Derived.Test.YtljbmpnpbjnbkaaDoorJ5
import Derived.Test.YtljbmpnpbjnbkaaDoorJKM
namespace Go.Proofs.YtljbmpnpbjnbkaaDoor
open Go.RowKit
set_option linter.unusedVariables false
set_option linter.unusedSimpArgs false
theorem Bt.liesK {w : World} {ao : Option Addr} {n cap : Nat} {l : List UInt8} (h : Bt w (.slice ao n cap) l) : Lies w ao n (l.map U8) := by
  intro h0
  obtain ⟨b, off, rfl, hc⟩ := h.cell (by have := h.len; omega)
  refine ⟨_, rfl, fun j u hu => ?_⟩
  rw [List.getElem?_map, Option.map_eq_some_iff] at hu
  obtain ⟨x, hx, rfl⟩ := hu
  obtain ⟨hj, rfl⟩ := List.getElem?_eq_some_iff.1 hx
  rw [add_none]
  exact hc j hj
theorem U8_all (l : List UInt8) : ∀ u ∈ l.map U8, u.oneCell' = true := by
  intro u hu
  obtain ⟨b, _, rfl⟩ := List.mem_map.1 hu
  exact U8_one b
set_option maxHeartbeats 1000000 in
set_option maxRecDepth 100000 in
theorem cloneB (v : Value) (l : List UInt8) (w : World) (hb : Bt w v l) (hl : l.length ≤ 140737488355328) :
    Calls Tryd.prog 40 #[v] w fun e w' => ∃ u, e = .returned u ∧ w'.ownsRow w.heap.size 5 1 u l.length (l.map U8) ∧ Same w w' := by
  obtain ⟨i0, hi, hz0, hz1, hz2⟩ := info_parts info5
  obtain ⟨ao, cap, rfl, hcap⟩ := hb.form
  cases ao with
  | none =>
    have hl0 : l = [] := by
      rcases Nat.eq_zero_or_pos l.length with h | h
      · exact List.eq_nil_of_length_eq_zero h
      · obtain ⟨b, off, e, _⟩ := hb.cell h
        cases e
    subst hl0
    have hnil : ∀ W : World, (binOp .eql 39 (.slice none 0 cap) (.slice none 0 0)).run Tryd.prog W = .ok (.bool true) W := fun W => by
      first | rfl | simp [binOp, go_sem]
    clear hb hcap
    go_enter Tryd.func40, Tryd.ntmps40
    go_wp2
    go_returns
    exact ⟨_, rfl, World.ownsRow_nil _ _ _ _, Kept.refl _ _⟩
  | some a =>
    have hnil : ∀ W : World, (binOp .eql 39 (.slice (some a) l.length cap) (.slice none 0 0)).run Tryd.prog W = .ok (.bool false) W := fun W => by
      first | rfl | simp [binOp, go_sem]
    have HB := hidden hb
    have m1 : Hid (0 + l.length ≤ maxLen) := by rw [Hid]; unfold maxLen; omega
    have m2 : Hid ((0 + l.length) * 1 ≤ 140737488355328) := by rw [Hid]; omega
    clear hb hcap
    go_enter Tryd.func40, Tryd.ntmps40
    go_wp2_with (refine wpList_append_any rfl _ _ 39 rfl w.heap.size 5 i0 (.int .u8 0) 1 1 Tryd.underlying39 hi hz0 hz1 hz2 rfl (by decide) _ 0 0 [] rfl (World.ownsRow_made w #[] 0 (Nat.le_refl _) (by decide) (by decide)) (some a) l.length cap (l.map U8) rfl (by rw [List.length_map, Nat.mul_one]) ((HB.out.same (same_alloc _ _)).liesK) (U8_all l) m1.out m2.out (by simp) ?_; intro a1 c1 w1 ho1 hg1)
    rw [Nat.zero_add, List.nil_append] at ho1
    go_returns
    exact ⟨_, rfl, by simpa using ho1, ((Kept.refl (fun _ => False) w).alloc _).grown hg1 (fun k hk hl => by simp [Value.ownBlock] at hk; omega)⟩
set_option maxHeartbeats 1000000 in
set_option maxRecDepth 100000 in
theorem j_fork {g : Nat} {s : JSt} {w : World} (h : JW g s w) : Calls Tryd.prog 19 #[.pointer (some ⟨g, 0, none⟩)] w fun e w' => ∃ g', e = .returned (.pointer (some ⟨g', 0, none⟩)) ∧ w.heap.size ≤ g' ∧ JW g' s w' ∧ Same w w' ∧ ∀ k, rowOf w' g' 4 = some k → w.heap.size ≤ k := by
  have A := hidden (j_made h)
  obtain ⟨⟨v, hb, ho⟩, hok⟩ := h
  have c0 : w.cell? ⟨g, 0, none⟩ = some (.int .i64 s.size) := blk_cell hb
  have c1 : w.cell? ⟨g, 1, none⟩ = some (.int .i64 s.sectors) := blk_cell hb
  have c2 : w.cell? ⟨g, 2, none⟩ = some (.int .u64 s.gen) := blk_cell hb
  have c3 : w.cell? ⟨g, 3, none⟩ = some (.int .i64 s.taken) := blk_cell hb
  have c4 : w.cell? ⟨g, 4, none⟩ = some v := blk_cell hb
  have c5 : w.cell? ⟨g, 5, none⟩ = some (.int .i64 s.recs) := blk_cell hb
  obtain ⟨va, vc, rfl⟩ := own_form ho
  have HCl := hidden (fun W (k : Same w W) => cloneB (.slice va s.bs.length vc) s.bs W ((Bt.own ho).same k) (by have := hok.len; omega))
  have Hb := hidden hb
  obtain ⟨X, hX⟩ : ∃ X : Array Value, X = #[.int .i64 s.size, .int .i64 s.sectors, .int .u64 s.gen, .int .i64 s.taken, .slice va s.bs.length vc, .int .i64 s.recs] := ⟨_, rfl⟩
  have d4 : (w.alloc (.cells #[.int .i64 s.size, .int .i64 s.sectors, .int .u64 s.gen, .int .i64 s.taken, .slice va s.bs.length vc, .int .i64 s.recs] 63)).cell? ⟨g, 4, none⟩ = some (.slice va s.bs.length vc) := blk_cell (blk_alloc hb _)
  have HN := hidden (blk_new w (.cells #[.int .i64 s.size, .int .i64 s.sectors, .int .u64 s.gen, .int .i64 s.taken, .slice va s.bs.length vc, .int .i64 s.recs] 63))
  have HS := hidden (same_alloc w (.cells #[.int .i64 s.size, .int .i64 s.sectors, .int .u64 s.gen, .int .i64 s.taken, .slice va s.bs.length vc, .int .i64 s.recs] 63))
  clear hb ho hX X
  go_enter Tryd.func19, Tryd.ntmps19
  go_wp2_with (first
    | (go_at_call 31; refine (A.out).mono ?_; rintro e w1 ⟨rfl, rfl⟩)
    | (go_at_call 40; refine (HCl.out _ HS.out).mono ?_; rintro e w2 ⟨u, rfl, hu, k2⟩; obtain ⟨ua, uc, rfl⟩ := own_form hu; have HU := hidden hu; have b2 := blk_kept k2 (fun h => h) HN.out; have HB2 := hidden b2; have K2 := hidden (HS.out.trans k2); have f2 : w2.frozen? ⟨w.heap.size, 4, none⟩ = false := blk_free b2; have e2 : w2.cell? ⟨w.heap.size, 4, none⟩ = some (.slice va s.bs.length vc) := blk_cell b2; clear hu k2 b2))
  go_returns
  have hkk : Kept (fun k => k = w.heap.size) w2 (w2.setCell ⟨w.heap.size, 4, none⟩ (.slice ua s.bs.length uc)) := (Kept.refl (fun k => k = w.heap.size) w2).setCell (p := ⟨w.heap.size, 4, none⟩) rfl _
  have hbf := blk_set (j := 4) HB2.out (.slice ua s.bs.length uc)
  refine ⟨w.heap.size, rfl, Nat.le_refl _, ⟨⟨_, hbf, own_mono (own_kept HU.out hkk (fun k hk e => own_apart HU.out HB2.out (by decide) (by rw [hk, e]))) (Nat.zero_le _)⟩, hok⟩, K2.out.grown (row := some w.heap.size) ⟨rfl, rfl, rfl, by simp [World.setCell], fun k _ hk => Below.heap_setCell _ _ _ _ (fun e => hk (by rw [e]))⟩ (fun k e hk => by cases e; omega), fun k hk => ?_⟩
  unfold rowOf at hk
  rw [blk_cell hbf] at hk
  have h9 := (HU.out.lt k (by simpa using hk)).1
  have h8 : (w.alloc (.cells #[.int .i64 s.size, .int .i64 s.sectors, .int .u64 s.gen, .int .i64 s.taken, .slice va s.bs.length vc, .int .i64 s.recs] 63)).heap.size = w.heap.size + 1 := by simp
  omega
end Go.Proofs.YtljbmpnpbjnbkaaDoor
