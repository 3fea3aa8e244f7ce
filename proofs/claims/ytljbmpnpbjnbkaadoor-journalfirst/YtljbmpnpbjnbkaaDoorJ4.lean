/- append(row, text...): where the new row lies; journal's Append. -/
import Derived.Test.YtljbmpnpbjnbkaaDoorJ3
namespace Go.Proofs.YtljbmpnpbjnbkaaDoor
open Go.RowKit
set_option linter.unusedVariables false

/-- A row behind a step: the old one's block, or a new one. -/
theorem run_append_at {P : Program} (w : World) (t u ty e : TypeId) (i : TypeInfo) (ht : P.underlying t = some (.slice e)) (hu : P.underlying u = some .string) (hi : P.info? e = some i) (hz : i.zero = some (.int .u8 0))
    (hsize : i.size = 1) (hby : i.bytes = 1)
    (v : Value) (n : Nat) (xs : List Value) (hown : w.ownsRow 0 e 1 v n xs) (s : ByteArray) (h63 : n + s.size ≤ maxLen) (hbytes : n + s.size ≤ 140737488355328) :
    ∃ v' w', (Builtin.append_ #[t, u] ty #[v, .string s]).run P w = .ok v' w' ∧ w'.ownsRow 0 e 1 v' (n + s.size) (xs ++ Lib.strCells s) ∧ w.grownBy w' v.ownBlock ∧
      ∀ k, k < w.heap.size → v'.ownBlock = some k → v.ownBlock = some k := by
  obtain ⟨v', w', hr, ho, hg, hn⟩ := Lib.run_append_own_string (P := P) w 0 t u ty e i ht hu hi hz hsize hby v n xs hown s h63 hbytes (Nat.zero_le _)
  refine ⟨v', w', hr, ho, hg, ?_⟩
  intro k hk hv
  rcases hown.2 with ⟨rfl, rfl⟩ | ⟨g, cap, cur, rfl, hbg, hgg, hnc, hcm, hcs, htake⟩
  · obtain ⟨v2, w2, hr2, ho2, _⟩ := Lib.run_append_own_string (P := P) w w.heap.size t u ty e i ht hu hi hz hsize hby (.slice none 0 0) 0 xs ⟨hown.1, Or.inl ⟨rfl, rfl⟩⟩ s h63 hbytes (Nat.le_refl _)
    rw [hr] at hr2
    obtain ⟨rfl, rfl⟩ : v' = v2 ∧ w' = w2 := by simpa using hr2
    have := (ho2.lt k hv).1
    omega
  · have hxl : xs.length = n := by simpa using hown.1
    by_cases hroom : n + s.size ≤ cap
    · have hr2 := Lib.run_append_room_string (P := P) w t u ty e i ht hu hi hsize g n cap cur hgg s hroom (by simp at hcs; omega)
      rw [hr] at hr2
      obtain ⟨rfl, -⟩ : v' = _ ∧ _ := by simpa using hr2
      exact hv
    · have holds : ∀ j u, xs[j]? = some u → w.cell? ((⟨g, 0, none⟩ : Addr).add j) = some u := hown.cells (g := g) rfl
      have hr2 := Lib.run_append_grow_string (P := P) w t u ty e i (.int .u8 0) ht hu hi hz ⟨g, 0, none⟩ n cap xs (by rw [hsize]; simpa using hxl) holds s (by omega) (by unfold maxLen at h63; omega) (by rw [hby]; exact growslice_fits (by omega) (by omega))
      rw [hr] at hr2
      obtain ⟨rfl, -⟩ : v' = _ ∧ _ := by simpa using hr2
      simp [Value.ownBlock] at hv
      omega
theorem wpList_append_at {P : Program} (w : World) {ops : Array Oper} {rest : List Oper} {o : Oper} {a : Act} {Q : Exit → Act → World → Prop} (hgd : o.guard = none) (sl x : Operand) (t u : TypeId)
    (ho : o.op = .call { callee := .builtin .append, args := #[sl, x], argTypes := #[t, u] })
    (e : TypeId) (i : TypeInfo) (ht : P.underlying t = some (.slice e)) (hu : P.underlying u = some .string) (hi : P.info? e = some i) (hz : i.zero = some (.int .u8 0))
    (hsize : i.size = 1) (hby : i.bytes = 1)
    (v : Value) (n : Nat) (xs : List Value) (hs : a.eval sl = v) (hown : w.ownsRow 0 e 1 v n xs) (s : ByteArray) (hx : a.eval x = .string s)
    (h63 : n + s.size ≤ maxLen) (hbytes : n + s.size ≤ 140737488355328)
    (h : ∀ v' w', w'.ownsRow 0 e 1 v' (n + s.size) (xs ++ Lib.strCells s) → w.grownBy w' v.ownBlock → (∀ k, k < w.heap.size → v'.ownBlock = some k → v.ownBlock = some k) → wpList P ops Q rest (a.put o.dst v') w') : wpList P ops Q (o :: rest) a w := by
  refine wpList_plain hgd fun K hK => ?_
  obtain ⟨v', w', hr, h2, h3, h4⟩ := run_append_at (P := P) w t u o.type e i ht hu hi hz hsize hby v n xs hown s h63 hbytes
  unfold Oper.wp execOp
  simp only [ho, resolve, invoke, builtin, Sem.run_bind, Sem.run_pure, Result.andThen_ok, List.map_toArray, List.map_cons, List.map_nil, hs, hx, hr]
  exact hK _ _ (h v' w' h2 h3 h4)

/-- What Append tells. -/
def JSt.appErr (s : JSt) (n : Nat) : Int := if 65536 < n then 3 else if s.free < 4 + n then 2 else 0
def JSt.app (s : JSt) (rec : List UInt8) : JSt := if s.appErr rec.length = 0 then { s with bs := s.bs ++ be 4 rec.length ++ rec, recs := s.recs + 1 } else s
theorem JSt.app_ok {s : JSt} (h : s.Ok) (rec : List UInt8) : (s.app rec).Ok := by
  unfold JSt.app
  split
  · rename_i h0
    have hf : ¬ s.free < 4 + rec.length := by
      intro hf
      unfold JSt.appErr at h0
      by_cases h1 : 65536 < rec.length
      · rw [if_pos h1] at h0; cases h0
      · rw [if_neg h1, if_pos hf] at h0; cases h0
    have hb := h.b
    have hr := h.r
    refine ⟨h.s0, h.s1, h.n1, h.g, h.t, ?_, ?_⟩
    · show (s.bs ++ be 4 rec.length ++ rec).length ≤ (s.sectors - s.taken) * (s.size - 24)
      unfold JSt.free at hf
      simp only [List.length_append, be_length]
      omega
    · show 4 * (s.recs + 1) + ((s.sectors - s.taken) * (s.size - 24) - (s.bs ++ be 4 rec.length ++ rec).length) ≤ 16777216
      unfold JSt.free at hf hr
      simp only [List.length_append, be_length]
      omega
  · exact h
set_option maxHeartbeats 1000000 in
set_option maxRecDepth 100000 in
theorem j_appendNo {g : Nat} {s : JSt} {w : World} (h : JW g s w) (rec : ByteArray) (hl : rec.size ≤ 140737488355328) (he : s.appErr rec.size ≠ 0) :
    Calls Tryd.prog 11 #[.pointer (some ⟨g, 0, none⟩), .string rec] w fun e w' => e = .returned (.int .i64 (s.appErr rec.size)) ∧ Same w w' := by
  have A := hidden (j_made h)
  have B := hidden (j_free h)
  have hf : s.free ≤ 16777216 := by have := h.ok.r; omega
  clear h
  by_cases h1 : 65536 < rec.size
  · rw [show s.appErr rec.size = 3 by unfold JSt.appErr; rw [if_pos h1]]
    clear he
    go_enter Tryd.func11, Tryd.ntmps11
    go_wp2_with (first
      | (go_at_call 31; refine (A.out).mono ?_; rintro e w1 ⟨rfl, rfl⟩)
      | (go_at_call 32; refine (B.out).mono ?_; rintro e w1 ⟨rfl, k1⟩))
    go_returns
    exact ⟨rfl, Kept.refl _ _⟩
  · by_cases h2 : s.free < 4 + rec.size
    · rw [show s.appErr rec.size = 2 by unfold JSt.appErr; rw [if_neg h1, if_pos h2]]
      clear he
      generalize s.free = f at *
      go_enter Tryd.func11, Tryd.ntmps11
      go_wp2_with (first
        | (go_at_call 31; refine (A.out).mono ?_; rintro e w1 ⟨rfl, rfl⟩)
        | (go_at_call 32; refine (B.out).mono ?_; rintro e w1 ⟨rfl, k1⟩))
      go_returns
      exact ⟨rfl, k1⟩
    · exact absurd (by unfold JSt.appErr; rw [if_neg h1, if_neg h2]) he
/-- The Writer's cells behind an append to its stream, and the store of it. -/
theorem lies_app {g : Nat} {c0 c1 c2 c3 c5 v v' : Value} {w w1 : World} {bs : List UInt8} {t : ByteArray}
    (hb : w.heap[g]? = some (.cells #[c0, c1, c2, c3, v, c5] 63 (0, 0))) (hown : w.ownsRow 0 5 1 v bs.length (bs.map U8))
    (ho : w1.ownsRow 0 5 1 v' (bs.length + t.size) (bs.map U8 ++ Lib.strCells t)) (hg : w.grownBy w1 v.ownBlock) (hk : ∀ k, k < w.heap.size → v'.ownBlock = some k → v.ownBlock = some k) :
    w1.heap[g]? = some (.cells #[c0, c1, c2, c3, v, c5] 63 (0, 0)) ∧
    (w1.setCell ⟨g, 4, none⟩ v').heap[g]? = some (.cells #[c0, c1, c2, c3, v', c5] 63 (0, 0)) ∧
    (w1.setCell ⟨g, 4, none⟩ v').ownsRow 0 5 1 v' (bs ++ t.data.toList).length ((bs ++ t.data.toList).map U8) ∧ Turns g w (w1.setCell ⟨g, 4, none⟩ v') := by
  have hap : some g ≠ v.ownBlock := by
    intro e
    rcases hown.2 with ⟨rfl, _⟩ | ⟨g', cap, cur, rfl, _, hh, _⟩
    · simp [Value.ownBlock] at e
    · simp [Value.ownBlock] at e
      subst e
      rw [hb] at hh
      simp at hh
  have hb1 : w1.heap[g]? = _ := (hg.block g (blk_lt hb) hap).trans hb
  have hap1 : v'.ownBlock ≠ some g := fun e => hap (hk g (blk_lt hb) e).symm
  have hrow : rowOf w g 4 = v.ownBlock := by unfold rowOf; rw [blk_cell hb]; rfl
  have hb2 : (w1.setCell ⟨g, 4, none⟩ v').heap[g]? = some (.cells #[c0, c1, c2, c3, v', c5] 63 (0, 0)) := by simpa using blk_set (j := 4) hb1 v'
  refine ⟨hb1, hb2, ?_, ?_, ?_⟩
  · have e : (bs ++ t.data.toList).length = bs.length + t.size := by rw [List.length_append, size_list]
    rw [e, List.map_append]
    refine ⟨ho.1, ?_⟩
    rcases ho.2 with h1 | ⟨g', cap, cur, h1, h2, hh, h3⟩
    · exact Or.inl h1
    · refine Or.inr ⟨g', cap, cur, h1, h2, ?_, h3⟩
      rw [Below.heap_setCell _ _ _ _ ?_]
      · exact hh
      · rintro rfl
        exact hap1 (by rw [h1]; rfl)
  · exact ((Kept.refl (jS g w) w).grown hg (fun k hk _ => Or.inr (by rw [hrow]; exact hk))).setCell (p := ⟨g, 4, none⟩) (Or.inl rfl) _
  · intro k hk1 hr
    have e : rowOf (w1.setCell ⟨g, 4, none⟩ v') g 4 = v'.ownBlock := by unfold rowOf; rw [blk_cell hb2]; rfl
    rw [e] at hr
    exact Or.inr (by rw [hrow]; exact hk k hk1 hr)
theorem lies_rec {g n : Nat} {c0 c1 c2 c3 c5 v : Value} {w : World} {xs : List Value} (hb : w.heap[g]? = some (.cells #[c0, c1, c2, c3, v, c5] 63 (0, 0))) (hown : w.ownsRow 0 5 1 v n xs) (c : Value) :
    (w.setCell ⟨g, 5, none⟩ c).heap[g]? = some (.cells #[c0, c1, c2, c3, v, c] 63 (0, 0)) ∧ (w.setCell ⟨g, 5, none⟩ c).ownsRow 0 5 1 v n xs ∧ Turns g w (w.setCell ⟨g, 5, none⟩ c) := by
  have hb2 : (w.setCell ⟨g, 5, none⟩ c).heap[g]? = some (.cells #[c0, c1, c2, c3, v, c] 63 (0, 0)) := by simpa using blk_set (j := 5) hb c
  refine ⟨hb2, own_kept hown ((Kept.refl (fun k => k = g) _).setCell (p := ⟨g, 5, none⟩) rfl _) (fun k hk e => own_apart hown hb (by decide) (by rw [hk, e])), ?_, ?_⟩
  · exact (Kept.refl (jS g w) w).setCell (p := ⟨g, 5, none⟩) (Or.inl rfl) _
  · intro k _ hr
    refine Or.inr ?_
    rw [← hr]
    unfold rowOf
    rw [blk_cell hb, blk_cell hb2]
    rfl
set_option maxHeartbeats 4000000 in
set_option maxRecDepth 100000 in
theorem j_appendYes {g : Nat} {s : JSt} {w : World} (h : JW g s w) (rec : ByteArray) (he : s.appErr rec.size = 0) :
    Calls Tryd.prog 11 #[.pointer (some ⟨g, 0, none⟩), .string rec] w fun e w' => e = .returned (.int .i64 0) ∧ JW g (s.app rec.data.toList) w' ∧ Turns g w w' := by
  have A := hidden (j_made h)
  have B := hidden (j_free h)
  have hap := JSt.app_ok h.ok rec.data.toList
  have hsp : s.app rec.data.toList = { s with bs := s.bs ++ be 4 rec.size ++ rec.data.toList, recs := s.recs + 1 } := by
    unfold JSt.app
    rw [size_list, if_pos he]
  have hf : s.free ≤ 16777216 := by have := h.ok.r; omega
  have h1 : ¬ 65536 < rec.size := fun h1 => by unfold JSt.appErr at he; rw [if_pos h1] at he; cases he
  have h2 : ¬ s.free < 4 + rec.size := fun h2 => by unfold JSt.appErr at he; rw [if_neg h1, if_pos h2] at he; cases he
  have hn := hidden (fun w => newW 4 w (by decide) (by decide))
  have hu : ∀ (w : World) (g B : Nat), WS B g 4 ([], false) w → Calls Tryd.prog 34 #[.pointer (some ⟨g, 0, none⟩), .int .u32 rec.size] w fun e w' => e = .returned (.tuple #[]) ∧ WS B g 4 (be 4 rec.size, false) w' ∧ Kept (wrS B g) w w' := fun (w : World) (g B : Nat) (h : WS B g 4 ([], false) w) => fitU32 h rec.size (by omega) (by decide) (by decide)
  have HU := hidden hu
  have hlen := h.ok.len
  have hrec : s.recs ≤ 16777216 := by have := h.ok.r; omega
  have H := hidden h
  have hL4 : (be 4 rec.size).length = 4 := be_length _ _
  have hLs : (⟨(be 4 rec.size).toArray⟩ : ByteArray).size = 4 := by rw [ba_size, hL4]
  clear h he hu hL4
  have HS := hidden hsp
  have HO := hidden hap
  clear hsp hap
  generalize s.free = f at *
  generalize be 4 rec.size = L4 at *
  have m1 : Hid (s.bs.length + (⟨L4.toArray⟩ : ByteArray).size ≤ maxLen) := by rw [Hid, hLs]; unfold maxLen; omega
  have m2 : Hid (s.bs.length + (⟨L4.toArray⟩ : ByteArray).size ≤ 140737488355328) := by rw [Hid, hLs]; omega
  have m3 : Hid ((s.bs ++ L4).length + rec.size ≤ maxLen) := by rw [Hid, List.length_append, ← ba_size L4, hLs]; unfold maxLen; omega
  have m4 : Hid ((s.bs ++ L4).length + rec.size ≤ 140737488355328) := by rw [Hid, List.length_append, ← ba_size L4, hLs]; omega
  clear hLs
  obtain ⟨i0, hi, hz0, hz1, hz2⟩ := info_parts info5
  have hrw : IntKind.u32.wrap (rec.size : Int) = (rec.size : Int) := by rw [IntKind.wrap_u32']; omega
  go_enter Tryd.func11, Tryd.ntmps11
  go_wp2_with (first
    | (go_at_call 31; refine (A.out).mono ?_; rintro e w1 ⟨rfl, rfl⟩)
    | (go_at_call 32; refine (B.out).mono ?_; rintro e w1 ⟨rfl, k1⟩)
    | (go_at_call 33; refine (hn.out _).mono ?_; rintro e w2 ⟨rfl, s2, k2, z2⟩; clear z2)
    | (go_at_call 34; refine (HU.out _ _ _ s2).mono ?_; rintro e w3 ⟨rfl, s3, k3⟩; clear s2)
    | (go_at_call 35; refine (fitDone s3).mono ?_; rintro e w4 ⟨rfl, rfl⟩; have K3 := hidden (Kept.trans k1 (Same.wr k2 k3 (Nat.le_refl _) (Nat.le_refl _))); clear k1 k2 k3 s3; obtain ⟨v, hb, hown⟩ := (H.out.same K3.out).lies; have c4 : w3.cell? ⟨g, 4, none⟩ = some v := blk_cell hb; have HB := hidden hb; have HW := hidden hown; clear hb hown; have tok := True.intro)
    | (at_builtin; have _t := tok; go_must (refine wpList_append_at _ rfl _ _ 39 9 rfl 5 i0 Tryd.underlying39 Tryd.underlying9 hi hz0 hz1 hz2 v _ _ rfl HW.out ⟨L4.toArray⟩ rfl m1.out m2.out ?_); intro v1 w5 ho1 hg1 hk1; clear tok; obtain ⟨x1, y1, hv1⟩ := own_form ho1; subst hv1; obtain ⟨d1, d3, d4, d5⟩ := lies_app HB.out HW.out ho1 hg1 hk1; have dc : w5.cell? ⟨g, 4, none⟩ = some v := blk_cell d1; have df : w5.frozen? ⟨g, 4, none⟩ = false := blk_free d1; clear d1; rw [ba_list] at d4; have D3 := hidden d3; have D4 := hidden d4; have D5 := hidden d5; clear d3 d4 d5 ho1 hg1 hk1)
    | (at_builtin; go_must (refine wpList_append_at _ rfl _ _ 39 9 rfl 5 i0 Tryd.underlying39 Tryd.underlying9 hi hz0 hz1 hz2 _ _ _ rfl D4.out rec rfl m3.out m4.out ?_); intro v2 w6 ho2 hg2 hk2; obtain ⟨x2, y2, hv2⟩ := own_form ho2; subst hv2; obtain ⟨e1, e3, e4, e5⟩ := lies_app D3.out D4.out ho2 hg2 hk2; have ec : w6.cell? ⟨g, 4, none⟩ = some _ := blk_cell e1; have ef : w6.frozen? ⟨g, 4, none⟩ = false := blk_free e1; have ec5 : w6.cell? ⟨g, 5, none⟩ = some (.int .i64 s.recs) := blk_cell e1; have ef5 : w6.frozen? ⟨g, 5, none⟩ = false := blk_free e1; clear e1; have E3 := hidden e3; have E4 := hidden e4; have E5 := hidden e5; clear e3 e4 e5 ho2 hg2 hk2))
  go_returns
  obtain ⟨q1, q2, q3⟩ := lies_rec E3.out E4.out (.int .i64 ((s.recs : Int) + 1))
  have e5 := E5.out
  have q2' := q2
  rw [List.length_append (bs := L4)] at q1 q3 e5
  refine ⟨rfl, ?_, (Turns.same H.out.lt K3.out).trans (D5.out.trans (e5.trans q3))⟩
  rw [HS.out] at HO ⊢
  exact ⟨⟨_, q1, by simpa using q2⟩, HO.out⟩
end Go.Proofs.YtljbmpnpbjnbkaaDoor
