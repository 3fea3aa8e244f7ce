/- dir: List of a directory of one name. -/
import Derived.Test.YtmlibjohhgpniaaGreatDoorDi4
namespace Go.Proofs.YtmlibjohhgpniaaGreatDoor
open Go.RowKit Go.Shelf
set_option linter.unusedVariables false
set_option linter.unusedSimpArgs false
attribute [local go_sem] Oper.semAt_some
structure EeP (w : World) (o : Option Addr) (u : Value) (W : World) : Prop where
  out : ∃ B, u = .func (.func 181) #[] #[.pointer (some ⟨B, 0, none⟩), .pointer (some ⟨B + 1, 0, none⟩), .pointer (some ⟨B + 2, 0, none⟩)] ∧ w.heap.size ≤ B ∧ W.heap[B]? = some (.cells #[.pointer o] 22 (0, 0)) ∧ W.heap[B + 1]? = some (.cells #[.string (kD 1 ⟨#[]⟩)] 9 (0, 0)) ∧ W.heap[B + 2]? = some (.cells #[.string (kD 2 ⟨#[]⟩)] 9 (0, 0)) ∧ Same w W
set_option maxHeartbeats 400000 in
theorem entries_fn (o : Option Addr) (x y : ByteArray) (w : World) : Calls Tryz.prog 151 #[.pointer o, .string x, .string y] w fun e w' => ∃ B, e = .returned (.func (.func 181) #[] #[.pointer (some ⟨B, 0, none⟩), .pointer (some ⟨B + 1, 0, none⟩), .pointer (some ⟨B + 2, 0, none⟩)]) ∧ w.heap.size ≤ B ∧ w'.heap[B]? = some (.cells #[.pointer o] 22 (0, 0)) ∧ w'.heap[B + 1]? = some (.cells #[.string x] 9 (0, 0)) ∧ w'.heap[B + 2]? = some (.cells #[.string y] 9 (0, 0)) ∧ Same w w' := by
  go_enter Tryz.func151, Tryz.ntmps151
  go_wp2
  go_returns
  refine ⟨w.heap.size, by simp, by simp, blk_alloc (blk_alloc (blk_new _ _) _) _, blk_alloc ?_ _, ?_, (((Kept.refl _ w).alloc _).alloc _).alloc _⟩
  · have := blk_new (w.alloc (.cells #[.pointer o] 22)) (.cells #[.string x] 9); simpa using this
  · have := blk_new ((w.alloc (.cells #[.pointer o] 22)).alloc (.cells #[.string x] 9)) (.cells #[.string y] 9); simpa using this
set_option maxHeartbeats 400000 in
theorem entriesOf_fn (o : Option Addr) (w : World) : Calls Tryz.prog 104 #[.pointer o, .int .i64 1] w fun e w' => ∃ u, e = .returned u ∧ EeP w o u w' := by
  have H1 : Hid (∀ W, Calls Tryz.prog 152 #[.int .i64 1] W fun e w' => e = .returned (.string (kD 1 ⟨#[]⟩)) ∧ Same W w') := hidden (fun W => dirKey_any 1 (by decide) W)
  have H2 : Hid (∀ W, Calls Tryz.prog 152 #[.int .i64 2] W fun e w' => e = .returned (.string (kD 2 ⟨#[]⟩)) ∧ Same W w') := hidden (fun W => dirKey_any 2 (by decide) W)
  have HS := hidden (fun W => entries_fn o (kD 1 ⟨#[]⟩) (kD 2 ⟨#[]⟩) W)
  have t1 : True := trivial
  go_enter Tryz.func104, Tryz.ntmps104
  go_wp2_with (first
    | (go_at_call 152; have _t := t1; refine (H1.out _).mono ?_; rintro e w1 ⟨rfl, q1⟩; have K1 := hidden q1; clear q1 t1 _t)
    | (go_at_call 152; refine (H2.out _).mono ?_; rintro e w2 ⟨rfl, q2⟩; have K2 := hidden (K1.out.trans q2); clear q2)
    | (go_at_call 151; refine (HS.out _).mono ?_; rintro e w3 ⟨B, rfl, h0, h1, h2, h3, q3⟩; have K3 := hidden (K2.out.trans q3); have H3 := hidden (And.intro h1 (And.intro h2 h3)); have hz := Nat.le_trans K2.out.size h0; clear q3 h1 h2 h3))
  go_returns
  exact ⟨_, rfl, ⟨⟨B, rfl, hz, H3.out.1, H3.out.2.1, H3.out.2.2, K3.out⟩⟩⟩
theorem cell_cells {w : World} {p : Addr} {v : Value} (h : w.cell? p = some v) : ∃ cs t fz, w.heap[p.block]? = some (.cells cs t fz) := by
  unfold World.cell? at h
  cases e : w.heap[p.block]? with
  | none => simp [e] at h
  | some o =>
    rw [e] at h
    cases o <;> first | exact ⟨_, _, _, rfl⟩ | (simp at h)
theorem Row.old {w w' : World} {v : Value} {xs : List Value} (h : Row w v xs) (k : ∀ (i : Nat) (cs : Array Value) (t : TypeId) (fz : Nat × Nat), w.heap[i]? = some (.cells cs t fz) → w'.heap[i]? = some (.cells cs t fz)) : Row w' v xs := by
  obtain ⟨a, cap, h1, h2, h3, h4⟩ := h
  refine ⟨a, cap, h1, h2, h3, fun hp => ?_⟩
  obtain ⟨b, off, e, hc⟩ := h4 hp
  refine ⟨b, off, e, fun j x hj => ?_⟩
  have hx := hc j x hj
  obtain ⟨cs, t, fz, ho⟩ := cell_cells hx
  exact (World.cell?_of_block ((k _ _ _ _ ho).trans ho.symm)).trans hx
theorem LT.old {w w' : World} {g p : Nat} {n : Nd} {a1 a2 a3 : Option Addr} {k1 c1 k2 c2 k3 c3 : Nat} (h : LT w g p n a1 a2 a3 k1 c1 k2 c2 k3 c3) (k : ∀ (i : Nat) (cs : Array Value) (t : TypeId) (fz : Nat × Nat), w.heap[i]? = some (.cells cs t fz) → w'.heap[i]? = some (.cells cs t fz)) : LT w' g p n a1 a2 a3 k1 c1 k2 c2 k3 c3 :=
  ⟨k _ _ _ _ h.tr, ⟨k _ _ _ _ h.pg.box, h.pg.r1.old k, h.pg.r2.old k, h.pg.r3.old k⟩⟩
theorem KX.set {T : Nat → TypeId → Prop} {X l : Nat} {a b : World} (h : KX T X a b) (ht : ∀ t, T l t) (hl : l < X) (v : Value) : KX T X a (b.setCell ⟨l, 0, none⟩ v) :=
  ⟨by have := h.size; simp [World.setCell]; omega, fun i cs t fz hi hn => by
    have hne : i ≠ l := fun e => hn (e ▸ ht t)
    exact (Below.heap_setCell _ _ _ _ hne).trans (h.cells i cs t fz hi hn), fun i o hx hi ho => by
    have hne : i ≠ l := by omega
    exact (Below.heap_setCell _ _ _ _ hne).trans (h.walks i o hx hi ho)⟩
theorem infoE : (Tryz.prog.info? 188).map (fun i => (i.zero, i.size, i.bytes)) = some (some (.agg #[.string ⟨#[]⟩, .int .i64 0, .bool false]), 3, 32) := by kernel_rfl
structure LsP (w : World) (u : Value) (W : World) : Prop where
  out : ∃ B, u = .func (.func 106) #[] #[.pointer (some ⟨B, 0, none⟩)] ∧ Same w W
set_option maxHeartbeats 4000000 in
set_option maxRecDepth 100000 in
theorem dlist (w : World) (g p : Nat) (z1 z2 z3 : Option Addr) (d1 d2 d3 : Nat) (ht : LT w g p ndD z1 z2 z3 1 d1 1 d2 0 d3) : Calls Tryz.prog 47 #[.pointer (some ⟨g, 0, none⟩), .int .i64 1] w fun e w' => ∃ u, e = .returned u ∧ LsP w u w' := by
  obtain ⟨i0, hi, hz0, hz1, hz2⟩ := info_parts infoE
  have HL := hidden ht
  have HA := hidden (fun W => (callsIn_wide (n := 8)).2 (dasked g W))
  have HF := hidden (fun W => (callsIn_wide (n := 8)).2 (entriesOf_fn (some ⟨g, 0, none⟩) W))
  have G0 := hidden (blk_new w (.cells #[.slice none 0 0] 190))
  have K0 := hidden (same_alloc w (.cells #[.slice none 0 0] 190))
  clear ht
  refine (callsIn_wide (n := 9)).1 ?_
  refine callsIn_of_wp_marks Tryz.func47 rfl trivial ?_ rfl
  simp only [Tryz.ntmps47, List.size_toArray, List.length_cons, List.length_nil, Nat.reduceAdd, Nat.reduceSub, Array.replicate_succ, Array.replicate_zero, List.push_toArray, List.append_toArray, List.nil_append, List.cons_append]
  gi_wp2_with (first
    | (refine ⟨trivial, ?_⟩; gi_at_call 102; refine (HA.out _).mono ?_; rintro e w1 ⟨rfl, rfl⟩)
    | (refine ⟨trivial, ?_⟩; gi_at_call 104; refine (HF.out _).mono ?_; rintro e w2 ⟨u, rfl, ⟨B, rfl, hB0, hB1, hB2, hB3, q2⟩⟩; have K2 := hidden (K0.out.trans q2); have G1 := hidden hB1; have G2 := hidden hB2; have G3 := hidden hB3; have L2 := hidden (blk_kept q2 (fun h => h) G0.out); clear q2 hB1 hB2 hB3))
  have hsz := K2.out.size
  have hlt2 := blk_lt L2.out
  have hB0' : w.heap.size + 1 ≤ B := by simpa using hB0
  obtain ⟨E, hE⟩ : ∃ E : Nat → TypeId → Prop, E = fun k t => k = w.heap.size ∨ (w.heap.size ≤ k ∧ t = 188) := ⟨_, rfl⟩
  have HEn : Hid (∀ k t, t ≠ 188 → k ≠ w.heap.size → ¬ E k t) := hidden (fun k t h1 h2 h => by rw [hE] at h; rcases h with h | h; exact h2 h; exact h1 h.2)
  have HEo : Hid (∀ k t, k < w.heap.size → ¬ E k t) := hidden (fun k t h1 h => by rw [hE] at h; rcases h with h | h <;> omega)
  have HEl : Hid (∀ t, E w.heap.size t) := hidden (fun t => by rw [hE]; exact .inl rfl)
  clear hE
  refine range_own rfl (by decide) (gf := 181) (lb := #[.pointer (some ⟨B, 0, none⟩), .pointer (some ⟨B + 1, 0, none⟩), .pointer (some ⟨B + 2, 0, none⟩)]) rfl trivial (enters_of Tryz.func181 (by kernel_rfl) rfl) (T := E)
    (fun W1 kk hs => entries_at E (w2.heap.size + 2) W1 B g p z1 z2 z3 d1 d2 d3 (by omega) (fun V kV => ⟨HL.out.old (fun i cs t fz h => kV.cells i cs t fz (blk_kept (K2.out.trans kk) (fun h => h) h) (HEo.out i t (blk_lt h))), kV.cells _ _ _ _ (blk_kept kk (fun h => h) G1.out) (HEn.out _ _ (by decide) (by omega)), kV.cells _ _ _ _ (blk_kept kk (fun h => h) G2.out) (HEn.out _ _ (by decide) (by omega)), kV.cells _ _ _ _ (blk_kept kk (fun h => h) G3.out) (HEn.out _ _ (by decide) (by omega))⟩) ⟨fun k hk => HEn.out _ _ (by decide) (by omega), fun k hk => HEn.out _ _ (by decide) (by omega), fun k hk => HEn.out _ _ (by decide) (by omega), fun k hk => HEn.out _ _ (by decide) (by omega), fun k hk => HEn.out _ _ (by decide) (by omega)⟩) (fun _ => rfl)
    (fun (pre : List Unit) V => Below w.heap.size w V ∧ (pre = [] → Boxed V w.heap.size 190 (.slice none 0 0)))
    (fun _ _ _ => False)
    (OwnFrom.and (ownFrom_below (Nat.le_refl _) (by omega)) (fun s A C row hs hg hr he => (hs he).kept hg (fun e => by obtain ⟨_, o, ho, hc⟩ := hr _ e.symm; rw [show A.heap[w.heap.size]? = _ from hs he] at ho; cases ho; cases hc)))
    (fun _ _ _ _ _ hs _ _ => hs)
    ⟨K2.out.below (Nat.le_refl _) fun _ h => h.elim, fun _ => L2.out⟩
    (fun _ a' V => ∃ Bx, a' = { tmps := #[.pointer (some ⟨g, 0, none⟩), .int .i64 1, undef, undef, .nilFunc, .pointer (some ⟨w.heap.size, 0, none⟩), .pointer (some ⟨Bx, 0, none⟩), .bool true, .pointer (some ⟨g, 0, none⟩), .int .i64 1, .int .i64 0, .bool true, .pointer (some ⟨g, 0, none⟩), .int .i64 1, .func (.func 181) #[] #[.pointer (some ⟨B, 0, none⟩), .pointer (some ⟨B + 1, 0, none⟩), .pointer (some ⟨B + 2, 0, none⟩)], .agg #[.string ⟨#[98]⟩, .int .i64 5, .bool false], .bool true, undef, undef, undef, undef, undef, undef], defers := [] } ∧ V.heap[Bx]? = some (.cells #[.string ⟨#[98]⟩, .int .i64 5, .bool false] 188 (0, 0)))
    (fun _ a' _ A C row hs hg hr => by
      obtain ⟨Bx, e, hb⟩ := hs
      exact ⟨Bx, e, (hg.block Bx (blk_lt hb) (fun e' => by obtain ⟨_, o, ho, hc⟩ := hr Bx e'.symm; rw [hb] at ho; cases ho; cases hc)).trans hb⟩) ?assign ?body ?done ?stop
  case assign =>
    intro l pre x' V K hI hK
    gi_wp2
    exact hK _ _ (KX.of (same_alloc _ _)) ⟨hI.1.alloc hI.1.size _, fun e => (hI.2 e).alloc _⟩ ⟨_, rfl, blk_new _ _⟩
  case body =>
    intro l pre x' a' V hI hA hlt
    obtain ⟨Bx, rfl, hb⟩ := hA
    have hpre : pre = [] := List.eq_nil_of_length_eq_zero (by omega)
    subst hpre
    have hbx := hI.2 rfl
    have HB := hidden hI.1
    have HBx := hidden hbx
    have v0 := hbx.cell
    have x0 : V.cell? ⟨Bx, 0, none⟩ = some (.string ⟨#[98]⟩) := blk_cell hb
    have x1 : V.cell? ⟨Bx, 1, none⟩ = some (.int .i64 5) := blk_cell hb
    have x2 : V.cell? ⟨Bx, 2, none⟩ = some (.bool false) := blk_cell hb
    have hvl := hbx.lt
    clear hI hb hbx hlt
    gi_wp2_with (gi_at_builtin; refine wpListIn_append_own _ rfl _ _ 190 rfl w.heap.size 188 i0 (.agg #[.string ⟨#[]⟩, .int .i64 0, .bool false]) 3 32 Tryz.underlying190 hi hz0 hz1 hz2 rfl (by decide) (.slice none 0 0) 0 [] rfl (World.ownsRow_nil _ _ _ _) ⟨V.heap.size, 0, none⟩ 1 1 [.string ⟨#[98]⟩, .int .i64 5, .bool false] rfl rfl (fun j u hj => by rw [add_none, Nat.zero_add, blk_cell (blk_new V (.cells #[.string ⟨#[98]⟩, .int .i64 5, .bool false] 188))]; simpa using hj) (by simp [Value.oneCell']) (by unfold maxLen; omega) (by omega) (by simp; omega) ?_; intro v' w1' hown' hgrow _; obtain ⟨va, vc, rfl⟩ := own_form hown'; have s1 : Same (V.alloc (.cells #[.string ⟨#[98]⟩, .int .i64 5, .bool false] 188)) w1' := (Kept.refl _ _).grown hgrow (fun k e _ => by simp [Value.ownBlock] at e); have S1 := hidden ((same_alloc V (.cells #[.string ⟨#[98]⟩, .int .i64 5, .bool false] 188)).trans s1); have bx1 : Boxed w1' w.heap.size 190 (.slice none 0 0) := blk_kept S1.out (fun h => h) HBx.out; have c1 := bx1.cell; have f1 := bx1.frozen; clear s1 hown' hgrow)
    exact ⟨(KX.of S1.out).set HEl.out (by omega) _, ((HB.out.trans (S1.out.below (Nat.le_of_lt hvl) fun _ h => h.elim)).setCell (p := ⟨w.heap.size, 0, none⟩) (Nat.le_refl _) _), fun e => by cases e⟩
  case done =>
    rintro D ys V hD hS hI hK
    have hS5 : Same w (V.putObj D (.deferred none)) := (same_of_below hI.1).grown (grownBy_putObj' _ D _) (fun k e hk => by cases e; omega)
    clear hI hS
    gi_wp2
    refine ⟨by simp, .inl ⟨_, _, rfl, run_takeDeferred hK, ?_⟩⟩
    refine ⟨.func (.func 106) #[] #[.pointer (some ⟨w.heap.size, 0, none⟩)], ?_, _, rfl, ⟨⟨_, rfl, hS5⟩⟩⟩
    simp [results, Tryz.f47, go_sem]
  case stop =>
    rintro D c pre V _ _ h _
    exact h.elim
end Go.Proofs.YtmlibjohhgpniaaGreatDoor
