/- node: readEntries of a leaf. (Made by mkne11.py.) -/
import Derived.Test.YtpjgghalnkfdkaaDoorNE10
namespace Go.Proofs.YtpjgghalnkfdkaaDoor
open Go.RowKit
set_option linter.unusedVariables false
set_option linter.unusedSimpArgs false
/-- What readEntries tells. -/
structure REq (lf : Bool) (c : Nat) (s : List UInt8) (w : World) (u : Value) (W : World) : Prop where
  out : ∃ n v ok, u = .tuple #[v, .bool ok] ∧ (∀ W', Kept (fun i => i < w.heap.size) W W' → NdR W' v n) ∧ (ok = true → pN lf c s = some (n, [])) ∧ (ok = false → ∀ m, pN lf c s ≠ some (m, [])) ∧ n.leaf = lf ∧ n.keys.length ≤ c ∧ n.vals.length ≤ c ∧ n.kids.length ≤ c + 1 ∧ Same w W
theorem rnum1_lt (st : RSt) : rnum st 1 < 256 := by
  unfold rnum
  have h := num_lt (rtake st 1).1.data.toList
  rcases rtake_size st 1 with e | e
  · rw [size_list, e] at h; omega
  · rw [size_list, e] at h; omega
theorem rnum4_lt (st : RSt) : rnum st 4 < 4294967296 := by
  unfold rnum
  have h := num_lt (rtake st 4).1.data.toList
  rcases rtake_size st 4 with e | e
  · rw [size_list, e] at h; omega
  · rw [size_list, e] at h; omega
theorem pE_none {lf : Bool} {s : List UInt8} : ∀ {i c : Nat}, i ≤ c → pE lf i s = none → pE lf c s = none := by
  intro i c hic h
  induction c with
  | zero =>
    obtain rfl : i = 0 := by omega
    exact h
  | succ c ih =>
    by_cases e : i = c + 1
    · subst e; exact h
    · simp only [pE, ih (by omega)]
/-- One entry of a leaf, as a Reader takes it. -/
theorem leaf_round (r : List UInt8) {st1 st2 st3 st4 : RSt} {k v : ByteArray} (h1 : (rtake (rs r) 1).2 = st1) (h2 : (rtake st1 1).2 = st2) (h3 : rtake st2 (rnum (rs r) 1) = (k, st3)) (h4 : rtake st3 (rnum st1 1) = (v, st4)) :
    (∀ e r', p1 true r = some (e, r') → k = e.k ∧ v = e.v ∧ st4 = rs r') ∧ (p1 true r = none → st4 = rf) := by
  match r, h1, h3 with
  | [], h1, h3 =>
    rw [rtake_no (by simp)] at h1
    subst h1
    rw [rtake_f] at h2
    subst h2
    rw [rtake_f] at h3
    obtain ⟨rfl, rfl⟩ := Prod.mk.inj h3
    rw [rtake_f] at h4
    obtain ⟨rfl, rfl⟩ := Prod.mk.inj h4
    exact ⟨fun e r' h => by simp [p1] at h, fun _ => rfl⟩
  | [x], h1, h3 =>
    rw [rtake_yes (by simp)] at h1
    subst h1
    rw [rtake_no (by simp)] at h2
    subst h2
    rw [rtake_f] at h3
    obtain ⟨rfl, rfl⟩ := Prod.mk.inj h3
    rw [rtake_f] at h4
    obtain ⟨rfl, rfl⟩ := Prod.mk.inj h4
    exact ⟨fun e r' h => by simp [p1] at h, fun _ => rfl⟩
  | x :: y :: t, h1, h3 =>
    rw [rtake_yes (by simp)] at h1
    subst h1
    rw [rtake_yes (by simp)] at h2
    subst h2
    have n1 : rnum (rs (x :: y :: t)) 1 = x.toNat := by rw [rnum_byte (by simp)]; rfl
    have n2 : rnum (rs ((x :: y :: t).drop 1)) 1 = y.toNat := by rw [rnum_byte (by simp)]; rfl
    rw [n1] at h3
    rw [n2] at h4
    have ed : ((x :: y :: t).drop 1).drop 1 = t := rfl
    rw [ed] at h3
    have e0 : b0 (x :: y :: t) = x.toNat := rfl
    have e1 : b1 (x :: y :: t) = y.toNat := rfl
    simp only [p1, if_true, e0, e1, List.length_cons]
    by_cases hx : x.toNat ≤ t.length
    · rw [rtake_yes hx] at h3
      obtain ⟨rfl, rfl⟩ := Prod.mk.inj h3
      by_cases hy : y.toNat ≤ (t.drop x.toNat).length
      · rw [rtake_yes hy] at h4
        obtain ⟨rfl, rfl⟩ := Prod.mk.inj h4
        rw [List.length_drop] at hy
        rw [if_pos (by omega)]
        refine ⟨fun e r' h => ?_, fun h => by cases h⟩
        simp only [Option.some.injEq, Prod.mk.injEq] at h
        obtain ⟨rfl, rfl⟩ := h
        refine ⟨rfl, ?_, ?_⟩
        · rw [Nat.add_comm 2]; rfl
        · rw [List.drop_drop, show 2 + x.toNat + y.toNat = (x.toNat + y.toNat) + 2 by omega]; rfl
      · rw [rtake_no (by omega)] at h4
        obtain ⟨rfl, rfl⟩ := Prod.mk.inj h4
        rw [List.length_drop] at hy
        rw [if_neg (by omega)]
        exact ⟨fun e r' h => (by cases h), fun _ => rfl⟩
    · rw [rtake_no (by omega)] at h3
      obtain ⟨rfl, rfl⟩ := Prod.mk.inj h3
      rw [rtake_f] at h4
      obtain ⟨rfl, rfl⟩ := Prod.mk.inj h4
      rw [if_neg (by omega)]
      exact ⟨fun e r' h => (by cases h), fun _ => rfl⟩
/-- How far it has come. -/
def LfS (c : Nat) (s : List UInt8) (K V : List ByteArray) (st : RSt) : Prop :=
  K.length ≤ c ∧ V.length ≤ c ∧ ((∃ l r, st = rs r ∧ pE true K.length s = some (l, r) ∧ K = l.map En.k ∧ V = l.map En.v) ∨ (st = rf ∧ pE true c s = none))
theorem LfS.err {c : Nat} {s : List UInt8} {K V : List ByteArray} {st : RSt} (h : LfS c s K V st) (h0 : st.2 ≠ 0) : st = rf ∧ pE true c s = none := by
  rcases h.2.2 with ⟨l, r, rfl, _⟩ | h
  · exact absurd rfl h0
  · exact h
theorem LfS.ok {c : Nat} {s : List UInt8} {K V : List ByteArray} {st : RSt} (h : LfS c s K V st) (h0 : st.2 = 0) : ∃ l r, st = rs r ∧ pE true K.length s = some (l, r) ∧ K = l.map En.k ∧ V = l.map En.v := by
  rcases h.2.2 with h | ⟨rfl, _⟩
  · exact h
  · exact absurd h0 (by decide)
theorem LfS.step {c : Nat} {s : List UInt8} {K V : List ByteArray} {st st1 st2 st3 st4 : RSt} {k v : ByteArray} (h : LfS c s K V st) (h0 : st.2 = 0) (hlt : K.length < c) (h1 : (rtake st 1).2 = st1) (h2 : (rtake st1 1).2 = st2) (h3 : rtake st2 (rnum st 1) = (k, st3)) (h4 : rtake st3 (rnum st1 1) = (v, st4)) : LfS c s (K ++ [k]) (V ++ [v]) st4 := by
  obtain ⟨l, r, rfl, hp, hK, hV⟩ := h.ok h0
  have hVl : V.length = K.length := by rw [hK, hV]; simp
  obtain ⟨hy, hn⟩ := leaf_round r h1 h2 h3 h4
  refine ⟨by simp; omega, by simp; omega, ?_⟩
  cases hq : p1 true r with
  | none =>
    refine .inr ⟨hn hq, pE_none (i := K.length + 1) (by omega) ?_⟩
    simp only [pE, hp, hq]
  | some q =>
    obtain ⟨e, r'⟩ := q
    obtain ⟨rfl, rfl, rfl⟩ := hy e r' hq
    refine .inl ⟨l ++ [e], r', rfl, ?_, by rw [hK]; simp, by rw [hV]; simp⟩
    rw [List.length_append, List.length_singleton]
    simp only [pE, hp, hq]
theorem LfS.start (c : Nat) (s : List UInt8) : LfS c s [] [] (rs s) := ⟨Nat.zero_le _, Nat.zero_le _, .inl ⟨[], s, rfl, rfl, rfl, rfl⟩⟩
/-- The end. -/
theorem LfS.done {c : Nat} {s : List UInt8} {K V : List ByteArray} {st : RSt} (h : LfS c s K V st) (he : st.2 ≠ 0 ∨ c ≤ K.length) : (rdone st = 0 → pN true c s = some (⟨true, K, V, []⟩, [])) ∧ (rdone st ≠ 0 → ∀ m, pN true c s ≠ some (m, [])) := by
  rcases h.2.2 with ⟨l, r, rfl, hp, hK, hV⟩ | ⟨rfl, hp⟩
  · have hc : K.length = c := by
      rcases he with he | he
      · exact absurd rfl he
      · have := h.1; omega
    rw [hc] at hp
    have e : pN true c s = some (⟨true, K, V, []⟩, r) := by
      simp only [pN, if_true, hp, Option.map_some, mkN, ← hK, ← hV]
    rw [rdone_rs, e]
    by_cases hr : r = []
    · subst hr
      exact ⟨fun _ => rfl, fun h => absurd rfl h⟩
    · rw [if_neg hr]
      exact ⟨fun h => (by cases h), fun _ m hm => hr (by cases hm; rfl)⟩
  · have e : pN true c s = none := by simp only [pN, if_true, hp, Option.map_none]
    rw [e]
    exact ⟨fun h => (by cases h), fun _ m hm => by cases hm⟩
theorem cells4 {W : World} {g : Nat} {t : TypeId} {z0 z1 z2 z3 : Value} (h : W.heap[g]? = some (.cells #[z0, z1, z2, z3] t (0, 0))) : W.cell? ⟨g, 0, none⟩ = some z0 ∧ W.cell? ⟨g, 1, none⟩ = some z1 ∧ W.cell? ⟨g, 2, none⟩ = some z2 ∧ W.cell? ⟨g, 3, none⟩ = some z3 := ⟨blk_cell h, blk_cell h, blk_cell h, blk_cell h⟩
theorem free4 {W : World} {g : Nat} {t : TypeId} {cs : Array Value} (h : W.heap[g]? = some (.cells cs t (0, 0))) : W.frozen? ⟨g, 0, none⟩ = false ∧ W.frozen? ⟨g, 1, none⟩ = false ∧ W.frozen? ⟨g, 2, none⟩ = false ∧ W.frozen? ⟨g, 3, none⟩ = false := ⟨blk_free h, blk_free h, blk_free h, blk_free h⟩
set_option maxHeartbeats 8000000 in
set_option maxRecDepth 100000 in
theorem readLeaf (c : Nat) (s : List UInt8) (w : World) (hs : s.length ≤ 4096) (hc : c < 65536) :
    Calls Tryd.prog 44 #[.bool true, .int .i64 c, .string ⟨s.toArray⟩] w fun e w' => ∃ u, e = .returned u ∧ REq true c s w u w' := by
  have HC := hidden hc
  have g0 : ∀ W : World, Rd W.heap.size (rs s) (W.alloc (.cells #[.string ⟨s.toArray⟩, .int .i64 0] 115)) := fun W => Rd.new _ W (by rw [ba_size]; omega)
  have HG := hidden g0
  clear hs hc g0
  go_enter Tryd.func44, Tryd.ntmps44
  go_wp2_with (go_at_call 68; refine (newReader _ _).mono ?_; rintro e w2 ⟨rfl, hw2⟩; have R2 : Hid (Rd (w.heap.size + 1 + 1) (rs s) w2) := hidden (by rw [hw2]; simpa using HG.out ((w.alloc (.cells #[.bool false, .slice none 0 0, .slice none 0 0, .slice none 0 0] 25)).alloc (.cells #[.bool true, .slice none 0 0, .slice none 0 0, .slice none 0 0] 25))); have A2 := three w (.cells #[.bool false, .slice none 0 0, .slice none 0 0, .slice none 0 0] 25) (.cells #[.bool true, .slice none 0 0, .slice none 0 0, .slice none 0 0] 25) (.cells #[.string ⟨s.toArray⟩, .int .i64 0] 115); rw [← hw2] at A2; have D2 : Hid (NdB w (w.heap.size + 3) true [] [] [] none none none 0 0 0 0 0 0 w2) := hidden ⟨A2.2.1, A2.1, World.ownsRow_nil _ _ _ _, World.ownsRow_nil _ _ _ _, World.ownsRow_nil _ _ _ _, (fun k h => by simp [Value.ownBlock] at h), A2.2.2, by omega, by have := blk_lt R2.out.blk; omega⟩; clear hw2 A2)
  go_loopw [] (fun wr => ∃ K V a1 k1 c1 a2 k2 c2 st, NdB w (w.heap.size + 3) true K V [] a1 a2 none k1 c1 k2 c2 0 0 wr ∧ Rd (w.heap.size + 1 + 1) st wr ∧ LfS c s K V st) (fun wr => c - kLen wr (w.heap.size + 1))
  case atStart => exact ⟨[], [], none, 0, 0, none, 0, 0, rs s, D2.out, R2.out, LfS.start c s⟩
  case round =>
    obtain ⟨K, V, a1, k1, c1, a2, k2, c2, st, hd, hr, hl⟩ := hrel
    clear D2 R2
    have HD := hidden hd
    have HR := hidden hr
    have HL := hidden hl
    clear hd hr hl
    obtain ⟨x0, x1, x2, x3⟩ := cells4 HD.out.bx
    have LK := hidden HD.out.len
    by_cases h1 : k1 < c
    · have hl1 : (k1 : Int) < (c : Int) := by omega
      have HEr := hidden (fun g W (h : Rd g st W) => rErr h)
      by_cases h0 : st.2 = 0
      · rw [h0] at HEr
        obtain ⟨st1, e1⟩ : ∃ st1, (rtake st 1).2 = st1 := ⟨_, rfl⟩
        obtain ⟨n1, m1⟩ : ∃ n1, rnum st 1 = n1 := ⟨_, rfl⟩
        have b1 : n1 < 256 := by rw [← m1]; exact rnum1_lt st
        obtain ⟨st2, e2⟩ : ∃ st2, (rtake st1 1).2 = st2 := ⟨_, rfl⟩
        obtain ⟨n2, m2⟩ : ∃ n2, rnum st1 1 = n2 := ⟨_, rfl⟩
        have b2 : n2 < 256 := by rw [← m2]; exact rnum1_lt st1
        obtain ⟨q3, e3⟩ : ∃ q, rtake st2 n1 = q := ⟨_, rfl⟩
        obtain ⟨k, st3⟩ := q3
        obtain ⟨q4, e4⟩ : ∃ q, rtake st3 n2 = q := ⟨_, rfl⟩
        obtain ⟨v, st4⟩ := q4
        have HLN := hidden (HL.out.step (k := k) (v := v) (st3 := st3) (st4 := st4) h0 (by rw [LK.out.1]; exact h1) e1 e2 (by rw [m1]; exact e3) (by rw [m2]; exact e4))
        have HU1 := hidden (fun g W (h : Rd g st W) => rU8 h)
        rw [e1, m1] at HU1
        have HU2 := hidden (fun g W (h : Rd g st1 W) => rU8 h)
        rw [e2, m2] at HU2
        have HR3 := hidden (fun g W (h : Rd g st2 W) => rRaw h (n1 : Nat) (by omega))
        rw [rraw_nat, e3] at HR3
        have HR4 := hidden (fun g W (h : Rd g st3 W) => rRaw h (n2 : Nat) (by omega))
        rw [rraw_nat, e4] at HR4
        have w1' : IntKind.i64.wrap (n1 : Int) = (n1 : Int) := wrapN (by omega) (by omega)
        have w2' : IntKind.i64.wrap (n2 : Int) = (n2 : Int) := wrapN (by omega) (by omega)
        have HK1 : Hid (k1 ≤ 65536 ∧ k2 ≤ 65536) := hidden (by have h9 := HL.out.2.1; have := HC.out; rw [LK.out.2.1] at h9; omega)
        clear e1 e2 e3 e4 m1 m2 h0
        have t1 : True := trivial
        go_wp2_with (first
          | (go_at_call 73; refine (HEr.out _ _ HR.out).mono ?_; rintro e y1 ⟨rfl, rfl⟩)
          | (go_at_call 70; have _t := t1; clear t1; refine (HU1.out _ _ HR.out).mono ?_; rintro e y2 ⟨rfl, r2, k2'⟩; have R1 := hidden r2; have D1 := hidden (HD.out.kept k2' (fun i e => by have e : i = w.heap.size + 1 + 1 := e; omega)); obtain ⟨u0, u1, u2, u3⟩ := cells4 D1.out.bx; clear r2 k2')
          | (go_at_call 70; refine (HU2.out _ _ R1.out).mono ?_; rintro e y3 ⟨rfl, r2, k2'⟩; have R2 := hidden r2; have D2 := hidden (D1.out.kept k2' (fun i e => by have e : i = w.heap.size + 1 + 1 := e; omega)); obtain ⟨s0, s1, s2, s3⟩ := cells4 D2.out.bx; clear r2 k2'))
        have tA : True := trivial
        go_region_law (first
          | (have _t := tA; refine step_call rfl 69 #[.pointer (some ⟨w.heap.size + 1 + 1, 0, none⟩), .int .i64 (n1 : Nat)] (fun u W => u = .string k ∧ Rd (w.heap.size + 1 + 1) st3 W ∧ Kept (only (w.heap.size + 1 + 1)) y3.drew W) (by go_simp; try rfl) ((HR3.out _ _ (R2.out.kept (S := fun _ => False) ((Kept.refl _ _).drew) (fun h => h))).mono (fun e w' ⟨h1, h2, h3⟩ => ⟨_, h1, rfl, h2, h3⟩)) ?_; rintro u y4 ⟨rfl, r3, k3'⟩; clear tA; have R3 := hidden r3; have D3 := hidden ((D2.out.same ((Kept.refl _ _).drew)).kept k3' (fun i e => by have e : i = w.heap.size + 1 + 1 := e; omega)); clear r3 k3'; obtain ⟨v0, v1, v2, v3⟩ := cells4 D3.out.bx; obtain ⟨vv0, vv1, vv2, vv3⟩ := cells4 (D3.out.same (same_alloc y4 (.cells #[.string k] 9))).bx)
          | (refine st_text rfl _ _ rfl (w.heap.size + 3) a1 k1 c1 K rfl (D3.out.same (same_alloc y4 (.cells #[.string k] 9))).o1 y4.heap.size 1 k rfl (blk_new _ _) (by have := HK1.out; omega) (D3.out.same (same_alloc y4 (.cells #[.string k] 9))).b1 ?_; intro a1' c1' y5 o5 g5 n5; obtain ⟨p1, p2, d5, kk5⟩ := (D3.out.same (same_alloc y4 (.cells #[.string k] 9))).key o5 g5 n5; have D5 := hidden d5; have R5 := hidden ((R3.out.kept (same_alloc y4 (.cells #[.string k] 9)) (fun h => h)).kept kk5 (fun e => by rcases e with e | e <;> omega)); clear o5 g5 n5 d5 kk5))
        all_goals
          go_wp2
          obtain ⟨y6, hy6⟩ : ∃ y6, y5.setCell ⟨w.heap.size + 1, 1, none⟩ (.slice a1' (k1 + 1) c1') = y6 := ⟨_, rfl⟩
          rw [hy6] at D5 R5 ⊢
          clear hy6
          obtain ⟨l0, l1, l2, l3⟩ := cells4 D5.out.bx
          have tB : True := trivial
          go_region_law (first
            | (have _t := tB; refine step_call rfl 69 #[.pointer (some ⟨w.heap.size + 1 + 1, 0, none⟩), .int .i64 (n2 : Nat)] (fun u W => u = .string v ∧ Rd (w.heap.size + 1 + 1) st4 W ∧ Kept (only (w.heap.size + 1 + 1)) y6.drew W) (by go_simp; try rfl) ((HR4.out _ _ (R5.out.kept (S := fun _ => False) ((Kept.refl _ _).drew) (fun h => h))).mono (fun e w' ⟨h1, h2, h3⟩ => ⟨_, h1, rfl, h2, h3⟩)) ?_; rintro u y7 ⟨rfl, r3, k3'⟩; clear tB; have R7 := hidden r3; have D7 := hidden ((D5.out.same ((Kept.refl _ _).drew)).kept k3' (fun i e => by have e : i = w.heap.size + 1 + 1 := e; omega)); clear r3 k3'; obtain ⟨m0, m1, m2, m3⟩ := cells4 D7.out.bx; obtain ⟨mm0, mm1, mm2, mm3⟩ := cells4 (D7.out.same (same_alloc y7 (.cells #[.string v] 9))).bx)
            | (refine st_text rfl _ _ rfl (w.heap.size + 3) a2 k2 c2 V rfl (D7.out.same (same_alloc y7 (.cells #[.string v] 9))).o2 y7.heap.size 1 v rfl (blk_new _ _) (by have := HK1.out; omega) (D7.out.same (same_alloc y7 (.cells #[.string v] 9))).b1 ?_; intro a2' c2' y8 o5 g5 n5; obtain ⟨p1, p2, d5, kk5⟩ := (D7.out.same (same_alloc y7 (.cells #[.string v] 9))).val o5 g5 n5; have D8 := hidden d5; have R8 := hidden ((R7.out.kept (same_alloc y7 (.cells #[.string v] 9)) (fun h => h)).kept kk5 (fun e => by rcases e with e | e <;> omega)); clear o5 g5 n5 d5 kk5))
          all_goals
            go_wp2
            go_roundw
            case rel => exact ⟨K ++ [k], V ++ [v], a1', k1 + 1, c1', a2', k2 + 1, c2', st4, D8.out, R8.out, HLN.out⟩
            case measure => rw [D8.out.klen, HD.out.klen]; omega
      · have hne : (st.2 == 0) = false := by simpa using h0
        have hne2 : ¬ st.2 = 0 := h0
        obtain ⟨d, hd⟩ : ∃ d, rdone st = d := ⟨_, rfl⟩
        obtain ⟨ok, qd⟩ : ∃ ok, (d == 0) = ok := ⟨_, rfl⟩
        have qd2 : decide (d = 0) = ok := by rw [← qd]; rfl
        have HDn := hidden (fun g W (h : Rd g st W) => rDone h)
        rw [hd] at HDn
        have hdn := HL.out.done (.inl h0)
        rw [hd] at hdn
        have HDONE : Hid ((ok = true → pN true c s = some (⟨true, K, V, []⟩, [])) ∧ (ok = false → ∀ m, pN true c s ≠ some (m, []))) := hidden ⟨fun h => hdn.1 (by rw [← qd] at h; simpa using h), fun h => hdn.2 (by rw [← qd] at h; simpa using h)⟩
        obtain ⟨z0, z1, z2, z3⟩ := cells4 HD.out.rs
        obtain ⟨f0, f1, f2, f3⟩ := free4 HD.out.rs
        clear hd hdn
        generalize st.2 = e2 at HEr hne hne2
        clear h0
        go_wp2_with (go_at_call 73; refine (HEr.out _ _ HR.out).mono ?_; rintro e y1 ⟨rfl, rfl⟩)
        go_region_law (refine step_call rfl 74 #[.pointer (some ⟨w.heap.size + 1 + 1, 0, none⟩)] (fun u W => u = .int .i64 d ∧ wr.drew = W) (by go_simp; try rfl) ((HDn.out _ _ (HR.out.kept (S := fun _ => False) ((Kept.refl _ _).drew) (fun h => h))).mono (fun e w' ⟨h1, h2⟩ => ⟨_, h1, rfl, h2⟩)) ?_; rintro u w3 ⟨rfl, rfl⟩)
        all_goals
          go_wp2
          first
          | (have gf := fill4 (W := wr.drew) (g := w.heap.size) (t := 25) HD.out.rs (.bool true) (.slice a1 k1 c1) (.slice a2 k2 c2) (.slice none 0 0); have kf := kept_fill4 (W := wr.drew) (g := w.heap.size) (.bool true) (.slice a1 k1 c1) (.slice a2 k2 c2) (.slice none 0 0); generalize ((((wr.drew.setCell ⟨w.heap.size, 0, none⟩ (.bool true)).setCell ⟨w.heap.size, 1, none⟩ (.slice a1 k1 c1)).setCell ⟨w.heap.size, 2, none⟩ (.slice a2 k2 c2)).setCell ⟨w.heap.size, 3, none⟩ (.slice none 0 0)) = WF at gf kf ⊢; obtain ⟨p0, p1, p2, p3⟩ := cells4 gf; have FN := HD.out.fin ((((Kept.refl (only w.heap.size) wr).drew)).trans kf); have ln := HD.out.len; exact bodyPost_ret (v := .tuple #[.agg #[.bool true, .slice a1 k1 c1, .slice a2 k2 c2, .slice none 0 0], .bool ok]) (by simp [results, Tryd.results44, go_sem, p0, p1, p2, p3]) rfl ⟨_, rfl, ⟨_, _, _, rfl, FN.1, HDONE.out.1, HDONE.out.2, rfl, (by have := HL.out.1; exact this), (by have := HL.out.2.1; exact this), Nat.zero_le _, FN.2⟩⟩)
          | (have gf := fill4 (W := wr) (g := w.heap.size) (t := 25) HD.out.rs (.bool true) (.slice a1 k1 c1) (.slice a2 k2 c2) (.slice none 0 0); have kf := kept_fill4 (W := wr) (g := w.heap.size) (.bool true) (.slice a1 k1 c1) (.slice a2 k2 c2) (.slice none 0 0); generalize ((((wr.setCell ⟨w.heap.size, 0, none⟩ (.bool true)).setCell ⟨w.heap.size, 1, none⟩ (.slice a1 k1 c1)).setCell ⟨w.heap.size, 2, none⟩ (.slice a2 k2 c2)).setCell ⟨w.heap.size, 3, none⟩ (.slice none 0 0)) = WF at gf kf ⊢; obtain ⟨p0, p1, p2, p3⟩ := cells4 gf; have FN := HD.out.fin kf; have ln := HD.out.len; exact bodyPost_ret (v := .tuple #[.agg #[.bool true, .slice a1 k1 c1, .slice a2 k2 c2, .slice none 0 0], .bool ok]) (by simp [results, Tryd.results44, go_sem, p0, p1, p2, p3]) rfl ⟨_, rfl, ⟨_, _, _, rfl, (fun W'' k'' => FN.1 W'' (((Kept.refl _ _).drew).trans k'')), HDONE.out.1, HDONE.out.2, rfl, (by have := HL.out.1; exact this), (by have := HL.out.2.1; exact this), Nat.zero_le _, FN.2.drew⟩⟩)
    · have hl1 : ¬ (k1 : Int) < (c : Int) := by omega
      obtain ⟨d, hd⟩ : ∃ d, rdone st = d := ⟨_, rfl⟩
      obtain ⟨ok, qd⟩ : ∃ ok, (d == 0) = ok := ⟨_, rfl⟩
      have qd2 : decide (d = 0) = ok := by rw [← qd]; rfl
      have HDn := hidden (fun g W (h : Rd g st W) => rDone h)
      rw [hd] at HDn
      have hdn := HL.out.done (.inr (by have := LK.out.1; omega))
      rw [hd] at hdn
      have HDONE : Hid ((ok = true → pN true c s = some (⟨true, K, V, []⟩, [])) ∧ (ok = false → ∀ m, pN true c s ≠ some (m, []))) := hidden ⟨fun h => hdn.1 (by rw [← qd] at h; simpa using h), fun h => hdn.2 (by rw [← qd] at h; simpa using h)⟩
      obtain ⟨z0, z1, z2, z3⟩ := cells4 HD.out.rs
      obtain ⟨f0, f1, f2, f3⟩ := free4 HD.out.rs
      clear hd hdn
      go_wp2
      go_region_law (refine step_call rfl 74 #[.pointer (some ⟨w.heap.size + 1 + 1, 0, none⟩)] (fun u W => u = .int .i64 d ∧ wr.drew = W) (by go_simp; try rfl) ((HDn.out _ _ (HR.out.kept (S := fun _ => False) ((Kept.refl _ _).drew) (fun h => h))).mono (fun e w' ⟨h1, h2⟩ => ⟨_, h1, rfl, h2⟩)) ?_; rintro u w3 ⟨rfl, rfl⟩)
      all_goals
        go_wp2
        first
        | (have gf := fill4 (W := wr.drew) (g := w.heap.size) (t := 25) HD.out.rs (.bool true) (.slice a1 k1 c1) (.slice a2 k2 c2) (.slice none 0 0); have kf := kept_fill4 (W := wr.drew) (g := w.heap.size) (.bool true) (.slice a1 k1 c1) (.slice a2 k2 c2) (.slice none 0 0); generalize ((((wr.drew.setCell ⟨w.heap.size, 0, none⟩ (.bool true)).setCell ⟨w.heap.size, 1, none⟩ (.slice a1 k1 c1)).setCell ⟨w.heap.size, 2, none⟩ (.slice a2 k2 c2)).setCell ⟨w.heap.size, 3, none⟩ (.slice none 0 0)) = WF at gf kf ⊢; obtain ⟨p0, p1, p2, p3⟩ := cells4 gf; have FN := HD.out.fin ((((Kept.refl (only w.heap.size) wr).drew)).trans kf); have ln := HD.out.len; exact bodyPost_ret (v := .tuple #[.agg #[.bool true, .slice a1 k1 c1, .slice a2 k2 c2, .slice none 0 0], .bool ok]) (by simp [results, Tryd.results44, go_sem, p0, p1, p2, p3]) rfl ⟨_, rfl, ⟨_, _, _, rfl, FN.1, HDONE.out.1, HDONE.out.2, rfl, (by have := HL.out.1; exact this), (by have := HL.out.2.1; exact this), Nat.zero_le _, FN.2⟩⟩)
        | (have gf := fill4 (W := wr) (g := w.heap.size) (t := 25) HD.out.rs (.bool true) (.slice a1 k1 c1) (.slice a2 k2 c2) (.slice none 0 0); have kf := kept_fill4 (W := wr) (g := w.heap.size) (.bool true) (.slice a1 k1 c1) (.slice a2 k2 c2) (.slice none 0 0); generalize ((((wr.setCell ⟨w.heap.size, 0, none⟩ (.bool true)).setCell ⟨w.heap.size, 1, none⟩ (.slice a1 k1 c1)).setCell ⟨w.heap.size, 2, none⟩ (.slice a2 k2 c2)).setCell ⟨w.heap.size, 3, none⟩ (.slice none 0 0)) = WF at gf kf ⊢; obtain ⟨p0, p1, p2, p3⟩ := cells4 gf; have FN := HD.out.fin kf; have ln := HD.out.len; exact bodyPost_ret (v := .tuple #[.agg #[.bool true, .slice a1 k1 c1, .slice a2 k2 c2, .slice none 0 0], .bool ok]) (by simp [results, Tryd.results44, go_sem, p0, p1, p2, p3]) rfl ⟨_, rfl, ⟨_, _, _, rfl, (fun W'' k'' => FN.1 W'' (((Kept.refl _ _).drew).trans k'')), HDONE.out.1, HDONE.out.2, rfl, (by have := HL.out.1; exact this), (by have := HL.out.2.1; exact this), Nat.zero_le _, FN.2.drew⟩⟩)
end Go.Proofs.YtpjgghalnkfdkaaDoor
