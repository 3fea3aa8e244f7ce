/- node: readEntries of an inner node. (Made by mkne12.py out of NE11.) -/
import Derived.Test.YtpjgghalnkfdkaaDoorNE11
import Derived.Deep.CutRange
namespace Go.Proofs.YtpjgghalnkfdkaaDoor
open Go.RowKit
set_option linter.unusedVariables false
set_option linter.unusedSimpArgs false
/-- One entry of an inner node, as a Reader takes it. -/
theorem inner_round (r : List UInt8) {st1 st2 st3 : RSt} {k : ByteArray} (h1 : (rtake (rs r) 1).2 = st1) (h3 : rtake st1 (rnum (rs r) 1) = (k, st2)) (h4 : (rtake st2 4).2 = st3) :
    (∀ e r', p1 false r = some (e, r') → k = e.k ∧ ((rnum st2 4 : Nat) : Int) = e.z ∧ st3 = rs r') ∧ (p1 false r = none → st3 = rf) := by
  match r, h1, h3 with
  | [], h1, h3 =>
    rw [rtake_no (by simp)] at h1
    subst h1
    rw [rtake_f] at h3
    obtain ⟨rfl, rfl⟩ := Prod.mk.inj h3
    rw [rtake_f] at h4
    subst h4
    exact ⟨fun e r' h => by simp [p1] at h, fun _ => rfl⟩
  | x :: t, h1, h3 =>
    rw [rtake_yes (by simp)] at h1
    subst h1
    have n1 : rnum (rs (x :: t)) 1 = x.toNat := by rw [rnum_byte (by simp)]; rfl
    rw [n1] at h3
    have ed : (x :: t).drop 1 = t := rfl
    rw [ed] at h3
    have e0 : b0 (x :: t) = x.toNat := rfl
    simp only [p1, Bool.false_eq_true, if_false, e0, List.length_cons]
    by_cases hx : x.toNat ≤ t.length
    · rw [rtake_yes hx] at h3
      obtain ⟨rfl, rfl⟩ := Prod.mk.inj h3
      by_cases hy : 4 ≤ (t.drop x.toNat).length
      · rw [rtake_yes hy] at h4
        subst h4
        rw [rnum_yes hy]
        rw [List.length_drop] at hy
        rw [if_pos (by omega)]
        refine ⟨fun e r' h => ?_, fun h => by cases h⟩
        simp only [Option.some.injEq, Prod.mk.injEq] at h
        obtain ⟨rfl, rfl⟩ := h
        refine ⟨rfl, ?_, ?_⟩
        · rw [Nat.add_comm 1]; rfl
        · rw [List.drop_drop, show 1 + x.toNat + 4 = (x.toNat + 4) + 1 by omega]; rfl
      · rw [rtake_no (by omega)] at h4
        subst h4
        rw [List.length_drop] at hy
        rw [if_neg (by omega)]
        exact ⟨fun e r' h => (by cases h), fun _ => rfl⟩
    · rw [rtake_no (by omega)] at h3
      obtain ⟨rfl, rfl⟩ := Prod.mk.inj h3
      rw [rtake_f] at h4
      subst h4
      rw [if_neg (by omega)]
      exact ⟨fun e r' h => (by cases h), fun _ => rfl⟩
/-- How far it has come. -/
def InS (c : Nat) (s : List UInt8) (K : List ByteArray) (Z : List Int) (st : RSt) : Prop :=
  K.length ≤ c ∧ Z.length ≤ c + 1 ∧ ((∃ l r, 4 ≤ s.length ∧ st = rs r ∧ pE false K.length (s.drop 4) = some (l, r) ∧ K = l.map En.k ∧ Z = ((num (s.take 4) : Nat) : Int) :: l.map En.z) ∨ (st = rf ∧ pN false c s = none))
theorem InS.ok {c : Nat} {s : List UInt8} {K : List ByteArray} {Z : List Int} {st : RSt} (h : InS c s K Z st) (h0 : st.2 = 0) : ∃ l r, 4 ≤ s.length ∧ st = rs r ∧ pE false K.length (s.drop 4) = some (l, r) ∧ K = l.map En.k ∧ Z = ((num (s.take 4) : Nat) : Int) :: l.map En.z := by
  rcases h.2.2 with h | ⟨rfl, _⟩
  · exact h
  · exact absurd h0 (by decide)
theorem InS.step {c : Nat} {s : List UInt8} {K : List ByteArray} {Z : List Int} {st st1 st2 st3 : RSt} {k : ByteArray} (h : InS c s K Z st) (h0 : st.2 = 0) (hlt : K.length < c) (h1 : (rtake st 1).2 = st1) (h3 : rtake st1 (rnum st 1) = (k, st2)) (h4 : (rtake st2 4).2 = st3) : InS c s (K ++ [k]) (Z ++ [((rnum st2 4 : Nat) : Int)]) st3 := by
  obtain ⟨l, r, hs, rfl, hp, hK, hV⟩ := h.ok h0
  have hVl : Z.length = K.length + 1 := by rw [hK, hV]; simp
  obtain ⟨hy, hn⟩ := inner_round r h1 h3 h4
  refine ⟨by simp; omega, by simp; omega, ?_⟩
  cases hq : p1 false r with
  | none =>
    refine .inr ⟨hn hq, ?_⟩
    have : pE false c (s.drop 4) = none := by
      refine pE_none (i := K.length + 1) (by omega) ?_
      simp only [pE, hp, hq]
    simp only [pN, Bool.false_eq_true, if_false, if_pos hs, this, Option.map_none]
  | some q =>
    obtain ⟨e, r'⟩ := q
    obtain ⟨rfl, hz, rfl⟩ := hy e r' hq
    refine .inl ⟨l ++ [e], r', hs, rfl, ?_, by rw [hK]; simp, by rw [hV, hz]; simp⟩
    rw [List.length_append, List.length_singleton]
    simp only [pE, hp, hq]
theorem InS.start (c : Nat) (s : List UInt8) : InS c s [] [((rnum (rs s) 4 : Nat) : Int)] (rtake (rs s) 4).2 := by
  refine ⟨Nat.zero_le _, by simp, ?_⟩
  by_cases h : 4 ≤ s.length
  · rw [rtake_yes h, rnum_yes h]
    exact .inl ⟨[], s.drop 4, h, rfl, rfl, rfl, rfl⟩
  · rw [rtake_no (by omega)]
    exact .inr ⟨rfl, by simp only [pN, Bool.false_eq_true, if_false, if_neg h]⟩
theorem InS.done {c : Nat} {s : List UInt8} {K : List ByteArray} {Z : List Int} {st : RSt} (h : InS c s K Z st) (he : st.2 ≠ 0 ∨ c ≤ K.length) : (rdone st = 0 → pN false c s = some (⟨false, K, [], Z⟩, [])) ∧ (rdone st ≠ 0 → ∀ m, pN false c s ≠ some (m, [])) := by
  rcases h.2.2 with ⟨l, r, hs, rfl, hp, hK, hV⟩ | ⟨rfl, hp⟩
  · have hc : K.length = c := by
      rcases he with he | he
      · exact absurd rfl he
      · have := h.1; omega
    rw [hc] at hp
    have e : pN false c s = some (⟨false, K, [], Z⟩, r) := by
      simp only [pN, Bool.false_eq_true, if_false, if_pos hs, hp, Option.map_some, mkN, ← hK, ← hV]
    rw [rdone_rs, e]
    by_cases hr : r = []
    · subst hr
      exact ⟨fun _ => rfl, fun h => absurd rfl h⟩
    · rw [if_neg hr]
      exact ⟨fun h => (by cases h), fun _ m hm => hr (by cases hm; rfl)⟩
  · rw [hp]
    exact ⟨fun h => (by cases h), fun _ m hm => (by cases hm)⟩
set_option maxHeartbeats 8000000 in
set_option maxRecDepth 100000 in
theorem readInner (c : Nat) (s : List UInt8) (w : World) (hs : s.length ≤ 4096) (hc : c < 65536) :
    Calls Tryd.prog 44 #[.bool false, .int .i64 c, .string ⟨s.toArray⟩] w fun e w' => ∃ u, e = .returned u ∧ REq false c s w u w' := by
  have HC := hidden hc
  have g0 : ∀ W : World, Rd W.heap.size (rs s) (W.alloc (.cells #[.string ⟨s.toArray⟩, .int .i64 0] 115)) := fun W => Rd.new _ W (by rw [ba_size]; omega)
  have HG := hidden g0
  clear hs hc g0
  go_enter Tryd.func44, Tryd.ntmps44
  go_wp2_with (go_at_call 68; refine (newReader _ _).mono ?_; rintro e w2 ⟨rfl, hw2⟩; have R2 : Hid (Rd (w.heap.size + 1 + 1) (rs s) w2) := hidden (by rw [hw2]; simpa using HG.out ((w.alloc (.cells #[.bool false, .slice none 0 0, .slice none 0 0, .slice none 0 0] 25)).alloc (.cells #[.bool false, .slice none 0 0, .slice none 0 0, .slice none 0 0] 25))); have A2 := three w (.cells #[.bool false, .slice none 0 0, .slice none 0 0, .slice none 0 0] 25) (.cells #[.bool false, .slice none 0 0, .slice none 0 0, .slice none 0 0] 25) (.cells #[.string ⟨s.toArray⟩, .int .i64 0] 115); rw [← hw2] at A2; have D2 : Hid (NdB w (w.heap.size + 3) false [] [] [] none none none 0 0 0 0 0 0 w2) := hidden ⟨A2.2.1, A2.1, World.ownsRow_nil _ _ _ _, World.ownsRow_nil _ _ _ _, World.ownsRow_nil _ _ _ _, (fun k h => by simp [Value.ownBlock] at h), A2.2.2, by omega, by have := blk_lt R2.out.blk; omega⟩; clear hw2 A2)
  obtain ⟨x0, x1, x2, x3⟩ := cells4 D2.out.bx
  obtain ⟨z, hz⟩ : ∃ z, rnum (rs s) 4 = z := ⟨_, rfl⟩
  obtain ⟨st0, hst⟩ : ∃ st, (rtake (rs s) 4).2 = st := ⟨_, rfl⟩
  have hz4 := rnum4_lt (rs s)
  have HU0 := hidden (fun g W (h : Rd g (rs s) W) => rU32 h)
  have HST := hidden (InS.start c s)
  rw [hz, hst] at HU0 HST
  rw [hz] at hz4
  have wz : IntKind.i64.wrap (z : Int) = (z : Int) := wrapN (by omega) (by omega)
  clear hz hst hz4
  go_cut [] from 18 to 25 (fun wx => ∃ a3 c3, NdB w (w.heap.size + 3) false [] [] [(z : Int)] none none a3 0 0 0 0 1 c3 wx ∧ Rd (w.heap.size + 1 + 1) st0 wx)
  case first =>
    have tA : True := trivial
    go_region_law (first
      | (have _t := tA; refine step_call rfl 72 #[.pointer (some ⟨w.heap.size + 1 + 1, 0, none⟩)] (fun u W => u = .int .u32 (z : Nat) ∧ Rd (w.heap.size + 1 + 1) st0 W ∧ Kept (only (w.heap.size + 1 + 1)) w2.drew W) (by go_simp; try rfl) ((HU0.out _ _ (R2.out.kept (S := fun _ => False) ((Kept.refl _ _).drew) (fun h => h))).mono (fun e w' ⟨h1, h2, h3⟩ => ⟨_, h1, rfl, h2, h3⟩)) ?_; rintro u y4 ⟨rfl, r3, k3'⟩; clear tA; have R3 := hidden r3; have D3 := hidden ((D2.out.same ((Kept.refl _ _).drew)).kept k3' (fun i e => by have e : i = w.heap.size + 1 + 1 := e; omega)); clear r3 k3'; obtain ⟨v0, v1, v2, v3⟩ := cells4 D3.out.bx; obtain ⟨vv0, vv1, vv2, vv3⟩ := cells4 (D3.out.same (same_alloc y4 (.cells #[.int .i64 (z : Nat)] 3))).bx)
      | (refine st_int rfl _ _ rfl (w.heap.size + 3) none 0 0 [] rfl (D3.out.same (same_alloc y4 (.cells #[.int .i64 (z : Nat)] 3))).o3 y4.heap.size 1 (z : Int) rfl (blk_new _ _) (by decide) (D3.out.same (same_alloc y4 (.cells #[.int .i64 (z : Nat)] 3))).b1 ?_; intro a3' c3' y5 o5 g5 n5; obtain ⟨p1, p2, d5, kk5⟩ := (D3.out.same (same_alloc y4 (.cells #[.int .i64 (z : Nat)] 3))).kid o5 g5 n5; have D5 := hidden d5; have R5 := hidden ((R3.out.kept (same_alloc y4 (.cells #[.int .i64 (z : Nat)] 3)) (fun h => h)).kept kk5 (fun e => by rcases e with e | e <;> omega)); clear o5 g5 n5 d5 kk5))
    all_goals
      go_wp2_with fail
      go_meet
      case rel => exact ⟨a3', c3', D5.out, R5.out⟩
  case rest =>
  clear R2 D2
  obtain ⟨a3', c3', d2, r2⟩ := hcut
  have D2 := hidden d2
  have R2 := hidden r2
  clear d2 r2
  go_wp2
  go_loopw [] (fun wr => ∃ K Z a1 k1 c1 a3 k3 c3 st, NdB w (w.heap.size + 3) false K [] Z a1 none a3 k1 c1 0 0 k3 c3 wr ∧ Rd (w.heap.size + 1 + 1) st wr ∧ InS c s K Z st) (fun wr => c - kLen wr (w.heap.size + 1))
  case atStart => exact ⟨[], [(z : Int)], none, 0, 0, a3', 1, c3', st0, D2.out, R2.out, HST.out⟩
  case round =>
    obtain ⟨K, Z, a1, k1, c1, a3, k3, c3, st, hd, hr, hl⟩ := hrel
    clear D2 R2
    have HD := hidden hd
    have HR := hidden hr
    have HL := hidden hl
    clear hd hr hl
    obtain ⟨x0, x1, x2, x3⟩ := cells4 HD.out.bx
    have LK := hidden HD.out.len
    by_cases h1 : k1 < c
    · have hl1 : (k1 : Int) < (c : Int) := by omega
      have HEr := hidden (fun g W (h : Rd g st W) => rErr h)
      by_cases h0 : st.2 = 0
      · rw [h0] at HEr
        obtain ⟨st1, e1⟩ : ∃ st1, (rtake st 1).2 = st1 := ⟨_, rfl⟩
        obtain ⟨n1, m1⟩ : ∃ n1, rnum st 1 = n1 := ⟨_, rfl⟩
        have b1 : n1 < 256 := by rw [← m1]; exact rnum1_lt st
        obtain ⟨q3, e3⟩ : ∃ q, rtake st1 n1 = q := ⟨_, rfl⟩
        obtain ⟨k, st2⟩ := q3
        obtain ⟨st3, e4⟩ : ∃ st, (rtake st2 4).2 = st := ⟨_, rfl⟩
        obtain ⟨z1, m2⟩ : ∃ z, rnum st2 4 = z := ⟨_, rfl⟩
        have b2 : z1 < 4294967296 := by rw [← m2]; exact rnum4_lt st2
        have HLN := hidden (HL.out.step (k := k) (st2 := st2) (st3 := st3) h0 (by rw [LK.out.1]; exact h1) e1 (by rw [m1]; exact e3) e4)
        rw [m2] at HLN
        have HU1 := hidden (fun g W (h : Rd g st W) => rU8 h)
        rw [e1, m1] at HU1
        have HR3 := hidden (fun g W (h : Rd g st1 W) => rRaw h (n1 : Nat) (by omega))
        rw [rraw_nat, e3] at HR3
        have HR4 := hidden (fun g W (h : Rd g st2 W) => rU32 h)
        rw [e4, m2] at HR4
        have w1' : IntKind.i64.wrap (n1 : Int) = (n1 : Int) := wrapN (by omega) (by omega)
        have w2' : IntKind.i64.wrap (z1 : Int) = (z1 : Int) := wrapN (by omega) (by omega)
        have HK1 : Hid (k1 ≤ 65536 ∧ k3 ≤ 65537) := hidden (by have h9 := HL.out.2.1; have := HC.out; rw [LK.out.2.2] at h9; omega)
        clear e1 e3 e4 m1 m2 h0
        have t1 : True := trivial
        go_wp2_with (first
          | (go_at_call 73; refine (HEr.out _ _ HR.out).mono ?_; rintro e y1 ⟨rfl, rfl⟩)
          | (go_at_call 70; have _t := t1; clear t1; refine (HU1.out _ _ HR.out).mono ?_; rintro e y3 ⟨rfl, r2, k2'⟩; have R2 := hidden r2; have D2 := hidden (HD.out.kept k2' (fun i e => by have e : i = w.heap.size + 1 + 1 := e; omega)); obtain ⟨u0, u1, u2, u3⟩ := cells4 D2.out.bx; clear r2 k2'))
        have tA : True := trivial
        go_region_law (first
          | (have _t := tA; refine step_call rfl 69 #[.pointer (some ⟨w.heap.size + 1 + 1, 0, none⟩), .int .i64 (n1 : Nat)] (fun u W => u = .string k ∧ Rd (w.heap.size + 1 + 1) st2 W ∧ Kept (only (w.heap.size + 1 + 1)) y3.drew W) (by go_simp; try rfl) ((HR3.out _ _ (R2.out.kept (S := fun _ => False) ((Kept.refl _ _).drew) (fun h => h))).mono (fun e w' ⟨h1, h2, h3⟩ => ⟨_, h1, rfl, h2, h3⟩)) ?_; rintro u y4 ⟨rfl, r3, k3'⟩; clear tA; have R3 := hidden r3; have D3 := hidden ((D2.out.same ((Kept.refl _ _).drew)).kept k3' (fun i e => by have e : i = w.heap.size + 1 + 1 := e; omega)); clear r3 k3'; obtain ⟨v0, v1, v2, v3⟩ := cells4 D3.out.bx; obtain ⟨vv0, vv1, vv2, vv3⟩ := cells4 (D3.out.same (same_alloc y4 (.cells #[.string k] 9))).bx)
          | (refine st_text rfl _ _ rfl (w.heap.size + 3) a1 k1 c1 K rfl (D3.out.same (same_alloc y4 (.cells #[.string k] 9))).o1 y4.heap.size 1 k rfl (blk_new _ _) (by have := HK1.out; omega) (D3.out.same (same_alloc y4 (.cells #[.string k] 9))).b1 ?_; intro a1' c1' y5 o5 g5 n5; obtain ⟨p1, p2, d5, kk5⟩ := (D3.out.same (same_alloc y4 (.cells #[.string k] 9))).key o5 g5 n5; have D5 := hidden d5; have R5 := hidden ((R3.out.kept (same_alloc y4 (.cells #[.string k] 9)) (fun h => h)).kept kk5 (fun e => by rcases e with e | e <;> omega)); clear o5 g5 n5 d5 kk5))
        all_goals
          go_wp2
          obtain ⟨y6, hy6⟩ : ∃ y6, y5.setCell ⟨w.heap.size + 1, 1, none⟩ (.slice a1' (k1 + 1) c1') = y6 := ⟨_, rfl⟩
          rw [hy6] at D5 R5 ⊢
          clear hy6
          obtain ⟨l0, l1, l2, l3⟩ := cells4 D5.out.bx
          have tB : True := trivial
          go_region_law (first
            | (have _t := tB; refine step_call rfl 72 #[.pointer (some ⟨w.heap.size + 1 + 1, 0, none⟩)] (fun u W => u = .int .u32 (z1 : Nat) ∧ Rd (w.heap.size + 1 + 1) st3 W ∧ Kept (only (w.heap.size + 1 + 1)) y6.drew W) (by go_simp; try rfl) ((HR4.out _ _ (R5.out.kept (S := fun _ => False) ((Kept.refl _ _).drew) (fun h => h))).mono (fun e w' ⟨h1, h2, h3⟩ => ⟨_, h1, rfl, h2, h3⟩)) ?_; rintro u y7 ⟨rfl, r3, k3'⟩; clear tB; have R7 := hidden r3; have D7 := hidden ((D5.out.same ((Kept.refl _ _).drew)).kept k3' (fun i e => by have e : i = w.heap.size + 1 + 1 := e; omega)); clear r3 k3'; obtain ⟨m0, m1, m2, m3⟩ := cells4 D7.out.bx; obtain ⟨mm0, mm1, mm2, mm3⟩ := cells4 (D7.out.same (same_alloc y7 (.cells #[.int .i64 (z1 : Nat)] 3))).bx)
            | (refine st_int rfl _ _ rfl (w.heap.size + 3) a3 k3 c3 Z rfl (D7.out.same (same_alloc y7 (.cells #[.int .i64 (z1 : Nat)] 3))).o3 y7.heap.size 1 (z1 : Int) rfl (blk_new _ _) (by have := HK1.out; omega) (D7.out.same (same_alloc y7 (.cells #[.int .i64 (z1 : Nat)] 3))).b1 ?_; intro a3' c3' y8 o5 g5 n5; obtain ⟨p1, p2, d5, kk5⟩ := (D7.out.same (same_alloc y7 (.cells #[.int .i64 (z1 : Nat)] 3))).kid o5 g5 n5; have D8 := hidden d5; have R8 := hidden ((R7.out.kept (same_alloc y7 (.cells #[.int .i64 (z1 : Nat)] 3)) (fun h => h)).kept kk5 (fun e => by rcases e with e | e <;> omega)); clear o5 g5 n5 d5 kk5))
          all_goals
            go_wp2
            go_roundw
            case rel => exact ⟨K ++ [k], Z ++ [(z1 : Int)], a1', k1 + 1, c1', a3', k3 + 1, c3', st3, D8.out, R8.out, HLN.out⟩
            case measure => rw [D8.out.klen, HD.out.klen]; omega
      · have hne : (st.2 == 0) = false := by simpa using h0
        have hne2 : ¬ st.2 = 0 := h0
        obtain ⟨d, hd⟩ : ∃ d, rdone st = d := ⟨_, rfl⟩
        obtain ⟨ok, qd⟩ : ∃ ok, (d == 0) = ok := ⟨_, rfl⟩
        have qd2 : decide (d = 0) = ok := by rw [← qd]; rfl
        have HDn := hidden (fun g W (h : Rd g st W) => rDone h)
        rw [hd] at HDn
        have hdn := HL.out.done (.inl h0)
        rw [hd] at hdn
        have HDONE : Hid ((ok = true → pN false c s = some (⟨false, K, [], Z⟩, [])) ∧ (ok = false → ∀ m, pN false c s ≠ some (m, []))) := hidden ⟨fun h => hdn.1 (by rw [← qd] at h; simpa using h), fun h => hdn.2 (by rw [← qd] at h; simpa using h)⟩
        obtain ⟨z0, z1, z2, z3⟩ := cells4 HD.out.rs
        obtain ⟨f0, f1, f2, f3⟩ := free4 HD.out.rs
        clear hd hdn
        generalize st.2 = e2 at HEr hne hne2
        clear h0
        go_wp2_with (go_at_call 73; refine (HEr.out _ _ HR.out).mono ?_; rintro e y1 ⟨rfl, rfl⟩)
        go_region_law (refine step_call rfl 74 #[.pointer (some ⟨w.heap.size + 1 + 1, 0, none⟩)] (fun u W => u = .int .i64 d ∧ wr.drew = W) (by go_simp; try rfl) ((HDn.out _ _ (HR.out.kept (S := fun _ => False) ((Kept.refl _ _).drew) (fun h => h))).mono (fun e w' ⟨h1, h2⟩ => ⟨_, h1, rfl, h2⟩)) ?_; rintro u w3 ⟨rfl, rfl⟩)
        all_goals
          go_wp2
          first
          | (have gf := fill4 (W := wr.drew) (g := w.heap.size) (t := 25) HD.out.rs (.bool false) (.slice a1 k1 c1) (.slice none 0 0) (.slice a3 k3 c3); have kf := kept_fill4 (W := wr.drew) (g := w.heap.size) (.bool false) (.slice a1 k1 c1) (.slice none 0 0) (.slice a3 k3 c3); generalize ((((wr.drew.setCell ⟨w.heap.size, 0, none⟩ (.bool false)).setCell ⟨w.heap.size, 1, none⟩ (.slice a1 k1 c1)).setCell ⟨w.heap.size, 2, none⟩ (.slice none 0 0)).setCell ⟨w.heap.size, 3, none⟩ (.slice a3 k3 c3)) = WF at gf kf ⊢; obtain ⟨p0, p1, p2, p3⟩ := cells4 gf; have FN := HD.out.fin ((((Kept.refl (only w.heap.size) wr).drew)).trans kf); have ln := HD.out.len; exact bodyPost_ret (v := .tuple #[.agg #[.bool false, .slice a1 k1 c1, .slice none 0 0, .slice a3 k3 c3], .bool ok]) (by simp [results, Tryd.results44, go_sem, p0, p1, p2, p3]) rfl ⟨_, rfl, ⟨_, _, _, rfl, FN.1, HDONE.out.1, HDONE.out.2, rfl, (by have := HL.out.1; exact this), Nat.zero_le _, (by have := HL.out.2.1; exact this), FN.2⟩⟩)
          | (have gf := fill4 (W := wr) (g := w.heap.size) (t := 25) HD.out.rs (.bool false) (.slice a1 k1 c1) (.slice none 0 0) (.slice a3 k3 c3); have kf := kept_fill4 (W := wr) (g := w.heap.size) (.bool false) (.slice a1 k1 c1) (.slice none 0 0) (.slice a3 k3 c3); generalize ((((wr.setCell ⟨w.heap.size, 0, none⟩ (.bool false)).setCell ⟨w.heap.size, 1, none⟩ (.slice a1 k1 c1)).setCell ⟨w.heap.size, 2, none⟩ (.slice none 0 0)).setCell ⟨w.heap.size, 3, none⟩ (.slice a3 k3 c3)) = WF at gf kf ⊢; obtain ⟨p0, p1, p2, p3⟩ := cells4 gf; have FN := HD.out.fin kf; have ln := HD.out.len; exact bodyPost_ret (v := .tuple #[.agg #[.bool false, .slice a1 k1 c1, .slice none 0 0, .slice a3 k3 c3], .bool ok]) (by simp [results, Tryd.results44, go_sem, p0, p1, p2, p3]) rfl ⟨_, rfl, ⟨_, _, _, rfl, (fun W'' k'' => FN.1 W'' (((Kept.refl _ _).drew).trans k'')), HDONE.out.1, HDONE.out.2, rfl, (by have := HL.out.1; exact this), Nat.zero_le _, (by have := HL.out.2.1; exact this), FN.2.drew⟩⟩)
    · have hl1 : ¬ (k1 : Int) < (c : Int) := by omega
      obtain ⟨d, hd⟩ : ∃ d, rdone st = d := ⟨_, rfl⟩
      obtain ⟨ok, qd⟩ : ∃ ok, (d == 0) = ok := ⟨_, rfl⟩
      have qd2 : decide (d = 0) = ok := by rw [← qd]; rfl
      have HDn := hidden (fun g W (h : Rd g st W) => rDone h)
      rw [hd] at HDn
      have hdn := HL.out.done (.inr (by have := LK.out.1; omega))
      rw [hd] at hdn
      have HDONE : Hid ((ok = true → pN false c s = some (⟨false, K, [], Z⟩, [])) ∧ (ok = false → ∀ m, pN false c s ≠ some (m, []))) := hidden ⟨fun h => hdn.1 (by rw [← qd] at h; simpa using h), fun h => hdn.2 (by rw [← qd] at h; simpa using h)⟩
      obtain ⟨z0, z1, z2, z3⟩ := cells4 HD.out.rs
      obtain ⟨f0, f1, f2, f3⟩ := free4 HD.out.rs
      clear hd hdn
      go_wp2
      go_region_law (refine step_call rfl 74 #[.pointer (some ⟨w.heap.size + 1 + 1, 0, none⟩)] (fun u W => u = .int .i64 d ∧ wr.drew = W) (by go_simp; try rfl) ((HDn.out _ _ (HR.out.kept (S := fun _ => False) ((Kept.refl _ _).drew) (fun h => h))).mono (fun e w' ⟨h1, h2⟩ => ⟨_, h1, rfl, h2⟩)) ?_; rintro u w3 ⟨rfl, rfl⟩)
      all_goals
        go_wp2
        first
        | (have gf := fill4 (W := wr.drew) (g := w.heap.size) (t := 25) HD.out.rs (.bool false) (.slice a1 k1 c1) (.slice none 0 0) (.slice a3 k3 c3); have kf := kept_fill4 (W := wr.drew) (g := w.heap.size) (.bool false) (.slice a1 k1 c1) (.slice none 0 0) (.slice a3 k3 c3); generalize ((((wr.drew.setCell ⟨w.heap.size, 0, none⟩ (.bool false)).setCell ⟨w.heap.size, 1, none⟩ (.slice a1 k1 c1)).setCell ⟨w.heap.size, 2, none⟩ (.slice none 0 0)).setCell ⟨w.heap.size, 3, none⟩ (.slice a3 k3 c3)) = WF at gf kf ⊢; obtain ⟨p0, p1, p2, p3⟩ := cells4 gf; have FN := HD.out.fin ((((Kept.refl (only w.heap.size) wr).drew)).trans kf); have ln := HD.out.len; exact bodyPost_ret (v := .tuple #[.agg #[.bool false, .slice a1 k1 c1, .slice none 0 0, .slice a3 k3 c3], .bool ok]) (by simp [results, Tryd.results44, go_sem, p0, p1, p2, p3]) rfl ⟨_, rfl, ⟨_, _, _, rfl, FN.1, HDONE.out.1, HDONE.out.2, rfl, (by have := HL.out.1; exact this), Nat.zero_le _, (by have := HL.out.2.1; exact this), FN.2⟩⟩)
        | (have gf := fill4 (W := wr) (g := w.heap.size) (t := 25) HD.out.rs (.bool false) (.slice a1 k1 c1) (.slice none 0 0) (.slice a3 k3 c3); have kf := kept_fill4 (W := wr) (g := w.heap.size) (.bool false) (.slice a1 k1 c1) (.slice none 0 0) (.slice a3 k3 c3); generalize ((((wr.setCell ⟨w.heap.size, 0, none⟩ (.bool false)).setCell ⟨w.heap.size, 1, none⟩ (.slice a1 k1 c1)).setCell ⟨w.heap.size, 2, none⟩ (.slice none 0 0)).setCell ⟨w.heap.size, 3, none⟩ (.slice a3 k3 c3)) = WF at gf kf ⊢; obtain ⟨p0, p1, p2, p3⟩ := cells4 gf; have FN := HD.out.fin kf; have ln := HD.out.len; exact bodyPost_ret (v := .tuple #[.agg #[.bool false, .slice a1 k1 c1, .slice none 0 0, .slice a3 k3 c3], .bool ok]) (by simp [results, Tryd.results44, go_sem, p0, p1, p2, p3]) rfl ⟨_, rfl, ⟨_, _, _, rfl, (fun W'' k'' => FN.1 W'' (((Kept.refl _ _).drew).trans k'')), HDONE.out.1, HDONE.out.2, rfl, (by have := HL.out.1; exact this), Nat.zero_le _, (by have := HL.out.2.1; exact this), FN.2.drew⟩⟩)
end Go.Proofs.YtpjgghalnkfdkaaDoor
