/- The document's Runs. -/
import Derived.Test.YtbmbdidmbdanmaaDoorAppR
namespace Go.Proofs.YtbmbdidmbdanmaaDoor
open Go.RowKit Go.Shelf
set_option linter.unusedVariables false
set_option linter.unusedSimpArgs false
variable {zp : Spare}
/-- Runs as cells. -/
def flA (first : Nat) (l : List (Nat × Nat)) : List Value := l.flatMap fun r => [Value.int .i64 ((first : Int) + (r.1 : Int)), .int .i64 (r.2 : Int)]
theorem flA_app (first : Nat) (a b : List (Nat × Nat)) : flA first (a ++ b) = flA first a ++ flA first b := List.flatMap_append
theorem flA_one (first a n : Nat) : flA first [(a, n)] = [.int .i64 ((first : Int) + (a : Int)), .int .i64 (n : Int)] := rfl
theorem flA_cons (first : Nat) (r : Nat × Nat) (l : List (Nat × Nat)) : flA first (r :: l) = .int .i64 ((first : Int) + (r.1 : Int)) :: .int .i64 (r.2 : Int) :: flA first l := rfl
theorem flA_len (first : Nat) : ∀ l : List (Nat × Nat), (flA first l).length = l.length * 2
  | [] => rfl
  | r :: l => by rw [flA_cons]; simp [flA_len first l]; omega
theorem flA_at (first : Nat) : ∀ (l : List (Nat × Nat)) (i : Nat) (h : i < l.length), (flA first l)[i * 2]? = some (.int .i64 ((first : Int) + (l[i].1 : Int))) ∧ (flA first l)[i * 2 + 1]? = some (.int .i64 (l[i].2 : Int))
  | r :: l, 0, h => by simp [flA_cons]
  | r :: l, i + 1, h => by
    have := flA_at first l i (by simpa using h)
    rw [flA_cons, show (i + 1) * 2 = i * 2 + 1 + 1 by omega]
    simpa using this
theorem rp_app {t : Nat → Bool} {i a n : Nat} {l : List (Nat × Nat)} (h : t i = false) (hl : rp t i = l ++ [(a, n)]) (he : ¬ a + n = i) : rp t (i + 1) = l ++ [(a, n)] ++ [(i, 1)] := by
  rw [rp_succ, h, hl]
  simp [he]
theorem rp_first {t : Nat → Bool} {i : Nat} (h : t i = false) (hl : rp t i = []) : rp t (i + 1) = [(i, 1)] := by
  rw [rp_succ, h, hl]
  rfl
theorem rp_len (t : Nat → Bool) : ∀ i, (rp t i).length ≤ i
  | 0 => by simp [rp]
  | i + 1 => by
    have := rp_len t i
    rw [rp_succ]
    split
    · omega
    · split
      · split
        · simp; omega
        · simp; omega
      · simp
theorem own_free {w : World} {B g n m cap i s : Nat} {e : TypeId} {xs : List Value} (h : w.ownsRow B e s (.slice (some ⟨g, 0, none⟩) n cap) m xs) : w.frozen? ⟨g, i, none⟩ = false := by
  rcases h.2 with ⟨h2, _⟩ | ⟨g', cap', cur, hv, hb, hg, _⟩
  · cases h2
  · obtain ⟨rfl, _⟩ : g = g' ∧ _ := by simpa using hv
    exact blk_free hg
theorem own_formR {w : World} {B n c s : Nat} {a : Option Addr} {e : TypeId} {xs : List Value} (h : w.ownsRow B e s (.slice a n c) n xs) (hn : 0 < n) : ∃ g, a = some ⟨g, 0, none⟩ ∧ B ≤ g := by
  rcases h.2 with ⟨h2, h3⟩ | ⟨g', cap', cur, hv, hb, hg, _⟩
  · exact absurd h3 (by omega)
  · obtain ⟨rfl, _⟩ : a = _ ∧ _ := by simpa using hv
    exact ⟨g', rfl, hb⟩
theorem own_cellN {w : World} {B g n cap i : Nat} {e : TypeId} {xs : List Value} (h : w.ownsRow B e 2 (.slice (some ⟨g, 0, none⟩) n cap) n xs) (u : Value) (hu : xs[i]? = some u) : w.cell? ⟨g, i, none⟩ = some u := by
  have h1 := h.cells (g := g) rfl i u hu
  rw [add_plain, Nat.zero_add] at h1
  exact h1
theorem lies_two (w : World) (x y : Value) (T : TypeId) : ∀ j u, [x, y][j]? = some u → (w.alloc (.cells #[x, y] T)).cell? ((⟨w.heap.size, 0, none⟩ : Addr).add j) = some u
  | 0, u, h => by rw [add_plain]; simp at h; rw [← h]; exact blk_cell (blk_new w _)
  | 1, u, h => by rw [add_plain]; simp at h; rw [← h]; exact blk_cell (blk_new w _)
  | j + 2, u, h => by simp at h
theorem own_setN {w : World} {B g n cap i : Nat} {e : TypeId} {xs : List Value} (h : w.ownsRow B e 2 (.slice (some ⟨g, 0, none⟩) n cap) n xs) (u : Value) :
    (w.setCell ⟨g, i, none⟩ u).ownsRow B e 2 (.slice (some ⟨g, 0, none⟩) n cap) n (xs.set i u) := by
  obtain ⟨h1, h2⟩ := h
  refine ⟨by simpa using h1, ?_⟩
  rcases h2 with ⟨h2, _⟩ | ⟨g', cap', cur, hv, hb, hg, hn, hc, hs, ht⟩
  · cases h2
  · obtain ⟨rfl, rfl⟩ : g = g' ∧ cap = cap' := by simpa using hv
    refine Or.inr ⟨g, cap, cur.setIfInBounds i u, rfl, hb, blk_set hg u, hn, hc, by simpa using hs, ?_⟩
    rw [Array.toList_setIfInBounds, List.take_set, ht]
theorem flA_last (first a n : Nat) (l : List (Nat × Nat)) (u : Nat) : (flA first (l ++ [(a, n)])).set (l.length * 2 + 1) (.int .i64 (u : Int)) = flA first (l ++ [(a, u)]) := by
  rw [flA_app, flA_app, flA_one, flA_one, List.set_append]
  rw [if_neg (by rw [flA_len]; omega), flA_len, show l.length * 2 + 1 - l.length * 2 = 1 by omega]
  rfl
theorem infoAr : (Tryd.prog.info? 30).map (fun i => (i.zero, i.size, i.bytes)) = some (some (.agg #[.int .i64 0, .int .i64 0]), 2, 16) := by kernel_rfl
theorem wh_free {u v : Nat → Bool} {k : Nat} : (wh u v k = 0) ↔ (u k || v k) = false := by
  cases e1 : u k <;> cases e2 : v k <;> simp [wh, e1, e2]
set_option maxHeartbeats 4000000 in
set_option maxRecDepth 100000 in
theorem rf_runs (q r first count : Nat) (u v : Nat → Bool) (res : Nat) (w : World) (h : RfAt zp q r first count u v res w) (hf : first + count ≤ 4096) :
    Calls Tryd.prog 54 #[.pointer (some ⟨q, 0, none⟩)] w fun e w' => ∃ a n c, e = .returned (.slice a n c) ∧ n = (rp (fun i => u i || v i) count).length ∧ w'.ownsRow w.heap.size 30 2 (.slice a n c) n (flA first (rp (fun i => u i || v i) count)) ∧ Same w w' := by
  have HH := hidden (fun W (k : Same w W) => h.kept k (fun h => h) (fun h => h))
  have c1 : w.cell? ⟨q, 1, none⟩ = some (.slice (some ⟨r, 0, none⟩) count zp.cap) := blk_cell h.box
  obtain ⟨i0, hi0, hz0, hz1, hz2⟩ := info_parts infoAr
  obtain ⟨t, ht⟩ : ∃ t : Nat → Bool, t = fun i => u i || v i := ⟨_, rfl⟩
  have HTT := hidden (fun k => congrFun ht k)
  rw [← ht]
  clear h ht
  go_enter Tryd.func54, Tryd.ntmps54
  go_wp2
  go_loopw [12, 3] (fun x y wr => ∃ (k n c : Nat) (a : Option Addr), k ≤ count ∧ x = .int .i64 k ∧ y = .slice a n c ∧ n = (rp t k).length ∧ wr.ownsRow w.heap.size 30 2 (.slice a n c) n (flA first (rp t k)) ∧ Same w wr) (fun x _ _ => count - (intOf x).toNat)
  case atStart => exact ⟨0, 0, 0, none, Nat.zero_le _, rfl, rfl, rfl, World.ownsRow_nil _ _ _ _, Kept.refl _ _⟩
  case round =>
    obtain ⟨k, n, c, a, hk, rfl, rfl, hn, hO, hK⟩ := hrel
    have hR := HH.out _ hK
    have c0 : wr.cell? ⟨q, 0, none⟩ = some (.int .i64 first) := blk_cell hR.box
    have HR := hidden hR
    have HO := hidden hO
    have HK := hidden hK
    have HN := hidden hn
    have nl : n ≤ k := by rw [hn]; exact rp_len t k
    clear hR hO hK hn
    by_cases hlt : k < count
    · obtain ⟨z, hz⟩ : ∃ z, wh u v k = z := ⟨_, rfl⟩
      have rr : wr.cell? ⟨r, k, none⟩ = some (.int .i64 z) := by rw [blk_cell HR.out.rowA, rwA_at _ _ hlt, hz]
      have HZ := hidden hz
      clear hz
      have w4 : IntKind.i64.wrap ((k : Int) + 1) = (k : Int) + 1 := by rw [IntKind.wrap_i64]; omega
      have y4 : (0 : Int) ≤ (k : Int) := Int.natCast_nonneg _
      have y5 : (k : Int) < (count : Int) := by omega
      by_cases hz0' : z = 0
      · have hfree : t k = false := by rw [HTT.out k]; exact wh_free.1 (HZ.out.trans hz0')
        obtain ⟨F, hF⟩ : ∃ F : Int, F = (first : Int) + (k : Int) := ⟨_, rfl⟩
        have w5 : IntKind.i64.wrap ((first : Int) + (k : Int)) = F := by rw [IntKind.wrap_i64]; omega
        by_cases hn0 : n = 0
        · subst hn0
          have e0 : rp t k = [] := List.length_eq_zero_iff.1 HN.out.symm
          have HE := hidden e0
          have t1 : True := trivial
          have hFF := hidden hF
          clear e0 hF
          go_wp2
          go_quiet (fail)
          have k1 := (Kept.refl (fun _ => False) wr).drewN nq
          have O1 := hidden (own_kept HO.out k1 (fun _ _ h => h))
          have K1 := hidden (HK.out.trans k1)
          have c9 : (wr.drewN nq).cell? ⟨q, 0, none⟩ = some (.int .i64 first) := k1.cell (fun h => h) c0
          clear k1 c0 rr
          generalize wr.drewN nq = w1 at *
          go_wp2_with (have _t := t1; refine wpList_append_any rfl _ _ 77 rfl w.heap.size 30 i0 _ 2 16 Tryd.underlying77 hi0 hz0 hz1 hz2 rfl (by decide) _ 0 c (flA first (rp t k)) rfl (O1.out.alloc _) (some ⟨w1.heap.size, 0, none⟩) 1 1 [.int .i64 F, .int .i64 1] rfl rfl (lies_of (lies_two w1 _ _ _)) (by intro u hu; simp at hu; rcases hu with rfl | rfl <;> rfl) (by decide) (by decide) (by have := K1.out.size; simp; omega) ?_; intro a2 c2 w2 ho2 hg2; clear t1; have O2 := hidden ho2; have K2 := hidden (same_grown (m := 0) (K1.out.alloc _) (O1.out.alloc _) hg2); clear ho2 hg2)
          go_roundw
          case rel =>
            refine ⟨k + 1, 1, c2, a2, by omega, by go_num, rfl, ?_, ?_, K2.out⟩
            · rw [rp_first hfree HE.out]; rfl
            · have := O2.out
              rw [HE.out] at this
              rw [rp_first hfree HE.out, flA_one]
              rw [hFF.out] at this
              exact this
          case measure => simp [intOf]; omega
        · rcases List.eq_nil_or_concat (rp t k) with e | ⟨l, x, e⟩
          · exact absurd (by rw [HN.out, e]; rfl) hn0
          obtain ⟨pa, pm⟩ := x
          rw [List.concat_eq_append] at e
          have he := (rp_ends t k (pa, pm) (by rw [e]; simp)).1
          have hel : n = l.length + 1 := by rw [HN.out, e]; simp
          obtain ⟨g, rfl, hg⟩ := own_formR HO.out (by omega)
          have hpl : pa + pm ≤ k := he
          obtain ⟨n1, hn1⟩ : ∃ n1, n1 = l.length := ⟨_, rfl⟩
          have cA : wr.cell? ⟨g, n1 * 2, none⟩ = some (.int .i64 ((first : Int) + (pa : Int))) := own_cellN HO.out _ (by rw [e, hn1]; have := (flA_at first (l ++ [(pa, pm)]) l.length (by simp)).1; simpa using this)
          have cB : wr.cell? ⟨g, n1 * 2 + 1, none⟩ = some (.int .i64 (pm : Int)) := own_cellN HO.out _ (by rw [e, hn1]; have := (flA_at first (l ++ [(pa, pm)]) l.length (by simp)).2; simpa using this)
          have fB : wr.frozen? ⟨g, n1 * 2 + 1, none⟩ = false := own_free HO.out
          have m1 : IntKind.i64.wrap ((n : Int) - 1) = (n1 : Int) := by rw [IntKind.wrap_i64]; omega
          have y7 : (0 : Int) < (n : Int) := by omega
          have y7d : decide ((0 : Int) < (n : Int)) = true := by simp; omega
          have y7e : decide (0 < n) = true := by simp; omega
          have y8 : (0 : Int) ≤ (n1 : Int) := Int.natCast_nonneg _
          have y9 : (n1 : Int) < (n : Int) := by omega
          have HE := hidden e
          have HN1 := hidden hn1
          have hn2 : 1 ≤ n := by omega
          clear e he hel hn1
          by_cases hjoin : pa + pm = k
          · have w6 : IntKind.i64.wrap ((first : Int) + (pa : Int) + (pm : Int)) = F := by rw [IntKind.wrap_i64]; omega
            have w7 : IntKind.i64.wrap ((pm : Int) + 1) = (pm : Int) + 1 := by rw [IntKind.wrap_i64]; omega
            have hFF := hidden hF
            have HJ := hidden hjoin
            clear hF hjoin
            go_wp2
            go_quiet (fail)
            have k1 := (Kept.refl (fun _ => False) wr).drewN nq
            have O1 := hidden (own_kept HO.out k1 (fun _ _ h => h))
            have K1 := hidden (HK.out.trans k1)
            have cC : (wr.drewN nq).cell? ⟨g, n1 * 2 + 1, none⟩ = some (.int .i64 (pm : Int)) := k1.cell (fun h => h) cB
            have fC : (wr.drewN nq).frozen? ⟨g, n1 * 2 + 1, none⟩ = false := own_free O1.out
            clear k1 c0 rr cA cB fB
            generalize wr.drewN nq = w1 at *
            go_wp2
            go_roundw
            case rel =>
              refine ⟨k + 1, n, c, some ⟨g, 0, none⟩, by omega, by go_num, rfl, ?_, ?_, K1.out.setNew (p := ⟨g, n1 * 2 + 1, none⟩) hg _⟩
              · rw [rp_more hfree HE.out HJ.out, HN.out, HE.out]; simp
              · have := own_setN (i := n1 * 2 + 1) O1.out (.int .i64 ((pm + 1 : Nat) : Int))
                rw [HE.out, HN1.out, flA_last] at this
                rw [rp_more hfree HE.out HJ.out, HN1.out]
                exact this
            case measure => simp [intOf]; omega
          · obtain ⟨E, hE⟩ : ∃ E : Int, E = (first : Int) + (pa : Int) + (pm : Int) := ⟨_, rfl⟩
            have w6 : IntKind.i64.wrap ((first : Int) + (pa : Int) + (pm : Int)) = E := by rw [IntKind.wrap_i64]; omega
            have hne : ¬ E = F := by omega
            have hned : decide (E = F) = false := by simp; omega
            have hFF := hidden hF
            have t1 : True := trivial
            clear hF hE
            go_wp2
            go_quiet (fail)
            have k1 := (Kept.refl (fun _ => False) wr).drewN nq
            have O1 := hidden (own_kept HO.out k1 (fun _ _ h => h))
            have K1 := hidden (HK.out.trans k1)
            have c9 : (wr.drewN nq).cell? ⟨q, 0, none⟩ = some (.int .i64 first) := k1.cell (fun h => h) c0
            clear k1 c0 rr cA cB fB
            generalize wr.drewN nq = w1 at *
            go_wp2_with (have _t := t1; refine wpList_append_any rfl _ _ 77 rfl w.heap.size 30 i0 _ 2 16 Tryd.underlying77 hi0 hz0 hz1 hz2 rfl (by decide) _ n c (flA first (rp t k)) rfl (O1.out.alloc _) (some ⟨w1.heap.size, 0, none⟩) 1 1 [.int .i64 F, .int .i64 1] rfl rfl (lies_of (lies_two w1 _ _ _)) (by intro u hu; simp at hu; rcases hu with rfl | rfl <;> rfl) (by unfold maxLen; omega) (by omega) (by have := K1.out.size; simp; omega) ?_; intro a2 c2 w2 ho2 hg2; clear t1; have O2 := hidden ho2; have K2 := hidden (same_grown (m := 0) (K1.out.alloc _) (O1.out.alloc _) hg2); clear ho2 hg2)
            go_roundw
            case rel =>
              refine ⟨k + 1, n + 1, c2, a2, by omega, by go_num, rfl, ?_, ?_, K2.out⟩
              · rw [rp_app hfree HE.out hjoin, HN.out, HE.out]; simp
              · have := O2.out
                rw [hFF.out] at this
                rw [rp_app hfree HE.out hjoin, flA_app, flA_one, ← HE.out]
                exact this
            case measure => simp [intOf]; omega
      · have hbusy : t k = true := by
          rw [HTT.out k]
          cases e : (u k || v k) with
          | true => rfl
          | false => exact absurd (HZ.out.symm.trans (wh_free.2 e)) hz0'
        go_wp2
        go_roundw
        case rel => exact ⟨k + 1, n, c, a, by omega, by go_num, rfl, by rw [rp_set hbusy]; exact HN.out, by rw [rp_set hbusy]; exact HO.out, HK.out⟩
        case measure => simp [intOf]; omega
    · have he : k = count := by omega
      subst he
      have y5 : ¬ (k : Int) < (k : Int) := by omega
      go_wp2
      go_returns
      exact ⟨a, n, c, rfl, HN.out, HO.out, HK.out⟩
end Go.Proofs.YtbmbdidmbdanmaaDoor
