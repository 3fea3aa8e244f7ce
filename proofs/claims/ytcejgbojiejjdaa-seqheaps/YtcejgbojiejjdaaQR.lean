/- The document's Sort, walked. -/
import Derived.Test.YtcejgbojiejjdaaQS
import Derived.Test.YtcejgbojiejjdaaHqI
import Derived.Deep.RegionHeld3
namespace Go.Proofs.Ytcejgbojiejjdaa
open Go.RowKit
set_option linter.unusedVariables false
theorem app0 (a : Option Addr) (n c : Nat) (b : Option Addr) (d : Nat) (h : n ≤ c) (ty : TypeId) (W : World) : (Builtin.append_ #[22, 22] ty #[.slice a n c, .slice b 0 d]).run Try.prog W = .ok (.slice a n c) W := by
  obtain ⟨i0, hi, hz0, hz1, hz2⟩ := info_parts infoInt
  have hn0 : ¬ c < n := by omega
  cases a
  · cases b
    · simp [Builtin.append_, run_underlying Try.underlying22, sizeOf, typeInfo, hi, Builtin.lenOf, Builtin.firstCells, h]
    · simp [Builtin.append_, run_underlying Try.underlying22, sizeOf, typeInfo, hi, Builtin.lenOf, Builtin.firstCells, loadCells, loadCellsFrom, h]
  · cases b
    · simp [Builtin.append_, run_underlying Try.underlying22, sizeOf, typeInfo, hi, Builtin.lenOf, Builtin.firstCells, h, storeCells]
    · simp [Builtin.append_, run_underlying Try.underlying22, sizeOf, typeInfo, hi, Builtin.lenOf, Builtin.firstCells, loadCells, loadCellsFrom, h, storeCells]
theorem ownsRow_drew {w : World} {base : Nat} {e : TypeId} {size : Nat} {v : Value} {n : Nat} {xs : List Value} (h : w.ownsRow base e size v n xs) : w.drew.ownsRow base e size v n xs := h
theorem grown_heap' {w w' w2 : World} {row : Option Nat} (h : w'.heap = w.heap) (h1 : w'.os = w.os) (h2 : w'.tape = w.tape) (h3 : w'.output = w.output) (hg : w'.grownBy w2 row) : w.grownBy w2 row :=
  ⟨hg.os.trans h1, hg.tape.trans h2, hg.output.trans h3, by rw [← h]; exact hg.size, fun k hk hr => by rw [← h]; exact hg.block k (by rw [h]; exact hk) hr⟩
def SI (o : List Int) : Prop := o.Pairwise (· ≤ ·)
theorem si_ins {o : List Int} {t : Nat} {x : Int} (h : SI o) (ht : t ≤ o.length) (h1 : ∀ j (hj : j < o.length), j < t → o[j] ≤ x) (h2 : ∀ j (hj : j < o.length), t ≤ j → x < o[j]) : SI (o.take t ++ x :: o.drop t) := by
  unfold SI at *
  rw [List.pairwise_append, List.pairwise_cons]
  refine ⟨h.sublist (List.take_sublist _ _), ⟨fun a ha => ?_, h.sublist (List.drop_sublist _ _)⟩, fun a ha b hb => ?_⟩
  · obtain ⟨j, hj, rfl⟩ := List.getElem_of_mem ha
    rw [List.getElem_drop]
    simp at hj
    exact Int.le_of_lt (h2 _ (by omega) (by omega))
  · obtain ⟨j, hj, rfl⟩ := List.getElem_of_mem ha
    simp at hj
    rw [List.getElem_take]
    have e1 := h1 j (by omega) (by omega)
    rcases List.mem_cons.1 hb with rfl | hb
    · exact e1
    · obtain ⟨i, hi, rfl⟩ := List.getElem_of_mem hb
      simp at hi
      rw [List.getElem_drop]
      have := h2 (t + i) (by omega) (by omega)
      omega
theorem ins_perm (o : List Int) (t : Nat) (x : Int) : (o.take t ++ x :: o.drop t).Perm (x :: o) := by
  refine List.perm_middle.trans (List.Perm.cons x ?_)
  rw [List.take_append_drop]
/-- Ints of a row of one's own, read. -/
theorem own_cap {w : World} {B g n cap s : Nat} {e : TypeId} {xs : List Value} (h : w.ownsRow B e s (.slice (some ⟨g, 0, none⟩) n cap) n xs) : n ≤ cap := by
  rcases h.2 with ⟨h2, _⟩ | ⟨g', cap', cur, hv, hb, hg, hn, _⟩
  · cases h2
  · obtain ⟨rfl, rfl⟩ : g = g' ∧ cap = cap' := by simpa using hv
    omega
theorem own_cap0 {w : World} {B n cap s : Nat} {a : Option Addr} {e : TypeId} {xs : List Value} (h : w.ownsRow B e s (.slice a n cap) n xs) : n ≤ cap := by
  rcases h.2 with ⟨_, h2⟩ | ⟨g', cap', cur, hv, hb, hg, hn, _⟩
  · omega
  · obtain ⟨_, rfl⟩ : a = _ ∧ cap = cap' := by simpa using hv
    omega
theorem own_ints {w : World} {B g n cap : Nat} {o : List Int} (h : w.ownsRow B 3 1 (.slice (some ⟨g, 0, none⟩) n cap) n (o.map kI)) : ∀ j (hj : j < o.length), w.cell? ⟨g, j, none⟩ = some (.int .i64 o[j]) := fun j hj => (own_cell h (i := j) (kI o[j]) (by rw [List.getElem?_map, List.getElem?_eq_getElem hj]; rfl)).1
structure SortT (l : List Int) (w : World) (u : Value) (w' : World) : Prop where
  ex : ∃ o : List Int, w'.ownsRow w.heap.size 3 1 u o.length (o.map kI) ∧ o.Perm l ∧ SI o ∧ Same w w'
set_option maxHeartbeats 8000000 in
set_option maxRecDepth 100000 in
theorem sort_any (v : Value) (l : List Int) (w : World) (hl : Ints w v l) (hsl : (l.length + 1) * 8 ≤ 140737488355328) :
    Calls Try.prog 17 #[v] w fun e w' => ∃ u, e = .returned u ∧ SortT l w u w' := by
  obtain ⟨a0, c0, rfl⟩ := hl.form
  have HL : Hid (∀ W, Same w W → ∀ j (hj : j < l.length), ∃ a, a0 = some a ∧ W.cell? (a.add j) = some (.int .i64 l[j])) := fun W k j hj => by
    rcases hl with ⟨_, h⟩ | ⟨a, cap, e, hc⟩
    · rw [h] at hj; simp at hj
    · simp only [Value.slice.injEq] at e
      exact ⟨a, e.1, Kept.cell k (fun h => h) (hc j hj)⟩
  obtain ⟨i0, hi, hz0, hz1, hz2⟩ := info_parts infoInt
  obtain ⟨n, hn⟩ : ∃ n, l.length = n := ⟨_, rfl⟩
  rw [hn] at hsl
  have HN := hidden hn
  rw [hn]
  clear hl hn
  go_enter Try.func17, Try.ntmps17
  go_wp2
  go_loopw [3, 10] (fun ov iv wr => ∃ (k : Nat) (o : List Int) (a : Option Addr) (c : Nat), k ≤ n ∧ iv = .int .i64 k ∧ ov = .slice a k c ∧ (k = 0 → a = none ∧ c = 0) ∧ o.length = k ∧ wr.ownsRow w.heap.size 3 1 (.slice a k c) k (o.map kI) ∧ o.Perm (l.take k) ∧ SI o ∧ Same w wr) (fun ov iv wr => n - (intOf iv).toNat)
  case atStart => exact ⟨0, [], none, 0, Nat.zero_le _, rfl, rfl, (fun _ => ⟨rfl, rfl⟩), rfl, World.ownsRow_nil _ _ _ _, by simp, List.Pairwise.nil, Kept.refl _ _⟩
  case round =>
    obtain ⟨k, o, a, c, hk, rfl, rfl, hz, ho, hR, hP, hI, hK⟩ := hrel
    have HZ0 := hidden hz
    clear hz
    have HO := hidden ho
    have HR := hidden hR
    have HP := hidden hP
    have HI0 := hidden hI
    have HK := hidden hK
    have hsz := hK.size
    clear ho hR hP hI hK
    by_cases h1 : k < n
    · obtain ⟨ad, rfl, hcell⟩ := HL.out wr HK.out k (by rw [HN.out]; exact h1)
      obtain ⟨x, hx⟩ : ∃ x, l[k]'(by rw [HN.out]; exact h1) = x := ⟨_, rfl⟩
      rw [hx] at hcell
      have HX := hidden hx
      have q1 : (k : Int) < (n : Int) := by omega
      have q0 : (0 : Int) ≤ (k : Int) := Int.natCast_nonneg _
      have HTK1 : Hid (∀ (o2 : List Int) (t : Nat), o2 = o.take t ++ x :: o.drop t → t ≤ k → (∀ j (hj : j < o.length), j < t → o[j] ≤ x) → (∀ j (hj : j < o.length), t ≤ j → x < o[j]) → o2.length = k + 1 ∧ o2.Perm (l.take (k + 1)) ∧ SI o2) := fun o2 t e ht h1' h2' => by
        subst e
        refine ⟨by have := HO.out; simp; omega, ?_, si_ins HI0.out (by rw [HO.out]; exact ht) h1' h2'⟩
        refine (ins_perm o t x).trans ((List.Perm.cons x HP.out).trans ?_)
        rw [List.take_succ_eq_append_getElem (by rw [HN.out]; exact h1), HX.out]
        exact List.perm_append_comm (l₁ := [x])
      clear hx
      have hdst : k = 0 ∨ ∃ b : Nat, a = some ⟨b, 0, none⟩ := by
        rcases HR.out.2 with ⟨_, e⟩ | ⟨b, cap', cur, e, _⟩
        · exact Or.inl e
        · simp only [Value.slice.injEq] at e; exact Or.inr ⟨b, e.1⟩
      have HD := hidden hdst
      clear hdst
      go_wp2
      go_loop [6] (fun tv => ∃ t : Nat, t ≤ k ∧ tv = .int .i64 t ∧ ∀ j (hj : j < o.length), t ≤ j → x < o[j]) (fun tv => (intOf tv).toNat)
      case atStart => exact ⟨k, Nat.le_refl _, rfl, fun j hj h => by rw [HO.out] at hj; omega⟩
      case round =>
        obtain ⟨t, ht, rfl, hgt⟩ := hrel
        have HG := hidden hgt
        clear hgt
        by_cases h0 : 0 < t
        · obtain ⟨p, hp⟩ : ∃ p, p + 1 = t := ⟨t - 1, by omega⟩
          obtain ⟨b, rfl⟩ := HD.out.resolve_left (by omega)
          have hpo : p < o.length := by rw [HO.out]; omega
          have hcp := own_ints HR.out p hpo
          obtain ⟨y, hy⟩ : ∃ y, o[p] = y := ⟨_, rfl⟩
          rw [hy] at hcp
          have HY := hidden hy
          have q3 : (t : Int) - 1 = (p : Int) := by omega
          have q4 : (0 : Int) < (t : Int) := by omega
          have q5 : (p : Int) < (k : Int) := by omega
          have q6 : (0 : Int) ≤ (p : Int) := Int.natCast_nonneg _
          have hkc : k ≤ c := own_cap HR.out
          have q7 : (t : Int) ≤ (c : Int) := by omega
          have q8 : (t : Int) ≤ (k : Int) := by omega
          have HPT := hidden hp
          clear hy hp
          by_cases hxy : x < y
          · go_wp2
            go_round
            case rel => exact ⟨p, by omega, by first | rfl | (rw [q3]) | go_num, fun j hj h => by rcases Nat.lt_or_ge p j with h' | h'; (exact HG.out j hj (by have := HPT.out; omega)); (obtain rfl : j = p := by omega); rw [HY.out]; exact hxy⟩
            case measure => simp [intOf]; omega
          · have HLE : Hid (∀ j (hj : j < o.length), j < t → o[j] ≤ x) := fun j hj h => by
              have e1 : o[j] ≤ o[p] := by
                rcases Nat.lt_or_ge j p with h' | h'
                · exact List.pairwise_iff_getElem.1 HI0.out j p hj hpo h'
                · have := HPT.out
                  obtain rfl : j = p := by omega
                  exact Int.le_refl _
              rw [HY.out] at e1
              omega
            have HOC : Hid (∀ W, Same wr W → ∀ j u, (o.map kI)[j]? = some u → W.cell? ((⟨b, 0, none⟩ : Addr).add j) = some u) := fun W hW j u hu => (own_kept HR.out hW (fun _ _ h => h)).cells (g := b) rfl j u hu
            have HTK : Hid (∀ j u, ((o.take t).map kI)[j]? = some u → (o.map kI)[j]? = some u) := fun j u hu => by
              rw [List.map_take, List.getElem?_take] at hu
              split at hu
              · exact hu
              · cases hu
            have HDR : Hid (∀ W, Same wr W → ∀ j u, ((o.drop t).map kI)[j]? = some u → W.cell? ((⟨b, t, none⟩ : Addr).add j) = some u) := fun W hW j u hu => by
              rw [List.map_drop, List.getElem?_drop] at hu
              have := HOC.out W hW (t + j) u hu
              rw [add_none, Nat.zero_add] at this
              rw [add_none]
              exact this
            by_cases htk : t = k
            · subst htk
              by_cases hct : c = t
              · subst hct
                go_wp2_with (at_builtin; go_must (refine wpList_append_lies _ (by rfl) _ _ 22 (by rfl) w.heap.size 3 i0 _ 1 8 Try.underlying22 hi hz0 hz1 hz2 rfl (by decide) _ _ _ (by rfl) (World.ownsRow_made wr #[] 0 hsz (by decide) (by decide)) ⟨b, 0, none⟩ c c ((o.take c).map kI) (by rfl) (by rw [List.length_map, List.length_take, Nat.mul_one]; have := HO.out; omega) (fun j u hu => HOC.out _ (same_alloc wr _) j u (HTK.out j u hu)) (by intro u hu; obtain ⟨b, _, rfl⟩ := List.mem_map.1 hu; rfl) (by omega) (by unfold maxLen; omega) (by omega) (by simp; omega) (wr.heap.size + 1) (by simp) ?_; intro g1 c1 w1 hown hgrow hat hlt1); rw [Nat.zero_add, List.nil_append] at hown; have k1 : Same wr w1 := ((Kept.refl (fun _ => False) wr).alloc _).grown hgrow (fun q hk hl => by simp [Value.ownBlock] at hk; omega); have hg1 : wr.heap.size ≤ g1 := hat.elim (fun h => by simp [Value.ownBlock] at h; omega) (fun h => by omega); have O1 := hidden hown; have K1 := hidden k1; have hsz1 := k1.size; clear hown hgrow hat k1)
                have t1 : True := trivial
                go_wp2
                go_region_held3 (fun w' => True)
                  (exact trivial)
                  ((first
                    | (have _t := t1; go_must (refine step_append_lies _ (by rfl) _ _ 22 (by rfl) w.heap.size 3 i0 _ 1 8 Try.underlying22 hi hz0 hz1 hz2 rfl (by decide) _ _ _ (by rfl) (ownsRow_drew (O1.out.alloc _)) ⟨w1.heap.size, 0, none⟩ 1 1 [.int .i64 x] (by rfl) (by rfl) (World.news_of_block (show _ = _ from heap_alloc_new w1 (.cells #[.int .i64 x] 3))) (by simp [Value.oneCell']) (by decide) (by unfold maxLen; omega) (by omega) (by simp; omega) (w1.heap.size + 1) (by simp) ?_; intro g2 c2 w2 hown2 hgrow2 hat2 hlt2; have k2 : Same wr w2 := Kept.trans' K1.out (((Kept.refl (fun q => q = g1) w1).alloc _).grown (grown_heap' (w' := (w1.alloc _).drew) rfl rfl rfl rfl hgrow2) (fun q hk _ => by simp [Value.ownBlock] at hk; exact hk.symm)) (fun q hq e => by omega); have hc2 : c + 1 ≤ c2 := own_cap hown2; have O2 := hidden hown2; have K2 := hidden k2; have hsz2 := k2.size; have hap2 := fun b d ty (W : World) => app0 (some ⟨g2, 0, none⟩) (c + 1) c2 b d hc2 ty W; clear t1 hown2 hgrow2 hat2 k2))))
                go_wp2
                go_roundw
                case rel =>
                  obtain ⟨z1, z2, z3⟩ := HTK1.out (o.take c ++ x :: o.drop c) c rfl (by omega) HLE.out HG.out
                  have hz := O2.out
                  exact ⟨c + 1, _, some ⟨g2, 0, none⟩, c2, by omega, by go_num, by rfl, (fun h => by omega), z1, by rw [List.take_of_length_le (by rw [HO.out]; exact Nat.le_refl _), List.drop_of_length_le (by rw [HO.out]; exact Nat.le_refl _)]; rw [List.take_of_length_le (by rw [HO.out]; exact Nat.le_refl _)] at hz; simpa using hz, z2, z3, Kept.trans HK.out K2.out⟩
                case measure => simp [intOf]; omega
              · skip
                go_wp2_with (at_builtin; go_must (refine wpList_append_lies _ (by rfl) _ _ 22 (by rfl) w.heap.size 3 i0 _ 1 8 Try.underlying22 hi hz0 hz1 hz2 rfl (by decide) _ _ _ (by rfl) (World.ownsRow_made wr #[] 0 hsz (by decide) (by decide)) ⟨b, 0, none⟩ t c ((o.take t).map kI) (by rfl) (by rw [List.length_map, List.length_take, Nat.mul_one]; have := HO.out; omega) (fun j u hu => HOC.out _ (same_alloc wr _) j u (HTK.out j u hu)) (by intro u hu; obtain ⟨b, _, rfl⟩ := List.mem_map.1 hu; rfl) (by omega) (by unfold maxLen; omega) (by omega) (by simp; omega) (wr.heap.size + 1) (by simp) ?_; intro g1 c1 w1 hown hgrow hat hlt1); rw [Nat.zero_add, List.nil_append] at hown; have k1 : Same wr w1 := ((Kept.refl (fun _ => False) wr).alloc _).grown hgrow (fun q hk hl => by simp [Value.ownBlock] at hk; omega); have hg1 : wr.heap.size ≤ g1 := hat.elim (fun h => by simp [Value.ownBlock] at h; omega) (fun h => by omega); have O1 := hidden hown; have K1 := hidden k1; have hsz1 := k1.size; clear hown hgrow hat k1)
                have t1 : True := trivial
                go_wp2
                go_region_held3 (fun w' => True)
                  (exact trivial)
                  ((first
                    | (have _t := t1; go_must (refine step_append_lies _ (by rfl) _ _ 22 (by rfl) w.heap.size 3 i0 _ 1 8 Try.underlying22 hi hz0 hz1 hz2 rfl (by decide) _ _ _ (by rfl) (ownsRow_drew (O1.out.alloc _)) ⟨w1.heap.size, 0, none⟩ 1 1 [.int .i64 x] (by rfl) (by rfl) (World.news_of_block (show _ = _ from heap_alloc_new w1 (.cells #[.int .i64 x] 3))) (by simp [Value.oneCell']) (by decide) (by unfold maxLen; omega) (by omega) (by simp; omega) (w1.heap.size + 1) (by simp) ?_; intro g2 c2 w2 hown2 hgrow2 hat2 hlt2; have k2 : Same wr w2 := Kept.trans' K1.out (((Kept.refl (fun q => q = g1) w1).alloc _).grown (grown_heap' (w' := (w1.alloc _).drew) rfl rfl rfl rfl hgrow2) (fun q hk _ => by simp [Value.ownBlock] at hk; exact hk.symm)) (fun q hq e => by omega); have hc2 : t + 1 ≤ c2 := own_cap hown2; have O2 := hidden hown2; have K2 := hidden k2; have hsz2 := k2.size; have hap2 := fun b d ty (W : World) => app0 (some ⟨g2, 0, none⟩) (t + 1) c2 b d hc2 ty W; clear t1 hown2 hgrow2 hat2 k2))))
                go_wp2
                go_roundw
                case rel =>
                  obtain ⟨z1, z2, z3⟩ := HTK1.out (o.take t ++ x :: o.drop t) t rfl (by omega) HLE.out HG.out
                  have hz := O2.out
                  exact ⟨t + 1, _, some ⟨g2, 0, none⟩, c2, by omega, by go_num, by rfl, (fun h => by omega), z1, by rw [List.take_of_length_le (by rw [HO.out]; exact Nat.le_refl _), List.drop_of_length_le (by rw [HO.out]; exact Nat.le_refl _)]; rw [List.take_of_length_le (by rw [HO.out]; exact Nat.le_refl _)] at hz; simpa using hz, z2, z3, Kept.trans HK.out K2.out⟩
                case measure => simp [intOf]; omega
            · have htl : t < k := by omega
              have hcne : ¬ c = t := by omega
              go_wp2_with (at_builtin; go_must (refine wpList_append_lies _ (by rfl) _ _ 22 (by rfl) w.heap.size 3 i0 _ 1 8 Try.underlying22 hi hz0 hz1 hz2 rfl (by decide) _ _ _ (by rfl) (World.ownsRow_made wr #[] 0 hsz (by decide) (by decide)) ⟨b, 0, none⟩ t c ((o.take t).map kI) (by rfl) (by rw [List.length_map, List.length_take, Nat.mul_one]; have := HO.out; omega) (fun j u hu => HOC.out _ (same_alloc wr _) j u (HTK.out j u hu)) (by intro u hu; obtain ⟨b, _, rfl⟩ := List.mem_map.1 hu; rfl) (by omega) (by unfold maxLen; omega) (by omega) (by simp; omega) (wr.heap.size + 1) (by simp) ?_; intro g1 c1 w1 hown hgrow hat hlt1); rw [Nat.zero_add, List.nil_append] at hown; have k1 : Same wr w1 := ((Kept.refl (fun _ => False) wr).alloc _).grown hgrow (fun q hk hl => by simp [Value.ownBlock] at hk; omega); have hg1 : wr.heap.size ≤ g1 := hat.elim (fun h => by simp [Value.ownBlock] at h; omega) (fun h => by omega); have O1 := hidden hown; have K1 := hidden k1; have hsz1 := k1.size; clear hown hgrow hat k1)
              have t1 : True := trivial
              go_wp2
              go_region_held3 (fun w' => True)
                (exact trivial)
                ((first
                  | (have _t := t1; go_must (refine step_append_lies _ (by rfl) _ _ 22 (by rfl) w.heap.size 3 i0 _ 1 8 Try.underlying22 hi hz0 hz1 hz2 rfl (by decide) _ _ _ (by rfl) (ownsRow_drew (O1.out.alloc _)) ⟨w1.heap.size, 0, none⟩ 1 1 [.int .i64 x] (by rfl) (by rfl) (World.news_of_block (show _ = _ from heap_alloc_new w1 (.cells #[.int .i64 x] 3))) (by simp [Value.oneCell']) (by decide) (by unfold maxLen; omega) (by omega) (by simp; omega) (w1.heap.size + 1) (by simp) ?_; intro g2 c2 w2 hown2 hgrow2 hat2 hlt2; have k2 : Same wr w2 := Kept.trans' K1.out (((Kept.refl (fun q => q = g1) w1).alloc _).grown (grown_heap' (w' := (w1.alloc _).drew) rfl rfl rfl rfl hgrow2) (fun q hk _ => by simp [Value.ownBlock] at hk; exact hk.symm)) (fun q hq e => by omega); have hc2 : t + 1 ≤ c2 := own_cap hown2; have hg2a : wr.heap.size ≤ g2 := hat2.elim (fun h => by simp [Value.ownBlock] at h; omega) (fun h => by omega); have HG2 := hidden hg2a; clear hg2a; have O2 := hidden hown2; have K2 := hidden k2; have hsz2 := k2.size; clear t1 hown2 hgrow2 hat2 k2))
                  | (go_must (refine step_append_lies _ (by rfl) _ _ 22 (by rfl) w.heap.size 3 i0 _ 1 8 Try.underlying22 hi hz0 hz1 hz2 rfl (by decide) _ _ _ (by rfl) O2.out ⟨b, t, none⟩ (k - t) (c - t) ((o.drop t).map kI) (by rfl) (by rw [List.length_map, List.length_drop, Nat.mul_one]; have := HO.out; omega) (fun j u hu => HDR.out _ K2.out j u hu) (by intro u hu; obtain ⟨b, _, rfl⟩ := List.mem_map.1 hu; rfl) (by omega) (by unfold maxLen; omega) (by omega) (by omega) w2.heap.size rfl ?_; intro g3 c3 w3 hown3 hgrow3 hat3 hlt3; have hg2 : wr.heap.size ≤ g2 := HG2.out; have k3 : Same wr w3 := Kept.trans' K2.out ((Kept.refl (fun q => q = g2) w2).grown hgrow3 (fun q hk _ => by simp [Value.ownBlock] at hk; exact hk.symm)) (fun q hq e => by omega); have O3 := hidden hown3; have K3 := hidden k3; clear hown3 hgrow3 hat3 k3))))
              go_wp2
              go_roundw
              case rel =>
                obtain ⟨z1, z2, z3⟩ := HTK1.out (o.take t ++ x :: o.drop t) t rfl (by omega) HLE.out HG.out
                have hz := O3.out
                exact ⟨k + 1, _, some ⟨g3, 0, none⟩, c3, by omega, by go_num, by first | rfl | (congr 1; omega), (fun h => by omega), z1, by have e : t + 1 + (k - t) = k + 1 := (by omega); rw [e] at hz; simpa using hz, z2, z3, Kept.trans HK.out K3.out⟩
              case measure => simp [intOf]; omega
        · obtain rfl : t = 0 := by omega
          by_cases hk0 : k = 0
          · have HK0 := hidden hk0
            have HOE : Hid (o = []) := List.length_eq_zero_iff.1 (by rw [HO.out]; exact hk0)
            obtain ⟨rfl, rfl⟩ := HZ0.out hk0
            clear hcell
            subst hk0
            have hap := fun b d ty (W : World) => app0 (some ⟨wr.heap.size, 0, none⟩) 0 0 b d (Nat.le_refl _) ty W
            go_wp2
            obtain ⟨w1, hw1⟩ : ∃ W, W = wr.alloc (.cells #[] 3) := ⟨_, rfl⟩
            rw [← hw1]
            have K1 : Hid (Same wr w1) := by rw [Hid, hw1]; exact same_alloc _ _
            have O1 : Hid (w1.ownsRow w.heap.size 3 1 (.slice (some ⟨wr.heap.size, 0, none⟩) 0 0) 0 ([].map kI)) := by rw [Hid, hw1]; exact World.ownsRow_made wr #[] 0 hsz (by decide) (by decide)
            have hsz1 := K1.out.size
            have hg1 : wr.heap.size ≤ wr.heap.size := Nat.le_refl _
            clear hw1 hap
            have t1 : True := trivial
            go_wp2
            go_region_held3 (fun w' => True)
              (exact trivial)
              ((first
                | (have _t := t1; go_must (refine step_append_lies _ (by rfl) _ _ 22 (by rfl) w.heap.size 3 i0 _ 1 8 Try.underlying22 hi hz0 hz1 hz2 rfl (by decide) _ _ _ (by rfl) (ownsRow_drew (O1.out.alloc _)) ⟨w1.heap.size, 0, none⟩ 1 1 [.int .i64 x] (by rfl) (by rfl) (World.news_of_block (show _ = _ from heap_alloc_new w1 (.cells #[.int .i64 x] 3))) (by simp [Value.oneCell']) (by decide) (by unfold maxLen; omega) (by omega) (by simp; omega) (w1.heap.size + 1) (by simp) ?_; intro g2 c2 w2 hown2 hgrow2 hat2 hlt2; have k2 : Same wr w2 := Kept.trans' K1.out (((Kept.refl (fun q => q = wr.heap.size) w1).alloc _).grown (grown_heap' (w' := (w1.alloc _).drew) rfl rfl rfl rfl hgrow2) (fun q hk _ => by simp [Value.ownBlock] at hk; exact hk.symm)) (fun q hq e => by omega); have hc2 : 0 + 1 ≤ c2 := own_cap hown2; have hg2a : wr.heap.size ≤ g2 := hat2.elim (fun h => by simp [Value.ownBlock] at h; omega) (fun h => by omega); have HG2 := hidden hg2a; clear hg2a; have O2 := hidden hown2; have K2 := hidden k2; have hsz2 := k2.size; have hap2 := fun b d ty (W : World) => app0 (some ⟨g2, 0, none⟩) (0 + 1) c2 b d hc2 ty W; clear t1 hown2 hgrow2 hat2 k2))))
            go_wp2
            go_roundw
            case rel =>
              obtain ⟨z1, z2, z3⟩ := HTK1.out ([].take 0 ++ x :: o.drop 0) 0 (by rw [HOE.out]) (by omega) (fun j hj h => by omega) (fun j hj h => HG.out j hj (Nat.zero_le _))
              have hz := O2.out
              exact ⟨0 + 1, _, some ⟨g2, 0, none⟩, c2, by omega, by go_num, rfl, (fun h => by omega), z1, by rw [HOE.out]; simpa using hz, z2, z3, Kept.trans HK.out K2.out⟩
            case measure => simp [intOf]; omega
          · obtain ⟨b, rfl⟩ := HD.out.resolve_left hk0
            have hkc : k ≤ c := own_cap HR.out
            have q7 : (k : Int) ≤ (c : Int) := by omega
            have HOC : Hid (∀ W, Same wr W → ∀ j u, (o.map kI)[j]? = some u → W.cell? ((⟨b, 0, none⟩ : Addr).add j) = some u) := fun W hW j u hu => (own_kept HR.out hW (fun _ _ h => h)).cells (g := b) rfl j u hu
            have hap := fun b d ty (W : World) => app0 (some ⟨wr.heap.size, 0, none⟩) 0 0 b d (Nat.le_refl _) ty W
            go_wp2
            obtain ⟨w1, hw1⟩ : ∃ W, W = wr.alloc (.cells #[] 3) := ⟨_, rfl⟩
            rw [← hw1]
            have K1 : Hid (Same wr w1) := by rw [Hid, hw1]; exact same_alloc _ _
            have O1 : Hid (w1.ownsRow w.heap.size 3 1 (.slice (some ⟨wr.heap.size, 0, none⟩) 0 0) 0 ([].map kI)) := by rw [Hid, hw1]; exact World.ownsRow_made wr #[] 0 hsz (by decide) (by decide)
            have hsz1 := K1.out.size
            have hg1 : wr.heap.size ≤ wr.heap.size := Nat.le_refl _
            clear hw1 hap
            have t1 : True := trivial
            go_wp2
            go_region_held3 (fun w' => True)
              (exact trivial)
              ((first
                | (have _t := t1; go_must (refine step_append_lies _ (by rfl) _ _ 22 (by rfl) w.heap.size 3 i0 _ 1 8 Try.underlying22 hi hz0 hz1 hz2 rfl (by decide) _ _ _ (by rfl) (ownsRow_drew (O1.out.alloc _)) ⟨w1.heap.size, 0, none⟩ 1 1 [.int .i64 x] (by rfl) (by rfl) (World.news_of_block (show _ = _ from heap_alloc_new w1 (.cells #[.int .i64 x] 3))) (by simp [Value.oneCell']) (by decide) (by unfold maxLen; omega) (by omega) (by simp; omega) (w1.heap.size + 1) (by simp) ?_; intro g2 c2 w2 hown2 hgrow2 hat2 hlt2; have k2 : Same wr w2 := Kept.trans' K1.out (((Kept.refl (fun q => q = wr.heap.size) w1).alloc _).grown (grown_heap' (w' := (w1.alloc _).drew) rfl rfl rfl rfl hgrow2) (fun q hk _ => by simp [Value.ownBlock] at hk; exact hk.symm)) (fun q hq e => by omega); have hc2 : 0 + 1 ≤ c2 := own_cap hown2; have hg2a : wr.heap.size ≤ g2 := hat2.elim (fun h => by simp [Value.ownBlock] at h; omega) (fun h => by omega); have HG2 := hidden hg2a; clear hg2a; have O2 := hidden hown2; have K2 := hidden k2; have hsz2 := k2.size; clear t1 hown2 hgrow2 hat2 k2))
                | (go_must (refine step_append_lies _ (by rfl) _ _ 22 (by rfl) w.heap.size 3 i0 _ 1 8 Try.underlying22 hi hz0 hz1 hz2 rfl (by decide) _ _ _ (by rfl) O2.out ⟨b, 0, none⟩ (k) c ((o).map kI) (by rfl) (by rw [List.length_map, Nat.mul_one]; have := HO.out; omega) (fun j u hu => HOC.out _ K2.out j u hu) (by intro u hu; obtain ⟨b, _, rfl⟩ := List.mem_map.1 hu; rfl) (by omega) (by unfold maxLen; omega) (by omega) (by omega) w2.heap.size rfl ?_; intro g3 c3 w3 hown3 hgrow3 hat3 hlt3; have hg2 : wr.heap.size ≤ g2 := HG2.out; have k3 : Same wr w3 := Kept.trans' K2.out ((Kept.refl (fun q => q = g2) w2).grown hgrow3 (fun q hk _ => by simp [Value.ownBlock] at hk; exact hk.symm)) (fun q hq e => by omega); have O3 := hidden hown3; have K3 := hidden k3; clear hown3 hgrow3 hat3 k3))))
            go_wp2
            go_roundw
            case rel =>
              obtain ⟨z1, z2, z3⟩ := HTK1.out (o.take 0 ++ x :: o.drop 0) 0 rfl (by omega) (fun j hj h => by omega) (fun j hj h => HG.out j hj (Nat.zero_le _))
              have hz := O3.out
              exact ⟨k + 1, _, some ⟨g3, 0, none⟩, c3, by omega, by go_num, by first | rfl | (congr 1; omega), (fun h => by omega), z1, by have e : 0 + 1 + k = k + 1 := (by omega); rw [e] at hz; simpa using hz, z2, z3, Kept.trans HK.out K3.out⟩
            case measure => simp [intOf]; omega
    · obtain rfl : k = n := by omega
      have q1 : ¬ (k : Int) < (k : Int) := by omega
      go_wp2
      go_returns
      refine ⟨_, rfl, ⟨o, by rw [HO.out]; exact HR.out, ?_, HI0.out, HK.out⟩⟩
      have := HP.out
      rw [List.take_of_length_le (by rw [HN.out]; exact Nat.le_refl _)] at this
      exact this
end Go.Proofs.Ytcejgbojiejjdaa
