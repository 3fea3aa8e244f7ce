/- The program's Load. (Made by mkch2.py.) -/
import Derived.Test.YteoajgphahobiaaCh1
namespace Go.Proofs.Yteoajgphahobiaa
open Go.RowKit Go.Shelf
set_option linter.unusedVariables false
attribute [local go_sem] Oper.semAt_some
def isDefer' : Op → Bool
  | .defer _ => true
  | _ => false
theorem semAt_same' {ops : List Oper} {l : Nat} (h : (ops.all fun o => !isDefer' o.op) = true) (i : Nat) (o : Oper) (ho : ops.toArray[i]? = some o) (e : Operand → Value) : o.semAt (some l) e = o.semAt none e := by
  have hm : o ∈ ops := by
    rw [List.getElem?_toArray] at ho
    exact List.mem_of_getElem? ho
  have := List.all_eq_true.1 h o hm
  rw [Oper.semAt_some _ _ _ (fun c hc => by rw [hc] at this; simp [isDefer'] at this)]
  rfl
theorem op_inRound {F : Fence} {l n : Nat} {P : Program} {o : Oper} {a : Act} {w : World} {next : Act → World → Prop} {Q : Exit → Act → World → Prop} (hro : F.round = none) (hs : o.semAt (some l) a.eval = o.semAt none a.eval) (h : Oper.wpIn F n P o a w next Q) : Oper.wpIn (F.inRound l) n P o a w next Q := by
  unfold Oper.wpIn at *
  refine ⟨h.1, ?_⟩
  have h2 := h.2
  rw [hro] at h2
  rw [Fence.inRound_round, hs]
  generalize (o.semAt none a.eval).run P w = r at *
  cases r with
  | ok x w' => cases x <;> exact h2
  | halt x w' => cases x <;> exact h2
theorem wpAnyIn_inRound {F : Fence} {l n : Nat} {P : Program} {md : Region.Mode} {ops : Array Oper} {Q : Exit → Act → World → Prop} (hro : F.round = none) (hs : ∀ (i : Nat) (o : Oper), ops[i]? = some o → ∀ e, o.semAt (some l) e = o.semAt none e) : ∀ (fuel : Nat) (listed : Array Bool) (a : Act) (w : World), wpAnyIn F n P md ops Q fuel listed a w → wpAnyIn (F.inRound l) n P md ops Q fuel listed a w
  | 0, _, _, _, h => h
  | fuel + 1, listed, a, w, h => ⟨h.1, fun i hi => by
      have hh := h.2 i hi
      unfold wpOpIn at *
      split
      · rename_i e
        simp only [e] at hh
        exact wpAnyIn_inRound hro hs fuel _ _ _ hh
      · rename_i o ho
        simp only [ho] at hh
        split
        · rename_i hw
          simp only [hw, if_true] at hh
          exact op_inRound hro (hs i o ho _) (Oper.wpIn_mono (fun a w h => wpAnyIn_inRound hro hs fuel _ a w h) hh)
        · rename_i hw
          simp only [hw] at hh
          exact ⟨hh.1, wpAnyIn_inRound hro hs fuel _ _ _ hh.2⟩⟩
theorem stepIn_append {F : Fence} {n : Nat} {P : Program} (w : World) {ops : Array Oper} {o : Oper} {a : Act} {K : Act → World → Prop} {Q : Exit → Act → World → Prop} {E : Prop}
    (hg : o.guard = none) (s x : Operand) (t : TypeId) (hop : o.op = Op.call { callee := Callee.builtin Builtin.append, args := #[s, x], argTypes := #[t, t] })
    (base : Nat) (e : TypeId) (i : TypeInfo) (z : Value) (size bytes : Nat) (h1 : P.underlying t = some (.slice e)) (h2 : P.info? e = some i) (h3 : i.zero = some z) (h4 : i.size = size) (h5 : i.bytes = bytes) (h6 : z.cells.size = size) (h7 : 0 < size)
    (v : Value) (k : Nat) (xs : List Value) (hs : a.eval s = v) (hown : w.ownsRow base e size v k xs) (ad : Addr) (m c : Nat) (news : List Value) (hx : a.eval x = .slice (some ad) m c) (hn : news.length = m * size)
    (hc : ∀ j u, news[j]? = some u → w.cell? (ad.add j) = some u) (h1c : ∀ u ∈ news, u.oneCell' = true) (b1 : k + m ≤ maxLen) (b2 : (k + m) * bytes ≤ 140737488355328) (b3 : base ≤ w.heap.size)
    (hm : 0 < m)
    (hK : ∀ g c' w', w'.ownsRow base e size (.slice (some ⟨g, 0, none⟩) (k + m) c') (k + m) (xs ++ news) → w.grownBy w' v.ownBlock → (v.ownBlock = some g ∨ g = w.heap.size) → K (a.put o.dst (.slice (some ⟨g, 0, none⟩) (k + m) c')) w') :
    if Region.wanted o (yielded ops a.tmps) = true then Oper.wpIn F n P o a w K Q else E := by
  have hw : Region.wanted o (yielded ops a.tmps) = true := by simp [Region.wanted, hg]
  rw [if_pos hw]
  obtain ⟨g, c', w', hrun, r1, r2, r4, _⟩ := run_append_lies (P := P) w t o.type base e i z size bytes h1 h2 h3 h4 h5 h6 h7 v k xs hown ad m c news hn hc h1c hm b1 b2 b3 _ rfl
  unfold Oper.wpIn
  refine ⟨?_, ?_⟩
  · simp [Oper.about, hop, resolve, Target.leads, Sem.run_pure]
  · rw [Oper.semAt_plain F _ _ (by rw [hop]; intro c hc'; cases hc')]
    simp [execOp, hop, resolve, invoke, builtin, hs, hx, hrun, Result.andThen]
    exact hK g c' w' r1 r2 r4
theorem kept_putObj' {S : Nat → Prop} (W : World) (l : Nat) (o : Obj) (hl : S l) : Kept S W (W.putObj l o) :=
  (Kept.refl S W).grown (grownBy_putObj' W l o) (fun k e _ => by cases e; exact hl)
theorem same_of_below' {w W : World} (h : Below w.heap.size w W) : Same w W := ⟨h.os, h.tape, h.output, h.size, fun k hk _ => h.block k hk⟩
/-- The pieces of an image. -/
def pcs (n c : Nat) (img : List UInt8) : List (List UInt8) := (List.range c).map (fun i => (img.drop (i * n)).take n)
theorem pcs_fin (n c : Nat) (img : List UInt8) : (List.finRange c).map (fun i => (img.drop (i.val * n)).take n) = pcs n c img := by
  unfold pcs
  apply List.ext_getElem
  · simp
  · intro i h1 h2
    simp
theorem pcs_len {n c L : Nat} {img : List UInt8} (hi : img.length = L) (hL : L = n * c) : ∀ l ∈ pcs n c img, l.length = n := fun l hl => by
  obtain ⟨i, hi2, rfl⟩ := List.mem_map.1 hl
  have h1 := List.mem_range.1 hi2
  have h2 : i * n + n ≤ L := by
    rw [hL, ← Nat.succ_mul, Nat.mul_comm]
    exact Nat.mul_le_mul_left _ h1
  rw [List.length_take, List.length_drop, hi]
  omega
theorem own_not {w : World} {B s n D : Nat} {e : TypeId} {v : Value} {xs : List Value} {q : Option (List Deferred)} (h : w.ownsRow B e s v n xs) (hD : w.heap[D]? = some (.deferred q)) : v.ownBlock ≠ some D := by
  rcases h.2 with ⟨e1, _⟩ | ⟨g, cap, cur, e1, _, hg, _⟩
  · rw [e1]; simp [Value.ownBlock]
  · rw [e1]
    intro e2
    simp [Value.ownBlock] at e2
    rw [e2, hD] at hg
    cases hg
theorem k5k {a b c : World} {D : Nat} (h : Same a b) (k : Kept (fun k => k = D) b c) : Kept (fun k => k = D) a c := (h.mono (fun _ _ h => h.elim)).trans k
set_option maxHeartbeats 1000000 in
set_option maxRecDepth 100000 in
theorem y_of (n g c cap0 : Nat) (xs : List Value) (w : World) (hc : c ≤ 4096) (h1 : 1 ≤ c) (hb : w.ownsRow 0 22 1 (.slice (some ⟨g, 0, none⟩) c cap0) c xs) (ho : ∀ u ∈ xs, u.oneCell' = true) :
    Calls Try.prog 36 #[.int .i64 n, .slice (some ⟨g, 0, none⟩) c cap0] w fun e w' => ∃ r cap gd, e = .returned (.pointer (some ⟨gd, 0, none⟩)) ∧ w.heap.size ≤ r ∧ w.heap.size ≤ gd ∧ w'.ownsRow 0 22 1 (.slice (some ⟨r, 0, none⟩) c cap) c xs ∧
      w'.heap[gd]? = some (.cells #[.int .i64 n, .slice (some ⟨g, 0, none⟩) c cap0, .slice (some ⟨r, 0, none⟩) c cap, .slice none 0 0, .bool false, .int .i64 0, .int .i64 0, .int .i64 0, .int .i64 0] 74 (0, 0)) ∧ Same w w' := by
  have A := hidden (fun W hW => y_cloneR g c cap0 xs W hc h1 hW ho)
  have HB := hidden hb
  clear hb ho
  go_enter Try.func36, Try.ntmps36
  go_wp2_with (go_at_call 41; refine (A.out _ (by first | exact HB.out | exact HB.out.alloc _)).mono ?_; rintro e w1 ⟨r, cap, rfl, hr, hown, k1⟩)
  go_returns
  exact ⟨r, cap, w1.heap.size, rfl, hr, k1.size, hown.alloc _, heap_alloc_new _ _, k1.alloc _⟩
/-- The platter as far as it is laid. -/
structure PL (H n : Nat) (img : List UInt8) {c : Nat} (pre : List (Fin c)) (W : World) : Prop where
  ex : ∃ v us, W.heap[H]? = some (.cells #[v] 52 (0, 0)) ∧ W.ownsRow (H + 3) 22 1 v pre.length us ∧ LL W us (pre.map (fun i => (img.drop (i.val * n)).take n)) ∧ ∀ u ∈ us, ∀ k, u.ownBlock = some k → H ≤ k
theorem cells_grown {A B : World} {row : Option Nat} {k : Nat} {cs : Array Value} {t : TypeId} {fr : Nat × Nat} (hg : A.grownBy B row) (hr : ∀ r, row = some r → ∃ o : Obj, A.heap[r]? = some o ∧ o.isCells = false) (hb : A.heap[k]? = some (.cells cs t fr)) : B.heap[k]? = some (.cells cs t fr) := by
  refine (hg.block k (blk_lt hb) (fun e => ?_)).trans hb
  obtain ⟨o, ho, hc⟩ := hr k e.symm
  rw [hb] at ho
  simp at ho
  subst ho
  simp [Obj.isCells] at hc
theorem PL.own (H n : Nat) (img : List UInt8) (c N : Nat) : OwnFrom N (PL H n img (c := c)) := fun pre A B row hs hg hr => by
  obtain ⟨v, us, h1, h2, h3, h4⟩ := hs.ex
  have hr' : ∀ r, row = some r → ∃ o : Obj, A.heap[r]? = some o ∧ o.isCells = false := fun r e => (hr r e).2
  refine ⟨v, us, cells_grown hg hr' h1, ⟨h2.1, h2.2.imp id fun ⟨g, cap, cur, e, hb, hgg, rest⟩ => ⟨g, cap, cur, e, hb, cells_grown hg hr' hgg, rest⟩⟩, h3.kept (fun u l o => ?_), h4⟩
  obtain ⟨g, hB, e, hb⟩ := o
  exact ⟨g, hB, e, cells_grown hg hr' hb⟩
theorem PL.step {H n c N gu g4 c4 l0 : Nat} {img : List UInt8} {pre : List (Fin c)} {x : Fin c} {w W w3 w4 : World} {v : Value} {us : List Value} (hbx : W.heap[H]? = some (.cells #[v] 52 (0, 0))) (how : W.ownsRow (H + 3) 22 1 v pre.length us) (hll : LL W us (pre.map (fun i => (img.drop (i.val * n)).take n))) (hlo : ∀ u ∈ us, ∀ k, u.ownBlock = some k → H ≤ k) (hsz : H + 3 ≤ W.heap.size) (hN : N = H + 3) (hB : Below w.heap.size w W) (hHw : w.heap.size ≤ H)
    (k3 : Same W w3) (hgu : W.drew.heap.size ≤ gu ∧ w3.heap[gu]? = some (.cells (((img.drop (x.val * n)).take n).map U8).toArray 5 (0, 0))) (hl0 : ((img.drop (x.val * n)).take n).length = l0) (hb4 : w4.heap[H]? = some (.cells #[v] 52 (0, 0))) (ho4 : w4.ownsRow (H + 3) 22 1 (.slice (some ⟨g4, 0, none⟩) (pre.length + 1) c4) (pre.length + 1) (us ++ [.slice (some ⟨gu, 0, none⟩) l0 l0])) (k4 : Kept (fun k => v.ownBlock = some k) w3 w4) :
    KeepsFrom N W (w4.setCell ⟨H, 0, none⟩ (.slice (some ⟨g4, 0, none⟩) (pre.length + 1) c4)) ∧ Kept (fun k => k = H ∨ H + 3 ≤ k) W (w4.setCell ⟨H, 0, none⟩ (.slice (some ⟨g4, 0, none⟩) (pre.length + 1) c4)) ∧ PL H n img (pre ++ [x]) (w4.setCell ⟨H, 0, none⟩ (.slice (some ⟨g4, 0, none⟩) (pre.length + 1) c4)) ∧ Below w.heap.size w (w4.setCell ⟨H, 0, none⟩ (.slice (some ⟨g4, 0, none⟩) (pre.length + 1) c4)) ∧ H + 3 ≤ (w4.setCell ⟨H, 0, none⟩ (.slice (some ⟨g4, 0, none⟩) (pre.length + 1) c4)).heap.size := by
  have ks : Kept (fun k => k = H) w4 (w4.setCell ⟨H, 0, none⟩ (.slice (some ⟨g4, 0, none⟩) (pre.length + 1) c4)) := (Kept.refl (fun k => k = H) w4).setCell (p := ⟨H, 0, none⟩) rfl _
  have how3 := own_kept how k3 (fun _ _ h => h)
  have kk : Kept (fun k => k = H ∨ H + 3 ≤ k) W (w4.setCell ⟨H, 0, none⟩ (.slice (some ⟨g4, 0, none⟩) (pre.length + 1) c4)) := ((k3.mono (fun _ _ h => h.elim)).trans (k4.mono (fun k _ h => Or.inr (how.lt k h).1))).trans (ks.mono (fun k _ h => Or.inl h))
  have up : ∀ u l, Own w3 u l 0 → Own (w4.setCell ⟨H, 0, none⟩ (.slice (some ⟨g4, 0, none⟩) (pre.length + 1) c4)) u l 0 := fun u l o => by
    have o4 : Own w4 u l 0 := o.kept k4 (fun i cs _ hi hs => own_apart how3 hi (by decide) hs)
    exact o4.kept ks (fun i cs _ hi e => by rw [e, hb4] at hi; simp at hi)
  refine ⟨⟨kk.size, fun k o hk ho hc => ?_⟩, kk, ⟨.slice (some ⟨g4, 0, none⟩) (pre.length + 1) c4, us ++ [.slice (some ⟨gu, 0, none⟩) l0 l0], blk_set (j := 0) hb4 _, ?_, ?_, fun u hu k hk => ?_⟩, hB.trans (kk.below hB.size (fun k h => by omega)), Nat.le_trans hsz kk.size⟩
  · have h3 : w3.heap[k]? = some o := blk_kept k3 (fun h => h) ho
    have h4 : w4.heap[k]? = some o := blk_kept k4 (fun e => by
      rcases how3.2 with ⟨e2, _⟩ | ⟨g, cap, cur, e2, _, hg, _⟩
      · rw [e2] at e; cases e
      · rw [e2] at e
        simp [Value.ownBlock] at e
        rw [← e, hg] at h3
        simp at h3
        rw [← h3] at hc
        simp [Obj.isCells] at hc) h3
    exact blk_kept ks (by omega) h4
  · rw [List.length_append]
    exact own_kept ho4 ks (fun i hi e => own_apart ho4 hb4 (by decide) (by rw [hi, e]))
  · have h3 := hll.kept (w' := w3) (fun u l o => o.same k3)
    have h5 := h3.kept up
    refine ⟨by rw [List.length_append, h5.1, List.map_append, List.length_append]; rfl, fun i ha hb => ?_⟩
    by_cases hi : i < us.length
    · have hi2 : i < (pre.map (fun i => (img.drop (i.val * n)).take n)).length := by rw [← h5.1]; exact hi
      have := h5.2 i hi hi2
      simp only [List.map_append]
      rw [List.getElem_append_left hi, List.getElem_append_left hi2]
      exact this
    · have hul := h5.1
      rw [List.length_append] at ha
      simp at ha
      have hie : i = us.length := by omega
      subst hie
      simp only [List.map_append]
      rw [List.getElem_append_right (Nat.le_refl _), List.getElem_append_right (by omega)]
      simp only [hul, Nat.sub_self, List.map_cons, List.map_nil, List.getElem_cons_zero]
      refine up _ _ ⟨gu, Nat.zero_le _, ?_, hgu.2⟩
      rw [hl0]
  · rcases List.mem_append.1 hu with hu | hu
    · exact hlo u hu k hk
    · rw [List.mem_singleton.1 hu] at hk
      simp [Value.ownBlock] at hk
      have h9 : W.heap.size ≤ gu := hgu.1
      omega
set_option maxRecDepth 100000 in
set_option maxHeartbeats 1000000 in
theorem load_yes (n c : Nat) (hn : JSize n) (hc1 : 1 ≤ c) (hc2 : c ≤ 4096) (b cap L : Nat) (img : List UInt8) (w : World) (hL : L = n * c) (hw : w.ownsRow 0 5 1 (.slice (some ⟨b, 0, none⟩) L cap) L (img.map U8)) :
    Calls Try.prog 18 #[.int .i64 n, .slice (some ⟨b, 0, none⟩) L cap] w fun e w' => ∃ g pb pc rb rc, e = .returned (.tuple #[.pointer (some ⟨g, 0, none⟩), .int .i64 0]) ∧ ZD (fun k => k < w.heap.size) w.heap.size n c g pb pc rb rc ⟨pcs n c img, [], false, 0, 0, 0, 0⟩ w' ∧ Same w w' := by
  have hn5 : 512 ≤ n := by have := hn.1; omega
  have hn4 : n ≤ 4096 := by have := hn.2.1; omega
  have hle : n * c ≤ 4096 * 4096 := Nat.mul_le_mul hn4 hc2
  have HMS : Hid (∀ W, CallsIn Fence.wide 5 Try.prog 34 #[.int .i64 n] W fun e w' => e = .returned (.bool true) ∧ W = w') := fun W => (callsIn_wide (n := 5)).2 (by have := d_maySize n W; rw [decide_eq_true hn] at this; exact this)
  have HMC : Hid (∀ W, CallsIn Fence.wide 5 Try.prog 35 #[.int .i64 c] W fun e w' => e = .returned (.bool true) ∧ W = w') := fun W => (callsIn_wide (n := 5)).2 (by have := d_mayCount c W; rw [decide_eq_true (show (1 : Int) ≤ c ∧ (c : Int) ≤ 4096 by omega)] at this; exact this)
  have HCF : Hid (∀ W, CallsIn Fence.wide 5 Try.prog 39 #[.slice (some ⟨b, 0, none⟩) L cap, .int .i64 n] W fun e w' => e = .returned (.func (.func 55) #[] #[.pointer (some ⟨W.heap.size, 0, none⟩), .pointer (some ⟨W.heap.size + 1, 0, none⟩)]) ∧ (W.alloc (.cells #[.slice (some ⟨b, 0, none⟩) L cap] 22)).alloc (.cells #[.int .i64 n] 3) = w') := fun W => (callsIn_wide (n := 5)).2 (chunk_fn _ L cap n (by omega) W)
  have hLb : L ≤ 16777216 := by omega
  have hrem : Int.tmod (L : Int) (n : Int) = 0 := by rw [hL, Int.natCast_mul]; exact Int.mul_tmod_right _ _
  have hrem2 : (L : Int) % (n : Int) = 0 := by rw [hL, Int.natCast_mul]; exact Int.mul_emod_right _ _
  have hquo : Int.tdiv (L : Int) (n : Int) = (c : Int) := by rw [hL, Int.natCast_mul]; exact Int.mul_tdiv_cancel_left _ (by omega)
  have hquo2 : (L : Int) / (n : Int) = (c : Int) := by rw [hL, Int.natCast_mul]; exact Int.mul_ediv_cancel_left _ (by omega)
  have hn0 : ¬ (n : Int) = 0 := by omega
  have HW := hidden hw
  have HLE := hidden hL
  clear hw hn hL hle
  refine (callsIn_wide (n := 6)).1 ?_
  refine callsIn_of_wp_marks Try.func18 rfl trivial ?_ rfl
  simp only [Try.ntmps18, List.size_toArray, List.length_cons, List.length_nil, Nat.reduceAdd, Nat.reduceSub, Array.replicate_succ, Array.replicate_zero, List.push_toArray, List.append_toArray, List.nil_append, List.cons_append]
  gi_wp2_with (first
    | (refine ⟨trivial, ?_⟩; gi_at_call 34; refine (HMS.out _).mono ?_; rintro e w1 ⟨rfl, rfl⟩)
    | (refine ⟨trivial, ?_⟩; gi_at_call 35; refine (HMC.out _).mono ?_; rintro e w1 ⟨rfl, rfl⟩)
    | (refine ⟨trivial, ?_⟩; gi_at_call 39; refine (HCF.out _).mono ?_; rintro e w1 ⟨rfl, rfl⟩))
  obtain ⟨i0, hi0, hz0, hz1, hz2⟩ := info_parts infoB
  obtain ⟨H, hH⟩ : ∃ H, H = w.heap.size := ⟨_, rfl⟩
  obtain ⟨WB, hWB⟩ : ∃ X, X = ((w.alloc (.cells #[.slice none 0 0] 52)).alloc (.cells #[.slice (some ⟨b, 0, none⟩) L cap] 22)).alloc (.cells #[.int .i64 n] 3) := ⟨_, rfl⟩
  rw [← hWB]
  have KB : Same w WB := by rw [hWB]; exact ((same_alloc _ _).trans (same_alloc _ _)).trans (same_alloc _ _)
  have hsz : WB.heap.size = H + 3 := by rw [hWB, hH]; simp
  have bO : WB.heap[H]? = some (.cells #[.slice none 0 0] 52 (0, 0)) := by rw [hWB, hH]; exact blk_alloc (blk_alloc (heap_alloc_new w _) _) _
  have b1 : WB.heap[H + 1]? = some (.cells #[.slice (some ⟨b, 0, none⟩) L cap] 22 (0, 0)) := by
    rw [hWB, hH]
    have z := heap_alloc_new (w.alloc (.cells #[.slice none 0 0] 52)) (.cells #[.slice (some ⟨b, 0, none⟩) L cap] 22)
    rw [World.size_alloc] at z
    exact blk_alloc z _
  have b2 : WB.heap[H + 1 + 1]? = some (.cells #[.int .i64 n] 3 (0, 0)) := by
    rw [hWB, hH]
    have z := heap_alloc_new ((w.alloc (.cells #[.slice none 0 0] 52)).alloc (.cells #[.slice (some ⟨b, 0, none⟩) L cap] 22)) (.cells #[.int .i64 n] 3)
    rw [World.size_alloc, World.size_alloc] at z
    exact z
  have hcap : L ≤ cap ∧ cap ≤ 9223372036854775807 := by
    rcases HW.out.2 with ⟨e, _⟩ | ⟨g', cap', cur, e, _, _, h1, h2, _⟩
    · cases e
    · obtain ⟨_, rfl⟩ : b = g' ∧ cap = cap' := by simpa using e
      unfold maxLen at h2
      exact ⟨h1, h2⟩
  have hbl : b < w.heap.size := (HW.out.lt b rfl).2
  have hil : img.length = L := by have := HW.out.1; simpa using this
  have HBY : Hid (∀ W, Same w W → ∀ x : Fin c, Byt W (.slice (some ⟨b, x.val * n, none⟩) n n) ((img.drop (x.val * n)).take n)) := fun W kk x => by
    have hxl : x.val * n + n ≤ L := by
      have h1 := x.isLt
      rw [HLE.out, ← Nat.succ_mul, Nat.mul_comm]
      exact Nat.mul_le_mul_left _ h1
    have hlen : ((img.drop (x.val * n)).take n).length = n := by rw [List.length_take, List.length_drop, hil]; omega
    refine Or.inr ⟨⟨b, x.val * n, none⟩, n, by rw [hlen], fun j hj => ?_⟩
    rw [hlen] at hj
    have h2 := World.ownsRow.cells (own_kept HW.out kk (fun _ _ h => h)) (g := b) rfl (x.val * n + j) (U8 (img[x.val * n + j]'(by omega))) (by rw [List.getElem?_map, List.getElem?_eq_getElem (by omega)]; rfl)
    rw [add_none] at h2 ⊢
    rw [Nat.zero_add] at h2
    rw [h2]
    simp [List.getElem_take, List.getElem_drop]
  have hrun := chunk_stops 5 (H + 1) (H + 1 + 1) (by decide) (fun k => k = H ∨ H + 3 ≤ k) WB b 0 n c L cap (by omega) HLE.out hLb hcap.1 hcap.2 (blk_cell b1) (blk_cell b2) (by omega) (by omega)
  have HB0 : Hid (Below w.heap.size w WB) := hidden (KB.below (Nat.le_refl _) fun _ h => h.elim)
  have hHw : w.heap.size ≤ H := by omega
  have hHw2 : H ≤ w.heap.size := by omega
  have P0 : Hid (PL H n img (c := c) [] WB) := ⟨⟨_, [], bO, World.ownsRow_nil _ _ _ _, ⟨rfl, fun i h => by simp at h⟩, fun u hu => by cases hu⟩⟩
  have HSO : Hid (∀ W v l, Byt W v l → l.length ≤ 140737488355328 → Calls Try.prog 40 #[v] W fun e w' => ∃ u, e = .returned u ∧ Own w' u l W.heap.size ∧ Same W w') := fun W v l h1 h2 => d_sectorOf v l W h1 h2
  rw [← hH]
  clear hH hWB bO b1 b2 KB
  have hmx : Try.prog.follows .mixedOrders = true := by kernel_rfl
  refine wpIn_rangeFunc_ownG rfl (by decide) (gf := 55) (lb := #[.pointer (some ⟨H + 1, 0, none⟩), .pointer (some ⟨H + 1 + 1, 0, none⟩)]) rfl trivial (enters_of Try.func55 (by kernel_rfl) rfl)
    hrun (fun h k => h.trans k) (fun W l o o' hl _ _ _ => kept_putObj' W l o' (by rw [hsz] at hl; exact Or.inr hl)) (Below.refl _ _) (fun _ => rfl)
    (fun pre W => PL H n img pre W ∧ (Below w.heap.size w W ∧ H + 3 ≤ W.heap.size))
    (fun _ _ _ => False)
    (OwnFrom.and (PL.own H n img c _) (OwnFrom.and (ownFrom_below (Nat.le_refl _) (by rw [hsz]; omega)) (fun _ _ _ _ hs hg _ => Nat.le_trans hs hg.size)))
    (fun _ _ _ _ _ hs _ _ => hs)
    ⟨P0.out, HB0.out, by rw [hsz]; exact Nat.le_refl _⟩ ?a1 ?assign ?body ?done ?stop
  case assign =>
    intro l x W K hK
    gi_wp2
    exact hK
  case body =>
    rintro lp pre x W ⟨hP, hB, hszW⟩ hlt2
    obtain ⟨v, us, h1, h2, h3, h6⟩ := hP.ex
    have HLO := hidden h6
    have hbc := HBY.out W.drew ((same_of_below' hB).drew) x
    have hlc : ((img.drop (x.val * n)).take n).length ≤ 140737488355328 := by rw [List.length_take]; omega
    obtain ⟨l0, hl0⟩ : ∃ l0, ((img.drop (x.val * n)).take n).length = l0 := ⟨_, rfl⟩
    have hc := blk_cell (j := 0) h1
    have hcd : W.drew.cell? ⟨H, 0, none⟩ = some v := hc
    have HBX := hidden h1
    have HOW := hidden h2
    have HLL := hidden h3
    have HBW := hidden hB
    have hpl : pre.length < 4096 := by omega
    have hdd : ∀ k : Nat, (Fence.wide.depth.isSome = true → 1 ≤ k) := fun k h => by cases h
    clear h1 h2 h3 hP hB hc h6
    gi_wp2
    refine wpIn_region_any hmx ?_
    change wpAnyIn _ _ _ _ _ _ _ _ _ (World.drew _)
    refine wpAnyIn_inRound rfl (semAt_same' (by kernel_rfl)) _ _ _ _ ?_
    refine wpAnyIn_take (i := 1) (v := .slice (some ⟨b, x.val * n, none⟩) n n) rfl rfl (by kernel_rfl) (by kernel_rfl) (by kernel_rfl) (fun _ _ _ h => h) ⟨Or.inl ⟨by rfl, (by intro w; go_simp; try rfl)⟩, fun _ => rfl⟩ ?_; (try go_simp)
    refine wpAnyIn_ready (rs := [0, 2]) (by kernel_rfl) (by simp) ?_
    refine AllReadyIn.cons rfl (fun K hK => ?_) (AllReadyIn.cons rfl (fun K hK => ?_) AllReadyIn.nil)
    · skip
      go_simp
      refine hK _ _ ?_; clear hK K
      refine wpAnyIn_ready (rs := [2]) (by kernel_rfl) (by simp) ?_; refine AllReadyIn.cons rfl (fun K hK => ?_) AllReadyIn.nil
      go_simp
      (first | refine ⟨trivial, ?_⟩ | skip)
      (first | refine ⟨hdd _, ?_⟩ | skip)
      refine (callsIn_wide.2 (HSO.out _ _ _ hbc hlc)).mono ?_
      rintro e w3 ⟨u, rfl, o3, k3⟩
      have K3 := hidden ((Kept.refl _ W).drew.trans k3)
      have O3 := hidden o3
      have hbx3 := blk_kept K3.out (fun h => h) HBX.out
      have z3 : w3.cell? ⟨H, 0, none⟩ = some v := blk_cell hbx3
      have z3a : ∀ o, (w3.alloc o).cell? ⟨H, 0, none⟩ = some v := fun o => blk_cell (blk_alloc hbx3 o)
      have HB3 := hidden hbx3
      obtain ⟨gu, hgu, rfl, hgb⟩ := o3.lies
      rw [hl0]
      have HGU := hidden (And.intro hgu hgb)
      clear o3 k3 hbx3 hgu hgb
      refine hK _ _ ?_; clear hK K
      refine wpAnyIn_ready (rs := [3]) (by kernel_rfl) (by simp) ?_; refine AllReadyIn.cons rfl (fun K hK => ?_) AllReadyIn.nil; go_simp
      refine hK _ _ ?_; clear hK K
      refine wpAnyIn_ready (rs := [4]) (by kernel_rfl) (by simp) ?_; refine AllReadyIn.cons rfl (fun K hK => ?_) AllReadyIn.nil
      refine stepIn_append (w3.alloc (.cells #[.slice (some ⟨gu, 0, none⟩) l0 l0] 22)) (by rfl) _ _ 52 (by rfl) (H + 3) 22 i0 _ 1 24 Try.underlying52 hi0 hz0 hz1 hz2 rfl (by decide) v pre.length us (by rfl) ((own_kept HOW.out K3.out (fun _ _ h => h)).alloc _) ⟨w3.heap.size, 0, none⟩ 1 1 [.slice (some ⟨gu, 0, none⟩) l0 l0] (by rfl) rfl (World.news_of_block (heap_alloc_new w3 _)) (by simp [Value.oneCell']) (by unfold maxLen; omega) (by omega) (by have := K3.out.size; simp at this ⊢; omega) (by decide) ?_
      intro g4 c4 w4 hown4 hgr4 hat4
      have HAT4 := hidden hat4
      have hbx4 : w4.heap[H]? = some (.cells #[v] 52 (0, 0)) := (hgr4.block H (by have := blk_lt HB3.out; simp; omega) (fun e => by have := (HOW.out.lt H e.symm).1; omega)).trans (blk_alloc HB3.out _)
      have z4 : w4.cell? ⟨H, 0, none⟩ = some v := blk_cell hbx4
      have f4 : w4.frozen? ⟨H, 0, none⟩ = false := blk_free hbx4
      have HB4 := hidden hbx4
      have HO4 := hidden hown4
      have KG4 := hidden (((Kept.refl (fun k => v.ownBlock = some k) w3).alloc _).grown hgr4 (fun k e _ => e))
      clear hbx4 hown4 hgr4 hat4
      refine hK _ _ ?_; clear hK K
      (try go_simp)
      refine wpAnyIn_ready (rs := [5]) (by kernel_rfl) (by simp) ?_; refine AllReadyIn.cons rfl (fun K hK => ?_) AllReadyIn.nil; go_simp
      refine hK _ _ ?_; clear hK K
      refine wpAnyIn_done (by kernel_rfl) ?_ _
      gi_wp2
      exact PL.step HBX.out HOW.out HLL.out HLO.out hszW hsz HBW.out hHw K3.out HGU.out hl0 HB4.out HO4.out KG4.out
    · skip
      go_simp
      (first | refine ⟨trivial, ?_⟩ | skip)
      (first | refine ⟨hdd _, ?_⟩ | skip)
      refine (callsIn_wide.2 (HSO.out _ _ _ hbc hlc)).mono ?_
      rintro e w3 ⟨u, rfl, o3, k3⟩
      have K3 := hidden ((Kept.refl _ W).drew.trans k3)
      have O3 := hidden o3
      have hbx3 := blk_kept K3.out (fun h => h) HBX.out
      have z3 : w3.cell? ⟨H, 0, none⟩ = some v := blk_cell hbx3
      have z3a : ∀ o, (w3.alloc o).cell? ⟨H, 0, none⟩ = some v := fun o => blk_cell (blk_alloc hbx3 o)
      have HB3 := hidden hbx3
      obtain ⟨gu, hgu, rfl, hgb⟩ := o3.lies
      rw [hl0]
      have HGU := hidden (And.intro hgu hgb)
      clear o3 k3 hbx3 hgu hgb
      refine hK _ _ ?_; clear hK K
      refine wpAnyIn_ready (rs := [0, 3]) (by kernel_rfl) (by simp) ?_
      refine AllReadyIn.cons rfl (fun K hK => ?_) (AllReadyIn.cons rfl (fun K hK => ?_) AllReadyIn.nil)
      · skip
        go_simp
        refine hK _ _ ?_; clear hK K
        refine wpAnyIn_ready (rs := [3]) (by kernel_rfl) (by simp) ?_; refine AllReadyIn.cons rfl (fun K hK => ?_) AllReadyIn.nil; go_simp
        refine hK _ _ ?_; clear hK K
        refine wpAnyIn_ready (rs := [4]) (by kernel_rfl) (by simp) ?_; refine AllReadyIn.cons rfl (fun K hK => ?_) AllReadyIn.nil
        refine stepIn_append (w3.alloc (.cells #[.slice (some ⟨gu, 0, none⟩) l0 l0] 22)) (by rfl) _ _ 52 (by rfl) (H + 3) 22 i0 _ 1 24 Try.underlying52 hi0 hz0 hz1 hz2 rfl (by decide) v pre.length us (by rfl) ((own_kept HOW.out K3.out (fun _ _ h => h)).alloc _) ⟨w3.heap.size, 0, none⟩ 1 1 [.slice (some ⟨gu, 0, none⟩) l0 l0] (by rfl) rfl (World.news_of_block (heap_alloc_new w3 _)) (by simp [Value.oneCell']) (by unfold maxLen; omega) (by omega) (by have := K3.out.size; simp at this ⊢; omega) (by decide) ?_
        intro g4 c4 w4 hown4 hgr4 hat4
        have HAT4 := hidden hat4
        have hbx4 : w4.heap[H]? = some (.cells #[v] 52 (0, 0)) := (hgr4.block H (by have := blk_lt HB3.out; simp; omega) (fun e => by have := (HOW.out.lt H e.symm).1; omega)).trans (blk_alloc HB3.out _)
        have z4 : w4.cell? ⟨H, 0, none⟩ = some v := blk_cell hbx4
        have f4 : w4.frozen? ⟨H, 0, none⟩ = false := blk_free hbx4
        have HB4 := hidden hbx4
        have HO4 := hidden hown4
        have KG4 := hidden (((Kept.refl (fun k => v.ownBlock = some k) w3).alloc _).grown hgr4 (fun k e _ => e))
        clear hbx4 hown4 hgr4 hat4
        refine hK _ _ ?_; clear hK K
        (try go_simp)
        refine wpAnyIn_ready (rs := [5]) (by kernel_rfl) (by simp) ?_; refine AllReadyIn.cons rfl (fun K hK => ?_) AllReadyIn.nil; go_simp
        refine hK _ _ ?_; clear hK K
        refine wpAnyIn_done (by kernel_rfl) ?_ _
        gi_wp2
        exact PL.step HBX.out HOW.out HLL.out HLO.out hszW hsz HBW.out hHw K3.out HGU.out hl0 HB4.out HO4.out KG4.out
      · skip
        go_simp
        refine hK _ _ ?_; clear hK K
        refine wpAnyIn_ready (rs := [0]) (by kernel_rfl) (by simp) ?_; refine AllReadyIn.cons rfl (fun K hK => ?_) AllReadyIn.nil; go_simp
        refine hK _ _ ?_; clear hK K
        refine wpAnyIn_ready (rs := [4]) (by kernel_rfl) (by simp) ?_; refine AllReadyIn.cons rfl (fun K hK => ?_) AllReadyIn.nil
        refine stepIn_append (w3.alloc (.cells #[.slice (some ⟨gu, 0, none⟩) l0 l0] 22)) (by rfl) _ _ 52 (by rfl) (H + 3) 22 i0 _ 1 24 Try.underlying52 hi0 hz0 hz1 hz2 rfl (by decide) v pre.length us (by rfl) ((own_kept HOW.out K3.out (fun _ _ h => h)).alloc _) ⟨w3.heap.size, 0, none⟩ 1 1 [.slice (some ⟨gu, 0, none⟩) l0 l0] (by rfl) rfl (World.news_of_block (heap_alloc_new w3 _)) (by simp [Value.oneCell']) (by unfold maxLen; omega) (by omega) (by have := K3.out.size; simp at this ⊢; omega) (by decide) ?_
        intro g4 c4 w4 hown4 hgr4 hat4
        have HAT4 := hidden hat4
        have hbx4 : w4.heap[H]? = some (.cells #[v] 52 (0, 0)) := (hgr4.block H (by have := blk_lt HB3.out; simp; omega) (fun e => by have := (HOW.out.lt H e.symm).1; omega)).trans (blk_alloc HB3.out _)
        have z4 : w4.cell? ⟨H, 0, none⟩ = some v := blk_cell hbx4
        have f4 : w4.frozen? ⟨H, 0, none⟩ = false := blk_free hbx4
        have HB4 := hidden hbx4
        have HO4 := hidden hown4
        have KG4 := hidden (((Kept.refl (fun k => v.ownBlock = some k) w3).alloc _).grown hgr4 (fun k e _ => e))
        clear hbx4 hown4 hgr4 hat4
        refine hK _ _ ?_; clear hK K
        (try go_simp)
        refine wpAnyIn_ready (rs := [5]) (by kernel_rfl) (by simp) ?_; refine AllReadyIn.cons rfl (fun K hK => ?_) AllReadyIn.nil; go_simp
        refine hK _ _ ?_; clear hK K
        refine wpAnyIn_done (by kernel_rfl) ?_ _
        gi_wp2
        exact PL.step HBX.out HOW.out HLL.out HLO.out hszW hsz HBW.out hHw K3.out HGU.out hl0 HB4.out HO4.out KG4.out
  case done =>
    rintro D ys W hD hys ⟨hP, hB, hszW⟩ hK
    rw [hys] at hP
    obtain ⟨v, us, h1, h2, h3, h6⟩ := hP.ex
    rw [List.length_finRange] at h2
    rw [pcs_fin] at h3
    have hc := blk_cell (j := 0) h1
    obtain ⟨pb, pc, rfl, hpb, hpl⟩ := h2.form (by omega)
    have HOF := hidden ((callsIn_wide (n := 5)).2 (y_of n pb c pc us W hc2 hc1 (own_base h2) (ok_one h3)))
    have H2 := hidden h2
    have H3 := hidden h3
    have HBW := hidden hB
    have HKD := hidden hK
    clear h1 h2 h3 hP hB hK
    gi_wp2_with (refine ⟨trivial, ?_⟩; gi_at_call 36; refine (HOF.out).mono ?_; rintro e w5 ⟨r, rc, gd, rfl, hr, hgd, or5, b5, k5⟩; have OR := hidden or5; have B5 := hidden b5; have K5 := hidden k5; clear or5 b5 k5)
    have hK5 : w5.heap[D]? = some (.deferred (some [])) := blk_kept K5.out (fun h => h) HKD.out
    refine ⟨by simp, .inl ⟨_, _, rfl, run_takeDeferred hK5, ?_⟩⟩
    have kD : Kept (fun k => k = D) w5 (w5.putObj D (.deferred none)) := kept_putObj' _ D _ rfl
    have hDn : ∀ i cs t, w5.heap[i]? = some (.cells cs t (0, 0)) → ¬ i = D := fun i cs t hi e => by rw [e, hK5] at hi; cases hi
    have lk : ∀ u l, Own w5 u l 0 → Own (w5.putObj D (.deferred none)) u l 0 := fun u l o => o.kept kD (fun i cs _ hi => hDn i cs _ hi)
    have hL5 : LL w5 us (pcs n c img) := H3.out.kept (fun u l o => o.same K5.out)
    have hPr : w5.ownsRow 0 22 1 (.slice (some ⟨pb, 0, none⟩) c pc) c us := own_kept (own_base H2.out) K5.out (fun _ _ h => h)
    have hszz := K5.out.size
    refine ⟨_, by simp [results, Try.results18, go_sem], gd, pb, pc, r, rc, rfl, ?_, ?_⟩
    · refine ⟨⟨.slice none 0 0, [], us, us, blk_kept kD (hDn _ _ _ B5.out) B5.out, own_kept hPr kD (fun i hi e => own_not hPr hK5 (by rw [hi, e])), hL5.kept lk, own_kept OR.out kD (fun i hi e => own_not OR.out hK5 (by rw [hi, e])), hL5.kept lk, World.ownsRow_nil _ _ _ _, (fun k hk => absurd hk (by simp)), (fun k hk => by cases hk), (fun _ => rfl), (fun u hu => by cases hu), (fun u hu k hk (h : k < w.heap.size) => by have h9 : u ∈ us := hu.elim id (fun h => h.elim id (fun h => by cases h)); have := h6 u h9 k hk; omega)⟩, ⟨by simp [pcs], (fun l hl => pcs_len hil HLE.out l hl), (fun x hx => by cases hx), Int.le_refl _, by simp⟩, by omega, by omega, by omega, by omega, by omega, hn4, hc1, hc2⟩
    · exact (same_of_below' HBW.out).trans' (k5k K5.out kD) (fun i hi e => by omega)
  case stop =>
    rintro D c pre W _ _ h _
    exact h.elim
end Go.Proofs.Yteoajgphahobiaa
