/- A Space's Take that looks for a run. -/
import Derived.Test.YtbmbdidmbdanmaaDoorSp15
namespace Go.Proofs.YtbmbdidmbdanmaaDoor
open Go.RowKit Go.Shelf
set_option linter.unusedVariables false
set_option linter.unusedSimpArgs false
attribute [local go_sem] Oper.semAt_some
theorem wpIn_region_quiet_rd {F : Fence} {n : Nat} {P : Program} {id l0 : Nat} {Q : Exit → Act → World → Prop} {a : Act} {w : World} {l : List Oper} (hro : F.round = none) (hsd : (l.all fun o => !isDefer o.op) = true) (hm : P.follows .mixedOrders = true) (hB : Region.lexB .any l.toArray = true)
    (h : wpQuietIn F n P l.toArray (fun w' => ∃ n, w' = w.drewN n) (fun a' => ∀ w', (∃ n, w' = w.drewN n) → Q .normal a' w') l a) : (Code.region id l.toArray true).wpIn (F.inRound l0) n P Q a w := by
  simp only [Region.lexB, Bool.and_eq_true] at hB
  refine wpIn_region_any hm (wpAnyIn_inRound hro (semAt_same hsd) _ _ _ _ (wpAnyIn_of_quiet (C := fun w' => ∃ n, w' = w.drewN n) (Q := fun a' => ∀ w', (∃ n, w' = w.drewN n) → Q .normal a' w') hro (fun _ w' hw' h => h w' hw') _ _ _ _ ⟨1, rfl⟩ ?_))
  have := wpAnyQIn_lex (F := F) (n := n) (md := .any) hB.1 l 0 (Array.replicate l.toArray.size false) a (by simp) (by simpa using hB.2) h
  simpa using this
theorem keepsFrom_all {B : Nat} {S : Nat → Prop} {W W' : World} (k : Kept S W W') (h : ∀ j, S j → j < B) : KeepsFrom B W W' :=
  ⟨k.size, fun i o hB hi ho => (k.block i (blk_lt hi) (fun hs => by have := h i hs; omega)).trans hi⟩
theorem fit_none {count : Nat} {l : List (Nat × Nat)} {n : Int} (hb : ∀ r ∈ l, r.1 + r.2 ≤ count) (h : ∀ r ∈ lf count l, (r.1.2 : Int) < n) : fitR l n = none := by
  unfold fitR
  rw [List.find?_eq_none]
  intro r hr
  rw [← lf_map count l hb] at hr
  obtain ⟨y, hy, rfl⟩ := List.mem_map.1 hr
  have := h y hy
  simp
  omega
theorem fit_some {count : Nat} {l : List (Nat × Nat)} {n : Int} {p0 : List (Rn count)} {x : Rn count} (hb : ∀ r ∈ l, r.1 + r.2 ≤ count) (hp : p0 ++ [x] <+: lf count l) (h0 : ∀ r ∈ p0, (r.1.2 : Int) < n) (hx : n ≤ (x.1.2 : Int)) : fitR l n = some x.1 := by
  obtain ⟨t, ht⟩ := hp
  have e := lf_map count l hb
  rw [← ht] at e
  rw [← e]
  unfold fitR
  rw [List.map_append, List.map_append, List.find?_append, List.find?_append]
  have hn : (p0.map (·.1)).find? (fun r => decide (n ≤ (r.2 : Int))) = none := by
    rw [List.find?_eq_none]
    intro r hr
    obtain ⟨y, hy, rfl⟩ := List.mem_map.1 hr
    have := h0 y hy
    simp
    omega
  rw [hn]
  simp [hx]
theorem tk_put {w : World} {g : Nat} {n : Int} {W : World} (h : TkB w g n W) (x y : Int) :
    let V := (W.setCell ⟨w.heap.size + 2, 0, none⟩ (.int .i64 x)).setCell ⟨w.heap.size + 3, 0, none⟩ (.int .i64 y)
    V.heap[w.heap.size + 2]? = some (.cells #[.int .i64 x] 3 (0, 0)) ∧ V.heap[w.heap.size + 3]? = some (.cells #[.int .i64 y] 40 (0, 0)) ∧ Kept (fun k => k = w.heap.size + 2 ∨ k = w.heap.size + 3) W V := by
  intro V
  have e1 : (W.setCell ⟨w.heap.size + 2, 0, none⟩ (.int .i64 x)).heap[w.heap.size + 2]? = some (.cells #[.int .i64 x] 3 (0, 0)) := blk_set h.b2 _
  have k1 : Kept (fun k => k = w.heap.size + 2 ∨ k = w.heap.size + 3) W (W.setCell ⟨w.heap.size + 2, 0, none⟩ (.int .i64 x)) := (Kept.refl (fun k => k = w.heap.size + 2 ∨ k = w.heap.size + 3) W).setCell (p := ⟨w.heap.size + 2, 0, none⟩) (.inl rfl) _
  have k2 : Kept (fun k => k = w.heap.size + 2) W (W.setCell ⟨w.heap.size + 2, 0, none⟩ (.int .i64 x)) := (Kept.refl (fun k => k = w.heap.size + 2) W).setCell (p := ⟨w.heap.size + 2, 0, none⟩) rfl _
  have e2 := blk_kept k2 (by omega) h.b3
  have k3 : Kept (fun k => k = w.heap.size + 3) (W.setCell ⟨w.heap.size + 2, 0, none⟩ (.int .i64 x)) V := (Kept.refl (fun k => k = w.heap.size + 3) _).setCell (p := ⟨w.heap.size + 3, 0, none⟩) rfl _
  exact ⟨blk_kept k3 (by omega) e1, blk_set e2 _, k1.setCell (p := ⟨w.heap.size + 3, 0, none⟩) (.inr rfl) _⟩
theorem kept_putObj {S : Nat → Prop} (W : World) (l : Nat) (o : Obj) (hl : S l) : Kept S W (W.putObj l o) :=
  (Kept.refl S W).grown (grownBy_putObj' W l o) (fun k e _ => by cases e; exact hl)
/-- What Take tells. -/
structure TkP (w : World) (g first count : Nat) (u v : Nat → Bool) (res : Nat) (n : Int) (r : Ending) (w' : World) : Prop where
  yes : ∀ a m, fitR (rp (fun i => u i || v i) count) n = some (a, m) → r = .returned (.tuple #[.int .i64 ((first : Int) + (a : Int)), .int .i64 0]) ∧ SpAt g first count (fSet u a (a + n.toNat)) v res w' ∧ Kept (fun b => b = g) w w'
  no : fitR (rp (fun i => u i || v i) count) n = none → r = .returned (.tuple #[.int .i64 0, .int .i64 2]) ∧ Same w w'
def tkFr (w : World) (g : Nat) (n L : Int) (bq : Nat) (s6 s19 : Value) : Act := { tmps := #[.pointer (some ⟨g, 0, none⟩), .int .i64 n, .pointer (some ⟨w.heap.size, 0, none⟩), .pointer (some ⟨w.heap.size + 1, 0, none⟩), .pointer (some ⟨w.heap.size + 1 + 1, 0, none⟩), .pointer (some ⟨w.heap.size + 1 + 1 + 1, 0, none⟩), s6, undef, .pointer (some ⟨g, 0, none⟩), .bool true, .bool false, .int .i64 n, .bool (decide (n < 1)), .int .i64 n, .pointer (some ⟨g, 0, none⟩), .int .i64 L, .bool (decide (L < n)), .pointer (some ⟨g, 0, none⟩), .func (.func 51) #[] #[.pointer (some ⟨bq, 0, none⟩)], s19, undef, undef, undef, undef, undef, undef, undef, undef, undef, undef, undef, undef, undef, undef, undef, undef, undef, undef, undef, undef, undef], defers := [] }
/-- What stands between two rounds. -/
structure TkJ (N0 : Nat) (w : World) (g first count : Nat) (u v : Nat → Bool) (res : Nat) (n : Int) (pre : List (Rn count)) (W : World) : Prop where
  tb : TkB w g n W
  sp : SpAt g first count u v res W
  same : Same w W
  low : ∀ r ∈ pre, (r.1.2 : Int) < n
  big : N0 ≤ W.heap.size
theorem TkB.far {w : World} {g : Nat} {n : Int} {W W' : World} {S : Nat → Prop} (h : TkB w g n W) (k : Kept S W W') (hs : ∀ i, w.heap.size ≤ i → i < w.heap.size + 4 → ¬ S i) : TkB w g n W' := ⟨blk_kept k (hs _ (by omega) (by omega)) h.b0, blk_kept k (hs _ (by omega) (by omega)) h.b1, blk_kept k (hs _ (by omega) (by omega)) h.b2, blk_kept k (hs _ (by omega) (by omega)) h.b3⟩
theorem TkJ.far {N0 : Nat} {w : World} {g first count : Nat} {u v : Nat → Bool} {res : Nat} {n : Int} {pre : List (Rn count)} {W W' : World} {N : Nat} (h : TkJ N0 w g first count u v res n pre W) (k : Kept (fun j => N ≤ j) W W') (hN : w.heap.size + 4 ≤ N) (hg : g < w.heap.size) : TkJ N0 w g first count u v res n pre W' :=
  ⟨h.tb.far k (fun i _ hi => by omega), h.sp.kept k (by omega), h.same.trans' k (fun i hi hs => by omega), h.low, Nat.le_trans h.big k.size⟩
/-- What stands where a round has returned. -/
structure TkX (w : World) (g first count : Nat) (u v : Nat → Bool) (res : Nat) (n : Int) (pre : List (Rn count)) (W : World) : Prop where
  ex : ∃ p0 x, pre = p0 ++ [x] ∧ (∀ r ∈ p0, (r.1.2 : Int) < n) ∧ n ≤ (x.1.2 : Int) ∧ W.heap[w.heap.size + 2]? = some (.cells #[.int .i64 ((first : Int) + (x.1.1 : Int))] 3 (0, 0)) ∧ W.heap[w.heap.size + 3]? = some (.cells #[.int .i64 0] 40 (0, 0)) ∧ SpAt g first count (fSet u x.1.1 (x.1.1 + n.toNat)) v res W ∧ Kept (fun b => b = g) w W
theorem TkX.far {w : World} {g first count : Nat} {u v : Nat → Bool} {res : Nat} {n : Int} {pre : List (Rn count)} {W W' : World} {N : Nat} (h : TkX w g first count u v res n pre W) (k : Kept (fun j => N ≤ j) W W') (hN : w.heap.size + 4 ≤ N) (hg : g < w.heap.size) : TkX w g first count u v res n pre W' := by
  obtain ⟨p0, x, h1, h2, h3, h4, h5, h6, h7⟩ := h.ex
  exact ⟨p0, x, h1, h2, h3, blk_kept k (by omega) h4, blk_kept k (by omega) h5, h6.kept k (by omega), h7.trans' k (fun i hi hs => by omega)⟩
/-- What the round that takes leaves. -/
theorem tk_end {N0 : Nat} {w : World} {g first count : Nat} {u v : Nat → Bool} {res : Nat} {n : Int} {pre : List (Rn count)} {W w7 : World} {Bx xa xn e1 : Nat} {cs cs' : Array Value} (h : TkJ N0 w g first count u v res n pre W) (hg : g < w.heap.size) (hN : w.heap.size + 4 ≤ N0) (hBx : N0 ≤ Bx)
    (hk : Kept (fun b => b = g) W.drew w7) (hb : w7.heap[g]? = some (.cells cs' 55 (0, 0))) (ho : Out 2 cs cs') (hu : BmIn cs' 2 (fSet u xa e1)) (he : e1 = xa + n.toNat) (hq : n ≤ (xn : Int)) (hx : xa + xn ≤ count)
    (hB : W.heap[Bx]? = some (.cells #[.int .i64 ((first : Int) + (xa : Int)), .int .i64 (xn : Int)] 30 (0, 0))) (hc : W.heap[g]? = some (.cells cs 55 (0, 0))) :
    w7.cell? ⟨Bx, 0, none⟩ = some (.int .i64 ((first : Int) + (xa : Int))) ∧ TkB w g n w7 ∧
      (∀ hx', TkX w g first count u v res n (pre ++ [⟨(xa, xn), hx'⟩]) ((w7.setCell ⟨w.heap.size + 2, 0, none⟩ (.int .i64 ((first : Int) + (xa : Int)))).setCell ⟨w.heap.size + 3, 0, none⟩ (.int .i64 0))) ∧
      (∀ B, N0 ≤ B → KeepsFrom B W ((w7.setCell ⟨w.heap.size + 2, 0, none⟩ (.int .i64 ((first : Int) + (xa : Int)))).setCell ⟨w.heap.size + 3, 0, none⟩ (.int .i64 0))) := by
  have kd : Kept (fun b => b = g) W w7 := ((Kept.refl (fun b => b = g) W).drewN 1).trans hk
  have tb : TkB w g n w7 := h.tb.far kd (fun i h1 hi e => by omega)
  obtain ⟨z2, z3, zk⟩ := tk_put tb ((first : Int) + (xa : Int)) 0
  refine ⟨blk_cell (blk_kept kd (by omega) hB), tb, fun hx' => ?_, fun B hB => ?_⟩
  · refine ⟨pre, ⟨(xa, xn), hx'⟩, rfl, h.low, hq, z2, z3, ?_, ?_⟩
    · refine SpAt.kept ?_ zk (by omega)
      have hm : n.toNat ≤ xn := by omega
      rw [he] at hu
      exact h.sp.newU hc hb ho hu (fSet_in h.sp.inU (show xa + n.toNat ≤ count by omega))
    · exact Kept.trans' ((h.same.mono (T := fun b => b = g) (fun _ _ h => h.elim)).trans kd) zk (fun k hk h => by omega)
  · exact keepsFrom_all (S := fun k => k = g ∨ k = w.heap.size + 2 ∨ k = w.heap.size + 3) ((kd.mono (fun k _ h => .inl h)).trans (zk.mono (fun k _ h => .inr h))) (fun j h => by omega)
theorem kept_of_grown {N : Nat} {A B : World} {row : Option Nat} (hg : A.grownBy B row) (hr : ∀ r, row = some r → N ≤ r ∧ ∃ o : Obj, A.heap[r]? = some o ∧ o.isCells = false) : Kept (fun j => N ≤ j) A B :=
  (Kept.refl (fun j => N ≤ j) A).grown hg (fun k e _ => (hr k e).1)
set_option maxHeartbeats 4000000 in
set_option maxRecDepth 100000 in
theorem sp_takeRun (g first count : Nat) (u v : Nat → Bool) (res : Nat) (n : Int) (w : World) (h : SpAt g first count u v res w) (hT : Tab w) (h1 : 1 ≤ n) (hn : ¬ leftZ count u v res < n) :
    Calls Tryd.prog 15 #[.pointer (some ⟨g, 0, none⟩), .int .i64 n] w fun r w' => TkP w g first count u v res n r w' := by
  have A := hidden ((callsIn_wide (n := 5)).2 (sp_made g first count u v res (tkW w g n) (h.kept (tkW_same w g n) (fun h => h))))
  have HL := hidden (fun W (k : Same (tkW w g n) W) => (callsIn_wide (n := 5)).2 (sp_leftN g first count u v res W (h.kept ((tkW_same w g n).trans k) (fun h => h))))
  have HRf := hidden (fun v w => (callsIn_wide (n := 5)).2 (runs_fn v w))
  have HT := hidden (tkW_b w g n)
  have HS := hidden (tkW_same w g n)
  have HTb := hidden (fun W (k : Same w W) => (TabB.of hT).same k)
  have HH := hidden (fun W (k : Same w W) => h.kept k (fun h => h))
  have q0 : ¬ n < 1 := by omega
  have l3 := h.fits
  have hll := left_le count u v res
  have hn4 : n ≤ 4096 := by omega
  have hgl : g < w.heap.size := by obtain ⟨cs, hb, _⟩ := h.box; exact blk_lt hb
  generalize leftZ count u v res = L at *
  clear h hT hll
  refine (callsIn_wide (n := 6)).1 ?_
  refine callsIn_of_wp_marks Tryd.func15 rfl trivial ?_ rfl
  simp only [Tryd.ntmps15, List.size_toArray, List.length_cons, List.length_nil, Nat.reduceAdd, Nat.reduceSub, Array.replicate_succ, Array.replicate_zero, List.push_toArray, List.append_toArray, List.nil_append, List.cons_append]
  gi_wp2_with (refine ⟨trivial, ?_⟩; gi_at_call 44; refine (A.out).mono ?_; rintro e w1 ⟨rfl, hw1⟩; subst hw1; have x0 : (tkW w g n).cell? ⟨w.heap.size, 0, none⟩ = some (.pointer (some ⟨g, 0, none⟩)) := blk_cell HT.out.b0; have x1 : (tkW w g n).cell? ⟨w.heap.size + 1, 0, none⟩ = some (.int .i64 n) := blk_cell HT.out.b1)
  generalize tkW w g n = w1 at *
  have KD := hidden (fun nn => (Kept.refl (fun _ => False) w1).drewN nn)
  refine wpIn_region_quiet_lit rfl (by kernel_rfl) (by kernel_rfl) ?_
  repeat (refine wpQuietIn_step (by first | (go_simp; done) | (go_simp; intros; trivial) | (intros; trivial)) (fun K hK => ?_); go_simp; first | (refine hK _ ?_; clear hK K) | (apply Exists.intro; refine ⟨fun _ => ?_, hK _ ?_⟩; ((gi_at_call 25; exact CallsIn.quiet_of (HL.out _ (KD.out _)))); clear hK K))
  refine wpQuietIn_nil ?_
  intro _ hw'
  obtain ⟨nq, hw''⟩ := hw'
  subst hw''
  have HT2 := hidden (HT.out.keep (KD.out nq))
  have HS2 := hidden (HS.out.trans (KD.out nq))
  generalize w1.drewN nq = w2 at *
  have x2 : w2.cell? ⟨w.heap.size, 0, none⟩ = some (.pointer (some ⟨g, 0, none⟩)) := blk_cell HT2.out.b0
  clear A HL KD HT HS x0 x1
  gi_wp2_with (refine ⟨trivial, ?_⟩; gi_at_call 22; refine (HRf.out _ _).mono ?_; rintro e w3 ⟨rfl, hw3⟩; have HW3 := hidden hw3; clear hw3)
  have hs2 : w.heap.size + 4 ≤ w2.heap.size := by have := blk_lt HT2.out.b3; omega
  have hs3 : w3.heap.size = w2.heap.size + 1 := by rw [← HW3.out]; simp
  have k23 : Same w2 w3 := by rw [← HW3.out]; exact same_alloc _ _
  have hB3 : w3.heap[w2.heap.size]? = some (.cells #[.pointer (some ⟨g, 0, none⟩)] 25 (0, 0)) := by rw [← HW3.out]; exact blk_new w2 _
  have k3 := HS2.out.trans k23
  have HJ0 : Hid (TkJ w3.heap.size w g first count u v res n [] w3) := ⟨HT2.out.keep k23, HH.out _ k3, k3, by simp, Nat.le_refl _⟩
  have hrun := runs_stops (fun _ => False) w3 w2.heap.size g first count u v res hB3 (HH.out _ k3) (HTb.out _ k3) (fun h => h) (fun h => h) (fun h => h) (fun _ h => h.elim)
  obtain ⟨bq, hbq⟩ : ∃ b, b = w2.heap.size := ⟨_, rfl⟩
  rw [← hbq] at hrun ⊢
  clear HW3 k23 hB3 k3 x2 HRf HT2 HS2 hbq
  change Code.wpIn _ _ _ _ _ (tkFr w g n L bq undef undef) w3
  refine wpIn_rangeFunc_ownH rfl (by decide) (gf := 51) (lb := #[.pointer (some ⟨bq, 0, none⟩)]) rfl trivial (enters_of Tryd.func51 (by kernel_rfl) rfl)
    hrun (fun h k => h.trans k) (fun W l o o' _ hl ho _ => KC.putObj _ W l o o' hl ho) (Below.refl _ _) (fun _ => rfl)
    (TkJ w3.heap.size w g first count u v res n) (fun c pre W => c = .ret ∧ TkX w g first count u v res n pre W)
    (fun pre A B row hs hg hr => hs.far (kept_of_grown hg hr) (by omega) hgl) (fun c pre A B row hs hg hr => ⟨hs.1, hs.2.far (kept_of_grown hg hr) (by omega) hgl⟩) HJ0.out
    (fun x a' W => ∃ Bx, w3.heap.size ≤ Bx ∧ W.heap[Bx]? = some (.cells #[.int .i64 ((first : Int) + (x.1.1 : Int)), .int .i64 (x.1.2 : Int)] 30 (0, 0)) ∧ a' = tkFr w g n L bq (.pointer (some ⟨Bx, 0, none⟩)) (.agg #[.int .i64 ((first : Int) + (x.1.1 : Int)), .int .i64 (x.1.2 : Int)]))
    (fun x a' _ A B row hs hg hr => by
      obtain ⟨Bx, h1, h2, h3⟩ := hs
      refine ⟨Bx, h1, ?_, h3⟩
      refine (hg.block Bx (blk_lt h2) (fun e => ?_)).trans h2
      obtain ⟨_, o, ho, hc⟩ := hr Bx e.symm
      rw [h2] at ho
      rw [← Option.some.inj ho] at hc
      cases hc)
    ?assign ?body ?done ?stop
  case assign =>
    intro l pre x W K hi hK
    unfold tkFr
    gi_wp2
    exact hK _ _ ((KeepsOthers.alloc _ _).from _) (KC.of ((Kept.refl (fun _ => False) W).alloc _) (fun _ h => h)) (hi.far ((Kept.refl (fun j => w3.heap.size ≤ j) W).alloc _) (by omega) hgl) ⟨W.heap.size, hi.big, blk_new W _, rfl⟩
  case body =>
    rintro l pre x _ W hl hrr hi ⟨Bx, hBx, hb, rfl⟩ hlen
    have HI := hidden hi
    have HBx := hidden hb
    have HG := hidden hi.sp.box
    have c0 : W.cell? ⟨w.heap.size, 0, none⟩ = some (.pointer (some ⟨g, 0, none⟩)) := blk_cell hi.tb.b0
    have c1 : W.cell? ⟨w.heap.size + 1, 0, none⟩ = some (.int .i64 n) := blk_cell hi.tb.b1
    have c2 : W.cell? ⟨Bx, 0, none⟩ = some (.int .i64 ((first : Int) + (x.1.1 : Int))) := blk_cell hb
    have c3 : W.cell? ⟨Bx, 1, none⟩ = some (.int .i64 (x.1.2 : Int)) := blk_cell hb
    clear hi hb hrr
    obtain ⟨⟨xa, xn⟩, hx⟩ := x
    have hx' : xa + xn ≤ count := hx
    have HX := hidden hx
    unfold tkFr
    by_cases hq : n ≤ (xn : Int)
    · obtain ⟨cs, hcb, hcz, hc0, hc1, hcu, hcv, hcr⟩ := HG.out
      have c4 : W.cell? ⟨g, 0, none⟩ = some (.int .i64 first) := (blk_cell hcb).trans hc0
      have ew : IntKind.i64.wrap ((first : Int) + (xa : Int) - (first : Int)) = (xa : Int) := by rw [IntKind.wrap_i64]; omega
      have HC := hidden (And.intro hcb hcu)
      clear hcb hcz hc0 hc1 hcu hcv hcr HG
      gi_wp2
      refine wpIn_region_quiet_rd rfl (by kernel_rfl) (by kernel_rfl) (by kernel_rfl) ?_
      repeat (refine wpQuietIn_step (by first | (go_simp; done) | (go_simp; intros; trivial) | (intros; trivial)) (fun K hK => ?_); go_simp; first | (refine hK _ ?_; clear hK K) | (apply Exists.intro; refine ⟨fun _ => ?_, hK _ ?_⟩; (fail); clear hK K))
      refine wpQuietIn_nil ?_
      intro _ hw'
      obtain ⟨nq, hw''⟩ := hw'
      subst hw''
      have k2 := hidden ((Kept.refl (fun _ => False) W).drewN nq)
      have c5 := k2.out.cell (fun h => h) c0
      have c6 := k2.out.cell (fun h => h) c1
      have HJ2 : Hid (TkJ w3.heap.size w g first count u v res n pre (W.drewN nq)) := ⟨HI.out.tb.keep k2.out, HI.out.sp.kept k2.out (fun h => h), HI.out.same.trans k2.out, HI.out.low, Nat.le_trans HI.out.big k2.out.size⟩
      have HB2 := hidden (blk_kept k2.out (fun h => h) HBx.out)
      have HC2 := hidden (And.intro (blk_kept k2.out (fun h => h) HC.out.1) HC.out.2)
      have hs4 : w.heap.size + 4 ≤ w3.heap.size := by omega
      obtain ⟨e1, he1⟩ : ∃ e1 : Nat, Hid (e1 = xa + n.toNat) := ⟨_, hidden rfl⟩
      have hle : xa ≤ e1 ∧ e1 ≤ 4096 := by have := he1.out; omega
      have ew2 : IntKind.i64.wrap ((xa : Int) + n) = (e1 : Int) := by have := he1.out; rw [IntKind.wrap_i64]; omega
      clear c0 c1 c2 c3 c4 ew HI HBx HC
      generalize W.drewN nq = W2 at *
      have c0 := c5
      have c1 := c6
      clear c5 c6
      have c2 : True := trivial
      have c3 : True := trivial
      gi_wp2
      have hmx : Tryd.prog.follows .mixedOrders = true := by kernel_rfl
      refine wpIn_region_any hmx ?_
      change wpAnyIn _ _ _ _ _ _ _ _ _ (World.drew _)
      refine wpAnyIn_inRound rfl (semAt_same (by kernel_rfl)) _ _ _ _ ?_
      refine wpAnyIn_take (i := 3) (v := (.int .i64 xa)) rfl rfl (by kernel_rfl) (by kernel_rfl) (by kernel_rfl) (fun _ _ _ h => h) ⟨Or.inl ⟨by rfl, (by intro w; go_simp; try rfl)⟩, fun _ => rfl⟩ ?_; (try go_simp)
      refine wpAnyIn_take (i := 4) (v := (.int .i64 xa)) rfl rfl (by kernel_rfl) (by kernel_rfl) (by kernel_rfl) (fun _ _ _ h => h) ⟨Or.inl ⟨by rfl, (by intro w; go_simp; try rfl)⟩, fun _ => rfl⟩ ?_; (try go_simp)
      refine wpAnyIn_ready (rs := [0, 5]) (by kernel_rfl) (by simp) ?_
      refine AllReadyIn.cons rfl (fun K hK => ?_) (AllReadyIn.cons rfl (fun K hK => ?_) AllReadyIn.nil)
      · skip
        go_simp
        refine hK _ _ ?_; clear hK K
        refine wpAnyIn_take (i := 1) (v := (.pointer (some ⟨g, 0, none⟩))) rfl rfl (by kernel_rfl) (by kernel_rfl) (by kernel_rfl) (fun _ _ _ h => h) ⟨Or.inl ⟨by rfl, (by intro w; go_simp; try rfl)⟩, fun _ => rfl⟩ ?_; (try go_simp)
        refine wpAnyIn_take (i := 2) (v := (.pointer (some ⟨g, 2, none⟩))) rfl rfl (by kernel_rfl) (by kernel_rfl) (by kernel_rfl) (fun _ _ _ h => h) ⟨Or.inl ⟨by rfl, (by intro w; go_simp; try rfl)⟩, fun _ => rfl⟩ ?_; (try go_simp)
        refine wpAnyIn_ready (rs := [5]) (by kernel_rfl) (by simp) ?_; refine AllReadyIn.cons rfl (fun K hK => ?_) AllReadyIn.nil; go_simp
        refine hK _ _ ?_; clear hK K
        refine wpAnyIn_take (i := 6) (v := (.int .i64 e1)) rfl rfl (by kernel_rfl) (by kernel_rfl) (by kernel_rfl) (fun _ _ _ h => h) ⟨Or.inl ⟨by rfl, (by intro w; go_simp; try rfl)⟩, fun _ => rfl⟩ ?_; (try go_simp)
        refine wpAnyIn_ready (rs := [7]) (by kernel_rfl) (by simp) ?_; refine AllReadyIn.cons rfl (fun K hK => ?_) AllReadyIn.nil; go_simp
        (first | refine ⟨trivial, ?_⟩ | skip)
        refine (((callsIn_wide (n := _)).2 (bm_set g 2 _ cs u xa e1 W2.drew HC2.out.1 HC2.out.2 (by omega) (by omega)))).mono ?_
        rintro e w7 ⟨rfl, hk7, cs', hb7, hO, hu7⟩
        have H7 := hidden (tk_end HJ2.out hgl hs4 hBx hk7 hb7 hO hu7 he1.out hq hx' HB2.out HC2.out.1)
        clear hk7 hb7 hO hu7
        refine hK _ _ ?_; clear hK K
        refine wpAnyIn_done (by kernel_rfl) ?_ _
        clear c0 c1 c2 c3
        have x4 : w7.cell? ⟨Bx, 0, none⟩ = some (.int .i64 ((first : Int) + (xa : Int))) := H7.out.1
        have x2 : w7.cell? ⟨w.heap.size + 2, 0, none⟩ = some (.int .i64 0) := blk_cell H7.out.2.1.b2
        have x3 : w7.cell? ⟨w.heap.size + 3, 0, none⟩ = some (.int .i64 0) := blk_cell H7.out.2.1.b3
        have f2 : w7.frozen? ⟨w.heap.size + 2, 0, none⟩ = false := blk_free H7.out.2.1.b2
        have f3 : w7.frozen? ⟨w.heap.size + 3, 0, none⟩ = false := blk_free H7.out.2.1.b3
        gi_wp2
        obtain ⟨y1, y2⟩ := H7.out.2.2
        exact ⟨KeepsFrom.trans (keepsFrom_all (k2.out) (fun j h => h.elim)) (y2 _ (by omega)), rfl, y1 hx⟩
      · skip
        go_simp
        refine hK _ _ ?_; clear hK K
        refine wpAnyIn_take (i := 6) (v := (.int .i64 e1)) rfl rfl (by kernel_rfl) (by kernel_rfl) (by kernel_rfl) (fun _ _ _ h => h) ⟨Or.inl ⟨by rfl, (by intro w; go_simp; try rfl)⟩, fun _ => rfl⟩ ?_; (try go_simp)
        refine wpAnyIn_ready (rs := [0]) (by kernel_rfl) (by simp) ?_; refine AllReadyIn.cons rfl (fun K hK => ?_) AllReadyIn.nil; go_simp
        refine hK _ _ ?_; clear hK K
        refine wpAnyIn_take (i := 1) (v := (.pointer (some ⟨g, 0, none⟩))) rfl rfl (by kernel_rfl) (by kernel_rfl) (by kernel_rfl) (fun _ _ _ h => h) ⟨Or.inl ⟨by rfl, (by intro w; go_simp; try rfl)⟩, fun _ => rfl⟩ ?_; (try go_simp)
        refine wpAnyIn_take (i := 2) (v := (.pointer (some ⟨g, 2, none⟩))) rfl rfl (by kernel_rfl) (by kernel_rfl) (by kernel_rfl) (fun _ _ _ h => h) ⟨Or.inl ⟨by rfl, (by intro w; go_simp; try rfl)⟩, fun _ => rfl⟩ ?_; (try go_simp)
        refine wpAnyIn_ready (rs := [7]) (by kernel_rfl) (by simp) ?_; refine AllReadyIn.cons rfl (fun K hK => ?_) AllReadyIn.nil; go_simp
        (first | refine ⟨trivial, ?_⟩ | skip)
        refine (((callsIn_wide (n := _)).2 (bm_set g 2 _ cs u xa e1 W2.drew HC2.out.1 HC2.out.2 (by omega) (by omega)))).mono ?_
        rintro e w7 ⟨rfl, hk7, cs', hb7, hO, hu7⟩
        have H7 := hidden (tk_end HJ2.out hgl hs4 hBx hk7 hb7 hO hu7 he1.out hq hx' HB2.out HC2.out.1)
        clear hk7 hb7 hO hu7
        refine hK _ _ ?_; clear hK K
        refine wpAnyIn_done (by kernel_rfl) ?_ _
        clear c0 c1 c2 c3
        have x4 : w7.cell? ⟨Bx, 0, none⟩ = some (.int .i64 ((first : Int) + (xa : Int))) := H7.out.1
        have x2 : w7.cell? ⟨w.heap.size + 2, 0, none⟩ = some (.int .i64 0) := blk_cell H7.out.2.1.b2
        have x3 : w7.cell? ⟨w.heap.size + 3, 0, none⟩ = some (.int .i64 0) := blk_cell H7.out.2.1.b3
        have f2 : w7.frozen? ⟨w.heap.size + 2, 0, none⟩ = false := blk_free H7.out.2.1.b2
        have f3 : w7.frozen? ⟨w.heap.size + 3, 0, none⟩ = false := blk_free H7.out.2.1.b3
        gi_wp2
        obtain ⟨y1, y2⟩ := H7.out.2.2
        exact ⟨KeepsFrom.trans (keepsFrom_all (k2.out) (fun j h => h.elim)) (y2 _ (by omega)), rfl, y1 hx⟩
    · gi_wp2
      refine ⟨KeepsFrom.refl _ _, KC.refl _ _, HI.out.tb, HI.out.sp, HI.out.same, ?_, by have := HI.out.big; omega⟩
      intro r hr
      rcases List.mem_append.1 hr with hr | hr
      · exact HI.out.low r hr
      · rw [List.mem_singleton.1 hr]
        show (xn : Int) < n
        omega
  case done =>
    rintro D ys W hD rfl hI hK
    have HI := hidden hI
    have HK := hidden hK
    clear hI hK
    unfold tkFr
    have x2 : W.cell? ⟨w.heap.size + 2, 0, none⟩ = some (.int .i64 0) := blk_cell HI.out.tb.b2
    have x3 : W.cell? ⟨w.heap.size + 3, 0, none⟩ = some (.int .i64 0) := blk_cell HI.out.tb.b3
    have f2 : W.frozen? ⟨w.heap.size + 2, 0, none⟩ = false := blk_free HI.out.tb.b2
    have f3 : W.frozen? ⟨w.heap.size + 3, 0, none⟩ = false := blk_free HI.out.tb.b3
    gi_wp2
    obtain ⟨z2, z3, zk⟩ := tk_put HI.out.tb 0 2
    show bodyPostM _ _ _ _ _ _ _ ((W.setCell ⟨w.heap.size + 2, 0, none⟩ (.int .i64 0)).setCell ⟨w.heap.size + 3, 0, none⟩ (.int .i64 2))
    generalize (W.setCell ⟨w.heap.size + 2, 0, none⟩ (.int .i64 0)).setCell ⟨w.heap.size + 3, 0, none⟩ (.int .i64 2) = V at *
    have e3 := blk_kept zk (by omega) HK.out
    have c4 : (V.putObj D (.deferred none)).cell? ⟨w.heap.size + 2, 0, none⟩ = some (.int .i64 0) := blk_cell (blk_kept (kept_putObj (S := fun k => k = D) V D _ rfl) (by omega) z2)
    have c5 : (V.putObj D (.deferred none)).cell? ⟨w.heap.size + 3, 0, none⟩ = some (.int .i64 2) := blk_cell (blk_kept (kept_putObj (S := fun k => k = D) V D _ rfl) (by omega) z3)
    refine ⟨by simp, .inl ⟨_, _, rfl, run_takeDeferred e3, ?_⟩⟩
    refine ⟨.tuple #[.int .i64 0, .int .i64 2], by simp [results, Tryd.results15, go_sem, c4, c5], ?_⟩
    have hfit := fit_none (fun r hr => (rp_ends _ _ r hr).1) HI.out.low
    refine ⟨fun a m h => (by rw [hfit] at h; cases h), fun _ => ⟨rfl, ?_⟩⟩
    exact Kept.trans' HI.out.same ((zk.mono (T := fun k => w.heap.size ≤ k) (fun k _ h => by omega)).trans (kept_putObj _ D _ (by omega))) (fun k hk h => by omega)
  case stop =>
    rintro D c pre W hD hp ⟨rfl, hX⟩ hK
    have HK := hidden hK
    have HX := hidden hX
    clear hK hX
    unfold tkFr
    gi_wp2
    obtain ⟨p0, x, rfl, h2, h3, h4, h5, h6, h7⟩ := HX.out
    have hfit := fit_some (fun r hr => (rp_ends _ _ r hr).1) hp h2 h3
    have c4 : (W.putObj D (.deferred none)).cell? ⟨w.heap.size + 2, 0, none⟩ = some (.int .i64 ((first : Int) + (x.1.1 : Int))) := blk_cell (blk_kept (kept_putObj (S := fun k => k = D) W D _ rfl) (by omega) h4)
    have c5 : (W.putObj D (.deferred none)).cell? ⟨w.heap.size + 3, 0, none⟩ = some (.int .i64 0) := blk_cell (blk_kept (kept_putObj (S := fun k => k = D) W D _ rfl) (by omega) h5)
    refine ⟨by simp, .inl ⟨_, _, rfl, run_takeDeferred HK.out, ?_⟩⟩
    refine ⟨.tuple #[.int .i64 ((first : Int) + (x.1.1 : Int)), .int .i64 0], by simp [results, Tryd.results15, go_sem, c4, c5], ?_⟩
    refine ⟨fun a m h => ?_, fun h => (by rw [hfit] at h; cases h)⟩
    obtain ⟨⟨xa, xn⟩, hx⟩ := x
    rw [hfit] at h
    cases h
    exact ⟨rfl, h6.kept (kept_putObj (S := fun k => k = D) W D _ rfl) (by omega), Kept.trans' h7 (kept_putObj (S := fun k => k = D) W D _ rfl) (fun k hk h => by omega)⟩
end Go.Proofs.YtbmbdidmbdanmaaDoor
