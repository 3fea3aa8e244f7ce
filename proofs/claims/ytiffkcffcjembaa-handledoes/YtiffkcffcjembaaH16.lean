/- The law's does at Count, Clear, All and at no call. -/
import Derived.Test.YtiffkcffcjembaaH15
namespace Go.Proofs.Ytiffkcffcjembaa
open Go.RowKit Go.Maps
set_option linter.unusedVariables false
set_option linter.unusedSimpArgs false
theorem set_gr (w : World) (gr : Nat) (v : Value) : Kept (fun q => q = gr) w (w.setCell ⟨gr, 0, none⟩ v) := Kept.setCell (S := fun q => q = gr) (p := ⟨gr, 0, none⟩) (Kept.refl _ w) rfl v
theorem h_count' (g bm : Nat) (f : FT) (n : Nat) (x : Int) (w : World) (h : TB w g bm f n) (hx : I64 x) :
    Calls Try.prog 13 #[P0 g, .int .i64 x] w fun e w' => e = .returned (.int .i64 (cn f x 64 : Nat)) ∧ Kept (fun _ => False) w w' := by
  refine (h_count g bm f n x w h hx).mono ?_
  rintro e w' ⟨rfl, rfl⟩
  exact ⟨rfl, Kept.refl _ _⟩
theorem r_count' (gr : Nat) (f : FT) (x : Int) (w : World) (h : RT w gr (ol f)) :
    Calls Try.prog 22 #[P0 gr, .int .i64 x] w fun e w' => e = .returned (.int .i64 (cn f x 64 : Nat)) ∧ Kept (fun _ => False) w w' := by
  have := r_count gr (ol f) x w h (ol_le f)
  rw [ci_all] at this
  exact this
set_option maxHeartbeats 2000000 in
set_option maxRecDepth 100000 in
theorem d_count (g bm gr : Nat) (f : FT) (n : Nat) (x fl : Int) (w : World) (h : PR w g bm gr f n) (hx : I64 x) (hf : I64 fl) (hn : n < 17592186044416) :
    Calls Try.prog 9 #[P0 g, P0 gr, .agg #[.int .i64 3, .int .i64 x, .int .i64 fl]] w fun e w' => e = .returned (.bool true) ∧ DOut g bm gr n w w' := by
  have H := hidden h
  have hgl := blk_lt h.t.blk
  have hbl : bm < w.heap.size := by obtain ⟨es, c, hb⟩ := h.t.mapblk; exact blk_lt hb
  have hrl : gr < w.heap.size := by obtain ⟨v, hb⟩ := h.r.blk; exact blk_lt hb
  have h0 := hidden (h.same (same_alloc w (.cells #[.int .i64 3, .int .i64 x, .int .i64 fl] 31)))
  have bx := hidden (boxed w 3 x fl)
  have K0 := hidden (same_alloc w (.cells #[.int .i64 3, .int .i64 x, .int .i64 fl] 31))
  have hol := ol_le f
  have hc1 := hidden (fun W (k : Same (w.alloc (.cells #[.int .i64 3, .int .i64 x, .int .i64 fl] 31)) W) => h_count' g bm f n x W (h0.out.same k).t hx)
  have hc2 := hidden (fun W (k : Same (w.alloc (.cells #[.int .i64 3, .int .i64 x, .int .i64 fl] 31)) W) => r_count' gr f x W (h0.out.same k).r)
  have m1 : ∀ V : Later (w.alloc (.cells #[.int .i64 3, .int .i64 x, .int .i64 fl] 31)), V.world.cell? ⟨w.heap.size, 1, none⟩ = some (.int .i64 x) := fun V => (blk_cell (blk_kept V.kept (fun h => h) bx.out)).trans rfl
  clear h
  go_enter Try.func9, Try.ntmps9
  go_wp2
  refine region_later (by kernel_rfl) (by kernel_rfl) ?_
  repeat (go_big_quiet_step ((first | (go_at_call 13; exact later_calls _ (hc1.out _ (Later.kept _))) | (go_at_call 22; exact later_calls _ (hc2.out _ (Later.kept _))))))
  refine wpQuiet_nil ?_
  rintro V ⟨LV, hE⟩
  have hV : Hid (Same (w.alloc (.cells #[.int .i64 3, .int .i64 x, .int .i64 fl] 31)) V) := by rw [Hid, hE]; exact LV.kept
  clear hE LV m1
  go_wp2
  go_ret
  exact ⟨by simp, DOut.quiet H.out (K0.out.trans hV.out)⟩
set_option maxHeartbeats 2000000 in
set_option maxRecDepth 100000 in
theorem d_clear (g bm gr : Nat) (f : FT) (n : Nat) (x fl : Int) (w : World) (h : PR w g bm gr f n) (hx : I64 x) (hf : I64 fl) (hn : n < 17592186044416) :
    Calls Try.prog 9 #[P0 g, P0 gr, .agg #[.int .i64 6, .int .i64 x, .int .i64 fl]] w fun e w' => e = .returned (.bool true) ∧ DOut g bm gr n w w' := by
  have H := hidden h
  have hgl := blk_lt h.t.blk
  have hbl : bm < w.heap.size := by obtain ⟨es, c, hb⟩ := h.t.mapblk; exact blk_lt hb
  have hrl : gr < w.heap.size := by obtain ⟨v, hb⟩ := h.r.blk; exact blk_lt hb
  have h0 := hidden (h.same (same_alloc w (.cells #[.int .i64 6, .int .i64 x, .int .i64 fl] 31)))
  have bx := hidden (boxed w 6 x fl)
  have K0 := hidden (same_alloc w (.cells #[.int .i64 6, .int .i64 x, .int .i64 fl] 31))
  have hol := ol_le f
  clear h
  have hne := H.out.ne
  go_enter Try.func9, Try.ntmps9
  go_wp2_with (first
    | (go_at_call 25; refine (r_inodes gr _ _ h0.out.r hol).mono ?_; rintro e w1 ⟨v, o, rfl, ho, hr, k1⟩; obtain ⟨vr, hbr⟩ := (h0.out.same k1).r.blk; have cr := (blk_cell (j := 0) hbr); have fr := blk_free (j := 0) hbr; simp at cr; have HInoO := hidden ho.ino; have hfe := ho.few; have hzo : w.heap.size ≤ w1.heap.size := (by have := k1.size; simp at this; omega); have R1 := hidden (own_kept hr (set_gr w1 gr (.slice none 0 0)) (fun q hq hs => by have := own_old hr q hq; simp at this; omega)); have K1 := hidden (K0.out.trans k1); have BR := hidden (blk_set (j := 0) hbr (.slice none 0 0)); have T1 := hidden ((h0.out.same k1).t.kept (set_gr w1 gr (.slice none 0 0)) (fun e => hne.1 e.symm) (fun e => hne.2 e.symm)); have zr := k1.size; clear ho hr k1 hbr)
    | (go_at_call 18; refine (h_clear g bm f n _ T1.out (by omega)).mono ?_; rintro e w2 ⟨v2, l, b2, rfl, hl, hr2, t2, hb2, k2⟩; have hlo := hl.unique HInoO.out; subst hlo; have R2 := hidden hr2; have T2 := hidden t2; have K2 := hidden k2; have R12 := hidden (own_kept R1.out k2 (fun q hq hs => by have := own_old R1.out q hq; simp at this; omega)); clear hl hr2 t2 k2)
    | (go_at_call 24; refine (sameInts_eq _ _ l _ _ _ R2.out R12.out (by omega)).mono ?_; rintro e w3 ⟨rfl, k3⟩; have K3 := hidden k3; clear k3))
  go_ret
  refine ⟨rfl, ⟨b2, f0, ⟨(T2.out.same K3.out).mono (Nat.zero_le _), ⟨_, blk_kept K3.out (fun h => h) (blk_kept K2.out hne.1 BR.out), ?_⟩⟩, .inr ?_, ?_⟩⟩
  · rw [ol_zero]
    exact World.ownsRow_nil _ _ _ _
  · simp [World.setCell] at hb2; omega
  · have a1 : Kept (DS g bm gr) w w1 := K1.out.mono (fun _ _ h => h.elim)
    have a2 := (set_gr w1 gr (.slice none 0 0)).mono (T := DS g bm gr) (fun _ _ h => .inr (.inr h))
    have a3 := K2.out.mono (T := DS g bm gr) (fun _ _ h => .inl h)
    have a4 : Kept (DS g bm gr) w2 w3 := K3.out.mono (fun _ _ h => h.elim)
    exact ((a1.trans a2).trans a3).trans a4
set_option maxHeartbeats 2000000 in
set_option maxRecDepth 100000 in
theorem d_none (g bm gr : Nat) (f : FT) (n : Nat) (kd x fl : Int) (w : World) (h : PR w g bm gr f n) (hk : kd < 0 ∨ 6 < kd) :
    Calls Try.prog 9 #[P0 g, P0 gr, .agg #[.int .i64 kd, .int .i64 x, .int .i64 fl]] w fun e w' => e = .returned (.bool true) ∧ DOut g bm gr n w w' := by
  have H := hidden h
  have e0 : (kd == 0) = false := by simp; omega
  have e1 : (kd == 1) = false := by simp; omega
  have e2 : (kd == 2) = false := by simp; omega
  have e3 : (kd == 3) = false := by simp; omega
  have e4 : (kd == 4) = false := by simp; omega
  have e5 : (kd == 5) = false := by simp; omega
  have e6 : (kd == 6) = false := by simp; omega
  clear h
  go_enter Try.func9, Try.ntmps9
  go_wp2
  go_ret
  exact ⟨rfl, DOut.quiet H.out (same_alloc _ _)⟩
set_option maxHeartbeats 2000000 in
set_option maxRecDepth 100000 in
theorem d_all (g bm gr : Nat) (f : FT) (n : Nat) (x fl : Int) (w : World) (h : PR w g bm gr f n) (hx : I64 x) (hf : I64 fl) (hn : n < 17592186044416) :
    Calls Try.prog 9 #[P0 g, P0 gr, .agg #[.int .i64 4, .int .i64 x, .int .i64 fl]] w fun e w' => e = .returned (.bool true) ∧ DOut g bm gr n w w' := by
  have H := hidden h
  have hgl := blk_lt h.t.blk
  have hbl : bm < w.heap.size := by obtain ⟨es, c, hb⟩ := h.t.mapblk; exact blk_lt hb
  have hrl : gr < w.heap.size := by obtain ⟨v, hb⟩ := h.r.blk; exact blk_lt hb
  have h0 := hidden (h.same (same_alloc w (.cells #[.int .i64 4, .int .i64 x, .int .i64 fl] 31)))
  have bx := hidden (boxed w 4 x fl)
  have K0 := hidden (same_alloc w (.cells #[.int .i64 4, .int .i64 x, .int .i64 fl] 31))
  have hol := ol_le f
  clear h
  have hne := H.out.ne
  go_enter Try.func9, Try.ntmps9
  go_wp2_with (first
    | (go_at_call 16; refine (h_all g bm _ _ _ h0.out.t).mono ?_; rintro e w1 ⟨v, rfl, hr, k1⟩; obtain ⟨va, vc, rfl⟩ := own_form hr; have P1 := hidden (h0.out.same k1); obtain ⟨u, hbu, hou⟩ := (h0.out.same k1).r.ex; obtain ⟨ua, uc, rfl⟩ := own_form hou; have cu := (blk_cell (j := 0) hbu); simp at cu; have R1 := hidden hr; have O1 := hidden hou; have K1 := hidden (K0.out.trans k1); clear hr k1 hbu hou)
    | (go_at_call 23; refine (sameHandles_eq _ _ (ol f) _ _ _ R1.out O1.out (by omega)).mono ?_; rintro e w2 ⟨rfl, k2⟩; have P2 := hidden (P1.out.same k2); have R2 := hidden (own_kept R1.out k2 (fun _ _ h => h)); have K2 := hidden (K1.out.trans k2); clear k2))
  have hrow : 0 < (ol f).length → ∃ gv cur, va = some ⟨gv, 0, none⟩ ∧ w.heap.size ≤ gv ∧ w2.heap[gv]? = some (.cells cur 44 (0, 0)) ∧ (ol f).length * 3 ≤ cur.size := fun hL => by
    rcases R2.out.2 with ⟨hv, h0⟩ | ⟨gv, cap, cur, hv, hbase, hblk, hncap, _, hsize, _⟩
    · omega
    · obtain ⟨rfl, _, rfl⟩ : va = some ⟨gv, 0, none⟩ ∧ True ∧ vc = cap := by simpa using hv
      exact ⟨gv, cur, rfl, by simp at hbase; omega, hblk, by rw [hsize]; omega⟩
  obtain ⟨L, hL⟩ : ∃ L, L = (ol f).length := ⟨_, rfl⟩
  rw [← hL] at hrow hol ⊢
  have HR := hidden hrow
  have K2w := hidden K2.out
  clear hrow hL
  go_loopw [133] (fun i wr => ∃ k : Nat, k ≤ L ∧ i = .int .i64 k ∧ Same w wr ∧ (0 < L → ∃ gv cur, va = some ⟨gv, 0, none⟩ ∧ w.heap.size ≤ gv ∧ wr.heap[gv]? = some (.cells cur 44 (0, 0)) ∧ L * 3 ≤ cur.size)) (fun i _ => 65 - (intOf i).toNat)
  case atStart => exact ⟨0, Nat.zero_le _, rfl, K2w.out, HR.out⟩
  case round =>
    obtain ⟨k, hk, rfl, hs, hg⟩ := hrel
    have S1 := hidden hs
    clear hs
    by_cases hlt : k < L
    · obtain ⟨gv, cur, rfl, hgv, hb, hcs⟩ := hg (by omega)
      have c1 : wr.cell? ⟨gv, k * 3 + 1, none⟩ = some (cur[k * 3 + 1]'(by omega)) := (blk_cell hb).trans (Array.getElem?_eq_getElem (by omega))
      generalize cur[k * 3 + 1]'(by omega) = z at c1
      have fr := blk_free (j := k * 3 + 1) hb
      have HB := hidden hb
      have hk1 : (k : Int) < L := by omega
      clear hb hg
      go_wp2
      go_roundw
      case rel => exact ⟨k + 1, by omega, by go_num, Kept.setNew (p := ⟨gv, k * 3 + 1, none⟩) S1.out hgv _, fun _ => ⟨gv, _, rfl, hgv, blk_set HB.out _, by simp; omega⟩⟩
      case measure => simp [intOf]; omega
    · clear hg
      go_wp2
      go_ret
      exact ⟨rfl, DOut.quiet H.out S1.out⟩
end Go.Proofs.Ytiffkcffcjembaa
