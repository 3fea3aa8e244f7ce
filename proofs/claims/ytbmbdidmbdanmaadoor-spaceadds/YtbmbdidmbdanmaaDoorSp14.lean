/- A Space's Runs, gone over: the iterator's contract. -/
import Derived.Test.YtbmbdidmbdanmaaDoorSp13
namespace Go.Proofs.YtbmbdidmbdanmaaDoor
open Go.RowKit Go.Shelf
set_option linter.unusedVariables false
set_option linter.unusedSimpArgs false
attribute [local go_sem] Oper.semAt_some
theorem grownBy_same' {w w' : World} (k : Same w w') : w.grownBy w' none := ⟨k.os, k.tape, k.output, k.size, fun i hi _ => k.block i hi (fun h => h)⟩
set_option maxHeartbeats 1000000 in
set_option maxRecDepth 100000 in
theorem runs_fn (v : Option Addr) (w : World) : Calls Tryd.prog 22 #[.pointer v] w fun e w' => e = .returned (.func (.func 51) #[] #[.pointer (some ⟨w.heap.size, 0, none⟩)]) ∧ w.alloc (.cells #[.pointer v] 25) = w' := by
  go_enter Tryd.func22, Tryd.ntmps22
  go_wp2
  go_returns
  exact ⟨rfl, rfl⟩
set_option maxRecDepth 100000 in
set_option maxHeartbeats 2000000 in
theorem runs_stops (X : Nat → Prop) (w : World) (B g first count : Nat) (u v : Nat → Bool) (res : Nat) (hB : w.heap[B]? = some (.cells #[.pointer (some ⟨g, 0, none⟩)] 25 (0, 0))) (h : SpAt g first count u v res w) (hT : TabB w)
    (hxB : ¬ X B) (hxg : ¬ X g) (hxT : ¬ X 0) (hX : ∀ j, X j → j < w.heap.size) :
    SeqStopsK Fence.wide 5 Tryd.prog 51 #[.pointer (some ⟨B, 0, none⟩)] (encR first (count := count)) (KC X) (fun ys => ys = lf count (rp (fun i => u i || v i) count)) (fun pre => pre <+: lf count (rp (fun i => u i || v i) count)) (lf count (rp (fun i => u i || v i) count)).length w := fun lp J Jx W hW hJ _ hY h0 => by
  have kW : KC X w W := ⟨hW.size, fun k o hk _ _ => (hW.block k (blk_lt hk)).trans hk⟩
  have hB1 := kW.cells hB hxB
  have hS1 := h.kc kW hxg
  have hT1 := hT.kc kW hxT
  have HB := hidden (fun W1 (k : KC X W W1) => k.cells hB1 hxB)
  have HS := hidden (fun W1 (k : KC X W W1) => hS1.kc k hxg)
  have HTb := hidden (fun W1 (k : KC X W W1) => hT1.kc k hxT)
  have l3 := h.fits
  have A := hidden ((callsIn_wide (n := 4)).2 (sp_made g first count u v res W hS1))
  have K := hidden ((callsIn_wide (n := 4)).2 (sp_taken g first count u v res W hS1))
  obtain ⟨t, ht⟩ : ∃ t : Nat → Bool, t = fun i => u i || v i := ⟨_, rfl⟩
  rw [← ht] at K hY ⊢
  have c0 : W.cell? ⟨B, 0, none⟩ = some (.pointer (some ⟨g, 0, none⟩)) := blk_cell hB1
  have HY := hidden hY
  have HJ := hidden hJ
  have H0 := hidden h0
  have hXW : ∀ j, X j → j < W.heap.size := fun j hj => Nat.lt_of_lt_of_le (hX j hj) hW.size
  have HXW := hidden hXW
  clear hW hY hJ h0 hB1 hS1 hT1 kW hB h hT ht hX hxB hxg hxT hXW
  refine callsIn_of_wp Tryd.func51 rfl trivial ?_ rfl
  simp only [Tryd.ntmps51, List.size_toArray, List.length_cons, List.length_nil, Nat.reduceAdd, Nat.reduceSub, Array.replicate_succ, Array.replicate_zero, List.push_toArray, List.append_toArray, List.nil_append, List.cons_append]
  gi_wp2_with (first
    | (refine ⟨trivial, ?_⟩; gi_at_call 44; refine (A.out).mono ?_; rintro e w1 ⟨rfl, rfl⟩)
    | (refine ⟨trivial, ?_⟩; gi_at_call 49; refine (K.out).mono ?_; rintro e w3 ⟨cc, rfl, hc, hb, k3⟩; have K3 := hidden k3; have HC := hidden hc; have HBm := hidden hb; have KX := hidden (KC.of (X := X) (k3.alloc (.cells cc 53)) (fun _ h => h.elim)); have BX := hidden (blk_new w3 (.cells cc 53)); have HJ0 := hidden (HJ.out _ _ _ none H0.out (grownBy_same' (k3.alloc (.cells cc 53))) (fun r e => by cases e)); clear hc hb k3)
    | (refine wlIn_store 53 _ _ rfl rfl rfl _ rfl cc rfl (run_storeAt_new w3 53 _ cc (by rw [iBm, HC.out]) (by rw [HC.out]; rfl) (HBm.out.one HC.out)) ?_; have c1 : (w3.alloc (.cells cc 53)).cell? ⟨B, 0, none⟩ = some (.pointer (some ⟨g, 0, none⟩)) := blk_cell (HB.out _ KX.out); obtain ⟨cs, hb, hz, hf, hcn, hrest⟩ := (HS.out _ KX.out).box; have c2 : (w3.alloc (.cells cc 53)).cell? ⟨g, 1, none⟩ = some (.int .i64 count) := (blk_cell hb).trans hcn; clear hb hz hf hcn hrest)
    | (refine ⟨trivial, ?_⟩; gi_at_call 52; refine ((callsIn_wide (n := 4)).2 (bm_firstUnset w3.heap.size 0 53 cc t 0 count _ BX.out HBm.out (HTb.out _ KX.out).tab (by omega) (by omega))).mono ?_; rintro e w4 ⟨n0, rfl, hF, rfl⟩; have HF := hidden hF; clear hF))
  obtain ⟨tb, htb⟩ : ∃ tb, tb = w3.heap.size := ⟨_, rfl⟩
  have hxt : ¬ X tb := fun hx => by have h1 := HXW.out tb hx; have h2 := K3.out.size; omega
  rw [← htb] at BX ⊢
  generalize w3.alloc (.cells cc 53) = w5 at *
  have HBt := hidden (fun W1 (k : KC X w5 W1) => k.cells BX.out hxt)
  have hn0 := HF.out.hi
  have r0 : rp t n0 = [] := by
    have := rp_skip (t := t) (a := 0) n0 (fun j h1 h2 => by have := HF.out.none j h1 (by omega); simpa using this)
    rw [Nat.zero_add] at this
    exact this
  have hs0 : n0 < count → t n0 = false := fun h => by have := HF.out.some h; simpa using this
  have HR0 := hidden r0
  have HS0 := hidden hs0
  have HN0 := hidden hn0
  clear c0 c1 c2 htb K3 HF A K H0 HXW r0 hs0 hn0 hxt
  gi_loopw [4] (fun p wr => ∃ i : Nat, p = .int .i64 i ∧ i ≤ count ∧ (i < count → t i = false ∧ ∀ r ∈ rp t i, r.1 + r.2 < i) ∧ J (lf count (rp t i)) wr ∧ KC X w5 wr) (fun p _ => count - (intOf p).toNat)
  case atStart => exact ⟨n0, rfl, HN0.out, fun h => ⟨HS0.out h, by rw [HR0.out]; intro r hr; cases hr⟩, by rw [HR0.out]; exact HJ0.out, KC.refl _ _⟩
  case round =>
    obtain ⟨i, rfl, hi, hcl, hJi, hK⟩ := hrel
    have HCl := hidden hcl
    have HJi := hidden hJi
    have HK := hidden hK
    clear hcl hJi hK
    have cB : wr.cell? ⟨B, 0, none⟩ = some (.pointer (some ⟨g, 0, none⟩)) := blk_cell (HB.out _ (KX.out.trans HK.out))
    obtain ⟨cs, hb, hz, hf, hcn, hrest⟩ := (HS.out _ (KX.out.trans HK.out)).box
    have cf : wr.cell? ⟨g, 0, none⟩ = some (.int .i64 first) := (blk_cell hb).trans hf
    have ccn : wr.cell? ⟨g, 1, none⟩ = some (.int .i64 count) := (blk_cell hb).trans hcn
    clear hb hz hf hcn hrest
    by_cases h1 : i < count
    · have q1 : (i : Int) < (count : Int) := by omega
      have CF := hidden ((callsIn_wide (n := 4)).2 (bm_firstSet tb 0 53 cc t i count wr (HBt.out _ HK.out) HBm.out (HTb.out _ (KX.out.trans HK.out)).tab (by omega) (by omega)))
      have m1 : IntKind.i64.wrap ((first : Int) + (i : Int)) = (first : Int) + (i : Int) := by rw [IntKind.wrap_i64]; omega
      gi_wp2_with (refine ⟨trivial, ?_⟩; gi_at_call 50; refine (CF.out).mono ?_; rintro e w6 ⟨n, rfl, hF, rfl⟩; obtain ⟨hti, hci⟩ := HCl.out h1; have hin : i < n := Nat.lt_of_le_of_ne hF.lo (fun e => by have := hF.some (by omega); rw [← e, hti] at this; cases this); have hnc : n ≤ count := hF.hi; have hrr : rp t n = rp t i ++ [(i, n - i)] := (by have := rp_run (t := t) (a := i) hci (n - i - 1) (fun j h1 h2 => hF.none j h1 (by omega)); rw [show n - i - 1 + 1 = n - i by omega, show i + (n - i) = n by omega] at this; exact this); have htn : n = count ∨ t n = true := (by by_cases h : n < count; exact .inr (hF.some h); exact .inl (by omega)); have hrun : lf count (rp t n) = lf count (rp t i) ++ [⟨(i, n - i), (show i + (n - i) ≤ count by omega)⟩] := (by rw [hrr, lf_app, lf_one]); have HRun := hidden hrun; have HTn := hidden htn; have hpre := lf_pre count (rp_prefix hnc htn); have HPre := hidden hpre; have hlen : (lf count (rp t i)).length < (lf count (rp t count)).length := (by have h5 := hpre.length_le; rw [hrun, List.length_append] at h5; simp at h5; omega); obtain ⟨fn, tmps, assign, body, hy, hR⟩ := HY.out (lf count (rp t i)) ⟨(i, n - i), (show i + (n - i) ≤ count by omega)⟩ _ HJi.out hlen; dsimp only [encR] at hy; have m2 : (n : Int) - (i : Int) = ((n - i : Nat) : Int) := (by omega); rw [← m2] at hy; have m4 : IntKind.i64.wrap ((n : Int) - (i : Int)) = (n : Int) - (i : Int) := (by rw [IntKind.wrap_i64]; omega); clear hF hti hci hrun hrr htn hpre hlen m2)
      refine hR.mono ?_
      rintro e W3 (⟨rfl, hJ3, hk3⟩ | ⟨rfl, hJx3⟩)
      · have HJ3 := hidden hJ3
        have HK3 := hidden (HK.out.trans hk3)
        have dB : W3.cell? ⟨B, 0, none⟩ = some (.pointer (some ⟨g, 0, none⟩)) := blk_cell (HB.out _ (KX.out.trans HK3.out))
        obtain ⟨cs, hb, hz, hf, hcn, hrest⟩ := (HS.out _ (KX.out.trans HK3.out)).box
        have dcn : W3.cell? ⟨g, 1, none⟩ = some (.int .i64 count) := (blk_cell hb).trans hcn
        have CU := hidden ((callsIn_wide (n := 4)).2 (bm_firstUnset tb 0 53 cc t n count W3 (HBt.out _ HK3.out) HBm.out (HTb.out _ (KX.out.trans HK3.out)).tab (by omega) (by omega)))
        clear hb hz hf hcn hrest hJ3 hk3 hR hy
        gi_wp2_with (refine ⟨trivial, ?_⟩; gi_at_call 52; refine (CU.out).mono ?_; rintro e w7 ⟨n2, rfl, hF, rfl⟩; have HF := hidden hF; clear hF)
        have hlo := HF.out.lo
        have hhi := HF.out.hi
        have hsk : rp t n2 = rp t n := by
          have := rp_skip (t := t) (a := n) (n2 - n) (fun j h1 h2 => by have := HF.out.none j h1 (by omega); simpa using this)
          rw [show n + (n2 - n) = n2 by omega] at this
          exact this
        go_roundw
        case rel =>
          refine ⟨n2, rfl, hhi, fun h => ?_, by rw [hsk, HRun.out]; exact HJ3.out, HK3.out⟩
          have hs := HF.out.some h
          have htf : t n2 = false := by simpa using hs
          refine ⟨htf, fun r hr => ?_⟩
          rw [hsk] at hr
          have hre := (rp_ends t n r hr).1
          rcases HTn.out with e | e
          · omega
          · have : n ≠ n2 := fun h => by rw [← h, e] at htf; cases htf
            omega
        case measure => simp [intOf]; omega
      · gi_wp2
        refine bodyPost_ret (results_none rfl _ _ _) rfl ?_
        exact ⟨⟨_, rfl⟩, .inr ⟨_, (by rw [← HRun.out]; exact HPre.out), hJx3⟩⟩
    · obtain rfl : i = count := by omega
      have q1 : ¬ (i : Int) < (i : Int) := by omega
      gi_wp2
      go_end0
      have h9 := HJi.out
      first | exact ⟨⟨_, rfl⟩, .inl ⟨_, rfl, h9⟩⟩ | exact ⟨⟨_, rfl⟩, .inl h9⟩
end Go.Proofs.YtbmbdidmbdanmaaDoor
