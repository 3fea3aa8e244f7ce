/- The law's step, walked: Read. -/
import Derived.Test.YteoajgphahobiaaR16
namespace Go.Proofs.Yteoajgphahobiaa
open Go.RowKit
set_option linter.unusedVariables false
set_option maxHeartbeats 1000000 in
set_option maxRecDepth 100000 in
theorem d_readNo (g pb c pc : Nat) (i : Int) (w : World) (h1 : w.cell? ⟨g, 1, none⟩ = some (.slice (some ⟨pb, 0, none⟩) c pc)) (hi : ¬ (0 ≤ i ∧ i < c)) : Calls Try.prog 29 #[.pointer (some ⟨g, 0, none⟩), .int .i64 i] w fun e w' => e = .returned (.tuple #[.slice none 0 0, .int .i64 30]) ∧ w = w' := by
  have A := hidden (d_hasNo g pb c pc i w h1 hi)
  go_enter Try.func29, Try.ntmps29
  go_wp2_with (go_at_call 43; refine (A.out).mono ?_; rintro e w1 ⟨rfl, rfl⟩)
  go_returns
  exact ⟨rfl, rfl⟩
theorem zd_readNo {A : Nat → Prop} {B n c g pb pc rb rc : Nat} {s : St} {w : World} (h : ZD A B n c g pb pc rb rc s w) (i : Int) (hi : ¬ (0 ≤ i ∧ i < c)) :
    Calls Try.prog 29 #[.pointer (some ⟨g, 0, none⟩), .int .i64 i] w fun e w' => e = .returned (.tuple #[.slice none 0 0, .int .i64 30]) ∧ w = w' :=
  d_readNo g pb c pc i w h.cell1 hi
theorem rd_readNo {A : Nat → Prop} {B n c g pb pc : Nat} {s : St} {w : World} (h : RD A B n c g pb pc s w) (i : Int) (hi : ¬ (0 ≤ i ∧ i < c)) :
    Calls Try.prog 46 #[.pointer (some ⟨g, 0, none⟩), .int .i64 i] w fun e w' => e = .returned (.tuple #[.slice none 0 0, .int .i64 30]) ∧ w = w' := by
  obtain ⟨qv, qs, more, h1, _⟩ := h.ex
  exact r_readNo n c pb (n * c) pc g i qv s.lim more s.r s.wn s.f w h1 hi
/-- The program's Disk does something, and tells bytes of its own making. -/
theorem Pair.leftNew {A : Nat → Prop} {B n c g pb pc rb rc x xb xc q : Nat} {s1 s2 s1' : St} {w w' : World} (h : Pair A B n c g pb pc rb rc x xb xc s1 s2 w) (d : ZD (fun k => A k ∨ w.heap.size ≤ k) B n c g pb pc rb rc s1' w') (f : DF g pb rb w w') (hq : w.heap.size ≤ q) (hq2 : q < w'.heap.size) : Pair (fun k => A k ∨ k = q) B n c g pb pc rb rc x xb xc s1' s2 w' := by
  obtain ⟨o1, o2, o3, o4⟩ := h.outD
  have d' : ZD A B n c g pb pc rb rc s1' w' := d.more (fun k hk => Or.inl (Or.inl hk))
  have h2 := h.left d' f
  refine ⟨d.more (fun k hk => Or.inl (hk.imp id (fun e => by rw [e]; exact hq))), ?_, h2.qq, fun k hk => hk.elim (h2.hA k) (fun e => by rw [e]; exact hq2)⟩
  exact ((h.r.more (A' := fun k => A k ∨ w.heap.size ≤ k) (Or.inl h.r.ap) (fun k hk => hk)).kept f.kept o1 o2 o3 (fun i cs hi hs => absurd hs (o4 i cs hi))).more (Or.inl h.r.ap) (fun k hk => Or.inl (hk.imp id (fun e => by rw [e]; exact hq)))
set_option maxHeartbeats 4000000 in
set_option maxRecDepth 100000 in
theorem step_2n {A : Nat → Prop} {B n c g pb pc rb rc x xb xc M : Nat} {s : St} {w : World} (h : Pair A B n c g pb pc rb rc x xb xc s s w) (hM : SB M s) (hm : M ≤ 4398046511102) (hB : B ≤ w.heap.size) (p : Op5) (hp : p.ok w) (hk : p.kind = 2) (hN : ¬ (0 ≤ p.N ∧ p.N < c)) :
    Calls Try.prog 26 #[.pointer (some ⟨g, 0, none⟩), .pointer (some ⟨x, 0, none⟩), .agg #[.int .i64 p.kind, .int .i64 p.N, .int .u8 p.byte, .int .i64 p.more, p.kv]] w fun e w' => e = .returned (.bool true) ∧ Pair A B n c g pb pc rb rc x xb xc s s w' ∧ KF B g pb rb x xb w w' := by
  rw [hk]
  obtain ⟨kd, N, yb, mo, kv, ks⟩ := p
  obtain ⟨ka, kc, hkv⟩ := hp.ints.form
  simp only at hkv hN
  subst hkv
  have hPs : ∀ w', Same w w' → Pair A B n c g pb pc rb rc x xb xc s s w' := fun w' k => h.same k
  have HPS := hidden hPs
  have HN := hidden hN
  clear hp hk h hPs hM hN
  go_enter Try.func26, Try.ntmps26
  go_wp2_with (first
    | (go_at_call 29; go_must (refine (zd_readNo (HPS.out _ (same_alloc w _)).d N HN.out).mono ?_; rintro e w2 ⟨rfl, rfl⟩))
    | (go_at_call 46; go_must (refine (rd_readNo (HPS.out _ (same_alloc w _)).r N HN.out).mono ?_; rintro e w2 ⟨rfl, rfl⟩))
    | (go_at_call 14; go_must (refine (same_eq _ _ [] _ (Or.inl ⟨rfl, rfl⟩) (Or.inl ⟨rfl, rfl⟩) (by simp)).mono ?_; rintro e w3 ⟨rfl, k3⟩; have S3 := hidden (Kept.trans (same_alloc w _) k3); clear k3)))
  go_loopw [13] (fun t wr => t = .int .i64 0 ∧ wr = w3) (fun t wr => 0)
  case atStart => exact ⟨rfl, rfl⟩
  case round =>
    obtain ⟨rfl, rfl⟩ := hrel
    go_wp2
    go_returns
    exact ⟨rfl, HPS.out _ S3.out, (HPS.out _ (Kept.refl _ _)).kfS S3.out⟩
theorem Pair.rdlen {A : Nat → Prop} {B n c g pb pc rb rc x xb xc : Nat} {s1 s2 : St} {w : World} (h : Pair A B n c g pb pc rb rc x xb xc s1 s2 w) {i : Nat} (hi : i < c) : i < (app s1.pend s1.pl).length := by rw [app_len, h.d.ok.len]; exact hi
set_option maxHeartbeats 4000000 in
set_option maxRecDepth 100000 in
theorem step_2y {A : Nat → Prop} {B n c g pb pc rb rc x xb xc M : Nat} {s : St} {w : World} (h : Pair A B n c g pb pc rb rc x xb xc s s w) (hM : SB M s) (hm : M ≤ 4398046511102) (hB : B ≤ w.heap.size) (p : Op5) (hp : p.ok w) (hk : p.kind = 2) (i : Nat) (hi : i < c) (hN : p.N = i) :
    Calls Try.prog 26 #[.pointer (some ⟨g, 0, none⟩), .pointer (some ⟨x, 0, none⟩), .agg #[.int .i64 p.kind, .int .i64 p.N, .int .u8 p.byte, .int .i64 p.more, p.kv]] w fun e w' => e = .returned (.bool true) ∧ Pair A B n c g pb pc rb rc x xb xc s.read s.read w' ∧ KF B g pb rb x xb w w' := by
  rw [hk, hN]
  obtain ⟨kd, N, yb, mo, kv, ks⟩ := p
  obtain ⟨ka, kc, hkv⟩ := hp.ints.form
  simp only at hkv
  subst hkv
  have hPs : ∀ w', Same w w' → Pair A B n c g pb pc rb rc x xb xc s s w' := fun w' k => h.same k
  have HP := hidden h
  have HPS := hidden hPs
  have HM := hidden hM
  have HI := hidden hi
  have HIR := hidden (h.rdlen hi)
  have HLN : Hid (((app s.pend s.pl)[i]'(HIR.out)).length = n) := h.d.ok.appn _ (List.getElem_mem _)
  have HXL := hidden HP.out.r.lt
  have hn4 := h.d.hn
  have HBX : Hid (∀ cs t, ((w.alloc (.cells cs t))).heap[w.heap.size]? = some (.cells cs t (0, 0))) := fun cs t => heap_alloc_new w _
  clear hp hk h hPs hM hN hi
  generalize hap : (app s.pend s.pl)[i]'(HIR.out) = la at HLN
  have HAP := hidden hap
  clear hap
  go_enter Try.func26, Try.ntmps26
  go_wp2_with (first
    | (go_at_call 29; go_must (refine (zd_read ((HPS.out _ (same_alloc w _)).d.more (A' := fun k => A k ∨ (w.alloc _).heap.size ≤ k) (fun k hk => hk)) HM.out (by omega) i HI.out HIR.out).mono ?_; rintro e w2 ⟨u2, rfl, o2, d2, k2, f2⟩; obtain ⟨q1, hq1, hu, hb1⟩ := o2; rw [HAP.out] at hu hb1; rw [HLN.out] at hu; subst hu; have P2 := hidden ((HPS.out _ (same_alloc w _)).leftNew d2 f2 hq1 (blk_lt hb1)); have K2 := hidden ((HP.out.kfS (same_alloc w _)).trans ((HPS.out _ (same_alloc w _)).kfD f2)); have BX2 := hidden (HP.out.boxD' (same_alloc w _) (HBX.out _ _) f2); have cb2 : w2.cell? ⟨w.heap.size, 1, none⟩ = some (.int .i64 i) := blk_cell BX2.out; have EX2 := hidden (((HPS.out _ (same_alloc w _)).rowX f2).trans (rowOf_same HP.out.r.lt.1 (same_alloc w _))); have Q2 := hidden hb1; clear d2 k2 f2 hb1))
    | (go_at_call 46; go_must (refine (rd_read P2.out.r HM.out (by omega) i HI.out HIR.out).mono ?_; rintro e w3 ⟨go, gc, rfl, hgo, pr3, r3, k3, f3⟩; rw [HAP.out] at pr3; have P3 := hidden (P2.out.right r3 f3); have K3 := hidden (K2.out.trans (P2.out.kfR f3)); have Q3 := hidden (HP.out.boxR2 EX2.out (Nat.le_trans (same_alloc w _).size hq1) Q2.out f3); have PR3 := hidden pr3; have O3 : Hid (Byt w3 (.slice (some ⟨q1, 0, none⟩) n n) la) := Own.byt (B := 0) ⟨q1, Nat.zero_le _, (by rw [HLN.out]), Q3.out⟩; clear r3 k3 f3 pr3))
    | (go_at_call 14; go_must (refine (same_eq _ _ la _ O3.out PR3.out.byt (by rw [HLN.out]; omega)).mono ?_; rintro e w4 ⟨rfl, k4⟩; have P4 := hidden (P3.out.same k4); have K4 := hidden (K3.out.trans (P3.out.kfS k4)); have Q4 := hidden (blk_kept k4 (fun h => h) Q3.out); clear k4)))
  have HSq : Hid (w.heap.size ≤ q1) := (Nat.le_trans (same_alloc w _).size hq1)
  have HBq : Hid (B ≤ q1) := Nat.le_trans hB HSq.out
  have HQX : Hid (q1 ≠ xb) := fun e => by have := HXL.out.2.1; have := Nat.le_trans (same_alloc w _).size hq1; omega
  go_loopw [13] (fun t wr => ∃ (k : Nat) (l : List UInt8), k ≤ n ∧ t = .int .i64 k ∧ l.length = n ∧ wr.heap[q1]? = some (.cells (l.map U8).toArray 5 (0, 0)) ∧ Kept (fun i => i = q1) w4 wr) (fun t wr => n - (intOf t).toNat)
  case atStart => exact ⟨0, _, Nat.zero_le _, rfl, HLN.out, Q4.out, Kept.refl _ _⟩
  case round =>
    obtain ⟨k, l, hk, rfl, hl, hb, hK⟩ := hrel
    have HK := hidden hK
    have HB := hidden hb
    have HL := hidden hl
    by_cases h1 : k < n
    · have q1' : (k : Int) < (n : Int) := by omega
      have hx : ∃ z : UInt8, wr.cell? ⟨q1, k, none⟩ = some (U8 z) := ⟨l[k]'(by omega), by rw [blk_cell hb]; simp [hl, h1]⟩
      have hfz : wr.frozen? ⟨q1, k, none⟩ = false := blk_free hb
      obtain ⟨z, hx⟩ := hx
      have HU := hidden (u8_inc z)
      unfold U8 at hx
      clear hb hK hl
      go_wp2
      go_roundw
      case rel =>
        refine ⟨k + 1, l.set k (z + 1), by omega, by go_num, by rw [List.length_set]; exact HL.out, ?_, HK.out.setCell (p := ⟨q1, k, none⟩) rfl _⟩
        have e := HU.out
        rw [IntKind.wrap_u8'] at e
        rw [e, blk_set HB.out]
        simp [List.map_set]
      case measure => simp [intOf]; omega
    · have q1' : ¬ (k : Int) < (n : Int) := by omega
      clear hb hK hl
      go_wp2
      go_returns
      exact ⟨rfl, (P4.out.bump HK.out (Or.inr rfl) Q4.out HQX.out).more HP.out.r.ap (fun k hk => Or.inl hk), HP.out.kfB K4.out HK.out HSq.out HBq.out⟩
end Go.Proofs.Yteoajgphahobiaa
