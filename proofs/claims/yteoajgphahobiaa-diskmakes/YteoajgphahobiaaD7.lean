/- disk's New; the law's own 'lives' for disk. -/
import Derived.Test.YteoajgphahobiaaD2
import Derived.Test.YteoajgphahobiaaD5w
import Derived.Test.YteoajgphahobiaaD5r
import Derived.Test.YteoajgphahobiaaD5p
import Derived.Test.YteoajgphahobiaaD5f
import Derived.Test.YteoajgphahobiaaD6
namespace Go.Proofs.Yteoajgphahobiaa
open Go.RowKit
set_option linter.unusedVariables false

theorem own_base {w : World} {B n s : Nat} {e : TypeId} {v : Value} {xs : List Value} (h : w.ownsRow B e s v n xs) : w.ownsRow 0 e s v n xs :=
  ⟨h.1, h.2.imp id fun ⟨g, cap, cur, a, _, b⟩ => ⟨g, cap, cur, a, Nat.zero_le _, b⟩⟩
theorem own_of_blk {w : World} {g c : Nat} {e : TypeId} {xs : List Value} (hb : w.heap[g]? = some (.cells xs.toArray e (0, 0))) (hl : xs.length = c) (hc : c ≤ 4096) : w.ownsRow 0 e 1 (.slice (some ⟨g, 0, none⟩) c c) c xs :=
  ⟨by simpa using hl, Or.inr ⟨g, c, xs.toArray, rfl, Nat.zero_le _, hb, Nat.le_refl _, by unfold maxLen; omega, by simpa using hl, by rw [Nat.mul_one, List.toList_toArray, List.take_of_length_le (by omega)]⟩⟩
/-- What New leaves. -/
structure Made (n c : Nat) (g : Nat) (w w' : World) : Prop where
  ex : ∃ pb rb rc z, w'.heap[g]? = some (.cells (DC n pb c c rb rc (.slice none 0 0) 0 0 0) 74 (0, 0)) ∧ w'.ownsRow 0 22 1 (.slice (some ⟨pb, 0, none⟩) c c) c (List.replicate c z) ∧
    w'.ownsRow 0 22 1 (.slice (some ⟨rb, 0, none⟩) c rc) c (List.replicate c z) ∧ w.heap.size ≤ g ∧ w.heap.size ≤ pb ∧ w.heap.size ≤ rb ∧ pb ≠ rb ∧ Same w w' ∧ Own w' z (List.replicate n 0) 0
set_option maxHeartbeats 1000000 in
set_option maxRecDepth 100000 in
theorem d_new (n c : Nat) (w : World) (hn : JSize n) (h1 : 1 ≤ c) (hc : c ≤ 4096) :
    Calls Try.prog 12 #[.int .i64 n, .int .i64 c] w fun e w' => ∃ g, e = .returned (.tuple #[.pointer (some ⟨g, 0, none⟩), .int .i64 0]) ∧ Made n c g w w' := by
  have hs := hidden (fun w => d_maySize n w)
  have hk := hidden (fun w => d_mayCount c w)
  rw [decide_eq_true hn] at hs
  rw [decide_eq_true (show (1 : Int) ≤ (c : Int) ∧ (c : Int) ≤ 4096 by omega)] at hk
  have hn4 : n ≤ 4096 := by have := hn.2.1; omega
  have hmk := make_bytes n (by omega)
  have hZm : (List.replicate n (U8 0)).toArray = ((List.replicate n (0 : UInt8)).map U8).toArray := by rw [List.map_replicate]
  generalize (List.replicate n (U8 0)).toArray = Z at hmk hZm
  have HZM := hidden hZm
  clear hZm
  have hrep := hidden (fun (g : Nat) (z : Value) (w : World) hz ho => repeat_one g c z w hc h1 hz ho)
  have hof := hidden (fun (g : Nat) (xs : List Value) (w : World) hb hl ho => d_of n g c xs w hc h1 hb hl ho)
  have hsz : Hid (∀ o1 o2 : Obj, ((w.alloc o1).alloc o2).heap.size = w.heap.size + 2) := fun _ _ => by simp
  have hz : Hid (∀ (o : Obj) (v : Value), ((w.alloc o).alloc (.cells #[v] 22)).cell? ⟨w.heap.size + 1, 0, none⟩ = some v) := fun o v => by
    have h := blk_cell (j := 0) (heap_alloc_new (w.alloc o) (.cells #[v] 22))
    have hs : (w.alloc o).heap.size = w.heap.size + 1 := by simp
    rw [hs] at h
    exact h
  clear hn
  go_enter Try.func12, Try.ntmps12
  go_wp2_with (first
    | (go_at_call 34; refine (hs.out _).mono ?_; rintro e w1 ⟨rfl, rfl⟩)
    | (go_at_call 35; refine (hk.out _).mono ?_; rintro e w1 ⟨rfl, rfl⟩)
    | (go_at_call 37; go_must (refine (hrep.out (w.heap.size + 1) (.slice (some ⟨w.heap.size, 0, none⟩) n n) _ (hz.out _ _) rfl).mono ?_); rintro e w2 ⟨he, b2, k2⟩; rw [hsz.out] at he b2; subst he; have B2 := hidden b2; have K2 := hidden k2; clear b2 k2)
    | (go_at_call 36; go_must (refine (hof.out (w.heap.size + 2) _ _ B2.out (by simp) (fun u hu => by rw [List.eq_of_mem_replicate hu]; rfl)).mono ?_); rintro e w3 ⟨r, cap, gd, rfl, hr, hgd, ho3, hb3, k3⟩; have R3 := hidden ho3; have B3 := hidden hb3; have K3 := hidden k3; clear ho3 hb3 k3))
  go_returns
  have z2 := K2.out.size
  have z3 := blk_lt B2.out
  rw [hsz.out] at z2
  refine ⟨gd, rfl, ⟨w.heap.size + 2, r, cap, _, B3.out, own_of_blk (blk_kept K3.out (fun h => h) B2.out) (by simp) hc, own_base R3.out, by omega, by omega, by omega, by omega, ?_⟩⟩
  have KK : Same (w.alloc (.cells Z 5)) w3 := Kept.trans (Kept.trans (same_alloc _ _) K2.out) K3.out
  exact ⟨Kept.trans (same_alloc _ _) KK, ⟨w.heap.size, Nat.zero_le _, by rw [List.length_replicate], by rw [← HZM.out]; exact blk_kept KK (fun h => h) (heap_alloc_new w _)⟩⟩
theorem Same.of {w a b : World} {S : Nat → Prop} (h : Same w a) (k : Kept S a b) (hs : ∀ i, i < w.heap.size → ¬ S i) : Same w b := h.trans' k (fun i hi hsi => hs i hi hsi)
theorem Own.apart {w : World} {u : Value} {l : List UInt8} {B g : Nat} {cs : Array Value} (h : Own w u l B) (hb : w.heap[g]? = some (.cells cs 74 (0, 0))) : ∀ a k cap, u = .slice (some a) k cap → a.block ≠ g := by
  rintro a k cap hu rfl
  obtain ⟨gu, _, e, hbu⟩ := h
  rw [hu] at e
  obtain ⟨rfl⟩ : a = ⟨gu, 0, none⟩ := by simpa using (Value.slice.inj e).1
  rw [hb] at hbu
  simp at hbu
set_option maxHeartbeats 4000000 in
set_option maxRecDepth 100000 in
theorem d_lives (w : World) : Calls Try.prog 11 #[] w fun e w' => e = .returned (.bool true) ∧ Same w w' := by
  have hnew := hidden (fun w => d_new 512 2 w (by unfold JSize Pow; decide) (by decide) (by decide))
  have hfl := hidden (fun w => filled_any 512 5 w (by decide) (by decide))
  have hfn : (flTo 512 5 (min 512 40)).length = 512 := flTo_len _ _ _
  generalize flTo 512 5 (min 512 40) = L at hfl hfn
  have HL := hidden hfn
  clear hfn
  have tok1 : True := trivial
  have tok2 : True := trivial
  go_enter Try.func11, Try.ntmps11
  go_wp2_with (first
    | (go_at_call 12; refine (hnew.out _).mono ?_; rintro e w1 ⟨g, rfl, hM⟩; obtain ⟨pb, rb, rc, z, b1, p1, r1, lg, lp, lr, lpr, k1, _⟩ := hM.ex; have B1 := hidden b1; have P1 := hidden p1; have R1 := hidden r1; have K1 := hidden k1; clear b1 p1 r1 k1 hM)
    | (go_at_call 24; have _t := tok1; refine (hfl.out _).mono ?_; rintro e w2 ⟨u2, rfl, o2, k2⟩; clear tok1; obtain ⟨ua, uc, hue⟩ := o2.byt.form; subst hue; have O2 := hidden o2; have K2 := hidden (Kept.trans K1.out k2); have B2 := hidden (blk_kept k2 (fun h => h) B1.out); have P2 := hidden (own_kept P1.out k2 (fun _ _ h => h)); have R2 := hidden (own_kept R1.out k2 (fun _ _ h => h)); clear o2 k2)
    | (go_at_call 23; refine (d_write 512 pb 2 2 rb rc g 1 0 (.slice none 0 0) [] (List.replicate 2 z) 0 0 0 _ L _ B2.out R2.out (World.ownsRow_nil _ _ _ _) O2.out.byt HL.out (by decide) (by decide) (by decide) (by decide)).mono ?_; rintro e w3 ⟨rfl, hW⟩; obtain ⟨u3, gq, qc, o3, b3, r3, q3, k3, _⟩ := hW.ex; have n3 : pb ≠ g := fun e => own_apart P2.out B2.out (by decide) (by rw [← e]; rfl); have P3 := hidden (own_kept P2.out k3 (fun i hi hs => by simp [Value.ownBlock] at hi hs; omega)); have K3 := hidden (Same.of K2.out k3 (fun i hi hs => by simp [Value.ownBlock] at hs; omega)); have O3 := hidden o3; have B3 := hidden b3; have R3 := hidden r3; have Q3 := hidden q3; have hN : Hid (∀ k, k < 1 → ∃ (N : Nat) (a : Option Addr) (x y : Nat), ([] ++ [Value.int .i64 ((1 : Nat) : Int), u3] : List Value)[k * 2]? = some (.int .i64 N) ∧ ([] ++ [Value.int .i64 ((1 : Nat) : Int), u3] : List Value)[k * 2 + 1]? = some (.slice a x y) ∧ N < 2) := (fun k hk => by obtain rfl : k = 0 := (by omega); obtain ⟨a3, c3, h3⟩ := o3.byt.form; exact ⟨1, a3, _, c3, rfl, by rw [h3]; rfl, by decide⟩); clear o3 b3 r3 q3 k3 hW)
    | (go_at_call 20; have _t := tok2; refine (d_pending 512 pb 2 2 rb rc g (0 + 1) _ _ 0 (0 + 1) 0 _ (by decide) B3.out Q3.out hN.out).mono ?_; rintro e w4 ⟨rfl, k4⟩; clear tok2; have K4 := hidden (Kept.trans K3.out k4); have B4 := hidden (blk_kept k4 (fun h => h) B3.out); have P4 := hidden (own_kept P3.out k4 (fun _ _ h => h)); have R4 := hidden (own_kept R3.out k4 (fun _ _ h => h)); have Q4 := hidden (own_kept Q3.out k4 (fun _ _ h => h)); have O4 := hidden (O3.out.same k4); clear k4)
    | (go_at_call 29; refine (d_read 512 pb 2 2 rb rc g 1 _ _ 0 (0 + 1) 0 u3 L _ B4.out R4.out (by decide) (by rfl) O4.out.byt (O4.out.apart B4.out) (by rw [HL.out]; decide) (by decide)).mono ?_; rintro e w5 ⟨u5, rfl, o5, b5, k5⟩; have q5 : gq ≠ g := (fun e => own_apart Q4.out B4.out (by decide) (by rw [← e]; rfl)); have Q5 := hidden (own_kept Q4.out k5 (fun i hi hs => by simp [Value.ownBlock] at hi; omega)); have P5 := hidden (own_kept P4.out k5 (fun i hi hs => by simp [Value.ownBlock] at hi; omega)); have K5 := hidden (Same.of K4.out k5 (fun i hi hs => by omega)); have O5 := hidden o5; have B5 := hidden b5; obtain ⟨va, vc, hve⟩ := o5.byt.form; subst hve; clear o5 b5 k5)
    | (go_at_call 24; refine (hfl.out _).mono ?_; rintro e w6 ⟨u6, rfl, o6, k6⟩; have O6 := hidden o6; have K6 := hidden (Kept.trans K5.out k6); have B6 := hidden (blk_kept k6 (fun h => h) B5.out); have P6 := hidden (own_kept P5.out k6 (fun _ _ h => h)); have Q6 := hidden (own_kept Q5.out k6 (fun _ _ h => h)); have X6 := hidden (O5.out.same k6); clear k6 o6)
    | (go_at_call 14; refine (same_eq _ _ L _ X6.out.byt O6.out.byt (by rw [HL.out]; decide)).mono ?_; rintro e w7 ⟨rfl, k7⟩; have K7 := hidden (Kept.trans K6.out k7); have B7 := hidden (blk_kept k7 (fun h => h) B6.out); have P7 := hidden (own_kept P6.out k7 (fun _ _ h => h)); have Q7 := hidden (own_kept Q6.out k7 (fun _ _ h => h)); clear k7)
    | (go_at_call 25; refine (d_flush 512 pb 2 2 rb rc g (0 + 1) gq qc _ _ (0 + 1) (0 + 1) 0 _ B7.out Q7.out hN.out P7.out (by decide) (by decide)).mono ?_; rintro e w8 ⟨rfl, b8, k8⟩; have K8 := hidden (Same.of K7.out k8 (fun i hi hs => by omega)); have B8 := hidden b8; clear b8 k8)
    | (go_at_call 20; refine (d_pending 512 pb 2 2 rb rc g 0 (.slice none 0 0) [] (0 + 1) (0 + 1) (0 + 1) _ (by decide) B8.out (World.ownsRow_nil _ _ _ _) (fun k hk => absurd hk (by omega))).mono ?_; rintro e w9 ⟨rfl, k9⟩; have K9 := hidden (Kept.trans K8.out k9); clear k9))
  go_returns
  exact ⟨rfl, K9.out⟩
end Go.Proofs.Yteoajgphahobiaa
