/- pack: the program's Scan. -/
import Derived.Test.YtafdkfieajdeiaaDoorPS3
import Derived.Test.YtafdkfieajdeiaaDoorQuietS
import Derived.Deep.QuietTactic
namespace Go.Proofs.YtafdkfieajdeiaaDoor
open Go.RowKit
set_option linter.unusedVariables false
set_option linter.unusedSimpArgs false
theorem scR_arg {size count : Int} {b : List UInt8} (h : ¬ (PMay size count ∧ (b.length : Int) = size * count)) : scR size count b = (0, [], false, 1) := by unfold scR; rw [if_neg h]
set_option maxHeartbeats 2000000 in
set_option maxRecDepth 100000 in
theorem scan_arg (size count : Int) (b : List UInt8) (v : Value) (w : World) (hb : Bt w v b) (h : ¬ (PMay size count ∧ (b.length : Int) = size * count)) :
    Calls Tryd.prog 25 #[.int .i64 size, .int .i64 count, v] w fun e w' => ∃ u, e = .returned u ∧ ScQ size count b w u w' := by
  have he := scR_arg h
  have HR := hidden (show ∀ W, Same w W → ∃ u, Ending.returned (.tuple #[.int .u32 0, .slice none 0 0, .bool false, .int .i64 1]) = .returned u ∧ ScQ size count b w u W from fun W k => ⟨_, rfl, ⟨_, by rw [he]; rfl, by rw [he]; exact SlM.nil _, k⟩⟩)
  obtain ⟨ao, cap, rfl, _⟩ := hb.form
  have HM := hidden (fun W => p_mayBe size count W)
  by_cases hm : PMay size count
  · rw [decide_eq_true hm] at HM
    obtain ⟨h1, h2, h3⟩ := hm
    obtain ⟨h4, h5, _⟩ := h1
    have hlen : (b.length : Int) ≠ size * count := fun e => h ⟨⟨⟨h4, h5, ‹_›⟩, h2, h3⟩, e⟩
    have hp : size * count ≤ 4096 * 64 := Int.mul_le_mul h5 h3 (by omega) (by omega)
    have hp0 : 0 ≤ size * count := Int.mul_nonneg (by omega) (by omega)
    have hw : IntKind.i64.wrap (size * count) = size * count := by rw [IntKind.wrap_i64]; omega
    obtain ⟨M, hM⟩ : ∃ M, size * count = M := ⟨_, rfl⟩
    rw [hM] at hlen hw
    have q1 : ((b.length : Int) != M) = true := by simpa using hlen
    have q2 : ((b.length : Int) == M) = false := by simpa using hlen
    clear hb he h hp hp0
    go_enter Tryd.func25, Tryd.ntmps25
    go_wp2_with (go_at_call 35; refine (HM.out _).mono ?_; rintro e w1' ⟨rfl, rfl⟩)
    go_returns
    exact HR.out _ (Kept.refl _ _)
  · rw [decide_eq_false hm] at HM
    clear hb he h
    go_enter Tryd.func25, Tryd.ntmps25
    go_wp2_with (go_at_call 35; refine (HM.out _).mono ?_; rintro e w1' ⟨rfl, rfl⟩)
    go_returns
    exact HR.out _ (Kept.refl _ _)
set_option maxHeartbeats 4000000 in
set_option maxRecDepth 100000 in
theorem scan_ok (s c : Nat) (b : List UInt8) (ao : Option Addr) (n cap : Nat) (w : World) (hb : Bt w (.slice ao n cap) b) (hm : PMay s c) (hn : n = s * c) (hT : Tab w) :
    Calls Tryd.prog 25 #[.int .i64 (s : Nat), .int .i64 (c : Nat), .slice ao n cap] w fun e w' => ∃ u, e = .returned u ∧ ScQ s c b w u w' := by
  have hl : b.length = n := hb.len.1.symm
  have hm' := hm
  obtain ⟨⟨h4, h5, _⟩, h2, h3⟩ := hm'
  have hn0 : 512 ≤ n := by rw [hn]; exact Nat.le_trans (by omega) (Nat.mul_le_mul (show 512 ≤ s by omega) (show 1 ≤ c by omega))
  have hn1 : n ≤ 262144 := by rw [hn]; exact Nat.mul_le_mul (show s ≤ 4096 by omega) (show c ≤ 64 by omega)
  have hsc : (s : Int) * (c : Int) = (n : Int) := by rw [hn]; simp
  have hcond : PMay s c ∧ (b.length : Int) = (s : Int) * (c : Int) := ⟨hm, by rw [hsc, hl]⟩
  have HM := hidden (fun W => p_mayBe (s : Int) (c : Int) W)
  rw [decide_eq_true hm] at HM
  have hw : IntKind.i64.wrap ((s : Int) * (c : Int)) = (n : Int) := by rw [hsc, IntKind.wrap_i64]; omega
  have q1 : ((n : Int) != (n : Int)) = false := by simp
  obtain ⟨p16, hsl, hb16⟩ := hb.head (j := 16) (by omega) 16 rfl
  have htx := fun W (k : Same w W) => (hb16 W k).text
  have htx0 := htx w (Kept.refl _ _)
  have ht16 : (b.take 16).length = 16 := by rw [List.length_take]; omega
  have hcut : ∀ W : World, (Instr.sliceAt 9 (.string ⟨(b.take 16).toArray⟩) (some (.int .i64 4)) none none).run Tryd.prog W = .ok (.string ⟨((b.take 16).drop 4).toArray⟩) W := fun W => by
    rw [run_sliceAt_string (h := Tryd.underlying9), run_slice_string_from_if (h := Tryd.underlying9), if_pos (by rw [ba_size, ht16]; decide)]
    have e : (⟨(b.take 16).toArray⟩ : ByteArray).extract (4 : Int).toNat (⟨(b.take 16).toArray⟩ : ByteArray).size = ⟨((b.take 16).drop 4).toArray⟩ := by
      apply ByteArray.ext
      rw [ByteArray.data_extract, ba_size]
      simp
      exact List.take_of_length_le (by rw [List.length_drop, List.length_take]; omega)
    rw [e]
  have g0 : ∀ W : World, Rd W.heap.size (⟨((b.take 16).drop 4).toArray⟩, 0) (W.alloc (.cells #[.string ⟨((b.take 16).drop 4).toArray⟩, .int .i64 0] 110)) := fun W => Rd.new _ W (by rw [ba_size, List.length_drop]; omega)
  have HG := hidden g0
  have hid : rnum (⟨((b.take 16).drop 4).toArray⟩, 0) 4 = scId b := by
    rw [rnum4 _ (by rw [List.length_drop, ht16]; decide)]
    unfold scId
    rw [List.drop_take, List.take_take]
    rfl
  have HU := hidden (fun g W (h : Rd g (⟨((b.take 16).drop 4).toArray⟩, 0) W) => rU32 h)
  rw [hid] at HU
  have hid4 : scId b < 4294967296 := by
    unfold scId
    have := num_lt ((b.drop 4).take 4)
    have hh : ((b.drop 4).take 4).length = 4 := by rw [List.length_take, List.length_drop]; omega
    rw [hh] at this
    exact this
  have HH := hidden (fun W (k : Same w W) => p_headOf (scId b) c hid4 (by omega) W (hT.same k))
  obtain ⟨pf, hslf, hbf⟩ := hb.head (j := n - 16) (by omega) ((n : Int) - 16) (by omega)
  obtain ⟨pz, hslz, hbz⟩ := hb.tail (i := n - 16) (by omega) ((n : Int) - 16) (by omega)
  rw [show n - (n - 16) = 16 by omega] at hslz hbz
  have hwn : IntKind.i64.wrap ((n : Int) - 16) = (n : Int) - 16 := by rw [IntKind.wrap_i64]; omega
  have hfl : (b.take (n - 16)).length = n - 16 := by rw [List.length_take]; omega
  have HSf := hidden (fun W => slotsOf_fn pf (n - 16) cap W)
  have HCo := hidden (fun W (k : Same w W) bb (hx : W.heap[bb]? = some (.cells #[.slice pf (n - 16) cap] 32 (0, 0))) => collect_any bb (.slice pf (n - 16) cap) (b.take (n - 16)) W (hT.same k) (hbf W k) hx (by omega) (by omega))
  have hscL : slotsA (b.take (n - 16)) = scL b := by unfold scL; rw [hl]
  rw [hscL] at HCo
  obtain ⟨hf1, hf2⟩ := scL_few b (by omega)
  have HFo := hidden (fun W (k : Same w W) u (h : SlM W u (scL b)) => footOf_any u (scL b) W (hT.same k) h hf1 hf2)
  have HTZ := hidden (fun W (k : Same w W) => (hbz W k).text)
  have hbn : b.length - 16 = n - 16 := by rw [hl]
  have hR : scR (s : Int) (c : Int) b = if b.take 16 = headB (scId b) c then (scId b, scL b, decide (b.drop (n - 16) = edgeB dfot (scL b).length (endL (scL b))), 0) else (0, [], false, 130) := by
    unfold scR
    rw [if_pos hcond, Int.toNat_natCast, hbn]
  clear hcond hm hn hsc g0 hid hid4 hb hb16 hbf hbz hfl hscL hf1 hf2 hbn ht16 hT htx h2 h3 h4 h5
  by_cases hq : b.take 16 = headB (scId b) c
  · rw [if_pos hq] at hR
    rw [← hq] at HH
    obtain ⟨sealed, hse⟩ : ∃ z, decide (b.drop (n - 16) = edgeB dfot (scL b).length (endL (scL b))) = z := ⟨_, rfl⟩
    rw [hse] at hR
    have HRR := hidden (show ∀ W u, SlM W u (scL b) → Same w W → ∃ x, Ending.returned (.tuple #[.int .u32 (scId b : Nat), u, .bool sealed, .int .i64 0]) = .returned x ∧ ScQ s c b w x W from fun W u h k => ⟨_, rfl, ⟨_, by rw [hR], by rw [hR]; exact h, k⟩⟩)
    clear hR hq
    obtain ⟨l, hl'⟩ : ∃ l, scL b = l := ⟨_, rfl⟩
    obtain ⟨id, hid'⟩ : ∃ i, scId b = i := ⟨_, rfl⟩
    rw [hl'] at HCo HFo HRR hse
    rw [hid'] at HH HU HRR
    obtain ⟨hd, hhd⟩ : ∃ x, (⟨(b.take 16).toArray⟩ : ByteArray) = x := ⟨_, rfl⟩
    rw [hhd] at htx0 hcut HH
    obtain ⟨h4, hh4⟩ : ∃ x, (⟨((b.take 16).drop 4).toArray⟩ : ByteArray) = x := ⟨_, rfl⟩
    rw [hh4] at hcut HG HU
    obtain ⟨fz, hfz⟩ : ∃ x, (⟨(b.drop (n - 16)).toArray⟩ : ByteArray) = x := ⟨_, rfl⟩
    rw [hfz] at HTZ
    obtain ⟨ft, hft⟩ : ∃ x, (⟨(edgeB dfot l.length (endL l)).toArray⟩ : ByteArray) = x := ⟨_, rfl⟩
    rw [hft] at HFo
    have hz : (fz.toList == ft.toList) = sealed := by
      rw [← hse]
      by_cases e : b.drop (n - 16) = edgeB dfot l.length (endL l)
      · rw [decide_eq_true e, ← hfz, ← hft, e]; simp
      · rw [decide_eq_false e]
        refine beqS_ne2 (fun e2 => e ?_)
        rw [← hfz, ← hft] at e2
        have := congrArg (fun x => x.data.toList) e2
        simpa using this
    clear hse hl' hid' hhd hh4 hfz hft hl
    go_enter Tryd.func25, Tryd.ntmps25
    go_wp2_with (first
      | (go_at_call 35; refine (HM.out _).mono ?_; rintro e w1' ⟨rfl, rfl⟩)
      | (go_at_call 53; refine (newReader _ _).mono ?_; rintro e w2 ⟨rfl, hw2⟩; have R2 := hidden (HG.out w); rw [← hw2] at R2; have K2 := hidden (same_alloc w (.cells #[.string h4, .int .i64 0] 110)); rw [← hw2] at K2; clear hw2)
      | (go_at_call 54; refine (HU.out _ _ R2.out).mono ?_; rintro e w3 ⟨rfl, _, k3⟩; have K3 := hidden (K2.out.trans' k3 (fun i hi h => by have h : i = w.heap.size := h; omega)); clear k3)
      | (go_at_call 36; refine (HH.out _ K3.out).mono ?_; rintro e w4 ⟨rfl, k4⟩; have K4 := hidden (K3.out.trans k4); clear k4)
      | (go_at_call 56; refine (HSf.out _).mono ?_; rintro e w5 ⟨rfl, hw5⟩; have B5 := hidden (blk_new w4 (.cells #[.slice pf (n - 16) cap] 32)); have K5 := hidden (K4.out.trans (same_alloc w4 (.cells #[.slice pf (n - 16) cap] 32))); rw [hw5] at B5 K5; clear hw5)
      | (go_at_call 55; refine (HCo.out _ K5.out _ B5.out).mono ?_; rintro e w6 ⟨u, rfl, hu, k6⟩; obtain ⟨ua, uc, hue, _⟩ := hu.form; subst hue; have U6 := hidden hu; have K6 := hidden (K5.out.trans k6); clear hu k6))
    have t0 : ∀ V : Later w6, (convert 32 9 (.slice pz 16 (cap - (n - 16)))).run Tryd.prog V.world = .ok (.string fz) V.world := fun V => HTZ.out _ (K6.out.trans V.kept)
    refine region_later (by kernel_rfl) (by kernel_rfl) ?_
    repeat (go_big_quiet_step ((first | (go_at_call 48; exact later_calls _ (HFo.out _ (K6.out.trans (Later.kept _)) _ (U6.out.same (Later.kept _)))))))
    refine wpQuiet_nil ?_
    rintro V ⟨LV, hE⟩
    have hV : Hid (Same w6 V) := hidden (by rw [hE]; exact LV.kept)
    clear hE LV t0
    go_wp2
    go_returns
    exact HRR.out _ _ (U6.out.same hV.out) (K6.out.trans hV.out)
  · rw [if_neg hq] at hR
    have HRR := hidden (show ∀ W, Same w W → ∃ x, Ending.returned (.tuple #[.int .u32 0, .slice none 0 0, .bool false, .int .i64 130]) = .returned x ∧ ScQ s c b w x W from fun W k => ⟨_, rfl, ⟨_, by rw [hR]; rfl, by rw [hR]; exact SlM.nil _, k⟩⟩)
    have hbe : ((⟨(b.take 16).toArray⟩ : ByteArray).toList == (⟨(headB (scId b) c).toArray⟩ : ByteArray).toList) = false := beqS_ne2 (fun e2 => hq (by
      have := congrArg (fun x => x.data.toList) e2
      simpa using this))
    clear hR hq HCo HFo HTZ
    obtain ⟨id, hid'⟩ : ∃ i, scId b = i := ⟨_, rfl⟩
    rw [hid'] at HH HU hbe
    obtain ⟨hd, hhd⟩ : ∃ x, (⟨(b.take 16).toArray⟩ : ByteArray) = x := ⟨_, rfl⟩
    rw [hhd] at htx0 hcut hbe
    obtain ⟨h4, hh4⟩ : ∃ x, (⟨((b.take 16).drop 4).toArray⟩ : ByteArray) = x := ⟨_, rfl⟩
    rw [hh4] at hcut HG HU
    obtain ⟨ho, hho⟩ : ∃ x, (⟨(headB id c).toArray⟩ : ByteArray) = x := ⟨_, rfl⟩
    rw [hho] at HH hbe
    clear hid' hhd hh4 hho hl
    go_enter Tryd.func25, Tryd.ntmps25
    go_wp2_with (first
      | (go_at_call 35; refine (HM.out _).mono ?_; rintro e w1' ⟨rfl, rfl⟩)
      | (go_at_call 53; refine (newReader _ _).mono ?_; rintro e w2 ⟨rfl, hw2⟩; have R2 := hidden (HG.out w); rw [← hw2] at R2; have K2 := hidden (same_alloc w (.cells #[.string h4, .int .i64 0] 110)); rw [← hw2] at K2; clear hw2)
      | (go_at_call 54; refine (HU.out _ _ R2.out).mono ?_; rintro e w3 ⟨rfl, _, k3⟩; have K3 := hidden (K2.out.trans' k3 (fun i hi h => by have h : i = w.heap.size := h; omega)); clear k3)
      | (go_at_call 36; refine (HH.out _ K3.out).mono ?_; rintro e w4 ⟨rfl, k4⟩; have K4 := hidden (K3.out.trans k4); clear k4))
    go_returns
    exact HRR.out _ K4.out
end Go.Proofs.YtafdkfieajdeiaaDoor
