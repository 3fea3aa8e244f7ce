/-
  CodecTurned (P2.9): for every kind, body, place and pattern: up to 32 neighbouring bits of a frame's body that are turned are told (ErrSum), and where none is turned the body is told: the law's call returns true and leaves its argument as it was.
  Condition: the table crcSteps holds what the program's text lays (the card ties it).
-/
import Derived.Test.YtilkpboegpfijaaDoorCTab
import Derived.Test.YtilkpboegpfijaaDoorTurn2
import Derived.BigRegion
import Derived.BigQuiet
import Derived.Deep.QuietTactic
import Derived.StillTailTactics
import Derived.Laws.IdiomStrings
namespace Go.Proofs.YtilkpboegpfijaaDoor
open Go.ChangeShapes Go.WideShapes Go.ChangeAt Go.RowKit Go.Joins Go.ChangeMaps
set_option linter.unusedVariables false

/-- Bytes in a block that may be written. -/
structure BRow (g : Nat) (L : List UInt8) (w : World) : Prop where
  cell : ∀ j b, L[j]? = some b → w.cell? ⟨g, j, none⟩ = some (U8 b)
  free : ∀ j, j < L.length → w.frozen? ⟨g, j, none⟩ = false
theorem BRow.made (w : World) (s : ByteArray) (c : Nat) : BRow w.heap.size s.data.toList (w.alloc (.cells (bytesRow s c) 5 ((bytesRow s c).size, (bytesRow s c).size + 1))) := by
  have hb : (w.alloc (.cells (bytesRow s c) 5 ((bytesRow s c).size, (bytesRow s c).size + 1))).heap[w.heap.size]? = some (.cells (bytesRow s c) 5 ((bytesRow s c).size, (bytesRow s c).size + 1)) := heap_alloc_new w _
  refine ⟨fun j b hj => ?_, fun j hj => ?_⟩
  · rw [cell_of_row _ _ _ _ _ _ hb]
    have hl : j < s.data.toList.length := (List.getElem?_eq_some_iff.1 hj).1
    have hl' : j < (s.data.map fun b => Value.int .u8 b.toNat).size := by simpa using hl
    unfold bytesRow
    rw [Array.getElem?_append_left hl', Array.getElem?_map]
    rw [Array.getElem?_toList] at hj
    rw [hj]
    rfl
  · have hl' : j < (bytesRow s c).size := by
      unfold bytesRow
      simp at hj ⊢
      omega
    simp only [World.frozen?, hb]
    simp
    omega
theorem wrap_pow8 (r : Nat) (h : 2 ^ r < 256) : IntKind.u8.wrap ((2 : Int) ^ r) = ((2 ^ r : Nat) : Int) := by
  have e : (2 : Int) ^ r = ((2 ^ r : Nat) : Int) := by simp
  rw [e, IntKind.wrap_u8']
  generalize 2 ^ r = x at *
  omega
theorem BRow.drew {g : Nat} {L : List UInt8} {w : World} (h : BRow g L w) : BRow g L w.drew := ⟨h.cell, h.free⟩
theorem BRow.put {g : Nat} {L : List UInt8} {w : World} (h : BRow g L w) (j : Nat) (hj : j < L.length) (b : UInt8) : BRow g (L.set j b) (w.setCell ⟨g, j, none⟩ (U8 b)) := by
  refine ⟨fun i c hi => ?_, fun i hi => ?_⟩
  · by_cases hij : i = j
    · subst hij
      rw [List.getElem?_set_self hj] at hi
      have := h.cell i L[i] (List.getElem?_eq_getElem hj)
      rw [World.cell?_setCell_same' _ _ _ (by rw [this]; rfl)]
      rw [show b = c by simpa using hi]
    · rw [List.getElem?_set_ne (fun e => hij e.symm)] at hi
      have := h.cell i c hi
      rw [← this]
      refine World.cell?_setCell_other _ _ _ _ (fun e => ?_)
      exact hij (congrArg Addr.off e).symm
  · rw [World.frozen?_setCell]
    exact h.free i (by simpa using hi)
set_option maxHeartbeats 4000000 in
set_option maxRecDepth 100000 in
theorem turned_walk (kind : Nat) (body : ByteArray) (place : Int) (turn : Nat) (w : World) (hk : kind < 256) (hb : body.size ≤ 140737488351232) (hp0 : -9223372036854775808 ≤ place) (hp1 : place ≤ 9223372036854775807) (ht : turn < 4294967296) (hT : Tab w) :
    Calls Tryd.prog 5 #[.agg #[.int .u8 kind, .string body, .int .i64 place, .int .u32 turn]] w fun e w' => e = .returned (.bool true) ∧ Same w w' := by
  have HT := hidden hT
  clear hT
  have K0 : Hid (Same w (w.alloc (.cells #[.int .u8 kind, .string body, .int .i64 place, .int .u32 turn] 49))) := hidden ((Kept.refl _ _).alloc _)
  by_cases hlong : 1048576 < body.size
  · have HK := hidden hk
    clear hk
    go_enter Tryd.func5, Tryd.ntmps5
    go_wp2
    go_quiet (fail)
    go_wp2_with (first
      | (go_at_call 23; refine (frame_long kind body _ hlong (by omega)).mono ?_; rintro e w1 ⟨rfl, k1⟩)
      | (go_at_call 8; refine (awake_any _ (HT.out.same (Kept.trans (Kept.drewN K0.out _) k1))).mono ?_; rintro e w2 ⟨rfl, k2⟩))
    go_returns
    exact ⟨rfl, Kept.trans (Kept.trans (Kept.drewN K0.out _) k1) k2⟩
  · by_cases hz : body.size = 0
    · have g1 := hidden (fun w h => frame_in kind body w hk (by omega) h)
      have HK := hidden hk
      have hz1 : ((body.size : Int) == 0) = true := beq_iff_eq.2 (by omega)
      have hle : decide ((body.size : Int) ≤ 1048576) = true := decide_eq_true (by omega)
      clear hk hz
      go_enter Tryd.func5, Tryd.ntmps5
      go_wp2
      go_quiet (fail)
      go_wp2_with (first
        | (go_at_call 23; refine (g1.out _ (HT.out.same (Kept.drewN K0.out _))).mono ?_; rintro e w1 ⟨rfl, k1⟩)
        | (go_at_call 8; refine (awake_any _ (HT.out.same (Kept.trans (Kept.drewN K0.out _) k1))).mono ?_; rintro e w2 ⟨rfl, k2⟩))
      go_returns
      exact ⟨rfl, Kept.trans (Kept.trans (Kept.drewN K0.out _) k1) k2⟩
    · have g1 := fun w h => frame_in kind body w hk (by omega) h
      have HL : Hid ((⟨(frameL kind body).toArray⟩ : ByteArray).data.toList = frameL kind body) := hidden (ba_list _)
      have HK := hidden hk
      have hd : ((8 : Int) * (body.size : Int) == 0) = false := beq_eq_false_iff_ne.2 (by omega)
      have hle : decide ((body.size : Int) ≤ 1048576) = true := decide_eq_true (by omega)
      have hz1 : ((body.size : Int) == 0) = false := beq_eq_false_iff_ne.2 (by omega)
      have hb1 : -(8 * (body.size : Int)) < place.tmod (8 * (body.size : Int)) := by
        have := Int.lt_tmod_of_pos place (show (0 : Int) < 8 * (body.size : Int) by omega)
        exact this
      have hb2 : place.tmod (8 * (body.size : Int)) < 8 * (body.size : Int) := Int.tmod_lt_of_pos place (by omega)
      have hz2 : 0 < body.size := by omega
      have hl2 : body.size ≤ 1048576 := by omega
      have HSz : Hid ((⟨(frameL kind body).toArray⟩ : ByteArray).size = 12 + body.size) := hidden (by rw [ba_size, frameL_len])
      clear hk hz hlong hb
      generalize (⟨(frameL kind body).toArray⟩ : ByteArray) = S at g1 HL HSz
      have G1 := hidden g1
      clear g1
      have hcv := fun W => run_bytes_of_string (P := Tryd.prog) W 9 51 5 S Tryd.underlying9 Tryd.underlying51 Tryd.underlying5
      have hcs : (∃ pl : Nat, pl < 8 * body.size ∧ place.tmod (8 * (body.size : Int)) < 0 ∧ Hid (place.tmod (8 * (body.size : Int)) + 8 * (body.size : Int) = (pl : Int))) ∨ (∃ pl : Nat, pl < 8 * body.size ∧ 0 ≤ place.tmod (8 * (body.size : Int)) ∧ Hid (place.tmod (8 * (body.size : Int)) = (pl : Int))) := by
        by_cases hs : place.tmod (8 * (body.size : Int)) < 0
        · exact Or.inl ⟨(place.tmod (8 * (body.size : Int)) + 8 * (body.size : Int)).toNat, by omega, hs, hidden (by omega)⟩
        · exact Or.inr ⟨(place.tmod (8 * (body.size : Int))).toNat, by omega, by omega, hidden (by omega)⟩
      rcases hcs with ⟨pl, hpl, hs, hpA⟩ | ⟨pl, hpl, hs, hpB⟩
      all_goals
        go_enter Tryd.func5, Tryd.ntmps5
        go_wp2
        go_quiet (fail)
        go_wp2_with (first
          | (go_at_call 23; refine (G1.out _ (HT.out.same (Kept.drewN K0.out _))).mono ?_; rintro e w1 ⟨rfl, k1⟩)
          | (go_at_call 8; refine (awake_any _ (HT.out.same (Kept.trans (Kept.drewN K0.out _) k1))).mono ?_; rintro e w2 ⟨rfl, k2⟩))
        have KB : Hid (Same w w2) := hidden (Kept.trans (Kept.trans (Kept.drewN K0.out _) k1) k2)
        have HZ : Hid (w.heap.size ≤ w2.heap.size) := hidden KB.out.size
        have BR := hidden (BRow.made w2.drew S (grownCap w2 S.size 0 5))
        clear k1 k2
        first | rw [hpA.out] | rw [hpB.out]
        have hpl' : (pl : Int) < 8 * (body.size : Int) := by omega
        clear hb1 hb2 hs hcv hd
        go_loopw [11, 12] (fun c i wr => ∃ (i' P : Nat) (ch : Bool) (L : List UInt8), i' ≤ 32 ∧ i = .int .i64 i' ∧ c = .bool ch ∧ (ch = true ↔ P ≠ 0) ∧ P < 2 ^ i' ∧ Turned body.size (8 * body.size - pl) S.data.toList L P ∧ BRow w2.heap.size L wr ∧ Same w wr) (fun _ i _ => 32 - (intOf i).toNat)
        case atStart => exact ⟨0, 0, false, S.data.toList, by omega, rfl, rfl, by simp, by simp, Turned.start _ _ _, BR.out, Kept.alloc (Kept.drew KB.out) _⟩
        case round =>
          obtain ⟨i, P, ch, L, hi, rfl, rfl, hch, hP, hTu, hBR, hS⟩ := hrel
          by_cases hlt : i < 32
          · by_cases hbit : ((turn : Int) / 2 ^ i).tmod 2 = 1
            · by_cases hin : pl + i < 8 * body.size
              · have hin' : (pl : Int) + (i : Int) < 8 * (body.size : Int) := by omega
                go_wp2
                obtain ⟨k, hk⟩ : ∃ k : Nat, k = pl + i := ⟨_, rfl⟩
                have hk' : (pl : Int) + (i : Int) = (k : Int) := by omega
                rw [hk']
                obtain ⟨q, hq⟩ : ∃ q : Nat, (k : Int) / 8 = (q : Int) := ⟨k / 8, by omega⟩
                obtain ⟨r, hr, hrk⟩ : ∃ r : Nat, (k : Int).tmod 8 = (r : Int) ∧ r = k % 8 := ⟨k % 8, by rw [Int.tmod_eq_emod_of_nonneg (by omega)]; omega, rfl⟩
                obtain ⟨c, hc⟩ : ∃ c : Nat, c = 8 + q := ⟨_, rfl⟩
                have hc' : (8 : Int) + (q : Int) = (c : Int) := by omega
                have hql : (c : Int) < (S.size : Int) := by have := HSz.out; omega
                have hrl : r < 8 := by omega
                have hwq : IntKind.i64.wrap (q : Int) = (q : Int) := by rw [IntKind.wrap_i64]; omega
                have hwc : IntKind.i64.wrap (c : Int) = (c : Int) := by rw [IntKind.wrap_i64]; have := HSz.out; omega
                have hwr : IntKind.i64.wrap (r : Int) = (r : Int) := by rw [IntKind.wrap_i64]; omega
                obtain ⟨b, hb⟩ : ∃ b, L[c]? = some b := ⟨_, List.getElem?_eq_getElem (by rw [hTu.len, size_list, HSz.out]; omega)⟩
                have c1 : wr.cell? ⟨w2.heap.size, c, none⟩ = some (U8 b) := hBR.cell _ _ hb
                have c2 : wr.frozen? ⟨w2.heap.size, c, none⟩ = false := hBR.free _ (by rw [hTu.len, size_list, HSz.out]; omega)
                unfold U8 at c1
                have HCL : Hid (c < L.length) := hidden (by rw [hTu.len, size_list, HSz.out]; omega)
                have HB := hidden hb
                have h2r : 2 ^ r < 256 := Nat.lt_of_lt_of_le (Nat.pow_lt_pow_right (by decide) hrl) (by decide)
                obtain ⟨b', hb'⟩ : ∃ b' : UInt8, b'.toNat = b.toNat ^^^ 2 ^ r := ⟨UInt8.ofNat (b.toNat ^^^ 2 ^ r), by
                  rw [UInt8.toNat_ofNat']
                  exact Nat.mod_eq_of_lt (Nat.xor_lt_two_pow (n := 8) b.toNat_lt h2r)⟩
                have hx : bits .xor .u8 (b.toNat : Int) (IntKind.u8.wrap (2 ^ r)) = (b'.toNat : Int) := by
                  rw [wrap_pow8 r h2r, u8_xor_nat _ _ b.toNat_lt h2r, hb']
                have HX := hidden hb'
                clear hb' h2r hb
                have HTu := hidden hTu
                have HBR := hidden hBR
                have HS := hidden hS
                have HP := hidden hP
                have HCH := hidden hch
                have HQ : Hid (c = 8 + (pl + i) / 8) := hidden (by omega)
                have HR : Hid (r = (pl + i) % 8) := hidden (by omega)
                have HIN := hidden hin
                clear hTu hBR hS hP hch hk hk' hin hin' hc hrk
                refine wp_region_still_tail 11 (by kernel_rfl) (by kernel_rfl) ?_
                change wpStill Tryd.prog _ wr.drew (fun a' => wpList Tryd.prog _ _ _ a' wr.drew) _ _
                simp only [List.take_succ_cons, List.take_zero, List.drop_succ_cons, List.drop_zero]
                repeat still_step
                refine wpStill_nil ?_
                go_wp2
                go_roundw
                case rel =>
                  refine ⟨i + 1, P + 2 ^ i, true, L.set c b', by omega, by go_num, rfl, ⟨fun _ => by have := Nat.two_pow_pos i; omega, fun _ => rfl⟩, by have := HP.out; rw [Nat.pow_succ]; omega, ?_, ?_, ?_⟩
                  · rw [HQ.out]
                    exact HTu.out.step rfl (by rw [size_list, HSz.out]; omega) HIN.out HP.out b b' (by rw [← HQ.out]; exact HB.out) (by rw [← HR.out]; exact HX.out)
                  · exact (BRow.put HBR.out c HCL.out b').drew
                  · exact (Kept.setNew HS.out HZ.out _).drew
                case measure => simp [intOf]; omega
              · have hin' : decide ((pl : Int) + (i : Int) < 8 * (body.size : Int)) = false := decide_eq_false (by omega)
                have HTu := hidden hTu
                have HBR := hidden hBR
                have HS := hidden hS
                have HP := hidden hP
                have HCH := hidden hch
                clear hTu hBR hS hP hch hin
                go_wp2
                go_roundw
                case rel => exact ⟨i + 1, P, ch, L, by omega, by go_num, rfl, HCH.out, Nat.lt_of_lt_of_le HP.out (Nat.pow_le_pow_right (by decide) (by omega)), HTu.out, HBR.out, HS.out⟩
                case measure => simp [intOf]; omega
            · have HTu := hidden hTu
              have HBR := hidden hBR
              have HS := hidden hS
              have HP := hidden hP
              have HCH := hidden hch
              clear hTu hBR hS hP hch
              go_wp2
              go_roundw
              case rel => exact ⟨i + 1, P, ch, L, by omega, by go_num, rfl, HCH.out, Nat.lt_of_lt_of_le HP.out (Nat.pow_le_pow_right (by decide) (by omega)), HTu.out, HBR.out, HS.out⟩
              case measure => simp [intOf]; omega
          · obtain rfl : i = 32 := by omega
            have hlen : L.length = S.size := by rw [hTu.len, size_list]
            have hcv2 : (convert 51 9 (.slice (some ⟨w2.heap.size, 0, none⟩) S.size (grownCap w2 S.size 0 5))).run Tryd.prog wr = .ok (.string ⟨L.toArray⟩) wr := by
              rw [← hlen]
              refine run_convert_bytes_back wr 51 9 5 ⟨w2.heap.size, 0, none⟩ _ L Tryd.underlying51 Tryd.underlying5 Tryd.underlying9 ?_
              intro j hj
              rw [add_plain, Nat.zero_add]
              exact hBR.cell j _ (List.getElem?_eq_getElem hj)
            have GU := fun W h => unframe_any ⟨L.toArray⟩ W (by rw [ba_size, hlen, HSz.out]; omega) h
            rw [HL.out] at hTu
            have HS := hidden hS
            by_cases hP0 : P = 0
            · have hLe : L = frameL kind body := hTu.none hP0
              have hu := unf_frame kind body ⟨#[]⟩ HK.out hl2
              have he : (⟨(frameL kind body).toArray⟩ ++ ⟨#[]⟩ : ByteArray) = ⟨L.toArray⟩ := by
                rw [hLe]
                apply ba_ext
                rw [fr_app]
                simp
              rw [he] at hu
              rw [hu] at GU
              obtain rfl : ch = false := by
                cases ch with
                | false => rfl
                | true => exact absurd hP0 (hch.1 rfl)
              have GH := hidden GU
              clear hTu hBR hS hP hch hP0 GU he hu hLe
              go_wp2_with (go_at_call 24; refine (GH.out _ (HT.out.same HS.out)).mono ?_; rintro e w5 ⟨rfl, k5⟩; unfold UnfEnd)
              go_returns
              exact ⟨rfl, Kept.trans HS.out k5⟩
            · rw [unf_turned kind body HK.out hl2 hTu hP hP0] at GU
              obtain rfl : ch = true := hch.2 hP0
              have GH := hidden GU
              clear hTu hBR hS hP hch hP0 GU
              go_wp2_with (go_at_call 24; refine (GH.out _ (HT.out.same HS.out)).mono ?_; rintro e w5 ⟨rfl, k5⟩; unfold UnfEnd)
              go_returns
              exact ⟨rfl, Kept.trans HS.out k5⟩
end Go.Proofs.YtilkpboegpfijaaDoor
namespace Go.Proofs.YtilkpboegpfijaaDoor.CodecTurned
open Go.ChangeShapes Go.WideShapes Go.ChangeAt Go.RowKit Go.Joins Go.ChangeMaps
set_option maxRecDepth 100000 in
theorem contract (H : Type) (enc : TypeId × Value → H) (W : World) (base : Nat) (args : Array Value) (ds gs : List (DataW H)) (before : List MemPlace)
    (hval : ∀ (j : Nat) t v, Tryd.f5.params[j]? = some t → args[j]? = some v → Value.okWide Tryd.prog W .any base t v)
    (hW : DataW.Whole enc Tryd.prog Tryd.f5.params.toList Rows.codecTurnedSpec.vars false W args.toList ds gs before)
    (hsz : (DataW.weightsEach Tryd.prog (Tryd.f5.params.toList ++ (OpenSpec.ofChange Rows.codecTurnedSpec).bare.plain.varTypes Tryd.prog) (ds ++ gs)).all (· ≤ reachBytes) = true)
    (hL : laidMetH Tryd.prog Rows.codecTurnedRow.laid W) :
    Calls Tryd.prog 5 args W fun e W' => ∃ v, e = .returned v ∧ Rows.codecTurnedSpec.post enc Tryd.prog Tryd.f5 false true false false W args v W' := by
  have hW' := hW
  obtain ⟨p, q, hA0, hV, rfl, hfz, hnd⟩ := hW
  have hA : DataW.TrodAll enc Tryd.prog W 0 (fun _ => true) true Tryd.f5.params.toList args.toList ds p := hA0
  rw [Tryd.params5] at hA hval hsz
  obtain ⟨v0, vs0, d0, ds0, p0, q0, hargs, rfl, rfl, h0, r0⟩ := trodAll_cons hA
  obtain ⟨rfl, rfl, rfl⟩ := trodAll_nil r0
  obtain rfl : args = #[v0] := by cases args; simp_all
  obtain ⟨rfl, rfl⟩ := trodVars_none hV
  obtain ⟨c0_0, c0_1, c0_2, c0_3, y0_0, y0_1, y0_2, y0_3, m0, rfl, rfl, hp0, hy0_0, hy0_1, hy0_2, hy0_3⟩ := open_agg4 Tryd.underlying49 (by kernel_rfl) (by kernel_rfl) (hval 0 49 v0 rfl rfl) h0
  obtain ⟨xK, e0_0, rfl, w_xK⟩ := DataW.trod_int Tryd.underlying5 hy0_0
  obtain ⟨xB, e0_1, rfl, _⟩ := DataW.trod_string Tryd.underlying9 hy0_1
  obtain ⟨xA, e0_2, rfl, w_xA⟩ := DataW.trod_int Tryd.underlying3 hy0_2
  obtain ⟨xT, e0_3, rfl, w_xT⟩ := DataW.trod_int Tryd.underlying41 hy0_3
  simp at e0_0 e0_1 e0_2 e0_3
  subst e0_0 e0_1 e0_2 e0_3
  have b_xK : 0 ≤ xK ∧ xK ≤ 255 := by simpa [Lit.wf, IntKind.min, IntKind.max, IntKind.signed, IntKind.bits] using w_xK
  obtain ⟨xK, rfl⟩ := Int.eq_ofNat_of_zero_le b_xK.1
  have b_xA : -9223372036854775808 ≤ xA ∧ xA ≤ 9223372036854775807 := by simpa [Lit.wf, IntKind.min, IntKind.max, IntKind.signed, IntKind.bits] using w_xA
  have b_xT : 0 ≤ xT ∧ xT ≤ 4294967295 := by simpa [Lit.wf, IntKind.min, IntKind.max, IntKind.signed, IntKind.bits] using w_xT
  obtain ⟨xT, rfl⟩ := Int.eq_ofNat_of_zero_le b_xT.1
  have l_xB : xB.size ≤ 140737488351232 := by
    have h1 := List.all_eq_true.1 hsz xB.data.toList.length (DataW.weights_mem_each (j := 0) (t := 49) rfl rfl _ (by simp [DataW.weights, DataW.weightsEach, Tryd.underlying49]))
    have h2 := of_decide_eq_true h1
    rw [size_list] at h2
    unfold reachBytes at h2
    omega
  refine (turned_walk xK xB xA xT W (show xK < 256 by have := b_xK.2; omega) l_xB b_xA.1 b_xA.2 (show xT < 4294967296 by have := b_xT.2; omega) (tab_laid hL)).mono fun e W' ⟨he, hg⟩ => ?_
  subst he
  exact ⟨_, rfl, law_post laidOut (by rw [Tryd.params5]; decide +kernel) rfl hW' rfl Tryd.underlying4 ⟨rfl, rfl, rfl⟩ (hg.below (Nat.le_refl _) fun _ h => h.elim)⟩
set_option maxRecDepth 100000 in
theorem lifted (os : Os) (started : os.Started) (H : Type) (enc : TypeId × Value → H) (F : Stop.Interp) :
    ReturnsInHanded {} Tryd.checked os 5 .any ((OpenSpec.ofChange Rows.codecTurnedSpec).preRow enc Tryd.prog Tryd.f5 Rows.codecTurnedRow.domain false Rows.codecTurnedRow.laid) (((OpenSpec.ofChange Rows.codecTurnedSpec).at F).post enc Tryd.prog Tryd.f5 false true false false) := by
  refine returnsInHanded_of_row (C := Tryd.checked) (s := OpenSpec.ofChange Rows.codecTurnedSpec) own started (by kernel_rfl) Tryd.func5
    (witness_row_at (enc := enc) (C := Tryd.checked) false ({ World.holding Tryd.prog os ⟨#[], #[], []⟩ with heap := (World.holding Tryd.prog os ⟨#[], #[], []⟩).heap.modify tabBlock fun | .cells _ t frozen => .cells (tabInts.map (Value.int .u32)).toArray t frozen | o => o }) #[.agg #[.int .u8 0, .string ⟨#[]⟩, .int .i64 0, .int .u32 0]] rfl (by kernel_rfl) (by kernel_rfl) (by kernel_rfl)
      (OpenSpec.preRow_of_cond (x := ([.agg [.lit (.int .u8 0), .lit (.string []), .lit (.int .i64 0), .lit (.int .u32 0)]], [], [])) 8 (by kernel_rfl) (by kernel_rfl) (fun k hk => by cases hk) (by kernel_rfl) (laidMet_of_run' 8 (by kernel_rfl) (by kernel_rfl)))) ?_
  intro W base args ds gs before hval hW _ _ hsz hL _ _
  exact contract H enc W base args ds gs before hval hW hsz hL
theorem said : Rows.CodecTurnedSaid :=
  OpenClaim.holds_of_cond 5 Tryd.f5 rfl rfl rfl rfl rfl rfl rfl ⟨rfl, rfl, rfl, rfl, rfl⟩ rfl rfl rfl rfl rfl (by kernel_rfl) Tryd.func5 (by kernel_rfl)
    (of_decide_eq_true (by kernel_rfl)) (by unfold Func.isWrapper; first | (rw [if_pos (by decide +kernel)]; kernel_rfl) | (rw [if_neg (by decide +kernel)]; exact ⟨rfl, rfl⟩))
    (fun os started H enc _ F => by rw [OpenClaim.pre_eq_preRow]; exact lifted os started H enc F)
theorem plain (f : FuncId) (fn : Func) (hf : Tryd.pinned.checked.prog.funcNamed Rows.codecTurnedRow.func = some f) (hfn : Tryd.pinned.checked.prog.funcs[f]? = some fn) :
    false = Tryd.pinned.checked.prog.looks [] ∧ ∀ (j : Nat) t, fn.params[j]? = some t → Tryd.pinned.checked.prog.wantsStandIn t = false := by
  obtain rfl : f = 5 := Option.some.inj ((show Tryd.prog.funcNamed Rows.codecTurnedRow.func = some 5 by kernel_rfl).symm.trans hf) |>.symm
  obtain rfl : fn = Tryd.f5 := (Option.some.inj (Tryd.func5.symm.trans hfn)).symm
  refine ⟨by kernel_rfl, fun j t ht => ?_⟩
  rw [Tryd.params5] at ht
  have hm : t ∈ [49] := by simpa using Array.mem_of_getElem? ht
  have hall : [49].all (fun t => !Tryd.prog.wantsStandIn t) = true := by kernel_rfl
  have h1 := List.all_eq_true.1 hall t hm
  have h2 : Tryd.prog.wantsStandIn t = false := by simpa using h1
  exact h2
theorem card : Rows.CodecTurnedCardSaid :=
  Claim7.holds_tied_plain_at .later [] _ _ _ _ said (fun _ h => by cases h) (by kernel_rfl) (fun _ h => by cases h) codecTurned_row_tie rfl ⟨rfl, rfl⟩ (by kernel_rfl) rfl plain (by kernel_rfl)
end Go.Proofs.YtilkpboegpfijaaDoor.CodecTurned
namespace Go.Proofs.YtilkpboegpfijaaDoor
theorem codecTurned_card : Rows.CodecTurnedCardSaid := CodecTurned.card
end Go.Proofs.YtilkpboegpfijaaDoor
