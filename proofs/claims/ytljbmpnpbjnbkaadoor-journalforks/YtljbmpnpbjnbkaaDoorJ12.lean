/- journal: Scan and Sectors of both sides, whatever the bytes; the law's sameBytes, sameTexts. (Made by mkj12.py.) -/
import Derived.Test.YtljbmpnpbjnbkaaDoorJ11
namespace Go.Proofs.YtljbmpnpbjnbkaaDoor
open Go.RowKit
set_option linter.unusedVariables false
set_option linter.unusedSimpArgs false
set_option maxHeartbeats 1000000 in
set_option maxRecDepth 100000 in
theorem sameB_any (x y : Value) (a b : List UInt8) (w : World) (hx : Bt w x a) (hy : Bt w y b) (ha : a.length ≤ 140737488355328) (hb : b.length ≤ 140737488355328) : Calls Tryd.prog 25 #[x, y] w fun e w' => e = .returned (.bool (decide (a = b))) ∧ Same w w' := by
  by_cases hl : a.length = b.length
  · obtain ⟨a1, c1, rfl, _⟩ := hx.form
    obtain ⟨a2, c2, rfl, _⟩ := hy.form
    have HX := hidden hx
    have HY := hidden hy
    obtain ⟨R, hR⟩ : ∃ R, decide (a = b) = R := ⟨_, rfl⟩
    rw [hR, show b.length = a.length from hl.symm]
    have HL := hidden hl
    rw [show b.length = a.length from hl.symm] at hb
    have HR := hidden hR
    clear hx hy hR hl
    go_enter Tryd.func25, Tryd.ntmps25
    go_wp2
    go_loopw [5] (fun i wr => ∃ k : Nat, k ≤ a.length ∧ i = .int .i64 k ∧ a.take k = b.take k ∧ Same w wr) (fun i wr => a.length - (intOf i).toNat)
    case atStart => exact ⟨0, Nat.zero_le _, rfl, rfl, Kept.refl _ _⟩
    case round =>
      obtain ⟨k, hk, rfl, htk, hK⟩ := hrel
      by_cases h1 : k < a.length
      · obtain ⟨b1, o1, rfl, hc1⟩ := HX.out.cell (by omega)
        obtain ⟨b2, o2, rfl, hc2⟩ := HY.out.cell (by have := HL.out; omega)
        have q0 : (0 : Int) ≤ (k : Int) := Int.natCast_nonneg _
        have q1 : (k : Int) < (a.length : Int) := by omega
        have hkb : k < b.length := by have := HL.out; omega
        have x1 := Kept.cell hK (fun h => h) (hc1 k h1)
        have x2 := Kept.cell hK (fun h => h) (hc2 k hkb)
        unfold U8 at x1 x2
        have HK := hidden hK
        have HT := hidden htk
        by_cases hz : a[k] = b[k]
        · have htn : a.take (k + 1) = b.take (k + 1) := by rw [List.take_add_one, List.take_add_one, htk, List.getElem?_eq_getElem h1, List.getElem?_eq_getElem hkb, hz]
          have HTN := hidden htn
          rw [hz] at x1
          generalize ((b[k]).toNat : Int) = z at x1 x2
          clear hK hc1 hc2 htn htk hz
          go_wp2
          go_quiet (fail)
          go_wp2
          go_roundw
          case rel => exact ⟨k + 1, by omega, by go_num, HTN.out, HK.out.drewN _⟩
          case measure => simp [intOf]; omega
        · have hd : decide (a = b) = false := by simpa using fun e : a = b => hz (by subst e; rfl)
          have hzi : ((a[k]).toNat : Int) ≠ ((b[k]).toNat : Int) := fun e => hz (UInt8.toNat_inj.1 (by omega))
          have hzb : (((a[k]).toNat : Int) == ((b[k]).toNat : Int)) = false := by simpa using hzi
          obtain rfl : R = false := HR.out.symm.trans hd
          generalize ((a[k]).toNat : Int) = z1 at x1 hzi hzb
          generalize ((b[k]).toNat : Int) = z2 at x2 hzi hzb
          clear hK hc1 hc2 htk hz hd
          go_wp2
          go_quiet (fail)
          go_wp2
          go_returns
          exact ⟨rfl, HK.out.drewN _⟩
      · have q1 : ¬ (k : Int) < (a.length : Int) := by omega
        have he : a = b := by rw [List.take_of_length_le (by omega), List.take_of_length_le (by have := HL.out; omega)] at htk; exact htk
        obtain rfl : R = true := HR.out.symm.trans (by simpa using he)
        clear he htk
        go_wp2
        go_returns
        exact ⟨rfl, hK⟩
  · obtain ⟨a1, c1, rfl, _⟩ := hx.form
    obtain ⟨a2, c2, rfl, _⟩ := hy.form
    have hd : decide (a = b) = false := by simpa using fun e : a = b => hl (by rw [e])
    have hi : (a.length : Int) ≠ (b.length : Int) := by omega
    have hib : ((a.length : Int) == (b.length : Int)) = false := by simpa using hi
    rw [hd]
    clear hx hy
    go_enter Tryd.func25, Tryd.ntmps25
    go_wp2
    go_returns
    exact ⟨rfl, Kept.refl _ _⟩

/-- Texts in memory. -/
def RowS (w : World) (v : Value) (l : List (List UInt8)) : Prop := ∃ ao cap, v = .slice ao l.length cap ∧ ∀ i (hi : i < l.length), ∃ g, ao = some ⟨g, 0, none⟩ ∧ w.cell? ⟨g, i, none⟩ = some (.string ⟨l[i].toArray⟩)
theorem RowS.same {w w' : World} {v : Value} {l : List (List UInt8)} (h : RowS w v l) (k : Same w w') : RowS w' v l := by
  obtain ⟨ao, cap, e, hc⟩ := h
  exact ⟨ao, cap, e, fun i hi => by obtain ⟨g, e1, h1⟩ := hc i hi; exact ⟨g, e1, k.cell (fun h => h) h1⟩⟩
theorem RowS.own {w : World} {B : Nat} {v : Value} {l : List (List UInt8)} (h : w.ownsRow B 9 1 v l.length (TJ l)) : RowS w v l := by
  rcases h.2 with ⟨rfl, h0⟩ | ⟨g, cap, cur, rfl, h1, h2, h3, h4, h5, h6⟩
  · exact ⟨none, 0, by rw [h0], fun i hi => absurd hi (by omega)⟩
  · refine ⟨_, cap, rfl, fun i hi => ⟨g, rfl, ?_⟩⟩
    rw [blk_cell h2]
    have : (cur.toList.take (l.length * 1))[i]? = (TJ l)[i]? := by rw [h6]
    rw [List.getElem?_take, if_pos (by omega)] at this
    rw [← Array.getElem?_toList, this]
    simp [TJ, hi]
set_option maxHeartbeats 2000000 in
set_option maxRecDepth 100000 in
theorem sameT_eq (l : List (List UInt8)) (x y : Value) (w : World) (r : RowS w x l) (s : RowS w y l) (hb : l.length ≤ 17592186044416) :
    Calls Tryd.prog 24 #[x, y] w fun e w' => e = .returned (.bool true) ∧ Same w w' := by
  obtain ⟨a, c, rfl, hr⟩ := r
  obtain ⟨b, c', rfl, hs⟩ := s
  have R := hidden hr
  have S := hidden hs
  obtain ⟨k', hk⟩ : ∃ k', k' = l.length := ⟨_, rfl⟩
  have E1 := hidden hk
  rw [← hk] at hb ⊢
  clear hr hs hk
  go_enter Tryd.func24, Tryd.ntmps24
  go_wp2
  go_loopw [5] (fun i wr => ∃ i' : Nat, i = .int .i64 i' ∧ i' ≤ k' ∧ Same w wr) (fun i _ => k' - (intOf i).toNat)
  case atStart => exact ⟨0, rfl, Nat.zero_le _, Kept.refl _ _⟩
  case round =>
    obtain ⟨i, rfl, hi, hsm⟩ := hrel
    have HSM := hidden hsm
    clear hsm
    by_cases h1 : i < k'
    · have hil : i < l.length := by rw [← E1.out]; exact h1
      obtain ⟨g, rfl, hc0⟩ := R.out i hil
      obtain ⟨g', rfl, hc0'⟩ := S.out i hil
      have hc := HSM.out.cell (fun h => h) hc0
      have hc' := HSM.out.cell (fun h => h) hc0'
      clear hc0 hc0'
      obtain ⟨x, hx⟩ : ∃ x : ByteArray, (⟨l[i].toArray⟩ : ByteArray) = x := ⟨_, rfl⟩
      rw [hx] at hc hc'
      have q0 : (0 : Int) ≤ (i : Int) := Int.natCast_nonneg _
      have q1 : (i : Int) < (k' : Int) := by omega
      have q2 : (x.toList == x.toList) = true := by simp
      clear hx
      go_wp2
      go_quiet (fail)
      go_wp2
      go_roundw
      case rel => exact ⟨i + 1, by go_num, by omega, HSM.out.trans ((Kept.refl _ _).drewN _)⟩
      case measure => simp [intOf]; omega
    · obtain rfl : i = k' := by omega
      have q1 : ¬ (i : Int) < (i : Int) := by omega
      go_wp2
      go_returns
      exact ⟨rfl, HSM.out⟩
/-- What both Sectors tell of bytes; what both Scans do. -/
def secOf (z : Int) (gen L : Nat) (img : List UInt8) : Int := if MayJ z L then ((roomsJ z.toNat gen img (L / z.toNat) 0).length : Nat) else 0
def errJ (z : Int) (L : Nat) : Int := if MayJ z L then 0 else 1
def rowsOf (z : Int) (gen L : Nat) (img : List UInt8) : List (List UInt8) := if MayJ z L then scanJ z.toNat gen img (L / z.toNat) else []
theorem MayJ.all {z : Int} {L : Nat} (h : MayJ z L) : ∃ n c : Nat, z = n ∧ L / n = c ∧ MayJ (n : Int) L ∧ 512 ≤ n ∧ n ≤ 4096 ∧ L = n * c ∧ 1 ≤ c ∧ c ≤ 4096 := by
  have h1 : 512 ≤ z := h.1.1
  obtain ⟨n, rfl⟩ : ∃ n : Nat, z = n := ⟨z.toNat, by omega⟩
  obtain ⟨a, b, c, e, f, g⟩ := h.form
  exact ⟨n, c, rfl, by rw [e, Nat.mul_div_cancel_left _ (by omega)], h, a, b, e, f, g⟩
set_option maxHeartbeats 1000000 in
set_option maxRecDepth 100000 in
theorem sectors_no (z : Int) (gen : Nat) (ao : Option Addr) (L cap : Nat) (hL : L ≤ 281474976710656) (w : World) (hM : ¬ MayJ z L) :
    Calls Tryd.prog 22 #[.int .i64 z, .int .u64 gen, .slice ao L cap] w fun e w' => e = .returned (.tuple #[.int .i64 0, .int .i64 1]) ∧ Same w w' := by
  have HF := hidden (fun W => mayScan_any z ao L cap hL W)
  rw [decide_eq_false hM] at HF
  clear hM
  go_enter Tryd.func22, Tryd.ntmps22
  go_wp2_with (go_at_call 41; refine (HF.out _).mono ?_; rintro e w1 ⟨rfl, rfl⟩)
  go_returns
  exact ⟨rfl, by first | exact Kept.refl _ _ | exact same_alloc _ _⟩
set_option maxHeartbeats 1000000 in
set_option maxRecDepth 100000 in
theorem scan_no (z : Int) (gen : Nat) (ao : Option Addr) (L cap : Nat) (hL : L ≤ 281474976710656) (w : World) (hM : ¬ MayJ z L) :
    Calls Tryd.prog 20 #[.int .i64 z, .int .u64 gen, .slice ao L cap] w fun e w' => e = .returned (.tuple #[.slice none 0 0, .int .i64 1]) ∧ Same w w' := by
  have HF := hidden (fun W => mayScan_any z ao L cap hL W)
  rw [decide_eq_false hM] at HF
  clear hM
  go_enter Tryd.func20, Tryd.ntmps20
  go_wp2_with (go_at_call 41; refine (HF.out _).mono ?_; rintro e w1 ⟨rfl, rfl⟩)
  go_returns
  exact ⟨rfl, by first | exact Kept.refl _ _ | exact same_alloc _ _⟩
set_option maxHeartbeats 1000000 in
set_option maxRecDepth 100000 in
theorem scanD_no (z : Int) (gen : Nat) (ao : Option Addr) (L cap : Nat) (hL : L ≤ 281474976710656) (w : World) (hM : ¬ MayJ z L) :
    Calls Tryd.prog 21 #[.int .i64 z, .int .u64 gen, .slice ao L cap] w fun e w' => e = .returned (.tuple #[.slice none 0 0, .int .i64 1]) ∧ Same w w' := by
  have HF := hidden (fun W => sectorsD_no z gen ao L cap hL W hM)
  clear hM
  go_enter Tryd.func21, Tryd.ntmps21
  go_wp2_with (go_at_call 23; refine (HF.out _).mono ?_; rintro e w1 ⟨rfl, rfl⟩)
  go_returns
  exact ⟨rfl, by first | exact Kept.refl _ _ | exact same_alloc _ _⟩
theorem Bt.addr {w : World} {ao : Option Addr} {n cap : Nat} {l : List UInt8} (h : Bt w (.slice ao n cap) l) (h0 : 0 < n) : ∃ b off, ao = some ⟨b, off, none⟩ := by
  obtain ⟨b, off, e, _⟩ := h.cell (by rw [← h.len.1]; exact h0)
  exact ⟨b, off, e⟩
theorem sectorsP_all (z : Int) (gen : Nat) (ao : Option Addr) (L cap : Nat) (img : List UInt8) (hL : L ≤ 281474976710656) (hcb : cap ≤ 9223372036854775807) (hg : gen < 18446744073709551616) (w : World) (T : Tab w) (hb : Bt w (.slice ao L cap) img) :
    Calls Tryd.prog 22 #[.int .i64 z, .int .u64 gen, .slice ao L cap] w fun e w' => e = .returned (.tuple #[.int .i64 (secOf z gen L img), .int .i64 (errJ z L)]) ∧ Same w w' := by
  unfold secOf errJ
  by_cases h : MayJ z L
  · obtain ⟨n, c, rfl, hq, hm, h1, h2, h3, h4, h5⟩ := h.all
    obtain ⟨b, off, rfl⟩ := hb.addr (by rw [h3]; exact Nat.mul_pos (by omega) h4)
    rw [if_pos h, if_pos h, Int.toNat_natCast, hq]
    exact sectors_may n c b off L cap gen img w T hm h3 hb h1 h2 h4 h5 hcb hg
  · rw [if_neg h, if_neg h]
    exact sectors_no z gen ao L cap hL w h
theorem sectorsD_all (z : Int) (gen : Nat) (ao : Option Addr) (L cap : Nat) (img : List UInt8) (hL : L ≤ 281474976710656) (hg : gen < 18446744073709551616) (w : World) (hb : Bt w (.slice ao L cap) img) :
    Calls Tryd.prog 23 #[.int .i64 z, .int .u64 gen, .slice ao L cap] w fun e w' => e = .returned (.tuple #[.int .i64 (secOf z gen L img), .int .i64 (errJ z L)]) ∧ Same w w' := by
  unfold secOf errJ
  by_cases h : MayJ z L
  · obtain ⟨n, c, rfl, hq, hm, h1, h2, h3, h4, h5⟩ := h.all
    obtain ⟨b, off, rfl⟩ := hb.addr (by rw [h3]; exact Nat.mul_pos (by omega) h4)
    rw [if_pos h, if_pos h, Int.toNat_natCast, hq]
    exact sectorsD_any n gen c L _ cap img w hb hm h3 h1 h2 h5 hg
  · rw [if_neg h, if_neg h]
    exact (sectorsD_no z gen ao L cap hL w h).mono fun e w' ⟨h1, h2⟩ => ⟨h1, h2 ▸ Kept.refl _ _⟩
theorem scanP_all (z : Int) (gen : Nat) (ao : Option Addr) (L cap : Nat) (img : List UInt8) (hL : L ≤ 281474976710656) (hcb : cap ≤ 9223372036854775807) (hg : gen < 18446744073709551616) (w : World) (T : Tab w) (hb : Bt w (.slice ao L cap) img) :
    Calls Tryd.prog 20 #[.int .i64 z, .int .u64 gen, .slice ao L cap] w fun e w' => (∃ v, e = .returned (.tuple #[v, .int .i64 (errJ z L)]) ∧ RowS w' v (rowsOf z gen L img)) ∧ Same w w' := by
  unfold rowsOf errJ
  by_cases h : MayJ z L
  · obtain ⟨n, c, rfl, hq, hm, h1, h2, h3, h4, h5⟩ := h.all
    obtain ⟨b, off, rfl⟩ := hb.addr (by rw [h3]; exact Nat.mul_pos (by omega) h4)
    rw [if_pos h, if_pos h, Int.toNat_natCast, hq]
    exact (scan_may n c b off L cap gen img w T hm h3 hb h1 h2 h4 h5 hcb hg).mono fun e w' ⟨⟨v, e1, e2⟩, e3⟩ => ⟨⟨v, e1, RowS.own e2⟩, e3⟩
  · rw [if_neg h, if_neg h]
    exact (scan_no z gen ao L cap hL w h).mono fun e w' ⟨h1, h2⟩ => ⟨⟨_, h1, none, 0, rfl, fun i hi => absurd hi (by simp)⟩, h2⟩
theorem scanD_all (z : Int) (gen : Nat) (ao : Option Addr) (L cap : Nat) (img : List UInt8) (hL : L ≤ 281474976710656) (hg : gen < 18446744073709551616) (w : World) (hb : Bt w (.slice ao L cap) img) :
    Calls Tryd.prog 21 #[.int .i64 z, .int .u64 gen, .slice ao L cap] w fun e w' => (∃ v, e = .returned (.tuple #[v, .int .i64 (errJ z L)]) ∧ RowS w' v (rowsOf z gen L img)) ∧ Same w w' := by
  unfold rowsOf errJ
  by_cases h : MayJ z L
  · obtain ⟨n, c, rfl, hq, hm, h1, h2, h3, h4, h5⟩ := h.all
    obtain ⟨b, off, rfl⟩ := hb.addr (by rw [h3]; exact Nat.mul_pos (by omega) h4)
    rw [if_pos h, if_pos h, Int.toNat_natCast, hq]
    exact (scanD_any n gen c L _ cap img w hb hm h3 h1 h2 h5 hg).mono fun e w' ⟨⟨v, e1, e2⟩, e3⟩ => ⟨⟨v, e1, RowS.own e2⟩, e3⟩
  · rw [if_neg h, if_neg h]
    exact (scanD_no z gen ao L cap hL w h).mono fun e w' ⟨h1, h2⟩ => ⟨⟨_, h1, none, 0, rfl, fun i hi => absurd hi (by simp)⟩, h2⟩
end Go.Proofs.YtljbmpnpbjnbkaaDoor
