/- pack: the document's high, number, sum; the law's sameBytes. -/
import Derived.Test.YtafdkfieajdeiaaDoorK3
import Derived.Test.YtafdkfieajdeiaaDoorBeP
namespace Go.Proofs.YtafdkfieajdeiaaDoor
open Go.RowKit
set_option linter.unusedVariables false

theorem be_num : ∀ (n : Nat) (l : List UInt8), l.length = n → be n (num l) = l := by
  intro n
  induction n with
  | zero => intro l hl; rw [List.eq_nil_of_length_eq_zero hl]; rfl
  | succ n ih =>
    intro l hl
    obtain ⟨l', b, rfl⟩ : ∃ l' b, l = l' ++ [b] := by
      have hne : l ≠ [] := by rintro rfl; simp at hl
      exact ⟨l.dropLast, l.getLast hne, (List.dropLast_concat_getLast hne).symm⟩
    have hb := b.toNat_lt
    rw [be_succ', num_snoc, show (num l' * 256 + b.toNat) / 256 = num l' by omega, ih l' (by simpa using hl)]
    congr 2
    apply UInt8.toNat_inj.1
    rw [UInt8.toNat_ofNat']
    omega
theorem num_take (l : List UInt8) (k : Nat) (h : k < l.length) : num (l.take (k + 1)) = num (l.take k) * 256 + l[k].toNat := by
  rw [List.take_succ_eq_append_getElem h, num_snoc]
set_option maxHeartbeats 1000000 in
set_option maxRecDepth 100000 in
theorem number_any (v : Value) (l : List UInt8) (w : World) (hb : Bt w v l) (hl : l.length ≤ 4) : Calls Tryd.prog 57 #[v] w fun e w' => e = .returned (.int .i64 (num l : Nat)) ∧ w = w' := by
  obtain ⟨ao, cap, rfl, _⟩ := hb.form
  have HB := hidden hb
  clear hb
  go_enter Tryd.func57, Tryd.ntmps57
  go_wp2
  go_loop [3, 4] (fun x i => ∃ k : Nat, k ≤ l.length ∧ i = .int .i64 k ∧ x = .int .i64 (num (l.take k) : Nat)) (fun _ i => l.length - (intOf i).toNat)
  case atStart => exact ⟨0, Nat.zero_le _, rfl, rfl⟩
  case round =>
    obtain ⟨k, hk, rfl, rfl⟩ := hrel
    by_cases h1 : k < l.length
    · obtain ⟨b, off, rfl, hc⟩ := HB.out.cell (by omega)
      have q0 : (0 : Int) ≤ (k : Int) := Int.natCast_nonneg _
      have q1 : (k : Int) < (l.length : Int) := by omega
      have x1 := hc k h1
      have hx := num_take l k h1
      have hbd := num_lt (l.take k)
      have hb8 := l[k].toNat_lt
      rw [List.length_take, Nat.min_eq_left hk] at hbd
      have hbd2 : num (l.take k) < 16777216 := Nat.lt_of_lt_of_le hbd (by
        have : k ≤ 3 := by omega
        exact Nat.pow_le_pow_right (n := 256) (by decide) this)
      unfold U8 at x1
      have HX := hidden hx
      generalize num (l.take k) = N at hbd2 HX
      generalize l[k].toNat = z at x1 hb8 HX
      clear hbd hx hc
      go_wp2
      go_round
      case rel => exact ⟨k + 1, by omega, by go_num, by rw [HX.out]; go_num⟩
      case measure => simp [intOf]; omega
    · have q1 : ¬ (k : Int) < (l.length : Int) := by omega
      rw [List.take_of_length_le (by omega)]
      go_wp2
      go_returns
      exact ⟨rfl, rfl⟩
/-- How far the document's high is. -/
def hiRow (x k : Nat) : List UInt8 := List.replicate (4 - k) 0 ++ (be 4 x).drop (4 - k)
theorem hiRow_len (x k : Nat) (h : k ≤ 4) : (hiRow x k).length = 4 := by simp [hiRow, be_length]
theorem hiRow_set (x k : Nat) (h : k < 4) : ((hiRow x k).map U8).toArray.setIfInBounds (3 - k) (U8 (UInt8.ofNat (x / 256 ^ k))) = ((hiRow x (k + 1)).map U8).toArray := by
  apply Array.ext'
  rw [Array.toList_setIfInBounds, List.toList_toArray, List.toList_toArray]
  have e : be 4 x = [UInt8.ofNat (x / 2 ^ 24), UInt8.ofNat (x / 2 ^ 16), UInt8.ofNat (x / 2 ^ 8), UInt8.ofNat (x / 2 ^ 0)] := rfl
  unfold hiRow
  rw [e]
  match k, h with
  | 0, _ => rfl
  | 1, _ => rfl
  | 2, _ => rfl
  | 3, _ => rfl
set_option maxHeartbeats 1000000 in
set_option maxRecDepth 100000 in
theorem high_any (x : Nat) (hx : x < 18446744073709551616) (w : World) : Calls Tryd.prog 49 #[.int .u64 x, .int .i64 4] w fun e w' => e = .returned (.slice (some ⟨w.heap.size, 0, none⟩) 4 4) ∧ w'.heap[w.heap.size]? = some (.cells ((be 4 x).map U8).toArray 5 (0, 0)) ∧ Same w w' := by
  have hmk : ∀ W : World, (Instr.makeSlice 32 (.int .i64 4) (.int .i64 4)).run Tryd.prog W = .ok (.slice (some ⟨W.heap.size, 0, none⟩) 4 4) (W.alloc (.cells (List.replicate 4 (U8 0)).toArray 5)) := fun W => make_bytes 4 (by decide) W
  generalize hZ : (List.replicate 4 (U8 0)).toArray = Z at hmk
  go_enter Tryd.func49, Tryd.ntmps49
  go_wp2
  go_loopw [0, 6] (fun y i wr => ∃ k : Nat, k ≤ 4 ∧ i = .int .i64 k ∧ y = .int .u64 (x / 256 ^ k : Nat) ∧ wr.heap[w.heap.size]? = some (.cells ((hiRow x k).map U8).toArray 5 (0, 0)) ∧ Same w wr) (fun _ i _ => 4 - (intOf i).toNat)
  case atStart => exact ⟨0, by decide, rfl, by simp, by rw [← hZ]; exact blk_new w _, same_alloc _ _⟩
  case round =>
    obtain ⟨k, hk, rfl, rfl, hb, hK⟩ := hrel
    by_cases h1 : k < 4
    · have hset := hiRow_set x k h1
      have hlen := hiRow_len x k hk
      have hq : x / 256 ^ k < 18446744073709551616 := Nat.lt_of_le_of_lt (Nat.div_le_self _ _) hx
      have hnx : x / 256 ^ k / 256 = x / 256 ^ (k + 1) := by rw [Nat.div_div_eq_div_mul, Nat.pow_succ]
      have hby : Value.int .u8 (IntKind.u8.wrap ((x / 256 ^ k : Nat) : Int)) = U8 (UInt8.ofNat (x / 256 ^ k)) := byte_wrap _
      rw [IntKind.wrap_u8'] at hby
      have hcell : ∃ z, wr.cell? ⟨w.heap.size, 3 - k, none⟩ = some z := by
        rw [blk_cell hb]
        exact ⟨_, Array.getElem?_eq_getElem (by simp [hlen]; omega)⟩
      obtain ⟨z, hz⟩ := hcell
      have hf : wr.frozen? ⟨w.heap.size, 3 - k, none⟩ = false := blk_free hb
      obtain ⟨m, hm⟩ : ∃ m : Nat, m = 3 - k := ⟨_, rfl⟩
      have e1 : (3 : Int) - (k : Int) = (m : Int) := by omega
      have q0 : (0 : Int) ≤ (m : Int) := Int.natCast_nonneg _
      have q1 : (m : Int) < 4 := by omega
      rw [← hm] at hz hf hset
      have HB := hidden hb
      have HK := hidden hK
      have HS := hidden hset
      have HNX := hidden hnx
      have HBY := hidden hby
      generalize x / 256 ^ k = y at *
      clear hb hK hset hnx hlen hby hm
      go_wp2
      refine ⟨⟨k + 1, by omega, by go_num, by rw [← HNX.out]; go_num, ?_, HK.out.setNew (p := ⟨w.heap.size, m, none⟩) (Nat.le_refl _) _⟩, by simp [intOf]; omega⟩
      rw [HBY.out, blk_set HB.out, HS.out]
    · obtain rfl : k = 4 := by omega
      go_wp2
      go_returns
      refine ⟨rfl, ?_, hK⟩
      rw [hb]
      simp [hiRow]
set_option maxHeartbeats 1000000 in
set_option maxRecDepth 100000 in
theorem sameB_any (x y : Value) (a b : List UInt8) (w : World) (hx : Bt w x a) (hy : Bt w y b) (ha : a.length ≤ 140737488355328) (hb : b.length ≤ 140737488355328) : Calls Tryd.prog 17 #[x, y] w fun e w' => e = .returned (.bool (decide (a = b))) ∧ Same w w' := by
  by_cases hl : a.length = b.length
  · obtain ⟨a1, c1, rfl, _⟩ := hx.form
    obtain ⟨a2, c2, rfl, _⟩ := hy.form
    have HX := hidden hx
    have HY := hidden hy
    obtain ⟨R, hR⟩ : ∃ R, decide (a = b) = R := ⟨_, rfl⟩
    rw [hR, show b.length = a.length from hl.symm]
    have HL := hidden hl
    rw [show b.length = a.length from hl.symm] at hb
    have HR := hidden hR
    clear hx hy hR hl
    go_enter Tryd.func17, Tryd.ntmps17
    go_wp2
    go_loopw [5] (fun i wr => ∃ k : Nat, k ≤ a.length ∧ i = .int .i64 k ∧ a.take k = b.take k ∧ Same w wr) (fun i wr => a.length - (intOf i).toNat)
    case atStart => exact ⟨0, Nat.zero_le _, rfl, rfl, Kept.refl _ _⟩
    case round =>
      obtain ⟨k, hk, rfl, htk, hK⟩ := hrel
      by_cases h1 : k < a.length
      · obtain ⟨b1, o1, rfl, hc1⟩ := HX.out.cell (by omega)
        obtain ⟨b2, o2, rfl, hc2⟩ := HY.out.cell (by have := HL.out; omega)
        have q0 : (0 : Int) ≤ (k : Int) := Int.natCast_nonneg _
        have q1 : (k : Int) < (a.length : Int) := by omega
        have hkb : k < b.length := by have := HL.out; omega
        have x1 := Kept.cell hK (fun h => h) (hc1 k h1)
        have x2 := Kept.cell hK (fun h => h) (hc2 k hkb)
        unfold U8 at x1 x2
        have HK := hidden hK
        have HT := hidden htk
        by_cases hz : a[k] = b[k]
        · have htn : a.take (k + 1) = b.take (k + 1) := by rw [List.take_add_one, List.take_add_one, htk, List.getElem?_eq_getElem h1, List.getElem?_eq_getElem hkb, hz]
          have HTN := hidden htn
          rw [hz] at x1
          generalize ((b[k]).toNat : Int) = z at x1 x2
          clear hK hc1 hc2 htn htk hz
          go_wp2
          go_quiet (fail)
          go_wp2
          go_roundw
          case rel => exact ⟨k + 1, by omega, by go_num, HTN.out, HK.out.drewN _⟩
          case measure => simp [intOf]; omega
        · have hd : decide (a = b) = false := by simpa using fun e : a = b => hz (by subst e; rfl)
          have hzi : ((a[k]).toNat : Int) ≠ ((b[k]).toNat : Int) := fun e => hz (UInt8.toNat_inj.1 (by omega))
          have hzb : (((a[k]).toNat : Int) == ((b[k]).toNat : Int)) = false := by simpa using hzi
          obtain rfl : R = false := HR.out.symm.trans hd
          generalize ((a[k]).toNat : Int) = z1 at x1 hzi hzb
          generalize ((b[k]).toNat : Int) = z2 at x2 hzi hzb
          clear hK hc1 hc2 htk hz hd
          go_wp2
          go_quiet (fail)
          go_wp2
          go_returns
          exact ⟨rfl, HK.out.drewN _⟩
      · have q1 : ¬ (k : Int) < (a.length : Int) := by omega
        have he : a = b := by rw [List.take_of_length_le (by omega), List.take_of_length_le (by have := HL.out; omega)] at htk; exact htk
        obtain rfl : R = true := HR.out.symm.trans (by simpa using he)
        clear he htk
        go_wp2
        go_returns
        exact ⟨rfl, hK⟩
  · obtain ⟨a1, c1, rfl, _⟩ := hx.form
    obtain ⟨a2, c2, rfl, _⟩ := hy.form
    have hd : decide (a = b) = false := by simpa using fun e : a = b => hl (by rw [e])
    have hi : (a.length : Int) ≠ (b.length : Int) := by omega
    have hib : ((a.length : Int) == (b.length : Int)) = false := by simpa using hi
    rw [hd]
    clear hx hy
    go_enter Tryd.func17, Tryd.ntmps17
    go_wp2
    go_returns
    exact ⟨rfl, Kept.refl _ _⟩
end Go.Proofs.YtafdkfieajdeiaaDoor
