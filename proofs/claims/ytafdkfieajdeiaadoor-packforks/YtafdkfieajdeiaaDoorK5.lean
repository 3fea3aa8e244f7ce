/- pack: New, Left, Mark; of a nil one. -/
import Derived.Test.YtafdkfieajdeiaaDoorK4
import Derived.Test.YtafdkfieajdeiaaDoorShS
namespace Go.Proofs.YtafdkfieajdeiaaDoor
open Go.RowKit
set_option linter.unusedVariables false

def PSt.new (size sectors id : Nat) : PSt := ⟨size, sectors, id, [], false, 0, 0, false⟩
theorem PSt.new_ok (size sectors id : Nat) (h : PMay size sectors) (hi : id < 4294967296) : (PSt.new size sectors id).Ok := by
  obtain ⟨⟨h1, h2, _⟩, h3, h4⟩ := h
  refine ⟨by simp [PSt.new]; omega, by simp [PSt.new]; omega, by simp [PSt.new]; omega, by simp [PSt.new]; omega, hi, ?_, by simp [PSt.new], by simp [PSt.new]⟩
  rw [PSt.bs_len]
  simp only [PSt.new, bodyB, List.length_nil]
  have : 512 * 1 ≤ size * sectors := Nat.mul_le_mul (by omega) (by omega)
  omega
set_option maxHeartbeats 1000000 in
set_option maxRecDepth 100000 in
theorem p_new (size sectors id : Nat) (w : World) (hT : Tab w) (h : PMay size sectors) (hi : id < 4294967296) :
    Calls Tryd.prog 10 #[.int .i64 size, .int .i64 sectors, .int .u32 id] w fun e w' => ∃ g, e = .returned (.tuple #[.pointer (some ⟨g, 0, none⟩), .int .i64 0]) ∧ PW g (PSt.new size sectors id) w' ∧ Same w w' ∧ (∀ k, pS g w' k → w.heap.size ≤ k) := by
  have hm := hidden (fun w => p_mayBe size sectors w)
  rw [decide_eq_true h] at hm
  have HH := hidden (p_headOf id sectors hi (by have := h.2.2; omega) w hT)
  have ok := PSt.new_ok size sectors id h hi
  have OK := hidden ok
  have hbl := headB_len id sectors
  have HBL := hidden hbl
  have HLT := hidden hT.lt
  clear h ok hbl hT
  go_enter Tryd.func10, Tryd.ntmps10
  go_wp2_with (first
    | (go_at_call 35; refine (hm.out _).mono ?_; rintro e w1 ⟨rfl, rfl⟩)
    | (go_at_call 36; refine (HH.out).mono ?_; rintro e w1 ⟨rfl, k1⟩; obtain ⟨cap, hcv, hO, hS⟩ := ownM_conv w1 ⟨(headB id sectors).toArray⟩ (by rw [ba_size, HBL.out]; decide); rw [ba_size, HBL.out] at hcv hO; rw [ba_list] at hO; have HO := hidden hO; have HS := hidden hS; clear hO hS; generalize Lib.bytesWorld w1 5 ⟨(headB id sectors).toArray⟩ = W2 at *))
  go_returns
  have hb : ∀ vb, (W2.alloc (.cells #[.int .i64 (size : Nat), .int .i64 (sectors : Nat), vb, .slice none 0 0, .bool false, .int .i64 0, .int .i64 0, .bool false] 70)).heap[W2.heap.size]? = some (.cells (PCells (PSt.new size sectors id) vb (.slice none 0 0)) 70 (0, 0)) := fun vb => blk_new _ _
  have hpn : ∀ k, pS W2.heap.size (W2.alloc (.cells #[.int .i64 (size : Nat), .int .i64 (sectors : Nat), .slice (some ⟨w1.heap.size, 0, none⟩) 16 cap, .slice none 0 0, .bool false, .int .i64 0, .int .i64 0, .bool false] 70)) k → w.heap.size ≤ k := fun k hk => by
    have h1 := k1.size
    have h2 := HS.out.size
    rcases (pS_of (hb _) k).1 hk with rfl | hk | hk
    · omega
    · simp [Value.ownBlock] at hk; omega
    · simp [Value.ownBlock] at hk
  refine ⟨_, rfl, ⟨⟨_, _, hb _, ?_, ?_⟩, OK.out, fun e => ?_⟩, (Kept.trans k1 HS.out).alloc _, hpn⟩
  · have e : (PSt.new size sectors id).bs = headB id sectors := by simp [PSt.bs, PSt.new, bodyB]
    rw [e, HBL.out]
    exact HO.out.same (same_alloc _ _)
  · exact OwnM.nil _ _ _
  · have := hpn _ e
    have := HLT.out
    omega
set_option maxHeartbeats 1000000 in
set_option maxRecDepth 100000 in
theorem p_newNo (size sectors : Int) (id : Nat) (w : World) (h : ¬ PMay size sectors) :
    Calls Tryd.prog 10 #[.int .i64 size, .int .i64 sectors, .int .u32 id] w fun e w' => e = .returned (.tuple #[.pointer none, .int .i64 1]) ∧ w = w' := by
  have hm := hidden (fun w => p_mayBe size sectors w)
  rw [decide_eq_false h] at hm
  clear h
  go_enter Tryd.func10, Tryd.ntmps10
  go_wp2_with (go_at_call 35; refine (hm.out _).mono ?_; rintro e w1 ⟨rfl, rfl⟩)
  go_returns
  exact ⟨rfl, rfl⟩
set_option maxHeartbeats 1000000 in
set_option maxRecDepth 100000 in
theorem p_left {g : Nat} {s : PSt} {w : World} (h : PW g s w) : Calls Tryd.prog 32 #[.pointer (some ⟨g, 0, none⟩)] w fun e w' => e = .returned (.int .i64 (s.left : Nat)) ∧ Same w w' := by
  have A := hidden (p_made h)
  obtain ⟨⟨vb, vs, h1, h2, h3⟩, ok, _⟩ := h
  obtain ⟨va, vc, rfl, _⟩ := h2.form
  have c0 : w.cell? ⟨g, 0, none⟩ = some (.int .i64 s.size) := blk_cell h1
  have c1 : w.cell? ⟨g, 1, none⟩ = some (.int .i64 s.sectors) := blk_cell h1
  have c2 : w.cell? ⟨g, 2, none⟩ = some (.slice va s.bs.length vc) := blk_cell h1
  have c4 : w.cell? ⟨g, 4, none⟩ = some (.bool s.shut) := blk_cell h1
  have hr := ok.room
  have hb := ok.b1
  have hX : (s.size : Int) * s.sectors = ((s.size * s.sectors : Nat) : Int) := (Int.natCast_mul _ _).symm
  have hl : s.left = if s.shut then 0 else s.size * s.sectors - 16 - s.bs.length - 8 := rfl
  clear h1 h2 h3 ok
  cases hs : s.shut with
  | true =>
    rw [hs] at c4 hl
    rw [hl]
    clear hl hs
    go_enter Tryd.func32, Tryd.ntmps32
    go_wp2_with (go_at_call 38; refine (A.out).mono ?_; rintro e w1 ⟨rfl, rfl⟩)
    go_returns
    exact ⟨rfl, Kept.refl _ _⟩
  | false =>
    rw [hs] at c4 hl
    simp only [Bool.false_eq_true, if_false] at hl
    rw [hl]
    clear hl hs
    generalize s.size * s.sectors = X at *
    generalize s.bs.length = L at *
    have hw1 : IntKind.i64.wrap ((s.size : Int) * s.sectors) = (X : Int) := by rw [hX, IntKind.wrap_i64]; omega
    have hw2 : IntKind.i64.wrap ((X : Int) - 16) = (X : Int) - 16 := by rw [IntKind.wrap_i64]; omega
    have hw3 : IntKind.i64.wrap ((X : Int) - 16 - L) = (X : Int) - 16 - L := by rw [IntKind.wrap_i64]; omega
    have hw4 : IntKind.i64.wrap ((X : Int) - 16 - L - 8) = (X : Int) - 16 - L - 8 := by rw [IntKind.wrap_i64]; omega
    have hmx : ∀ ts t (W : World), (Builtin.max_ ts t #[.int .i64 ((X : Int) - 16 - L - 8), .int .i64 0]).run Tryd.prog W = .ok (.int .i64 ((X - 16 - L - 8 : Nat) : Int)) W := fun ts t W => by
      rw [run_max_int2]; congr 2; split <;> omega
    clear hX
    go_enter Tryd.func32, Tryd.ntmps32
    go_wp2_with (go_at_call 38; refine (A.out).mono ?_; rintro e w1 ⟨rfl, rfl⟩)
    go_quiet (fail)
    go_wp2
    go_returns
    exact ⟨rfl, (Kept.refl _ _).drewN _⟩
set_option maxHeartbeats 1000000 in
set_option maxRecDepth 100000 in
theorem p_mark {g : Nat} {s : PSt} {w : World} (h : PW g s w) : Calls Tryd.prog 33 #[.pointer (some ⟨g, 0, none⟩)] w fun e w' => e = .returned (.int .i64 (s.chunks.length : Nat)) ∧ w = w' := by
  have A := hidden (p_made h)
  obtain ⟨⟨vb, vs, h1, h2, h3⟩, ok, _⟩ := h
  obtain ⟨va, vc, rfl, _⟩ := h3.form
  have c3 : w.cell? ⟨g, 3, none⟩ = some (.slice va s.slots.length vc) := blk_cell h1
  have hsl : s.slots.length = s.chunks.length := slotsFrom_len _ _
  rw [hsl] at c3
  clear h1 h2 h3 ok hsl
  go_enter Tryd.func33, Tryd.ntmps33
  go_wp2_with (go_at_call 38; refine (A.out).mono ?_; rintro e w1 ⟨rfl, rfl⟩)
  go_returns
  exact ⟨rfl, rfl⟩

/-! ### Of a nil one -/
set_option maxHeartbeats 1000000 in
theorem p_appendNil (v : Value) (w : World) : Calls Tryd.prog 13 #[.pointer none, v] w fun e w' => e = .returned (.tuple #[.agg #[.int .i64 0, .int .i64 0], .int .i64 6]) ∧ Same w w' := by
  go_enter Tryd.func13, Tryd.ntmps13
  go_wp2_with (go_at_call 38; refine (p_madeNil _).mono ?_; rintro e w1 ⟨rfl, rfl⟩)
  go_returns
  exact ⟨rfl, same_alloc _ _⟩
set_option maxHeartbeats 1000000 in
theorem p_readNil (a b : Int) (w : World) : Calls Tryd.prog 30 #[.pointer none, .agg #[.int .i64 a, .int .i64 b]] w fun e w' => e = .returned (.tuple #[.slice none 0 0, .int .i64 6]) ∧ Same w w' := by
  go_enter Tryd.func30, Tryd.ntmps30
  go_wp2_with (go_at_call 38; refine (p_madeNil _).mono ?_; rintro e w1 ⟨rfl, rfl⟩)
  go_returns
  exact ⟨rfl, same_alloc _ _⟩
theorem p_backNil (n : Int) (w : World) : Calls Tryd.prog 31 #[.pointer none, .int .i64 n] w fun e w' => e = .returned (.int .i64 6) ∧ w = w' := by
  go_enter Tryd.func31, Tryd.ntmps31
  go_wp2_with (go_at_call 38; refine (p_madeNil _).mono ?_; rintro e w1 ⟨rfl, rfl⟩)
  go_returns
  exact ⟨rfl, rfl⟩
theorem p_sealNil (w : World) : Calls Tryd.prog 15 #[.pointer none] w fun e w' => e = .returned (.int .i64 6) ∧ w = w' := by
  go_enter Tryd.func15, Tryd.ntmps15
  go_wp2_with (go_at_call 38; refine (p_madeNil _).mono ?_; rintro e w1 ⟨rfl, rfl⟩)
  go_returns
  exact ⟨rfl, rfl⟩
theorem p_leftNil (w : World) : Calls Tryd.prog 32 #[.pointer none] w fun e w' => e = .returned (.int .i64 0) ∧ w = w' := by
  go_enter Tryd.func32, Tryd.ntmps32
  go_wp2_with (go_at_call 38; refine (p_madeNil _).mono ?_; rintro e w1 ⟨rfl, rfl⟩)
  go_returns
  exact ⟨rfl, rfl⟩
theorem p_markNil (w : World) : Calls Tryd.prog 33 #[.pointer none] w fun e w' => e = .returned (.int .i64 0) ∧ w = w' := by
  go_enter Tryd.func33, Tryd.ntmps33
  go_wp2_with (go_at_call 38; refine (p_madeNil _).mono ?_; rintro e w1 ⟨rfl, rfl⟩)
  go_returns
  exact ⟨rfl, rfl⟩
theorem p_takeNil (w : World) : Calls Tryd.prog 14 #[.pointer none] w fun e w' => e = .returned (.slice none 0 0) ∧ w = w' := by
  go_enter Tryd.func14, Tryd.ntmps14
  go_wp2_with (go_at_call 38; refine (p_madeNil _).mono ?_; rintro e w1 ⟨rfl, rfl⟩)
  go_returns
  exact ⟨rfl, rfl⟩
theorem p_slotsNil (w : World) : Calls Tryd.prog 21 #[.pointer none] w fun e w' => e = .returned (.slice none 0 0) ∧ w = w' := by
  go_enter Tryd.func21, Tryd.ntmps21
  go_wp2_with (go_at_call 38; refine (p_madeNil _).mono ?_; rintro e w1 ⟨rfl, rfl⟩)
  go_returns
  exact ⟨rfl, rfl⟩
theorem p_imageNil (w : World) : Calls Tryd.prog 18 #[.pointer none] w fun e w' => e = .returned (.slice none 0 0) ∧ w = w' := by
  go_enter Tryd.func18, Tryd.ntmps18
  go_wp2_with (go_at_call 38; refine (p_madeNil _).mono ?_; rintro e w1 ⟨rfl, rfl⟩)
  go_returns
  exact ⟨rfl, rfl⟩
theorem p_forkNil (w : World) : Calls Tryd.prog 12 #[.pointer none] w fun e w' => e = .returned (.pointer none) ∧ w = w' := by
  go_enter Tryd.func12, Tryd.ntmps12
  go_wp2_with (go_at_call 38; refine (p_madeNil _).mono ?_; rintro e w1 ⟨rfl, rfl⟩)
  go_returns
  exact ⟨rfl, rfl⟩
end Go.Proofs.YtafdkfieajdeiaaDoor
