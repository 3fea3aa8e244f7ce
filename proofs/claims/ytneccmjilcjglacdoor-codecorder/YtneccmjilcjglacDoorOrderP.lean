/-
  CodecOrder (P2.8): for any two lists of parts Key has no fault, the keys stand, as bytes, in the order of their parts, and are equal just where the parts are: the law's call returns true and leaves its arguments as they were.
  Condition: the table crcSteps holds what the program's text lays (the card ties it).
-/
import Derived.Test.YtneccmjilcjglacDoorCTab
import Derived.Test.YtneccmjilcjglacDoorKeyP
import Derived.Test.YtneccmjilcjglacDoorBeP
import Derived.Laws.StructEq
import Derived.Lib.Strings
namespace Go.Proofs.YtneccmjilcjglacDoor
open Go.RowKit
set_option linter.unusedVariables false

/-! ### The order of keys, of no program -/
theorem num_cons (a : UInt8) (l : List UInt8) : num (a :: l) = a.toNat * 256 ^ l.length + num l := by
  suffices h : ∀ (l : List UInt8) (x : Nat), l.foldl (fun a b => a * 256 + b.toNat) x = x * 256 ^ l.length + num l by
    have := h l a.toNat
    simpa [num] using this
  intro l
  induction l with
  | nil => intro x; simp [num]
  | cons b l ih =>
    intro x
    have e1 := ih (x * 256 + b.toNat)
    have e2 := ih b.toNat
    have e3 : num (b :: l) = l.foldl (fun a b => a * 256 + b.toNat) b.toNat := by simp [num]
    rw [e3, e2]
    simp only [List.foldl_cons, List.length_cons]
    rw [e1, Nat.pow_succ, Nat.add_mul, Nat.mul_assoc, Nat.mul_comm 256, Nat.add_assoc]
theorem less_num : ∀ (p q : List UInt8), p.length = q.length → Op.bytesLess p q = decide (num p < num q) := by
  intro p
  induction p with
  | nil => intro q h; cases q with
    | nil => simp [Op.bytesLess]
    | cons b q => simp at h
  | cons a p ih =>
    intro q h
    cases q with
    | nil => simp at h
    | cons b q =>
      have hl : p.length = q.length := by simpa using h
      have e := ih q hl
      have hp := num_lt p
      have hq := num_lt q
      rw [hl] at hp
      simp only [Op.bytesLess]
      rw [e, num_cons, num_cons, hl]
      generalize 256 ^ q.length = M at *
      rcases Nat.lt_trichotomy a.toNat b.toNat with h1 | h1 | h1
      · have hab : a < b := UInt8.lt_iff_toNat_lt.2 h1
        have hm : (a.toNat + 1) * M ≤ b.toNat * M := Nat.mul_le_mul_right _ h1
        rw [Nat.add_mul] at hm
        have : a.toNat * M + num p < b.toNat * M + num q := by omega
        simp [hab, this]
      · have hab : a = b := UInt8.toNat_inj.1 h1
        subst hab
        have hlt : ¬ a < a := by simp
        simp [hlt]
      · have hab : ¬ a < b := fun h => by have := UInt8.lt_iff_toNat_lt.1 h; omega
        have hne : (a == b) = false := by
          rw [beq_eq_false_iff_ne]
          rintro rfl
          omega
        have hm : (b.toNat + 1) * M ≤ a.toNat * M := Nat.mul_le_mul_right _ h1
        rw [Nat.add_mul] at hm
        have : ¬ a.toNat * M + num p < b.toNat * M + num q := by omega
        simp [hab, hne, this]
theorem less_append : ∀ (p q r r' : List UInt8), p.length = q.length → Op.bytesLess (p ++ r) (q ++ r') = if p = q then Op.bytesLess r r' else Op.bytesLess p q := by
  intro p
  induction p with
  | nil => intro q r r' h; cases q with
    | nil => simp
    | cons b q => simp at h
  | cons a p ih =>
    intro q r r' h
    cases q with
    | nil => simp at h
    | cons b q =>
      have hl : p.length = q.length := by simpa using h
      simp only [List.cons_append, Op.bytesLess, ih q r r' hl, List.cons.injEq]
      by_cases hab : a = b
      · subst hab
        have hlt : ¬ a < a := by simp
        simp [hlt]
      · have hb : (a == b) = false := by rw [beq_eq_false_iff_ne]; exact hab
        simp [hab, hb]
theorem be_inj (s x y : Nat) (hx : x < 256 ^ s) (hy : y < 256 ^ s) : be s x = be s y ↔ x = y := by
  constructor
  · intro h
    have := congrArg num h
    rwa [num_be', num_be', Nat.mod_eq_of_lt hx, Nat.mod_eq_of_lt hy] at this
  · rintro rfl; rfl
theorem less_be (s x y : Nat) (r r' : List UInt8) (hx : x < 256 ^ s) (hy : y < 256 ^ s) : Op.bytesLess (be s x ++ r) (be s y ++ r') = if x = y then Op.bytesLess r r' else decide (x < y) := by
  rw [less_append _ _ _ _ (by rw [be_length, be_length]), less_num (be s x) (be s y) (by rw [be_length, be_length]), num_be', num_be', Nat.mod_eq_of_lt hx, Nat.mod_eq_of_lt hy]
  by_cases h : x = y
  · rw [if_pos ((be_inj s x y hx hy).2 h), if_pos h]
  · rw [if_neg (fun e => h ((be_inj s x y hx hy).1 e)), if_neg h]
/-- Are parts below others? -/
def ordLess (pa a1 a2 : Nat) (na : ByteArray) (pb b1 b2 : Nat) (nb : ByteArray) : Bool :=
  if pa = pb then (if a1 = b1 then (if a2 = b2 then Op.bytesLess na.data.toList nb.data.toList else decide (a2 < b2)) else decide (a1 < b1)) else decide (pa < pb)
theorem keyL_two (p a b : Nat) (n : ByteArray) : keyL p [a, b] n = be 1 p ++ (be 8 a ++ (be 8 b ++ n.data.toList)) := by simp [keyL, numsL]
theorem key_less (pa a1 a2 : Nat) (na : ByteArray) (pb b1 b2 : Nat) (nb : ByteArray) (h1 : pa < 256) (h2 : a1 < 18446744073709551616) (h3 : a2 < 18446744073709551616) (h4 : pb < 256) (h5 : b1 < 18446744073709551616) (h6 : b2 < 18446744073709551616) :
    Op.bytesLess (keyL pa [a1, a2] na) (keyL pb [b1, b2] nb) = ordLess pa a1 a2 na pb b1 b2 nb := by
  rw [keyL_two, keyL_two, less_be 1 _ _ _ _ h1 h4, less_be 8 _ _ _ _ h2 h5, less_be 8 _ _ _ _ h3 h6]
  rfl
theorem key_eq (pa a1 a2 : Nat) (na : ByteArray) (pb b1 b2 : Nat) (nb : ByteArray) (h1 : pa < 256) (h2 : a1 < 18446744073709551616) (h3 : a2 < 18446744073709551616) (h4 : pb < 256) (h5 : b1 < 18446744073709551616) (h6 : b2 < 18446744073709551616) :
    keyL pa [a1, a2] na = keyL pb [b1, b2] nb ↔ (pa = pb ∧ a1 = b1 ∧ a2 = b2 ∧ na = nb) := by
  constructor
  · intro h
    rw [keyL_two, keyL_two] at h
    obtain ⟨e1, h⟩ := List.append_inj h (by rw [be_length, be_length])
    obtain ⟨e2, h⟩ := List.append_inj h (by rw [be_length, be_length])
    obtain ⟨e3, h⟩ := List.append_inj h (by rw [be_length, be_length])
    exact ⟨(be_inj 1 _ _ h1 h4).1 e1, (be_inj 8 _ _ h2 h5).1 e2, (be_inj 8 _ _ h3 h6).1 e3, ByteArray.ext (Array.ext' h)⟩
  · rintro ⟨rfl, rfl, rfl, rfl⟩; rfl

/-! ### The law -/
/-- One list of parts as a value. -/
abbrev partsV (p a b : Nat) (n : ByteArray) : Value := .agg #[.int .u8 (p : Int), .int .u64 (a : Int), .int .u64 (b : Int), .string n]
theorem parts_eq (W : World) (pa a1 a2 : Nat) (na : ByteArray) (pb b1 b2 : Nat) (nb : ByteArray) :
    (Op.equalIn 10000 31 (partsV pa a1 a2 na) (partsV pb b1 b2 nb)).run Tryd.prog W = .ok (decide (pa = pb ∧ a1 = b1 ∧ a2 = b2 ∧ na = nb)) W := by
  rw [run_equalIn_struct W 9999 31 _ _ (by kernel_rfl) (by kernel_rfl)]
  simp [Program.fieldsOf, Tryd.underlying31, Op.eqFields, go_sem]
  have hn : na.toList = nb.toList ↔ na = nb := by
    rw [Lib.toList_data, Lib.toList_data]
    exact ⟨fun h => ByteArray.ext (Array.ext' h), fun h => by rw [h]⟩
  simp only [Int.natCast_inj, hn]
  by_cases h1 : pa = pb <;> by_cases h2 : a1 = b1 <;> by_cases h3 : a2 = b2 <;> by_cases h4 : na = nb <;> simp [h1, h2, h3, h4]
set_option maxHeartbeats 2000000 in
theorem below_any (pa a1 a2 : Nat) (na : ByteArray) (pb b1 b2 : Nat) (nb : ByteArray) (w : World) :
    Calls Tryd.prog 14 #[partsV pa a1 a2 na, partsV pb b1 b2 nb] w fun e w' => e = .returned (.bool (ordLess pa a1 a2 na pb b1 b2 nb)) ∧ Same w w' := by
  have hk : Same w ((w.alloc (.cells #[.int .u8 (pa : Int), .int .u64 (a1 : Int), .int .u64 (a2 : Int), .string na] 31)).alloc (.cells #[.int .u8 (pb : Int), .int .u64 (b1 : Int), .int .u64 (b2 : Int), .string nb] 31)) := ((Kept.refl _ _).alloc _).alloc _
  have HK := hidden hk
  clear hk
  by_cases h1 : pa = pb
  · subst h1
    have q1 : ((pa : Int) != (pa : Int)) = false := by simp
    by_cases h2 : a1 = b1
    · subst h2
      have q2 : ((a1 : Int) != (a1 : Int)) = false := by simp
      by_cases h3 : a2 = b2
      · subst h3
        have q3 : ((a2 : Int) != (a2 : Int)) = false := by simp
        have e : ordLess pa a1 a2 na pa a1 a2 nb = Op.bytesLess na.toList nb.toList := by simp [ordLess, Lib.toList_data]
        have HE := hidden e
        clear e
        go_enter Tryd.func14, Tryd.ntmps14
        go_wp2
        go_returns
        rw [HE.out]
        exact ⟨rfl, HK.out⟩
      · have q3 : ((a2 : Int) != (b2 : Int)) = true := by simp; omega
        have e : ordLess pa a1 a2 na pa a1 b2 nb = decide (a2 < b2) := by simp [ordLess, h3]
        have HE := hidden e
        clear e h3
        go_enter Tryd.func14, Tryd.ntmps14
        go_wp2
        go_returns
        rw [HE.out]
        exact ⟨rfl, HK.out⟩
    · have q2 : ((a1 : Int) != (b1 : Int)) = true := by simp; omega
      have e : ordLess pa a1 a2 na pa b1 b2 nb = decide (a1 < b1) := by simp [ordLess, h2]
      have HE := hidden e
      clear e h2
      go_enter Tryd.func14, Tryd.ntmps14
      go_wp2
      go_returns
      rw [HE.out]
      exact ⟨rfl, HK.out⟩
  · have q1 : ((pa : Int) != (pb : Int)) = true := by simp; omega
    have e : ordLess pa a1 a2 na pb b1 b2 nb = decide (pa < pb) := by simp [ordLess, h1]
    have HE := hidden e
    clear e h1
    go_enter Tryd.func14, Tryd.ntmps14
    go_wp2
    go_returns
    rw [HE.out]
    exact ⟨rfl, HK.out⟩
theorem two_cells (W : World) (a b : Nat) : Cells (W.alloc (.cells #[.int .u64 (a : Int), .int .u64 (b : Int)] 29)) (.slice (some ⟨W.heap.size, 0, none⟩) 2 2) [a, b] := by
  refine ⟨_, 2, rfl, fun _ => ⟨W.heap.size, 0, rfl, fun j hj => ?_⟩⟩
  rw [blk_cell (blk_new W _)]
  match j, hj with
  | 0, _ => rfl
  | 1, _ => rfl
theorem four {W : World} {g : Nat} {x0 x1 x2 x3 : Value} {t : TypeId} (h : W.heap[g]? = some (.cells #[x0, x1, x2, x3] t (0, 0))) :
    W.cell? ⟨g, 0, none⟩ = some x0 ∧ W.cell? ⟨g, 1, none⟩ = some x1 ∧ W.cell? ⟨g, 2, none⟩ = some x2 ∧ W.cell? ⟨g, 3, none⟩ = some x3 ∧ ∀ o, (W.alloc o).cell? ⟨g, 3, none⟩ = some x3 :=
  ⟨blk_cell h, blk_cell h, blk_cell h, blk_cell h, fun o => blk_cell (blk_alloc h o)⟩
theorem arr_l (l : List UInt8) : (⟨l.toArray⟩ : ByteArray).toList = l := by rw [Lib.toList_data]
set_option maxHeartbeats 4000000 in
set_option maxRecDepth 100000 in
theorem order_walk (pa a1 a2 : Nat) (na : ByteArray) (pb b1 b2 : Nat) (nb : ByteArray) (w : World) (h1 : pa < 256) (h2 : a1 < 18446744073709551616) (h3 : a2 < 18446744073709551616) (l1 : na.size ≤ 140737488351232) (h4 : pb < 256) (h5 : b1 < 18446744073709551616) (h6 : b2 < 18446744073709551616) (l2 : nb.size ≤ 140737488351232) (hT : Tab w) :
    Calls Tryd.prog 4 #[partsV pa a1 a2 na, partsV pb b1 b2 nb] w fun e w' => e = .returned (.bool true) ∧ Same w w' := by
  have k1 := fun v w hv => key_in pa v [a1, a2] na w h1 hv (by simp) (by simp; omega) l1
  have k2 := fun v w hv => key_in pb v [b1, b2] nb w h4 hv (by simp) (by simp; omega) l2
  have kl := key_less pa a1 a2 na pb b1 b2 nb h1 h2 h3 h4 h5 h6
  have ke := key_eq pa a1 a2 na pb b1 b2 nb h1 h2 h3 h4 h5 h6
  have kb := fun w => below_any pa a1 a2 na pb b1 b2 nb w
  have kp := fun W => parts_eq W pa a1 a2 na pb b1 b2 nb
  have s1 := arr_l (keyL pa [a1, a2] na)
  have s2 := arr_l (keyL pb [b1, b2] nb)
  generalize (⟨(keyL pa [a1, a2] na).toArray⟩ : ByteArray) = S at k1 s1
  generalize (⟨(keyL pb [b1, b2] nb).toArray⟩ : ByteArray) = T at k2 s2
  rw [← s1, ← s2] at kl ke
  have kq : (S.toList == T.toList) = decide (pa = pb ∧ a1 = b1 ∧ a2 = b2 ∧ na = nb) := by
    rw [Bool.eq_iff_iff, beq_iff_eq, decide_eq_true_eq]
    exact ke
  generalize decide (pa = pb ∧ a1 = b1 ∧ a2 = b2 ∧ na = nb) = q at kq kp
  generalize ordLess pa a1 a2 na pb b1 b2 nb = o at kl kb
  have HT := hidden hT
  have K1 := hidden k1
  have K2 := hidden k2
  have KB := hidden kb
  clear hT k1 k2 kb ke s1 s2
  have hb1 : Same w ((w.alloc (.cells #[.int .u8 (pa : Int), .int .u64 (a1 : Int), .int .u64 (a2 : Int), .string na] 31)).alloc (.cells #[.int .u8 (pb : Int), .int .u64 (b1 : Int), .int .u64 (b2 : Int), .string nb] 31)) := ((Kept.refl _ _).alloc _).alloc _
  have HB := hidden hb1
  clear hb1
  have ba : ((w.alloc (.cells #[.int .u8 (pa : Int), .int .u64 (a1 : Int), .int .u64 (a2 : Int), .string na] 31)).alloc (.cells #[.int .u8 (pb : Int), .int .u64 (b1 : Int), .int .u64 (b2 : Int), .string nb] 31)).heap[w.heap.size]? = some (.cells #[.int .u8 (pa : Int), .int .u64 (a1 : Int), .int .u64 (a2 : Int), .string na] 31 (0, 0)) := blk_alloc (blk_new w _) _
  have bb : ((w.alloc (.cells #[.int .u8 (pa : Int), .int .u64 (a1 : Int), .int .u64 (a2 : Int), .string na] 31)).alloc (.cells #[.int .u8 (pb : Int), .int .u64 (b1 : Int), .int .u64 (b2 : Int), .string nb] 31)).heap[w.heap.size + 1]? = some (.cells #[.int .u8 (pb : Int), .int .u64 (b1 : Int), .int .u64 (b2 : Int), .string nb] 31 (0, 0)) := by
    have h := blk_new (w.alloc (.cells #[.int .u8 (pa : Int), .int .u64 (a1 : Int), .int .u64 (a2 : Int), .string na] 31)) (.cells #[.int .u8 (pb : Int), .int .u64 (b1 : Int), .int .u64 (b2 : Int), .string nb] 31)
    simpa using h
  have BA := hidden ba
  have BB := hidden bb
  clear ba bb
  go_enter Tryd.func4, Tryd.ntmps4
  go_wp2_with (first
    | (go_at_call 11; refine (awake_any _ (HT.out.same HB.out)).mono ?_; rintro e w1 ⟨rfl, j1⟩; have A1 := hidden (blk_kept j1 (fun h => h) BA.out); have B1 := hidden (blk_kept j1 (fun h => h) BB.out); obtain ⟨u0, u1, u2, u3, u4⟩ := four A1.out; have J1 := hidden (Kept.trans HB.out j1); have t1 : True := trivial; clear j1)
    | (go_at_call 13; have _t := t1; refine (K1.out _ _ (two_cells w1 a1 a2)).mono ?_; rintro e w2 ⟨rfl, j2⟩; have A2 := hidden (blk_kept j2 (fun h => h) (blk_alloc A1.out _)); have B2 := hidden (blk_kept j2 (fun h => h) (blk_alloc B1.out _)); clear u0 u1 u2 u3 u4 t1; obtain ⟨u0, u1, u2, u3, u4⟩ := four B2.out; have J2 := hidden (Kept.trans (Kept.alloc J1.out _) j2); clear j2)
    | (go_at_call 13; refine (K2.out _ _ (two_cells w2 b1 b2)).mono ?_; rintro e w3 ⟨rfl, j3⟩; have A3 := hidden (blk_kept j3 (fun h => h) (blk_alloc A2.out _)); have B3 := hidden (blk_kept j3 (fun h => h) (blk_alloc B2.out _)); clear u0 u1 u2 u3 u4; obtain ⟨u0, u1, u2, u3, u4⟩ := four A3.out; obtain ⟨v0, v1, v2, v3, v4⟩ := four B3.out; have J3 := hidden (Kept.trans (Kept.alloc J2.out _) j3); clear j3)
    | (go_at_call 14; refine (KB.out _).mono ?_; rintro e w4 ⟨rfl, j4⟩; clear u0 u1 u2 u3 u4 v0 v1 v2 v3 v4; obtain ⟨u0, u1, u2, u3, u4⟩ := four (blk_kept j4 (fun h => h) A3.out); obtain ⟨v0, v1, v2, v3, v4⟩ := four (blk_kept j4 (fun h => h) B3.out); have J4 := hidden (Kept.trans J3.out j4); clear j4))
  go_returns
  refine ⟨?_, J4.out⟩
  first | rfl | simp
end Go.Proofs.YtneccmjilcjglacDoor
namespace Go.Proofs.YtneccmjilcjglacDoor.CodecOrder
open Go.ChangeShapes Go.WideShapes Go.ChangeAt Go.RowKit Go.Joins Go.ChangeMaps
set_option maxRecDepth 100000 in
theorem contract (H : Type) (enc : TypeId × Value → H) (W : World) (base : Nat) (args : Array Value) (ds gs : List (DataW H)) (before : List MemPlace)
    (hval : ∀ (j : Nat) t v, Tryd.f4.params[j]? = some t → args[j]? = some v → Value.okWide Tryd.prog W .any base t v)
    (hW : DataW.Whole enc Tryd.prog Tryd.f4.params.toList Rows.codecOrderSpec.vars false W args.toList ds gs before)
    (hsz : (DataW.weightsEach Tryd.prog (Tryd.f4.params.toList ++ (OpenSpec.ofChange Rows.codecOrderSpec).bare.plain.varTypes Tryd.prog) (ds ++ gs)).all (· ≤ reachBytes) = true)
    (hL : laidMetH Tryd.prog Rows.codecOrderRow.laid W) :
    Calls Tryd.prog 4 args W fun e W' => ∃ v, e = .returned v ∧ Rows.codecOrderSpec.post enc Tryd.prog Tryd.f4 false true false false W args v W' := by
  have hW' := hW
  obtain ⟨p, q, hA0, hV, rfl, hfz, hnd⟩ := hW
  have hA : DataW.TrodAll enc Tryd.prog W 0 (fun _ => true) true Tryd.f4.params.toList args.toList ds p := hA0
  rw [Tryd.params4] at hA hval hsz
  obtain ⟨v0, vs0, d0, ds0, p0, q0, hargs, rfl, rfl, h0, r0⟩ := trodAll_cons hA
  obtain ⟨v1, vs1, d1, ds1, p1, q1, rfl, rfl, rfl, h1, r1⟩ := trodAll_cons r0
  obtain ⟨rfl, rfl, rfl⟩ := trodAll_nil r1
  obtain rfl : args = #[v0, v1] := by cases args; simp_all
  obtain ⟨rfl, rfl⟩ := trodVars_none hV
  obtain ⟨c0_0, c0_1, c0_2, c0_3, y0_0, y0_1, y0_2, y0_3, m0, rfl, rfl, hp0, hy0_0, hy0_1, hy0_2, hy0_3⟩ := open_agg4 Tryd.underlying31 (by kernel_rfl) (by kernel_rfl) (hval 0 31 v0 rfl rfl) h0
  obtain ⟨aP, e0_0, rfl, w_aP⟩ := DataW.trod_int Tryd.underlying5 hy0_0
  obtain ⟨aA, e0_1, rfl, w_aA⟩ := DataW.trod_int Tryd.underlying29 hy0_1
  obtain ⟨aB, e0_2, rfl, w_aB⟩ := DataW.trod_int Tryd.underlying29 hy0_2
  obtain ⟨aN, e0_3, rfl, _⟩ := DataW.trod_string Tryd.underlying9 hy0_3
  simp at e0_0 e0_1 e0_2 e0_3
  subst e0_0 e0_1 e0_2 e0_3
  have b_aP : 0 ≤ aP ∧ aP ≤ 255 := by simpa [Lit.wf, IntKind.min, IntKind.max, IntKind.signed, IntKind.bits] using w_aP
  obtain ⟨aP, rfl⟩ := Int.eq_ofNat_of_zero_le b_aP.1
  have b_aA : 0 ≤ aA ∧ aA ≤ 18446744073709551615 := by simpa [Lit.wf, IntKind.min, IntKind.max, IntKind.signed, IntKind.bits] using w_aA
  obtain ⟨aA, rfl⟩ := Int.eq_ofNat_of_zero_le b_aA.1
  have b_aB : 0 ≤ aB ∧ aB ≤ 18446744073709551615 := by simpa [Lit.wf, IntKind.min, IntKind.max, IntKind.signed, IntKind.bits] using w_aB
  obtain ⟨aB, rfl⟩ := Int.eq_ofNat_of_zero_le b_aB.1
  obtain ⟨c1_0, c1_1, c1_2, c1_3, y1_0, y1_1, y1_2, y1_3, m1, rfl, rfl, hp1, hy1_0, hy1_1, hy1_2, hy1_3⟩ := open_agg4 Tryd.underlying31 (by kernel_rfl) (by kernel_rfl) (hval 1 31 v1 rfl rfl) h1
  obtain ⟨bP, e1_0, rfl, w_bP⟩ := DataW.trod_int Tryd.underlying5 hy1_0
  obtain ⟨bA, e1_1, rfl, w_bA⟩ := DataW.trod_int Tryd.underlying29 hy1_1
  obtain ⟨bB, e1_2, rfl, w_bB⟩ := DataW.trod_int Tryd.underlying29 hy1_2
  obtain ⟨bN, e1_3, rfl, _⟩ := DataW.trod_string Tryd.underlying9 hy1_3
  simp at e1_0 e1_1 e1_2 e1_3
  subst e1_0 e1_1 e1_2 e1_3
  have b_bP : 0 ≤ bP ∧ bP ≤ 255 := by simpa [Lit.wf, IntKind.min, IntKind.max, IntKind.signed, IntKind.bits] using w_bP
  obtain ⟨bP, rfl⟩ := Int.eq_ofNat_of_zero_le b_bP.1
  have b_bA : 0 ≤ bA ∧ bA ≤ 18446744073709551615 := by simpa [Lit.wf, IntKind.min, IntKind.max, IntKind.signed, IntKind.bits] using w_bA
  obtain ⟨bA, rfl⟩ := Int.eq_ofNat_of_zero_le b_bA.1
  have b_bB : 0 ≤ bB ∧ bB ≤ 18446744073709551615 := by simpa [Lit.wf, IntKind.min, IntKind.max, IntKind.signed, IntKind.bits] using w_bB
  obtain ⟨bB, rfl⟩ := Int.eq_ofNat_of_zero_le b_bB.1
  have l_aN : aN.size ≤ 140737488351232 := by
    have h1 := List.all_eq_true.1 hsz aN.data.toList.length (DataW.weights_mem_each (j := 0) (t := 31) rfl rfl _ (by simp [DataW.weights, DataW.weightsEach, Tryd.underlying31]))
    have h2 := of_decide_eq_true h1
    rw [size_list] at h2
    unfold reachBytes at h2
    omega
  have l_bN : bN.size ≤ 140737488351232 := by
    have h1 := List.all_eq_true.1 hsz bN.data.toList.length (DataW.weights_mem_each (j := 1) (t := 31) rfl rfl _ (by simp [DataW.weights, DataW.weightsEach, Tryd.underlying31]))
    have h2 := of_decide_eq_true h1
    rw [size_list] at h2
    unfold reachBytes at h2
    omega
  refine (order_walk aP aA aB aN bP bA bB bN W (show aP < 256 by have := b_aP.2; omega) (show aA < 18446744073709551616 by have := b_aA.2; omega) (show aB < 18446744073709551616 by have := b_aB.2; omega) l_aN (show bP < 256 by have := b_bP.2; omega) (show bA < 18446744073709551616 by have := b_bA.2; omega) (show bB < 18446744073709551616 by have := b_bB.2; omega) l_bN (tab_laid hL)).mono fun e W' ⟨he, hg⟩ => ?_
  subst he
  exact ⟨_, rfl, law_post laidOut (by rw [Tryd.params4]; decide +kernel) rfl hW' rfl Tryd.underlying4 ⟨rfl, rfl, rfl⟩ (hg.below (Nat.le_refl _) fun _ h => h.elim)⟩
set_option maxRecDepth 100000 in
theorem lifted (os : Os) (started : os.Started) (H : Type) (enc : TypeId × Value → H) (F : Stop.Interp) :
    ReturnsInHanded {} Tryd.checked os 4 .any ((OpenSpec.ofChange Rows.codecOrderSpec).preRow enc Tryd.prog Tryd.f4 Rows.codecOrderRow.domain false Rows.codecOrderRow.laid) (((OpenSpec.ofChange Rows.codecOrderSpec).at F).post enc Tryd.prog Tryd.f4 false true false false) := by
  refine returnsInHanded_of_row (C := Tryd.checked) (s := OpenSpec.ofChange Rows.codecOrderSpec) own started (by kernel_rfl) Tryd.func4
    (witness_row_at (enc := enc) (C := Tryd.checked) false ({ World.holding Tryd.prog os ⟨#[], #[], []⟩ with heap := (World.holding Tryd.prog os ⟨#[], #[], []⟩).heap.modify tabBlock fun | .cells _ t frozen => .cells (tabInts.map (Value.int .u32)).toArray t frozen | o => o }) #[.agg #[.int .u8 0, .int .u64 0, .int .u64 0, .string ⟨#[]⟩], .agg #[.int .u8 0, .int .u64 0, .int .u64 0, .string ⟨#[]⟩]] rfl (by kernel_rfl) (by kernel_rfl) (by kernel_rfl)
      (OpenSpec.preRow_of_cond (x := ([.agg [.lit (.int .u8 0), .lit (.int .u64 0), .lit (.int .u64 0), .lit (.string [])], .agg [.lit (.int .u8 0), .lit (.int .u64 0), .lit (.int .u64 0), .lit (.string [])]], [], [])) 8 (by kernel_rfl) (by kernel_rfl) (fun k hk => by cases hk) (by kernel_rfl) (laidMet_of_run' 8 (by kernel_rfl) (by kernel_rfl)))) ?_
  intro W base args ds gs before hval hW _ _ hsz hL _ _
  exact contract H enc W base args ds gs before hval hW hsz hL
theorem said : Rows.CodecOrderSaid :=
  OpenClaim.holds_of_cond 4 Tryd.f4 rfl rfl rfl rfl rfl rfl rfl ⟨rfl, rfl, rfl, rfl, rfl⟩ rfl rfl rfl rfl rfl (by kernel_rfl) Tryd.func4 (by kernel_rfl)
    (of_decide_eq_true (by kernel_rfl)) (by unfold Func.isWrapper; first | (rw [if_pos (by decide +kernel)]; kernel_rfl) | (rw [if_neg (by decide +kernel)]; exact ⟨rfl, rfl⟩))
    (fun os started H enc _ F => by rw [OpenClaim.pre_eq_preRow]; exact lifted os started H enc F)
theorem plain (f : FuncId) (fn : Func) (hf : Tryd.pinned.checked.prog.funcNamed Rows.codecOrderRow.func = some f) (hfn : Tryd.pinned.checked.prog.funcs[f]? = some fn) :
    false = Tryd.pinned.checked.prog.looks [] ∧ ∀ (j : Nat) t, fn.params[j]? = some t → Tryd.pinned.checked.prog.wantsStandIn t = false := by
  obtain rfl : f = 4 := Option.some.inj ((show Tryd.prog.funcNamed Rows.codecOrderRow.func = some 4 by kernel_rfl).symm.trans hf) |>.symm
  obtain rfl : fn = Tryd.f4 := (Option.some.inj (Tryd.func4.symm.trans hfn)).symm
  refine ⟨by kernel_rfl, fun j t ht => ?_⟩
  rw [Tryd.params4] at ht
  have hm : t ∈ [31, 31] := by simpa using Array.mem_of_getElem? ht
  have hall : [31, 31].all (fun t => !Tryd.prog.wantsStandIn t) = true := by kernel_rfl
  have h1 := List.all_eq_true.1 hall t hm
  have h2 : Tryd.prog.wantsStandIn t = false := by simpa using h1
  exact h2
theorem card : Rows.CodecOrderCardSaid :=
  Claim7.holds_tied_plain_at .later [] _ _ _ _ said (fun _ h => by cases h) (by kernel_rfl) (fun _ h => by cases h) codecOrder_row_tie rfl ⟨rfl, rfl⟩ (by kernel_rfl) rfl plain (by kernel_rfl)
end Go.Proofs.YtneccmjilcjglacDoor.CodecOrder
namespace Go.Proofs.YtneccmjilcjglacDoor
theorem codecOrder_card : Rows.CodecOrderCardSaid := CodecOrder.card
end Go.Proofs.YtneccmjilcjglacDoor
