/- script: numbers as texts and back, words joined: Itoa, Atoi, joined, numbers, mayNumber, numberOf. -/
import Derived.Test.YtndfgpelioipcaaDoorSc2
import Derived.Test.YtndfgpelioipcaaDoorScSh
import Derived.Lib.AppendIntMem
import Derived.Lib.ItoaLen
import Derived.Lib.AtoiAllCases
import Derived.Lib.AtoiErrMem
namespace Go.Proofs.YtndfgpelioipcaaDoor
open Go.RowKit Go.Sort
set_option linter.unusedVariables false
set_option linter.unusedSimpArgs false
/-- What strconv reads of the package's variables. -/
structure Tb (w : World) : Prop where
  pow : Lib.TabIs Tryd.prog w "internal/strconv.uint64pow10" .u64 Lib.pow10Tab
  syn : ∃ tp p, w.cell? ⟨2, 0, none⟩ = some (.iface tp p)
  rng : ∃ tp p, w.cell? ⟨3, 0, none⟩ = some (.iface tp p)
theorem Tb.same {w w' : World} (h : Tb w) (k : Same w w') : Tb w' := by
  obtain ⟨t1, p1, h1⟩ := h.syn
  obtain ⟨t2, p2, h2⟩ := h.rng
  exact ⟨Lib.tabBelow_of_tabIs h.pow w' (k.below (Nat.le_refl _) fun _ h => h.elim), ⟨t1, p1, k.cell (fun h => h) h1⟩, ⟨t2, p2, k.cell (fun h => h) h2⟩⟩
theorem same_grow (w : World) (os : Array Obj) : Same w (grow w os) :=
  ⟨rfl, rfl, rfl, by simp [grow], fun k hk _ => by simp only [grow]; rw [Array.getElem?_append_left hk]⟩
theorem same_bytes (w : World) (e : TypeId) (t : ByteArray) : Same w (Lib.bytesWorld w e t) := same_of_below (Lib.bytesWorld_below w e t)
theorem itoa_any (n : Int) (h0 : -9223372036854775808 ≤ n) (h1 : n ≤ 9223372036854775807) (w : World) (T : Tb w) : Calls Tryd.prog 40 #[.int .i64 n] w fun e w' => e = .returned (.string (BA (Lib.itoa n))) ∧ Same w w' :=
  (Any.strconv_Itoa itoaLay n h0 h1 w T.pow).mono fun e w' ⟨h2, k, os, h3⟩ => ⟨h2, by rw [h3]; exact Kept.trans ((Kept.refl _ w).drewN k) (same_grow _ os)⟩
theorem atoi_ok (s : ByteArray) (hs : s.size ≤ 281474976710656) (v : Int) (h : Lib.atoiAll s.data.toList = .ok v) (w : World) : Calls Tryd.prog 51 #[.string s] w fun e w' => e = .returned (.tuple #[.int .i64 v, .nilIface]) ∧ Same w w' :=
  (Any.strconv_Atoi_ok atoiLay s (by omega) v h w).mono fun e w' ⟨h2, h3⟩ => ⟨h2, by rcases h3 with h3 | ⟨t, h3⟩; (rw [h3]; exact Kept.refl _ _); (rw [h3]; exact same_bytes _ _ _)⟩
theorem atoi_bad (s : ByteArray) (hs : s.size ≤ 281474976710656) (h : ∀ v, Lib.atoiAll s.data.toList ≠ .ok v) (w : World) (T : Tb w) : Calls Tryd.prog 51 #[.string s] w fun e w' => (∃ z N, e = .returned (.tuple #[.int .i64 z, .iface 103 (.pointer (some ⟨N, 0, none⟩))])) ∧ Same w w' := by
  obtain ⟨t1, p1, h1⟩ := T.syn
  obtain ⟨t2, p2, h2⟩ := T.rng
  cases hA : Lib.atoiAll s.data.toList
  · exact absurd hA (h _)
  · exact (Any.strconv_Atoi_syntax atoiLay s hs hA _ w h1 (.inr ⟨t1, p1, rfl⟩)).mono fun e w' ⟨N, h3, _, _, h4⟩ => ⟨⟨_, N, h3⟩, same_of_below h4⟩
  · exact (Any.strconv_Atoi_range atoiLay s hs hA _ w h2 (.inr ⟨t2, p2, rfl⟩)).mono fun e w' ⟨N, h3, _, _, h4⟩ => ⟨⟨_, N, h3⟩, same_of_below h4⟩
/-- Words with a blank between them. -/
def jn (l : List (List UInt8)) : List UInt8 := Lib.join l [32]
def wsum (l : List (List UInt8)) : Nat := (l.map fun x => x.length + 1).sum
theorem len_wsum (l : List (List UInt8)) : l.length ≤ wsum l := by
  induction l with
  | nil => simp [wsum]
  | cons x l ih => simp [wsum] at *; omega
theorem jn_nil : jn [] = [] := rfl
theorem jn_one (x : List UInt8) : jn [x] = x := by unfold jn; rw [Lib.join_cons]; simp [Lib.joinTail]
theorem jn_cons (x y : List UInt8) (l : List (List UInt8)) : jn (x :: y :: l) = x ++ 32 :: jn (y :: l) := by
  unfold jn
  rw [Lib.join_cons, Lib.join_cons]
  simp [Lib.joinTail]
theorem jn_len : ∀ l : List (List UInt8), (jn l).length ≤ wsum l
  | [] => by simp [jn_nil]
  | [x] => by rw [jn_one]; simp [wsum]
  | x :: y :: l => by
    rw [jn_cons]
    have := jn_len (y :: l)
    simp [wsum] at *
    omega
theorem map_data (l : List (List UInt8)) : (l.map BA).map (·.data.toList) = l := by
  rw [List.map_map]
  conv => rhs; rw [← List.map_id l]
  exact List.map_congr_left fun x _ => BA_data x
theorem extra : Builder.Extra Tryd.prog joinLay_ren := { sizeBuilder := by kernel_rfl, liesBuilder := by kernel_rfl, t5 := Tryd.underlying5, a5 := Tryd.isAgg5, z5 := Tryd.sizeOf5, v5 := Tryd.zeroValue5, infoByte := by kernel_rfl, cellsByte := by kernel_rfl, sizeByte := by kernel_rfl, neB5 := by decide }
set_option maxHeartbeats 1000000 in
set_option maxRecDepth 100000 in
theorem sjoin_any (l : List (List UInt8)) (a : Option Addr) (n c : Nat) (w : World) (r : Row w (.slice a n c) (TS (l.map BA))) (hl : wsum l ≤ 140737488355328) :
    Calls Tryd.prog 39 #[.slice a n c, .string ⟨#[32]⟩] w fun e w' => e = .returned (.string (BA (jn l))) ∧ Same w w' := by
  have e1 := r.tl
  have e2 := r.len.2
  have e3 := len_wsum l
  rw [List.length_map] at e1
  by_cases h0 : n = 0
  · subst h0
    obtain rfl := List.length_eq_zero_iff.1 e1
    exact (Any.strings_Join_none joinLay extra a c ⟨#[32]⟩ w).mono fun e w' ⟨h1, h2⟩ => ⟨h1, h2 ▸ Kept.refl _ _⟩
  · obtain ⟨b1, o1, rfl, hc1⟩ := r.at (by rw [TS_len, List.length_map]; omega)
    have hcl : ∀ (j : Nat) x, (l.map BA)[j]? = some x → w.cell? ⟨b1, o1 + j, none⟩ = some (.string x) := fun j x hj => hc1 j _ (by unfold TS; rw [List.getElem?_map, hj]; rfl)
    have hbk : b1 < w.heap.size := by
      have h := hcl 0 _ (List.getElem?_eq_getElem (by rw [List.length_map]; omega))
      exact World.block_lt_of_cell? w _ h
    have hj := jn_len l
    have hmd := map_data l
    have := Any.strings_Join joinLay extra b1 o1 c (l.map BA) ⟨#[32]⟩ w hcl hbk (by rw [List.length_map]; omega) (by rw [List.length_map]; omega) (by rw [hmd]; exact Nat.le_trans hj hl)
    rw [hmd, List.length_map, e1] at this
    exact this.mono fun e w' ⟨h1, h2⟩ => ⟨h1, same_of_below h2⟩
set_option maxHeartbeats 1000000 in
set_option maxRecDepth 100000 in
theorem joined_any (l : List (List UInt8)) (a : Option Addr) (n c : Nat) (w : World) (r : Row w (.slice a n c) (TS (l.map BA))) (hl : wsum l ≤ 140737488355328) :
    Calls Tryd.prog 32 #[.slice a n c] w fun e w' => e = .returned (.string (BA (jn l))) ∧ Same w w' := by
  have HJ := hidden (sjoin_any l a n c w r hl)
  generalize BA (jn l) = y at HJ ⊢
  clear r
  go_enter Tryd.func32, Tryd.ntmps32
  go_wp2_with (go_at_call 39; refine (HJ.out).mono ?_; rintro e w1 ⟨rfl, k1⟩; have HK := hidden k1; clear k1)
  go_returns
  exact ⟨rfl, HK.out⟩
theorem make_strs (n : Nat) (hn : n ≤ 1099511627776) (W : World) :
    (Instr.makeSlice 37 (.int .i64 (n : Int)) (.int .i64 (n : Int))).run Tryd.prog W = .ok (.slice (some ⟨W.heap.size, 0, none⟩) n n) (W.alloc (.cells (List.replicate n (Value.string ⟨#[]⟩)).toArray 9)) := by
  obtain ⟨i0, hi, hz0, hz1, hz2⟩ := info_parts infoS
  have h := run_make (P := Tryd.prog) W 37 9 i0 (.string ⟨#[]⟩) Tryd.underlying37 hi hz0 .i64 .i64 (n : Int) (n : Int) (by omega) (by omega) (by rw [hz2]; omega) (by omega)
  have hM : madeCells (Value.string ⟨#[]⟩).cells (n * i0.size) = (List.replicate n (Value.string ⟨#[]⟩)).toArray := by
    rw [hz1, Nat.mul_one]
    apply Array.ext'
    rw [List.toList_toArray]
    exact toList_madeCells_one _ _
  rw [Int.toNat_natCast, hM] at h
  exact h
theorem own_set {w : World} {B g n cap i : Nat} {e : TypeId} {xs : List Value} (h : w.ownsRow B e 1 (.slice (some ⟨g, 0, none⟩) n cap) n xs) (hi : i < n) (u : Value) :
    (w.setCell ⟨g, i, none⟩ u).ownsRow B e 1 (.slice (some ⟨g, 0, none⟩) n cap) n (xs.set i u) := by
  obtain ⟨h1, h2⟩ := h
  refine ⟨by simpa using h1, ?_⟩
  rcases h2 with ⟨h2, _⟩ | ⟨g', cap', cur, hv, hb, hg, hn, hc, hs, ht⟩
  · cases h2
  · obtain ⟨rfl, rfl⟩ : g = g' ∧ cap = cap' := by simpa using hv
    refine Or.inr ⟨g, cap, cur.setIfInBounds i u, rfl, hb, blk_set hg u, hn, hc, by simpa using hs, ?_⟩
    rw [Array.toList_setIfInBounds, List.take_set, ht]
theorem own_cell {w : World} {B g n cap i : Nat} {e : TypeId} {xs : List Value} (h : w.ownsRow B e 1 (.slice (some ⟨g, 0, none⟩) n cap) n xs) (u : Value) (hu : xs[i]? = some u) :
    w.cell? ⟨g, i, none⟩ = some u ∧ w.frozen? ⟨g, i, none⟩ = false := by
  have h1 := h.cells (g := g) rfl i u hu
  rw [add_none, Nat.zero_add] at h1
  refine ⟨h1, ?_⟩
  rcases h.2 with ⟨h2, _⟩ | ⟨g', cap', cur, hv, hb, hg, _⟩
  · cases h2
  · obtain ⟨rfl, rfl⟩ : g = g' ∧ cap = cap' := by simpa using hv
    exact blk_free hg
/-- The row of numbers' texts while it is filled. -/
def nrow (zs : List Int) (k : Nat) : List Value := TS (((zs.take k).map fun z => BA (Lib.itoa z)) ++ List.replicate (zs.length - k) ⟨#[]⟩)
theorem nrow_zero (zs : List Int) : nrow zs 0 = List.replicate zs.length (Value.string ⟨#[]⟩) := by simp [nrow, TS]
theorem nrow_end (zs : List Int) : nrow zs zs.length = TS ((zs.map Lib.itoa).map BA) := by simp [nrow, TS, Function.comp_def]
theorem nrow_set (zs : List Int) (k : Nat) (hk : k < zs.length) : (nrow zs k).set k (.string (BA (Lib.itoa zs[k]))) = nrow zs (k + 1) := by
  unfold nrow TS
  rw [List.take_succ_eq_append_getElem hk, List.map_append, List.map_append, List.set_append_right _ _ (by simp; omega)]
  have e : zs.length - k = (zs.length - (k + 1)) + 1 := by omega
  rw [e, List.replicate_succ]
  have h0 : k - (List.map Value.string (List.map (fun z => BA (Lib.itoa z)) (List.take k zs))).length = 0 := by simp; omega
  rw [h0]
  simp only [List.set_cons_zero, List.map_append, List.map_cons, List.map_nil, List.append_assoc, List.cons_append, List.nil_append, List.map_replicate]
theorem nrow_len (zs : List Int) (k : Nat) (hk : k ≤ zs.length) : (nrow zs k).length = zs.length := by simp [nrow, TS]; omega
theorem nsum (zs : List Int) (hz : ∀ z ∈ zs, -9223372036854775808 ≤ z ∧ z ≤ 9223372036854775807) : wsum (zs.map Lib.itoa) ≤ 22 * zs.length := by
  induction zs with
  | nil => simp [wsum]
  | cons z zs ih =>
    have h1 := Lib.itoa_length_le z (hz z (by simp)).1 (hz z (by simp)).2
    have h2 := ih (fun y hy => hz y (by simp [hy]))
    simp [wsum] at *
    omega
set_option maxHeartbeats 1000000 in
set_option maxRecDepth 100000 in
theorem numbers_any (zs : List Int) (a : Option Addr) (n c : Nat) (w : World) (T : Tb w) (r : Row w (.slice a n c) (IS zs)) (hz : ∀ z ∈ zs, -9223372036854775808 ≤ z ∧ z ≤ 9223372036854775807) (hl : n ≤ 1048576) :
    Calls Tryd.prog 33 #[.slice a n c] w fun e w' => e = .returned (.string (BA (jn (zs.map Lib.itoa)))) ∧ Same w w' := by
  have hn : zs.length = n := by have := r.len.1; rw [IS_len] at this; exact this.symm
  have HMk := hidden (make_strs n (by omega))
  have HJ := hidden joined_any
  have HSum := hidden (nsum zs hz)
  have HR := hidden r
  have HN := hidden hn
  have HT := hidden T
  have HZ := hidden hz
  have hmk := HMk.out w
  obtain ⟨Z, hZ⟩ : ∃ Z, Z = (List.replicate n (Value.string ⟨#[]⟩)).toArray := ⟨_, rfl⟩
  have hZ1 : Z.toList = nrow zs 0 := by rw [hZ, nrow_zero, hn]
  have hO0 := World.ownsRow_lit (base := w.heap.size) (e := 9) (size := 1) w Z n (Nat.le_refl _) (by unfold maxLen; omega) (by rw [hZ]; simp)
  rw [hZ1] at hO0
  have HO0 := hidden hO0
  rw [← hZ] at hmk
  clear hZ hZ1 HMk
  clear r hn T hz hO0
  go_enter Tryd.func33, Tryd.ntmps33
  go_wp2
  go_loopw [11] (fun x wr => ∃ k : Nat, k ≤ n ∧ x = .int .i64 k ∧ wr.ownsRow w.heap.size 9 1 (.slice (some ⟨w.heap.size, 0, none⟩) n n) n (nrow zs k) ∧ Same w wr) (fun x _ => n - (intOf x).toNat)
  case atStart => exact ⟨0, Nat.zero_le _, rfl, HO0.out, same_alloc _ _⟩
  case round =>
    obtain ⟨k, hk, rfl, hO, hS⟩ := hrel
    have HO := hidden hO
    have HS := hidden hS
    clear hO hS
    by_cases h1 : k < n
    · have hkl : k < zs.length := by rw [HN.out]; exact h1
      obtain ⟨b, off, rfl, hc0⟩ := HR.out.int hkl
      have hc := HS.out.cell (p := ⟨b, off + k, none⟩) (fun h => h) hc0
      have HZk := hidden (HZ.out _ (List.getElem_mem hkl))
      have HX := hidden (nrow_set zs k hkl)
      have hlen : (nrow zs k).length = n := by rw [nrow_len zs k (by omega), HN.out]
      obtain ⟨u0, hu0⟩ : ∃ u0, (nrow zs k)[k]? = some u0 := ⟨_, List.getElem?_eq_getElem (by omega)⟩
      have HU0 := hidden hu0
      generalize zs[k] = z at *
      have HI := hidden (itoa_any z HZk.out.1 HZk.out.2 wr (HT.out.same HS.out))
      have q1 : (k : Int) < (n : Int) := by omega
      have q2 : (0 : Int) ≤ (k : Int) := Int.natCast_nonneg _
      clear hkl hc0 hlen hu0
      go_wp2_with (go_at_call 40; refine (HI.out).mono ?_; rintro e w1 ⟨rfl, k1⟩; have S1 := hidden (HS.out.trans k1); have O1 := hidden (own_kept HO.out k1 (fun _ _ h => h)); clear k1; have hcc := own_cell O1.out u0 HU0.out; obtain ⟨hc1, hf1⟩ := hcc)
      go_roundw
      case rel => exact ⟨k + 1, by omega, by go_num, by rw [← HX.out]; exact own_set O1.out h1 _, S1.out.setNew (p := ⟨w.heap.size, k, none⟩) (Nat.le_refl _) _⟩
      case measure => simp [intOf]; omega
    · obtain rfl : k = n := by omega
      have q1 : ¬ (k : Int) < (k : Int) := by omega
      have HO2 := hidden (show wr.ownsRow w.heap.size 9 1 (.slice (some ⟨w.heap.size, 0, none⟩) k k) k (TS ((zs.map Lib.itoa).map BA)) by have h := HO.out; rw [← HN.out, nrow_end, HN.out] at h; exact h)
      have HJ1 := hidden (HJ.out (zs.map Lib.itoa) _ _ _ wr (Row.own HO2.out) (by have := HSum.out; rw [HN.out] at this; omega))
      go_wp2_with (go_at_call 32; refine (HJ1.out).mono ?_; rintro e w1 ⟨rfl, k1⟩; have S1 := hidden (HS.out.trans k1); clear k1)
      go_returns
      exact ⟨rfl, S1.out⟩
/-- May it be told? -/
def mayN (n : Int) : Bool := decide (-1000000000000000000 < n) && decide (n < 1000000000000000000)
set_option maxHeartbeats 1000000 in
set_option maxRecDepth 100000 in
theorem mayNumber_any (n : Int) (w : World) : Calls Tryd.prog 44 #[.int .i64 n] w fun e w' => e = .returned (.bool (mayN n)) ∧ w = w' := by
  unfold mayN
  by_cases h1 : -1000000000000000000 < n
  · have d1 : decide (-1000000000000000000 < n) = true := decide_eq_true h1
    rw [d1]
    cases d2 : decide (n < 1000000000000000000)
    all_goals
      clear h1
      go_enter Tryd.func44, Tryd.ntmps44
      go_wp2
      go_returns
      exact ⟨rfl, rfl⟩
  · have d1 : decide (-1000000000000000000 < n) = false := decide_eq_false h1
    rw [d1]
    clear h1
    go_enter Tryd.func44, Tryd.ntmps44
    go_wp2
    go_returns
    exact ⟨rfl, rfl⟩
/-- The number of a word. -/
def num (P : List UInt8) : Option Int :=
  match Lib.atoiAll P with
  | .ok n => if mayN n = true ∧ Lib.itoa n = P then some n else none
  | _ => none
def nbV : Option Int → Value
  | some n => .tuple #[.int .i64 n, .bool true]
  | none => .tuple #[.int .i64 0, .bool false]
set_option maxHeartbeats 1000000 in
set_option maxRecDepth 100000 in
theorem numberOf_any (s : ByteArray) (hs : s.size ≤ 17592186044416) (w : World) (T : Tb w) : Calls Tryd.prog 45 #[.string s] w fun e w' => e = .returned (nbV (num s.data.toList)) ∧ Same w w' := by
  have hEq : s.toList = s.data.toList := Lib.toList_data s
  unfold num
  cases hA : Lib.atoiAll s.data.toList
  · rename_i v
    have hb := Lib.atoiAll_bounds hA
    have HA := hidden (atoi_ok s (by omega) v hA)
    have HM := hidden (mayNumber_any v)
    have HI := hidden (fun W k => itoa_any v hb.1 hb.2 W (T.same k))
    simp only
    cases hm : mayN v
    · rw [hm] at HM
      rw [if_neg (by simp)]
      clear T hA hb hEq hm
      go_enter Tryd.func45, Tryd.ntmps45
      go_wp2_with (first
        | (go_at_call 51; refine (HA.out _).mono ?_; rintro e w1 ⟨rfl, k1⟩; have K1 := hidden k1; clear k1)
        | (go_at_call 44; refine (HM.out _).mono ?_; rintro e w2 ⟨rfl, rfl⟩))
      go_returns
      exact ⟨rfl, K1.out⟩
    · rw [hm] at HM
      by_cases h2 : Lib.itoa v = s.data.toList
      · have h3 : (BA (Lib.itoa v)).toList = s.toList := by rw [hEq, ← h2, Lib.toList_data, BA_data]
        rw [if_pos ⟨rfl, h2⟩]
        generalize BA (Lib.itoa v) = y at *
        have d3 : (y.toList == s.toList) = true := by simpa using h3
        clear T hA hb hEq hm h2
        go_enter Tryd.func45, Tryd.ntmps45
        go_wp2_with (first
          | (go_at_call 51; refine (HA.out _).mono ?_; rintro e w1 ⟨rfl, k1⟩; have K1 := hidden k1; clear k1)
          | (go_at_call 44; refine (HM.out _).mono ?_; rintro e w2 ⟨rfl, rfl⟩)
          | (go_at_call 40; refine (HI.out _ K1.out).mono ?_; rintro e w2 ⟨rfl, k2⟩; have K2 := hidden (K1.out.trans k2); clear k2))
        go_returns
        exact ⟨rfl, K2.out⟩
      · have h3 : ¬ (BA (Lib.itoa v)).toList = s.toList := by rw [hEq, Lib.toList_data, BA_data]; exact h2
        rw [if_neg (fun h => h2 h.2)]
        generalize BA (Lib.itoa v) = y at *
        have d3 : (y.toList == s.toList) = false := by simpa using h3
        clear T hA hb hEq hm h2
        go_enter Tryd.func45, Tryd.ntmps45
        go_wp2_with (first
          | (go_at_call 51; refine (HA.out _).mono ?_; rintro e w1 ⟨rfl, k1⟩; have K1 := hidden k1; clear k1)
          | (go_at_call 44; refine (HM.out _).mono ?_; rintro e w2 ⟨rfl, rfl⟩)
          | (go_at_call 40; refine (HI.out _ K1.out).mono ?_; rintro e w2 ⟨rfl, k2⟩; have K2 := hidden (K1.out.trans k2); clear k2))
        go_returns
        exact ⟨rfl, K2.out⟩
  · have HA := hidden (atoi_bad s (by omega) (fun v h => by rw [hA] at h; cases h) w T)
    simp only
    clear T hA hEq
    go_enter Tryd.func45, Tryd.ntmps45
    go_wp2_with (go_at_call 51; refine (HA.out).mono ?_; rintro e w1 ⟨⟨z, N, rfl⟩, k1⟩; have K1 := hidden k1; clear k1)
    go_returns
    exact ⟨rfl, K1.out⟩
  · have HA := hidden (atoi_bad s (by omega) (fun v h => by rw [hA] at h; cases h) w T)
    simp only
    clear T hA hEq
    go_enter Tryd.func45, Tryd.ntmps45
    go_wp2_with (go_at_call 51; refine (HA.out).mono ?_; rintro e w1 ⟨⟨z, N, rfl⟩, k1⟩; have K1 := hidden k1; clear k1)
    go_returns
    exact ⟨rfl, K1.out⟩
end Go.Proofs.YtndfgpelioipcaaDoor
