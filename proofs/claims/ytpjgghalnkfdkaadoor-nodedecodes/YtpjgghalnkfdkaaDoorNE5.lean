/- node: the document's number and high, the law's sameBytes; rows of bytes that grow. (Made by mkne5.py.) -/
import Derived.Test.YtpjgghalnkfdkaaDoorNE4
import Derived.Test.YtpjgghalnkfdkaaDoorKM
namespace Go.Proofs.YtpjgghalnkfdkaaDoor
open Go.RowKit
set_option linter.unusedVariables false

theorem num_take (l : List UInt8) (k : Nat) (h : k < l.length) : num (l.take (k + 1)) = num (l.take k) * 256 + l[k].toNat := by
  rw [List.take_succ_eq_append_getElem h, num_snoc]
set_option maxHeartbeats 1000000 in
set_option maxRecDepth 100000 in
theorem number_any (v : Value) (l : List UInt8) (w : World) (hb : Bt w v l) (hl : l.length ≤ 4) : Calls Tryd.prog 75 #[v] w fun e w' => e = .returned (.int .i64 (num l : Nat)) ∧ w = w' := by
  obtain ⟨ao, cap, rfl, _⟩ := hb.form
  have HB := hidden hb
  clear hb
  go_enter Tryd.func75, Tryd.ntmps75
  go_wp2
  go_loop [3, 4] (fun x i => ∃ k : Nat, k ≤ l.length ∧ i = .int .i64 k ∧ x = .int .i64 (num (l.take k) : Nat)) (fun _ i => l.length - (intOf i).toNat)
  case atStart => exact ⟨0, Nat.zero_le _, rfl, rfl⟩
  case round =>
    obtain ⟨k, hk, rfl, rfl⟩ := hrel
    by_cases h1 : k < l.length
    · obtain ⟨b, off, rfl, hc⟩ := HB.out.cell (by omega)
      have q0 : (0 : Int) ≤ (k : Int) := Int.natCast_nonneg _
      have q1 : (k : Int) < (l.length : Int) := by omega
      have x1 := hc k h1
      have hx := num_take l k h1
      have hbd := num_lt (l.take k)
      have hb8 := l[k].toNat_lt
      rw [List.length_take, Nat.min_eq_left hk] at hbd
      have hbd2 : num (l.take k) < 16777216 := Nat.lt_of_lt_of_le hbd (by
        have : k ≤ 3 := by omega
        exact Nat.pow_le_pow_right (n := 256) (by decide) this)
      unfold U8 at x1
      have HX := hidden hx
      generalize num (l.take k) = N at hbd2 HX
      generalize l[k].toNat = z at x1 hb8 HX
      clear hbd hx hc
      go_wp2
      go_round
      case rel => exact ⟨k + 1, by omega, by go_num, by rw [HX.out]; go_num⟩
      case measure => simp [intOf]; omega
    · have q1 : ¬ (k : Int) < (l.length : Int) := by omega
      rw [List.take_of_length_le (by omega)]
      go_wp2
      go_returns
      exact ⟨rfl, rfl⟩
/-- How far the document's high is. -/
def hiRow4 (x k : Nat) : List UInt8 := List.replicate (4 - k) 0 ++ (be 4 x).drop (4 - k)
theorem hiRow4_len (x k : Nat) (h : k ≤ 4) : (hiRow4 x k).length = 4 := by simp [hiRow4, be_length]
theorem hiRow4_set (x k : Nat) (h : k < 4) : ((hiRow4 x k).map U8).toArray.setIfInBounds (3 - k) (U8 (UInt8.ofNat (x / 256 ^ k))) = ((hiRow4 x (k + 1)).map U8).toArray := by
  apply Array.ext'
  rw [Array.toList_setIfInBounds, List.toList_toArray, List.toList_toArray]
  have e : be 4 x = [UInt8.ofNat (x / 2 ^ 24), UInt8.ofNat (x / 2 ^ 16), UInt8.ofNat (x / 2 ^ 8), UInt8.ofNat (x / 2 ^ 0)] := rfl
  unfold hiRow4
  rw [e]
  match k, h with
  | 0, _ => rfl
  | 1, _ => rfl
  | 2, _ => rfl
  | 3, _ => rfl
set_option maxHeartbeats 1000000 in
set_option maxRecDepth 100000 in
theorem high4_any (x : Nat) (hx : x < 18446744073709551616) (w : World) : Calls Tryd.prog 36 #[.int .u64 x, .int .i64 4] w fun e w' => e = .returned (.slice (some ⟨w.heap.size, 0, none⟩) 4 4) ∧ w'.heap[w.heap.size]? = some (.cells ((be 4 x).map U8).toArray 5 (0, 0)) ∧ Same w w' := by
  have hmk : ∀ W : World, (Instr.makeSlice 27 (.int .i64 4) (.int .i64 4)).run Tryd.prog W = .ok (.slice (some ⟨W.heap.size, 0, none⟩) 4 4) (W.alloc (.cells (List.replicate 4 (U8 0)).toArray 5)) := fun W => make_bytes 4 (by decide) W
  generalize hZ : (List.replicate 4 (U8 0)).toArray = Z at hmk
  go_enter Tryd.func36, Tryd.ntmps36
  go_wp2
  go_loopw [0, 6] (fun y i wr => ∃ k : Nat, k ≤ 4 ∧ i = .int .i64 k ∧ y = .int .u64 (x / 256 ^ k : Nat) ∧ wr.heap[w.heap.size]? = some (.cells ((hiRow4 x k).map U8).toArray 5 (0, 0)) ∧ Same w wr) (fun _ i _ => 4 - (intOf i).toNat)
  case atStart => exact ⟨0, by decide, rfl, by simp, by rw [← hZ]; exact blk_new w _, same_alloc _ _⟩
  case round =>
    obtain ⟨k, hk, rfl, rfl, hb, hK⟩ := hrel
    by_cases h1 : k < 4
    · have hset := hiRow4_set x k h1
      have hlen := hiRow4_len x k hk
      have hq : x / 256 ^ k < 18446744073709551616 := Nat.lt_of_le_of_lt (Nat.div_le_self _ _) hx
      have hnx : x / 256 ^ k / 256 = x / 256 ^ (k + 1) := by rw [Nat.div_div_eq_div_mul, Nat.pow_succ]
      have hby : Value.int .u8 (IntKind.u8.wrap ((x / 256 ^ k : Nat) : Int)) = U8 (UInt8.ofNat (x / 256 ^ k)) := byte_wrap _
      rw [IntKind.wrap_u8'] at hby
      have hcell : ∃ z, wr.cell? ⟨w.heap.size, 3 - k, none⟩ = some z := by
        rw [blk_cell hb]
        exact ⟨_, Array.getElem?_eq_getElem (by simp [hlen]; omega)⟩
      obtain ⟨z, hz⟩ := hcell
      have hf : wr.frozen? ⟨w.heap.size, 3 - k, none⟩ = false := blk_free hb
      obtain ⟨m, hm⟩ : ∃ m : Nat, m = 3 - k := ⟨_, rfl⟩
      have e1 : (3 : Int) - (k : Int) = (m : Int) := by omega
      have q0 : (0 : Int) ≤ (m : Int) := Int.natCast_nonneg _
      have q1 : (m : Int) < 4 := by omega
      rw [← hm] at hz hf hset
      have HB := hidden hb
      have HK := hidden hK
      have HS := hidden hset
      have HNX := hidden hnx
      have HBY := hidden hby
      generalize x / 256 ^ k = y at *
      clear hb hK hset hnx hlen hby hm
      go_wp2
      refine ⟨⟨k + 1, by omega, by go_num, by rw [← HNX.out]; go_num, ?_, HK.out.setNew (p := ⟨w.heap.size, m, none⟩) (Nat.le_refl _) _⟩, by simp [intOf]; omega⟩
      rw [HBY.out, blk_set HB.out, HS.out]
    · obtain rfl : k = 4 := by omega
      go_wp2
      go_returns
      refine ⟨rfl, ?_, hK⟩
      rw [hb]
      simp [hiRow4]
/-- How far the document's high is. -/
def hiRow2 (x k : Nat) : List UInt8 := List.replicate (2 - k) 0 ++ (be 2 x).drop (2 - k)
theorem hiRow2_len (x k : Nat) (h : k ≤ 2) : (hiRow2 x k).length = 2 := by simp [hiRow2, be_length]
theorem hiRow2_set (x k : Nat) (h : k < 2) : ((hiRow2 x k).map U8).toArray.setIfInBounds (1 - k) (U8 (UInt8.ofNat (x / 256 ^ k))) = ((hiRow2 x (k + 1)).map U8).toArray := by
  apply Array.ext'
  rw [Array.toList_setIfInBounds, List.toList_toArray, List.toList_toArray]
  have e : be 2 x = [UInt8.ofNat (x / 2 ^ 8), UInt8.ofNat (x / 2 ^ 0)] := rfl
  unfold hiRow2
  rw [e]
  match k, h with
  | 0, _ => rfl
  | 1, _ => rfl
set_option maxHeartbeats 1000000 in
set_option maxRecDepth 100000 in
theorem high2_any (x : Nat) (hx : x < 18446744073709551616) (w : World) : Calls Tryd.prog 36 #[.int .u64 x, .int .i64 2] w fun e w' => e = .returned (.slice (some ⟨w.heap.size, 0, none⟩) 2 2) ∧ w'.heap[w.heap.size]? = some (.cells ((be 2 x).map U8).toArray 5 (0, 0)) ∧ Same w w' := by
  have hmk : ∀ W : World, (Instr.makeSlice 27 (.int .i64 2) (.int .i64 2)).run Tryd.prog W = .ok (.slice (some ⟨W.heap.size, 0, none⟩) 2 2) (W.alloc (.cells (List.replicate 2 (U8 0)).toArray 5)) := fun W => make_bytes 2 (by decide) W
  generalize hZ : (List.replicate 2 (U8 0)).toArray = Z at hmk
  go_enter Tryd.func36, Tryd.ntmps36
  go_wp2
  go_loopw [0, 6] (fun y i wr => ∃ k : Nat, k ≤ 2 ∧ i = .int .i64 k ∧ y = .int .u64 (x / 256 ^ k : Nat) ∧ wr.heap[w.heap.size]? = some (.cells ((hiRow2 x k).map U8).toArray 5 (0, 0)) ∧ Same w wr) (fun _ i _ => 2 - (intOf i).toNat)
  case atStart => exact ⟨0, by decide, rfl, by simp, by rw [← hZ]; exact blk_new w _, same_alloc _ _⟩
  case round =>
    obtain ⟨k, hk, rfl, rfl, hb, hK⟩ := hrel
    by_cases h1 : k < 2
    · have hset := hiRow2_set x k h1
      have hlen := hiRow2_len x k hk
      have hq : x / 256 ^ k < 18446744073709551616 := Nat.lt_of_le_of_lt (Nat.div_le_self _ _) hx
      have hnx : x / 256 ^ k / 256 = x / 256 ^ (k + 1) := by rw [Nat.div_div_eq_div_mul, Nat.pow_succ]
      have hby : Value.int .u8 (IntKind.u8.wrap ((x / 256 ^ k : Nat) : Int)) = U8 (UInt8.ofNat (x / 256 ^ k)) := byte_wrap _
      rw [IntKind.wrap_u8'] at hby
      have hcell : ∃ z, wr.cell? ⟨w.heap.size, 1 - k, none⟩ = some z := by
        rw [blk_cell hb]
        exact ⟨_, Array.getElem?_eq_getElem (by simp [hlen]; omega)⟩
      obtain ⟨z, hz⟩ := hcell
      have hf : wr.frozen? ⟨w.heap.size, 1 - k, none⟩ = false := blk_free hb
      obtain ⟨m, hm⟩ : ∃ m : Nat, m = 1 - k := ⟨_, rfl⟩
      have e1 : (1 : Int) - (k : Int) = (m : Int) := by omega
      have q0 : (0 : Int) ≤ (m : Int) := Int.natCast_nonneg _
      have q1 : (m : Int) < 2 := by omega
      rw [← hm] at hz hf hset
      have HB := hidden hb
      have HK := hidden hK
      have HS := hidden hset
      have HNX := hidden hnx
      have HBY := hidden hby
      generalize x / 256 ^ k = y at *
      clear hb hK hset hnx hlen hby hm
      go_wp2
      refine ⟨⟨k + 1, by omega, by go_num, by rw [← HNX.out]; go_num, ?_, HK.out.setNew (p := ⟨w.heap.size, m, none⟩) (Nat.le_refl _) _⟩, by simp [intOf]; omega⟩
      rw [HBY.out, blk_set HB.out, HS.out]
    · obtain rfl : k = 2 := by omega
      go_wp2
      go_returns
      refine ⟨rfl, ?_, hK⟩
      rw [hb]
      simp [hiRow2]
set_option maxHeartbeats 1000000 in
set_option maxRecDepth 100000 in
theorem sameB_any (x y : Value) (a b : List UInt8) (w : World) (hx : Bt w x a) (hy : Bt w y b) (ha : a.length ≤ 140737488355328) (hb : b.length ≤ 140737488355328) : Calls Tryd.prog 12 #[x, y] w fun e w' => e = .returned (.bool (decide (a = b))) ∧ Same w w' := by
  by_cases hl : a.length = b.length
  · obtain ⟨a1, c1, rfl, _⟩ := hx.form
    obtain ⟨a2, c2, rfl, _⟩ := hy.form
    have HX := hidden hx
    have HY := hidden hy
    obtain ⟨R, hR⟩ : ∃ R, decide (a = b) = R := ⟨_, rfl⟩
    rw [hR, show b.length = a.length from hl.symm]
    have HL := hidden hl
    rw [show b.length = a.length from hl.symm] at hb
    have HR := hidden hR
    clear hx hy hR hl
    go_enter Tryd.func12, Tryd.ntmps12
    go_wp2
    go_loopw [5] (fun i wr => ∃ k : Nat, k ≤ a.length ∧ i = .int .i64 k ∧ a.take k = b.take k ∧ Same w wr) (fun i wr => a.length - (intOf i).toNat)
    case atStart => exact ⟨0, Nat.zero_le _, rfl, rfl, Kept.refl _ _⟩
    case round =>
      obtain ⟨k, hk, rfl, htk, hK⟩ := hrel
      by_cases h1 : k < a.length
      · obtain ⟨b1, o1, rfl, hc1⟩ := HX.out.cell (by omega)
        obtain ⟨b2, o2, rfl, hc2⟩ := HY.out.cell (by have := HL.out; omega)
        have q0 : (0 : Int) ≤ (k : Int) := Int.natCast_nonneg _
        have q1 : (k : Int) < (a.length : Int) := by omega
        have hkb : k < b.length := by have := HL.out; omega
        have x1 := Kept.cell hK (fun h => h) (hc1 k h1)
        have x2 := Kept.cell hK (fun h => h) (hc2 k hkb)
        unfold U8 at x1 x2
        have HK := hidden hK
        have HT := hidden htk
        by_cases hz : a[k] = b[k]
        · have htn : a.take (k + 1) = b.take (k + 1) := by rw [List.take_add_one, List.take_add_one, htk, List.getElem?_eq_getElem h1, List.getElem?_eq_getElem hkb, hz]
          have HTN := hidden htn
          rw [hz] at x1
          generalize ((b[k]).toNat : Int) = z at x1 x2
          clear hK hc1 hc2 htn htk hz
          go_wp2
          go_quiet (fail)
          go_wp2
          go_roundw
          case rel => exact ⟨k + 1, by omega, by go_num, HTN.out, HK.out.drewN _⟩
          case measure => simp [intOf]; omega
        · have hd : decide (a = b) = false := by simpa using fun e : a = b => hz (by subst e; rfl)
          have hzi : ((a[k]).toNat : Int) ≠ ((b[k]).toNat : Int) := fun e => hz (UInt8.toNat_inj.1 (by omega))
          have hzb : (((a[k]).toNat : Int) == ((b[k]).toNat : Int)) = false := by simpa using hzi
          obtain rfl : R = false := HR.out.symm.trans hd
          generalize ((a[k]).toNat : Int) = z1 at x1 hzi hzb
          generalize ((b[k]).toNat : Int) = z2 at x2 hzi hzb
          clear hK hc1 hc2 htk hz hd
          go_wp2
          go_quiet (fail)
          go_wp2
          go_returns
          exact ⟨rfl, HK.out.drewN _⟩
      · have q1 : ¬ (k : Int) < (a.length : Int) := by omega
        have he : a = b := by rw [List.take_of_length_le (by omega), List.take_of_length_le (by have := HL.out; omega)] at htk; exact htk
        obtain rfl : R = true := HR.out.symm.trans (by simpa using he)
        clear he htk
        go_wp2
        go_returns
        exact ⟨rfl, hK⟩
  · obtain ⟨a1, c1, rfl, _⟩ := hx.form
    obtain ⟨a2, c2, rfl, _⟩ := hy.form
    have hd : decide (a = b) = false := by simpa using fun e : a = b => hl (by rw [e])
    have hi : (a.length : Int) ≠ (b.length : Int) := by omega
    have hib : ((a.length : Int) == (b.length : Int)) = false := by simpa using hi
    rw [hd]
    clear hx hy
    go_enter Tryd.func12, Tryd.ntmps12
    go_wp2
    go_returns
    exact ⟨rfl, Kept.refl _ _⟩
theorem conv_const (w : World) (C : Array Value) (n m : Nat) : (convert 27 27 (.slice (some ⟨w.heap.size, 0, none⟩) n m)).run Tryd.prog (w.alloc (.cells C 5)) = .ok (.slice (some ⟨w.heap.size, 0, none⟩) n m) (w.alloc (.cells C 5 (C.size, C.size + 1))) := by
  have hsh : (w.alloc (.cells C 5)).shape? w.heap.size = some (5, C.size) := by
    have : (w.alloc (.cells C 5)).heap[w.heap.size]? = some (.cells C 5) := by
      show (w.heap.push (.cells C 5))[w.heap.size]? = _
      simp
    unfold World.shape?
    rw [this]
  have hfr : (w.alloc (.cells C 5)).freeze ⟨w.heap.size, C.size, none⟩ 1 = w.alloc (.cells C 5 (C.size, C.size + 1)) := by
    have hm : ∀ (a : Array Obj) (x : Obj) (f : Obj → Obj), (a.push x).modify a.size f = a.push (f x) := by
      intro a x f
      apply Array.ext
      · simp
      · intro i h1 h2
        simp only [Array.getElem_modify, Array.getElem_push]
        by_cases h : a.size = i
        · subst h
          simp
        · have hi : i < a.size := by simp at h1; omega
          simp [h, hi]
    unfold World.freeze
    rw [if_neg (by decide)]
    show ({ w.alloc (.cells C 5) with heap := (w.heap.push (.cells C 5)).modify w.heap.size _ } : World) = _
    rw [hm]
    rfl
  simp [convert, run_underlying Tryd.underlying27, run_underlying Tryd.underlying5, markStringish, hsh, hfr]
theorem Bt.lies {w : World} {v : Value} {l : List UInt8} (h : Bt w v l) : ∃ ao cap, v = .slice ao l.length cap ∧ Lies w ao l.length (l.map U8) := by
  obtain ⟨ao, cap, rfl, h2, h3⟩ := h
  refine ⟨ao, cap, rfl, fun h0 => ?_⟩
  obtain ⟨b, off, rfl, hc⟩ := h3 h0
  refine ⟨_, rfl, fun j u hu => ?_⟩
  rw [List.getElem?_map, Option.map_eq_some_iff] at hu
  obtain ⟨x, hx, rfl⟩ := hu
  obtain ⟨hj, rfl⟩ := List.getElem?_eq_some_iff.1 hx
  rw [add_none]
  exact hc j hj
/-- Bytes in a row that the call has made since w; nothing old has turned. -/
structure Gr (w W : World) (v : Value) (l : List UInt8) : Prop where
  own : OwnM W 5 1 v l.length (l.map U8)
  new : ∀ k, v.ownBlock = some k → w.heap.size ≤ k
  same : Same w W
theorem Gr.bt {w W : World} {v : Value} {l : List UInt8} (h : Gr w W v l) : Bt W v l := Bt.ownM h.own
theorem Gr.on {w W W' : World} {v : Value} {l : List UInt8} (h : Gr w W v l) (k : Same W W') : Gr w W' v l := ⟨h.own.same k, h.new, h.same.trans k⟩
theorem Gr.fresh {w W : World} (k : Same w W) (cs : List UInt8) (fz : Nat × Nat) (hf : NoFz fz cs.length) (hl : cs.length ≤ 4096) : Gr w (W.alloc (.cells (cs.map U8).toArray 5 fz)) (.slice (some ⟨W.heap.size, 0, none⟩) cs.length cs.length) cs :=
  ⟨⟨by simp, .inr ⟨W.heap.size, cs.length, _, fz, rfl, heap_alloc_new W _, by simpa using hf, Nat.le_refl _, by unfold maxLen; omega, by simp, by simp [List.take_of_length_le]⟩⟩, fun q hq => by simp [Value.ownBlock] at hq; subst hq; exact k.size, k.alloc _⟩
theorem Gr.past {w W W' : World} {v : Value} {l : List UInt8} {row : Option Nat} (h : Gr w W v l) (hg : W.grownBy W' row) (hr : ∀ k, row = some k → w.heap.size ≤ k) (hn : ∀ k, v.ownBlock = some k → row ≠ some k) : Gr w W' v l :=
  ⟨h.own.kept (S := fun k => row = some k) ((Kept.refl _ W).grown hg (fun k e _ => e)) (fun k hk e => hn k hk e), h.new, h.same.grown hg (fun k e hlt => by have := hr k e; omega)⟩
theorem bt_of_blk {W : World} {g k : Nat} {l : List UInt8} (h : W.heap[g]? = some (.cells (l.map U8).toArray 5 (0, 0))) (hl : l.length = k) : Bt W (.slice (some ⟨g, 0, none⟩) k k) l :=
  ⟨some ⟨g, 0, none⟩, k, by rw [hl], by rw [hl]; exact Nat.le_refl _, fun _ => ⟨g, 0, rfl, fun j hj => by rw [blk_cell h]; simp [hj]⟩⟩
theorem blk_past {W W' : World} {row : Option Nat} {g : Nat} {o : Obj} (h : W.heap[g]? = some o) (hg : W.grownBy W' row) (hn : row ≠ some g) : W'.heap[g]? = some o := (hg.block g (blk_lt h) (fun e => hn e.symm)).trans h
theorem wl_app {w0 w : World} {ops : Array Oper} {rest : List Oper} {o : Oper} {a : Act} {Q : Exit → Act → World → Prop} (hgd : o.guard = none) (sl x : Operand)
    (ho : o.op = .call { callee := .builtin .append, args := #[sl, x], argTypes := #[27, 27] })
    (v u : Value) (l m : List UInt8) (hs : a.eval sl = v) (hown : Gr w0 w v l) (hx : a.eval x = u) (hb : Bt w u m) (hl : l.length + m.length ≤ 1099511627776)
    (h : ∀ v' w', Gr w0 w' v' (l ++ m) → w.grownBy w' v.ownBlock → (∀ k, k < w.heap.size → v'.ownBlock = some k → v.ownBlock = some k) → wpList Tryd.prog ops Q rest (a.put o.dst v') w') : wpList Tryd.prog ops Q (o :: rest) a w := by
  obtain ⟨i0, hi0, hz0, hz1, hz2⟩ := info_parts info5
  obtain ⟨ao, cap, rfl, hL⟩ := hb.lies
  refine wpList_append_slcM (P := Tryd.prog) w hgd sl x 27 ho 5 i0 (.int .u8 0) 1 1 Tryd.underlying27 hi0 hz0 hz1 hz2 rfl (by decide) v l.length (l.map U8) hs hown.own ao m.length cap (m.map U8) hx (by simp) hL (fun y hy => by obtain ⟨b, _, rfl⟩ := List.mem_map.1 hy; exact U8_one b) (by unfold maxLen; omega) (by omega) ?_
  intro v' w' h1 h2 h3
  refine h v' w' ⟨by rw [List.length_append, List.map_append]; exact h1, fun k hk => ?_, hown.same.grown h2 (fun r hr hlt => by have := hown.new r hr; omega)⟩ h2 h3
  by_cases hkw : k < w.heap.size
  · exact hown.new k (h3 k hkw hk)
  · have := hown.same.size
    omega
theorem copy_zero (m : Nat) (ad : Addr) (cap : Nat) (us : List UInt8) (W : World) (hb : Bt W (.slice (some ad) us.length cap) us) (hu : us.length ≤ m) (g : Nat) (hg : W.heap[g]? = some (.cells (List.replicate m (U8 0)).toArray 5 (0, 0))) :
    (Builtin.copy_ #[27, 27] 3 #[.slice (some ⟨g, 0, none⟩) m m, .slice (some ad) us.length cap]).run Tryd.prog W = .ok (goInt us.length) (W.setRow g ((us ++ List.replicate (m - us.length) 0).map U8).toArray) := by
  obtain ⟨i0, hi, hz0, hz1, hz2⟩ := info_parts info5
  obtain ⟨ao, cap', he, hL⟩ := hb.lies
  simp only [Value.slice.injEq] at he
  obtain ⟨rfl, _, rfl⟩ := he
  have h := run_copy_row (P := Tryd.prog) W 27 27 3 5 g 0 m m ad us.length cap _ _ (us.map U8) Tryd.underlying27 (by rw [hi]; simp [hz1]) hg (by rw [List.length_map]; exact (Nat.min_eq_left (by omega)).symm)
    (fun j x hx => by
      have hp : 0 < us.length := by have := (List.getElem?_eq_some_iff.1 hx).1; simp at this; omega
      obtain ⟨ad', e, hc⟩ := hL hp
      cases e
      exact hc j x hx) (by simp; omega) (fun x hx => by
      rw [List.mem_map] at hx
      obtain ⟨b, _, rfl⟩ := hx
      exact U8_one b)
  rw [List.length_map] at h
  refine h.trans ?_
  have e : List.take 0 (List.replicate m (U8 0)).toArray.toList ++ us.map U8 ++ List.drop (0 + us.length) (List.replicate m (U8 0)).toArray.toList = (us ++ List.replicate (m - us.length) 0).map U8 := by
    rw [List.toList_toArray, List.take_zero, List.nil_append, Nat.zero_add, List.drop_replicate, List.map_append, List.map_replicate]
  rw [e]
theorem high4_g (x : Nat) (hx : x < 18446744073709551616) (w : World) : Calls Tryd.prog 36 #[.int .u64 x, .int .i64 4] w fun e w' => ∃ g, e = .returned (.slice (some ⟨g, 0, none⟩) 4 4) ∧ Bt w' (.slice (some ⟨g, 0, none⟩) 4 4) (be 4 x) ∧ Same w w' :=
  (high4_any x hx w).mono fun e w' ⟨h1, h2, h3⟩ => ⟨_, h1, by
    have hl : (be 4 x).length = 4 := be_length _ _
    exact ⟨some ⟨w.heap.size, 0, none⟩, 4, by rw [hl], by rw [hl]; exact Nat.le_refl _, fun _ => ⟨_, 0, rfl, fun j hj => by rw [blk_cell h2]; simp [hj]⟩⟩, h3⟩
theorem high2_g (x : Nat) (hx : x < 18446744073709551616) (w : World) : Calls Tryd.prog 36 #[.int .u64 x, .int .i64 2] w fun e w' => ∃ g, e = .returned (.slice (some ⟨g, 0, none⟩) 2 2) ∧ Bt w' (.slice (some ⟨g, 0, none⟩) 2 2) (be 2 x) ∧ Same w w' :=
  (high2_any x hx w).mono fun e w' ⟨h1, h2, h3⟩ => ⟨_, h1, by
    have hl : (be 2 x).length = 2 := be_length _ _
    exact ⟨some ⟨w.heap.size, 0, none⟩, 2, by rw [hl], by rw [hl]; exact Nat.le_refl _, fun _ => ⟨_, 0, rfl, fun j hj => by rw [blk_cell h2]; simp [hj]⟩⟩, h3⟩
theorem strCells_map (s : ByteArray) : Lib.strCells s = s.data.toList.map U8 := by
  first | rfl | simp [Lib.strCells, U8]
/-- .. and of a text. -/
theorem wl_apps {w0 w : World} {ops : Array Oper} {rest : List Oper} {o : Oper} {a : Act} {Q : Exit → Act → World → Prop} (hgd : o.guard = none) (sl x : Operand)
    (ho : o.op = .call { callee := .builtin .append, args := #[sl, x], argTypes := #[27, 9] })
    (v : Value) (s : ByteArray) (l : List UInt8) (hs : a.eval sl = v) (hown : Gr w0 w v l) (hx : a.eval x = .string s) (hl : l.length + s.size ≤ 1099511627776)
    (h : ∀ v' w', Gr w0 w' v' (l ++ s.data.toList) → w.grownBy w' v.ownBlock → (∀ k, k < w.heap.size → v'.ownBlock = some k → v.ownBlock = some k) → wpList Tryd.prog ops Q rest (a.put o.dst v') w') : wpList Tryd.prog ops Q (o :: rest) a w := by
  obtain ⟨i0, hi0, hz0, hz1, hz2⟩ := info_parts info5
  refine wpList_append_strM (P := Tryd.prog) w hgd sl x 27 9 ho 5 i0 Tryd.underlying27 Tryd.underlying9 hi0 hz0 hz1 hz2 v l.length (l.map U8) hs hown.own s hx (by unfold maxLen; omega) (by omega) ?_
  intro v' w' h1 h2 h3
  refine h v' w' ⟨by rw [List.length_append, List.map_append, size_list, ← strCells_map]; exact h1, fun k hk => ?_, hown.same.grown h2 (fun r hr hlt => by have := hown.new r hr; omega)⟩ h2 h3
  by_cases hkw : k < w.heap.size
  · exact hown.new k (h3 k hkw hk)
  · have := hown.same.size
    omega
theorem st_app {w0 w : World} {ops : Array Oper} {o : Oper} {a : Act} {K : Act → World → Prop} {Q : Exit → Act → World → Prop} {E : Prop} (hgd : o.guard = none) (sl x : Operand)
    (ho : o.op = .call { callee := .builtin .append, args := #[sl, x], argTypes := #[27, 27] })
    (v u : Value) (l m : List UInt8) (hs : a.eval sl = v) (hown : Gr w0 w v l) (hx : a.eval x = u) (hb : Bt w u m) (hl : l.length + m.length ≤ 1099511627776)
    (h : ∀ v' w', Gr w0 w' v' (l ++ m) → w.grownBy w' v.ownBlock → (∀ k, k < w.heap.size → v'.ownBlock = some k → v.ownBlock = some k) → K (a.put o.dst v') w') :
    if Region.wanted o (yielded ops a.tmps) = true then Oper.wp Tryd.prog o a w K Q else E := by
  obtain ⟨i0, hi0, hz0, hz1, hz2⟩ := info_parts info5
  obtain ⟨ao, cap, rfl, hL⟩ := hb.lies
  refine step_append_slcM (P := Tryd.prog) hgd sl x 27 ho 5 i0 (.int .u8 0) 1 1 Tryd.underlying27 hi0 hz0 hz1 hz2 rfl (by decide) v l.length (l.map U8) hs hown.own ao m.length cap (m.map U8) hx (by simp) hL (fun y hy => by obtain ⟨b, _, rfl⟩ := List.mem_map.1 hy; exact U8_one b) (by unfold maxLen; omega) (by omega) ?_
  intro v' w' h1 h2 h3
  refine h v' w' ⟨by rw [List.length_append, List.map_append]; exact h1, fun k hk => ?_, hown.same.grown h2 (fun r hr hlt => by have := hown.new r hr; omega)⟩ h2 h3
  by_cases hkw : k < w.heap.size
  · exact hown.new k (h3 k hkw hk)
  · have := hown.same.size
    omega
theorem st_apps {w0 w : World} {ops : Array Oper} {o : Oper} {a : Act} {K : Act → World → Prop} {Q : Exit → Act → World → Prop} {E : Prop} (hgd : o.guard = none) (sl x : Operand)
    (ho : o.op = .call { callee := .builtin .append, args := #[sl, x], argTypes := #[27, 9] })
    (v : Value) (s : ByteArray) (l : List UInt8) (hs : a.eval sl = v) (hown : Gr w0 w v l) (hx : a.eval x = .string s) (hl : l.length + s.size ≤ 1099511627776)
    (h : ∀ v' w', Gr w0 w' v' (l ++ s.data.toList) → w.grownBy w' v.ownBlock → (∀ k, k < w.heap.size → v'.ownBlock = some k → v.ownBlock = some k) → K (a.put o.dst v') w') :
    if Region.wanted o (yielded ops a.tmps) = true then Oper.wp Tryd.prog o a w K Q else E := by
  obtain ⟨i0, hi0, hz0, hz1, hz2⟩ := info_parts info5
  refine step_append_strM (P := Tryd.prog) hgd sl x 27 9 ho 5 i0 Tryd.underlying27 Tryd.underlying9 hi0 hz0 hz1 hz2 v l.length (l.map U8) hs hown.own s hx (by unfold maxLen; omega) (by omega) ?_
  intro v' w' h1 h2 h3
  refine h v' w' ⟨by rw [List.length_append, List.map_append, size_list, ← strCells_map]; exact h1, fun k hk => ?_, hown.same.grown h2 (fun r hr hlt => by have := hown.new r hr; omega)⟩ h2 h3
  by_cases hkw : k < w.heap.size
  · exact hown.new k (h3 k hkw hk)
  · have := hown.same.size
    omega
end Go.Proofs.YtpjgghalnkfdkaaDoor
