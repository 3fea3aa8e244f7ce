/- script: plain, and Quote of both sides, walked. -/
import Derived.Test.YtndfgpelioipcaaDoorPa0
import Derived.Test.YtndfgpelioipcaaDoorScP
import Derived.WalkMore
import Derived.Deep.DrawnRows
namespace Go.Proofs.YtndfgpelioipcaaDoor
open Go.RowKit
set_option linter.unusedVariables false
set_option linter.unusedSimpArgs false
theorem BA_size (l : List UInt8) : (BA l).size = l.length := by rw [← size_list, BA_data]
theorem infoB : (Tryd.prog.info? 5).map (fun i => (i.zero, i.size, i.bytes)) = some (some (.int .u8 0), 1, 1) := by kernel_rfl
theorem str_slice (s : ByteArray) (W : World) (i j : Nat) (h : i ≤ j) (hj : j ≤ s.size) : (Instr.sliceAt 9 (.string s) (some (.int .i64 (i : Int))) (some (.int .i64 (j : Int))) none).run Tryd.prog W = .ok (.string (BA ((s.data.toList.take j).drop i))) W := by
  rw [run_sliceAt_string (h := Tryd.underlying9), run_slice_string (h := Tryd.underlying9) (h0 := by omega) (h1 := by omega) (h2 := by omega)]
  have e : s.extract i j = BA ((s.data.toList.take j).drop i) := by
    unfold BA
    apply ByteArray.ext
    rw [ByteArray.data_extract]
    apply Array.ext'
    simp [List.drop_take]
  simp only [Int.toNat_natCast]
  rw [e]
theorem str_at (s : ByteArray) (W : World) (j : Nat) (b : UInt8) (h : s.data.toList[j]? = some b) : (Instr.index 9 (.string s) (.int .i64 (j : Int))).run Tryd.prog W = .ok (.int .u8 (b.toNat : Int)) W := by
  have hj : j < s.size := by rw [← size_list]; exact (List.getElem?_eq_some_iff.1 h).1
  rw [run_index_string (h := Tryd.underlying9), dif_pos (by omega)]
  have : s[j]'hj = b := by
    have := (List.getElem?_eq_some_iff.1 h).2
    rw [← this]
    rfl
  rw [← this]
  rfl
theorem yi {P : Program} {o : Oper} {a : Act} {ty : TypeId} {x y : Operand} {vx vy v : Value} (ho : o.op = .index ty x y) (hx : a.eval x = vx) (hy : a.eval y = vy) (hr : ∀ w, (Instr.index ty vx vy).run P w = .ok v w) : ∀ w, (execOp a.eval o).run P w = .ok (.value v) w := by
  intro w
  unfold execOp
  simp only [ho, hx, hy, hr, Sem.run_bind, Sem.run_pure, Result.andThen_ok]
theorem ownsRow_heap {w w' : World} (h : w'.heap = w.heap) {base : Nat} {e : TypeId} {size : Nat} {v : Value} {n : Nat} {xs : List Value} (ho : w.ownsRow base e size v n xs) : w'.ownsRow base e size v n xs := by
  unfold World.ownsRow at *
  rw [h]
  exact ho
theorem own_text {w : World} {base : Nat} {v : Value} {n : Nat} {l : List UInt8} (h : w.ownsRow base 5 1 v n (l.map U8)) : (convert 42 9 v).run Tryd.prog w = .ok (.string (BA l)) w := by
  obtain ⟨h1, h2⟩ := h
  rw [List.length_map, Nat.mul_one] at h1
  rcases h2 with ⟨rfl, hn⟩ | ⟨g, cap, cur, rfl, hb, hh, hc, hm, hz, ht⟩
  · obtain rfl : l = [] := List.eq_nil_of_length_eq_zero (by omega)
    exact run_convert_bytes_nil w 42 5 Tryd.underlying42 Tryd.underlying5 0 0 9 Tryd.underlying9
  · subst h1
    refine run_convert_bytes_back w 42 9 5 ⟨g, 0, none⟩ cap l Tryd.underlying42 Tryd.underlying5 Tryd.underlying9 fun j hj => ?_
    rw [Addr.add_mid, Nat.zero_add, blk_cell hh]
    have e : (cur.toList.take (l.length * 1))[j]? = some (U8 l[j]) := by rw [ht, List.getElem?_map, List.getElem?_eq_getElem hj]; rfl
    rw [List.getElem?_take, if_pos (by omega)] at e
    rw [← Array.getElem?_toList]
    exact e
theorem run_hex (W : World) (k : IntKind) (n : Nat) (h : n < 16) : (Instr.index 9 (.string ⟨#[48, 49, 50, 51, 52, 53, 54, 55, 56, 57, 97, 98, 99, 100, 101, 102]⟩) (.int k (n : Int))).run Tryd.prog W = .ok (.int .u8 ((hexD n).toNat : Int)) W := by
  rw [run_index_string (h := Tryd.underlying9)]
  have hs : (⟨#[48, 49, 50, 51, 52, 53, 54, 55, 56, 57, 97, 98, 99, 100, 101, 102]⟩ : ByteArray).size = 16 := rfl
  rw [dif_pos (by rw [hs]; omega)]
  congr 3
  have : ∀ i : Fin 16, ((⟨#[48, 49, 50, 51, 52, 53, 54, 55, 56, 57, 97, 98, 99, 100, 101, 102]⟩ : ByteArray).data.toList.getD i.val 0) = hexD i.val := by decide +kernel
  have h2 := this ⟨n, h⟩
  rw [← h2, List.getD_eq_getElem?_getD, List.getElem?_eq_getElem (by show n < 16; exact h)]
  rfl
theorem u8_one (l : List UInt8) : ∀ u ∈ l.map U8, u.oneCell' = true := fun u hu => by
  obtain ⟨b, _, rfl⟩ := List.mem_map.1 hu
  exact U8_one b
set_option maxHeartbeats 1000000 in
set_option maxRecDepth 100000 in
theorem plain_any (b : UInt8) (w : World) : Calls Tryd.prog 20 #[.int .u8 (b.toNat : Int)] w fun e w' => e = .returned (.bool (plainB b)) ∧ w = w' := by
  unfold plainB
  generalize b.toNat = n
  by_cases h1 : 32 ≤ n
  · have q1 : (32 : Int) ≤ (n : Int) := by omega
    by_cases h2 : n ≤ 126
    · have q2 : (n : Int) ≤ 126 := by omega
      by_cases h3 : n = 34
      · subst h3
        go_enter Tryd.func20, Tryd.ntmps20
        go_wp2
        go_returns
        exact ⟨rfl, rfl⟩
      · have q3 : ¬ (n : Int) = 34 := by omega
        by_cases h4 : n = 92
        · subst h4
          go_enter Tryd.func20, Tryd.ntmps20
          go_wp2
          go_returns
          exact ⟨rfl, rfl⟩
        · have q4 : ¬ (n : Int) = 92 := by omega
          go_enter Tryd.func20, Tryd.ntmps20
          go_wp2
          go_returns
          exact ⟨by simp [h1, h2, h3, h4]; omega, rfl⟩
    · have q2 : ¬ (n : Int) ≤ 126 := by omega
      go_enter Tryd.func20, Tryd.ntmps20
      go_wp2
      go_returns
      exact ⟨by simp [h2], rfl⟩
  · have q1 : ¬ (32 : Int) ≤ (n : Int) := by omega
    go_enter Tryd.func20, Tryd.ntmps20
    go_wp2
    go_returns
    exact ⟨by simp [h1], rfl⟩
end Go.Proofs.YtndfgpelioipcaaDoor
