/- codec.Writer: varints, texts, raw bytes; what is asked of it; a new one. -/
import Derived.Test.YtafdkfieajdeiaaDoorWri
import Derived.Handy
namespace Go.Proofs.YtafdkfieajdeiaaDoor
open Go.RowKit
set_option linter.unusedVariables false

theorem vb_pos (f n : Nat) : 1 ≤ (vb f n).length := by
  cases f with
  | zero => simp [vb]
  | succ f => simp only [vb]; split <;> simp
/-! ### Raw -/
theorem raw_nil (s : ByteArray) (w : World) (hs : s.size ≤ 140737488355328) : Calls Tryd.prog 76 #[.pointer none, .string s] w fun e w' => e = .returned (.tuple #[]) ∧ w = w' := by
  go_enter Tryd.func76, Tryd.ntmps76
  go_wp2_with (go_at_call 81; refine (room_nil _ _).mono ?_; rintro e w1 ⟨rfl, rfl⟩)
  go_end0
  exact ⟨rfl, rfl⟩
theorem raw_no {B g : Nat} {v : Value} {most : Int} {bs : List UInt8} {over : Bool} {w : World} (h : Wr B g v most bs over w) (ho : over = true → bs = [] ∧ v = .slice none 0 0) (s : ByteArray) (hs : s.size ≤ 140737488355328) (hk : wOk most bs.length over s.size = false) :
    Calls Tryd.prog 76 #[.pointer (some ⟨g, 0, none⟩), .string s] w fun e w' => e = .returned (.tuple #[]) ∧ Wr B g (.slice none 0 0) most [] true w' ∧ Kept (fun k => k = g) w w' := by
  have H := hidden h
  have HO := hidden ho
  clear h ho
  go_enter Tryd.func76, Tryd.ntmps76
  go_wp2_with (go_at_call 81; refine (room_no H.out HO.out _ hk).mono ?_; rintro e w1 ⟨rfl, h1, h2⟩)
  go_end0
  exact ⟨rfl, h1, h2⟩
set_option maxHeartbeats 1000000 in
set_option maxRecDepth 100000 in
theorem raw_yes {B g : Nat} {v : Value} {most : Int} {bs : List UInt8} {over : Bool} {w : World} (h : Wr B g v most bs over w) (s : ByteArray) (hs : s.size ≤ 140737488355328) (hk : wOk most bs.length over s.size = true) (hl : bs.length + s.size ≤ 140737488355328) :
    Calls Tryd.prog 76 #[.pointer (some ⟨g, 0, none⟩), .string s] w fun e w' => e = .returned (.tuple #[]) ∧ ∃ v', Wr B g v' most (bs ++ s.data.toList) over w' ∧ Kept (wrS B g) w w' := by
  obtain ⟨i0, hi, hz0, hz1, hz2⟩ := info_parts info5
  have H := hidden h
  have hm1 : Hid (bs.length + s.size ≤ maxLen) := by rw [Hid]; unfold maxLen; omega
  have hc1 : ∀ nq, (w.drewN nq).cell? ⟨g, 1, none⟩ = some v := fun nq => blk_cell (h.drewN nq).blk
  clear h
  go_enter Tryd.func76, Tryd.ntmps76
  go_wp2_with (first
    | (go_at_call 81; refine (room_yes H.out _ hk).mono ?_; rintro e w1 ⟨rfl, nq, rfl⟩)
    | (at_builtin; refine Lib.wpList_append_own_string _ rfl (.tmp 12) (.tmp 13) 32 9 rfl B 5 i0 Tryd.underlying32 Tryd.underlying9 hi hz0 hz1 hz2 v _ _ rfl (H.out.drewN nq).own s rfl hm1.out hl (H.out.drewN nq).base ?_; intro v' w1 hown' hgrow hat; have hb1 : w1.heap[g]? = _ := (hgrow.block g (H.out.drewN nq).lt (H.out.drewN nq).apart).trans (H.out.drewN nq).blk; have c1' : w1.cell? ⟨g, 1, none⟩ = some v := blk_cell hb1; have f1' : w1.frozen? ⟨g, 1, none⟩ = false := blk_free hb1; obtain ⟨a', cp', hv'⟩ : ∃ a' cp', v' = .slice a' (bs.length + s.size) cp' := (by rcases hown'.2 with ⟨q1, q2⟩ | ⟨_, cp', _, q1, _⟩; exact ⟨none, 0, by rw [q1]; congr 1; omega⟩; exact ⟨_, cp', q1⟩); rw [hv'] at hown' ⊢; clear hb1 hv' hat))
  have hown2 : w1.ownsRow B 5 1 (.slice a' (bs.length + s.size) cp') (bs ++ s.data.toList).length ((bs ++ s.data.toList).map U8) := by
    have e : (bs ++ s.data.toList).length = bs.length + s.size := by rw [List.length_append, size_list]
    rw [e, List.map_append]
    exact hown'
  have R := (H.out.drewN nq).grow hgrow hown2 (by rw [List.length_append, size_list]; exact hl)
  have RK : Kept (wrS B g) w (w1.setCell ⟨g, 1, none⟩ (.slice a' (bs.length + s.size) cp')) := (((Kept.refl (wrS B g) w).drewN nq).grown hgrow (fun k hk _ => Or.inr (H.out.own.lt k hk).1)).setCell (p := ⟨g, 1, none⟩) (Or.inl rfl) _
  go_end0
  exact ⟨rfl, _, R, RK⟩
theorem wRaw {B g : Nat} {most : Int} {st : List UInt8 × Bool} {w : World} (h : WS B g most st w) (s : ByteArray) (hl : st.1.length + s.size ≤ 140737488355328) :
    Calls Tryd.prog 76 #[.pointer (some ⟨g, 0, none⟩), .string s] w fun e w' => e = .returned (.tuple #[]) ∧ WS B g most (wput most st s.data.toList) w' ∧ Kept (wrS B g) w w' := by
  obtain ⟨v, hv, ho⟩ := h
  cases hk : wOk most st.1.length st.2 s.size with
  | true =>
    refine (raw_yes hv s (by omega) hk hl).mono ?_
    rintro e w' ⟨rfl, v', h1, h2⟩
    exact ⟨rfl, WS.of_yes (by rw [size_list]) hk h1, h2⟩
  | false =>
    refine (raw_no hv ho s (by omega) hk).mono ?_
    rintro e w' ⟨rfl, h1, h2⟩
    exact ⟨rfl, WS.of_no (by rw [size_list]) hk h1, kept_g h2⟩

/-! ### Text -/
theorem wput_len (most : Int) (st : List UInt8 × Bool) (new : List UInt8) : (wput most st new).1.length ≤ st.1.length + new.length := by
  unfold wput
  split <;> simp
/-! ### Done, Len, a new one -/
/-- What Done tells. -/
def wdone (st : List UInt8 × Bool) : ByteArray × Int := if st.2 then (⟨#[]⟩, 3) else (⟨st.1.toArray⟩, 0)
theorem own_string {w : World} {B : Nat} {v : Value} {bs : List UInt8} (h : w.ownsRow B 5 1 v bs.length (bs.map U8)) : (convert 32 9 v).run Tryd.prog w = .ok (.string ⟨bs.toArray⟩) w := by
  rcases h.2 with ⟨rfl, h0⟩ | ⟨g, cap, cur, rfl, hb, hg, _⟩
  · have hb : bs = [] := List.eq_nil_of_length_eq_zero h0
    subst hb
    exact run_convert_bytes_nil w 32 5 Tryd.underlying32 Tryd.underlying5 0 0 9 Tryd.underlying9
  · exact run_convert_bytes_back w 32 9 5 ⟨g, 0, none⟩ cap bs Tryd.underlying32 Tryd.underlying5 Tryd.underlying9 (fun j hj => h.cells rfl j _ (by simp [hj, U8]))
set_option maxHeartbeats 400000 in
theorem wDone {B g : Nat} {most : Int} {st : List UInt8 × Bool} {w : World} (h : WS B g most st w) :
    Calls Tryd.prog 67 #[.pointer (some ⟨g, 0, none⟩)] w fun e w' => e = .returned (.tuple #[.string (wdone st).1, .int .i64 (wdone st).2]) ∧ w = w' := by
  obtain ⟨v, hv, ho⟩ := h
  obtain ⟨bs, over⟩ := st
  have hc1 : w.cell? ⟨g, 1, none⟩ = some v := blk_cell hv.blk
  have hc2 : w.cell? ⟨g, 2, none⟩ = some (.bool over) := blk_cell hv.blk
  have hcv := own_string hv.own
  clear hv ho
  cases over with
  | true =>
    go_enter Tryd.func67, Tryd.ntmps67
    go_wp2
    go_ret2
    exact ⟨rfl, rfl⟩
  | false =>
    go_enter Tryd.func67, Tryd.ntmps67
    go_wp2
    go_ret2
    exact ⟨rfl, rfl⟩
theorem done_nil (w : World) : Calls Tryd.prog 67 #[.pointer none] w fun e w' => e = .returned (.tuple #[.string ⟨#[]⟩, .int .i64 6]) ∧ w = w' := by
  go_enter Tryd.func67, Tryd.ntmps67
  go_wp2
  go_ret2
  exact ⟨rfl, rfl⟩
theorem newWriter (most : Int) (w : World) (h0 : -9223372036854775808 ≤ most) (h1 : most ≤ 9223372036854775807) :
    Calls Tryd.prog 65 #[.int .i64 most] w fun e w' => e = .returned (.pointer (some ⟨w.heap.size, 0, none⟩)) ∧ w' = w.alloc (.cells #[.int .i64 (max most 0), .slice none 0 0, .bool false] 117) := by
  go_enter Tryd.func65, Tryd.ntmps65
  go_wp2
  go_ret
  exact ⟨rfl, rfl⟩
theorem WS.new {most : Int} (w : World) (h1 : most ≤ 9223372036854775807) {B : Nat} (hB : B ≤ w.heap.size) : WS B w.heap.size (max most 0) ([], false) (w.alloc (.cells #[.int .i64 (max most 0), .slice none 0 0, .bool false] 117)) :=
  ⟨_, ⟨heap_alloc_new _ _, World.ownsRow_nil _ _ _ _, by simp; omega, by omega, by omega, by simp⟩, fun h => by cases h⟩
end Go.Proofs.YtafdkfieajdeiaaDoor
