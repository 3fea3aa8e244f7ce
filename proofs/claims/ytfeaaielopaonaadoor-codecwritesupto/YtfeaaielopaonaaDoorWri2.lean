/- codec.Writer: varints, texts, raw bytes; what is asked of it; a new one. -/
import Derived.Test.YtfeaaielopaonaaDoorWri
import Derived.Handy
namespace Go.Proofs.YtfeaaielopaonaaDoor
open Go.RowKit
set_option linter.unusedVariables false

theorem vb_pos (f n : Nat) : 1 ≤ (vb f n).length := by
  cases f with
  | zero => simp [vb]
  | succ f => simp only [vb]; split <;> simp
set_option maxHeartbeats 1000000 in
set_option maxRecDepth 100000 in
theorem var_yes {B g : Nat} {v : Value} {most : Int} {bs : List UInt8} {over : Bool} {w : World} (h : Wr B g v most bs over w) (n : Nat) (hn : n < 18446744073709551616) (hk : wOk most bs.length over (vbytes n).length = true) (hl : bs.length + (vbytes n).length ≤ 140737488355328) :
    Calls Tryd.prog 11 #[.pointer (some ⟨g, 0, none⟩), .int .u64 n] w fun e w' => e = .returned (.tuple #[]) ∧ ∃ v', Wr B g v' most (bs ++ vbytes n) over w' ∧ WT B g w w' := by
  obtain ⟨i0, hi, hz0, hz1, hz2⟩ := info_parts info5
  have H := hidden h
  clear h
  go_enter Tryd.func11, Tryd.ntmps11
  go_wp2_with (first
    | (go_at_call 26; refine (vsize n _ hn).mono ?_; rintro e w1 ⟨rfl, rfl⟩)
    | (go_at_call 25; refine (room_yes H.out _ hk).mono ?_; rintro e w1 ⟨rfl, nq, rfl⟩))
  go_loopw [1] (fun i wr => ∃ (f m : Nat) (u : Value) (cs : List UInt8), i = .int .u64 m ∧ m < 128 ^ (f + 1) ∧ m < 18446744073709551616 ∧ Wr B g u most cs over wr ∧ cs ++ vb f m = bs ++ vbytes n ∧ WT B g w wr) (fun i _ => (intOf i).toNat)
  case atStart => exact ⟨9, n, v, bs, rfl, Nat.lt_of_lt_of_le hn (by decide), hn, H.out.drewN nq, rfl, (Kept.refl _ _).drewN nq⟩
  case round =>
    obtain ⟨f, m, u, cs, rfl, hf, hm, hw, hcs, hkept⟩ := hrel
    have hlen : cs.length + 1 ≤ 140737488355328 := by
      have := congrArg List.length hcs
      have := vb_pos f m
      simp only [List.length_append] at *
      omega
    have hm1 : Hid (cs.length + 1 ≤ maxLen) := by rw [Hid]; unfold maxLen; omega
    have hm2 : Hid ((cs.length + 1) * 1 ≤ 140737488355328) := by rw [Hid]; omega
    have hbase : Hid (∀ o, B ≤ (wr.alloc o).heap.size) := fun o => by have := hw.base; simp; omega
    have hc1 : wr.cell? ⟨g, 1, none⟩ = some u := blk_cell hw.blk
    have hca : ∀ o, (wr.alloc o).cell? ⟨g, 1, none⟩ = some u := fun o => blk_cell (blk_alloc hw.blk o)
    have HC := hidden hcs
    have HF := hidden hf
    clear hcs hf
    by_cases h128 : 128 ≤ m
    · go_wp2_with (at_builtin; refine wpList_append_lies _ (by rfl) (.tmp 15) (.tmp 19) 36 (by rfl) B 5 i0 (.int .u8 0) 1 1 Tryd.underlying36 hi hz0 hz1 hz2 rfl (by decide) u _ _ (by rfl) (hw.own.alloc _) ⟨wr.heap.size, 0, none⟩ 1 1 _ (by rfl) rfl (World.news_of_block (heap_alloc_new wr _)) (fun x hx => by simp at hx; subst hx; rfl) (by decide) hm1.out hm2.out (hbase.out _) (wr.heap.size + 1) (by simp) ?_; intro g' cap' w1 hown' hgrow hat hlt'; obtain ⟨c1', f1'⟩ := app_facts hw hgrow)
      have R := app_step hw hgrow hown' (byte_or m) hlen
      have RH := hidden R
      clear R hown' hgrow hat hca hc1
      go_wp2
      obtain ⟨f', rfl, e1, e2⟩ := vb_round f m h128 HF.out
      go_roundw
      case rel => exact ⟨f', m / 128, _, _, by go_num, e2, by omega, RH.out.1, by rw [← HC.out, e1]; simp, hkept.trans RH.out.2⟩
      case measure => simp [intOf]; omega
    · go_wp2_with (at_builtin; refine wpList_append_lies _ (by rfl) (.tmp 29) (.tmp 32) 36 (by rfl) B 5 i0 (.int .u8 0) 1 1 Tryd.underlying36 hi hz0 hz1 hz2 rfl (by decide) u _ _ (by rfl) (hw.own.alloc _) ⟨wr.heap.size, 0, none⟩ 1 1 _ (by rfl) rfl (World.news_of_block (heap_alloc_new wr _)) (fun x hx => by simp at hx; subst hx; rfl) (by decide) hm1.out hm2.out (hbase.out _) (wr.heap.size + 1) (by simp) ?_; intro g' cap' w1 hown' hgrow hat hlt'; obtain ⟨c1', f1'⟩ := app_facts hw hgrow)
      have R := app_step (b := UInt8.ofNat m) hw hgrow hown' (by first | exact byte_wrap m | (rw [← byte_wrap m, IntKind.wrap_u8']; congr 1; omega)) hlen
      have RH := hidden R
      clear R hown' hgrow hat hca hc1
      go_wp2
      go_end0
      have F := RH.out.1
      rw [show cs ++ [UInt8.ofNat m] = bs ++ vbytes n by rw [← HC.out, vb_small f m (by omega)]] at F
      have FK := hkept.trans RH.out.2
      first | exact ⟨rfl, _, F, FK⟩ | exact ⟨rfl, ⟨_, F⟩, FK⟩
theorem wVar {B g : Nat} {most : Int} {st : List UInt8 × Bool} {w : World} (h : WS B g most st w) (n : Nat) (hn : n < 18446744073709551616) (hl : st.1.length + (vbytes n).length ≤ 140737488355328) :
    Calls Tryd.prog 11 #[.pointer (some ⟨g, 0, none⟩), .int .u64 n] w fun e w' => e = .returned (.tuple #[]) ∧ WS B g most (wput most st (vbytes n)) w' ∧ WT B g w w' := by
  obtain ⟨v, hv, ho⟩ := h
  cases hk : wOk most st.1.length st.2 (vbytes n).length with
  | true =>
    refine (var_yes hv n hn hk hl).mono ?_
    rintro e w' ⟨rfl, v', h1, h2⟩
    exact ⟨rfl, WS.of_yes rfl hk h1, h2⟩
  | false =>
    refine (var_no hv ho n hn hk).mono ?_
    rintro e w' ⟨rfl, h1, h2⟩
    exact ⟨rfl, WS.of_no rfl hk h1, kept_g h2⟩

/-! ### Raw -/
theorem raw_nil (s : ByteArray) (w : World) (hs : s.size ≤ 140737488355328) : Calls Tryd.prog 21 #[.pointer none, .string s] w fun e w' => e = .returned (.tuple #[]) ∧ w = w' := by
  go_enter Tryd.func21, Tryd.ntmps21
  go_wp2_with (go_at_call 25; refine (room_nil _ _).mono ?_; rintro e w1 ⟨rfl, rfl⟩)
  go_end0
  exact ⟨rfl, rfl⟩
theorem raw_no {B g : Nat} {v : Value} {most : Int} {bs : List UInt8} {over : Bool} {w : World} (h : Wr B g v most bs over w) (ho : over = true → bs = [] ∧ v = .slice none 0 0) (s : ByteArray) (hs : s.size ≤ 140737488355328) (hk : wOk most bs.length over s.size = false) :
    Calls Tryd.prog 21 #[.pointer (some ⟨g, 0, none⟩), .string s] w fun e w' => e = .returned (.tuple #[]) ∧ Wr B g (.slice none 0 0) most [] true w' ∧ Kept (fun k => k = g) w w' := by
  have H := hidden h
  have HO := hidden ho
  clear h ho
  go_enter Tryd.func21, Tryd.ntmps21
  go_wp2_with (go_at_call 25; refine (room_no H.out HO.out _ hk).mono ?_; rintro e w1 ⟨rfl, h1, h2⟩)
  go_end0
  exact ⟨rfl, h1, h2⟩
set_option maxHeartbeats 1000000 in
set_option maxRecDepth 100000 in
theorem raw_yes {B g : Nat} {v : Value} {most : Int} {bs : List UInt8} {over : Bool} {w : World} (h : Wr B g v most bs over w) (s : ByteArray) (hs : s.size ≤ 140737488355328) (hk : wOk most bs.length over s.size = true) (hl : bs.length + s.size ≤ 140737488355328) :
    Calls Tryd.prog 21 #[.pointer (some ⟨g, 0, none⟩), .string s] w fun e w' => e = .returned (.tuple #[]) ∧ ∃ v', Wr B g v' most (bs ++ s.data.toList) over w' ∧ WT B g w w' := by
  obtain ⟨i0, hi, hz0, hz1, hz2⟩ := info_parts info5
  have H := hidden h
  have hm1 : Hid (bs.length + s.size ≤ maxLen) := by rw [Hid]; unfold maxLen; omega
  have hc1 : ∀ nq, (w.drewN nq).cell? ⟨g, 1, none⟩ = some v := fun nq => blk_cell (h.drewN nq).blk
  clear h
  go_enter Tryd.func21, Tryd.ntmps21
  go_wp2_with (first
    | (go_at_call 25; refine (room_yes H.out _ hk).mono ?_; rintro e w1 ⟨rfl, nq, rfl⟩)
    | (at_builtin; refine Lib.wpList_append_own_string _ rfl (.tmp 12) (.tmp 13) 36 9 rfl B 5 i0 Tryd.underlying36 Tryd.underlying9 hi hz0 hz1 hz2 v _ _ rfl (H.out.drewN nq).own s rfl hm1.out hl (H.out.drewN nq).base ?_; intro v' w1 hown' hgrow hat; have hb1 : w1.heap[g]? = _ := (hgrow.block g (H.out.drewN nq).lt (H.out.drewN nq).apart).trans (H.out.drewN nq).blk; have c1' : w1.cell? ⟨g, 1, none⟩ = some v := blk_cell hb1; have f1' : w1.frozen? ⟨g, 1, none⟩ = false := blk_free hb1; obtain ⟨a', cp', hv'⟩ : ∃ a' cp', v' = .slice a' (bs.length + s.size) cp' := (by rcases hown'.2 with ⟨q1, q2⟩ | ⟨_, cp', _, q1, _⟩; exact ⟨none, 0, by rw [q1]; congr 1; omega⟩; exact ⟨_, cp', q1⟩); rw [hv'] at hown' ⊢; clear hb1 hv' hat))
  have hown2 : w1.ownsRow B 5 1 (.slice a' (bs.length + s.size) cp') (bs ++ s.data.toList).length ((bs ++ s.data.toList).map U8) := by
    have e : (bs ++ s.data.toList).length = bs.length + s.size := by rw [List.length_append, size_list]
    rw [e, List.map_append]
    exact hown'
  have R := (H.out.drewN nq).grow hgrow hown2 (by rw [List.length_append, size_list]; exact hl)
  have RK : WT B g w (w1.setCell ⟨g, 1, none⟩ (.slice a' (bs.length + s.size) cp')) := (((Kept.refl (wrT B g w) w).drewN nq).grown hgrow (fun k hk _ => Or.inr (own_row H.out.own hk))).setCell (p := ⟨g, 1, none⟩) (Or.inl rfl) _
  go_end0
  exact ⟨rfl, _, R, RK⟩
theorem wRaw {B g : Nat} {most : Int} {st : List UInt8 × Bool} {w : World} (h : WS B g most st w) (s : ByteArray) (hl : st.1.length + s.size ≤ 140737488355328) :
    Calls Tryd.prog 21 #[.pointer (some ⟨g, 0, none⟩), .string s] w fun e w' => e = .returned (.tuple #[]) ∧ WS B g most (wput most st s.data.toList) w' ∧ WT B g w w' := by
  obtain ⟨v, hv, ho⟩ := h
  cases hk : wOk most st.1.length st.2 s.size with
  | true =>
    refine (raw_yes hv s (by omega) hk hl).mono ?_
    rintro e w' ⟨rfl, v', h1, h2⟩
    exact ⟨rfl, WS.of_yes (by rw [size_list]) hk h1, h2⟩
  | false =>
    refine (raw_no hv ho s (by omega) hk).mono ?_
    rintro e w' ⟨rfl, h1, h2⟩
    exact ⟨rfl, WS.of_no (by rw [size_list]) hk h1, kept_g h2⟩

/-! ### Text -/
theorem wput_len (most : Int) (st : List UInt8 × Bool) (new : List UInt8) : (wput most st new).1.length ≤ st.1.length + new.length := by
  unfold wput
  split <;> simp
set_option maxHeartbeats 400000 in
theorem wText {B g : Nat} {most : Int} {st : List UInt8 × Bool} {w : World} (h : WS B g most st w) (s : ByteArray) (hl : st.1.length + (vbytes s.size).length + s.size ≤ 140737488355328) :
    Calls Tryd.prog 12 #[.pointer (some ⟨g, 0, none⟩), .string s] w fun e w' => e = .returned (.tuple #[]) ∧ WS B g most (wput most (wput most st (vbytes s.size)) s.data.toList) w' ∧ WT B g w w' := by
  have H := hidden h
  have hs : s.size ≤ 140737488355328 := by omega
  have hl1 : Hid (st.1.length + (vbytes s.size).length ≤ 140737488355328) := by rw [Hid]; omega
  have hl2 : Hid ((wput most st (vbytes s.size)).1.length + s.size ≤ 140737488355328) := by
    have := wput_len most st (vbytes s.size)
    rw [Hid]; omega
  clear h hl
  go_enter Tryd.func12, Tryd.ntmps12
  go_wp2_with (first
    | (go_at_call 11; refine (wVar H.out s.size (by omega) hl1.out).mono ?_; rintro e w1 ⟨rfl, h1, k1⟩)
    | (go_at_call 21; refine (wRaw h1 s hl2.out).mono ?_; rintro e w2 ⟨rfl, h2, k2⟩))
  go_end0
  exact ⟨rfl, h2, k1.trans k2⟩
set_option maxHeartbeats 400000 in
theorem text_nil (s : ByteArray) (w : World) (hs : s.size ≤ 140737488355328) : Calls Tryd.prog 12 #[.pointer none, .string s] w fun e w' => e = .returned (.tuple #[]) ∧ w = w' := by
  go_enter Tryd.func12, Tryd.ntmps12
  go_wp2_with (first
    | (go_at_call 11; refine (var_nil s.size (by omega) _).mono ?_; rintro e w1 ⟨rfl, rfl⟩)
    | (go_at_call 21; refine (raw_nil s _ hs).mono ?_; rintro e w2 ⟨rfl, rfl⟩))
  go_end0
  exact ⟨rfl, rfl⟩

/-! ### Done, Len, a new one -/
/-- What Done tells. -/
def wdone (st : List UInt8 × Bool) : ByteArray × Int := if st.2 then (⟨#[]⟩, 3) else (⟨st.1.toArray⟩, 0)
theorem own_string {w : World} {B : Nat} {v : Value} {bs : List UInt8} (h : w.ownsRow B 5 1 v bs.length (bs.map U8)) : (convert 36 9 v).run Tryd.prog w = .ok (.string ⟨bs.toArray⟩) w := by
  rcases h.2 with ⟨rfl, h0⟩ | ⟨g, cap, cur, rfl, hb, hg, _⟩
  · have hb : bs = [] := List.eq_nil_of_length_eq_zero h0
    subst hb
    exact run_convert_bytes_nil w 36 5 Tryd.underlying36 Tryd.underlying5 0 0 9 Tryd.underlying9
  · exact run_convert_bytes_back w 36 9 5 ⟨g, 0, none⟩ cap bs Tryd.underlying36 Tryd.underlying5 Tryd.underlying9 (fun j hj => h.cells rfl j _ (by simp [hj, U8]))
set_option maxHeartbeats 400000 in
theorem wDone {B g : Nat} {most : Int} {st : List UInt8 × Bool} {w : World} (h : WS B g most st w) :
    Calls Tryd.prog 8 #[.pointer (some ⟨g, 0, none⟩)] w fun e w' => e = .returned (.tuple #[.string (wdone st).1, .int .i64 (wdone st).2]) ∧ w = w' := by
  obtain ⟨v, hv, ho⟩ := h
  obtain ⟨bs, over⟩ := st
  have hc1 : w.cell? ⟨g, 1, none⟩ = some v := blk_cell hv.blk
  have hc2 : w.cell? ⟨g, 2, none⟩ = some (.bool over) := blk_cell hv.blk
  have hcv := own_string hv.own
  clear hv ho
  cases over with
  | true =>
    go_enter Tryd.func8, Tryd.ntmps8
    go_wp2
    go_ret2
    exact ⟨rfl, rfl⟩
  | false =>
    go_enter Tryd.func8, Tryd.ntmps8
    go_wp2
    go_ret2
    exact ⟨rfl, rfl⟩
theorem done_nil (w : World) : Calls Tryd.prog 8 #[.pointer none] w fun e w' => e = .returned (.tuple #[.string ⟨#[]⟩, .int .i64 6]) ∧ w = w' := by
  go_enter Tryd.func8, Tryd.ntmps8
  go_wp2
  go_ret2
  exact ⟨rfl, rfl⟩
theorem wLen {B g : Nat} {most : Int} {st : List UInt8 × Bool} {w : World} (h : WS B g most st w) :
    Calls Tryd.prog 9 #[.pointer (some ⟨g, 0, none⟩)] w fun e w' => e = .returned (.int .i64 st.1.length) ∧ w = w' := by
  obtain ⟨v, hv, ho⟩ := h
  obtain ⟨a, cap, rfl⟩ := hv.form
  have hc1 : w.cell? ⟨g, 1, none⟩ = some _ := blk_cell hv.blk
  clear hv ho
  go_enter Tryd.func9, Tryd.ntmps9
  go_wp2
  go_ret
  exact ⟨rfl, rfl⟩
theorem len_nil (w : World) : Calls Tryd.prog 9 #[.pointer none] w fun e w' => e = .returned (.int .i64 0) ∧ w = w' := by
  go_enter Tryd.func9, Tryd.ntmps9
  go_wp2
  go_ret
  exact ⟨rfl, rfl⟩
theorem newWriter (most : Int) (w : World) (h0 : -9223372036854775808 ≤ most) (h1 : most ≤ 9223372036854775807) :
    Calls Tryd.prog 4 #[.int .i64 most] w fun e w' => e = .returned (.pointer (some ⟨w.heap.size, 0, none⟩)) ∧ w' = w.alloc (.cells #[.int .i64 (max most 0), .slice none 0 0, .bool false] 38) := by
  go_enter Tryd.func4, Tryd.ntmps4
  go_wp2
  go_ret
  exact ⟨rfl, rfl⟩
theorem WS.new {most : Int} (w : World) (h1 : most ≤ 9223372036854775807) {B : Nat} (hB : B ≤ w.heap.size) : WS B w.heap.size (max most 0) ([], false) (w.alloc (.cells #[.int .i64 (max most 0), .slice none 0 0, .bool false] 38)) :=
  ⟨_, ⟨heap_alloc_new _ _, World.ownsRow_nil _ _ _ _, by simp; omega, by omega, by omega, by simp⟩, fun h => by cases h⟩
end Go.Proofs.YtfeaaielopaonaaDoor
