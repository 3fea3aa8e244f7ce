/- sha's Hex, walked. -/
import Derived.Test.YtbankcgkbiflhaaDoorSh7
import Derived.Deep.RegionLaw
import Derived.Deep.AppendLies
import Derived.Deep.DrawnRows
namespace Go.Proofs.YtbankcgkbiflhaaDoor
open Go.RowKit
set_option linter.unusedVariables false
attribute [local go_sem ↓] Go.wp_at_zero Go.wp_at_succ

def hexS : ByteArray := ⟨#[48, 49, 50, 51, 52, 53, 54, 55, 56, 57, 97, 98, 99, 100, 101, 102]⟩
def hd (n : Nat) : UInt8 := hexS.data.toList.getD n 0
def hexOf (l : List UInt8) : List UInt8 := l.flatMap fun b => [hd (b.toNat / 16), hd (b.toNat % 16)]
theorem hexOf_snoc (l : List UInt8) (b : UInt8) : hexOf (l ++ [b]) = hexOf l ++ [hd (b.toNat / 16), hd (b.toNat % 16)] := by simp [hexOf]
theorem hexOf_len (l : List UInt8) : (hexOf l).length = 2 * l.length := by
  induction l with
  | nil => rfl
  | cons b l ih => simp only [hexOf, List.flatMap_cons, List.length_append, List.length_cons, List.length_nil] at ih ⊢; omega
theorem run_hex (W : World) (k : IntKind) (n : Nat) (h : n < 16) : (Instr.index 9 (.string hexS) (.int k (n : Int))).run Tryd.prog W = .ok (U8 (hd n)) W := by
  rw [run_index_string (h := Tryd.underlying9)]
  have hs : hexS.size = 16 := rfl
  rw [dif_pos (by rw [hs]; omega)]
  unfold U8 hd
  congr 3
  rw [List.getD_eq_getElem?_getD, List.getElem?_eq_getElem (by show n < 16; exact h)]
  rfl
theorem and15 (b : Nat) (h : b < 256) : bits .and .u8 (b : Int) 15 = ((b % 16 : Nat) : Int) := by
  have := u8_and_nat b 15 h (by decide)
  rw [show (15 : Int) = ((15 : Nat) : Int) from rfl, this, show (15 : Nat) = 2 ^ 4 - 1 from rfl, Nat.and_two_pow_sub_one_eq_mod]
theorem yi {P : Program} {o : Oper} {a : Act} {ty : TypeId} {x y : Operand} {vx vy v : Value} (ho : o.op = .index ty x y) (hx : a.eval x = vx) (hy : a.eval y = vy) (hr : ∀ w, (Instr.index ty vx vy).run P w = .ok v w) : ∀ w, (execOp a.eval o).run P w = .ok (.value v) w := by
  intro w
  unfold execOp
  simp only [ho, hx, hy, hr, Sem.run_bind, Sem.run_pure, Result.andThen_ok]
theorem make_cap (n c : Nat) (hn : n ≤ c) (hc : c ≤ 281474976710656) (W : World) :
    (Instr.makeSlice 22 (.int .i64 (n : Int)) (.int .i64 (c : Int))).run Tryd.prog W = .ok (.slice (some ⟨W.heap.size, 0, none⟩) n c) (W.alloc (.cells (List.replicate c (U8 0)).toArray 5)) := by
  obtain ⟨i0, hi, hz0, hz1, hz2⟩ := info_parts info5
  have h := run_make (P := Tryd.prog) W 22 5 i0 (.int .u8 0) Tryd.underlying22 hi hz0 .i64 .i64 (n : Int) (c : Int) (by omega) (by omega) (by rw [hz2]; omega) (by omega)
  have hM : madeCells (Value.int .u8 0).cells (c * i0.size) = (List.replicate c (U8 0)).toArray := by
    rw [hz1, Nat.mul_one]
    apply Array.ext'
    rw [List.toList_toArray]
    exact toList_madeCells_one _ _
  rw [Int.toNat_natCast, Int.toNat_natCast, hM] at h
  exact h
theorem ownsRow_heap {w w' : World} (h : w'.heap = w.heap) {base : Nat} {e : TypeId} {size : Nat} {v : Value} {n : Nat} {xs : List Value} (ho : w.ownsRow base e size v n xs) : w'.ownsRow base e size v n xs := by
  unfold World.ownsRow at *
  rw [h]
  exact ho
theorem own_text {w : World} {base : Nat} {v : Value} {n : Nat} {l : List UInt8} (h : w.ownsRow base 5 1 v n (l.map U8)) : (convert 22 9 v).run Tryd.prog w = .ok (.string ⟨l.toArray⟩) w := by
  obtain ⟨h1, h2⟩ := h
  rw [List.length_map, Nat.mul_one] at h1
  rcases h2 with ⟨rfl, hn⟩ | ⟨g, cap, cur, rfl, hb, hh, hc, hm, hz, ht⟩
  · obtain rfl : l = [] := List.eq_nil_of_length_eq_zero (by omega)
    exact run_convert_bytes_nil w 22 5 Tryd.underlying22 Tryd.underlying5 0 0 9 Tryd.underlying9
  · subst h1
    refine run_convert_bytes_back w 22 9 5 ⟨g, 0, none⟩ cap l Tryd.underlying22 Tryd.underlying5 Tryd.underlying9 fun j hj => ?_
    rw [Addr.add_mid, Nat.zero_add, blk_cell hh]
    have e : (cur.toList.take (l.length * 1))[j]? = some (U8 l[j]) := by rw [ht, List.getElem?_map, List.getElem?_eq_getElem hj]; rfl
    rw [List.getElem?_take, if_pos (by omega)] at e
    rw [← Array.getElem?_toList]
    exact e
theorem ba_list (l : List UInt8) : (⟨l.toArray⟩ : ByteArray).data.toList = l := by simp
set_option maxHeartbeats 1000000 in
set_option maxRecDepth 100000 in
theorem hex_any (l : List UInt8) (hl : l.length = 32) (w : World) : Calls Tryd.prog 15 #[.agg (l.map U8).toArray] w fun e w' => e = .returned (.string ⟨(hexOf l).toArray⟩) ∧ Same w w' := by
  obtain ⟨i0, hi, hz0, hz1, hz2⟩ := info_parts info5
  have HL := hidden hl
  have HBa := hidden (bytes_at l)
  have hz : (l.map U8).toArray.size = 32 := by simp [hl]
  obtain ⟨C, hC⟩ : ∃ C, C = (l.map U8).toArray := ⟨_, rfl⟩
  rw [← hC] at hz HBa ⊢
  have HZ := hidden hz
  have HC := hidden hC
  clear hz hC hl
  obtain ⟨g, hg⟩ : ∃ g, w.heap.size = g := ⟨_, rfl⟩
  have hmk := fun W => make_cap 0 64 (by omega) (by omega) W
  obtain ⟨Z, hZ⟩ : ∃ Z, Z = (List.replicate 64 (U8 0)).toArray := ⟨_, rfl⟩
  rw [← hZ] at hmk
  have HZ64 : Hid (Z.size = 64) := hidden (by rw [hZ]; rfl)
  clear hZ
  have hmk2 : (Instr.makeSlice 22 (.int .i64 0) (.int .i64 64)).run Tryd.prog (w.alloc (.cells C 24)) = .ok (.slice (some ⟨g + 1, 0, none⟩) 0 64) ((w.alloc (.cells C 24)).alloc (.cells Z 5)) := by
    have := hmk (w.alloc (.cells C 24))
    simpa [hg] using this
  have hld := hidden (fun X => ld_row (P := Tryd.prog) (ty := 24) (blk_alloc (blk_new w (.cells C 24)) X) Tryd.underlying24 rfl 32 i24 HZ.out)
  rw [hg] at hld
  clear hmk
  go_enter Tryd.func15, Tryd.ntmps15
  go_wp2_with (refine wl_load 24 _ rfl rfl _ rfl _ (hld.out _) ?_)
  go_loopw [3, 8] (fun u x wr => ∃ i : Nat, i ≤ 32 ∧ x = .int .i64 i ∧ wr.ownsRow g 5 1 u (2 * i) ((hexOf (l.take i)).map U8) ∧ Same w wr) (fun _ x _ => 32 - (intOf x).toNat)
  case atStart =>
    refine ⟨0, by omega, rfl, ?_, (same_alloc _ _).alloc _⟩
    have := World.ownsRow_made (base := g) (e := 5) (size := 1) (w.alloc (.cells C 24)) Z 64 (by simp [hg]) (by decide) HZ64.out
    simpa [hg, hexOf] using this
  case round =>
    obtain ⟨i, hi32, rfl, hown, hS⟩ := hrel
    have HS := hidden hS
    have HO := hidden hown
    by_cases hlt : i < 32
    · have hix : ∀ W, (Instr.index 24 (.agg C) (.int .i64 (i : Int))).run Tryd.prog W = .ok (.int .u8 ((l.getD i 0).toNat : Nat)) W := fun W => run_index_agg W 24 5 32 _ C .i64 i _ Tryd.underlying24 hlt (HBa.out i (by rw [HL.out]; exact hlt)) Tryd.underlying5 rfl (by kernel_rfl)
      have HX : Hid (hexOf (l.take (i + 1)) = hexOf (l.take i) ++ [hd ((l.getD i 0).toNat / 16), hd ((l.getD i 0).toNat % 16)]) := hidden (by
        have hl := HL.out
        rw [List.take_succ_eq_append_getElem (by omega), hexOf_snoc, List.getD_eq_getElem?_getD, List.getElem?_eq_getElem (by omega)]
        rfl)
      have hb := (l.getD i 0).toNat_lt
      generalize (l.getD i 0).toNat = b at *
      have k1 : (i : Int) < 32 := by omega
      have e1 : IntKind.i64.wrap (i : Int) = (i : Int) := by rw [IntKind.wrap_i64]; omega
      obtain ⟨n1, hn1⟩ : ∃ n1, n1 = b / 16 := ⟨_, rfl⟩
      obtain ⟨n2, hn2⟩ : ∃ n2, n2 = b % 16 := ⟨_, rfl⟩
      have H1 := hidden (fun W => run_hex W .u8 n1 (by omega))
      have H2 := hidden (fun W => run_hex W .u8 n2 (by omega))
      rw [← hn1, ← hn2] at HX
      have a1 : (b : Int) / 16 = (n1 : Int) := by omega
      have a2 := and15 b hb
      rw [← hn2] at a2
      have Hm1 : Hid (2 * i + 2 ≤ maxLen) := hidden (by unfold maxLen; omega)
      have Hsz : Hid (g ≤ wr.heap.size) := hidden (by have := hS.size; omega)
      clear hown hS hn1 hn2
      go_wp2
      refine wp_region_any hmx ?_
      change wpAny Tryd.prog _ _ _ _ _ _ wr.drew
      refine wpAny_take (i := 0) (v := u3) rfl (by kernel_rfl) (by kernel_rfl) (by kernel_rfl) (fun _ _ _ h => h) (Or.inl ⟨by rfl, (by intro w; go_simp; try rfl)⟩) ?_; (try go_simp)
      refine wpAny_take (i := 1) (v := (.int .u8 (b : Int))) rfl (by kernel_rfl) (by kernel_rfl) (by kernel_rfl) (fun _ _ _ h => h) (Or.inl ⟨by rfl, (by intro w; go_simp; try rfl)⟩) ?_; (try go_simp)
      refine wpAny_take (i := 2) (v := (.int .u8 (n1 : Int))) rfl (by kernel_rfl) (by kernel_rfl) (by kernel_rfl) (fun _ _ _ h => h) (Or.inl ⟨by rfl, (by intro w; go_simp; try rfl)⟩) ?_; (try go_simp)
      refine wpAny_take (i := 3) (v := (.int .u8 ((hd n1).toNat : Int))) rfl (by kernel_rfl) (by kernel_rfl) (by kernel_rfl) (fun _ _ _ h => h) (Or.inl ⟨by rfl, yi rfl rfl rfl H1.out⟩) ?_; (try go_simp)
      refine wpAny_take (i := 4) (v := (.int .u8 (b : Int))) rfl (by kernel_rfl) (by kernel_rfl) (by kernel_rfl) (fun _ _ _ h => h) (Or.inl ⟨by rfl, (by intro w; go_simp; try rfl)⟩) ?_; (try go_simp)
      refine wpAny_take (i := 5) (v := (.int .u8 (n2 : Int))) rfl (by kernel_rfl) (by kernel_rfl) (by kernel_rfl) (fun _ _ _ h => h) (Or.inl ⟨by rfl, (by intro w; go_simp; try rfl)⟩) ?_; (try go_simp)
      refine wpAny_take (i := 6) (v := (.int .u8 ((hd n2).toNat : Int))) rfl (by kernel_rfl) (by kernel_rfl) (by kernel_rfl) (fun _ _ _ h => h) (Or.inl ⟨by rfl, yi rfl rfl rfl H2.out⟩) ?_; (try go_simp)
      refine wpAny_ready (rs := [7]) (by kernel_rfl) (by simp) ?_; refine AllReady.cons rfl (fun K hK => ?_) AllReady.nil
      go_simp
      refine hK _ _ ?_; clear hK K; (try go_simp)
      refine wpAny_ready (rs := [8]) (by kernel_rfl) (by simp) ?_; refine AllReady.cons rfl (fun K hK => ?_) AllReady.nil
      refine step_append_lies _ (by rfl) _ _ 22 (by rfl) g 5 i0 (.int .u8 0) 1 1 Tryd.underlying22 hi hz0 hz1 hz2 rfl (by decide) u3 _ _ (by rfl) (ownsRow_heap (w := wr.alloc _) rfl (HO.out.alloc _)) ⟨wr.heap.size, 0, none⟩ 2 2 _ (by rfl) rfl (World.news_of_block (heap_alloc_new wr _)) (fun x hx => by simp at hx; rcases hx with rfl | rfl <;> rfl) (by decide) Hm1.out (by have := Hm1.out; omega) (by have := Hsz.out; simp; omega) (wr.heap.size + 1) (by simp) ?_
      intro g' cap' w1 hown' hgrow hat hlt'
      have HO1 := hidden hown'
      have HS1 : Hid (Same w w1) := hidden ((HS.out.drew.alloc _).grown (row := u3.ownBlock) hgrow (fun k hk hl => by have := (HO.out.lt k hk).1; omega))
      clear hown' hgrow hat
      refine hK _ _ ?_; clear hK K; (try go_simp)
      refine wpAny_ready (rs := [9]) (by kernel_rfl) (by simp) ?_; refine AllReady.cons rfl (fun K hK => ?_) AllReady.nil
      go_simp
      refine hK _ _ ?_; clear hK K; (try go_simp)
      refine wpAny_done (by kernel_rfl) ?_ _
      go_wp2
      go_roundw
      case rel =>
        refine ⟨i + 1, by omega, by go_num, ?_, HS1.out⟩
        rw [HX.out, List.map_append, show 2 * (i + 1) = 2 * i + 2 by omega]
        exact HO1.out
      case measure => simp [intOf]; omega
    · have k1 : ¬ (i : Int) < 32 := by omega
      have h32 : i = 32 := by omega
      rw [h32, List.take_of_length_le (by rw [HL.out]; omega)] at HO
      clear hown hS h32
      have hct := own_text HO.out
      obtain ⟨ua, uc, hu⟩ := own_form HO.out
      subst hu
      go_wp2
      go_returns
      exact ⟨rfl, HS.out⟩
end Go.Proofs.YtbankcgkbiflhaaDoor
