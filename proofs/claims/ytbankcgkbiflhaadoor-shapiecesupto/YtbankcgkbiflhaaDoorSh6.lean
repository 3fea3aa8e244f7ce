/- sha's Sum, walked. -/
import Derived.Test.YtbankcgkbiflhaaDoorSh5
namespace Go.Proofs.YtbankcgkbiflhaaDoor
open Go.RowKit
set_option linter.unusedVariables false

theorem i24 : (Tryd.prog.info? 24).map (·.size) = some 32 := by kernel_rfl
theorem byte_int (N d : Nat) : Value.int .u8 ((N : Int) / 2 ^ d % 256) = U8 (UInt8.ofNat (N / 2 ^ d % 256)) := by
  unfold U8
  rw [UInt8.toNat_ofNat', Nat.mod_eq_of_lt (a := N / 2 ^ d % 256) (by have := Nat.mod_lt (N / 2 ^ d) (show 0 < 256 by decide); omega)]
  congr 1
/-- 32 bytes of which the first k are those of l. -/
def row32 (l : List UInt8) (k : Nat) : Array Value := ((l.take k ++ List.replicate (32 - k) 0).map U8).toArray
theorem row32_len (l : List UInt8) (hl : l.length = 32) (k : Nat) (h : k ≤ 32) : (l.take k ++ List.replicate (32 - k) (0 : UInt8)).length = 32 := by simp [hl]; omega
theorem row32_size (l : List UInt8) (hl : l.length = 32) (k : Nat) (h : k ≤ 32) : (row32 l k).size = 32 := by unfold row32; rw [List.size_toArray, List.length_map, row32_len l hl k h]
theorem row32_at (l : List UInt8) (hl : l.length = 32) (k j : Nat) (h : k ≤ 32) (hj : j < 32) : ∃ x, (row32 l k)[j]? = some (U8 x) := by
  unfold row32
  exact ⟨_, bytes_at _ j (by rw [row32_len l hl k h]; exact hj)⟩
theorem row32_put (l : List UInt8) (hl : l.length = 32) (k : Nat) (h : k < 32) : (row32 l k).setIfInBounds k (U8 (l.getD k 0)) = row32 l (k + 1) := by
  unfold row32
  rw [List.setIfInBounds_toArray, ← List.map_set]
  congr 2
  rw [List.set_append_right _ _ (by rw [List.length_take]; omega), List.length_take, hl, Nat.min_eq_left (by omega), Nat.sub_self, show 32 - k = 32 - (k + 1) + 1 by omega, List.replicate_succ, List.set_cons_zero, List.take_succ_eq_append_getElem (by omega), List.append_assoc, List.getD_eq_getElem?_getD, List.getElem?_eq_getElem (by omega)]
  rfl
theorem row32_full (l : List UInt8) (hl : l.length = 32) : row32 l 32 = (l.map U8).toArray := by
  unfold row32
  rw [List.take_of_length_le (by omega)]
  simp
theorem row32_one (l : List UInt8) (k : Nat) : (row32 l k).all (·.oneCell') = true := by
  unfold row32
  refine all_oneCell_toArray (fun v hv => ?_)
  rw [List.mem_map] at hv
  obtain ⟨n, _, rfl⟩ := hv
  rfl
theorem cells_at (s : S8) (i : Nat) (h : i < 8) : s.cells[i]? = some (.int .u32 (s.list.getD i 0 : Nat)) := by
  have : i = 0 ∨ i = 1 ∨ i = 2 ∨ i = 3 ∨ i = 4 ∨ i = 5 ∨ i = 6 ∨ i = 7 := by omega
  rcases this with rfl | rfl | rfl | rfl | rfl | rfl | rfl | rfl <;> rfl
theorem list_lt (s : S8) (hs : s.Ok) (i : Nat) : s.list.getD i 0 < 4294967296 := getD_lt (fun x hx => by
  simp only [S8.list, List.mem_cons, List.not_mem_nil, or_false] at hx
  obtain ⟨a, b, c, d, e, f, g, h⟩ := hs
  rcases hx with rfl | rfl | rfl | rfl | rfl | rfl | rfl | rfl <;> assumption) i
theorem out_at (s : S8) (i j : Nat) (hi : i < 8) (hj : j < 4) : s.out.getD (4 * i + j) 0 = UInt8.ofNat (s.list.getD i 0 / 2 ^ (24 - 8 * j) % 256) := by
  unfold S8.out S8.byt
  rw [List.getD_eq_getElem?_getD, List.getElem?_map, List.getElem?_range (by omega)]
  simp only [Option.map_some, Option.getD_some]
  rw [show (4 * i + j) / 4 = i by omega, show (4 * i + j) % 4 = j by omega]
theorem hw_state {w : World} {g : Nat} {L : List UInt8} (h : HW w g L) : ∀ W, Same w W → (Instr.loadAt 52 (.pointer (some ⟨g, 0, none⟩))).run Tryd.prog W = .ok (.agg (runN L (L.length / 64)).cells) W := fun W k => by
  obtain ⟨bs, h1, h2, h3⟩ := h
  exact run_loadAt_mid (P := Tryd.prog) W g 0 52 _ _ (hc_range0 (blk_kept k (fun h => h) h2)) Tryd.underlying52 rfl i8w
set_option maxHeartbeats 1000000 in
set_option maxRecDepth 100000 in
theorem sumNil_any (w : World) : Calls Tryd.prog 24 #[.pointer none] w fun e w' => e = .returned (.agg ((List.replicate 32 (0 : UInt8)).map U8).toArray) ∧ Same w w' := by
  have Hst : Hid (∀ c : Array Value, c.size = 32 → (Instr.storeAt 24 (.pointer (some ⟨w.heap.size, 0, none⟩)) (.agg (row32 [] 0))).run Tryd.prog (w.alloc (.cells c 24)) = .ok () (w.alloc (.cells (row32 [] 0) 24))) := hidden (fun c hc => run_storeAt_new w 24 c (row32 [] 0) i24 hc (row32_one _ _))
  have Hv := hidden (lv_row (P := Tryd.prog) (ty := 24) (blk_new w (.cells (row32 [] 0) 24)) Tryd.underlying24 rfl 32 i24 rfl)
  go_enter Tryd.func24, Tryd.ntmps24
  go_wp2_with (refine wl_store 24 _ _ rfl rfl rfl _ rfl (row32 [] 0) rfl (Hst.out _ rfl) ?_)
  exact bodyPost_ret (res_row Tryd.results24 rfl Hv.out) rfl ⟨rfl, same_alloc _ _⟩
set_option maxHeartbeats 1000000 in
set_option maxRecDepth 100000 in
theorem sum_any {g : Nat} {L : List UInt8} {w : World} (h : HW w g L) (hT : Tab w) (hL : L.length ≤ 1152921504606846000) : Calls Tryd.prog 24 #[.pointer (some ⟨g, 0, none⟩)] w fun e w' => e = .returned (.agg ((shaL L).map U8).toArray) ∧ Same w w' := by
  have HH := hidden h
  have HT := hidden hT
  have hgl := h.lt
  obtain ⟨bs, h1, h2, h3⟩ := h
  have hz := hc_size (runN L (L.length / 64)) bs L.length h1
  obtain ⟨C, hC⟩ : ∃ C, C = hcells (runN L (L.length / 64)) bs L.length := ⟨_, rfl⟩
  rw [← hC] at h2 hz
  have Ho : Hid (C.all (·.oneCell') = true) := hidden (by rw [hC]; exact hc_one _ _ _)
  have HZ := hidden hz
  have Hld : Hid (∀ W, Same w W → (Instr.loadAt 74 (.pointer (some ⟨g, 0, none⟩))).run Tryd.prog W = .ok (.agg C) W) := hidden (fun W k => ld_row (P := Tryd.prog) (ty := 74) (blk_kept k (fun h => h) h2) Tryd.underlying74 rfl 73 i74 hz)
  have HR : Hid (∀ W : World, HW (W.alloc (.cells C 74)) W.heap.size L) := hidden (fun W => ⟨bs, h1, by rw [hC]; exact blk_new W _, h3⟩)
  have hc72 : C[72]? = some (.int .i64 (L.length : Int)) := by rw [hC]; exact hc_72 _ _ _ h1
  have Hc72 : Hid (∀ W, Same w W → W.cell? ⟨g, 72, none⟩ = some (.int .i64 (L.length : Int))) := hidden (fun W k => (blk_cell (blk_kept k (fun h => h) h2)).trans hc72)
  have HPd := hidden (fun W => padding_any L.length (by omega) W)
  have hpl := padL_len L.length
  have HWr := hidden (fun (G gp : Nat) (W : World) h1 h2 h3 h4 h5 => write_any G L (padL L.length) gp 0 (padL L.length).length W h1 h2 h3 h4 (Nat.le_refl _) (by omega) (by omega) h5)
  have HE : Hid (shaL L = (runN (L ++ padL L.length) ((L ++ padL L.length).length / 64)).out) := hidden (by rw [List.length_append]; rfl)
  obtain ⟨st, hst⟩ : ∃ st, st = runN (L ++ padL L.length) ((L ++ padL L.length).length / 64) := ⟨_, rfl⟩
  have hok : st.Ok := hst ▸ runN_ok _ _
  rw [← hst] at HE
  have Hst := hidden hst
  have Hok := hidden hok
  obtain ⟨l, hl⟩ : ∃ l, l = shaL L := ⟨_, rfl⟩
  rw [← hl] at HE ⊢
  have Hll : Hid (l.length = 32) := hidden (by rw [HE.out]; exact out_len _)
  have Hlt := HT.out.lt
  clear h1 h2 h3 hz hC hc72 hpl hst hok hl hT
  obtain ⟨r, hr⟩ : ∃ r, w.heap.size = r := ⟨_, rfl⟩
  have Hs74 : Hid (∀ (X : Obj) (c : Array Value), c.size = 73 → (Instr.storeAt 74 (.pointer (some ⟨r + 1, 0, none⟩)) (.agg C)).run Tryd.prog ((w.alloc X).alloc (.cells c 74)) = .ok () ((w.alloc X).alloc (.cells C 74))) := hidden (fun X c hc => by
    have := run_storeAt_new (P := Tryd.prog) (w.alloc X) 74 c C (by rw [i74, HZ.out]) (by rw [HZ.out, hc]) Ho.out
    simpa [hr] using this)
  have Hsa : Hid (∀ X Y : Obj, Same w ((w.alloc X).alloc Y)) := hidden (fun X Y => (same_alloc _ _).alloc _)
  have HR3 : Hid (∀ X : Obj, HW ((w.alloc X).alloc (.cells C 74)) (r + 1) L) := hidden (fun X => by have := HR.out (w.alloc X); simpa [hr] using this)
  have HRr : Hid (∀ (X : Obj), ((w.alloc X).alloc (.cells C 74)).heap[r]? = some X) := hidden (fun X => by have := blk_alloc (blk_new w X) (.cells C 74); rwa [hr] at this)
  go_enter Tryd.func24, Tryd.ntmps24
  go_wp2_with (first
    | (refine wl_load 74 _ rfl rfl _ rfl _ (Hld.out _ (same_alloc _ _)) ?_)
    | (refine wl_store 74 _ _ rfl rfl rfl _ rfl C rfl (Hs74.out _ _ (by rfl)) ?_; change wpList _ _ _ _ _ ((w.alloc (.cells (row32 [] 0) 24)).alloc (.cells C 74)); have HR0 := hidden (HRr.out (.cells (row32 [] 0) 24)); have HH3 := hidden (HR3.out (.cells (row32 [] 0) 24)); have HK3 := hidden (Hsa.out (.cells (row32 [] 0) 24) (.cells C 74)); have hsz : ((w.alloc (.cells (row32 [] 0) 24)).alloc (.cells C 74)).heap.size = r + 2 := (by simp [hr]); generalize (w.alloc (.cells (row32 [] 0) 24)).alloc (.cells C 74) = W3 at *; have c72 := Hc72.out _ HK3.out)
    | (go_at_call 34; refine (HPd.out _).mono ?_; rintro e w4 ⟨rfl, hp4, k4⟩; rw [hsz] at hp4; have HR4 := hidden (blk_kept k4 (fun h => h) HR0.out); have HH4 := hidden (HH3.out.kept k4 (fun h => h)); have HK4 := hidden (Kept.trans HK3.out k4); have HP4 := hidden hp4; clear hp4 k4 HR0 HH3 HK3 c72)
    | (go_at_call 23; refine (HWr.out (r + 1) (r + 2) _ HH4.out (HT.out.same HK4.out) (by omega) (by omega) (fun j x hx => by rw [Nat.zero_add, blk_cell HP4.out, List.getElem?_toArray, List.getElem?_map, hx]; rfl)).mono ?_; rintro e w5 ⟨rfl, hh5, k5⟩; have HR5 := hidden (blk_kept k5 (show ¬ r = r + 1 by omega) HR4.out); have HK5 := hidden (HK4.out.trans' k5 (fun i hi (e : i = r + 1) => by omega)); have Hl52 := hidden (hw_state hh5); rw [← Hst.out] at Hl52; clear hh5 k5 HR4 HH4 HK4 HP4)
    | (refine wl_load 52 _ rfl rfl _ rfl st.cells (Hl52.out _ (same_alloc _ _)) ?_; change wpList _ _ _ _ _ (w5.alloc (.cells (row32 l 0) 24)); have HG6 := hidden (blk_new w5 (.cells (row32 l 0) 24)); have HR6 := hidden (blk_alloc HR5.out (.cells (row32 l 0) 24)); have HK6 := hidden (HK5.out.alloc (.cells (row32 l 0) 24)); have hs5 := HK5.out.size; have hr5 := blk_lt HR5.out; obtain ⟨gs, hgs⟩ : ∃ gs, w5.heap.size = gs := ⟨_, rfl⟩; rw [hgs] at HG6 hs5 hr5 ⊢; generalize w5.alloc (.cells (row32 l 0) 24) = W6 at *; clear HR5 HK5 Hl52 hgs))
  go_loopw [22] (fun x wr => ∃ i : Nat, i ≤ 8 ∧ x = .int .i64 i ∧ wr.heap[gs]? = some (.cells (row32 l (4 * i)) 24 (0, 0)) ∧ wr.heap[r]? = some (.cells (row32 [] 0) 24 (0, 0)) ∧ Same w wr) (fun x _ => 8 - (intOf x).toNat)
  case atStart => exact ⟨0, by omega, rfl, HG6.out, HR6.out, HK6.out⟩
  case round =>
    obtain ⟨i, hi, rfl, hg, hrr, hS⟩ := hrel
    have Hg := hidden hg
    have Hrr := hidden hrr
    have HS := hidden hS
    clear hg hrr hS
    by_cases hlt : i < 8
    · have hix : ∀ W, (Instr.index 52 (.agg st.cells) (.int .i64 (i : Int))).run Tryd.prog W = .ok (.int .u32 (st.list.getD i 0 : Nat)) W := fun W => run_index_agg W 52 51 8 _ _ .i64 i _ Tryd.underlying52 hlt (cells_at st i hlt) Tryd.underlying51 rfl (by kernel_rfl)
      have hxl := list_lt st Hok.out i
      have HX := hidden (fun j hj => out_at st i j hlt hj)
      generalize st.list.getD i 0 = x at *
      have k1 : (i : Int) < 8 := by omega
      obtain ⟨i4, hi4⟩ : ∃ i4, i4 = 4 * i := ⟨_, rfl⟩
      rw [← hi4] at HX Hg
      have d1 : 4 * (i : Int) = (i4 : Int) := by omega
      have d2 : IntKind.i64.wrap (i4 : Int) = (i4 : Int) := by rw [IntKind.wrap_i64]; omega
      have Hi4 := hidden hi4
      clear hi4
      obtain ⟨w1, hw1⟩ : ∃ w1, w1 = wr := ⟨_, rfl⟩
      rw [← hw1] at Hg Hrr HS ⊢
      clear hw1
      go_wp2
      go_loopw [26] (fun y wr => ∃ j : Nat, j ≤ 4 ∧ y = .int .i64 j ∧ wr.heap[gs]? = some (.cells (row32 l (i4 + j)) 24 (0, 0)) ∧ wr.heap[r]? = some (.cells (row32 [] 0) 24 (0, 0)) ∧ Same w wr) (fun y _ => 4 - (intOf y).toNat)
      case atStart => exact ⟨0, by omega, rfl, Hg.out, Hrr.out, HS.out⟩
      case round =>
        obtain ⟨j, hj, rfl, hg, hrr, hS⟩ := hrel
        have hi4 := Hi4.out
        have Hg := hidden hg
        have Hrr := hidden hrr
        have HS := hidden hS
        by_cases hjl : j < 4
        · obtain ⟨d, hd⟩ : ∃ d, d = 24 - 8 * j := ⟨_, rfl⟩
          obtain ⟨q, hq⟩ : ∃ q, q = i4 + j := ⟨_, rfl⟩
          have e0 : (24 : Int) - 8 * (j : Int) = (d : Int) := by omega
          have e1 : (i4 : Int) + (j : Int) = (q : Int) := by omega
          have e2 : IntKind.i64.wrap (q : Int) = (q : Int) := by rw [IntKind.wrap_i64]; omega
          have e3 : IntKind.i64.wrap (d : Int) = (d : Int) := by rw [IntKind.wrap_i64]; omega
          have e4 : (q : Int) < 32 := by omega
          have e5 : (j : Int) < 4 := by omega
          have e6 : (d : Int) < 32 := by omega
          obtain ⟨old, hold⟩ := row32_at l Hll.out q q (by omega) (by omega)
          have HPut := hidden (row32_put l Hll.out q (by omega))
          have HXq : Hid (l.getD q 0 = UInt8.ofNat (x / 2 ^ d % 256)) := hidden (by rw [HE.out, hq, hd]; exact HX.out j hjl)
          rw [← hq] at Hg hg
          have cw : wr.cell? ⟨gs, q, none⟩ = some (U8 old) := (blk_cell hg).trans hold
          have fw : wr.frozen? ⟨gs, q, none⟩ = false := blk_free hg
          have Hq := hidden hq
          clear hg hrr hS hd hq hold hi4
          go_wp2
          go_roundw
          case rel =>
            refine ⟨j + 1, by omega, by go_num, ?_, blk_oth Hrr.out (by omega) _, HS.out.setNew (p := ⟨gs, q, none⟩) (by show w.heap.size ≤ gs; omega) _⟩
            rw [byte_int, ← HXq.out, show i4 + (j + 1) = q + 1 by have := Hq.out; omega, ← HPut.out]
            exact blk_set Hg.out _
          case measure => simp [intOf]; omega
        · have e5 : ¬ (j : Int) < 4 := by omega
          have h4 : j = 4 := by omega
          rw [h4, hi4, show 4 * i + 4 = 4 * (i + 1) by omega] at Hg
          clear hg hrr hS h4 hi4
          go_wp2
          go_roundw
          case rel => exact ⟨i + 1, by omega, by go_num, Hg.out, Hrr.out, HS.out⟩
          case measure => simp [intOf]; omega
    · have k1 : ¬ (i : Int) < 8 := by omega
      have h8 : i = 8 := by omega
      rw [h8, show 4 * 8 = 32 from rfl, row32_full l Hll.out] at Hg
      have hz1 : (l.map U8).toArray.size = 32 := by simp [Hll.out]
      have h1c : (l.map U8).toArray.all (·.oneCell') = true := by rw [← row32_full l Hll.out]; exact row32_one _ _
      have Hld2 := hidden (ld_row (P := Tryd.prog) (ty := 24) Hg.out Tryd.underlying24 rfl 32 i24 hz1)
      have Hst2 := hidden (st_row (P := Tryd.prog) (ty := 24) Hrr.out 32 i24 rfl hz1 h1c)
      have Hv := hidden (lv_row (setRow_heap wr r _ (l.map U8).toArray _ _ Hrr.out) (P := Tryd.prog) (ty := 24) Tryd.underlying24 rfl 32 i24 hz1)
      clear h8 hz1 h1c
      go_wp2_with (first
        | (refine wl_load 24 _ rfl rfl _ rfl _ Hld2.out ?_)
        | (refine wl_store 24 _ _ rfl rfl rfl _ rfl _ rfl Hst2.out ?_))
      exact bodyPost_ret (res_row Tryd.results24 rfl Hv.out) rfl ⟨rfl, HS.out.setRow (Or.inl (by omega)) _⟩
/-- Bytes in memory. -/
def Byt (w : World) (v : Value) (l : List UInt8) : Prop :=
  ∃ a cap, v = .slice a l.length cap ∧ l.length ≤ cap ∧ (a = none → cap = 0) ∧ (0 < l.length → ∃ b off, a = some ⟨b, off, none⟩ ∧ ∀ j x, l[j]? = some x → w.cell? ⟨b, off + j, none⟩ = some (U8 x))
theorem Byt.keep {w w' : World} {v : Value} {l : List UInt8} (h : Byt w v l) (hk : ∀ b o x, w.cell? ⟨b, o, none⟩ = some (U8 x) → w'.cell? ⟨b, o, none⟩ = some (U8 x)) : Byt w' v l := by
  obtain ⟨a, cap, h1, h2, h0, h3⟩ := h
  refine ⟨a, cap, h1, h2, h0, fun hp => ?_⟩
  obtain ⟨b, off, h4, h5⟩ := h3 hp
  exact ⟨b, off, h4, fun j x hj => hk _ _ _ (h5 j x hj)⟩
theorem Byt.same {w w' : World} {v : Value} {l : List UInt8} (h : Byt w v l) (k : Same w w') : Byt w' v l := h.keep fun b o x hc => k.cell (p := ⟨b, o, none⟩) (fun h => h) hc
end Go.Proofs.YtbankcgkbiflhaaDoor
