/- node: a Reader over a list's bytes; zeros; readHead. -/
import Derived.Test.YtpjgghalnkfdkaaDoorNE8
import Derived.Test.YtpjgghalnkfdkaaDoorNE5
namespace Go.Proofs.YtpjgghalnkfdkaaDoor
open Go.RowKit
set_option linter.unusedVariables false
set_option linter.unusedSimpArgs false
theorem ext_take (l : List UInt8) (k : Nat) : (⟨l.toArray⟩ : ByteArray).extract 0 k = ⟨(l.take k).toArray⟩ := by
  apply ByteArray.ext
  rw [ByteArray.data_extract]
  simp
theorem ext_drop (l : List UInt8) (k : Nat) : (⟨l.toArray⟩ : ByteArray).extract k (⟨l.toArray⟩ : ByteArray).size = ⟨(l.drop k).toArray⟩ := by
  apply ByteArray.ext
  rw [ByteArray.data_extract, ba_size]
  simp
  exact List.take_of_length_le (by rw [List.length_drop]; omega)
/-- Bytes, no fault. -/
def rs (l : List UInt8) : RSt := (⟨l.toArray⟩, 0)
/-- The fault that a Reader tells where bytes lack. -/
def rf : RSt := (⟨#[]⟩, 20)
theorem rtake_yes {l : List UInt8} {n : Nat} (h : n ≤ l.length) : rtake (rs l) n = (⟨(l.take n).toArray⟩, rs (l.drop n)) := by
  unfold rtake rs
  rw [if_pos rfl]
  simp only
  rw [if_neg (by rw [ba_size]; omega), ext_take, ext_drop]
theorem rtake_no {l : List UInt8} {n : Nat} (h : l.length < n) : rtake (rs l) n = (⟨#[]⟩, rf) := by
  unfold rtake rs rf
  rw [if_pos rfl]
  simp only
  rw [if_pos (by rw [ba_size]; omega)]
theorem rtake_f (n : Nat) : rtake rf n = (⟨#[]⟩, rf) := by
  unfold rtake rf
  rw [if_neg (by decide)]
theorem rraw_nat (st : RSt) (n : Nat) : rraw st (n : Int) = rtake st n := by
  unfold rraw
  rw [if_neg (by omega), Int.toNat_natCast]
theorem rnum_yes {l : List UInt8} {n : Nat} (h : n ≤ l.length) : rnum (rs l) n = num (l.take n) := by
  unfold rnum
  rw [rtake_yes h]
theorem rnum_no {l : List UInt8} {n : Nat} (h : l.length < n) : rnum (rs l) n = 0 := by
  unfold rnum
  rw [rtake_no h]; rfl
theorem rnum_f (n : Nat) : rnum rf n = 0 := by
  unfold rnum
  rw [rtake_f]; rfl
theorem num_one (b : UInt8) : num [b] = b.toNat := by simp [num]
theorem rnum_byte {l : List UInt8} (h : 1 ≤ l.length) : rnum (rs l) 1 = b0 l := by
  rw [rnum_yes h]
  match l, h with
  | x :: t, _ => exact num_one x
theorem rdone_rs (l : List UInt8) : rdone (rs l) = if l = [] then 0 else 22 := by
  unfold rdone rs
  rw [if_pos rfl]
  simp only
  rw [ba_size]
  cases l with
  | nil => rfl
  | cons a l => simp
theorem rdone_f : rdone rf = 20 := rfl
def hdR (s : List UInt8) : Value := .agg #[U8 (s.getD 0 0), U8 (s.getD 1 0), U8 (s.getD 2 0), U8 (s.getD 3 0), U8 (s.getD 4 0), U8 (s.getD 5 0), .int .u16 (num ((s.drop 6).take 2) : Nat), .int .u32 (num ((s.drop 8).take 4) : Nat), .int .u32 (num ((s.drop 12).take 4) : Nat)]
set_option maxHeartbeats 2000000 in
set_option maxRecDepth 100000 in
theorem zeros_any (l : List UInt8) (v : Value) (w : World) (h : Bt w v l) (hl : l.length ≤ 4096) :
    Calls Tryd.prog 45 #[v] w fun e w' => e = .returned (.bool (decide (∀ x ∈ l, x = 0))) ∧ Same w w' := by
  obtain ⟨ao, cap, rfl, hcap⟩ := h.form
  have HB := hidden h
  have HL := hidden hl
  clear h hl hcap
  obtain ⟨n, hn⟩ : ∃ n, l.length = n := ⟨_, rfl⟩
  rw [hn] at HL ⊢
  have HN := hidden hn
  rw [hn] at HB
  clear hn
  obtain ⟨z, hzz⟩ : ∃ z, decide (∀ x ∈ l, x = 0) = z := ⟨_, rfl⟩
  rw [hzz]
  have HZZ := hidden hzz
  clear hzz
  go_enter Tryd.func45, Tryd.ntmps45
  go_wp2
  go_loopw [7] (fun i wr => ∃ k : Nat, k ≤ n ∧ i = .int .i64 k ∧ (∀ x ∈ l.take k, x = 0) ∧ Same w wr) (fun i _ => n - (intOf i).toNat)
  case atStart => exact ⟨0, Nat.zero_le _, rfl, by simp, Kept.refl _ _⟩
  case round =>
    obtain ⟨k, hk, rfl, hz, hsm⟩ := hrel
    have HZ := hidden hz
    have HK := hidden hsm
    clear hz hsm
    have hn4 := HL.out
    by_cases h1 : k < n
    · have hkl : k < l.length := by rw [HN.out]; exact h1
      obtain ⟨b, off, rfl, hc⟩ := (HB.out.same HK.out).cell (by omega)
      have hck := hc k hkl
      clear hc
      have qi : wrap64 ((k : Int) + 1) = ((k + 1 : Nat) : Int) := IntWalk.wrap64_in _ ⟨by omega, by omega⟩
      obtain ⟨x, hx⟩ : ∃ x, l[k] = x := ⟨_, rfl⟩
      rw [hx] at hck
      unfold U8 at hck
      by_cases h0 : x.toNat = 0
      · have hx0 : x = 0 := by apply UInt8.toNat_inj.1; simpa using h0
        rw [h0] at hck
        have HZ' : Hid (∀ x ∈ l.take (k + 1), x = 0) := by
          rw [Hid, List.take_succ_eq_append_getElem hkl, hx]
          intro y hy
          rcases List.mem_append.1 hy with hy | hy
          · exact HZ.out y hy
          · rw [List.mem_singleton.1 hy, hx0]
        go_wp2
        go_roundw
        case rel => exact ⟨k + 1, by omega, by go_num, HZ'.out, HK.out⟩
        case measure => simp [intOf]; omega
      · have hne : ((x.toNat : Int) != 0) = true := by simp; omega
        have hne2 : ¬ (x.toNat : Int) = 0 := by omega
        have hf : decide (∀ x ∈ l, x = 0) = false := decide_eq_false (fun h => h0 (by rw [h x (by rw [← hx]; exact List.getElem_mem _)]; rfl))
        obtain rfl : z = false := by rw [← HZZ.out]; exact hf
        clear hf
        go_wp2
        go_returns
        exact ⟨rfl, HK.out⟩
    · obtain rfl : k = n := by omega
      have ht : decide (∀ x ∈ l, x = 0) = true := decide_eq_true (fun x hx => HZ.out x (by rw [← HN.out, List.take_length]; exact hx))
      obtain rfl : z = true := by rw [← HZZ.out]; exact ht
      clear ht
      go_wp2
      go_returns
      exact ⟨rfl, HK.out⟩
theorem three (w : World) (o1 o2 o3 : Obj) : (((w.alloc o1).alloc o2).alloc o3).heap[w.heap.size]? = some o1 ∧ (((w.alloc o1).alloc o2).alloc o3).heap[w.heap.size + 1]? = some o2 ∧ Same w (((w.alloc o1).alloc o2).alloc o3) := by
  have h2 := blk_new (w.alloc o1) o2
  have e : (w.alloc o1).heap.size = w.heap.size + 1 := by simp
  rw [e] at h2
  exact ⟨blk_alloc (blk_alloc (blk_new w o1) _) _, blk_alloc h2 _, (((Kept.refl _ w).alloc _).alloc _).alloc _⟩
theorem cells9 {W : World} {g : Nat} {t : TypeId} {z0 z1 z2 z3 z4 z5 z6 z7 z8 : Value} (h : W.heap[g]? = some (.cells #[z0, z1, z2, z3, z4, z5, z6, z7, z8] t (0, 0))) : W.cell? ⟨g, 0, none⟩ = some z0 ∧ W.cell? ⟨g, 1, none⟩ = some z1 ∧ W.cell? ⟨g, 2, none⟩ = some z2 ∧ W.cell? ⟨g, 3, none⟩ = some z3 ∧ W.cell? ⟨g, 4, none⟩ = some z4 ∧ W.cell? ⟨g, 5, none⟩ = some z5 ∧ W.cell? ⟨g, 6, none⟩ = some z6 ∧ W.cell? ⟨g, 7, none⟩ = some z7 ∧ W.cell? ⟨g, 8, none⟩ = some z8 :=
  ⟨blk_cell h, blk_cell h, blk_cell h, blk_cell h, blk_cell h, blk_cell h, blk_cell h, blk_cell h, blk_cell h⟩
theorem free9 {W : World} {g : Nat} {t : TypeId} {cs : Array Value} (h : W.heap[g]? = some (.cells cs t (0, 0))) : W.frozen? ⟨g, 0, none⟩ = false ∧ W.frozen? ⟨g, 1, none⟩ = false ∧ W.frozen? ⟨g, 2, none⟩ = false ∧ W.frozen? ⟨g, 3, none⟩ = false ∧ W.frozen? ⟨g, 4, none⟩ = false ∧ W.frozen? ⟨g, 5, none⟩ = false ∧ W.frozen? ⟨g, 6, none⟩ = false ∧ W.frozen? ⟨g, 7, none⟩ = false ∧ W.frozen? ⟨g, 8, none⟩ = false :=
  ⟨blk_free h, blk_free h, blk_free h, blk_free h, blk_free h, blk_free h, blk_free h, blk_free h, blk_free h⟩
set_option maxHeartbeats 2000000 in
set_option maxRecDepth 100000 in
theorem readHead_any (s : List UInt8) (w : World) (hs : s.length = 16) :
    Calls Tryd.prog 43 #[.string ⟨s.toArray⟩] w fun e w' => e = .returned (hdR s) ∧ Same w w' := by
  have HS := hidden hs
  have g0 : ∀ W : World, Rd W.heap.size (rs s) (W.alloc (.cells #[.string ⟨s.toArray⟩, .int .i64 0] 115)) := fun W => Rd.new _ W (by rw [ba_size]; omega)
  have t4 : rraw (rs s) 4 = (⟨(s.take 4).toArray⟩, rs (s.drop 4)) := by rw [show (4 : Int) = ((4 : Nat) : Int) by rfl, rraw_nat, rtake_yes (by omega)]
  have t5 : rtake (rs (s.drop 4)) 1 = (⟨((s.drop 4).take 1).toArray⟩, rs (s.drop 5)) := by rw [rtake_yes (by rw [List.length_drop]; omega), List.drop_drop]
  have t6 : rtake (rs (s.drop 5)) 1 = (⟨((s.drop 5).take 1).toArray⟩, rs (s.drop 6)) := by rw [rtake_yes (by rw [List.length_drop]; omega), List.drop_drop]
  have t8 : rtake (rs (s.drop 6)) 2 = (⟨((s.drop 6).take 2).toArray⟩, rs (s.drop 8)) := by rw [rtake_yes (by rw [List.length_drop]; omega), List.drop_drop]
  have t12 : rtake (rs (s.drop 8)) 4 = (⟨((s.drop 8).take 4).toArray⟩, rs (s.drop 12)) := by rw [rtake_yes (by rw [List.length_drop]; omega), List.drop_drop]
  have n4 : rnum (rs (s.drop 4)) 1 = (s.getD 4 0).toNat := by rw [rnum_byte (by rw [List.length_drop]; omega)]; simp [b0]
  have n5 : rnum (rs (s.drop 5)) 1 = (s.getD 5 0).toNat := by rw [rnum_byte (by rw [List.length_drop]; omega)]; simp [b0]
  have n6 : rnum (rs (s.drop 6)) 2 = num ((s.drop 6).take 2) := rnum_yes (by rw [List.length_drop]; omega)
  have n8 : rnum (rs (s.drop 8)) 4 = num ((s.drop 8).take 4) := rnum_yes (by rw [List.length_drop]; omega)
  have n12 : rnum (rs (s.drop 12)) 4 = num ((s.drop 12).take 4) := rnum_yes (by rw [List.length_drop]; omega)
  have HG := hidden g0
  have H0 := hidden (fun g W (h : Rd g (rs s) W) => rRaw h 4 (by decide))
  rw [t4] at H0
  have H4 := hidden (fun g W (h : Rd g (rs (s.drop 4)) W) => rU8 h)
  rw [t5, n4] at H4
  have H5 := hidden (fun g W (h : Rd g (rs (s.drop 5)) W) => rU8 h)
  rw [t6, n5] at H5
  have H6 := hidden (fun g W (h : Rd g (rs (s.drop 6)) W) => rU16 h)
  rw [t8, n6] at H6
  have H8 := hidden (fun g W (h : Rd g (rs (s.drop 8)) W) => rU32 h)
  rw [t12, n8] at H8
  have H12 := hidden (fun g W (h : Rd g (rs (s.drop 12)) W) => rU32 h)
  rw [n12] at H12
  have l4 : (s.take 4).length = 4 := by rw [List.length_take]; omega
  have hm : ∃ m0 m1 m2 m3, s.take 4 = [m0, m1, m2, m3] ∧ s.getD 0 0 = m0 ∧ s.getD 1 0 = m1 ∧ s.getD 2 0 = m2 ∧ s.getD 3 0 = m3 := by
    match s, hs with
    | a :: b :: c :: d :: t, _ => exact ⟨a, b, c, d, rfl, rfl, rfl, rfl, rfl⟩
  obtain ⟨m0, m1, m2, m3, em, e0, e1, e2, e3⟩ := hm
  unfold hdR
  rw [e0, e1, e2, e3]
  rw [em] at H0
  clear hs g0 t4 t5 t6 t8 t12 n4 n5 n6 n8 n12 l4 em e0 e1 e2 e3
  generalize s.getD 4 0 = s4 at *
  generalize s.getD 5 0 = s5 at *
  generalize num ((s.drop 6).take 2) = k6 at *
  generalize num ((s.drop 8).take 4) = k8 at *
  generalize num ((s.drop 12).take 4) = k12 at *
  unfold U8
-- READHEAD
  have q4 : True := trivial
  go_enter Tryd.func43, Tryd.ntmps43
  go_wp2_with (go_at_call 68; refine (newReader _ _).mono ?_; rintro e w2 ⟨rfl, hw2⟩; have R2 : Hid (Rd (w.heap.size + 1 + 1) (rs s) w2) := hidden (by rw [hw2]; simpa using HG.out ((w.alloc (.cells #[.int .u8 0, .int .u8 0, .int .u8 0, .int .u8 0, .int .u8 0, .int .u8 0, .int .u16 0, .int .u32 0, .int .u32 0] 62)).alloc (.cells #[.int .u8 0, .int .u8 0, .int .u8 0, .int .u8 0, .int .u8 0, .int .u8 0, .int .u16 0, .int .u32 0, .int .u32 0] 62))); have A2 := hidden (three w (.cells #[.int .u8 0, .int .u8 0, .int .u8 0, .int .u8 0, .int .u8 0, .int .u8 0, .int .u16 0, .int .u32 0, .int .u32 0] 62) (.cells #[.int .u8 0, .int .u8 0, .int .u8 0, .int .u8 0, .int .u8 0, .int .u8 0, .int .u16 0, .int .u32 0, .int .u32 0] 62) (.cells #[.string ⟨s.toArray⟩, .int .i64 0] 115)); have b1 : w2.heap[w.heap.size + 1]? = some (.cells #[.int .u8 0, .int .u8 0, .int .u8 0, .int .u8 0, .int .u8 0, .int .u8 0, .int .u16 0, .int .u32 0, .int .u32 0] 62 (0, 0)) := (by rw [hw2]; exact A2.out.2.1); have b0 : w2.heap[w.heap.size]? = some (.cells #[.int .u8 0, .int .u8 0, .int .u8 0, .int .u8 0, .int .u8 0, .int .u8 0, .int .u16 0, .int .u32 0, .int .u32 0] 62 (0, 0)) := (by rw [hw2]; exact A2.out.1); have K2 : Hid (Same w w2) := hidden (by rw [hw2]; exact A2.out.2.2); have B1 := hidden b1; have B0 := hidden b0; clear hw2 A2 b0 b1)
  go_region_law (first
    | (refine step_call rfl 69 #[.pointer (some ⟨w.heap.size + 1 + 1, 0, none⟩), .int .i64 4] (fun v W => v = .string ⟨#[m0, m1, m2, m3]⟩ ∧ Rd (w.heap.size + 1 + 1) (rs (s.drop 4)) W ∧ Kept (only (w.heap.size + 1 + 1)) w2.drew W) (by go_simp; try rfl) ((H0.out _ _ (R2.out.kept (S := fun _ => False) ((Kept.refl _ _).drew) (fun h => h))).mono (fun e w' ⟨h1, h2, h3⟩ => ⟨_, h1, rfl, h2, h3⟩)) ?_; rintro u w3 ⟨rfl, r3, k3⟩; have R3 := hidden r3; have K3 := hidden (((Kept.refl (only (w.heap.size + 1 + 1)) w2).drew).trans k3); clear r3 k3; have B1' := hidden (blk_kept K3.out (fun h => by have h : w.heap.size + 1 = w.heap.size + 1 + 1 := h; omega) B1.out); have B0' := hidden (blk_kept K3.out (fun h => by have h : w.heap.size = w.heap.size + 1 + 1 := h; omega) B0.out); obtain ⟨w4, hcp, b4, k4⟩ := copy_str [m0, m1, m2, m3] w3 (w.heap.size + 1) 0 4 4 _ _ B1'.out (by simp) (by simp); have B4 : Hid (w4.heap[w.heap.size + 1]? = some (.cells #[.int .u8 (m0.toNat : Nat), .int .u8 (m1.toNat : Nat), .int .u8 (m2.toNat : Nat), .int .u8 (m3.toNat : Nat), .int .u8 0, .int .u8 0, .int .u16 0, .int .u32 0, .int .u32 0] 62 (0, 0))) := hidden b4; have R4 := hidden (R3.out.kept k4 (fun h => by have h : w.heap.size + 1 + 1 = w.heap.size + 1 := h; omega)); have C4 := hidden (blk_kept k4 (fun h => by have h : w.heap.size = w.heap.size + 1 := h; omega) B0'.out); have K4 := hidden ((K2.out.trans' K3.out (fun i hi h => by have h : i = w.heap.size + 1 + 1 := h; omega)).trans' k4 (fun i hi h => by have h : i = w.heap.size + 1 := h; omega)); have f4 : w4.frozen? ⟨w.heap.size + 1, 4, none⟩ = false := blk_free B4.out; clear b4 k4)
    | (refine step_copy rfl _ _ _ _ rfl (.slice (some ⟨w.heap.size + 1, 0, none⟩) 4 4) (.string ⟨#[m0, m1, m2, m3]⟩) _ w4 rfl rfl hcp ?_))
  all_goals go_wp2_with (first
    | (go_at_call 70; have _t := q4; clear q4; have q5 : True := trivial; refine (H4.out _ _ R4.out).mono ?_; rintro e w5 ⟨rfl, r5, k5⟩; have R5 := hidden r5; have B5 := hidden (blk_kept k5 (fun h => by have h : w.heap.size + 1 = w.heap.size + 1 + 1 := h; omega) B4.out); have C5 := hidden (blk_kept k5 (fun h => by have h : w.heap.size = w.heap.size + 1 + 1 := h; omega) C4.out); have K5 := hidden (K4.out.trans' k5 (fun i hi h => by have h : i = w.heap.size + 1 + 1 := h; omega)); have fr5 : w5.frozen? ⟨w.heap.size + 1, 4, none⟩ = false := blk_free B5.out; have ce5 : w5.cell? ⟨w.heap.size + 1, 4, none⟩ = some (.int .u8 0) := blk_cell B5.out; clear r5 k5)
    | (go_at_call 70; have _t := q5; clear q5; have q6 : True := trivial; have bs : Hid ((w5.setCell ⟨w.heap.size + 1, 4, none⟩ (.int .u8 (s4.toNat : Nat))).heap[w.heap.size + 1]? = some (.cells #[.int .u8 (m0.toNat : Nat), .int .u8 (m1.toNat : Nat), .int .u8 (m2.toNat : Nat), .int .u8 (m3.toNat : Nat), .int .u8 (s4.toNat : Nat), .int .u8 0, .int .u16 0, .int .u32 0, .int .u32 0] 62 (0, 0))) := hidden (blk_set B5.out _); have rs' := hidden (R5.out.kept ((Kept.refl (only (w.heap.size + 1)) _).setCell (p := ⟨w.heap.size + 1, 4, none⟩) rfl (.int .u8 (s4.toNat : Nat))) (fun h => by have h : w.heap.size + 1 + 1 = w.heap.size + 1 := h; omega)); have cs' := hidden (blk_kept ((Kept.refl (only (w.heap.size + 1)) w5).setCell (p := ⟨w.heap.size + 1, 4, none⟩) rfl (.int .u8 (s4.toNat : Nat))) (fun h => by have h : w.heap.size = w.heap.size + 1 := h; omega) C5.out); have ks' := hidden (K5.out.setNew (p := ⟨w.heap.size + 1, 4, none⟩) (by show w.heap.size ≤ w.heap.size + 1; omega) (.int .u8 (s4.toNat : Nat))); refine (H5.out _ _ rs'.out).mono ?_; rintro e w6 ⟨rfl, r5, k5⟩; have R6 := hidden r5; have B6 := hidden (blk_kept k5 (fun h => by have h : w.heap.size + 1 = w.heap.size + 1 + 1 := h; omega) bs.out); have C6 := hidden (blk_kept k5 (fun h => by have h : w.heap.size = w.heap.size + 1 + 1 := h; omega) cs'.out); have K6 := hidden (ks'.out.trans' k5 (fun i hi h => by have h : i = w.heap.size + 1 + 1 := h; omega)); have fr6 : w6.frozen? ⟨w.heap.size + 1, 5, none⟩ = false := blk_free B6.out; have ce6 : w6.cell? ⟨w.heap.size + 1, 5, none⟩ = some (.int .u8 0) := blk_cell B6.out; clear r5 k5; clear bs rs' cs' ks')
    | (go_at_call 71; have _t := q6; clear q6; have q7 : True := trivial; have bs : Hid ((w6.setCell ⟨w.heap.size + 1, 5, none⟩ (.int .u8 (s5.toNat : Nat))).heap[w.heap.size + 1]? = some (.cells #[.int .u8 (m0.toNat : Nat), .int .u8 (m1.toNat : Nat), .int .u8 (m2.toNat : Nat), .int .u8 (m3.toNat : Nat), .int .u8 (s4.toNat : Nat), .int .u8 (s5.toNat : Nat), .int .u16 0, .int .u32 0, .int .u32 0] 62 (0, 0))) := hidden (blk_set B6.out _); have rs' := hidden (R6.out.kept ((Kept.refl (only (w.heap.size + 1)) _).setCell (p := ⟨w.heap.size + 1, 5, none⟩) rfl (.int .u8 (s5.toNat : Nat))) (fun h => by have h : w.heap.size + 1 + 1 = w.heap.size + 1 := h; omega)); have cs' := hidden (blk_kept ((Kept.refl (only (w.heap.size + 1)) w6).setCell (p := ⟨w.heap.size + 1, 5, none⟩) rfl (.int .u8 (s5.toNat : Nat))) (fun h => by have h : w.heap.size = w.heap.size + 1 := h; omega) C6.out); have ks' := hidden (K6.out.setNew (p := ⟨w.heap.size + 1, 5, none⟩) (by show w.heap.size ≤ w.heap.size + 1; omega) (.int .u8 (s5.toNat : Nat))); refine (H6.out _ _ rs'.out).mono ?_; rintro e w7 ⟨rfl, r5, k5⟩; have R7 := hidden r5; have B7 := hidden (blk_kept k5 (fun h => by have h : w.heap.size + 1 = w.heap.size + 1 + 1 := h; omega) bs.out); have C7 := hidden (blk_kept k5 (fun h => by have h : w.heap.size = w.heap.size + 1 + 1 := h; omega) cs'.out); have K7 := hidden (ks'.out.trans' k5 (fun i hi h => by have h : i = w.heap.size + 1 + 1 := h; omega)); have fr7 : w7.frozen? ⟨w.heap.size + 1, 6, none⟩ = false := blk_free B7.out; have ce7 : w7.cell? ⟨w.heap.size + 1, 6, none⟩ = some (.int .u16 0) := blk_cell B7.out; clear r5 k5; clear bs rs' cs' ks')
    | (go_at_call 72; have _t := q7; clear q7; have q8 : True := trivial; have bs : Hid ((w7.setCell ⟨w.heap.size + 1, 6, none⟩ (.int .u16 (k6 : Nat))).heap[w.heap.size + 1]? = some (.cells #[.int .u8 (m0.toNat : Nat), .int .u8 (m1.toNat : Nat), .int .u8 (m2.toNat : Nat), .int .u8 (m3.toNat : Nat), .int .u8 (s4.toNat : Nat), .int .u8 (s5.toNat : Nat), .int .u16 (k6 : Nat), .int .u32 0, .int .u32 0] 62 (0, 0))) := hidden (blk_set B7.out _); have rs' := hidden (R7.out.kept ((Kept.refl (only (w.heap.size + 1)) _).setCell (p := ⟨w.heap.size + 1, 6, none⟩) rfl (.int .u16 (k6 : Nat))) (fun h => by have h : w.heap.size + 1 + 1 = w.heap.size + 1 := h; omega)); have cs' := hidden (blk_kept ((Kept.refl (only (w.heap.size + 1)) w7).setCell (p := ⟨w.heap.size + 1, 6, none⟩) rfl (.int .u16 (k6 : Nat))) (fun h => by have h : w.heap.size = w.heap.size + 1 := h; omega) C7.out); have ks' := hidden (K7.out.setNew (p := ⟨w.heap.size + 1, 6, none⟩) (by show w.heap.size ≤ w.heap.size + 1; omega) (.int .u16 (k6 : Nat))); refine (H8.out _ _ rs'.out).mono ?_; rintro e w8 ⟨rfl, r5, k5⟩; have R8 := hidden r5; have B8 := hidden (blk_kept k5 (fun h => by have h : w.heap.size + 1 = w.heap.size + 1 + 1 := h; omega) bs.out); have C8 := hidden (blk_kept k5 (fun h => by have h : w.heap.size = w.heap.size + 1 + 1 := h; omega) cs'.out); have K8 := hidden (ks'.out.trans' k5 (fun i hi h => by have h : i = w.heap.size + 1 + 1 := h; omega)); have fr8 : w8.frozen? ⟨w.heap.size + 1, 7, none⟩ = false := blk_free B8.out; have ce8 : w8.cell? ⟨w.heap.size + 1, 7, none⟩ = some (.int .u32 0) := blk_cell B8.out; clear r5 k5; clear bs rs' cs' ks')
    | (go_at_call 72; have _t := q8; clear q8; have q9 : True := trivial; have bs : Hid ((w8.setCell ⟨w.heap.size + 1, 7, none⟩ (.int .u32 (k8 : Nat))).heap[w.heap.size + 1]? = some (.cells #[.int .u8 (m0.toNat : Nat), .int .u8 (m1.toNat : Nat), .int .u8 (m2.toNat : Nat), .int .u8 (m3.toNat : Nat), .int .u8 (s4.toNat : Nat), .int .u8 (s5.toNat : Nat), .int .u16 (k6 : Nat), .int .u32 (k8 : Nat), .int .u32 0] 62 (0, 0))) := hidden (blk_set B8.out _); have rs' := hidden (R8.out.kept ((Kept.refl (only (w.heap.size + 1)) _).setCell (p := ⟨w.heap.size + 1, 7, none⟩) rfl (.int .u32 (k8 : Nat))) (fun h => by have h : w.heap.size + 1 + 1 = w.heap.size + 1 := h; omega)); have cs' := hidden (blk_kept ((Kept.refl (only (w.heap.size + 1)) w8).setCell (p := ⟨w.heap.size + 1, 7, none⟩) rfl (.int .u32 (k8 : Nat))) (fun h => by have h : w.heap.size = w.heap.size + 1 := h; omega) C8.out); have ks' := hidden (K8.out.setNew (p := ⟨w.heap.size + 1, 7, none⟩) (by show w.heap.size ≤ w.heap.size + 1; omega) (.int .u32 (k8 : Nat))); refine (H12.out _ _ rs'.out).mono ?_; rintro e w9 ⟨rfl, r5, k5⟩; have R9 := hidden r5; have B9 := hidden (blk_kept k5 (fun h => by have h : w.heap.size + 1 = w.heap.size + 1 + 1 := h; omega) bs.out); have C9 := hidden (blk_kept k5 (fun h => by have h : w.heap.size = w.heap.size + 1 + 1 := h; omega) cs'.out); have K9 := hidden (ks'.out.trans' k5 (fun i hi h => by have h : i = w.heap.size + 1 + 1 := h; omega)); have fr9 : w9.frozen? ⟨w.heap.size + 1, 8, none⟩ = false := blk_free B9.out; have ce9 : w9.cell? ⟨w.heap.size + 1, 8, none⟩ = some (.int .u32 0) := blk_cell B9.out; clear r5 k5; clear bs rs' cs' ks'; have hB : Hid ((w9.setCell ⟨w.heap.size + 1, 8, none⟩ (.int .u32 (k12 : Nat))).heap[w.heap.size + 1]? = some (.cells #[.int .u8 (m0.toNat : Nat), .int .u8 (m1.toNat : Nat), .int .u8 (m2.toNat : Nat), .int .u8 (m3.toNat : Nat), .int .u8 (s4.toNat : Nat), .int .u8 (s5.toNat : Nat), .int .u16 (k6 : Nat), .int .u32 (k8 : Nat), .int .u32 (k12 : Nat)] 62 (0, 0))) := hidden (blk_set B9.out _); have hC := hidden (blk_kept ((Kept.refl (only (w.heap.size + 1)) w9).setCell (p := ⟨w.heap.size + 1, 8, none⟩) rfl (.int .u32 (k12 : Nat))) (fun h => by have h : w.heap.size = w.heap.size + 1 := h; omega) C9.out); have hK := hidden (K9.out.setNew (p := ⟨w.heap.size + 1, 8, none⟩) (by show w.heap.size ≤ w.heap.size + 1; omega) (.int .u32 (k12 : Nat))); obtain ⟨v0, v1, v2, v3, v4, v5, v6, v7, v8⟩ := cells9 hB.out; obtain ⟨z0, z1, z2, z3, z4, z5, z6, z7, z8⟩ := cells9 hC.out; obtain ⟨y0, y1, y2, y3, y4, y5, y6, y7, y8⟩ := free9 hC.out))
  generalize (w9.setCell ⟨w.heap.size + 1, 8, none⟩ (.int .u32 (k12 : Nat))) = W5 at *
  have gf := fill9 hC.out (.int .u8 (m0.toNat : Nat)) (.int .u8 (m1.toNat : Nat)) (.int .u8 (m2.toNat : Nat)) (.int .u8 (m3.toNat : Nat)) (.int .u8 (s4.toNat : Nat)) (.int .u8 (s5.toNat : Nat)) (.int .u16 (k6 : Nat)) (.int .u32 (k8 : Nat)) (.int .u32 (k12 : Nat))
  have sf := same_fill9 hK.out (g := w.heap.size) (Nat.le_refl _) (.int .u8 (m0.toNat : Nat)) (.int .u8 (m1.toNat : Nat)) (.int .u8 (m2.toNat : Nat)) (.int .u8 (m3.toNat : Nat)) (.int .u8 (s4.toNat : Nat)) (.int .u8 (s5.toNat : Nat)) (.int .u16 (k6 : Nat)) (.int .u32 (k8 : Nat)) (.int .u32 (k12 : Nat))
  generalize (World.setCell (World.setCell (World.setCell (World.setCell (World.setCell (World.setCell (World.setCell (World.setCell (World.setCell W5 ⟨w.heap.size, 0, none⟩ (.int .u8 (m0.toNat : Nat))) ⟨w.heap.size, 1, none⟩ (.int .u8 (m1.toNat : Nat))) ⟨w.heap.size, 2, none⟩ (.int .u8 (m2.toNat : Nat))) ⟨w.heap.size, 3, none⟩ (.int .u8 (m3.toNat : Nat))) ⟨w.heap.size, 4, none⟩ (.int .u8 (s4.toNat : Nat))) ⟨w.heap.size, 5, none⟩ (.int .u8 (s5.toNat : Nat))) ⟨w.heap.size, 6, none⟩ (.int .u16 (k6 : Nat))) ⟨w.heap.size, 7, none⟩ (.int .u32 (k8 : Nat))) ⟨w.heap.size, 8, none⟩ (.int .u32 (k12 : Nat))) = WF at gf sf ⊢
  obtain ⟨p0, p1, p2, p3, p4, p5, p6, p7, p8⟩ := cells9 gf
  exact bodyPost_ret (v := .agg #[.int .u8 (m0.toNat : Nat), .int .u8 (m1.toNat : Nat), .int .u8 (m2.toNat : Nat), .int .u8 (m3.toNat : Nat), .int .u8 (s4.toNat : Nat), .int .u8 (s5.toNat : Nat), .int .u16 (k6 : Nat), .int .u32 (k8 : Nat), .int .u32 (k12 : Nat)]) (by simp [results, Tryd.results43, go_sem, p0, p1, p2, p3, p4, p5, p6, p7, p8]) rfl ⟨rfl, sf⟩
end Go.Proofs.YtpjgghalnkfdkaaDoor
