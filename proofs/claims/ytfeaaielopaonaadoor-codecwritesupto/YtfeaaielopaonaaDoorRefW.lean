/- The document's Varint and Text, and the law's 'bytes', walked. -/
import Derived.Test.YtfeaaielopaonaaDoorBackQ
import Derived.Test.YtfeaaielopaonaaDoorNumR
namespace Go.Proofs.YtfeaaielopaonaaDoor
open Go.RowKit
set_option linter.unusedVariables false

theorem byte_add (m : Nat) : Value.int .u8 ((m : Int) % 128 + 128) = U8 (UInt8.ofNat (m % 128 + 128)) := by
  unfold U8
  rw [UInt8.toNat_ofNat']
  congr 1
  omega
set_option maxHeartbeats 1000000 in
set_option maxRecDepth 100000 in
theorem refVarint (n : Nat) (w : World) (hn : n < 18446744073709551616) :
    Calls Tryd.prog 23 #[.int .u64 n] w fun e w' => e = .returned (.string ⟨(vbytes n).toArray⟩) ∧ Same w w' := by
  obtain ⟨i0, hi, hz0, hz1, hz2⟩ := info_parts info5
  have hv10 := hidden (vb10 n hn)
  go_enter Tryd.func23, Tryd.ntmps23
  go_wp2
  go_loopw [0, 3] (fun i l wr => ∃ (f m : Nat) (L : List UInt8), i = .int .u64 m ∧ m < 128 ^ (f + 1) ∧ m < 18446744073709551616 ∧ L ++ vb f m = vbytes n ∧ Bts w.heap.size l L wr ∧ Same w wr) (fun i _ _ => (intOf i).toNat)
  case atStart => exact ⟨9, n, [], rfl, Nat.lt_of_lt_of_le hn (by decide), hn, rfl, Bts.nil _ _, Kept.refl _ _⟩
  case round =>
    obtain ⟨f, m, L, rfl, hf, hm, hL, hb, hw⟩ := hrel
    have hlen : L.length + 1 ≤ 140737488355328 := by
      have h1 := congrArg List.length hL
      have h2 := vb_pos f m
      have h3 := hv10.out
      simp only [List.length_append] at h1
      omega
    have hm1 : Hid (L.length + 1 ≤ maxLen) := by rw [Hid]; unfold maxLen; omega
    have hm2 : Hid ((L.length + 1) * 1 ≤ 140737488355328) := by rw [Hid]; omega
    have hbase : Hid (∀ o, w.heap.size ≤ (wr.alloc o).heap.size) := fun o => by have := hw.size; simp; omega
    have HL := hidden hL
    have HF := hidden hf
    clear hL hf
    by_cases h128 : 128 ≤ m
    · go_wp2_with (at_builtin; refine wpList_append_lies _ (by rfl) (.tmp 6) (.tmp 11) 36 (by rfl) w.heap.size 5 i0 (.int .u8 0) 1 1 Tryd.underlying36 hi hz0 hz1 hz2 rfl (by decide) _ _ _ (by rfl) (hb.alloc _) ⟨wr.heap.size, 0, none⟩ 1 1 _ (by rfl) rfl (World.news_of_block (heap_alloc_new wr _)) (fun x hx => by simp at hx; subst hx; rfl) (by decide) hm1.out hm2.out (hbase.out _) (wr.heap.size + 1) (by simp) ?_; intro g' cap' w4 hown' hgrow hat hlt')
      obtain ⟨n4, K4⟩ := bts_grow (b := UInt8.ofNat (m % 128 + 128)) hb hw (Nat.le_refl _) hgrow (byte_add m) hown'
      clear hown' hgrow hat hb hw
      go_wp2
      obtain ⟨f', rfl, e1, e2⟩ := vb_round f m h128 HF.out
      go_roundw
      case rel => exact ⟨f', m / 128, _, by go_num, e2, by omega, by rw [← HL.out, e1]; simp, n4, K4⟩
      case measure => simp [intOf]; omega
    · go_wp2_with (at_builtin; refine wpList_append_lies _ (by rfl) (.tmp 15) (.tmp 18) 36 (by rfl) w.heap.size 5 i0 (.int .u8 0) 1 1 Tryd.underlying36 hi hz0 hz1 hz2 rfl (by decide) _ _ _ (by rfl) (hb.alloc _) ⟨wr.heap.size, 0, none⟩ 1 1 _ (by rfl) rfl (World.news_of_block (heap_alloc_new wr _)) (fun x hx => by simp at hx; subst hx; rfl) (by decide) hm1.out hm2.out (hbase.out _) (wr.heap.size + 1) (by simp) ?_; intro g' cap' w4 hown' hgrow hat hlt'; obtain ⟨n4, K4⟩ := bts_grow (b := UInt8.ofNat m) hb hw (Nat.le_refl _) hgrow (by first | exact byte_wrap m | (rw [← byte_wrap m, IntKind.wrap_u8']; congr 1; omega)) hown'; rw [show L ++ [UInt8.ofNat m] = vbytes n by rw [← HL.out, vb_small f m (by omega)]] at n4; have hcv := own_string n4)
      go_returns
      exact ⟨rfl, K4⟩
set_option maxHeartbeats 400000 in
set_option maxRecDepth 100000 in
theorem refText (S : ByteArray) (w : World) (hS : S.size ≤ 140737488351232) :
    Calls Tryd.prog 24 #[.string S] w fun e w' => e = .returned (.string ⟨(vbytes S.size ++ S.data.toList).toArray⟩) ∧ Same w w' := by
  have hv := refVarint S.size w (by omega)
  have hv10 := vb10 S.size (by omega)
  have hw : IntKind.u64.wrap (S.size : Int) = (S.size : Int) := by rw [IntKind.wrap_u64]; omega
  have hz : (⟨(vbytes S.size).toArray⟩ : ByteArray).size = (vbytes S.size).length := by rw [← size_list]
  have ha : (⟨(vbytes S.size).toArray⟩ ++ S : ByteArray) = ⟨(vbytes S.size ++ S.data.toList).toArray⟩ := by
    apply ByteArray.ext
    apply Array.ext'
    simp
  have hadd : ∀ W : World, (Op.stringOp .add ⟨(vbytes S.size).toArray⟩ S).run Tryd.prog W = .ok (.string (⟨(vbytes S.size).toArray⟩ ++ S)) W := fun W => run_string_add_sum W _ S (by rw [hz]; omega)
  rw [ha] at hadd
  generalize (⟨(vbytes S.size ++ S.data.toList).toArray⟩ : ByteArray) = R at *
  generalize (⟨(vbytes S.size).toArray⟩ : ByteArray) = T at *
  have HV := hidden hv
  clear hv ha hz hv10
  go_enter Tryd.func24, Tryd.ntmps24
  go_wp2_with (go_at_call 23; refine HV.out.mono ?_; rintro e w1 ⟨rfl, k1⟩)
  go_returns
  exact ⟨rfl, k1⟩
theorem be_mod (s n m : Nat) (h : ∀ i, i < s → UInt8.ofNat (n / 2 ^ (8 * (s - 1 - i))) = UInt8.ofNat (m / 2 ^ (8 * (s - 1 - i)))) : be s n = be s m := by
  unfold be
  exact List.map_congr_left fun i hi => h i (List.mem_range.1 hi)
theorem ofNat_eq {a b : Nat} (h : a % 256 = b % 256) : UInt8.ofNat a = UInt8.ofNat b := by
  apply UInt8.toNat_inj.1
  rw [UInt8.toNat_ofNat', UInt8.toNat_ofNat']
  exact h
theorem be_1 (n : Nat) : be 1 n = be 1 (n % 256) := be_mod 1 _ _ fun i hi => ofNat_eq (by
  obtain rfl : i = 0 := by omega
  simp)
theorem be_2 (n : Nat) : be 2 n = be 2 (n % 65536) := be_mod 2 _ _ fun i hi => ofNat_eq (by
  have : i = 0 ∨ i = 1 := by omega
  rcases this with rfl | rfl <;> simp <;> omega)
theorem be_4 (n : Nat) : be 4 n = be 4 (n % 4294967296) := be_mod 4 _ _ fun i hi => ofNat_eq (by
  have : i = 0 ∨ i = 1 ∨ i = 2 ∨ i = 3 := by omega
  rcases this with rfl | rfl | rfl | rfl <;> simp <;> omega)
set_option maxHeartbeats 1000000 in
set_option maxRecDepth 100000 in
theorem bytes_any (kind : Int) (N : Nat) (S : ByteArray) (w : World) (hN : N < 18446744073709551616) (hS : S.size ≤ 140737488351232) :
    Calls Tryd.prog 7 #[.agg #[.int .i64 kind, .int .u64 N, .string S]] w fun e w' => e = .returned (.string ⟨(opB kind N S).toArray⟩) ∧ Same w w' := by
  have n1 := fun w => refNumber N 1 w hN (by decide)
  have n2 := fun w => refNumber N 2 w hN (by decide)
  have n4 := fun w => refNumber N 4 w hN (by decide)
  have n8 := fun w => refNumber N 8 w hN (by decide)
  have hv := fun w => refVarint N w hN
  have ht := fun w => refText S w hS
  rw [be_1] at n1
  rw [be_2] at n2
  rw [be_4] at n4
  have hSS : (⟨S.data.toList.toArray⟩ : ByteArray) = S := by simp
  by_cases hk : kind < 0 ∨ 6 < kind
  · have e0 : opB kind N S = [] := by
      unfold opB
      rw [if_neg (by omega), if_neg (by omega), if_neg (by omega), if_neg (by omega), if_neg (by omega), if_neg (by omega), if_neg (by omega)]
    rw [e0]
    have q0 : (kind == 0) = false := by simp; omega
    have q1 : (kind == 1) = false := by simp; omega
    have q2 : (kind == 2) = false := by simp; omega
    have q3 : (kind == 3) = false := by simp; omega
    have q4 : (kind == 4) = false := by simp; omega
    have q5 : (kind == 5) = false := by simp; omega
    have q6 : (kind == 6) = false := by simp; omega
    clear n1 n2 n4 n8 hv ht hk hN hSS e0
    go_enter Tryd.func7, Tryd.ntmps7
    go_wp2
    go_returns
    exact ⟨rfl, (Kept.refl _ _).alloc _⟩
  · have hc : kind = 0 ∨ kind = 1 ∨ kind = 2 ∨ kind = 3 ∨ kind = 4 ∨ kind = 5 ∨ kind = 6 := by omega
    have E0 : opB 0 N S = be 1 (N % 256) := by simp [opB]
    have E1 : opB 1 N S = be 2 (N % 65536) := by simp [opB]
    have E2 : opB 2 N S = be 4 (N % 4294967296) := by simp [opB]
    have E3 : opB 3 N S = be 8 N := by simp [opB]
    have E4 : opB 4 N S = vbytes N := by simp [opB]
    have E5 : opB 5 N S = vbytes S.size ++ S.data.toList := by simp [opB]
    have E6 : opB 6 N S = S.data.toList := by simp [opB]
    rcases hc with rfl | rfl | rfl | rfl | rfl | rfl | rfl
    · rw [E0]
      generalize (⟨(be 1 (N % 256)).toArray⟩ : ByteArray) = T at n1 ⊢
      have H := hidden n1
      clear n1 n2 n4 n8 hv ht hN hSS E0 E1 E2 E3 E4 E5 E6 hk
      go_enter Tryd.func7, Tryd.ntmps7
      go_wp2_with (go_at_call 22; refine (H.out _).mono ?_; rintro e w1 ⟨rfl, k1⟩)
      go_returns
      exact ⟨rfl, Kept.trans ((Kept.refl _ _).alloc _) k1⟩
    · rw [E1]
      generalize (⟨(be 2 (N % 65536)).toArray⟩ : ByteArray) = T at n2 ⊢
      have H := hidden n2
      clear n1 n2 n4 n8 hv ht hN hSS E0 E1 E2 E3 E4 E5 E6 hk
      go_enter Tryd.func7, Tryd.ntmps7
      go_wp2_with (go_at_call 22; refine (H.out _).mono ?_; rintro e w1 ⟨rfl, k1⟩)
      go_returns
      exact ⟨rfl, Kept.trans ((Kept.refl _ _).alloc _) k1⟩
    · rw [E2]
      generalize (⟨(be 4 (N % 4294967296)).toArray⟩ : ByteArray) = T at n4 ⊢
      have H := hidden n4
      clear n1 n2 n4 n8 hv ht hN hSS E0 E1 E2 E3 E4 E5 E6 hk
      go_enter Tryd.func7, Tryd.ntmps7
      go_wp2_with (go_at_call 22; refine (H.out _).mono ?_; rintro e w1 ⟨rfl, k1⟩)
      go_returns
      exact ⟨rfl, Kept.trans ((Kept.refl _ _).alloc _) k1⟩
    · rw [E3]
      generalize (⟨(be 8 N).toArray⟩ : ByteArray) = T at n8 ⊢
      have H := hidden n8
      clear n1 n2 n4 n8 hv ht hN hSS E0 E1 E2 E3 E4 E5 E6 hk
      go_enter Tryd.func7, Tryd.ntmps7
      go_wp2_with (go_at_call 22; refine (H.out _).mono ?_; rintro e w1 ⟨rfl, k1⟩)
      go_returns
      exact ⟨rfl, Kept.trans ((Kept.refl _ _).alloc _) k1⟩
    · rw [E4]
      generalize (⟨(vbytes N).toArray⟩ : ByteArray) = T at hv ⊢
      have H := hidden hv
      clear n1 n2 n4 n8 hv ht hN hSS E0 E1 E2 E3 E4 E5 E6 hk
      go_enter Tryd.func7, Tryd.ntmps7
      go_wp2_with (go_at_call 23; refine (H.out _).mono ?_; rintro e w1 ⟨rfl, k1⟩)
      go_returns
      exact ⟨rfl, Kept.trans ((Kept.refl _ _).alloc _) k1⟩
    · rw [E5]
      generalize (⟨(vbytes S.size ++ S.data.toList).toArray⟩ : ByteArray) = T at ht ⊢
      have H := hidden ht
      clear n1 n2 n4 n8 hv ht hN hSS E0 E1 E2 E3 E4 E5 E6 hk
      go_enter Tryd.func7, Tryd.ntmps7
      go_wp2_with (go_at_call 24; refine (H.out _).mono ?_; rintro e w1 ⟨rfl, k1⟩)
      go_returns
      exact ⟨rfl, Kept.trans ((Kept.refl _ _).alloc _) k1⟩
    · rw [E6, hSS]
      clear n1 n2 n4 n8 hv ht hN hSS E0 E1 E2 E3 E4 E5 E6 hk
      go_enter Tryd.func7, Tryd.ntmps7
      go_wp2
      go_returns
      exact ⟨rfl, (Kept.refl _ _).alloc _⟩
/-- What a Writer holds behind a step, and what the law says it holds. -/
def lop (most : Int) (st : List UInt8 × Bool) (b : List UInt8) : List UInt8 × Bool :=
  if st.2 = true then st else if ((b.length : Int) > most - st.1.length ∧ b.length > 0) then ([], true) else (st.1 ++ b, false)
end Go.Proofs.YtfeaaielopaonaaDoor
