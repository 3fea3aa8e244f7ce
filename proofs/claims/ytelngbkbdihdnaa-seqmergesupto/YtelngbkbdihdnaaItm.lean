/- A slice of the document's items: Find. -/
import Derived.Test.YtelngbkbdihdnaaM16
import Derived.Test.YtelngbkbdihdnaaRnd
import Derived.Test.YtelngbkbdihdnaaQS
namespace Go.Proofs.Ytelngbkbdihdnaa
open Go.RowKit
set_option linter.unusedVariables false
def Its (w : World) (v : Value) (l : List Kv) : Prop :=
  ∃ a cap, v = .slice a l.length cap ∧ (0 < l.length → ∃ b off, a = some ⟨b, off, none⟩ ∧ ∀ j (hj : j < l.length), w.cell? ⟨b, off + j * 2, none⟩ = some (.string l[j].1) ∧ w.cell? ⟨b, off + j * 2 + 1, none⟩ = some (.int .i64 l[j].2))
theorem Its.same {w w' : World} {v : Value} {l : List Kv} (h : Its w v l) (k : Same w w') : Its w' v l := by
  obtain ⟨a, cap, e, h⟩ := h
  refine ⟨a, cap, e, fun hp => ?_⟩
  obtain ⟨b, off, e2, hc⟩ := h hp
  exact ⟨b, off, e2, fun j hj => ⟨Kept.cell k (fun h => h) (hc j hj).1, Kept.cell k (fun h => h) (hc j hj).2⟩⟩
theorem find_pure {l : List Kv} {k : ByteArray} (hs : Srt l) {i : Nat} (hi : i < l.length) (h1 : ∀ j (hj : j < l.length), j < i → ltS l[j].1 k = true) (h2 : ltS l[i].1 k = false) : rkL k l = i ∧ (lk k l).isSome = (l[i].1.toList == k.toList) := by
  obtain ⟨⟨a, y⟩, ha⟩ : ∃ e, l[i] = e := ⟨_, rfl⟩
  have hq : l[i]? = some (a, y) := by rw [List.getElem?_eq_getElem hi, ha]
  rw [ha] at h2 ⊢
  obtain ⟨p, q, rfl, hp⟩ := split_at hq
  obtain ⟨_, _, h3, h4, _⟩ := srt_split hs
  have hp1 : ∀ b ∈ p, ltS b.1 k = true := fun b hb => by
    obtain ⟨j, hj, e⟩ := List.getElem_of_mem hb
    have := h1 j (by simp; omega) (by omega)
    rw [List.getElem_append_left hj, e] at this
    exact this
  constructor
  · rw [rk_ge hs h2]
    unfold rkL
    rw [List.filter_eq_self.2 hp1]
    exact hp
  · by_cases e : a = k
    · subst e
      rw [lk_at hs hq]
      simp
    · have h5 : ltS k a = true := by
        cases h : ltS k a
        · exact absurd (bytes_ext (ltS_eq h2 h)) e
        · rfl
      have hne : (a.toList == k.toList) = false := by
        rw [beq_eq_false_iff_ne]
        exact fun x => e (bytes_ext x)
      show _ = (a.toList == k.toList)
      rw [hne]
      unfold lk
      rw [lk_none (fun b hb => by
        rcases List.mem_append.1 hb with hb | hb
        · exact eqK_lt (hp1 b hb)
        · rcases List.mem_cons.1 hb with rfl | hb
          · exact eqK_gt h5
          · exact eqK_gt (ordS.lt_lt h5 (h4 b hb)))]
      rfl
theorem find_pure_end {l : List Kv} {k : ByteArray} (h1 : ∀ j (hj : j < l.length), ltS l[j].1 k = true) : rkL k l = l.length ∧ (lk k l).isSome = false := by
  have hp1 : ∀ b ∈ l, ltS b.1 k = true := fun b hb => by
    obtain ⟨j, hj, e⟩ := List.getElem_of_mem hb
    rw [← e]
    exact h1 j hj
  constructor
  · unfold rkL
    rw [List.filter_eq_self.2 hp1]
  · unfold lk
    rw [lk_none (fun b hb => eqK_lt (hp1 b hb))]
    rfl
set_option maxHeartbeats 2000000 in
set_option maxRecDepth 100000 in
theorem findD_any (k : ByteArray) {l : List Kv} {v : Value} {w : World} (h : Its w v l) (hs : Srt l) (hl : l.length ≤ 562949953421312) :
    Calls Try.prog 40 #[v, .string k] w fun e w' => e = .returned (.tuple #[.int .i64 (rkL k l), .bool (lk k l).isSome]) ∧ Same w w' := by
  have HI : Hid (∀ W, Same w W → Its W v l) := fun W kk => h.same kk
  obtain ⟨a0, c0, rfl, _⟩ := h
  have HST := hidden hs
  obtain ⟨n, hn⟩ : ∃ n, l.length = n := ⟨_, rfl⟩
  have HN := hidden hn
  rw [hn] at hl ⊢
  clear hn hs
  go_enter Try.func40, Try.ntmps40
  go_wp2
  go_loopw [10] (fun iv wr => ∃ i : Nat, iv = .int .i64 i ∧ i ≤ n ∧ (∀ j (hj : j < l.length), j < i → ltS l[j].1 k = true) ∧ Same w wr) (fun iv wr => n - (intOf iv).toNat)
  case atStart => exact ⟨0, rfl, Nat.zero_le _, fun j _ h => by omega, Kept.refl _ _⟩
  case round =>
    obtain ⟨i, rfl, hi, hp, hk⟩ := hrel
    have HP := hidden hp
    have HK := hidden hk
    clear hp hk
    by_cases h1 : i < n
    · have hil : i < l.length := by rw [HN.out]; exact h1
      obtain ⟨a1, c1, e1, hc⟩ := HI.out wr HK.out
      obtain ⟨b, off, rfl, hce⟩ := hc (by omega)
      obtain ⟨y0, y1⟩ := hce i hil
      obtain ⟨rfl, _⟩ : a0 = some ⟨b, off, none⟩ ∧ True := ⟨by rw [HN.out] at e1; simp at e1; exact e1.1, trivial⟩
      obtain ⟨⟨a, y⟩, hay⟩ : ∃ e, l[i] = e := ⟨_, rfl⟩
      rw [hay] at y0 y1
      have q1 : (i : Int) < (n : Int) := by omega
      have q0 : (0 : Int) ≤ (i : Int) := Int.natCast_nonneg _
      have HAY := hidden hay
      clear hce hc e1 hay
      cases hlt : ltS a k
      · have HF := hidden (find_pure HST.out hil HP.out (by rw [HAY.out]; exact hlt))
        have e1 : Op.bytesLess a.toList k.toList = false := by rw [bytesLess_eq]; exact hlt
        have d0 : ∀ (o : Obj), o = .cells #[.string a, .int .i64 y] 70 → (wr.alloc o).cell? ⟨wr.heap.size, 0, none⟩ = some (.string a) := fun o ho => by rw [ho]; exact blk_cell (heap_alloc_new wr _)
        go_wp2
        go_quiet (fail)
        go_wp2
        go_returns
        have hF := HF.out
        rw [HAY.out] at hF
        exact ⟨by rw [hF.1, hF.2]; rfl, (HK.out.trans (same_alloc wr _)).trans ((Kept.refl _ _).drewN _)⟩
      · have e1 : Op.bytesLess a.toList k.toList = true := by rw [bytesLess_eq]; exact hlt
        go_wp2
        refine ⟨⟨i + 1, by go_num, by omega, fun j hj hji => ?_, HK.out.trans (same_alloc wr _)⟩, by simp [intOf]; omega⟩
        by_cases e : j = i
        · subst e; rw [HAY.out]; exact hlt
        · exact HP.out j hj (by omega)
    · obtain rfl : i = n := by omega
      have q1 : ¬ (i : Int) < (i : Int) := by omega
      have HF := hidden (find_pure_end (k := k) (l := l) (fun j hj => HP.out j hj (by rw [HN.out] at hj; exact hj)))
      go_wp2
      go_returns
      have hF := HF.out
      exact ⟨by rw [hF.1, hF.2, HN.out]; rfl, HK.out⟩
end Go.Proofs.Ytelngbkbdihdnaa
