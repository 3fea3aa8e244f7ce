/- The program's behind. -/
import Derived.Test.YtelngbkbdihdnaaItSo
namespace Go.Proofs.Ytelngbkbdihdnaa
open Go.RowKit
set_option linter.unusedVariables false
/-- A list from the first item on whose key is above a key. -/
def abv (k : ByteArray) (l : List Kv) : List Kv := l.dropWhile (fun p => !ltS k p.1)
def bhd : List Kv → List Kv
  | [] => []
  | p :: t => abv p.1 (p :: t)
theorem abv_at {k : ByteArray} {l : List Kv} {i : Nat} (hi : i < l.length) (h1 : ∀ j (hj : j < l.length), j < i → ltS k l[j].1 = false) (h2 : ltS k l[i].1 = true) : abv k l = l.drop i := by
  unfold abv
  induction l generalizing i with
  | nil => simp at hi
  | cons p t ih =>
    cases i with
    | zero =>
      rw [List.dropWhile_cons_of_neg (by simpa using h2)]
      rfl
    | succ i =>
      rw [List.dropWhile_cons_of_pos (by have := h1 0 (by simp) (by omega); simpa using this)]
      rw [List.drop_succ_cons]
      exact ih (by simpa using hi) (fun j hj hji => by have := h1 (j + 1) (by simp; omega) (by omega); simpa using this) (by simpa using h2)
theorem abv_none {k : ByteArray} {l : List Kv} (h1 : ∀ j (hj : j < l.length), ltS k l[j].1 = false) : abv k l = [] := by
  unfold abv
  induction l with
  | nil => rfl
  | cons p t ih =>
    rw [List.dropWhile_cons_of_pos (by have := h1 0 (by simp); simpa using this)]
    exact ih (fun j hj => by have := h1 (j + 1) (by simp; omega); simpa using this)
theorem bhd_eq {l : List Kv} (h : 0 < l.length) : bhd l = abv l[0].1 l := by
  cases l with
  | nil => simp at h
  | cons p t => rfl
set_option maxRecDepth 100000 in
theorem Itc.drop {w : World} {a : Option Addr} {n c i : Nat} {l : List Kv} (h : Itc w (.slice a n c) l) (hi : i < l.length) : ∃ p, (∀ W, (Instr.sliceAt 58 (.slice a n c) (some (.int .i64 (i : Int))) none none).run Try.prog W = .ok (.slice p (n - i) (c - i)) W) ∧ Itc w (.slice p (n - i) (c - i)) (l.drop i) ∧ ∀ b, (Value.slice p (n - i) (c - i)).ownBlock = some b → (Value.slice a n c).ownBlock = some b := by
  obtain ⟨a', c', e, hc, hb⟩ := h
  simp only [Value.slice.injEq] at e
  obtain ⟨rfl, rfl, rfl⟩ := e
  obtain ⟨b, off, rfl, hce⟩ := hb (by omega)
  obtain ⟨i0, hi0, hz0, hz1, hz2⟩ := info_parts infoItemS
  have hel : Try.prog.elem 58 = 54 := by kernel_rfl
  refine ⟨some ⟨b, off + i * 2, none⟩, fun W => ?_, ⟨some ⟨b, off + i * 2, none⟩, c - i, by rw [List.length_drop], by rw [List.length_drop]; omega, fun hp => ⟨b, off + i * 2, rfl, fun j hj => ?_⟩⟩, fun b' h => h⟩
  · rw [run_sliceAt_slice (h := Try.underlying58), run_slice_l (ht := Try.underlying58) (h0 := by omega) (h1 := by omega)]
    have hne : ¬ c = i := by omega
    simp [sizeOf, typeInfo, hel, hi0, hz1, sliced, hne, add_none]
  · simp at hj
    have := hce (i + j) (by omega)
    rw [List.getElem_drop, show off + i * 2 + j * 2 = off + (i + j) * 2 by omega]
    exact this
set_option maxHeartbeats 1000000 in
set_option maxRecDepth 100000 in
theorem behind_any {l : List Kv} {v : Value} {w : World} (h : Itc w v l) (hl : (l.length + 1) * 24 ≤ 140737488355328) (hp : 0 < l.length) :
    Calls Try.prog 64 #[v] w fun e w' => ∃ u, e = .returned u ∧ Itc w' u (bhd l) ∧ Same w w' ∧ (∀ b, u.ownBlock = some b → v.ownBlock = some b) := by
  have HR : Hid (∀ W, Same w W → Itc W v l) := fun W kk => h.same kk
  obtain ⟨a0, c0, rfl, hc0, hb⟩ := h
  obtain ⟨b, off, rfl, hce⟩ := hb hp
  have HCE : Hid (∀ W, Same w W → ∀ j (hj : j < l.length), W.cell? ⟨b, off + j * 2, none⟩ = some (.string l[j].1) ∧ W.cell? ⟨b, off + j * 2 + 1, none⟩ = some (.int .i64 l[j].2)) := fun W kk j hj => ⟨Kept.cell kk (fun h => h) (hce j hj).1, Kept.cell kk (fun h => h) (hce j hj).2⟩
  have HBE := hidden (bhd_eq hp)
  obtain ⟨⟨k0, z0⟩, h00⟩ : ∃ e, l[0] = e := ⟨_, rfl⟩
  have HC0 : Hid (∀ W, Same w W → W.cell? ⟨b, off, none⟩ = some (.string k0)) := fun W kk => by have := (HCE.out W kk 0 hp).1; rw [h00] at this; simpa using this
  rw [h00] at HBE
  have HDR : Hid (∀ i, i < l.length → ∃ p, (∀ W, (Instr.sliceAt 58 (.slice (some ⟨b, off, none⟩) l.length c0) (some (.int .i64 (i : Int))) none none).run Try.prog W = .ok (.slice p (l.length - i) (c0 - i)) W) ∧ (∀ W, Same w W → Itc W (.slice p (l.length - i) (c0 - i)) (l.drop i)) ∧ ∀ b', (Value.slice p (l.length - i) (c0 - i)).ownBlock = some b' → b' = b) := fun i hi => by
    obtain ⟨p, h1, h2, h3⟩ := (HR.out w (Kept.refl _ _)).drop hi
    exact ⟨p, h1, fun W kk => h2.same kk, fun b' hb' => by have := h3 b' hb'; simpa [Value.ownBlock] using this.symm⟩
  obtain ⟨n, hn⟩ : ∃ n, l.length = n := ⟨_, rfl⟩
  have HN := hidden hn
  rw [hn] at hl hc0 HDR hp ⊢
  clear hb hn hce h00
  go_enter Try.func64, Try.ntmps64
  go_wp2
  go_loopw [7] (fun iv wr => ∃ (i : Nat), i ≤ n ∧ iv = .int .i64 i ∧ (∀ j (hj : j < l.length), j < i → ltS k0 l[j].1 = false) ∧ Same w wr) (fun iv wr => n - (intOf iv).toNat)
  case atStart => exact ⟨0, Nat.zero_le _, rfl, fun j hj h => by omega, Kept.refl _ _⟩
  case round =>
    obtain ⟨i, hi, rfl, hS, hK⟩ := hrel
    have HS := hidden hS
    have HK := hidden hK
    clear hK hS
    by_cases h1 : i < n
    · have hil : i < l.length := by rw [HN.out]; exact h1
      obtain ⟨y0, y1⟩ := HCE.out wr HK.out i hil
      obtain ⟨⟨k, z⟩, hay⟩ : ∃ e, l[i] = e := ⟨_, rfl⟩
      rw [hay] at y0 y1
      have HAY := hidden hay
      have q1 : (i : Int) < (n : Int) := by omega
      have q0 : (0 : Int) ≤ (i : Int) := Int.natCast_nonneg _
      have q2 : (0 : Int) < (n : Int) := by omega
      obtain ⟨p, S1, hIt, hob⟩ := HDR.out i h1
      have HIT := hidden hIt
      have HOB := hidden hob
      have d2 := HC0.out _ (HK.out.alloc (.cells #[.string k, .int .i64 z] 54))
      have HL := hidden (fun W => less_str k0 k W)
      clear hay hIt hob
      generalize hlt : ltS k0 k = bo at HL
      cases bo
      · go_wp2
        go_quiet ((go_at_call 46; exact Calls.quiet_of_same ((HL.out _).mono fun _ _ ⟨a, b⟩ => ⟨a, b.symm⟩)))
        go_wp2
        go_roundw
        case rel =>
          refine ⟨i + 1, by omega, by go_num, fun j hj hji => ?_, (HK.out.alloc _).trans ((Kept.refl _ _).drewN _)⟩
          by_cases e : j = i
          · subst e; rw [HAY.out]; exact hlt
          · exact HS.out j hj (by omega)
        case measure => simp [intOf]; omega
      · go_wp2
        go_quiet ((go_at_call 46; exact Calls.quiet_of_same ((HL.out _).mono fun _ _ ⟨a, b⟩ => ⟨a, b.symm⟩)))
        go_wp2
        go_returns
        refine ⟨_, rfl, ?_, (HK.out.alloc _).trans ((Kept.refl _ _).drewN _), fun b' hb' => by rw [HOB.out b' hb']; rfl⟩
        rw [HBE.out, abv_at hil HS.out (by rw [HAY.out]; exact hlt)]
        exact HIT.out _ ((HK.out.alloc _).trans ((Kept.refl _ _).drewN _))
    · obtain rfl : i = n := by omega
      have q1 : ¬ (i : Int) < (i : Int) := by omega
      go_wp2
      go_returns
      refine ⟨_, rfl, ?_, HK.out, fun b h => by cases h⟩
      rw [HBE.out, abv_none (fun j hj => HS.out j hj (by rw [HN.out] at hj; exact hj))]
      exact Itc.nil _
end Go.Proofs.Ytelngbkbdihdnaa
