/- journal: whether a sector is right: the document's right and the program's usedOf, walked. -/
import Derived.Test.YtljbmpnpbjnbkaaDoorJR2
import Derived.Test.YtljbmpnpbjnbkaaDoorRd3
namespace Go.Proofs.YtljbmpnpbjnbkaaDoor
open Go.RowKit
set_option linter.unusedVariables false
set_option linter.unusedSimpArgs false
def usedJ (b : List UInt8) : Nat := num ((b.take 20).drop 16)
def roomJ (b : List UInt8) : List UInt8 := (b.take (24 + usedJ b)).drop 24
/-- The bytes of records that a sector has, if it is right as a place of a generation. -/
def rtJ (n gen place : Nat) (b : List UInt8) : Option (List UInt8) := if usedJ b ≤ n - 24 ∧ b = jsec n gen place (roomJ b) then some (roomJ b) else none
theorem usedJ_lt (b : List UInt8) : usedJ b < 4294967296 := by
  have h := num_lt ((b.take 20).drop 16)
  have hl : ((b.take 20).drop 16).length ≤ 4 := by simp; omega
  exact Nat.lt_of_lt_of_le h (Nat.pow_le_pow_right (n := 256) (by decide) hl)
theorem roomJ_len {n : Nat} {b : List UInt8} (hl : b.length = n) (h : usedJ b ≤ n - 24) (h1 : 24 ≤ n) : (roomJ b).length = usedJ b := by simp [roomJ]; omega
set_option maxRecDepth 100000 in
theorem Bt.subS {w : World} {ad : Addr} {n cap : Nat} {l : List UInt8} (h : Bt w (.slice (some ad) n cap) l) {i j : Nat} (hij : i ≤ j) (hj : j ≤ n) (x y : Int) (hx : x = (i : Int)) (hy : y = (j : Int)) :
    ∃ p, (∀ W, (Instr.sliceAt 39 (.slice (some ad) n cap) (some (.int .i64 x)) (some (.int .i64 y)) none).run Tryd.prog W = .ok (.slice (some p) (j - i) (cap - i)) W) ∧ ∀ W, Same w W → Bt W (.slice (some p) (j - i) (cap - i)) ((l.take j).drop i) := by
  have e2 := h.len.2
  have e1 := h.len.1
  subst hx hy
  have hp : ∃ p, (if cap = i then some ad else (some ad).map (·.add (i * 1))) = some p := by split <;> exact ⟨_, rfl⟩
  obtain ⟨p, hp⟩ := hp
  refine ⟨p, fun W => ?_, fun W k => by have := h.part hij hj W k; rw [hp] at this; exact this⟩
  rw [← hp, run_sliceAt_slice (h := Tryd.underlying39), run_slice_lh (ht := Tryd.underlying39) (h0 := by omega) (h1 := by omega) (h2 := by omega), size_byte]
  simp [sliced]
set_option maxHeartbeats 1000000 in
set_option maxRecDepth 100000 in
theorem rightD_any (n gen place : Nat) (ad : Addr) (cap : Nat) (b : List UInt8) (w : World) (hb : Bt w (.slice (some ad) n cap) b) (h1 : 512 ≤ n) (h2 : n ≤ 4096) (hg : gen < 18446744073709551616) (hp : place < 4294967296) :
    Calls Tryd.prog 44 #[.int .i64 n, .int .u64 gen, .int .i64 place, .slice (some ad) n cap] w fun e w' => (∃ u, e = .returned (.tuple #[u, .bool (rtJ n gen place b).isSome]) ∧ ∀ r, rtJ n gen place b = some r → Bt w' u r) ∧ Same w w' := by
  have hl : b.length = n := hb.len.1.symm
  obtain ⟨p1, r1, t1⟩ := hb.subS (i := 16) (j := 20) (by decide) (by omega) 16 20 rfl rfl
  have hnu := hidden (fun W k => number_any (.slice (some p1) (20 - 16) (cap - 16)) ((b.take 20).drop 16) W (t1 W k) (by simp; omega))
  have hU := usedJ_lt b
  have HU := hidden (show num ((b.take 20).drop 16) = usedJ b from rfl)
  rw [HU.out] at hnu
  have a1 : IntKind.u64.wrap ((n : Int) - 24) = (n : Int) - 24 := by rw [IntKind.wrap_u64]; omega
  clear t1
  by_cases g1 : usedJ b ≤ n - 24
  · have hrl := roomJ_len hl g1 (by omega)
    obtain ⟨p2, r2, t2⟩ := hb.subS (i := 24) (j := 24 + usedJ b) (by omega) (by omega) 24 (24 + (usedJ b : Int)) rfl (by omega)
    have HT := hidden (fun W k => t2 W k)
    have hrm : (b.take (24 + usedJ b)).drop 24 = roomJ b := rfl
    rw [hrm, Nat.add_sub_cancel_left] at HT
    rw [Nat.add_sub_cancel_left] at r2
    have HBy := hidden (fun W (k : Same w W) => bytesD_any n gen place p2 (cap - 24) (roomJ b) W (by rw [hrl]; exact HT.out W k) h1 h2 hg hp (by rw [hrl]; omega))
    rw [hrl] at HBy
    have hjl := jsec_len n gen place (roomJ b) (by rw [hrl]; omega)
    have HEq := hidden (show (rtJ n gen place b).isSome = decide (b = jsec n gen place (roomJ b)) by
      unfold rtJ
      by_cases h : b = jsec n gen place (roomJ b)
      · rw [if_pos ⟨g1, h⟩, decide_eq_true h]; rfl
      · rw [if_neg (fun x => h x.2), decide_eq_false h]; rfl)
    have HSo := hidden (show ∀ r, rtJ n gen place b = some r → r = roomJ b by
      intro r h
      unfold rtJ at h
      split at h
      · exact (Option.some.inj h).symm
      · cases h)
    have HSm := hidden (fun x y W hx hy => sameR_any x y b (jsec n gen place (roomJ b)) W hx hy (by omega) (by omega))
    have HB := hidden hb
    rw [HEq.out]
    generalize decide (b = jsec n gen place (roomJ b)) = D at *
    have q1 : ¬ ((n : Int) - 24 < (usedJ b : Int)) := by omega
    have a2 : IntKind.i64.wrap (usedJ b : Int) = (usedJ b : Int) := by rw [IntKind.wrap_i64]; omega
    clear hrm hjl g1 t2 hrl hb hl
    generalize usedJ b = U at *
    go_enter Tryd.func44, Tryd.ntmps44
    go_wp2_with (first
      | (go_at_call 45; refine (hnu.out _ (Kept.refl _ _)).mono ?_; rintro e w1 ⟨rfl, rfl⟩)
      | (go_at_call 26; refine (HBy.out _ (Kept.refl _ _)).mono ?_; rintro e w2 ⟨u2, rfl, b2, k2⟩; have B2 := hidden b2; have K2 := hidden k2; clear b2 k2)
      | (go_at_call 59; refine (HSm.out _ _ _ (HB.out.same K2.out) B2.out).mono ?_; rintro e w3 ⟨rfl, k3⟩; have K3 := hidden (K2.out.trans k3); clear k3))
    go_returns
    exact ⟨⟨_, rfl, fun r hr => by rw [HSo.out r hr]; exact HT.out _ K3.out⟩, K3.out⟩
  · have q1 : (n : Int) - 24 < (usedJ b : Int) := by omega
    have HEq := hidden (show rtJ n gen place b = none by unfold rtJ; rw [if_neg (fun x => g1 x.1)])
    rw [HEq.out]
    clear hb hl g1
    generalize usedJ b = U at *
    go_enter Tryd.func44, Tryd.ntmps44
    go_wp2_with (first
      | (go_at_call 45; refine (hnu.out _ (Kept.refl _ _)).mono ?_; rintro e w1 ⟨rfl, rfl⟩))
    go_returns
    exact ⟨⟨_, rfl, fun r hr => by cases hr⟩, Kept.refl _ _⟩
end Go.Proofs.YtljbmpnpbjnbkaaDoor
