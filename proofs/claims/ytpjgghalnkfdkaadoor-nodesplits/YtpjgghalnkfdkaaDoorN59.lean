/- A node as a parameter, opened (N23 with another import). -/
import Derived.Test.YtpjgghalnkfdkaaDoorN17
import Derived.Test.YtpjgghalnkfdkaaDoorCTab
import Derived.Deep.Slices
import Derived.Deep.Strs
import Derived.Carry
import Derived.Lib.SmallJoins
namespace Go.Proofs.YtpjgghalnkfdkaaDoor
open Go.ChangeShapes Go.WideShapes Go.ChangeAt Go.RowKit Go.Joins Go.ChangeMaps
set_option linter.unusedVariables false
set_option linter.unusedSimpArgs false
theorem cellsS1 : Tryd.prog.cellsOf 9 = 1 := by kernel_rfl
theorem cellsIn : Tryd.prog.cellsOf 3 = 1 := by kernel_rfl
theorem bytesS16 : Tryd.prog.bytesOf 9 = 16 := by kernel_rfl
theorem bytesI8 : Tryd.prog.bytesOf 3 = 8 := by kernel_rfl
theorem row_of {W : World} {a : Addr} {xs : List Value} {cap : Nat} (hc : xs.length ≤ cap) (h : ∀ j x, xs[j]? = some x → W.cell? (a.add j) = some x) : Row W (.slice (some a) xs.length cap) xs := by
  refine ⟨some a, cap, rfl, hc, (fun e => by cases e), fun hp => ?_⟩
  obtain ⟨b, off, spot⟩ := a
  have h0 := h 0 _ (List.getElem?_eq_getElem hp)
  have hspot : spot = none := by simpa [Addr.add] using World.cell?_spot h0
  subst hspot
  exact ⟨b, off, rfl, fun j x hj => by have := h j x hj; rwa [add_none] at this⟩
theorem strs_row {H : Type} {enc : TypeId × Value → H} {W : World} {fuel : Nat} {c0 : Value} {x : DataW H × List MemPlace} (hf : DataW.trod enc Tryd.prog W 0 (fun _ => true) true fuel 22 [c0] = some x) :
    ∃ (l : List ByteArray) (a : Option Addr) (c : Nat), c0 = .slice a l.length c ∧ Row W (.slice a l.length c) (TS l) ∧ ∀ b, (∀ q ∈ DataW.weights Tryd.prog 22 x.1, q ≤ b) → l.length * 16 ≤ b := by
  rcases Go.Deep.open_strs Tryd.underlying22 Tryd.underlying9 cellsS1 hf with ⟨hcs, hx⟩ | ⟨a, len, cap, m, Sx, hcs, _, hl, hm, hmm, hx, hcell⟩
  · have hc : c0 = .slice none 0 0 := by simpa using hcs
    subst hc
    exact ⟨[], none, 0, rfl, Row.nil _, fun b _ => by simp⟩
  · have hc : c0 = .slice (some a) len cap := by simpa using hcs
    subst hc
    simp only [if_pos] at hmm
    have hlen : ((List.range len).map Sx).length = len := by simp
    refine ⟨(List.range len).map Sx, some a, cap, by rw [hlen], ?_, fun b hb => ?_⟩
    · have := row_of (W := W) (a := a) (xs := TS ((List.range len).map Sx)) (cap := cap) (by rw [TS_len, hlen]; exact hl) (fun j x hj => by
        have hj1 : j < len := by have := (List.getElem?_eq_some_iff.1 hj).1; rw [TS_len, hlen] at this; exact this
        rw [(hcell j (by omega)).1]
        rw [TS_at _ (by rw [hlen]; exact hj1)] at hj
        simp at hj
        rw [hj])
      rw [TS_len] at this
      exact this
    · have := hb ((len + (m - len)) * 16) (by rw [hx]; simp [DataW.weights, Tryd.underlying22, bytesS16])
      rw [hlen]
      omega
theorem ints_row {H : Type} {enc : TypeId × Value → H} {W : World} {fuel : Nat} {c0 : Value} {x : DataW H × List MemPlace} (hf : DataW.trod enc Tryd.prog W 0 (fun _ => true) true fuel 23 [c0] = some x) :
    ∃ (l : List Int) (a : Option Addr) (c : Nat), c0 = .slice a l.length c ∧ Row W (.slice a l.length c) (IS l) ∧ ∀ b, (∀ q ∈ DataW.weights Tryd.prog 23 x.1, q ≤ b) → l.length * 8 ≤ b := by
  rcases open_ints Tryd.underlying23 Tryd.underlying3 cellsIn hf with ⟨hcs, hx⟩ | ⟨a, len, cap, zs, hcs, _, hl, hm, hmm, hx, hcell, _⟩
  · have hc : c0 = .slice none 0 0 := by simpa using hcs
    subst hc
    exact ⟨[], none, 0, rfl, Row.nil _, fun b _ => by simp⟩
  · have hc : c0 = .slice (some a) len cap := by simpa using hcs
    subst hc
    simp only [if_pos] at hmm
    have hlen : (zs.take len).length = len := by rw [List.length_take]; omega
    refine ⟨zs.take len, some a, cap, by rw [hlen], ?_, fun b hb => ?_⟩
    · have := row_of (W := W) (a := a) (xs := IS (zs.take len)) (cap := cap) (by rw [IS_len, hlen]; exact hl) (fun j x hj => by
        have hj1 : j < len := by have := (List.getElem?_eq_some_iff.1 hj).1; rw [IS_len, hlen] at this; exact this
        rw [hcell j (by omega)]
        rw [IS_at _ (by rw [hlen]; exact hj1)] at hj
        simp at hj
        rw [← hj]
        have : j < zs.length := by omega
        simp [this])
      rw [IS_len] at this
      exact this
    · have := hb (((lits (H := H) .i64 (zs.take len)).length + (lits (H := H) .i64 (zs.drop len)).length) * 8) (by rw [hx]; simp [DataW.weights, Tryd.underlying23, bytesI8])
      rw [hlen]
      simp only [lits, List.length_map, List.length_take, List.length_drop] at this
      omega
set_option maxRecDepth 100000 in
theorem node_open {H : Type} {enc : TypeId × Value → H} {W : World} {base : Nat} {v : Value} {d : DataW H} {p : List MemPlace} (hv : Value.okWide Tryd.prog W .any base 25 v) (h : DataW.Trod enc Tryd.prog W 0 (fun _ => true) true 25 v d p)
    (ts : List TypeId) (ds : List (DataW H)) (j : Nat) (hall : (DataW.weightsEach Tryd.prog ts ds).all (· ≤ reachBytes) = true) (hts : ts[j]? = some 25) (hds : ds[j]? = some d) :
    ∃ (n : Nd) (a1 a2 a3 : Option Addr) (k1 c1 k2 c2 k3 c3 : Nat), v = .agg #[.bool n.leaf, .slice a1 k1 c1, .slice a2 k2 c2, .slice a3 k3 c3] ∧ Row W (.slice a1 k1 c1) (TS n.keys) ∧ Row W (.slice a2 k2 c2) (TS n.vals) ∧ Row W (.slice a3 k3 c3) (IS n.kids) ∧ n.keys.length ≤ 8796093021952 ∧ n.vals.length ≤ 8796093021952 ∧ n.kids.length ≤ 17592186043904 := by
  obtain ⟨v0, v1, v2, v3, y0, y1, y2, y3, fu, rfl, rfl, hp, t0, t1, t2, t3⟩ := open_agg4 Tryd.underlying25 (by kernel_rfl) (by kernel_rfl) hv h
  obtain ⟨b, e0, _⟩ := DataW.trod_bool Tryd.underlying4 t0
  obtain ⟨ks, a1, c1, rfl, r1, w1⟩ := strs_row t1
  obtain ⟨vs, a2, c2, rfl, r2, w2⟩ := strs_row t2
  obtain ⟨is, a3, c3, rfl, r3, w3⟩ := ints_row t3
  have hq : ∀ q, q ∈ DataW.weights Tryd.prog 25 (.agg [y0.1, y1.1, y2.1, y3.1]) → q ≤ reachBytes := fun q hq => by
    have := List.all_eq_true.1 hall q (DataW.weights_mem_each hts hds q hq)
    simpa using this
  have hv0 : v0 = .bool b := by simpa using e0
  subst hv0
  refine ⟨⟨b, ks, vs, is⟩, a1, a2, a3, ks.length, c1, vs.length, c2, is.length, c3, rfl, r1, r2, r3, ?_, ?_, ?_⟩
  · have := w1 reachBytes (fun q h => hq q (by simp [DataW.weights, DataW.weightsEach, Tryd.underlying25, h]))
    unfold reachBytes at this
    show ks.length ≤ _
    omega
  · have := w2 reachBytes (fun q h => hq q (by simp [DataW.weights, DataW.weightsEach, Tryd.underlying25, h]))
    unfold reachBytes at this
    show vs.length ≤ _
    omega
  · have := w3 reachBytes (fun q h => hq q (by simp [DataW.weights, DataW.weightsEach, Tryd.underlying25, h]))
    unfold reachBytes at this
    show is.length ≤ _
    omega
end Go.Proofs.YtpjgghalnkfdkaaDoor
