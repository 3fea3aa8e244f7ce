/- script: a result among a law's arguments, opened (the bounded form). -/
import Derived.Test.YtndfgpelioipcaaDoorScO
import Derived.Test.YtndfgpelioipcaaDoorSc21
import Derived.Deep.Slices
import Derived.Deep.Strs
import Derived.Carry
namespace Go.Proofs.YtndfgpelioipcaaDoor
open Go.ChangeShapes Go.WideShapes Go.ChangeAt Go.RowKit Go.Joins Go.ChangeMaps
set_option linter.unusedVariables false
set_option linter.unusedSimpArgs false
theorem arr9 {cs : Array Value} (h : cs.size = 9) : ∃ c0 c1 c2 c3 c4 c5 c6 c7 c8, cs = #[c0, c1, c2, c3, c4, c5, c6, c7, c8] := by
  obtain ⟨l⟩ := cs
  match l, h with
  | [c0, c1, c2, c3, c4, c5, c6, c7, c8], _ => exact ⟨c0, c1, c2, c3, c4, c5, c6, c7, c8, rfl⟩
theorem cellsRes9 : Tryd.prog.cellsOf 39 = 9 := by kernel_rfl
theorem cellsStat4 : Tryd.prog.cellsOf 36 = 4 := by kernel_rfl
theorem cellsErr1 : Tryd.prog.cellsOf 29 = 1 := by kernel_rfl
theorem cellsBool1 : Tryd.prog.cellsOf 4 = 1 := by kernel_rfl
theorem cellsSl1 : Tryd.prog.cellsOf 37 = 1 := by kernel_rfl
theorem row_of {W : World} {a : Addr} {xs : List Value} {cap : Nat} (hc : xs.length ≤ cap) (h : ∀ j x, xs[j]? = some x → W.cell? (a.add j) = some x) : Row W (.slice (some a) xs.length cap) xs := by
  refine ⟨some a, cap, rfl, hc, (fun e => by cases e), fun hp => ?_⟩
  obtain ⟨b, off, spot⟩ := a
  have h0 := h 0 _ (List.getElem?_eq_getElem hp)
  have hspot : spot = none := by simpa [Addr.add] using World.cell?_spot h0
  subst hspot
  exact ⟨b, off, rfl, fun j x hj => by have := h j x hj; rwa [add_none] at this⟩
theorem bulk_texts {H : Type} : ∀ (l : List ByteArray), wsum (l.map (·.data.toList)) ≤ Rows.uptoBulkAll (H := H) (l.map fun s => .lit (.string s.data.toList))
  | [] => Nat.zero_le _
  | s :: l => by
    have h2 := bulk_texts (H := H) l
    have h3 : Rows.uptoBulk (H := H) (.lit (.string s.data.toList)) = s.data.toList.length + 1 := by rw [Rows.uptoBulk]
    simp only [wsum, List.map_cons, List.sum_cons, Rows.uptoBulkAll, h3] at *
    omega
theorem strs_rowU {H : Type} {enc : TypeId × Value → H} {W : World} {fuel : Nat} {c0 : Value} {x : DataW H × List MemPlace} (hf : DataW.trod enc Tryd.prog W 0 (fun _ => true) true fuel 37 [c0] = some x) :
    ∃ (l : List (List UInt8)) (a : Option Addr) (c : Nat), c0 = .slice a l.length c ∧ Row W (.slice a l.length c) (TS (l.map BA)) ∧ wsum l ≤ Rows.uptoBulk x.1 := by
  rcases Go.Deep.open_strs Tryd.underlying37 Tryd.underlying9 cellsS1 hf with ⟨hcs, hx⟩ | ⟨a, len, cap, m, Sx, hcs, _, hl, hm, hmm, hx, hcell⟩
  · have hc : c0 = .slice none 0 0 := by simpa using hcs
    subst hc
    exact ⟨[], none, 0, rfl, Row.nil _, by simp [wsum]⟩
  · have hc : c0 = .slice (some a) len cap := by simpa using hcs
    subst hc
    simp only [if_pos] at hmm
    have hlen : ((List.range len).map Sx).length = len := by simp
    have hmap : (((List.range len).map Sx).map (·.data.toList)).map BA = (List.range len).map Sx := by
      rw [List.map_map]
      conv => rhs; rw [← List.map_id ((List.range len).map Sx)]
      exact List.map_congr_left fun x _ => BA_of x
    refine ⟨((List.range len).map Sx).map (·.data.toList), some a, cap, by rw [List.length_map, hlen], ?_, ?_⟩
    · rw [hmap, List.length_map, hlen]
      have := row_of (W := W) (a := a) (xs := TS ((List.range len).map Sx)) (cap := cap) (by rw [TS_len, hlen]; exact hl) (fun j x hj => by
        have hj1 : j < len := by have := (List.getElem?_eq_some_iff.1 hj).1; rw [TS_len, hlen] at this; exact this
        rw [(hcell j (by omega)).1]
        unfold TS at hj
        simpa [hj1] using hj)
      rw [TS_len, hlen] at this
      exact this
    · have hd := congrArg Prod.fst hx
      simp only at hd
      rw [hd]
      have := bulk_texts (H := H) ((List.range len).map Sx)
      simp only [Rows.uptoBulk, List.map_map, Function.comp_def] at this ⊢
      omega
set_option maxRecDepth 100000 in
theorem res_openU {H : Type} {enc : TypeId × Value → H} {W : World} {base : Nat} {v : Value} {d : DataW H} {p : List MemPlace} (hv : Value.okWide Tryd.prog W .any base 39 v) (h : DataW.Trod enc Tryd.prog W 0 (fun _ => true) true 39 v d p) :
    ∃ (r : ResR) (a : Option Addr) (n c : Nat), v = .agg (r.cs a n c) ∧ Row W (.slice a n c) (TS (r.na.map BA)) ∧ (I64 r.er ∧ I64 r.hd ∧ I64 r.nn ∧ I64 r.sn ∧ I64 r.ss ∧ I64 r.sl) ∧ r.da.length + wsum r.na ≤ Rows.uptoBulk d := by
  obtain ⟨cs, rfl, hsz⟩ := okWide_struct Tryd.underlying39 hv
  obtain ⟨c0, c1, c2, c3, c4, c5, c6, c7, c8, rfl⟩ := arr9 (hsz.trans cellsRes9)
  obtain ⟨fuel, hf0⟩ := h
  obtain ⟨xs, n, _, hx, _, hlen, hf⟩ := DataW.trod_struct Tryd.underlying39 hf0
  match xs, hlen with
  | [y0, y1, y2, y3, y4, y5], _ =>
    simp only [Prod.mk.injEq, List.map_cons, List.map_nil] at hx
    obtain ⟨rfl, _⟩ := hx
    have h0 : DataW.trod enc Tryd.prog W 0 (fun _ => true) true n 29 (List.take (Tryd.prog.cellsOf 29) (List.drop 0 [c0, c1, c2, c3, c4, c5, c6, c7, c8])) = some y0 := hf 0 _ rfl
    rw [cellsErr1] at h0
    obtain ⟨a0, q0, r0, w0⟩ := DataW.trod_int Tryd.underlying29 h0
    have h1 : DataW.trod enc Tryd.prog W 0 (fun _ => true) true n 3 (List.take (Tryd.prog.cellsOf 3) (List.drop 1 [c0, c1, c2, c3, c4, c5, c6, c7, c8])) = some y1 := hf 1 _ rfl
    rw [cellsI8] at h1
    obtain ⟨a1, q1, r1, w1⟩ := DataW.trod_int Tryd.underlying3 h1
    have h2 : DataW.trod enc Tryd.prog W 0 (fun _ => true) true n 3 (List.take (Tryd.prog.cellsOf 3) (List.drop 2 [c0, c1, c2, c3, c4, c5, c6, c7, c8])) = some y2 := hf 2 _ rfl
    rw [cellsI8] at h2
    obtain ⟨a2, q2, r2, w2⟩ := DataW.trod_int Tryd.underlying3 h2
    have h3 : DataW.trod enc Tryd.prog W 0 (fun _ => true) true n 9 (List.take (Tryd.prog.cellsOf 9) (List.drop 3 [c0, c1, c2, c3, c4, c5, c6, c7, c8])) = some y3 := hf 3 _ rfl
    rw [cellsS1] at h3
    obtain ⟨a3, q3, r3, w3⟩ := DataW.trod_string Tryd.underlying9 h3
    have h4 : DataW.trod enc Tryd.prog W 0 (fun _ => true) true n 36 (List.take (Tryd.prog.cellsOf 36) (List.drop 4 [c0, c1, c2, c3, c4, c5, c6, c7, c8])) = some y4 := hf 4 _ rfl
    rw [cellsStat4] at h4
    have h5 : DataW.trod enc Tryd.prog W 0 (fun _ => true) true n 37 (List.take (Tryd.prog.cellsOf 37) (List.drop 8 [c0, c1, c2, c3, c4, c5, c6, c7, c8])) = some y5 := hf 5 _ rfl
    rw [cellsSl1] at h5
    obtain ⟨l, a5, k5, e5, rw5, bk5⟩ := strs_rowU (show DataW.trod enc Tryd.prog W 0 (fun _ => true) true n 37 [c8] = some y5 from h5)
    obtain ⟨zs, m, _, hz, _, hzl, hg⟩ := DataW.trod_struct Tryd.underlying36 (show DataW.trod enc Tryd.prog W 0 (fun _ => true) true n 36 [c4, c5, c6, c7] = some y4 from h4)
    match zs, hzl with
    | [z0, z1, z2, z3], _ =>
      have g0 : DataW.trod enc Tryd.prog W 0 (fun _ => true) true m 3 (List.take (Tryd.prog.cellsOf 3) (List.drop 0 [c4, c5, c6, c7])) = some z0 := hg 0 _ rfl
      rw [cellsI8] at g0
      obtain ⟨b0, s0, t0, v0⟩ := DataW.trod_int Tryd.underlying3 g0
      have g1 : DataW.trod enc Tryd.prog W 0 (fun _ => true) true m 4 (List.take (Tryd.prog.cellsOf 4) (List.drop 1 [c4, c5, c6, c7])) = some z1 := hg 1 _ rfl
      rw [cellsBool1] at g1
      obtain ⟨b1, s1, t1⟩ := DataW.trod_bool Tryd.underlying4 g1
      have g2 : DataW.trod enc Tryd.prog W 0 (fun _ => true) true m 3 (List.take (Tryd.prog.cellsOf 3) (List.drop 2 [c4, c5, c6, c7])) = some z2 := hg 2 _ rfl
      rw [cellsI8] at g2
      obtain ⟨b2, s2, t2, v2⟩ := DataW.trod_int Tryd.underlying3 g2
      have g3 : DataW.trod enc Tryd.prog W 0 (fun _ => true) true m 3 (List.take (Tryd.prog.cellsOf 3) (List.drop 3 [c4, c5, c6, c7])) = some z3 := hg 3 _ rfl
      rw [cellsI8] at g3
      obtain ⟨b3, s3, t3, v3⟩ := DataW.trod_int Tryd.underlying3 g3
      simp at q0 q1 q2 q3 s0 s1 s2 s3
      subst q0 q1 q2 q3 s0 s1 s2 s3
      refine ⟨⟨a0, a1, a2, a3.data.toList, b0, b1, b2, b3, l⟩, a5, l.length, k5, by unfold ResR.cs; simp only [BA_of, e5], rw5, ⟨i64_of w0, i64_of w1, i64_of w2, i64_of v0, i64_of v2, i64_of v3⟩, ?_⟩
      simp only [r0, r1, r2, r3, Rows.uptoBulk, Rows.uptoBulkAll]
      omega
end Go.Proofs.YtndfgpelioipcaaDoor
