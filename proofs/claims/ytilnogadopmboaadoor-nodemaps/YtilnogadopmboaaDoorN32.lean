/- node: NodeMaps' frame, and its drawn regions that append. (Made by mkn32.py.) -/
import Derived.Test.YtilnogadopmboaaDoorN29
/- A slice of deduplaw09's steps among a law's arguments: opened. -/
namespace Go.Proofs.YtilnogadopmboaaDoor
open Go.ChangeShapes Go.WideShapes Go.ChangeAt Go.RowKit Go.Joins Go.ChangeMaps
set_option linter.unusedVariables false
/-- A step. -/
structure Op9 where
  key : ByteArray
  val : ByteArray
  gone : Bool
instance : Inhabited Op9 := ⟨⟨ByteArray.empty, ByteArray.empty, false⟩⟩
def MOps (w : World) (v : Value) (n : Nat) (f : Nat → Op9) : Prop :=
  ∃ a cap, v = .slice a n cap ∧ (0 < n → ∃ b off, a = some ⟨b, off, none⟩ ∧ ∀ i, i < n → w.cell? ⟨b, off + i * 3, none⟩ = some (.string (f i).key) ∧ w.cell? ⟨b, off + i * 3 + 1, none⟩ = some (.string (f i).val) ∧ w.cell? ⟨b, off + i * 3 + 2, none⟩ = some (.bool (f i).gone))
theorem cellsOp9 : Tryd.prog.cellsOf 53 = 3 := by kernel_rfl
theorem bytesOp9 : Tryd.prog.bytesOf 53 = 40 := by kernel_rfl
theorem cellsS1n : Tryd.prog.cellsOf 9 = 1 := by kernel_rfl
theorem cellsB1n : Tryd.prog.cellsOf 4 = 1 := by kernel_rfl
theorem madd_plain (b off j : Nat) : (⟨b, off, none⟩ : Addr).add j = ⟨b, off + j, none⟩ := by simp [Addr.add]
theorem mop_trod {H : Type} {enc : TypeId × Value → H} {W : World} {held : Bool} {fuel : Nat} {c0 c1 c2 : Value} {x : DataW H × List MemPlace} (h : DataW.trod enc Tryd.prog W 0 (fun _ => true) held fuel 53 [c0, c1, c2] = some x) :
    ∃ p : Op9, c0 = .string p.key ∧ c1 = .string p.val ∧ c2 = .bool p.gone := by
  obtain ⟨xs, n, _, hx, _, hlen, hf⟩ := DataW.trod_struct Tryd.underlying53 h
  have hl : xs.length = 3 := hlen
  match xs, hl with
  | [x0, x1, x2], _ =>
    have h0 : DataW.trod enc Tryd.prog W 0 (fun _ => true) held n 9 (List.take (Tryd.prog.cellsOf 9) (List.drop 0 [c0, c1, c2])) = some x0 := hf 0 _ rfl
    have h1 : DataW.trod enc Tryd.prog W 0 (fun _ => true) held n 9 (List.take (Tryd.prog.cellsOf 9) (List.drop 1 [c0, c1, c2])) = some x1 := hf 1 _ rfl
    have h2 : DataW.trod enc Tryd.prog W 0 (fun _ => true) held n 4 (List.take (Tryd.prog.cellsOf 4) (List.drop 2 [c0, c1, c2])) = some x2 := hf 2 _ rfl
    rw [cellsS1n] at h0 h1
    rw [cellsB1n] at h2
    obtain ⟨k, q0, _, _⟩ := DataW.trod_string Tryd.underlying9 h0
    obtain ⟨s, q1, _, _⟩ := DataW.trod_string Tryd.underlying9 h1
    obtain ⟨g, q2, _⟩ := DataW.trod_bool Tryd.underlying4 h2
    simp at q0 q1 q2
    exact ⟨⟨k, s, g⟩, q0, q1, q2⟩
set_option maxRecDepth 100000 in
theorem mops_open {H : Type} {enc : TypeId × Value → H} {W : World} {base : Nat} {v : Value} {d : DataW H} {p : List MemPlace} (hv : Value.okWide Tryd.prog W .any base 51 v) (h : DataW.Trod enc Tryd.prog W 0 (fun _ => true) true 51 v d p)
    (ts : List TypeId) (ds : List (DataW H)) (j : Nat) (hall : (DataW.weightsEach Tryd.prog ts ds).all (· ≤ reachBytes) = true) (hts : ts[j]? = some 51) (hds : ds[j]? = some d) :
    ∃ (n : Nat) (f : Nat → Op9), MOps W v n f ∧ n * 40 ≤ 140737488351232 := by
  obtain ⟨a1, len1, cap1, rfl⟩ := okWide_slice Tryd.underlying51 hv
  obtain ⟨fuel, hf⟩ := h
  rcases DataW.trod_slice Tryd.underlying51 hf with ⟨hcs, hx⟩ | ⟨a, len, cap, elems, rest, n, _, hcs, hx, _, hl, hm, he, hel, _, _⟩
  · simp [Value.cells] at hcs
    obtain ⟨rfl, rfl, rfl⟩ := hcs
    exact ⟨0, fun _ => default, ⟨none, 0, rfl, fun h => by omega⟩, by omega⟩
  · simp [Value.cells] at hcs
    obtain ⟨rfl, rfl, rfl⟩ := hcs
    rw [cellsOp9] at hel
    have hd : d = .slice (elems.map (·.1)) (rest.map (·.1)) := congrArg Prod.fst hx
    rw [hd] at hds
    have key : ∀ i, i < len1 → ∃ q : Op9, W.cell? (a.add (i * 3)) = some (.string q.key) ∧ W.cell? ((a.add (i * 3)).add 1) = some (.string q.val) ∧ W.cell? ((a.add (i * 3)).add 2) = some (.bool q.gone) := by
      intro i hi
      have h1 := hel i hi
      have h2 : elems[i]? = some elems[i] := List.getElem?_eq_getElem (by omega)
      rw [h2] at h1
      obtain ⟨cs, hc, ht⟩ := Option.bind_eq_some_iff.1 h1
      obtain ⟨_, hcl, hcc⟩ := World.cells?_some hc
      match cs, hcl with
      | [c0, c1, c2], _ =>
        obtain ⟨q, rfl, rfl, rfl⟩ := mop_trod ht
        have z0 := hcc 0 (by decide)
        exact ⟨q, by simpa [Addr.add] using z0, hcc 1 (by decide), hcc 2 (by decide)⟩
    obtain ⟨f, hfk⟩ := Go.Deep.choose_lt key
    refine ⟨len1, f, ⟨some a, cap1, rfl, fun hpos => ?_⟩, ?_⟩
    · obtain ⟨b, off, spot⟩ := a
      have hspot : spot = none := by
        obtain ⟨h0, _⟩ := hfk 0 hpos
        simpa [Addr.add] using World.cell?_spot h0
      subst hspot
      refine ⟨b, off, rfl, fun i hi => ?_⟩
      obtain ⟨h0, h1, h2⟩ := hfk i hi
      rw [madd_plain] at h0 h1 h2
      rw [madd_plain] at h1 h2
      exact ⟨h0, h1, h2⟩
    · have := sized_slice hall (j := j) hts hds Tryd.underlying51
      rw [bytesOp9] at this
      simp only [List.length_map, reachBytes] at this
      omega
end Go.Proofs.YtilnogadopmboaaDoor
namespace Go.Proofs.YtilnogadopmboaaDoor
open Go.RowKit
set_option linter.unusedVariables false
set_option linter.unusedSimpArgs false
/-- The frame of NodeMaps: its variables, and whatever else. -/
def mpS (v0 v1 v2 v3 v4 v5 v6 v7 v8 v9 v10 v11 v12 v13 v14 v15 : Value) (j : Nat → Value) : Act := { tmps := #[v0, v1, v2, v3, v4, v5, v6, v7, v8, v9, v10, v11, v12, v13, v14, v15, j 16, j 17, j 18, j 19, j 20, j 21, j 22, j 23, j 24, j 25, j 26, j 27, j 28, j 29, j 30, j 31, j 32, j 33, j 34, j 35, j 36, j 37, j 38, j 39, j 40, j 41, j 42, j 43, j 44, j 45, j 46, j 47, j 48, j 49, j 50, j 51, j 52, j 53, j 54, j 55, j 56, j 57, j 58, j 59, j 60, j 61, j 62, j 63, j 64, j 65, j 66, j 67, j 68, j 69, j 70, j 71, j 72, j 73, j 74, j 75, j 76, j 77, j 78, j 79, j 80, j 81, j 82, j 83, j 84, j 85, j 86, j 87, j 88, j 89, j 90, j 91, j 92, j 93, j 94, j 95, j 96, j 97, j 98, j 99, j 100, j 101, j 102, j 103, j 104, j 105, j 106, j 107, j 108, j 109, j 110, j 111, j 112, j 113, j 114, j 115, j 116, j 117, j 118, j 119, j 120, j 121, j 122, j 123, j 124, j 125, j 126, j 127, j 128, j 129, j 130, j 131, j 132, j 133, j 134, j 135, j 136, j 137, j 138, j 139, j 140, j 141, j 142, j 143, j 144, j 145, j 146, j 147, j 148, j 149, j 150, j 151, j 152, j 153, j 154, j 155, j 156, j 157, j 158, j 159, j 160, j 161, j 162, j 163, j 164, j 165, j 166, j 167, j 168, j 169, j 170, j 171, j 172, j 173, j 174, j 175, j 176, j 177, j 178, j 179, j 180, j 181, j 182, j 183, j 184, j 185, j 186, j 187, j 188, j 189, j 190, j 191, j 192, j 193, j 194, j 195, j 196, j 197, j 198], defers := [] }
theorem to_mp {P : Program} {Q : Exit → Act → World → Prop} {c : Code} {A : Act} {W : World} (v0 v1 v2 v3 v4 v5 v6 v7 v8 v9 v10 v11 v12 v13 v14 v15 : Value) (hA : A = mpS v0 v1 v2 v3 v4 v5 v6 v7 v8 v9 v10 v11 v12 v13 v14 v15 (fun k => A.tmps.getD k undef)) (h : ∀ j, c.wp P Q (mpS v0 v1 v2 v3 v4 v5 v6 v7 v8 v9 v10 v11 v12 v13 v14 v15 j) W) : c.wp P Q A W := by
  rw [hA]
  exact h _
theorem to_mpK {K : Act → World → Prop} {A : Act} {W : World} {v0 v1 v2 v3 v4 v5 v6 v7 v8 v9 v10 v11 v12 v13 v14 v15 : Value} (hA : A = mpS v0 v1 v2 v3 v4 v5 v6 v7 v8 v9 v10 v11 v12 v13 v14 v15 (fun k => A.tmps.getD k undef)) (h : ∀ j, K (mpS v0 v1 v2 v3 v4 v5 v6 v7 v8 v9 v10 v11 v12 v13 v14 v15 j) W) : K A W := by
  rw [hA]
  exact h _
/-- A region of a piece of code, by its number. -/
def findR (n : Nat) : Code → Option (Array Oper)
  | .region id ops _ => if id = n then some ops else none
  | .seq x y => (findR n x).orElse (fun _ => findR n y)
  | .cond _ x y => (findR n x).orElse (fun _ => findR n y)
  | .block _ c => findR n c
  | .loop c => findR n c
  | _ => none
def ovr (j : Nat → Value) (lo m : Nat) (x : Nat → Value) : Nat → Value := fun k => if lo ≤ k ∧ k < lo + m then x (k - lo) else j k
def er17F (v0 v1 v2 v3 v4 v5 v6 v7 v8 v9 v10 v11 v12 v13 v14 v15 : Value) (j x : Nat → Value) : Act := { tmps := #[v0, v1, v2, v3, v4, v5, v6, v7, v8, v9, v10, v11, v12, v13, v14, v15, j 16, j 17, j 18, j 19, j 20, j 21, j 22, j 23, j 24, j 25, j 26, j 27, j 28, j 29, j 30, j 31, j 32, j 33, j 34, j 35, j 36, j 37, j 38, j 39, j 40, j 41, j 42, j 43, j 44, j 45, j 46, j 47, j 48, j 49, j 50, j 51, j 52, j 53, j 54, j 55, j 56, j 57, j 58, j 59, j 60, j 61, j 62, j 63, j 64, j 65, j 66, j 67, j 68, j 69, j 70, j 71, j 72, j 73, j 74, x 0, x 1, x 2, x 3, x 4, x 5, x 6, x 7, x 8, x 9, j 85, j 86, j 87, j 88, j 89, j 90, j 91, j 92, j 93, j 94, j 95, j 96, j 97, j 98, j 99, j 100, j 101, j 102, j 103, j 104, j 105, j 106, j 107, j 108, j 109, j 110, j 111, j 112, j 113, j 114, j 115, j 116, j 117, j 118, j 119, j 120, j 121, j 122, j 123, j 124, j 125, j 126, j 127, j 128, j 129, j 130, j 131, j 132, j 133, j 134, j 135, j 136, j 137, j 138, j 139, j 140, j 141, j 142, j 143, j 144, j 145, j 146, j 147, j 148, j 149, j 150, j 151, j 152, j 153, j 154, j 155, j 156, j 157, j 158, j 159, j 160, j 161, j 162, j 163, j 164, j 165, j 166, j 167, j 168, j 169, j 170, j 171, j 172, j 173, j 174, j 175, j 176, j 177, j 178, j 179, j 180, j 181, j 182, j 183, j 184, j 185, j 186, j 187, j 188, j 189, j 190, j 191, j 192, j 193, j 194, j 195, j 196, j 197, j 198], defers := [] }
/-- How far 'append(append([]string{}, l[:p]...), l[p+1:]...)' is. -/
structure ErI (B : Nat) (src ph pt : Value) (p k : Nat) (l : List ByteArray) (d : Nat → Bool) (xs : Nat → Value) (W : World) : Prop where
  v1 : d 1 = true → xs 1 = src
  v2 : d 2 = true → xs 2 = .int .i64 (p : Int)
  v3 : d 3 = true → xs 3 = ph
  v5 : d 5 = true → xs 5 = src
  v6 : d 6 = true → xs 6 = .int .i64 (p : Int)
  v7 : d 7 = true → xs 7 = .int .i64 ((p : Int) + 1)
  v8 : d 8 = true → xs 8 = pt
  e0 : d 0 = true → d 4 = false → Emp B 9 (xs 0) W
  o4 : d 4 = true → d 9 = false → Ows B p (l.take p) (xs 4) W
  o9 : d 9 = true → Ows B (k - 1) (l.eraseIdx p) (xs 9) W
  n4 : d 4 = true → d 0 = true
  n9 : d 9 = true → d 4 = true
set_option maxHeartbeats 2000000 in
set_option maxRecDepth 100000 in
theorem rg17 {Q : Exit → Act → World → Prop} {w : World} {v0 v1 v2 v3 v5 v6 v8 v9 v10 v11 v12 v13 v14 v15 : Value} {j : Nat → Value} {ka : Option Addr} {k kc p : Nat} {l : List ByteArray} {ops : Array Oper} (hops : findR 17 (Tryd.f7.body.getD .skip) = some ops) (hr : Row w (.slice ka k kc) (TS l)) (hp : p < k) (hk : k ≤ 8796093022206)
    (hQ : ∀ j' a c W, W.ownsRow w.heap.size 9 1 (.slice a (k - 1) c) (k - 1) (TS (l.eraseIdx p)) → Same w W → Q .normal (mpS v0 v1 v2 v3 (.slice a (k - 1) c) v5 v6 (.int .i64 (p : Int)) v8 v9 v10 v11 v12 v13 v14 v15 j') W) : (Code.region 17 ops true).wp Tryd.prog Q (mpS v0 v1 v2 v3 (.slice ka k kc) v5 v6 (.int .i64 (p : Int)) v8 v9 v10 v11 v12 v13 v14 v15 j) w := by
  cases hops
  obtain ⟨i0, hi, hz0, hz1, hz2⟩ := info_parts infoS
  have hmx : Tryd.prog.follows .mixedOrders = true := by kernel_rfl
  have hwr : IntKind.i64.wrap ((p : Int) + 1) = (p : Int) + 1 := wrapN (by omega) (by omega)
  obtain ⟨ph, hph, rph⟩ := slice_to hr (Nat.le_of_lt hp)
  obtain ⟨pt, hpt, rpt⟩ := slice_from1 hr hp
  have RPH := hidden rph
  have RPT := hidden rpt
  clear rph rpt hr
  have KQ := hidden hQ
  clear hQ
  change Code.wp _ _ _ (er17F v0 v1 v2 v3 (.slice ka k kc) v5 v6 (.int .i64 (p : Int)) v8 v9 v10 v11 v12 v13 v14 v15 j (fun t => j (75 + t))) w
  refine region_grow (m := 10) (F := (fun x => er17F v0 v1 v2 v3 (.slice ka k kc) v5 v6 (.int .i64 (p : Int)) v8 v9 v10 v11 v12 v13 v14 v15 j x)) (I := ErI w.heap.size (.slice ka k kc) (.slice ph p kc) (.slice pt (k - (p + 1)) (kc - (p + 1))) p k l) hmx (by kernel_rfl) (fun t => j (75 + t)) rfl ⟨(fun h => by cases h), (fun h => by cases h), (fun h => by cases h), (fun h => by cases h), (fun h => by cases h), (fun h => by cases h), (fun h => by cases h), (fun h => by cases h), (fun h => by cases h), (fun h => by cases h), (fun h => by cases h), (fun h => by cases h)⟩ ?_ ?_
  · intro i hi10 d x W hsm hdi hdep hI
    have hBW : w.heap.size ≤ W.heap.size := hsm.size
    match i, hi10 with
    | 1, _ =>
      refine wpOp_step rfl (fun K' hK => ?_)
      have HK := hidden hK
      clear hK
      unfold er17F
      go_simp
      exact HK.out _ _ ⟨.slice ka k kc, (by unfold er17F upd; simp), ⟨(fun _ => rfl), hI.v2, hI.v3, hI.v5, hI.v6, hI.v7, hI.v8, hI.e0, hI.o4, hI.o9, hI.n4, hI.n9⟩, hsm⟩
    | 2, _ =>
      refine wpOp_step rfl (fun K' hK => ?_)
      have HK := hidden hK
      clear hK
      unfold er17F
      go_simp
      exact HK.out _ _ ⟨.int .i64 (p : Int), (by unfold er17F upd; simp), ⟨hI.v1, (fun _ => rfl), hI.v3, hI.v5, hI.v6, hI.v7, hI.v8, hI.e0, hI.o4, hI.o9, hI.n4, hI.n9⟩, hsm⟩
    | 3, _ =>
      have u1 : x 1 = .slice ka k kc := hI.v1 (hdep 1 (by kernel_rfl))
      have u2 : x 2 = .int .i64 (p : Int) := hI.v2 (hdep 2 (by kernel_rfl))
      refine wpOp_step rfl (fun K' hK => ?_)
      have HK := hidden hK
      clear hK
      unfold er17F
      simp only [u1, u2]
      go_simp
      exact HK.out _ _ ⟨.slice ph p kc, (by unfold er17F upd; simp [u1, u2]), ⟨hI.v1, hI.v2, (fun _ => rfl), hI.v5, hI.v6, hI.v7, hI.v8, hI.e0, hI.o4, hI.o9, hI.n4, hI.n9⟩, hsm⟩
    | 5, _ =>
      refine wpOp_step rfl (fun K' hK => ?_)
      have HK := hidden hK
      clear hK
      unfold er17F
      go_simp
      exact HK.out _ _ ⟨.slice ka k kc, (by unfold er17F upd; simp), ⟨hI.v1, hI.v2, hI.v3, (fun _ => rfl), hI.v6, hI.v7, hI.v8, hI.e0, hI.o4, hI.o9, hI.n4, hI.n9⟩, hsm⟩
    | 6, _ =>
      refine wpOp_step rfl (fun K' hK => ?_)
      have HK := hidden hK
      clear hK
      unfold er17F
      go_simp
      exact HK.out _ _ ⟨.int .i64 (p : Int), (by unfold er17F upd; simp), ⟨hI.v1, hI.v2, hI.v3, hI.v5, (fun _ => rfl), hI.v7, hI.v8, hI.e0, hI.o4, hI.o9, hI.n4, hI.n9⟩, hsm⟩
    | 7, _ =>
      have u6 : x 6 = .int .i64 (p : Int) := hI.v6 (hdep 6 (by kernel_rfl))
      refine wpOp_step rfl (fun K' hK => ?_)
      have HK := hidden hK
      clear hK
      unfold er17F
      simp only [u6]
      go_simp
      exact HK.out _ _ ⟨.int .i64 ((p : Int) + 1), (by unfold er17F upd; simp [u6]), ⟨hI.v1, hI.v2, hI.v3, hI.v5, hI.v6, (fun _ => rfl), hI.v8, hI.e0, hI.o4, hI.o9, hI.n4, hI.n9⟩, hsm⟩
    | 8, _ =>
      have u5 : x 5 = .slice ka k kc := hI.v5 (hdep 5 (by kernel_rfl))
      have u7 : x 7 = .int .i64 ((p : Int) + 1) := hI.v7 (hdep 7 (by kernel_rfl))
      refine wpOp_step rfl (fun K' hK => ?_)
      have HK := hidden hK
      clear hK
      unfold er17F
      simp only [u5, u7]
      go_simp
      exact HK.out _ _ ⟨.slice pt (k - (p + 1)) (kc - (p + 1)), (by unfold er17F upd; simp [u5, u7]), ⟨hI.v1, hI.v2, hI.v3, hI.v5, hI.v6, hI.v7, (fun _ => rfl), hI.e0, hI.o4, hI.o9, hI.n4, hI.n9⟩, hsm⟩
    | 0, _ =>
      refine wpOp_step rfl (fun K' hK => ?_)
      have HK := hidden hK
      clear hK
      unfold er17F
      go_simp
      exact HK.out _ _ ⟨.slice (some ⟨W.heap.size, 0, none⟩) 0 0, (by unfold er17F upd; simp), ⟨hI.v1, hI.v2, hI.v3, hI.v5, hI.v6, hI.v7, hI.v8, (fun _ _ => ⟨W.heap.size, rfl, hBW, blk_new _ _⟩), (fun h1 h2 => (hI.o4 h1 h2).same (same_alloc _ _)), (fun h1 => (hI.o9 h1).same (same_alloc _ _)), (fun _ => rfl), hI.n9⟩, hsm.alloc _⟩
    | 4, _ =>
      have d0 := hdep 0 (by kernel_rfl)
      have u3 : x 3 = .slice ph p kc := hI.v3 (hdep 3 (by kernel_rfl))
      have m1 : Emp w.heap.size 9 (x 0) W := hI.e0 d0 hdi
      refine wpOp_step rfl (fun K' hK => ?_)
      refine step_emp rfl _ _ 22 rfl w.heap.size 9 i0 (.string ⟨#[]⟩) 16 Tryd.underlying22 hi hz0 hz1 hz2 rfl (x 0) rfl m1 _ p _ (TS (l.take p)) u3 (RPH.out W hsm) (TS_one _) (by unfold maxLen; omega) (by omega) hBW ?_
      intro u W' hu
      obtain ⟨ua, uc, rfl, uo, _⟩ := hu.apd.out
      exact hK _ _ ⟨_, rfl, ⟨hI.v1, hI.v2, hI.v3, hI.v5, hI.v6, hI.v7, hI.v8, (fun _ h => absurd (show true = false from h) (by decide)), (fun _ _ => ⟨ua, uc, rfl, uo⟩), (fun h1 => (hI.o9 h1).same hu.same), (fun _ => d0), (fun _ => rfl)⟩, hsm.trans hu.same⟩
    | 9, _ =>
      have d4 := hdep 4 (by kernel_rfl)
      obtain ⟨pa, pc, hx4, po⟩ := (hI.o4 d4 hdi).form
      have u8 : x 8 = .slice pt (k - (p + 1)) (kc - (p + 1)) := hI.v8 (hdep 8 (by kernel_rfl))
      refine wpOp_step rfl (fun K' hK => ?_)
      refine step_append_where rfl _ _ 22 rfl w.heap.size 9 i0 (.string ⟨#[]⟩) 1 16 Tryd.underlying22 hi hz0 hz1 hz2 rfl (by decide) pa p pc _ hx4 po _ (k - (p + 1)) _ (TS (l.drop (p + 1))) u8 (by rw [Nat.mul_one]; exact (RPT.out W hsm).len.1.symm) (RPT.out W hsm).lies (TS_one _) (by unfold maxLen; omega) (by omega) hBW ?_
      intro ua uc W' uo hg hw
      rw [rm_end] at uo
      have hln : p + (k - (p + 1)) = k - 1 := by omega
      refine hK _ _ ⟨_, rfl, ⟨hI.v1, hI.v2, hI.v3, hI.v5, hI.v6, hI.v7, hI.v8, (fun _ h => by have h2 : d 4 = false := h; rw [d4] at h2; cases h2), (fun _ h => absurd (show true = false from h) (by decide)), (fun _ => ⟨ua, uc, by rw [← hln]; rfl, by rw [← hln]; exact uo⟩), hI.n4, (fun _ => d4)⟩, same_grown (m := 0) hsm po hg⟩
    | q + 10, h => exact absurd h (by omega)
  · intro d x W hsm hall hI
    obtain ⟨ra, rc, hx9, ro⟩ := (hI.o9 (hall 9 (by decide))).form
    refine wpOp_step rfl (fun K' hK => ?_)
    have HK := hidden hK
    clear hK
    have hfin := KQ.out (ovr j 75 10 x) ra rc W ro hsm
    have hfr : mpS v0 v1 v2 v3 (.slice ra (k - 1) rc) v5 v6 (.int .i64 (p : Int)) v8 v9 v10 v11 v12 v13 v14 v15 (ovr j 75 10 x) = er17F v0 v1 v2 v3 (.slice ra (k - 1) rc) v5 v6 (.int .i64 (p : Int)) v8 v9 v10 v11 v12 v13 v14 v15 j x := rfl
    rw [hfr] at hfin
    clear hfr hI
    unfold er17F at hfin ⊢
    simp only [hx9] at hfin ⊢
    go_simp
    exact HK.out _ _ hfin
def er18F (v0 v1 v2 v3 v4 v5 v6 v7 v8 v9 v10 v11 v12 v13 v14 v15 : Value) (j x : Nat → Value) : Act := { tmps := #[v0, v1, v2, v3, v4, v5, v6, v7, v8, v9, v10, v11, v12, v13, v14, v15, j 16, j 17, j 18, j 19, j 20, j 21, j 22, j 23, j 24, j 25, j 26, j 27, j 28, j 29, j 30, j 31, j 32, j 33, j 34, j 35, j 36, j 37, j 38, j 39, j 40, j 41, j 42, j 43, j 44, j 45, j 46, j 47, j 48, j 49, j 50, j 51, j 52, j 53, j 54, j 55, j 56, j 57, j 58, j 59, j 60, j 61, j 62, j 63, j 64, j 65, j 66, j 67, j 68, j 69, j 70, j 71, j 72, j 73, j 74, j 75, j 76, j 77, j 78, j 79, j 80, j 81, j 82, j 83, j 84, x 0, x 1, x 2, x 3, x 4, x 5, x 6, x 7, x 8, x 9, j 95, j 96, j 97, j 98, j 99, j 100, j 101, j 102, j 103, j 104, j 105, j 106, j 107, j 108, j 109, j 110, j 111, j 112, j 113, j 114, j 115, j 116, j 117, j 118, j 119, j 120, j 121, j 122, j 123, j 124, j 125, j 126, j 127, j 128, j 129, j 130, j 131, j 132, j 133, j 134, j 135, j 136, j 137, j 138, j 139, j 140, j 141, j 142, j 143, j 144, j 145, j 146, j 147, j 148, j 149, j 150, j 151, j 152, j 153, j 154, j 155, j 156, j 157, j 158, j 159, j 160, j 161, j 162, j 163, j 164, j 165, j 166, j 167, j 168, j 169, j 170, j 171, j 172, j 173, j 174, j 175, j 176, j 177, j 178, j 179, j 180, j 181, j 182, j 183, j 184, j 185, j 186, j 187, j 188, j 189, j 190, j 191, j 192, j 193, j 194, j 195, j 196, j 197, j 198], defers := [] }
set_option maxHeartbeats 2000000 in
set_option maxRecDepth 100000 in
theorem rg18 {Q : Exit → Act → World → Prop} {w : World} {v0 v1 v2 v3 v4 v6 v8 v9 v10 v11 v12 v13 v14 v15 : Value} {j : Nat → Value} {ka : Option Addr} {k kc p : Nat} {l : List ByteArray} {ops : Array Oper} (hops : findR 18 (Tryd.f7.body.getD .skip) = some ops) (hr : Row w (.slice ka k kc) (TS l)) (hp : p < k) (hk : k ≤ 8796093022206)
    (hQ : ∀ j' a c W, W.ownsRow w.heap.size 9 1 (.slice a (k - 1) c) (k - 1) (TS (l.eraseIdx p)) → Same w W → Q .normal (mpS v0 v1 v2 v3 v4 (.slice a (k - 1) c) v6 (.int .i64 (p : Int)) v8 v9 v10 v11 v12 v13 v14 v15 j') W) : (Code.region 18 ops true).wp Tryd.prog Q (mpS v0 v1 v2 v3 v4 (.slice ka k kc) v6 (.int .i64 (p : Int)) v8 v9 v10 v11 v12 v13 v14 v15 j) w := by
  cases hops
  obtain ⟨i0, hi, hz0, hz1, hz2⟩ := info_parts infoS
  have hmx : Tryd.prog.follows .mixedOrders = true := by kernel_rfl
  have hwr : IntKind.i64.wrap ((p : Int) + 1) = (p : Int) + 1 := wrapN (by omega) (by omega)
  obtain ⟨ph, hph, rph⟩ := slice_to hr (Nat.le_of_lt hp)
  obtain ⟨pt, hpt, rpt⟩ := slice_from1 hr hp
  have RPH := hidden rph
  have RPT := hidden rpt
  clear rph rpt hr
  have KQ := hidden hQ
  clear hQ
  change Code.wp _ _ _ (er18F v0 v1 v2 v3 v4 (.slice ka k kc) v6 (.int .i64 (p : Int)) v8 v9 v10 v11 v12 v13 v14 v15 j (fun t => j (85 + t))) w
  refine region_grow (m := 10) (F := (fun x => er18F v0 v1 v2 v3 v4 (.slice ka k kc) v6 (.int .i64 (p : Int)) v8 v9 v10 v11 v12 v13 v14 v15 j x)) (I := ErI w.heap.size (.slice ka k kc) (.slice ph p kc) (.slice pt (k - (p + 1)) (kc - (p + 1))) p k l) hmx (by kernel_rfl) (fun t => j (85 + t)) rfl ⟨(fun h => by cases h), (fun h => by cases h), (fun h => by cases h), (fun h => by cases h), (fun h => by cases h), (fun h => by cases h), (fun h => by cases h), (fun h => by cases h), (fun h => by cases h), (fun h => by cases h), (fun h => by cases h), (fun h => by cases h)⟩ ?_ ?_
  · intro i hi10 d x W hsm hdi hdep hI
    have hBW : w.heap.size ≤ W.heap.size := hsm.size
    match i, hi10 with
    | 1, _ =>
      refine wpOp_step rfl (fun K' hK => ?_)
      have HK := hidden hK
      clear hK
      unfold er18F
      go_simp
      exact HK.out _ _ ⟨.slice ka k kc, (by unfold er18F upd; simp), ⟨(fun _ => rfl), hI.v2, hI.v3, hI.v5, hI.v6, hI.v7, hI.v8, hI.e0, hI.o4, hI.o9, hI.n4, hI.n9⟩, hsm⟩
    | 2, _ =>
      refine wpOp_step rfl (fun K' hK => ?_)
      have HK := hidden hK
      clear hK
      unfold er18F
      go_simp
      exact HK.out _ _ ⟨.int .i64 (p : Int), (by unfold er18F upd; simp), ⟨hI.v1, (fun _ => rfl), hI.v3, hI.v5, hI.v6, hI.v7, hI.v8, hI.e0, hI.o4, hI.o9, hI.n4, hI.n9⟩, hsm⟩
    | 3, _ =>
      have u1 : x 1 = .slice ka k kc := hI.v1 (hdep 1 (by kernel_rfl))
      have u2 : x 2 = .int .i64 (p : Int) := hI.v2 (hdep 2 (by kernel_rfl))
      refine wpOp_step rfl (fun K' hK => ?_)
      have HK := hidden hK
      clear hK
      unfold er18F
      simp only [u1, u2]
      go_simp
      exact HK.out _ _ ⟨.slice ph p kc, (by unfold er18F upd; simp [u1, u2]), ⟨hI.v1, hI.v2, (fun _ => rfl), hI.v5, hI.v6, hI.v7, hI.v8, hI.e0, hI.o4, hI.o9, hI.n4, hI.n9⟩, hsm⟩
    | 5, _ =>
      refine wpOp_step rfl (fun K' hK => ?_)
      have HK := hidden hK
      clear hK
      unfold er18F
      go_simp
      exact HK.out _ _ ⟨.slice ka k kc, (by unfold er18F upd; simp), ⟨hI.v1, hI.v2, hI.v3, (fun _ => rfl), hI.v6, hI.v7, hI.v8, hI.e0, hI.o4, hI.o9, hI.n4, hI.n9⟩, hsm⟩
    | 6, _ =>
      refine wpOp_step rfl (fun K' hK => ?_)
      have HK := hidden hK
      clear hK
      unfold er18F
      go_simp
      exact HK.out _ _ ⟨.int .i64 (p : Int), (by unfold er18F upd; simp), ⟨hI.v1, hI.v2, hI.v3, hI.v5, (fun _ => rfl), hI.v7, hI.v8, hI.e0, hI.o4, hI.o9, hI.n4, hI.n9⟩, hsm⟩
    | 7, _ =>
      have u6 : x 6 = .int .i64 (p : Int) := hI.v6 (hdep 6 (by kernel_rfl))
      refine wpOp_step rfl (fun K' hK => ?_)
      have HK := hidden hK
      clear hK
      unfold er18F
      simp only [u6]
      go_simp
      exact HK.out _ _ ⟨.int .i64 ((p : Int) + 1), (by unfold er18F upd; simp [u6]), ⟨hI.v1, hI.v2, hI.v3, hI.v5, hI.v6, (fun _ => rfl), hI.v8, hI.e0, hI.o4, hI.o9, hI.n4, hI.n9⟩, hsm⟩
    | 8, _ =>
      have u5 : x 5 = .slice ka k kc := hI.v5 (hdep 5 (by kernel_rfl))
      have u7 : x 7 = .int .i64 ((p : Int) + 1) := hI.v7 (hdep 7 (by kernel_rfl))
      refine wpOp_step rfl (fun K' hK => ?_)
      have HK := hidden hK
      clear hK
      unfold er18F
      simp only [u5, u7]
      go_simp
      exact HK.out _ _ ⟨.slice pt (k - (p + 1)) (kc - (p + 1)), (by unfold er18F upd; simp [u5, u7]), ⟨hI.v1, hI.v2, hI.v3, hI.v5, hI.v6, hI.v7, (fun _ => rfl), hI.e0, hI.o4, hI.o9, hI.n4, hI.n9⟩, hsm⟩
    | 0, _ =>
      refine wpOp_step rfl (fun K' hK => ?_)
      have HK := hidden hK
      clear hK
      unfold er18F
      go_simp
      exact HK.out _ _ ⟨.slice (some ⟨W.heap.size, 0, none⟩) 0 0, (by unfold er18F upd; simp), ⟨hI.v1, hI.v2, hI.v3, hI.v5, hI.v6, hI.v7, hI.v8, (fun _ _ => ⟨W.heap.size, rfl, hBW, blk_new _ _⟩), (fun h1 h2 => (hI.o4 h1 h2).same (same_alloc _ _)), (fun h1 => (hI.o9 h1).same (same_alloc _ _)), (fun _ => rfl), hI.n9⟩, hsm.alloc _⟩
    | 4, _ =>
      have d0 := hdep 0 (by kernel_rfl)
      have u3 : x 3 = .slice ph p kc := hI.v3 (hdep 3 (by kernel_rfl))
      have m1 : Emp w.heap.size 9 (x 0) W := hI.e0 d0 hdi
      refine wpOp_step rfl (fun K' hK => ?_)
      refine step_emp rfl _ _ 22 rfl w.heap.size 9 i0 (.string ⟨#[]⟩) 16 Tryd.underlying22 hi hz0 hz1 hz2 rfl (x 0) rfl m1 _ p _ (TS (l.take p)) u3 (RPH.out W hsm) (TS_one _) (by unfold maxLen; omega) (by omega) hBW ?_
      intro u W' hu
      obtain ⟨ua, uc, rfl, uo, _⟩ := hu.apd.out
      exact hK _ _ ⟨_, rfl, ⟨hI.v1, hI.v2, hI.v3, hI.v5, hI.v6, hI.v7, hI.v8, (fun _ h => absurd (show true = false from h) (by decide)), (fun _ _ => ⟨ua, uc, rfl, uo⟩), (fun h1 => (hI.o9 h1).same hu.same), (fun _ => d0), (fun _ => rfl)⟩, hsm.trans hu.same⟩
    | 9, _ =>
      have d4 := hdep 4 (by kernel_rfl)
      obtain ⟨pa, pc, hx4, po⟩ := (hI.o4 d4 hdi).form
      have u8 : x 8 = .slice pt (k - (p + 1)) (kc - (p + 1)) := hI.v8 (hdep 8 (by kernel_rfl))
      refine wpOp_step rfl (fun K' hK => ?_)
      refine step_append_where rfl _ _ 22 rfl w.heap.size 9 i0 (.string ⟨#[]⟩) 1 16 Tryd.underlying22 hi hz0 hz1 hz2 rfl (by decide) pa p pc _ hx4 po _ (k - (p + 1)) _ (TS (l.drop (p + 1))) u8 (by rw [Nat.mul_one]; exact (RPT.out W hsm).len.1.symm) (RPT.out W hsm).lies (TS_one _) (by unfold maxLen; omega) (by omega) hBW ?_
      intro ua uc W' uo hg hw
      rw [rm_end] at uo
      have hln : p + (k - (p + 1)) = k - 1 := by omega
      refine hK _ _ ⟨_, rfl, ⟨hI.v1, hI.v2, hI.v3, hI.v5, hI.v6, hI.v7, hI.v8, (fun _ h => by have h2 : d 4 = false := h; rw [d4] at h2; cases h2), (fun _ h => absurd (show true = false from h) (by decide)), (fun _ => ⟨ua, uc, by rw [← hln]; rfl, by rw [← hln]; exact uo⟩), hI.n4, (fun _ => d4)⟩, same_grown (m := 0) hsm po hg⟩
    | q + 10, h => exact absurd h (by omega)
  · intro d x W hsm hall hI
    obtain ⟨ra, rc, hx9, ro⟩ := (hI.o9 (hall 9 (by decide))).form
    refine wpOp_step rfl (fun K' hK => ?_)
    have HK := hidden hK
    clear hK
    have hfin := KQ.out (ovr j 85 10 x) ra rc W ro hsm
    have hfr : mpS v0 v1 v2 v3 v4 (.slice ra (k - 1) rc) v6 (.int .i64 (p : Int)) v8 v9 v10 v11 v12 v13 v14 v15 (ovr j 85 10 x) = er18F v0 v1 v2 v3 v4 (.slice ra (k - 1) rc) v6 (.int .i64 (p : Int)) v8 v9 v10 v11 v12 v13 v14 v15 j x := rfl
    rw [hfr] at hfin
    clear hfr hI
    unfold er18F at hfin ⊢
    simp only [hx9] at hfin ⊢
    go_simp
    exact HK.out _ _ hfin
def in29F (v0 v1 v2 v3 v4 v5 v6 v7 v8 v9 v10 v11 v12 v13 v14 v15 : Value) (j x : Nat → Value) : Act := { tmps := #[v0, v1, v2, v3, v4, v5, v6, v7, v8, v9, v10, v11, v12, v13, v14, v15, j 16, j 17, j 18, j 19, j 20, j 21, j 22, j 23, j 24, j 25, j 26, j 27, j 28, j 29, j 30, j 31, j 32, j 33, j 34, j 35, j 36, j 37, j 38, j 39, j 40, j 41, j 42, j 43, j 44, j 45, j 46, j 47, j 48, j 49, j 50, j 51, j 52, j 53, j 54, j 55, j 56, j 57, j 58, j 59, j 60, j 61, j 62, j 63, j 64, j 65, j 66, j 67, j 68, j 69, j 70, j 71, j 72, j 73, j 74, j 75, j 76, j 77, j 78, j 79, j 80, j 81, j 82, j 83, j 84, j 85, j 86, j 87, j 88, j 89, j 90, j 91, j 92, j 93, j 94, j 95, j 96, j 97, j 98, j 99, j 100, j 101, j 102, j 103, j 104, j 105, j 106, j 107, j 108, j 109, j 110, j 111, j 112, j 113, j 114, j 115, j 116, j 117, j 118, j 119, j 120, j 121, j 122, j 123, j 124, j 125, j 126, j 127, j 128, j 129, j 130, j 131, j 132, j 133, j 134, j 135, j 136, j 137, j 138, j 139, j 140, j 141, j 142, j 143, j 144, j 145, j 146, j 147, j 148, j 149, x 0, x 1, x 2, x 3, x 4, x 5, x 6, x 7, x 8, x 9, x 10, x 11, x 12, x 13, x 14, x 15, j 166, j 167, j 168, j 169, j 170, j 171, j 172, j 173, j 174, j 175, j 176, j 177, j 178, j 179, j 180, j 181, j 182, j 183, j 184, j 185, j 186, j 187, j 188, j 189, j 190, j 191, j 192, j 193, j 194, j 195, j 196, j 197, j 198], defers := [] }
/-- How far 'append(append(append([]string{}, l[:p]...), x), l[p:]...)' is. -/
structure InJ (B : Nat) (src ph pt sv iv p7 p8 : Value) (p k : Nat) (l : List ByteArray) (y : ByteArray) (d : Nat → Bool) (xs : Nat → Value) (W : World) : Prop where
  v1 : d 1 = true → xs 1 = src
  v2 : d 2 = true → xs 2 = .int .i64 (p : Int)
  v3 : d 3 = true → xs 3 = ph
  v5 : d 5 = true → xs 5 = sv
  v6 : d 6 = true → xs 6 = iv
  v7 : d 7 = true → xs 7 = p7
  v8 : d 8 = true → xs 8 = p8
  v9 : d 9 = true → xs 9 = .string y
  v12 : d 12 = true → xs 12 = src
  v13 : d 13 = true → xs 13 = .int .i64 (p : Int)
  v14 : d 14 = true → xs 14 = pt
  e0 : d 0 = true → d 4 = false → Emp B 9 (xs 0) W
  o4 : d 4 = true → d 11 = false → Ows B p (l.take p) (xs 4) W
  s10 : d 10 = true → d 11 = false → Sgl (xs 10) y W
  o11 : d 11 = true → d 15 = false → Ows B (p + 1) (l.take p ++ [y]) (xs 11) W
  o15 : d 15 = true → Ows B (k + 1) (insL l p y) (xs 15) W
  n4 : d 4 = true → d 0 = true
  n11 : d 11 = true → d 4 = true
  n10 : d 11 = true → d 10 = true
  n15 : d 15 = true → d 11 = true
set_option maxHeartbeats 2000000 in
set_option maxRecDepth 100000 in
theorem rg29 {Q : Exit → Act → World → Prop} {w : World} {v1 v2 v3 v5 v8 v9 v10 v11 v12 v13 v14 v15 : Value} {j : Nat → Value} {ka : Option Addr} {k kc p ob oo N oc i0 : Nat} {l : List ByteArray} {xx : ByteArray} {ops : Array Oper} (hops : findR 29 (Tryd.f7.body.getD .skip) = some ops) (hr : Row w (.slice ka k kc) (TS l)) (hp : p ≤ k) (hk : k ≤ 8796093022206) (hi0 : i0 < N)
    (hx : w.cell? ⟨ob, oo + i0 * 3, none⟩ = some (.string xx))
    (hQ : ∀ j' a c W, W.ownsRow w.heap.size 9 1 (.slice a (k + 1) c) (k + 1) (TS (insL l p xx)) → Same w W → Q .normal (mpS (.slice (some ⟨ob, oo, none⟩) N oc) v1 v2 v3 (.slice a (k + 1) c) v5 (.int .i64 (i0 : Int)) (.int .i64 (p : Int)) v8 v9 v10 v11 v12 v13 v14 v15 j') W) : (Code.region 29 ops true).wp Tryd.prog Q (mpS (.slice (some ⟨ob, oo, none⟩) N oc) v1 v2 v3 (.slice ka k kc) v5 (.int .i64 (i0 : Int)) (.int .i64 (p : Int)) v8 v9 v10 v11 v12 v13 v14 v15 j) w := by
  cases hops
  obtain ⟨iz, hi, hz0, hz1, hz2⟩ := info_parts infoS
  have hmx : Tryd.prog.follows .mixedOrders = true := by kernel_rfl
  have q1 : (i0 : Int) < (N : Int) := by omega
  have q0 : (0 : Int) ≤ (i0 : Int) := Int.natCast_nonneg _
  obtain ⟨ph, hph, rph⟩ := slice_to hr hp
  obtain ⟨pt, hpt, rpt⟩ := slice_from hr hp
  have RPH := hidden rph
  have RPT := hidden rpt
  have HX := hidden hx
  clear rph rpt hr hx
  have KQ := hidden hQ
  clear hQ
  change Code.wp _ _ _ (in29F (.slice (some ⟨ob, oo, none⟩) N oc) v1 v2 v3 (.slice ka k kc) v5 (.int .i64 (i0 : Int)) (.int .i64 (p : Int)) v8 v9 v10 v11 v12 v13 v14 v15 j (fun t => j (150 + t))) w
  refine region_grow (m := 16) (F := (fun x => in29F (.slice (some ⟨ob, oo, none⟩) N oc) v1 v2 v3 (.slice ka k kc) v5 (.int .i64 (i0 : Int)) (.int .i64 (p : Int)) v8 v9 v10 v11 v12 v13 v14 v15 j x)) (I := InJ w.heap.size (.slice ka k kc) (.slice ph p kc) (.slice pt (k - p) (kc - p)) (.slice (some ⟨ob, oo, none⟩) N oc) (.int .i64 (i0 : Int)) (.pointer (some ⟨ob, oo + i0 * 3, none⟩)) (.pointer (some ⟨ob, oo + i0 * 3, none⟩)) p k l xx) hmx (by kernel_rfl) (fun t => j (150 + t)) rfl ⟨(fun h => by cases h), (fun h => by cases h), (fun h => by cases h), (fun h => by cases h), (fun h => by cases h), (fun h => by cases h), (fun h => by cases h), (fun h => by cases h), (fun h => by cases h), (fun h => by cases h), (fun h => by cases h), (fun h => by cases h), (fun h => by cases h), (fun h => by cases h), (fun h => by cases h), (fun h => by cases h), (fun h => by cases h), (fun h => by cases h), (fun h => by cases h), (fun h => by cases h)⟩ ?_ ?_
  · intro i hi16 d x W hsm hdi hdep hI
    have hBW : w.heap.size ≤ W.heap.size := hsm.size
    have zx := hsm.cell (fun h => h) HX.out
    match i, hi16 with
    | 1, _ =>
      refine wpOp_step rfl (fun K' hK => ?_)
      have HK := hidden hK
      clear hK
      unfold in29F
      go_simp
      exact HK.out _ _ ⟨.slice ka k kc, (by unfold in29F upd; simp), ⟨(fun _ => rfl), hI.v2, hI.v3, hI.v5, hI.v6, hI.v7, hI.v8, hI.v9, hI.v12, hI.v13, hI.v14, hI.e0, hI.o4, hI.s10, hI.o11, hI.o15, hI.n4, hI.n11, hI.n10, hI.n15⟩, hsm⟩
    | 2, _ =>
      refine wpOp_step rfl (fun K' hK => ?_)
      have HK := hidden hK
      clear hK
      unfold in29F
      go_simp
      exact HK.out _ _ ⟨.int .i64 (p : Int), (by unfold in29F upd; simp), ⟨hI.v1, (fun _ => rfl), hI.v3, hI.v5, hI.v6, hI.v7, hI.v8, hI.v9, hI.v12, hI.v13, hI.v14, hI.e0, hI.o4, hI.s10, hI.o11, hI.o15, hI.n4, hI.n11, hI.n10, hI.n15⟩, hsm⟩
    | 3, _ =>
      have u1 : x 1 = .slice ka k kc := hI.v1 (hdep 1 (by kernel_rfl))
      have u2 : x 2 = .int .i64 (p : Int) := hI.v2 (hdep 2 (by kernel_rfl))
      refine wpOp_step rfl (fun K' hK => ?_)
      have HK := hidden hK
      clear hK
      unfold in29F
      simp only [u1, u2]
      go_simp
      exact HK.out _ _ ⟨.slice ph p kc, (by unfold in29F upd; simp [u1, u2]), ⟨hI.v1, hI.v2, (fun _ => rfl), hI.v5, hI.v6, hI.v7, hI.v8, hI.v9, hI.v12, hI.v13, hI.v14, hI.e0, hI.o4, hI.s10, hI.o11, hI.o15, hI.n4, hI.n11, hI.n10, hI.n15⟩, hsm⟩
    | 5, _ =>
      refine wpOp_step rfl (fun K' hK => ?_)
      have HK := hidden hK
      clear hK
      unfold in29F
      go_simp
      exact HK.out _ _ ⟨.slice (some ⟨ob, oo, none⟩) N oc, (by unfold in29F upd; simp), ⟨hI.v1, hI.v2, hI.v3, (fun _ => rfl), hI.v6, hI.v7, hI.v8, hI.v9, hI.v12, hI.v13, hI.v14, hI.e0, hI.o4, hI.s10, hI.o11, hI.o15, hI.n4, hI.n11, hI.n10, hI.n15⟩, hsm⟩
    | 6, _ =>
      refine wpOp_step rfl (fun K' hK => ?_)
      have HK := hidden hK
      clear hK
      unfold in29F
      go_simp
      exact HK.out _ _ ⟨.int .i64 (i0 : Int), (by unfold in29F upd; simp), ⟨hI.v1, hI.v2, hI.v3, hI.v5, (fun _ => rfl), hI.v7, hI.v8, hI.v9, hI.v12, hI.v13, hI.v14, hI.e0, hI.o4, hI.s10, hI.o11, hI.o15, hI.n4, hI.n11, hI.n10, hI.n15⟩, hsm⟩
    | 7, _ =>
      have u5 : x 5 = .slice (some ⟨ob, oo, none⟩) N oc := hI.v5 (hdep 5 (by kernel_rfl))
      have u6 : x 6 = .int .i64 (i0 : Int) := hI.v6 (hdep 6 (by kernel_rfl))
      refine wpOp_step rfl (fun K' hK => ?_)
      have HK := hidden hK
      clear hK
      unfold in29F
      simp only [u5, u6]
      go_simp
      exact HK.out _ _ ⟨.pointer (some ⟨ob, oo + i0 * 3, none⟩), (by unfold in29F upd; simp [u5, u6]), ⟨hI.v1, hI.v2, hI.v3, hI.v5, hI.v6, (fun _ => rfl), hI.v8, hI.v9, hI.v12, hI.v13, hI.v14, hI.e0, hI.o4, hI.s10, hI.o11, hI.o15, hI.n4, hI.n11, hI.n10, hI.n15⟩, hsm⟩
    | 8, _ =>
      have u7 : x 7 = .pointer (some ⟨ob, oo + i0 * 3, none⟩) := hI.v7 (hdep 7 (by kernel_rfl))
      refine wpOp_step rfl (fun K' hK => ?_)
      have HK := hidden hK
      clear hK
      unfold in29F
      simp only [u7]
      go_simp
      exact HK.out _ _ ⟨.pointer (some ⟨ob, oo + i0 * 3, none⟩), (by unfold in29F upd; simp [u7]), ⟨hI.v1, hI.v2, hI.v3, hI.v5, hI.v6, hI.v7, (fun _ => rfl), hI.v9, hI.v12, hI.v13, hI.v14, hI.e0, hI.o4, hI.s10, hI.o11, hI.o15, hI.n4, hI.n11, hI.n10, hI.n15⟩, hsm⟩
    | 9, _ =>
      have u8 : x 8 = .pointer (some ⟨ob, oo + i0 * 3, none⟩) := hI.v8 (hdep 8 (by kernel_rfl))
      refine wpOp_step rfl (fun K' hK => ?_)
      have HK := hidden hK
      clear hK
      unfold in29F
      simp only [u8]
      go_simp
      exact HK.out _ _ ⟨.string xx, (by unfold in29F upd; simp [u8]), ⟨hI.v1, hI.v2, hI.v3, hI.v5, hI.v6, hI.v7, hI.v8, (fun _ => rfl), hI.v12, hI.v13, hI.v14, hI.e0, hI.o4, hI.s10, hI.o11, hI.o15, hI.n4, hI.n11, hI.n10, hI.n15⟩, hsm⟩
    | 12, _ =>
      refine wpOp_step rfl (fun K' hK => ?_)
      have HK := hidden hK
      clear hK
      unfold in29F
      go_simp
      exact HK.out _ _ ⟨.slice ka k kc, (by unfold in29F upd; simp), ⟨hI.v1, hI.v2, hI.v3, hI.v5, hI.v6, hI.v7, hI.v8, hI.v9, (fun _ => rfl), hI.v13, hI.v14, hI.e0, hI.o4, hI.s10, hI.o11, hI.o15, hI.n4, hI.n11, hI.n10, hI.n15⟩, hsm⟩
    | 13, _ =>
      refine wpOp_step rfl (fun K' hK => ?_)
      have HK := hidden hK
      clear hK
      unfold in29F
      go_simp
      exact HK.out _ _ ⟨.int .i64 (p : Int), (by unfold in29F upd; simp), ⟨hI.v1, hI.v2, hI.v3, hI.v5, hI.v6, hI.v7, hI.v8, hI.v9, hI.v12, (fun _ => rfl), hI.v14, hI.e0, hI.o4, hI.s10, hI.o11, hI.o15, hI.n4, hI.n11, hI.n10, hI.n15⟩, hsm⟩
    | 14, _ =>
      have u12 : x 12 = .slice ka k kc := hI.v12 (hdep 12 (by kernel_rfl))
      have u13 : x 13 = .int .i64 (p : Int) := hI.v13 (hdep 13 (by kernel_rfl))
      refine wpOp_step rfl (fun K' hK => ?_)
      have HK := hidden hK
      clear hK
      unfold in29F
      simp only [u12, u13]
      go_simp
      exact HK.out _ _ ⟨.slice pt (k - p) (kc - p), (by unfold in29F upd; simp [u12, u13]), ⟨hI.v1, hI.v2, hI.v3, hI.v5, hI.v6, hI.v7, hI.v8, hI.v9, hI.v12, hI.v13, (fun _ => rfl), hI.e0, hI.o4, hI.s10, hI.o11, hI.o15, hI.n4, hI.n11, hI.n10, hI.n15⟩, hsm⟩
    | 0, _ =>
      refine wpOp_step rfl (fun K' hK => ?_)
      have HK := hidden hK
      clear hK
      unfold in29F
      go_simp
      exact HK.out _ _ ⟨.slice (some ⟨W.heap.size, 0, none⟩) 0 0, (by unfold in29F upd; simp), ⟨hI.v1, hI.v2, hI.v3, hI.v5, hI.v6, hI.v7, hI.v8, hI.v9, hI.v12, hI.v13, hI.v14, (fun _ _ => ⟨W.heap.size, rfl, hBW, blk_new _ _⟩), (fun h1 h2 => (hI.o4 h1 h2).same (same_alloc _ _)), (fun h1 h2 => (hI.s10 h1 h2).same (same_alloc _ _)), (fun h1 h2 => (hI.o11 h1 h2).same (same_alloc _ _)), (fun h1 => (hI.o15 h1).same (same_alloc _ _)), (fun _ => rfl), hI.n11, hI.n10, hI.n15⟩, hsm.alloc _⟩
    | 10, _ =>
      have u9 : x 9 = .string xx := hI.v9 (hdep 9 (by kernel_rfl))
      refine wpOp_step rfl (fun K' hK => ?_)
      have HK := hidden hK
      clear hK
      unfold in29F
      simp only [u9]
      go_simp
      exact HK.out _ _ ⟨.slice (some ⟨W.heap.size, 0, none⟩) 1 1, (by unfold in29F upd; simp [u9]), ⟨hI.v1, hI.v2, hI.v3, hI.v5, hI.v6, hI.v7, hI.v8, hI.v9, hI.v12, hI.v13, hI.v14, (fun h1 h2 => (hI.e0 h1 h2).same (same_alloc _ _)), (fun h1 h2 => (hI.o4 h1 h2).same (same_alloc _ _)), (fun _ _ => ⟨W.heap.size, rfl, blk_new _ _⟩), (fun h1 h2 => (hI.o11 h1 h2).same (same_alloc _ _)), (fun h1 => (hI.o15 h1).same (same_alloc _ _)), hI.n4, hI.n11, (fun _ => rfl), hI.n15⟩, hsm.alloc _⟩
    | 4, _ =>
      have d0 := hdep 0 (by kernel_rfl)
      have u3 : x 3 = .slice ph p kc := hI.v3 (hdep 3 (by kernel_rfl))
      have m1 : Emp w.heap.size 9 (x 0) W := hI.e0 d0 hdi
      refine wpOp_step rfl (fun K' hK => ?_)
      refine step_emp rfl _ _ 22 rfl w.heap.size 9 iz (.string ⟨#[]⟩) 16 Tryd.underlying22 hi hz0 hz1 hz2 rfl (x 0) rfl m1 _ p _ (TS (l.take p)) u3 (RPH.out W hsm) (TS_one _) (by unfold maxLen; omega) (by omega) hBW ?_
      intro u W' hu
      obtain ⟨ua, uc, rfl, uo, _⟩ := hu.apd.out
      exact hK _ _ ⟨_, rfl, ⟨hI.v1, hI.v2, hI.v3, hI.v5, hI.v6, hI.v7, hI.v8, hI.v9, hI.v12, hI.v13, hI.v14, (fun _ h => absurd (show true = false from h) (by decide)), (fun _ _ => ⟨ua, uc, rfl, uo⟩), (fun h1 h2 => (hI.s10 h1 h2).same hu.same), (fun h1 h2 => (hI.o11 h1 h2).same hu.same), (fun h1 => (hI.o15 h1).same hu.same), (fun _ => d0), (fun _ => rfl), hI.n10, hI.n15⟩, hsm.trans hu.same⟩
    | 11, _ =>
      have d4 := hdep 4 (by kernel_rfl)
      have d10 := hdep 10 (by kernel_rfl)
      obtain ⟨pa, pc, hx4, po⟩ := (hI.o4 d4 hdi).form
      obtain ⟨sa, hx10, sl⟩ := (hI.s10 d10 hdi).lies
      refine wpOp_step rfl (fun K' hK => ?_)
      refine step_append_where rfl _ _ 22 rfl w.heap.size 9 iz (.string ⟨#[]⟩) 1 16 Tryd.underlying22 hi hz0 hz1 hz2 rfl (by decide) pa p pc _ hx4 po sa 1 1 [.string xx] hx10 rfl sl (by simp [Value.oneCell']) (by unfold maxLen; omega) (by omega) hBW ?_
      intro ua uc W' uo hg hw
      rw [show TS (l.take p) ++ [Value.string xx] = TS (l.take p ++ [xx]) by simp [TS]] at uo
      exact hK _ _ ⟨_, rfl, ⟨hI.v1, hI.v2, hI.v3, hI.v5, hI.v6, hI.v7, hI.v8, hI.v9, hI.v12, hI.v13, hI.v14, (fun _ h => by have h2 : d 4 = false := h; rw [d4] at h2; cases h2), (fun _ h => absurd (show true = false from h) (by decide)), (fun _ h => absurd (show true = false from h) (by decide)), (fun _ _ => ⟨ua, uc, rfl, uo⟩), (fun h => by have h2 := hI.n15 h; rw [hdi] at h2; cases h2), hI.n4, (fun _ => d4), (fun _ => d10), (fun _ => rfl)⟩, same_grown (m := 0) hsm po hg⟩
    | 15, _ =>
      have d11 := hdep 11 (by kernel_rfl)
      have d4 := hI.n11 d11
      obtain ⟨pa, pc, hx11, po⟩ := (hI.o11 d11 hdi).form
      have u14 : x 14 = .slice pt (k - p) (kc - p) := hI.v14 (hdep 14 (by kernel_rfl))
      refine wpOp_step rfl (fun K' hK => ?_)
      refine step_append_where rfl _ _ 22 rfl w.heap.size 9 iz (.string ⟨#[]⟩) 1 16 Tryd.underlying22 hi hz0 hz1 hz2 rfl (by decide) pa (p + 1) pc _ hx11 po _ (k - p) _ (TS (l.drop p)) u14 (by rw [Nat.mul_one]; exact (RPT.out W hsm).len.1.symm) (RPT.out W hsm).lies (TS_one _) (by unfold maxLen; omega) (by omega) hBW ?_
      intro ua uc W' uo hg hw
      rw [ins_end] at uo
      have hln : p + 1 + (k - p) = k + 1 := by omega
      refine hK _ _ ⟨_, rfl, ⟨hI.v1, hI.v2, hI.v3, hI.v5, hI.v6, hI.v7, hI.v8, hI.v9, hI.v12, hI.v13, hI.v14, (fun _ h => by have h2 : d 4 = false := h; rw [d4] at h2; cases h2), (fun _ h => by have h2 : d 11 = false := h; rw [d11] at h2; cases h2), (fun _ h => by have h2 : d 11 = false := h; rw [d11] at h2; cases h2), (fun _ h => absurd (show true = false from h) (by decide)), (fun _ => ⟨ua, uc, by rw [← hln]; rfl, by rw [← hln]; exact uo⟩), hI.n4, hI.n11, hI.n10, (fun _ => d11)⟩, same_grown (m := 0) hsm po hg⟩
    | q + 16, h => exact absurd h (by omega)
  · intro d x W hsm hall hI
    obtain ⟨ra, rc, hx15, ro⟩ := (hI.o15 (hall 15 (by decide))).form
    refine wpOp_step rfl (fun K' hK => ?_)
    have HK := hidden hK
    clear hK
    have hfin := KQ.out (ovr j 150 16 x) ra rc W ro hsm
    have hfr : mpS (.slice (some ⟨ob, oo, none⟩) N oc) v1 v2 v3 (.slice ra (k + 1) rc) v5 (.int .i64 (i0 : Int)) (.int .i64 (p : Int)) v8 v9 v10 v11 v12 v13 v14 v15 (ovr j 150 16 x) = in29F (.slice (some ⟨ob, oo, none⟩) N oc) v1 v2 v3 (.slice ra (k + 1) rc) v5 (.int .i64 (i0 : Int)) (.int .i64 (p : Int)) v8 v9 v10 v11 v12 v13 v14 v15 j x := rfl
    rw [hfr] at hfin
    clear hfr hI
    unfold in29F at hfin ⊢
    simp only [hx15] at hfin ⊢
    go_simp
    exact HK.out _ _ hfin
def in30F (v0 v1 v2 v3 v4 v5 v6 v7 v8 v9 v10 v11 v12 v13 v14 v15 : Value) (j x : Nat → Value) : Act := { tmps := #[v0, v1, v2, v3, v4, v5, v6, v7, v8, v9, v10, v11, v12, v13, v14, v15, j 16, j 17, j 18, j 19, j 20, j 21, j 22, j 23, j 24, j 25, j 26, j 27, j 28, j 29, j 30, j 31, j 32, j 33, j 34, j 35, j 36, j 37, j 38, j 39, j 40, j 41, j 42, j 43, j 44, j 45, j 46, j 47, j 48, j 49, j 50, j 51, j 52, j 53, j 54, j 55, j 56, j 57, j 58, j 59, j 60, j 61, j 62, j 63, j 64, j 65, j 66, j 67, j 68, j 69, j 70, j 71, j 72, j 73, j 74, j 75, j 76, j 77, j 78, j 79, j 80, j 81, j 82, j 83, j 84, j 85, j 86, j 87, j 88, j 89, j 90, j 91, j 92, j 93, j 94, j 95, j 96, j 97, j 98, j 99, j 100, j 101, j 102, j 103, j 104, j 105, j 106, j 107, j 108, j 109, j 110, j 111, j 112, j 113, j 114, j 115, j 116, j 117, j 118, j 119, j 120, j 121, j 122, j 123, j 124, j 125, j 126, j 127, j 128, j 129, j 130, j 131, j 132, j 133, j 134, j 135, j 136, j 137, j 138, j 139, j 140, j 141, j 142, j 143, j 144, j 145, j 146, j 147, j 148, j 149, j 150, j 151, j 152, j 153, j 154, j 155, j 156, j 157, j 158, j 159, j 160, j 161, j 162, j 163, j 164, j 165, x 0, x 1, x 2, x 3, x 4, x 5, x 6, x 7, x 8, x 9, x 10, x 11, x 12, x 13, x 14, x 15, j 182, j 183, j 184, j 185, j 186, j 187, j 188, j 189, j 190, j 191, j 192, j 193, j 194, j 195, j 196, j 197, j 198], defers := [] }
set_option maxHeartbeats 2000000 in
set_option maxRecDepth 100000 in
theorem rg30 {Q : Exit → Act → World → Prop} {w : World} {v1 v2 v3 v4 v8 v9 v10 v11 v12 v13 v14 v15 : Value} {j : Nat → Value} {ka : Option Addr} {k kc p ob oo N oc i0 : Nat} {l : List ByteArray} {xx : ByteArray} {ops : Array Oper} (hops : findR 30 (Tryd.f7.body.getD .skip) = some ops) (hr : Row w (.slice ka k kc) (TS l)) (hp : p ≤ k) (hk : k ≤ 8796093022206) (hi0 : i0 < N)
    (hx : w.cell? ⟨ob, oo + i0 * 3 + 1, none⟩ = some (.string xx))
    (hQ : ∀ j' a c W, W.ownsRow w.heap.size 9 1 (.slice a (k + 1) c) (k + 1) (TS (insL l p xx)) → Same w W → Q .normal (mpS (.slice (some ⟨ob, oo, none⟩) N oc) v1 v2 v3 v4 (.slice a (k + 1) c) (.int .i64 (i0 : Int)) (.int .i64 (p : Int)) v8 v9 v10 v11 v12 v13 v14 v15 j') W) : (Code.region 30 ops true).wp Tryd.prog Q (mpS (.slice (some ⟨ob, oo, none⟩) N oc) v1 v2 v3 v4 (.slice ka k kc) (.int .i64 (i0 : Int)) (.int .i64 (p : Int)) v8 v9 v10 v11 v12 v13 v14 v15 j) w := by
  cases hops
  obtain ⟨iz, hi, hz0, hz1, hz2⟩ := info_parts infoS
  have hmx : Tryd.prog.follows .mixedOrders = true := by kernel_rfl
  have q1 : (i0 : Int) < (N : Int) := by omega
  have q0 : (0 : Int) ≤ (i0 : Int) := Int.natCast_nonneg _
  obtain ⟨ph, hph, rph⟩ := slice_to hr hp
  obtain ⟨pt, hpt, rpt⟩ := slice_from hr hp
  have RPH := hidden rph
  have RPT := hidden rpt
  have HX := hidden hx
  clear rph rpt hr hx
  have KQ := hidden hQ
  clear hQ
  change Code.wp _ _ _ (in30F (.slice (some ⟨ob, oo, none⟩) N oc) v1 v2 v3 v4 (.slice ka k kc) (.int .i64 (i0 : Int)) (.int .i64 (p : Int)) v8 v9 v10 v11 v12 v13 v14 v15 j (fun t => j (166 + t))) w
  refine region_grow (m := 16) (F := (fun x => in30F (.slice (some ⟨ob, oo, none⟩) N oc) v1 v2 v3 v4 (.slice ka k kc) (.int .i64 (i0 : Int)) (.int .i64 (p : Int)) v8 v9 v10 v11 v12 v13 v14 v15 j x)) (I := InJ w.heap.size (.slice ka k kc) (.slice ph p kc) (.slice pt (k - p) (kc - p)) (.slice (some ⟨ob, oo, none⟩) N oc) (.int .i64 (i0 : Int)) (.pointer (some ⟨ob, oo + i0 * 3, none⟩)) (.pointer (some ⟨ob, oo + i0 * 3 + 1, none⟩)) p k l xx) hmx (by kernel_rfl) (fun t => j (166 + t)) rfl ⟨(fun h => by cases h), (fun h => by cases h), (fun h => by cases h), (fun h => by cases h), (fun h => by cases h), (fun h => by cases h), (fun h => by cases h), (fun h => by cases h), (fun h => by cases h), (fun h => by cases h), (fun h => by cases h), (fun h => by cases h), (fun h => by cases h), (fun h => by cases h), (fun h => by cases h), (fun h => by cases h), (fun h => by cases h), (fun h => by cases h), (fun h => by cases h), (fun h => by cases h)⟩ ?_ ?_
  · intro i hi16 d x W hsm hdi hdep hI
    have hBW : w.heap.size ≤ W.heap.size := hsm.size
    have zx := hsm.cell (fun h => h) HX.out
    match i, hi16 with
    | 1, _ =>
      refine wpOp_step rfl (fun K' hK => ?_)
      have HK := hidden hK
      clear hK
      unfold in30F
      go_simp
      exact HK.out _ _ ⟨.slice ka k kc, (by unfold in30F upd; simp), ⟨(fun _ => rfl), hI.v2, hI.v3, hI.v5, hI.v6, hI.v7, hI.v8, hI.v9, hI.v12, hI.v13, hI.v14, hI.e0, hI.o4, hI.s10, hI.o11, hI.o15, hI.n4, hI.n11, hI.n10, hI.n15⟩, hsm⟩
    | 2, _ =>
      refine wpOp_step rfl (fun K' hK => ?_)
      have HK := hidden hK
      clear hK
      unfold in30F
      go_simp
      exact HK.out _ _ ⟨.int .i64 (p : Int), (by unfold in30F upd; simp), ⟨hI.v1, (fun _ => rfl), hI.v3, hI.v5, hI.v6, hI.v7, hI.v8, hI.v9, hI.v12, hI.v13, hI.v14, hI.e0, hI.o4, hI.s10, hI.o11, hI.o15, hI.n4, hI.n11, hI.n10, hI.n15⟩, hsm⟩
    | 3, _ =>
      have u1 : x 1 = .slice ka k kc := hI.v1 (hdep 1 (by kernel_rfl))
      have u2 : x 2 = .int .i64 (p : Int) := hI.v2 (hdep 2 (by kernel_rfl))
      refine wpOp_step rfl (fun K' hK => ?_)
      have HK := hidden hK
      clear hK
      unfold in30F
      simp only [u1, u2]
      go_simp
      exact HK.out _ _ ⟨.slice ph p kc, (by unfold in30F upd; simp [u1, u2]), ⟨hI.v1, hI.v2, (fun _ => rfl), hI.v5, hI.v6, hI.v7, hI.v8, hI.v9, hI.v12, hI.v13, hI.v14, hI.e0, hI.o4, hI.s10, hI.o11, hI.o15, hI.n4, hI.n11, hI.n10, hI.n15⟩, hsm⟩
    | 5, _ =>
      refine wpOp_step rfl (fun K' hK => ?_)
      have HK := hidden hK
      clear hK
      unfold in30F
      go_simp
      exact HK.out _ _ ⟨.slice (some ⟨ob, oo, none⟩) N oc, (by unfold in30F upd; simp), ⟨hI.v1, hI.v2, hI.v3, (fun _ => rfl), hI.v6, hI.v7, hI.v8, hI.v9, hI.v12, hI.v13, hI.v14, hI.e0, hI.o4, hI.s10, hI.o11, hI.o15, hI.n4, hI.n11, hI.n10, hI.n15⟩, hsm⟩
    | 6, _ =>
      refine wpOp_step rfl (fun K' hK => ?_)
      have HK := hidden hK
      clear hK
      unfold in30F
      go_simp
      exact HK.out _ _ ⟨.int .i64 (i0 : Int), (by unfold in30F upd; simp), ⟨hI.v1, hI.v2, hI.v3, hI.v5, (fun _ => rfl), hI.v7, hI.v8, hI.v9, hI.v12, hI.v13, hI.v14, hI.e0, hI.o4, hI.s10, hI.o11, hI.o15, hI.n4, hI.n11, hI.n10, hI.n15⟩, hsm⟩
    | 7, _ =>
      have u5 : x 5 = .slice (some ⟨ob, oo, none⟩) N oc := hI.v5 (hdep 5 (by kernel_rfl))
      have u6 : x 6 = .int .i64 (i0 : Int) := hI.v6 (hdep 6 (by kernel_rfl))
      refine wpOp_step rfl (fun K' hK => ?_)
      have HK := hidden hK
      clear hK
      unfold in30F
      simp only [u5, u6]
      go_simp
      exact HK.out _ _ ⟨.pointer (some ⟨ob, oo + i0 * 3, none⟩), (by unfold in30F upd; simp [u5, u6]), ⟨hI.v1, hI.v2, hI.v3, hI.v5, hI.v6, (fun _ => rfl), hI.v8, hI.v9, hI.v12, hI.v13, hI.v14, hI.e0, hI.o4, hI.s10, hI.o11, hI.o15, hI.n4, hI.n11, hI.n10, hI.n15⟩, hsm⟩
    | 8, _ =>
      have u7 : x 7 = .pointer (some ⟨ob, oo + i0 * 3, none⟩) := hI.v7 (hdep 7 (by kernel_rfl))
      refine wpOp_step rfl (fun K' hK => ?_)
      have HK := hidden hK
      clear hK
      unfold in30F
      simp only [u7]
      go_simp
      exact HK.out _ _ ⟨.pointer (some ⟨ob, oo + i0 * 3 + 1, none⟩), (by unfold in30F upd; simp [u7]), ⟨hI.v1, hI.v2, hI.v3, hI.v5, hI.v6, hI.v7, (fun _ => rfl), hI.v9, hI.v12, hI.v13, hI.v14, hI.e0, hI.o4, hI.s10, hI.o11, hI.o15, hI.n4, hI.n11, hI.n10, hI.n15⟩, hsm⟩
    | 9, _ =>
      have u8 : x 8 = .pointer (some ⟨ob, oo + i0 * 3 + 1, none⟩) := hI.v8 (hdep 8 (by kernel_rfl))
      refine wpOp_step rfl (fun K' hK => ?_)
      have HK := hidden hK
      clear hK
      unfold in30F
      simp only [u8]
      go_simp
      exact HK.out _ _ ⟨.string xx, (by unfold in30F upd; simp [u8]), ⟨hI.v1, hI.v2, hI.v3, hI.v5, hI.v6, hI.v7, hI.v8, (fun _ => rfl), hI.v12, hI.v13, hI.v14, hI.e0, hI.o4, hI.s10, hI.o11, hI.o15, hI.n4, hI.n11, hI.n10, hI.n15⟩, hsm⟩
    | 12, _ =>
      refine wpOp_step rfl (fun K' hK => ?_)
      have HK := hidden hK
      clear hK
      unfold in30F
      go_simp
      exact HK.out _ _ ⟨.slice ka k kc, (by unfold in30F upd; simp), ⟨hI.v1, hI.v2, hI.v3, hI.v5, hI.v6, hI.v7, hI.v8, hI.v9, (fun _ => rfl), hI.v13, hI.v14, hI.e0, hI.o4, hI.s10, hI.o11, hI.o15, hI.n4, hI.n11, hI.n10, hI.n15⟩, hsm⟩
    | 13, _ =>
      refine wpOp_step rfl (fun K' hK => ?_)
      have HK := hidden hK
      clear hK
      unfold in30F
      go_simp
      exact HK.out _ _ ⟨.int .i64 (p : Int), (by unfold in30F upd; simp), ⟨hI.v1, hI.v2, hI.v3, hI.v5, hI.v6, hI.v7, hI.v8, hI.v9, hI.v12, (fun _ => rfl), hI.v14, hI.e0, hI.o4, hI.s10, hI.o11, hI.o15, hI.n4, hI.n11, hI.n10, hI.n15⟩, hsm⟩
    | 14, _ =>
      have u12 : x 12 = .slice ka k kc := hI.v12 (hdep 12 (by kernel_rfl))
      have u13 : x 13 = .int .i64 (p : Int) := hI.v13 (hdep 13 (by kernel_rfl))
      refine wpOp_step rfl (fun K' hK => ?_)
      have HK := hidden hK
      clear hK
      unfold in30F
      simp only [u12, u13]
      go_simp
      exact HK.out _ _ ⟨.slice pt (k - p) (kc - p), (by unfold in30F upd; simp [u12, u13]), ⟨hI.v1, hI.v2, hI.v3, hI.v5, hI.v6, hI.v7, hI.v8, hI.v9, hI.v12, hI.v13, (fun _ => rfl), hI.e0, hI.o4, hI.s10, hI.o11, hI.o15, hI.n4, hI.n11, hI.n10, hI.n15⟩, hsm⟩
    | 0, _ =>
      refine wpOp_step rfl (fun K' hK => ?_)
      have HK := hidden hK
      clear hK
      unfold in30F
      go_simp
      exact HK.out _ _ ⟨.slice (some ⟨W.heap.size, 0, none⟩) 0 0, (by unfold in30F upd; simp), ⟨hI.v1, hI.v2, hI.v3, hI.v5, hI.v6, hI.v7, hI.v8, hI.v9, hI.v12, hI.v13, hI.v14, (fun _ _ => ⟨W.heap.size, rfl, hBW, blk_new _ _⟩), (fun h1 h2 => (hI.o4 h1 h2).same (same_alloc _ _)), (fun h1 h2 => (hI.s10 h1 h2).same (same_alloc _ _)), (fun h1 h2 => (hI.o11 h1 h2).same (same_alloc _ _)), (fun h1 => (hI.o15 h1).same (same_alloc _ _)), (fun _ => rfl), hI.n11, hI.n10, hI.n15⟩, hsm.alloc _⟩
    | 10, _ =>
      have u9 : x 9 = .string xx := hI.v9 (hdep 9 (by kernel_rfl))
      refine wpOp_step rfl (fun K' hK => ?_)
      have HK := hidden hK
      clear hK
      unfold in30F
      simp only [u9]
      go_simp
      exact HK.out _ _ ⟨.slice (some ⟨W.heap.size, 0, none⟩) 1 1, (by unfold in30F upd; simp [u9]), ⟨hI.v1, hI.v2, hI.v3, hI.v5, hI.v6, hI.v7, hI.v8, hI.v9, hI.v12, hI.v13, hI.v14, (fun h1 h2 => (hI.e0 h1 h2).same (same_alloc _ _)), (fun h1 h2 => (hI.o4 h1 h2).same (same_alloc _ _)), (fun _ _ => ⟨W.heap.size, rfl, blk_new _ _⟩), (fun h1 h2 => (hI.o11 h1 h2).same (same_alloc _ _)), (fun h1 => (hI.o15 h1).same (same_alloc _ _)), hI.n4, hI.n11, (fun _ => rfl), hI.n15⟩, hsm.alloc _⟩
    | 4, _ =>
      have d0 := hdep 0 (by kernel_rfl)
      have u3 : x 3 = .slice ph p kc := hI.v3 (hdep 3 (by kernel_rfl))
      have m1 : Emp w.heap.size 9 (x 0) W := hI.e0 d0 hdi
      refine wpOp_step rfl (fun K' hK => ?_)
      refine step_emp rfl _ _ 22 rfl w.heap.size 9 iz (.string ⟨#[]⟩) 16 Tryd.underlying22 hi hz0 hz1 hz2 rfl (x 0) rfl m1 _ p _ (TS (l.take p)) u3 (RPH.out W hsm) (TS_one _) (by unfold maxLen; omega) (by omega) hBW ?_
      intro u W' hu
      obtain ⟨ua, uc, rfl, uo, _⟩ := hu.apd.out
      exact hK _ _ ⟨_, rfl, ⟨hI.v1, hI.v2, hI.v3, hI.v5, hI.v6, hI.v7, hI.v8, hI.v9, hI.v12, hI.v13, hI.v14, (fun _ h => absurd (show true = false from h) (by decide)), (fun _ _ => ⟨ua, uc, rfl, uo⟩), (fun h1 h2 => (hI.s10 h1 h2).same hu.same), (fun h1 h2 => (hI.o11 h1 h2).same hu.same), (fun h1 => (hI.o15 h1).same hu.same), (fun _ => d0), (fun _ => rfl), hI.n10, hI.n15⟩, hsm.trans hu.same⟩
    | 11, _ =>
      have d4 := hdep 4 (by kernel_rfl)
      have d10 := hdep 10 (by kernel_rfl)
      obtain ⟨pa, pc, hx4, po⟩ := (hI.o4 d4 hdi).form
      obtain ⟨sa, hx10, sl⟩ := (hI.s10 d10 hdi).lies
      refine wpOp_step rfl (fun K' hK => ?_)
      refine step_append_where rfl _ _ 22 rfl w.heap.size 9 iz (.string ⟨#[]⟩) 1 16 Tryd.underlying22 hi hz0 hz1 hz2 rfl (by decide) pa p pc _ hx4 po sa 1 1 [.string xx] hx10 rfl sl (by simp [Value.oneCell']) (by unfold maxLen; omega) (by omega) hBW ?_
      intro ua uc W' uo hg hw
      rw [show TS (l.take p) ++ [Value.string xx] = TS (l.take p ++ [xx]) by simp [TS]] at uo
      exact hK _ _ ⟨_, rfl, ⟨hI.v1, hI.v2, hI.v3, hI.v5, hI.v6, hI.v7, hI.v8, hI.v9, hI.v12, hI.v13, hI.v14, (fun _ h => by have h2 : d 4 = false := h; rw [d4] at h2; cases h2), (fun _ h => absurd (show true = false from h) (by decide)), (fun _ h => absurd (show true = false from h) (by decide)), (fun _ _ => ⟨ua, uc, rfl, uo⟩), (fun h => by have h2 := hI.n15 h; rw [hdi] at h2; cases h2), hI.n4, (fun _ => d4), (fun _ => d10), (fun _ => rfl)⟩, same_grown (m := 0) hsm po hg⟩
    | 15, _ =>
      have d11 := hdep 11 (by kernel_rfl)
      have d4 := hI.n11 d11
      obtain ⟨pa, pc, hx11, po⟩ := (hI.o11 d11 hdi).form
      have u14 : x 14 = .slice pt (k - p) (kc - p) := hI.v14 (hdep 14 (by kernel_rfl))
      refine wpOp_step rfl (fun K' hK => ?_)
      refine step_append_where rfl _ _ 22 rfl w.heap.size 9 iz (.string ⟨#[]⟩) 1 16 Tryd.underlying22 hi hz0 hz1 hz2 rfl (by decide) pa (p + 1) pc _ hx11 po _ (k - p) _ (TS (l.drop p)) u14 (by rw [Nat.mul_one]; exact (RPT.out W hsm).len.1.symm) (RPT.out W hsm).lies (TS_one _) (by unfold maxLen; omega) (by omega) hBW ?_
      intro ua uc W' uo hg hw
      rw [ins_end] at uo
      have hln : p + 1 + (k - p) = k + 1 := by omega
      refine hK _ _ ⟨_, rfl, ⟨hI.v1, hI.v2, hI.v3, hI.v5, hI.v6, hI.v7, hI.v8, hI.v9, hI.v12, hI.v13, hI.v14, (fun _ h => by have h2 : d 4 = false := h; rw [d4] at h2; cases h2), (fun _ h => by have h2 : d 11 = false := h; rw [d11] at h2; cases h2), (fun _ h => by have h2 : d 11 = false := h; rw [d11] at h2; cases h2), (fun _ h => absurd (show true = false from h) (by decide)), (fun _ => ⟨ua, uc, by rw [← hln]; rfl, by rw [← hln]; exact uo⟩), hI.n4, hI.n11, hI.n10, (fun _ => d11)⟩, same_grown (m := 0) hsm po hg⟩
    | q + 16, h => exact absurd h (by omega)
  · intro d x W hsm hall hI
    obtain ⟨ra, rc, hx15, ro⟩ := (hI.o15 (hall 15 (by decide))).form
    refine wpOp_step rfl (fun K' hK => ?_)
    have HK := hidden hK
    clear hK
    have hfin := KQ.out (ovr j 166 16 x) ra rc W ro hsm
    have hfr : mpS (.slice (some ⟨ob, oo, none⟩) N oc) v1 v2 v3 v4 (.slice ra (k + 1) rc) (.int .i64 (i0 : Int)) (.int .i64 (p : Int)) v8 v9 v10 v11 v12 v13 v14 v15 (ovr j 166 16 x) = in30F (.slice (some ⟨ob, oo, none⟩) N oc) v1 v2 v3 v4 (.slice ra (k + 1) rc) (.int .i64 (i0 : Int)) (.int .i64 (p : Int)) v8 v9 v10 v11 v12 v13 v14 v15 j x := rfl
    rw [hfr] at hfin
    clear hfr hI
    unfold in30F at hfin ⊢
    simp only [hx15] at hfin ⊢
    go_simp
    exact HK.out _ _ hfin
end Go.Proofs.YtilnogadopmboaaDoor
