/- A slice of pieces among a law's arguments, opened under a bound on all that is read. -/
import Derived.Test.YtbankcgkbiflhaaDoorSK
namespace Go.Proofs.YtbankcgkbiflhaaDoor
open Go.ChangeShapes Go.WideShapes Go.ChangeAt Go.RowKit Go.Joins Go.ChangeMaps
set_option linter.unusedVariables false
theorem bulk_pos {H : Type} : ∀ d : DataW H, 1 ≤ Rows.uptoBulk d
  | .lit (.string _) => by simp [Rows.uptoBulk]
  | .lit (.bool _) => by simp [Rows.uptoBulk]
  | .lit _ => by unfold Rows.uptoBulk; split <;> omega
  | .nil => by simp [Rows.uptoBulk]
  | .ptr _ => by simp [Rows.uptoBulk]
  | .slice _ _ => by simp [Rows.uptoBulk]
  | .agg _ => by simp [Rows.uptoBulk]
  | .iface _ _ => by simp [Rows.uptoBulk]
  | .map _ => by simp [Rows.uptoBulk]
  | .held _ => by simp [Rows.uptoBulk]
theorem bulk_len {H : Type} : ∀ l : List (DataW H), l.length ≤ Rows.uptoBulkAll l
  | [] => Nat.zero_le _
  | d :: l => by
    have h1 := bulk_pos d
    have h2 := bulk_len l
    simp only [Rows.uptoBulkAll, List.length_cons]
    omega
/-- What is weighed item by item is weighed in all. -/
theorem bulk_sum {H : Type} : ∀ (E : List (DataW H)) (f : Nat → Nat), (∀ i (h : i < E.length), f i ≤ Rows.uptoBulk E[i]) → ((List.range E.length).map f).sum ≤ Rows.uptoBulkAll E
  | [], _, _ => by simp
  | d :: E, f, hf => by
    have h0 := hf 0 (by simp)
    have h1 := bulk_sum E (fun i => f (i + 1)) (fun i hi => hf (i + 1) (by simpa using hi))
    simp only [List.length_cons, List.range_succ_eq_map, List.map_cons, List.sum_cons, List.map_map, Rows.uptoBulkAll]
    have e : (List.map (f ∘ Nat.succ) (List.range E.length)).sum = ((List.range E.length).map fun i => f (i + 1)).sum := rfl
    rw [e]
    simp only [List.getElem_cons_zero] at h0
    omega
structure Pce where
  v : Value
  bs : List UInt8
  cp : Bool
  ask : Bool
instance : Inhabited Pce := ⟨⟨.slice none 0 0, [], false, false⟩⟩
def Pcs (w : World) (v : Value) (n : Nat) (f : Nat → Pce) : Prop :=
  ∃ a cap, v = .slice a n cap ∧ (0 < n → ∃ b off, a = some ⟨b, off, none⟩ ∧ ∀ i, i < n → Byt w (f i).v (f i).bs ∧ w.cell? ⟨b, off + i * 3, none⟩ = some (f i).v ∧ w.cell? ⟨b, off + i * 3 + 1, none⟩ = some (.bool (f i).cp) ∧ w.cell? ⟨b, off + i * 3 + 2, none⟩ = some (.bool (f i).ask))
theorem cellsSl : Tryd.prog.cellsOf 22 = 1 := by kernel_rfl
theorem cellsBo : Tryd.prog.cellsOf 4 = 1 := by kernel_rfl
theorem cellsPc : Tryd.prog.cellsOf 45 = 3 := by kernel_rfl
theorem bytes_trod {H : Type} {enc : TypeId × Value → H} {W : World} {held : Bool} {fuel : Nat} {c0 : Value} {x : DataW H × List MemPlace} (hf : DataW.trod enc Tryd.prog W 0 (fun _ => true) held fuel 22 [c0] = some x) : ∃ l : List UInt8, Byt W c0 l ∧ l.length ≤ Rows.uptoBulk x.1 := by
  rcases open_ints Tryd.underlying22 Tryd.underlying5 cellsY hf with ⟨hcs, hx⟩ | ⟨a, len, cap, zs, hcs, hq, hl, hm, hz, hx, hcell, hwz⟩
  · have hc : c0 = .slice none 0 0 := by simpa using hcs
    subst hc
    exact ⟨[], Byt.nil _, by simp⟩
  · have hc : c0 = .slice (some a) len cap := by simpa using hcs
    subst hc
    simp only [if_pos] at hz
    have hb : ∀ z ∈ zs, 0 ≤ z ∧ z ≤ 255 := fun z hz' => by simpa [Lit.wf, IntKind.min, IntKind.max, IntKind.signed, IntKind.bits] using hwz z hz'
    have hlen : ((zs.take len).map fun z => UInt8.ofNat z.toNat).length = len := by rw [List.length_map, List.length_take]; omega
    have hkey : ∀ j x, ((zs.take len).map fun z => UInt8.ofNat z.toNat)[j]? = some x → W.cell? (a.add j) = some (U8 x) := by
      intro j x hj
      have hj1 : j < len := by have := (List.getElem?_eq_some_iff.1 hj).1; rw [hlen] at this; exact this
      have hjz : j < zs.length := by omega
      rw [hcell j hjz]
      have h1 : zs.getD j 0 = zs[j] := by simp [hjz]
      have h3 := hb zs[j] (List.getElem_mem hjz)
      rw [h1, U8_of _ h3.1 h3.2]
      simp [hj1, hjz] at hj
      rw [hj]
    refine ⟨(zs.take len).map fun z => UInt8.ofNat z.toNat, ⟨some a, cap, by rw [hlen], by rw [hlen]; omega, (fun e => by cases e), fun hp => ?_⟩, ?_⟩
    · obtain ⟨b, off, spot⟩ := a
      have h0 := hkey 0 _ (List.getElem?_eq_getElem hp)
      have hspot : spot = none := by simpa [Addr.add] using World.cell?_spot h0
      subst hspot
      refine ⟨b, off, rfl, fun j x hj => ?_⟩
      have := hkey j x hj
      rwa [add_plain] at this
    · have hd : x.1 = .slice (lits .u8 (zs.take len)) (lits .u8 (zs.drop len)) := congrArg Prod.fst hx
      rw [hd, hlen]
      have h1 := bulk_len (H := H) (lits .u8 (zs.take len))
      simp only [lits, List.length_map, List.length_take] at h1
      simp only [Rows.uptoBulk, lits]
      omega
theorem piece_trod {H : Type} {enc : TypeId × Value → H} {W : World} {held : Bool} {fuel : Nat} {c0 c1 c2 : Value} {x : DataW H × List MemPlace} (h : DataW.trod enc Tryd.prog W 0 (fun _ => true) held fuel 45 [c0, c1, c2] = some x) :
    ∃ p : Pce, Byt W p.v p.bs ∧ c0 = p.v ∧ c1 = .bool p.cp ∧ c2 = .bool p.ask ∧ p.bs.length + 1 ≤ Rows.uptoBulk x.1 := by
  obtain ⟨xs, n, _, hx, _, hlen, hf⟩ := DataW.trod_struct Tryd.underlying45 h
  have hl : xs.length = 3 := hlen
  match xs, hl with
  | [x0, x1, x2], _ =>
    have h0 : DataW.trod enc Tryd.prog W 0 (fun _ => true) held n 22 (List.take (Tryd.prog.cellsOf 22) (List.drop 0 [c0, c1, c2])) = some x0 := hf 0 _ rfl
    have h1 : DataW.trod enc Tryd.prog W 0 (fun _ => true) held n 4 (List.take (Tryd.prog.cellsOf 4) (List.drop 1 [c0, c1, c2])) = some x1 := hf 1 _ rfl
    have h2 : DataW.trod enc Tryd.prog W 0 (fun _ => true) held n 4 (List.take (Tryd.prog.cellsOf 4) (List.drop 2 [c0, c1, c2])) = some x2 := hf 2 _ rfl
    rw [cellsSl] at h0
    rw [cellsBo] at h1 h2
    obtain ⟨l, hb, hbl⟩ := bytes_trod h0
    obtain ⟨b1, q1, _⟩ := DataW.trod_bool Tryd.underlying4 h1
    obtain ⟨b2, q2, _⟩ := DataW.trod_bool Tryd.underlying4 h2
    simp at q1 q2
    refine ⟨⟨c0, l, b1, b2⟩, hb, rfl, q1, q2, ?_⟩
    have e : x.1 = .agg [x0.1, x1.1, x2.1] := by rw [hx]; rfl
    rw [e]
    have p1 := bulk_pos x1.1
    simp only [Rows.uptoBulk, Rows.uptoBulkAll]
    show l.length + 1 ≤ _
    omega
set_option maxRecDepth 100000 in
theorem pieces_openU {H : Type} {enc : TypeId × Value → H} {W : World} {base : Nat} {v : Value} {d : DataW H} {p : List MemPlace} (hv : Value.okWide Tryd.prog W .any base 41 v) (h : DataW.Trod enc Tryd.prog W 0 (fun _ => true) true 41 v d p) :
    ∃ (n : Nat) (f : Nat → Pce), Pcs W v n f ∧ ((List.range n).map fun i => (f i).bs.length + 1).sum ≤ Rows.uptoBulk d := by
  obtain ⟨a1, len1, cap1, rfl⟩ := okWide_slice Tryd.underlying41 hv
  obtain ⟨fuel, hf⟩ := h
  rcases DataW.trod_slice Tryd.underlying41 hf with ⟨hcs, hx⟩ | ⟨a, len, cap, elems, rest, n, _, hcs, hx, _, hl, hm, he, hel, _, _⟩
  · simp [Value.cells] at hcs
    obtain ⟨rfl, rfl, rfl⟩ := hcs
    exact ⟨0, fun _ => default, ⟨none, 0, rfl, fun h => by omega⟩, by simp⟩
  · simp [Value.cells] at hcs
    obtain ⟨rfl, rfl, rfl⟩ := hcs
    rw [cellsPc] at hel
    have hd : d = .slice (elems.map (·.1)) (rest.map (·.1)) := congrArg Prod.fst hx
    have key : ∀ i, i < len1 → ∃ q : Pce, Byt W q.v q.bs ∧ W.cell? (a.add (i * 3)) = some q.v ∧ W.cell? ((a.add (i * 3)).add 1) = some (.bool q.cp) ∧ W.cell? ((a.add (i * 3)).add 2) = some (.bool q.ask) ∧ ∀ (hi : i < (elems.map (·.1)).length), q.bs.length + 1 ≤ Rows.uptoBulk (elems.map (·.1))[i] := by
      intro i hi
      have h1 := hel i hi
      have h2 : elems[i]? = some elems[i] := List.getElem?_eq_getElem (by omega)
      rw [h2] at h1
      obtain ⟨cs, hc, ht⟩ := Option.bind_eq_some_iff.1 h1
      obtain ⟨_, hcl, hcc⟩ := World.cells?_some hc
      match cs, hcl with
      | [c0, c1, c2], _ =>
        obtain ⟨q, hb, rfl, rfl, rfl, hbk⟩ := piece_trod ht
        have z0 := hcc 0 (by decide)
        exact ⟨q, hb, by simpa [Addr.add] using z0, hcc 1 (by decide), hcc 2 (by decide), fun hi => by simpa using hbk⟩
    obtain ⟨f, hfk⟩ := Go.Deep.choose_lt (α := Pce) key
    refine ⟨len1, f, ⟨some a, cap1, rfl, fun hpos => ?_⟩, ?_⟩
    · obtain ⟨b, off, spot⟩ := a
      have hspot : spot = none := by
        obtain ⟨_, h0, _⟩ := hfk 0 hpos
        simpa [Addr.add] using World.cell?_spot h0
      subst hspot
      refine ⟨b, off, rfl, fun i hi => ?_⟩
      obtain ⟨hB, h0, h1, h2, _⟩ := hfk i hi
      rw [add_plain] at h0 h1 h2
      rw [add_plain] at h1 h2
      exact ⟨hB, h0, h1, h2⟩
    · have hle : (elems.map (·.1)).length = len1 := by rw [List.length_map]; exact he
      have hs := bulk_sum (elems.map (·.1)) (fun i => (f i).bs.length + 1) (fun i hi => (hfk i (by omega)).2.2.2.2 hi)
      rw [hle] at hs
      rw [hd]
      simp only [Rows.uptoBulk]
      omega
end Go.Proofs.YtbankcgkbiflhaaDoor
