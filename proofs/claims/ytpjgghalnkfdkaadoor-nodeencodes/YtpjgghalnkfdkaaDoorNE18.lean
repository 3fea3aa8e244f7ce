/- node: bytes among a law's arguments, opened; both Decodes whatever they are handed; what is told of a node. -/
import Derived.Test.YtpjgghalnkfdkaaDoorCTab
import Derived.Test.YtpjgghalnkfdkaaDoorNE17
import Derived.OpenShut
namespace Go.Proofs.YtpjgghalnkfdkaaDoor
open Go.ChangeShapes Go.WideShapes Go.ChangeAt Go.RowKit Go.Joins Go.ChangeMaps
set_option linter.unusedVariables false
set_option linter.unusedSimpArgs false
theorem cellsY : Tryd.prog.cellsOf 5 = 1 := by kernel_rfl
theorem bytesY : Tryd.prog.bytesOf 5 = 1 := by kernel_rfl
set_option maxRecDepth 100000 in
/-- Bytes among a law's arguments, opened. -/
theorem bytes_open {H : Type} {enc : TypeId × Value → H} {W : World} {base : Nat} {v : Value} {d : DataW H} {p : List MemPlace} (hv : Value.okWide Tryd.prog W .any base 27 v) (h : DataW.Trod enc Tryd.prog W 0 (fun _ => true) true 27 v d p) :
    ∃ l : List UInt8, Bt W v l ∧
      ∀ (ts : List TypeId) (ds : List (DataW H)) (j : Nat), (DataW.weightsEach Tryd.prog ts ds).all (· ≤ reachBytes) = true → ts[j]? = some 27 → ds[j]? = some d → l.length ≤ 140737488351232 := by
  obtain ⟨a1, len1, cap1, rfl⟩ := okWide_slice Tryd.underlying27 hv
  obtain ⟨fuel, hf⟩ := h
  rcases open_ints Tryd.underlying27 Tryd.underlying5 cellsY hf with ⟨hcs, hx⟩ | ⟨a, len, cap, zs, hcs, hq, hl, hm, hz, hx, hcell, hwz⟩
  · simp [Value.cells] at hcs
    obtain ⟨rfl, rfl, rfl⟩ := hcs
    exact ⟨[], Bt.nil _, fun _ _ _ _ _ _ => by simp⟩
  · simp [Value.cells] at hcs
    obtain ⟨rfl, rfl, rfl⟩ := hcs
    simp only [if_pos] at hz
    have hb : ∀ z ∈ zs, 0 ≤ z ∧ z ≤ 255 := fun z hz' => by simpa [Lit.wf, IntKind.min, IntKind.max, IntKind.signed, IntKind.bits] using hwz z hz'
    have hlen : ((zs.take len1).map fun z => UInt8.ofNat z.toNat).length = len1 := by rw [List.length_map, List.length_take]; omega
    have hkey : ∀ j x, ((zs.take len1).map fun z => UInt8.ofNat z.toNat)[j]? = some x → W.cell? (a.add j) = some (U8 x) := by
      intro j x hj
      have hj1 : j < len1 := by have := (List.getElem?_eq_some_iff.1 hj).1; rw [hlen] at this; exact this
      have hjz : j < zs.length := by omega
      rw [hcell j hjz]
      have h1 : zs.getD j 0 = zs[j] := by simp [hjz]
      have h3 := hb zs[j] (List.getElem_mem hjz)
      rw [h1, U8_of _ h3.1 h3.2]
      simp [hj1, hjz] at hj
      rw [hj]
    refine ⟨(zs.take len1).map fun z => UInt8.ofNat z.toNat, ⟨some a, cap1, by rw [hlen], by rw [hlen]; omega, fun hp => ?_⟩, ?_⟩
    · obtain ⟨b, off, spot⟩ := a
      have h0 := hkey 0 _ (List.getElem?_eq_getElem hp)
      have hspot : spot = none := by simpa [Addr.add] using World.cell?_spot h0
      subst hspot
      refine ⟨b, off, rfl, fun j hj => ?_⟩
      have := hkey j _ (List.getElem?_eq_getElem hj)
      rwa [add_none] at this
    · intro ts ds j hall hts hds
      have hd : d = .slice (lits .u8 (zs.take len1)) (lits .u8 (zs.drop len1)) := congrArg Prod.fst hx
      rw [hd] at hds
      have := sized_slice hall (j := j) hts hds Tryd.underlying27
      rw [bytesY] at this
      simp only [lits, List.length_map, List.length_take, List.length_drop, reachBytes] at this
      rw [hlen]
      omega
theorem decode_any (sz : Int) (b : List UInt8) (v : Value) (w : World) (hb : Bt w v b) (hT : Tab w) :
    Calls Tryd.prog 18 #[.int .i64 sz, v] w fun e w' => ∃ u, e = .returned u ∧ DeQ sz b w u w' := by
  by_cases hj : JSize sz
  · obtain ⟨s, rfl⟩ : ∃ s : Nat, sz = (s : Int) := ⟨sz.toNat, by have := hj.1; omega⟩
    obtain ⟨ao, cap, rfl, _⟩ := hb.form
    by_cases hl : b.length = s
    · subst hl
      exact decode_fit _ b ao cap w hb hj hT
    · exact decode_len s b ao _ cap w hb hj hl
  · exact decode_size sz b v w hj
theorem refDecode_any (sz : Int) (b : List UInt8) (v : Value) (w : World) (hb : Bt w v b) :
    Calls Tryd.prog 19 #[.int .i64 sz, v] w fun e w' => ∃ u, e = .returned u ∧ DeQ sz b w u w' := by
  by_cases hj : JSize sz
  · obtain ⟨s, rfl⟩ : ∃ s : Nat, sz = (s : Int) := ⟨sz.toNat, by have := hj.1; omega⟩
    obtain ⟨ao, cap, rfl, _⟩ := hb.form
    by_cases hl : b.length = s
    · subst hl
      exact refDecode_fit _ b ao cap w hb hj
    · exact refDecode_len s b ao _ cap w hb hj hl
  · exact refDecode_size sz b v w hj
theorem Nd.zero_bdE : Nd.zero.Bd := ⟨by simp [Nd.zero], by simp [Nd.zero], by simp [Nd.zero]⟩
theorem fine_lens {n : Nd} (h : n.Fine) : n.vals.length ≤ n.keys.length ∧ n.kids.length ≤ n.keys.length + 1 := by
  cases hl : n.leaf
  · obtain ⟨e1, e2⟩ := h.inner hl
    rw [e1]; simp; omega
  · obtain ⟨e1, e2⟩ := h.leaf hl
    rw [e2]; simp; omega
theorem fine_bd {n : Nd} (h : n.Fine) (hs : n.size ≤ 4096) : n.Bd := by
  have := fine_keys h
  have := fine_lens h
  exact ⟨by omega, by omega, by omega⟩
/-- What a node that was read is. -/
theorem dec_yes {sz : Int} {b : List UInt8} (h : (Nd.dec sz b).2 = 0) : JSize sz ∧ (b.length : Int) = sz ∧ IsN b (Nd.dec sz b).1 := by
  unfold Nd.dec at h ⊢
  by_cases hj : JSize sz
  · rw [if_pos hj] at h ⊢
    by_cases hl : (b.length : Int) = sz
    · rw [if_pos hl] at h ⊢
      cases hd : decD b with
      | none => rw [hd] at h; exact absurd h (by decide)
      | some n => exact ⟨hj, hl, (decD_iff b (by have := hj.2.1; omega) n).1 hd⟩
    · rw [if_neg hl] at h; exact absurd h (by decide)
  · rw [if_neg hj] at h; exact absurd h (by decide)
theorem dec_no {sz : Int} {b : List UInt8} (h : (Nd.dec sz b).2 ≠ 0) : (Nd.dec sz b).1 = Nd.zero := by
  unfold Nd.dec at h ⊢
  by_cases hj : JSize sz
  · rw [if_pos hj] at h ⊢
    by_cases hl : (b.length : Int) = sz
    · rw [if_pos hl] at h ⊢
      cases hd : decD b with
      | none => rfl
      | some n => rw [hd] at h; exact absurd rfl h
    · rw [if_neg hl]
  · rw [if_neg hj]
theorem isN_size {b : List UInt8} {n : Nd} (h : IsN b n) : n.size ≤ b.length := by
  rw [← body_len (chk_fine h.chk)]; exact h.fit
theorem dec_bd (sz : Int) (b : List UInt8) : (Nd.dec sz b).1.Bd := by
  by_cases h : (Nd.dec sz b).2 = 0
  · obtain ⟨hj, hl, hn⟩ := dec_yes h
    exact fine_bd (chk_fine hn.chk) (by have := isN_size hn; have := hj.2.1; omega)
  · rw [dec_no h]; exact Nd.zero_bdE
/-- What a node's bytes are read as. -/
theorem isN_dec {sz : Int} {b : List UInt8} {n : Nd} (hj : JSize sz) (hl : (b.length : Int) = sz) (h : IsN b n) : Nd.dec sz b = (n, 0) := by
  unfold Nd.dec
  rw [if_pos hj, if_pos hl, (decD_iff b (by have := hj.2.1; omega) n).2 h]
theorem isN_enc {sz : Int} {b : List UInt8} {n : Nd} (hj : JSize sz) (hl : (b.length : Int) = sz) (h : IsN b n) : n.encE sz = 0 ∧ n.encB sz = b := by
  have hs := isN_size h
  have he : n.encE sz = 0 := by
    unfold Nd.encE
    rw [if_pos h.chk, if_pos hj, if_neg (by omega)]
  refine ⟨he, ?_⟩
  unfold Nd.encB
  rw [if_pos he, show sz.toNat = b.length by omega]
  exact h.enc
theorem enc_isN {sz : Int} {n : Nd} (he : n.encE sz = 0) : JSize sz ∧ ((n.encB sz).length : Int) = sz ∧ IsN (n.encB sz) n := by
  unfold Nd.encB
  rw [if_pos he]
  unfold Nd.encE at he
  by_cases hc : n.chk = 0
  · rw [if_pos hc] at he
    by_cases hj : JSize sz
    · rw [if_pos hj] at he
      by_cases hf : sz < (n.size : Int)
      · rw [if_pos hf] at he; exact absurd he (by decide)
      · have hb := body_len (chk_fine hc)
        have hl : (n.enc sz.toNat).length = sz.toNat := encS_len _ _ _ _ (by omega)
        have h0 := hj.1
        exact ⟨hj, by rw [hl]; omega, ⟨hc, by rw [hl]; omega, by rw [hl]⟩⟩
    · rw [if_neg hj] at he; exact absurd he (by decide)
  · rw [if_neg hc] at he; exact absurd he hc
/-- append of bytes, however many. -/
theorem wl_appW {w0 w : World} {ops : Array Oper} {rest : List Oper} {o : Oper} {a : Act} {Q : Exit → Act → World → Prop} (hgd : o.guard = none) (sl x : Operand)
    (ho : o.op = .call { callee := .builtin .append, args := #[sl, x], argTypes := #[27, 27] })
    (v u : Value) (l m : List UInt8) (hs : a.eval sl = v) (hown : Gr w0 w v l) (hx : a.eval x = u) (hb : Bt w u m) (hl : l.length + m.length ≤ 140737488355328)
    (h : ∀ v' w', Gr w0 w' v' (l ++ m) → wpList Tryd.prog ops Q rest (a.put o.dst v') w') : wpList Tryd.prog ops Q (o :: rest) a w := by
  obtain ⟨i0, hi0, hz0, hz1, hz2⟩ := info_parts info5
  obtain ⟨ao, cap, rfl, hL⟩ := hb.lies
  refine wpList_append_slcM (P := Tryd.prog) w hgd sl x 27 ho 5 i0 (.int .u8 0) 1 1 Tryd.underlying27 hi0 hz0 hz1 hz2 rfl (by decide) v l.length (l.map U8) hs hown.own ao m.length cap (m.map U8) hx (by simp) hL (fun y hy => by obtain ⟨b, _, rfl⟩ := List.mem_map.1 hy; exact U8_one b) (by unfold maxLen; omega) (by omega) ?_
  intro v' w' h1 h2 h3
  refine h v' w' ⟨by rw [List.length_append, List.map_append]; exact h1, fun k hk => ?_, hown.same.grown h2 (fun r hr hlt => by have := hown.new r hr; omega)⟩
  by_cases hkw : k < w.heap.size
  · exact hown.new k (h3 k hkw hk)
  · have := hown.same.size
    omega
end Go.Proofs.YtpjgghalnkfdkaaDoor
