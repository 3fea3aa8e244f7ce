/- journal: the document's Bytes of a sector, walked. -/
import Derived.Test.YtljbmpnpbjnbkaaDoorJR1
import Derived.Test.YtljbmpnpbjnbkaaDoorJKM
namespace Go.Proofs.YtljbmpnpbjnbkaaDoor
open Go.RowKit
set_option linter.unusedVariables false
theorem conv_const (w : World) (C : Array Value) (n m : Nat) : (convert 39 39 (.slice (some ⟨w.heap.size, 0, none⟩) n m)).run Tryd.prog (w.alloc (.cells C 5)) = .ok (.slice (some ⟨w.heap.size, 0, none⟩) n m) (w.alloc (.cells C 5 (C.size, C.size + 1))) := by
  have hsh : (w.alloc (.cells C 5)).shape? w.heap.size = some (5, C.size) := by
    have : (w.alloc (.cells C 5)).heap[w.heap.size]? = some (.cells C 5) := by
      show (w.heap.push (.cells C 5))[w.heap.size]? = _
      simp
    unfold World.shape?
    rw [this]
  have hfr : (w.alloc (.cells C 5)).freeze ⟨w.heap.size, C.size, none⟩ 1 = w.alloc (.cells C 5 (C.size, C.size + 1)) := by
    have hm : ∀ (a : Array Obj) (x : Obj) (f : Obj → Obj), (a.push x).modify a.size f = a.push (f x) := by
      intro a x f
      apply Array.ext
      · simp
      · intro i h1 h2
        simp only [Array.getElem_modify, Array.getElem_push]
        by_cases h : a.size = i
        · subst h
          simp
        · have hi : i < a.size := by simp at h1; omega
          simp [h, hi]
    unfold World.freeze
    rw [if_neg (by decide)]
    show ({ w.alloc (.cells C 5) with heap := (w.heap.push (.cells C 5)).modify w.heap.size _ } : World) = _
    rw [hm]
    rfl
  simp [convert, run_underlying Tryd.underlying39, run_underlying Tryd.underlying5, markStringish, hsh, hfr]
theorem Bt.lies {w : World} {v : Value} {l : List UInt8} (h : Bt w v l) : ∃ ao cap, v = .slice ao l.length cap ∧ Lies w ao l.length (l.map U8) := by
  obtain ⟨ao, cap, rfl, h2, h3⟩ := h
  refine ⟨ao, cap, rfl, fun h0 => ?_⟩
  obtain ⟨b, off, rfl, hc⟩ := h3 h0
  refine ⟨_, rfl, fun j u hu => ?_⟩
  rw [List.getElem?_map, Option.map_eq_some_iff] at hu
  obtain ⟨x, hx, rfl⟩ := hu
  obtain ⟨hj, rfl⟩ := List.getElem?_eq_some_iff.1 hx
  rw [add_none]
  exact hc j hj
/-- Bytes in a row that the call has made since w; nothing old has turned. -/
structure Gr (w W : World) (v : Value) (l : List UInt8) : Prop where
  own : OwnM W 5 1 v l.length (l.map U8)
  new : ∀ k, v.ownBlock = some k → w.heap.size ≤ k
  same : Same w W
theorem Gr.bt {w W : World} {v : Value} {l : List UInt8} (h : Gr w W v l) : Bt W v l := Bt.ownM h.own
theorem Gr.on {w W W' : World} {v : Value} {l : List UInt8} (h : Gr w W v l) (k : Same W W') : Gr w W' v l := ⟨h.own.same k, h.new, h.same.trans k⟩
theorem Gr.fresh {w W : World} (k : Same w W) (cs : List UInt8) (fz : Nat × Nat) (hf : NoFz fz cs.length) (hl : cs.length ≤ 4096) : Gr w (W.alloc (.cells (cs.map U8).toArray 5 fz)) (.slice (some ⟨W.heap.size, 0, none⟩) cs.length cs.length) cs :=
  ⟨⟨by simp, .inr ⟨W.heap.size, cs.length, _, fz, rfl, heap_alloc_new W _, by simpa using hf, Nat.le_refl _, by unfold maxLen; omega, by simp, by simp [List.take_of_length_le]⟩⟩, fun q hq => by simp [Value.ownBlock] at hq; subst hq; exact k.size, k.alloc _⟩
theorem Gr.past {w W W' : World} {v : Value} {l : List UInt8} {row : Option Nat} (h : Gr w W v l) (hg : W.grownBy W' row) (hr : ∀ k, row = some k → w.heap.size ≤ k) (hn : ∀ k, v.ownBlock = some k → row ≠ some k) : Gr w W' v l :=
  ⟨h.own.kept (S := fun k => row = some k) ((Kept.refl _ W).grown hg (fun k e _ => e)) (fun k hk e => hn k hk e), h.new, h.same.grown hg (fun k e hlt => by have := hr k e; omega)⟩
theorem bt_of_blk {W : World} {g k : Nat} {l : List UInt8} (h : W.heap[g]? = some (.cells (l.map U8).toArray 5 (0, 0))) (hl : l.length = k) : Bt W (.slice (some ⟨g, 0, none⟩) k k) l :=
  ⟨some ⟨g, 0, none⟩, k, by rw [hl], by rw [hl]; exact Nat.le_refl _, fun _ => ⟨g, 0, rfl, fun j hj => by rw [blk_cell h]; simp [hj]⟩⟩
theorem blk_past {W W' : World} {row : Option Nat} {g : Nat} {o : Obj} (h : W.heap[g]? = some o) (hg : W.grownBy W' row) (hn : row ≠ some g) : W'.heap[g]? = some o := (hg.block g (blk_lt h) (fun e => hn e.symm)).trans h
theorem wl_app {w0 w : World} {ops : Array Oper} {rest : List Oper} {o : Oper} {a : Act} {Q : Exit → Act → World → Prop} (hgd : o.guard = none) (sl x : Operand)
    (ho : o.op = .call { callee := .builtin .append, args := #[sl, x], argTypes := #[39, 39] })
    (v u : Value) (l m : List UInt8) (hs : a.eval sl = v) (hown : Gr w0 w v l) (hx : a.eval x = u) (hb : Bt w u m) (hl : l.length + m.length ≤ 1099511627776)
    (h : ∀ v' w', Gr w0 w' v' (l ++ m) → w.grownBy w' v.ownBlock → (∀ k, k < w.heap.size → v'.ownBlock = some k → v.ownBlock = some k) → wpList Tryd.prog ops Q rest (a.put o.dst v') w') : wpList Tryd.prog ops Q (o :: rest) a w := by
  obtain ⟨i0, hi0, hz0, hz1, hz2⟩ := info_parts info5
  obtain ⟨ao, cap, rfl, hL⟩ := hb.lies
  refine wpList_append_slcM (P := Tryd.prog) w hgd sl x 39 ho 5 i0 (.int .u8 0) 1 1 Tryd.underlying39 hi0 hz0 hz1 hz2 rfl (by decide) v l.length (l.map U8) hs hown.own ao m.length cap (m.map U8) hx (by simp) hL (fun y hy => by obtain ⟨b, _, rfl⟩ := List.mem_map.1 hy; exact U8_one b) (by unfold maxLen; omega) (by omega) ?_
  intro v' w' h1 h2 h3
  refine h v' w' ⟨by rw [List.length_append, List.map_append]; exact h1, fun k hk => ?_, hown.same.grown h2 (fun r hr hlt => by have := hown.new r hr; omega)⟩ h2 h3
  by_cases hkw : k < w.heap.size
  · exact hown.new k (h3 k hkw hk)
  · have := hown.same.size
    omega
theorem copy_zero (m : Nat) (ad : Addr) (cap : Nat) (us : List UInt8) (W : World) (hb : Bt W (.slice (some ad) us.length cap) us) (hu : us.length ≤ m) (g : Nat) (hg : W.heap[g]? = some (.cells (List.replicate m (U8 0)).toArray 5 (0, 0))) :
    (Builtin.copy_ #[39, 39] 3 #[.slice (some ⟨g, 0, none⟩) m m, .slice (some ad) us.length cap]).run Tryd.prog W = .ok (goInt us.length) (W.setRow g ((us ++ List.replicate (m - us.length) 0).map U8).toArray) := by
  obtain ⟨i0, hi, hz0, hz1, hz2⟩ := info_parts info5
  obtain ⟨ao, cap', he, hL⟩ := hb.lies
  simp only [Value.slice.injEq] at he
  obtain ⟨rfl, _, rfl⟩ := he
  have h := run_copy_row (P := Tryd.prog) W 39 39 3 5 g 0 m m ad us.length cap _ _ (us.map U8) Tryd.underlying39 (by rw [hi]; simp [hz1]) hg (by rw [List.length_map]; exact (Nat.min_eq_left (by omega)).symm)
    (fun j x hx => by
      have hp : 0 < us.length := by have := (List.getElem?_eq_some_iff.1 hx).1; simp at this; omega
      obtain ⟨ad', e, hc⟩ := hL hp
      cases e
      exact hc j x hx) (by simp; omega) (fun x hx => by
      rw [List.mem_map] at hx
      obtain ⟨b, _, rfl⟩ := hx
      exact U8_one b)
  rw [List.length_map] at h
  refine h.trans ?_
  have e : List.take 0 (List.replicate m (U8 0)).toArray.toList ++ us.map U8 ++ List.drop (0 + us.length) (List.replicate m (U8 0)).toArray.toList = (us ++ List.replicate (m - us.length) 0).map U8 := by
    rw [List.toList_toArray, List.take_zero, List.nil_append, Nat.zero_add, List.drop_replicate, List.map_append, List.map_replicate]
  rw [e]
theorem high8_g (x : Nat) (hx : x < 18446744073709551616) (w : World) : Calls Tryd.prog 37 #[.int .u64 x, .int .i64 8] w fun e w' => ∃ g, e = .returned (.slice (some ⟨g, 0, none⟩) 8 8) ∧ Bt w' (.slice (some ⟨g, 0, none⟩) 8 8) (be 8 x) ∧ Same w w' :=
  (high8_any x hx w).mono fun e w' ⟨h1, h2, h3⟩ => ⟨_, h1, by
    have hl : (be 8 x).length = 8 := be_length _ _
    exact ⟨some ⟨w.heap.size, 0, none⟩, 8, by rw [hl], by rw [hl]; exact Nat.le_refl _, fun _ => ⟨_, 0, rfl, fun j hj => by rw [blk_cell h2]; simp [hj]⟩⟩, h3⟩
theorem high4_g (x : Nat) (hx : x < 18446744073709551616) (w : World) : Calls Tryd.prog 37 #[.int .u64 x, .int .i64 4] w fun e w' => ∃ g, e = .returned (.slice (some ⟨g, 0, none⟩) 4 4) ∧ Bt w' (.slice (some ⟨g, 0, none⟩) 4 4) (be 4 x) ∧ Same w w' :=
  (high4_any x hx w).mono fun e w' ⟨h1, h2, h3⟩ => ⟨_, h1, by
    have hl : (be 4 x).length = 4 := be_length _ _
    exact ⟨some ⟨w.heap.size, 0, none⟩, 4, by rw [hl], by rw [hl]; exact Nat.le_refl _, fun _ => ⟨_, 0, rfl, fun j hj => by rw [blk_cell h2]; simp [hj]⟩⟩, h3⟩
set_option maxHeartbeats 1000000 in
set_option maxRecDepth 100000 in
theorem bytesD_gr (n gen place : Nat) (ad : Addr) (vcap : Nat) (us : List UInt8) (w : World) (hb : Bt w (.slice (some ad) us.length vcap) us) (h1 : 512 ≤ n) (h2 : n ≤ 4096) (hg : gen < 18446744073709551616) (hp : place < 4294967296) (hu : us.length + 24 ≤ n) :
    Calls Tryd.prog 26 #[.int .i64 n, .int .u64 gen, .int .i64 place, .slice (some ad) us.length vcap] w fun e w' => ∃ u, e = .returned u ∧ Gr w w' u (jsec n gen place us) := by
  have hC : (([68, 74, 82, 78] : List UInt8).map U8).toArray = #[Value.int .u8 68, .int .u8 74, .int .u8 82, .int .u8 78] := rfl
  have hcv := conv_const w (([68, 74, 82, 78] : List UInt8).map U8).toArray 4 4
  have g0 : Gr w (w.alloc (.cells (([68, 74, 82, 78] : List UInt8).map U8).toArray 5 (4, 5))) (.slice (some ⟨w.heap.size, 0, none⟩) 4 4) [68, 74, 82, 78] := Gr.fresh (Kept.refl (fun _ => False) w) [68, 74, 82, 78] (4, 5) (.inr (Nat.le_refl _)) (by decide)
  rw [hC] at hcv g0
  have hcv2 : (convert 39 39 (.slice (some ⟨w.heap.size, 0, none⟩) 4 4)).run Tryd.prog (w.alloc (.cells #[Value.int .u8 68, .int .u8 74, .int .u8 82, .int .u8 78] 5)) = .ok (.slice (some ⟨w.heap.size, 0, none⟩) 4 4) (w.alloc (.cells #[Value.int .u8 68, .int .u8 74, .int .u8 82, .int .u8 78] 5 (4, 5))) := hcv
  have G0 := hidden g0
  obtain ⟨Wc, hWc⟩ : ∃ Wc, Wc = w.alloc (.cells #[Value.int .u8 68, .int .u8 74, .int .u8 82, .int .u8 78] 5 (4, 5)) := ⟨_, rfl⟩
  rw [← hWc] at hcv2 G0
  clear hcv g0 hC hWc
  have HB := hidden hb
  have H8 := hidden (high8_g gen hg)
  have H4 := hidden high4_g
  have HCr := hidden refCrc_any
  have a1 : IntKind.u64.wrap (place : Int) = (place : Int) := by rw [IntKind.wrap_u64]; omega
  have l1 : (jhead gen place us.length).length = 20 := jhead_len _ _ _
  have l2 : (jbody n us).length = n - 24 := jbody_len n us hu
  have HJb := hidden (show jbody n us = us ++ List.replicate ((n - 24) - us.length) 0 from rfl)
  have HJh := hidden (show jhead gen place us.length = [68, 74, 82, 78] ++ be 8 gen ++ be 4 place ++ be 4 us.length from rfl)
  have HFin := hidden (show jsec n gen place us = jhead gen place us.length ++ be 4 (crc (jhead gen place us.length ++ jbody n us)) ++ jbody n us from rfl)
  have hml : us.length ≤ 4096 := by omega
  have HCz := hidden (fun (W : World) g hg (k : Same w W) => copy_zero (n - 24) ad vcap us W (hb.same k) (by omega) g hg)
  obtain ⟨m, hm⟩ : ∃ m, m = us.length := ⟨_, rfl⟩
  rw [← hm] at hml HJh HFin HCz HJb l1 ⊢
  have a2 : IntKind.u64.wrap (m : Int) = (m : Int) := by rw [IntKind.wrap_u64]; omega
  obtain ⟨k, hk⟩ : ∃ k, k = n - 24 := ⟨_, rfl⟩
  have e1 : (n : Int) - 24 = (k : Int) := by omega
  have hmk := fun W => make_bytes k (by omega) W
  rw [← hk] at HCz HJb l2
  have hk2 : k ≤ 4072 := by omega
  have HL1 := hidden l1
  have HL2 := hidden l2
  have L8 : Hid ((be 8 gen).length = 8) := hidden (be_length _ _)
  have L4 : Hid (∀ x, (be 4 x).length = 4) := hidden (fun x => be_length _ _)
  have L0 : Hid (([68, 74, 82, 78] : List UInt8).length = 4) := hidden rfl
  have HZr := hidden (fun (W : World) => blk_new W (.cells (List.replicate k (U8 0)).toArray 5))
  generalize hZ : (List.replicate k (U8 0)).toArray = Z at hmk HCz HZr
  clear hZ hk hb hm h1 h2
  generalize ([68, 74, 82, 78] : List UInt8) = M at *
  obtain ⟨JBD, hJBD⟩ : ∃ JBD, JBD = jbody n us := ⟨_, rfl⟩
  rw [← hJBD] at HJb HFin HL2
  obtain ⟨JHD, hJHD⟩ : ∃ JHD, JHD = jhead gen place m := ⟨_, rfl⟩
  rw [← hJHD] at HJh HFin HL1
  rw [← HJb.out] at HCz
  have HRw := hidden (fun (W : World) => setRow_heap (W.alloc (.cells Z 5)) W.heap.size Z (JBD.map U8).toArray 5 (0, 0) (HZr.out W))
  have HCl := hidden (crc_lt (JHD ++ JBD))
  have HCs := hidden (fun W => HCr.out ⟨(JHD ++ JBD).toArray⟩ W (by rw [ba_size, List.length_append, HL1.out, HL2.out]; omega))
  rw [ba_list] at HCs
  obtain ⟨cr, hcr⟩ : ∃ cr, cr = crc (JHD ++ JBD) := ⟨_, rfl⟩
  rw [← hcr] at HFin HCl HCs
  have a3 : IntKind.u64.wrap (cr : Int) = (cr : Int) := by have := HCl.out; rw [IntKind.wrap_u64]; omega
  obtain ⟨R, hR⟩ : ∃ R, R = (JBD.map U8).toArray := ⟨_, rfl⟩
  rw [← hR] at HCz HRw
  have HR := hidden hR
  clear hJBD hJHD hcr hR HJb HCr
  go_enter Tryd.func26, Tryd.ntmps26
  go_wp2_with (first
    | (at_builtin; refine wl_app rfl _ _ rfl _ _ _ _ rfl G6.out rfl (bt_of_blk (HR.out ▸ RB6.out) HL2.out) (by rw [List.length_append, HL1.out, L4.out, HL2.out]; omega) ?_; intro v7 w7 g7 _ _; have G7 := hidden g7; clear g7)
    | (at_builtin; refine wl_app rfl _ _ rfl v3 _ _ _ rfl G3.out rfl B6.out (by rw [HL1.out, L4.out]; omega) ?_; intro v6 w6 g6 gr6 _; have G6 := hidden g6; have RB6 := hidden (blk_past RB5.out gr6 (fun e => by have := N3.out _ e; omega)); clear g6 gr6 B6)
    | (at_builtin; refine wl_app rfl _ _ rfl v4 _ _ _ rfl G4.out rfl (bt_of_blk (HR.out ▸ RB4.out) HL2.out) (by rw [List.nil_append, HL1.out, HL2.out]; omega) ?_; intro v5 w5 g5 gr5 _; rw [List.nil_append] at g5; have RB5 := hidden (blk_past RB4.out gr5 (fun e => by have := N4.out _ e; omega)); have G3 := hidden (G3.out.past gr5 (fun k e => by have := N4.out _ e; have := HS3.out; omega) (fun k hk e => by have := N4.out _ e; have := N3.out _ hk; omega)); have hcv5 := g5.bt.text; clear g5 gr5)
    | (at_builtin; refine wl_app rfl _ _ rfl (.slice (some ⟨w3.heap.size + 1, 0, none⟩) 0 0) _ _ _ rfl G4e.out rfl (G3a.out.bt) (by rw [List.length_nil, HL1.out]; decide) ?_; intro v4 w4 g4 gr4 ow4; have G4 := hidden g4; have N4 : Hid (∀ k, v4.ownBlock = some k → w3.heap.size + 1 ≤ k) := hidden (fun k hk => by by_cases hlt : k < (((w3.alloc (.cells Z 5)).setRow w3.heap.size R).alloc (.cells #[] 5)).heap.size; (· have := ow4 k hlt hk; simp [Value.ownBlock] at this; omega); (· simp at hlt; omega)); have RB4 := hidden (blk_past RB3.out gr4 (fun e => by simp [Value.ownBlock] at e)); have G3 := hidden (G3a.out.past gr4 (fun k e => by have e2 : w3.heap.size + 1 = k := (by simpa [Value.ownBlock] using e); have := HS3.out; omega) (fun k hk e => by have e2 : w3.heap.size + 1 = k := (by simpa [Value.ownBlock] using e); have := N3.out _ hk; omega)); clear g4 gr4 ow4)
    | (at_builtin; refine wl_app rfl _ _ rfl _ _ _ _ rfl G2.out rfl B3.out (by rw [List.length_append, List.length_append, L0.out, L8.out, L4.out, L4.out]; decide) ?_; intro v3 w3 g3 _ _; rw [← HJh.out] at g3; have N3 : Hid (∀ k, v3.ownBlock = some k → k < w3.heap.size) := hidden (fun k hk => g3.own.lt hk); have HS3 := hidden g3.same.size; have hcz := HCz.out (w3.alloc (.cells Z 5)) w3.heap.size (HZr.out w3) (g3.same.alloc _); have sm3 : Same w3 ((w3.alloc (.cells Z 5)).setRow w3.heap.size R) := same_setRow (same_alloc _ _) (Nat.le_refl _) _; have G3a := hidden (g3.on (sm3.alloc (.cells #[] 5))); have RB3 := hidden (blk_alloc (HRw.out w3) (.cells #[] 5)); have G4e : Hid (Gr w (((w3.alloc (.cells Z 5)).setRow w3.heap.size R).alloc (.cells #[] 5)) (.slice (some ⟨w3.heap.size + 1, 0, none⟩) 0 0) []) := hidden (by have h := Gr.fresh (g3.same.trans sm3) [] (0, 0) (.inl rfl) (by decide); rw [show ((w3.alloc (.cells Z 5)).setRow w3.heap.size R).heap.size = w3.heap.size + 1 by simp] at h; exact h); clear g3 sm3 G2 B3)
    | (at_builtin; refine wl_app rfl _ _ rfl _ _ _ _ rfl G1.out rfl B2.out (by rw [List.length_append, L0.out, L8.out, L4.out]; decide) ?_; intro v2 w2 g2 _ _; have G2 := hidden g2; clear g2 B2)
    | (at_builtin; refine wl_app rfl _ _ rfl _ _ _ _ rfl G0.out rfl B1.out (by rw [L0.out, L8.out]; decide) ?_; intro v1 w1 g1 _ _; have G1 := hidden g1; clear g1 B1)
    | (go_at_call 37; have aG := tC; clear aG; refine (H4.out cr (by have := HCl.out; omega) _).mono ?_; rintro e y6 ⟨q6, rfl, b6, k6⟩; have B6 := hidden b6; have G3 := hidden (G3.out.on k6); have RB5 := hidden (blk_kept k6 (fun h => h) RB5.out); clear b6 k6)
    | (go_at_call 37; have aG := G2; clear aG; refine (H4.out m (by omega) _).mono ?_; rintro e y3 ⟨q3, rfl, b3, k3⟩; have B3 := hidden b3; have G2 := hidden (G2.out.on k3); clear b3 k3)
    | (go_at_call 37; have aG := G1; clear aG; refine (H4.out place (by omega) _).mono ?_; rintro e y2 ⟨q2, rfl, b2, k2⟩; have B2 := hidden b2; have G1 := hidden (G1.out.on k2); clear b2 k2)
    | (go_at_call 37; refine (H8.out _).mono ?_; rintro e y1 ⟨q1, rfl, b1, k1⟩; have B1 := hidden b1; have G0 := hidden (G0.out.on k1); clear b1 k1)
    | (go_at_call 47; refine (HCs.out _).mono ?_; rintro e y5 ⟨rfl, rfl⟩; have tC : True := trivial))
  go_returns
  exact ⟨_, rfl, by rw [HFin.out]; exact G7.out⟩
theorem bytesD_any (n gen place : Nat) (ad : Addr) (vcap : Nat) (us : List UInt8) (w : World) (hb : Bt w (.slice (some ad) us.length vcap) us) (h1 : 512 ≤ n) (h2 : n ≤ 4096) (hg : gen < 18446744073709551616) (hp : place < 4294967296) (hu : us.length + 24 ≤ n) :
    Calls Tryd.prog 26 #[.int .i64 n, .int .u64 gen, .int .i64 place, .slice (some ad) us.length vcap] w fun e w' => ∃ u, e = .returned u ∧ Bt w' u (jsec n gen place us) ∧ Same w w' :=
  (bytesD_gr n gen place ad vcap us w hb h1 h2 hg hp hu).mono fun e w' ⟨u, h, g⟩ => ⟨u, h, g.bt, g.same⟩
end Go.Proofs.YtljbmpnpbjnbkaaDoor
