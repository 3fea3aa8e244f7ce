/- pack: the document's power, foot. (Made by mkps5.py.) -/
import Derived.Test.YtafdkfieajdeiaaDoorPS4
namespace Go.Proofs.YtafdkfieajdeiaaDoor
open Go.RowKit
set_option linter.unusedVariables false
set_option linter.unusedSimpArgs false
structure Gr (w W : World) (v : Value) (l : List UInt8) : Prop where
  own : OwnM W 5 1 v l.length (l.map U8)
  new : ∀ k, v.ownBlock = some k → w.heap.size ≤ k
  same : Same w W
theorem Gr.bt {w W : World} {v : Value} {l : List UInt8} (h : Gr w W v l) : Bt W v l := Bt.ownM h.own
theorem Gr.on {w W W' : World} {v : Value} {l : List UInt8} (h : Gr w W v l) (k : Same W W') : Gr w W' v l := ⟨h.own.same k, h.new, h.same.trans k⟩
theorem Gr.fresh {w W : World} (k : Same w W) (cs : List UInt8) (fz : Nat × Nat) (hf : NoFz fz cs.length) (hl : cs.length ≤ 4096) : Gr w (W.alloc (.cells (cs.map U8).toArray 5 fz)) (.slice (some ⟨W.heap.size, 0, none⟩) cs.length cs.length) cs :=
  ⟨⟨by simp, .inr ⟨W.heap.size, cs.length, _, fz, rfl, heap_alloc_new W _, by simpa using hf, Nat.le_refl _, by unfold maxLen; omega, by simp, by simp [List.take_of_length_le]⟩⟩, fun q hq => by simp [Value.ownBlock] at hq; subst hq; exact k.size, k.alloc _⟩
theorem wl_app {w0 w : World} {ops : Array Oper} {rest : List Oper} {o : Oper} {a : Act} {Q : Exit → Act → World → Prop} (hgd : o.guard = none) (sl x : Operand)
    (ho : o.op = .call { callee := .builtin .append, args := #[sl, x], argTypes := #[32, 32] })
    (v u : Value) (l m : List UInt8) (hs : a.eval sl = v) (hown : Gr w0 w v l) (hx : a.eval x = u) (hb : Bt w u m) (hl : l.length + m.length ≤ 1099511627776)
    (h : ∀ v' w', Gr w0 w' v' (l ++ m) → w.grownBy w' v.ownBlock → (∀ k, k < w.heap.size → v'.ownBlock = some k → v.ownBlock = some k) → wpList Tryd.prog ops Q rest (a.put o.dst v') w') : wpList Tryd.prog ops Q (o :: rest) a w := by
  obtain ⟨i0, hi0, hz0, hz1, hz2⟩ := info_parts info5
  obtain ⟨ao, cap, rfl, _⟩ := hb.form
  have hL := hb.lies
  refine wpList_append_slcM (P := Tryd.prog) w hgd sl x 32 ho 5 i0 (.int .u8 0) 1 1 Tryd.underlying32 hi0 hz0 hz1 hz2 rfl (by decide) v l.length (l.map U8) hs hown.own ao m.length cap (m.map U8) hx (by simp) hL (fun y hy => by obtain ⟨b, _, rfl⟩ := List.mem_map.1 hy; exact U8_one b) (by unfold maxLen; omega) (by omega) ?_
  intro v' w' h1 h2 h3
  refine h v' w' ⟨by rw [List.length_append, List.map_append]; exact h1, fun k hk => ?_, hown.same.grown h2 (fun r hr hlt => by have := hown.new r hr; omega)⟩ h2 h3
  by_cases hkw : k < w.heap.size
  · exact hown.new k (h3 k hkw hk)
  · have := hown.same.size
    omega
theorem high4_g (x : Nat) (hx : x < 18446744073709551616) (w : World) : Calls Tryd.prog 49 #[.int .u64 x, .int .i64 4] w fun e w' => ∃ g, e = .returned (.slice (some ⟨g, 0, none⟩) 4 4) ∧ Bt w' (.slice (some ⟨g, 0, none⟩) 4 4) (be 4 x) ∧ Same w w' :=
  (high_any x hx w).mono fun e w' ⟨h1, h2, h3⟩ => ⟨_, h1, by
    have hl : (be 4 x).length = 4 := be_length _ _
    exact ⟨some ⟨w.heap.size, 0, none⟩, 4, by rw [hl], by rw [hl]; exact Nat.le_refl _, fun _ => ⟨_, 0, rfl, fun j hj => by rw [blk_cell h2]; simp [hj]⟩⟩, h3⟩
set_option maxHeartbeats 1000000 in
set_option maxRecDepth 100000 in
theorem power_any (n : Int) (w : World) : Calls Tryd.prog 37 #[.int .i64 n] w fun e w' => e = .returned (.bool (decide (PSize n))) ∧ w = w' := by
  have hd : decide (PSize n) = (decide (n = 512) || decide (n = 1024) || decide (n = 2048) || decide (n = 4096)) := by
    rw [Bool.eq_iff_iff, decide_eq_true_eq]
    simp only [Bool.or_eq_true, decide_eq_true_eq]
    unfold PSize Pow
    omega
  rw [hd]
  by_cases h1 : n = 512
  · subst h1
    go_enter Tryd.func37, Tryd.ntmps37
    go_wp2
    go_returns
    exact ⟨rfl, rfl⟩
  · by_cases h2 : n = 1024
    · subst h2
      go_enter Tryd.func37, Tryd.ntmps37
      go_wp2
      go_returns
      exact ⟨rfl, rfl⟩
    · by_cases h3 : n = 2048
      · subst h3
        go_enter Tryd.func37, Tryd.ntmps37
        go_wp2
        go_returns
        exact ⟨rfl, rfl⟩
      · by_cases h4 : n = 4096
        · subst h4
          go_enter Tryd.func37, Tryd.ntmps37
          go_wp2
          go_returns
          exact ⟨rfl, rfl⟩
        · have q1 : (n == 512) = false := by simpa using h1
          have q2 : (n == 1024) = false := by simpa using h2
          have q3 : (n == 2048) = false := by simpa using h3
          have q4 : (n == 4096) = false := by simpa using h4
          have e : (decide (n = 512) || decide (n = 1024) || decide (n = 2048) || decide (n = 4096)) = false := by simp [h1, h2, h3, h4]
          rw [e]
          go_enter Tryd.func37, Tryd.ntmps37
          go_wp2
          go_returns
          exact ⟨rfl, rfl⟩
theorem wp_append_where {P : Program} {w : World} {o : Oper} {a : Act} {K : Act → World → Prop} {Q : Exit → Act → World → Prop} (s x : Operand) (t : TypeId)
    (ho : o.op = .call { callee := .builtin .append, args := #[s, x], argTypes := #[t, t] })
    (base : Nat) (e : TypeId) (i : TypeInfo) (z : Value) (size bytes : Nat) (ht : P.underlying t = some (.slice e)) (hi : P.info? e = some i) (hz : i.zero = some z)
    (hsize : i.size = size) (hby : i.bytes = bytes) (hzs : z.cells.size = size) (hsz : 0 < size)
    (a0 : Option Addr) (n c0 : Nat) (xs : List Value) (hs : a.eval s = .slice a0 n c0) (hown : w.ownsRow base e size (.slice a0 n c0) n xs)
    (ao : Option Addr) (m c : Nat) (news : List Value) (hx : a.eval x = .slice ao m c) (hl : news.length = m * size) (hnews : Lies w ao m news) (h1 : ∀ u ∈ news, u.oneCell' = true)
    (h63 : n + m ≤ maxLen) (hbytes : (n + m) * bytes ≤ 140737488355328) (hbase : base ≤ w.heap.size)
    (h : ∀ a' cap w', w'.ownsRow base e size (.slice a' (n + m) cap) (n + m) (xs ++ news) → w.grownBy w' (Value.slice a0 n c0).ownBlock → (∀ g, (Value.slice a' (n + m) cap).ownBlock = some g → (Value.slice a0 n c0).ownBlock = some g ∨ g = w.heap.size) → K (a.put o.dst (.slice a' (n + m) cap)) w') : o.wp P a w K Q := by
  obtain ⟨a', cap, w', hr, h2, h3, h4⟩ := run_append_where (P := P) w t o.type base e i z size bytes ht hi hz hsize hby hzs hsz a0 n c0 xs hown ao m c news hl hnews h1 h63 hbytes hbase
  unfold Oper.wp execOp
  simp only [ho, resolve, invoke, builtin, Sem.run_bind, Sem.run_pure, Result.andThen_ok, List.map_toArray, List.map_cons, List.map_nil, hs, hx, hr]
  exact h a' cap w' h2 h3 h4
theorem wpList_append_where {P : Program} {w : World} {ops : Array Oper} {rest : List Oper} {o : Oper} {a : Act} {Q : Exit → Act → World → Prop} (hgd : o.guard = none) (s x : Operand) (t : TypeId)
    (ho : o.op = .call { callee := .builtin .append, args := #[s, x], argTypes := #[t, t] })
    (base : Nat) (e : TypeId) (i : TypeInfo) (z : Value) (size bytes : Nat) (ht : P.underlying t = some (.slice e)) (hi : P.info? e = some i) (hz : i.zero = some z)
    (hsize : i.size = size) (hby : i.bytes = bytes) (hzs : z.cells.size = size) (hsz : 0 < size)
    (a0 : Option Addr) (n c0 : Nat) (xs : List Value) (hs : a.eval s = .slice a0 n c0) (hown : w.ownsRow base e size (.slice a0 n c0) n xs)
    (ao : Option Addr) (m c : Nat) (news : List Value) (hx : a.eval x = .slice ao m c) (hl : news.length = m * size) (hnews : Lies w ao m news) (h1 : ∀ u ∈ news, u.oneCell' = true)
    (h63 : n + m ≤ maxLen) (hbytes : (n + m) * bytes ≤ 140737488355328) (hbase : base ≤ w.heap.size)
    (h : ∀ a' cap w', w'.ownsRow base e size (.slice a' (n + m) cap) (n + m) (xs ++ news) → w.grownBy w' (Value.slice a0 n c0).ownBlock → (∀ g, (Value.slice a' (n + m) cap).ownBlock = some g → (Value.slice a0 n c0).ownBlock = some g ∨ g = w.heap.size) → wpList P ops Q rest (a.put o.dst (.slice a' (n + m) cap)) w') : wpList P ops Q (o :: rest) a w :=
  wpList_plain hgd fun _ hK => wp_append_where s x t ho base e i z size bytes ht hi hz hsize hby hzs hsz a0 n c0 xs hs hown ao m c news hx hl hnews h1 h63 hbytes hbase fun a' cap w' h2 h3 h4 => hK _ _ (h a' cap w' h2 h3 h4)
set_option maxHeartbeats 4000000 in
set_option maxRecDepth 100000 in
theorem foot_any (m E : Nat) (hm : m < 4294967296) (hE : E < 4294967296) (w : World) :
    Calls Tryd.prog 51 #[.int .i64 m, .int .i64 E] w fun e w' => ∃ v, e = .returned v ∧ Bt w' v (edgeB dfot m E) ∧ Same w w' := by
  have hC : (([68, 70, 79, 84] : List UInt8).map U8).toArray = #[Value.int .u8 68, .int .u8 70, .int .u8 79, .int .u8 84] := rfl
  have hcv := conv_const w (([68, 70, 79, 84] : List UInt8).map U8).toArray 4 4
  have g0 : Gr w (w.alloc (.cells (([68, 70, 79, 84] : List UInt8).map U8).toArray 5 (4, 5))) (.slice (some ⟨w.heap.size, 0, none⟩) 4 4) [68, 70, 79, 84] := Gr.fresh (Kept.refl (fun _ => False) w) [68, 70, 79, 84] (4, 5) (.inr (Nat.le_refl _)) (by decide)
  rw [hC] at hcv g0
  have hcv2 : (convert 32 32 (.slice (some ⟨w.heap.size, 0, none⟩) 4 4)).run Tryd.prog (w.alloc (.cells #[Value.int .u8 68, .int .u8 70, .int .u8 79, .int .u8 84] 5)) = .ok (.slice (some ⟨w.heap.size, 0, none⟩) 4 4) (w.alloc (.cells #[Value.int .u8 68, .int .u8 70, .int .u8 79, .int .u8 84] 5 (4, 5))) := hcv
  have G0 := hidden g0
  obtain ⟨Wc, hWc⟩ : ∃ Wc, Wc = w.alloc (.cells #[Value.int .u8 68, .int .u8 70, .int .u8 79, .int .u8 84] 5 (4, 5)) := ⟨_, rfl⟩
  rw [← hWc] at hcv2 G0
  clear hcv g0 hC hWc
  have a1' : IntKind.u64.wrap (m : Int) = (m : Int) := by rw [IntKind.wrap_u64]; omega
  have a2' : IntKind.u64.wrap (E : Int) = (E : Int) := by rw [IntKind.wrap_u64]; omega
  have H1 := hidden (fun W => high4_g m (by omega) W)
  have H2 := hidden (fun W => high4_g E (by omega) W)
  have L4 : Hid (∀ x, (be 4 x).length = 4) := hidden (fun x => be_length _ _)
  obtain ⟨F8, hF8⟩ : ∃ x, ([68, 70, 79, 84] : List UInt8) ++ be 4 m = x := ⟨_, rfl⟩
  have l8 : F8.length = 8 := by rw [← hF8, List.length_append, be_length]; rfl
  obtain ⟨F12, hF12⟩ : ∃ x, F8 ++ be 4 E = x := ⟨_, rfl⟩
  have l12 : F12.length = 12 := by rw [← hF12, List.length_append, l8, be_length]
  have HSm := hidden (fun W v (h : Bt W v F12) => sum_any v F12 W h (by rw [l12]; decide))
  have HFin : Hid (F12 ++ be 4 (crc F12) = edgeB dfot m E) := by rw [Hid, ← hF12, ← hF8]; rfl
  have HF8 := hidden hF8
  have HF12 := hidden hF12
  have HL8 := hidden l8
  have HL12 := hidden l12
  have t1 : True := trivial
  clear hF8 hF12 l8 l12 hm hE
  go_enter Tryd.func51, Tryd.ntmps51
  go_wp2_with (first
    | (go_at_call 49; have _t := t1; clear t1; refine (H1.out _).mono ?_; rintro e w1 ⟨p1, rfl, b1, k1⟩; have B1 := hidden b1; have G1 := hidden (G0.out.on k1); have t2 : True := trivial; clear b1 k1)
    | (at_builtin; have _t := t2; clear t2; refine wl_app (w0 := w) rfl _ _ rfl _ _ _ _ rfl G1.out rfl B1.out (by rw [L4.out]; decide) ?_; intro v2 w2 g2 _ _; rw [HF8.out] at g2; have G2 := hidden g2; have t3 : True := trivial; clear g2 B1)
    | (go_at_call 49; have _t := t3; clear t3; refine (H2.out _).mono ?_; rintro e w3 ⟨p3, rfl, b3, k3⟩; have B3 := hidden b3; have G3 := hidden (G2.out.on k3); have t4 : True := trivial; clear b3 k3)
    | (at_builtin; have _t := t4; clear t4; refine wl_app (w0 := w) rfl _ _ rfl _ _ _ _ rfl G3.out rfl B3.out (by rw [HL8.out, L4.out]; decide) ?_; intro v4 w4 g4 _ _; rw [HF12.out] at g4; have G4 := hidden g4; have t5 : True := trivial; clear g4 B3)
    | (go_at_call 50; refine (HSm.out _ _ G4.out.bt).mono ?_; rintro e w5 ⟨p5, rfl, b5, _, _, k5⟩; have B5 := hidden b5; have G5 := hidden (G4.out.on k5); clear b5 k5)
    | (at_builtin; have _t := t5; clear t5; refine wl_app (w0 := w) rfl _ _ rfl _ _ _ _ rfl G5.out rfl B5.out (by rw [HL12.out, L4.out]; decide) ?_; intro v6 w6 g6 _ _; rw [HFin.out] at g6; have G6 := hidden g6; clear g6))
  go_returns
  exact ⟨_, rfl, G6.out.bt, G6.out.same⟩
end Go.Proofs.YtafdkfieajdeiaaDoor
