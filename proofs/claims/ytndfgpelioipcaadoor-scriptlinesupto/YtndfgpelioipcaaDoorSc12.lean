/- script: a line's words read: grammar.parse, walked. -/
import Derived.Test.YtndfgpelioipcaaDoorSc11
import Derived.Test.YtndfgpelioipcaaDoorShR
import Derived.BigQuiet
import Derived.Deep.QuietTactic
namespace Go.Proofs.YtndfgpelioipcaaDoor
open Go.RowKit Go.Maps Go.WideMaps
set_option linter.unusedVariables false
set_option linter.unusedSimpArgs false
abbrev nw (P : List UInt8) : Option Int := num P
/-- A field that is let be what a word says. -/
def OpR.tak (o : OpR) (c : UInt8) (x : List UInt8) : Option OpR := if isT c then (unq x).map (o.setT c) else (nw x).map (o.setN c)
def OpR.tav (o : OpR) (c : UInt8) (x : List UInt8) : OpR := if isT c then o.setT c ((unq x).getD []) else o.setN c ((nw x).getD 0)
theorem tak_tav {o o2 : OpR} {c : UInt8} {x : List UInt8} (h : o.tak c x = some o2) : o.tav c x = o2 := by
  unfold OpR.tak at h
  unfold OpR.tav
  split at h
  · rename_i hc
    rw [if_pos hc]
    cases hu : unq x with
    | none => simp [hu] at h
    | some t => simpa [hu] using h
  · rename_i hc
    rw [if_neg hc]
    cases hu : nw x with
    | none => simp [hu] at h
    | some t => simpa [hu] using h
theorem take_any (c : UInt8) (hc : isL c = true) (g : Nat) (o : OpR) (x : List UInt8) (w : World) (T : Tb w) (h : OpB w g o) (hx : x.length ≤ 17592186044416) :
    Calls Tryd.prog 38 #[.pointer (some ⟨g, 0, none⟩), .int .u8 (c.toNat : Int), .string (BA x)] w fun e w' => e = .returned (.bool (o.tak c x).isSome) ∧ OpB w' g (o.tav c x) ∧ KG g w w' := by
  have hs : (BA x).size ≤ 17592186044416 := by rw [BA_size]; exact hx
  rcases isL_cases hc with rfl | rfl | rfl | rfl | rfl | rfl | rfl
  · have := take80 g o (BA x) w h hs
    rw [BA_data] at this
    exact this.mono fun e w' ⟨h1, h2, h3⟩ => ⟨by rw [h1]; simp [OpR.tak, isT], h2, h3⟩
  · have := take81 g o (BA x) w h hs
    rw [BA_data] at this
    exact this.mono fun e w' ⟨h1, h2, h3⟩ => ⟨by rw [h1]; simp [OpR.tak, isT], h2, h3⟩
  · have := take68 g o (BA x) w h hs
    rw [BA_data] at this
    exact this.mono fun e w' ⟨h1, h2, h3⟩ => ⟨by rw [h1]; simp [OpR.tak, isT], h2, h3⟩
  · have := take72 g o (BA x) w T h hs
    rw [BA_data] at this
    exact this.mono fun e w' ⟨h1, h2, h3⟩ => ⟨by rw [h1]; simp [OpR.tak, isT], h2, h3⟩
  · have := take79 g o (BA x) w T h hs
    rw [BA_data] at this
    exact this.mono fun e w' ⟨h1, h2, h3⟩ => ⟨by rw [h1]; simp [OpR.tak, isT], h2, h3⟩
  · have := take78 g o (BA x) w T h hs
    rw [BA_data] at this
    exact this.mono fun e w' ⟨h1, h2, h3⟩ => ⟨by rw [h1]; simp [OpR.tak, isT], h2, h3⟩
  · have := take70 g o (BA x) w T h hs
    rw [BA_data] at this
    exact this.mono fun e w' ⟨h1, h2, h3⟩ => ⟨by rw [h1]; simp [OpR.tak, isT], h2, h3⟩
/-- The fields read, letter by letter. -/
def ps (o : OpR) : List UInt8 → List (List UInt8) → Option OpR
  | [], _ => some o
  | _ :: _, [] => none
  | c :: r, x :: xs => match o.tak c x with | some o2 => ps o2 r xs | none => none
/-- The operation of words. -/
def prw : List (List UInt8) → Option OpR
  | [] => none
  | x :: xs => if kdOf x = 0 ∨ xs.length ≠ (flL (kdOf x)).length then none else ps (OpR.only (kdOf x)) (flL (kdOf x)) xs
def psV : Option OpR → Value
  | some o => .tuple #[.agg o.cs, .bool true]
  | none => .tuple #[.agg OpR.zero.cs, .bool false]
/-- How far the reading is. -/
structure QI (o : OpR) (L : List UInt8) (xs : List (List UInt8)) (k : Nat) (ok : OpR) : Prop where
  eq : ps o L xs = ps ok (L.drop k) (xs.drop k)
theorem QI.zero (o : OpR) (L : List UInt8) (xs : List (List UInt8)) : QI o L xs 0 o := ⟨by rw [List.drop_zero, List.drop_zero]⟩
theorem QI.step {o ok o2 : OpR} {L : List UInt8} {xs : List (List UInt8)} {k : Nat} {c : UInt8} {x : List UInt8} (h : QI o L xs k ok) (hc : L[k]? = some c) (hx : xs[k]? = some x) (ht : ok.tak c x = some o2) : QI o L xs (k + 1) o2 := by
  have h1 := (List.getElem?_eq_some_iff.1 hc).1
  have h2 := (List.getElem?_eq_some_iff.1 hx).1
  refine ⟨?_⟩
  rw [h.eq, List.drop_eq_getElem_cons h1, List.drop_eq_getElem_cons h2, (List.getElem?_eq_some_iff.1 hc).2, (List.getElem?_eq_some_iff.1 hx).2]
  simp only [ps, ht]
theorem QI.no {o ok : OpR} {L : List UInt8} {xs : List (List UInt8)} {k : Nat} {c : UInt8} {x : List UInt8} (h : QI o L xs k ok) (hc : L[k]? = some c) (hx : xs[k]? = some x) (ht : ok.tak c x = none) : ps o L xs = none := by
  have h1 := (List.getElem?_eq_some_iff.1 hc).1
  have h2 := (List.getElem?_eq_some_iff.1 hx).1
  rw [h.eq, List.drop_eq_getElem_cons h1, List.drop_eq_getElem_cons h2, (List.getElem?_eq_some_iff.1 hc).2, (List.getElem?_eq_some_iff.1 hx).2]
  simp only [ps, ht]
theorem QI.done {o ok : OpR} {L : List UInt8} {xs : List (List UInt8)} {k : Nat} (h : QI o L xs k ok) (hk : L.length ≤ k) : ps o L xs = some ok := by
  rw [h.eq, List.drop_of_length_le hk]
  simp [ps]
theorem res_row2 {P : Program} {fn : Func} {a : Act} {w : World} {s g u : Nat} {ty : TypeId} {v x : Value} (hr : fn.results = #[.cell s ty, .tmp u]) (hx : a.tmps[s]?.getD undef = .pointer (some ⟨g, 0, none⟩)) (hv : (loadVar ty ⟨g, 0, none⟩).run P w = .ok v w) (hu : a.tmps[u]?.getD undef = x) : (results fn a.tmps).run P w = .ok (.tuple #[v, x]) w := by
  simp [results, hr, asAddr, hx, hv, hu]
theorem field1 (a b : ByteArray) (W : World) : (Instr.field 68 (.agg #[.string a, .string b]) 1).run Tryd.prog W = .ok (.string b) W := by kernel_rfl
theorem i28 : (Tryd.prog.info? 28).map (·.size) = some 8 := by kernel_rfl
theorem st_op {w : World} {g : Nat} {o o2 : OpR} (h : OpB w g o) : (Instr.storeAt 28 (.pointer (some ⟨g, 0, none⟩)) (.agg o2.cs)).run Tryd.prog w = .ok () (w.setRow g o2.cs) := st_row h 8 i28 rfl rfl (by simp [OpR.cs, Value.oneCell'])
theorem ld_op {w : World} {g : Nat} {o : OpR} (h : OpB w g o) : (Instr.loadAt 28 (.pointer (some ⟨g, 0, none⟩))).run Tryd.prog w = .ok (.agg o.cs) w := ld_row h Tryd.underlying28 rfl 8 i28 rfl
theorem lv_op {w : World} {g : Nat} {o : OpR} (h : OpB w g o) : (loadVar 28 ⟨g, 0, none⟩).run Tryd.prog w = .ok (.agg o.cs) w := lv_row h Tryd.underlying28 rfl 8 i28 rfl
theorem opb_row {w : World} {g : Nat} {o : OpR} (h : OpB w g o) (o2 : OpR) : OpB (w.setRow g o2.cs) g o2 := setRow_heap w g _ _ _ _ h
theorem zeroOp (w : World) : (zeroValue 28).run Tryd.prog w = .ok (.agg OpR.zero.cs) w := by kernel_rfl
set_option maxHeartbeats 1000000 in
set_option maxRecDepth 100000 in
theorem parse_any (x0 : List UInt8) (xs : List (List UInt8)) (a : Option Addr) (n c : Nat) (B bf bk : Nat) (w : World) (T : Tb w) (G : Gr B w bf bk) (r : Row w (.slice a n c) (TS ((x0 :: xs).map BA))) (hx : ∀ x ∈ x0 :: xs, x.length ≤ 1099511627776) (hxs : xs.length ≤ 1099511627776) :
    Calls Tryd.prog 28 #[.agg #[.map (some bf), .map (some bk)], .slice a n c] w fun e w' => e = .returned (psV (prw (x0 :: xs))) ∧ Same w w' := by
  have hn : n = xs.length + 1 := by have := r.tl; simp at this; exact this.symm
  obtain ⟨b1, o1, rfl, hc1⟩ := r.at (by simp [TS])
  have hX0 : w.cell? ⟨b1, o1, none⟩ = some (.string (BA x0)) := by have := hc1 0 (.string (BA x0)) (by simp [TS]); simpa using this
  have HXi := hidden (fun i x (h : xs[i]? = some x) => hc1 (i + 1) (.string (BA x)) (by simp [TS, h]))
  obtain ⟨W2, hW2⟩ : ∃ W2, W2 = (w.alloc (.cells #[.map (some bf), .map (some bk)] 51)).alloc (.cells OpR.zero.cs 28) := ⟨_, rfl⟩
  have hS2 : Same w W2 := by rw [hW2]; exact (same_alloc _ _).alloc _
  have hG2 : ∀ q, Gr B (W2.drewN q) bf bk := fun q => G.same (hS2.drewN q)
  have hkn : ∀ q, (Instr.lookup 49 (.map (some bk)) (.string (BA x0)) true).run Tryd.prog (W2.drewN q) = .ok (.tuple #[.int .i64 (kdOf x0), .bool (decide (kdOf x0 ≠ 0))]) (W2.drewN q) := fun q => by
    have := (hG2 q).kind (BA x0) (by rw [BA_size]; have := hx x0 (by simp); omega)
    rw [BA_data] at this
    exact this
  have hkd : kdOf x0 ≤ 19 := by
    by_cases h : kdOf x0 = 0
    · omega
    · exact (nm_kd x0 h).2.2
  have hfo : ∀ q, (Instr.lookup 48 (.map (some bf)) (.int .i64 (kdOf x0)) false).run Tryd.prog (W2.drewN q) = .ok (frV (kdOf x0)) (W2.drewN q) := fun q => (hG2 q).form _ (by omega) (by omega)
  have cx0 : ∀ q, (W2.drewN q).cell? ⟨b1, o1, none⟩ = some (.string (BA x0)) := fun q => (hS2.drewN q).cell (fun h => h) hX0
  have cg : ∀ q, (W2.drewN q).heap[w.heap.size]? = some (.cells #[.map (some bf), .map (some bk)] 51 (0, 0)) := fun q => by
    have : W2.heap[w.heap.size]? = some (.cells #[.map (some bf), .map (some bk)] 51 (0, 0)) := by rw [hW2]; exact blk_alloc (blk_new w _) _
    exact blk_kept ((Kept.refl (fun _ => False) W2).drewN q) (fun h => h) this
  have cgf : ∀ q, (W2.drewN q).cell? ⟨w.heap.size, 0, none⟩ = some (.map (some bf)) := fun q => blk_cell (cg q)
  have cgk : ∀ q, (W2.drewN q).cell? ⟨w.heap.size, 1, none⟩ = some (.map (some bk)) := fun q => blk_cell (cg q)
  have hZ : ∀ q, OpB (W2.drewN q) (w.heap.size + 1) OpR.zero := fun q => by
    have : OpB W2 (w.heap.size + 1) OpR.zero := by
      have h := blk_new (w.alloc (.cells #[.map (some bf), .map (some bk)] 51)) (.cells OpR.zero.cs 28)
      rw [show (w.alloc (.cells #[.map (some bf), .map (some bk)] 51)).heap.size = w.heap.size + 1 by simp] at h
      rw [hW2]
      exact h
    exact blk_kept ((Kept.refl (fun _ => False) W2).drewN q) (fun h => h) this
  have HZ := hidden hZ
  have HS2 := hidden hS2
  have HT := hidden T
  have hsz2 : W2.heap.size = w.heap.size + 1 + 1 := by rw [hW2]; simp
  have HSz := hidden hsz2
  have hcz : OpR.zero.cs = #[.int .i64 0, .string ⟨#[]⟩, .string ⟨#[]⟩, .int .i64 0, .int .i64 0, .int .i64 0, .int .i64 0, .string ⟨#[]⟩] := rfl
  rw [hcz] at hW2
  have hkn0 := hkn 0
  have hfo0 := hfo 0
  have cx00 := cx0 0
  have cgf0 := cgf 0
  have cgk0 := cgk 0
  change (Instr.lookup 49 (.map (some bk)) (.string (BA x0)) true).run Tryd.prog W2 = .ok _ W2 at hkn0
  change W2.cell? _ = _ at cx00 cgf0 cgk0
  have hn0 : (0 : Int) < (n : Int) := by omega
  have hfld := field1
  have hn1 : 0 < n := by omega
  obtain ⟨kd, hkdd⟩ : ∃ kd, kdOf x0 = kd := ⟨_, rfl⟩
  have HKd := hidden hkdd
  rw [hkdd] at hkn hkd hfo hkn0 hfo0
  clear hkdd
  go_enter Tryd.func28, Tryd.ntmps28
  go_wp2
  rw [← hW2]
  have HN := hidden hn
  clear hW2 hn hsz2 hZ hG2 cg hS2
  go_quiet (fail)
  have z1 := HZ.out nq
  have f1 := hfo nq
  have c1 := cgf nq
  have s1 : Same w (W2.drewN nq) := HS2.out.drewN nq
  have hg : w.heap.size + 1 + 1 ≤ (W2.drewN nq).heap.size := by have := ((Kept.refl (fun _ => False) W2).drewN nq).size; have := HSz.out; omega
  generalize W2.drewN nq = W3 at *
  have HS3 := hidden s1
  have HZ3 := hidden z1
  clear hkn hfo cx0 cgf cgk hkn0 hfo0 cx00 cgf0 cgk0 z1 s1
  by_cases hk0 : kd = 0
  · subst hk0
    have hfr : frV ((0 : Nat) : Int) = .agg #[.string ⟨#[]⟩, .string ⟨#[]⟩] := rfl
    rw [hfr] at f1
    have f1' : (Instr.lookup 48 (.map (some bf)) (.int .i64 0) false).run Tryd.prog W3 = .ok (.agg #[.string ⟨#[]⟩, .string ⟨#[]⟩]) W3 := f1
    have HNo := hidden (show prw (x0 :: xs) = none by simp only [prw]; rw [if_pos (.inl HKd.out)])
    go_wp2_with (refine wl_store 28 _ _ rfl rfl rfl (w.heap.size + 1) rfl OpR.zero.cs rfl (st_op HZ3.out) ?_)
    have hlv := lv_op (opb_row HZ3.out OpR.zero)
    have S9 := hidden (HS3.out.setRow (g := w.heap.size + 1) (.inl (by omega)) OpR.zero.cs)
    generalize W3.setRow (w.heap.size + 1) OpR.zero.cs = W9 at *
    exact bodyPost_ret (res_row2 Tryd.results28 rfl hlv rfl) rfl ⟨by rw [HNo.out]; rfl, S9.out⟩
  · have hkd1 : 1 ≤ kd := by omega
    have hfr : frV (kd : Int) = .agg #[.string (BA (nmL kd)), .string (BA (flL kd))] := by unfold frV; rw [if_pos (by omega), Int.toNat_natCast]; rfl
    rw [hfr] at f1
    have d0 : decide (kd = 0) = false := decide_eq_false hk0
    obtain ⟨fL3, fLl⟩ := fl_isL kd hkd
    have HPw := hidden (show prw (x0 :: xs) = if kd = 0 ∨ xs.length ≠ (flL kd).length then none else ps (OpR.only kd) (flL kd) xs by simp only [prw]; rw [HKd.out])
    have hml : ((BA (flL kd)).size : Int) = ((flL kd).length : Int) := by rw [BA_size]
    have HAt := hidden (fun W j b h => str_at (BA (flL kd)) W j b h)
    rw [BA_data] at HAt
    generalize BA (nmL kd) = yN at *
    generalize flL kd = L at *
    obtain ⟨m, hm⟩ : ∃ m, m = L.length := ⟨_, rfl⟩
    rw [← hm] at hml fL3 HPw
    have HM := hidden hm
    have HFl := hidden fLl
    generalize BA L = yL at *
    have w1 : IntKind.i64.wrap (1 + (m : Int)) = 1 + (m : Int) := by rw [IntKind.wrap_i64]; omega
    clear hm fLl hfr
    by_cases hln : xs.length = m
    · have q1 : (n : Int) = 1 + (m : Int) := by rw [HN.out]; omega
      have d1 : ((n : Int) == 1 + (m : Int)) = true := by simpa using q1
      have HQ := hidden (QI.zero (OpR.only kd) L xs)
      have HTk := hidden take_any
      have HPs := hidden (show prw (x0 :: xs) = ps (OpR.only kd) L xs by rw [HPw.out, if_neg (by omega)])
      have HLn := hidden hln
      have hnm : n = m + 1 := by rw [HN.out, hln]
      have HNm := hidden hnm
      clear hln hnm q1
      go_wp2
      obtain ⟨g, hgg⟩ : ∃ g, g = W3.heap.size := ⟨_, rfl⟩
      have HB0 : Hid (OpB (W3.alloc (.cells #[.int .i64 (kd : Int), .string ⟨#[]⟩, .string ⟨#[]⟩, .int .i64 0, .int .i64 0, .int .i64 0, .int .i64 0, .string ⟨#[]⟩] 28)) g (OpR.only kd)) := hidden (by rw [hgg]; exact blk_new W3 _)
      rw [← hgg] at hg ⊢
      clear hgg
      rw [show (!decide (kd = 0)) = true by simp [hk0], show ((n : Int) != 1 + (m : Int)) = false by rw [bne, d1]; rfl]
      go_loopw [40] (fun v wr => ∃ (k : Nat) (ok : OpR), v = .int .i64 k ∧ k ≤ m ∧ QI (OpR.only kd) L xs k ok ∧ OpB wr g ok ∧ OpB wr (w.heap.size + 1) OpR.zero ∧ Same w wr) (fun v _ => m - (intOf v).toNat)
      case atStart => exact ⟨0, OpR.only kd, rfl, Nat.zero_le _, HQ.out, HB0.out, blk_alloc HZ3.out _, HS3.out.alloc _⟩
      case round =>
        obtain ⟨k, ok, rfl, hkm, hQ, hB, hZ, hS⟩ := hrel
        have HQ1 := hidden hQ
        have HB := hidden hB
        have HZ1 := hidden hZ
        have HS := hidden hS
        clear hQ hB hZ hS
        by_cases h1 : k < m
        · obtain ⟨b, hb⟩ : ∃ b, L[k]? = some b := ⟨_, List.getElem?_eq_getElem (by rw [← HM.out]; exact h1)⟩
          obtain ⟨x, hxk⟩ : ∃ x, xs[k]? = some x := ⟨_, List.getElem?_eq_getElem (by rw [HLn.out]; exact h1)⟩
          have x1 := fun W => HAt.out W k b hb
          have hbL := HFl.out b (List.mem_of_getElem? hb)
          have hxl : x.length ≤ 17592186044416 := by have := hx x (by simp [List.mem_of_getElem? hxk]); omega
          have cX : wr.cell? ⟨b1, o1 + (k + 1), none⟩ = some (.string (BA x)) := HS.out.cell (p := ⟨b1, o1 + (k + 1), none⟩) (fun h => h) (HXi.out k x hxk)
          have q2 : (k : Int) < (m : Int) := by omega
          have q3 : 1 + (k : Int) < (n : Int) := by rw [HNm.out]; omega
          have q4 : (0 : Int) ≤ 1 + (k : Int) := by omega
          have t1 : (1 + (k : Int)).toNat = k + 1 := by omega
          have w2 : IntKind.i64.wrap (1 + (k : Int)) = 1 + (k : Int) := by rw [IntKind.wrap_i64]; omega
          have hsn : g ≠ w.heap.size + 1 := by omega
          have HTd : Hid (∀ W : World, W.heap = wr.heap → W.os = wr.os → W.tape = wr.tape → W.output = wr.output → Tb W ∧ OpB W g ok) := hidden (fun W h1 h2 h3 h4 => by
            have k : Same wr W := ⟨h2, h3, h4, by rw [h1]; exact Nat.le_refl _, fun i _ _ => by rw [h1]⟩
            exact ⟨(HT.out.same HS.out).same k, opb_kept HB.out k (fun h => h)⟩)
          cases htk : ok.tak b x with
          | none =>
            have HNo := hidden (show prw (x0 :: xs) = none by rw [HPs.out, HQ1.out.no hb hxk htk])
            clear hb hxk
            go_wp2
            go_region_law (refine step_call rfl 38 #[.pointer (some ⟨g, 0, none⟩), .int .u8 (b.toNat : Int), .string (BA x)] (fun v W => v = .bool false ∧ OpB W g (ok.tav b x) ∧ KG g wr W) (by go_simp; try rfl) ((HTk.out b hbL g ok x wr.drew (HTd.out wr.drew rfl rfl rfl rfl).1 (HTd.out wr.drew rfl rfl rfl rfl).2 hxl).mono (fun e w' ⟨h1, h2, h3⟩ => ⟨_, h1, by rw [htk]; rfl, h2, ⟨h3.os, h3.tape, h3.output, h3.size, h3.block⟩⟩)) ?_; rintro v w1 ⟨rfl, b1', k1⟩; have B1 := hidden b1'; have K1 := hidden k1; clear b1' k1)
            all_goals
              have S1 := hidden (HS.out.trans' K1.out (fun i hi e => by have e' : i = g := e; omega))
              have Z1 := hidden (opb_kept HZ1.out K1.out (fun e => hsn e.symm))
              go_wp2_with (refine wl_store 28 _ _ rfl rfl rfl (w.heap.size + 1) rfl OpR.zero.cs rfl (st_op Z1.out) ?_)
              have hlv := lv_op (opb_row Z1.out OpR.zero)
              have S9 := hidden (S1.out.setRow (g := w.heap.size + 1) (.inl (by omega)) OpR.zero.cs)
              generalize w1.setRow (w.heap.size + 1) OpR.zero.cs = W9 at *
              exact bodyPost_ret (res_row2 Tryd.results28 rfl hlv rfl) rfl ⟨by rw [HNo.out]; rfl, S9.out⟩
          | some o2 =>
            have HQ2 := hidden (HQ1.out.step hb hxk htk)
            have HTv := hidden (tak_tav htk)
            clear hb hxk
            go_wp2
            go_region_law (refine step_call rfl 38 #[.pointer (some ⟨g, 0, none⟩), .int .u8 (b.toNat : Int), .string (BA x)] (fun v W => v = .bool true ∧ OpB W g (ok.tav b x) ∧ KG g wr W) (by go_simp; try rfl) ((HTk.out b hbL g ok x wr.drew (HTd.out wr.drew rfl rfl rfl rfl).1 (HTd.out wr.drew rfl rfl rfl rfl).2 hxl).mono (fun e w' ⟨h1, h2, h3⟩ => ⟨_, h1, by rw [htk]; rfl, h2, ⟨h3.os, h3.tape, h3.output, h3.size, h3.block⟩⟩)) ?_; rintro v w1 ⟨rfl, b1', k1⟩; have B1 := hidden b1'; have K1 := hidden k1; clear b1' k1)
            all_goals
              have S1 := hidden (HS.out.trans' K1.out (fun i hi e => by have e' : i = g := e; omega))
              have Z1 := hidden (opb_kept HZ1.out K1.out (fun e => hsn e.symm))
              go_wp2
              go_roundw
              case rel => exact ⟨k + 1, o2, by go_num, by omega, HQ2.out, by rw [← HTv.out]; exact B1.out, Z1.out, S1.out⟩
              case measure => simp [intOf]; omega
        · have q2 : ¬ (k : Int) < (m : Int) := by omega
          have HYs := hidden (show prw (x0 :: xs) = some ok by rw [HPs.out, HQ1.out.done (by rw [← HM.out]; omega)])
          go_wp2_with (first
            | (refine wl_load 28 _ rfl rfl g rfl ok.cs (ld_op HB.out) ?_)
            | (refine wl_store 28 _ _ rfl rfl rfl (w.heap.size + 1) rfl ok.cs rfl (st_op HZ1.out) ?_))
          have hlv := lv_op (opb_row HZ1.out ok)
          have S9 := hidden (HS.out.setRow (g := w.heap.size + 1) (.inl (by omega)) ok.cs)
          generalize wr.setRow (w.heap.size + 1) ok.cs = W9 at *
          exact bodyPost_ret (res_row2 Tryd.results28 rfl hlv rfl) rfl ⟨by rw [HYs.out]; rfl, S9.out⟩
    · have q1 : ¬ (n : Int) = 1 + (m : Int) := by rw [HN.out]; omega
      have d1 : ((n : Int) == 1 + (m : Int)) = false := by simpa using q1
      have HNo := hidden (show prw (x0 :: xs) = none by rw [HPw.out, if_pos (.inr hln)])
      go_wp2_with (refine wl_store 28 _ _ rfl rfl rfl (w.heap.size + 1) rfl OpR.zero.cs rfl (st_op HZ3.out) ?_)
      have hlv := lv_op (opb_row HZ3.out OpR.zero)
      have S9 := hidden (HS3.out.setRow (g := w.heap.size + 1) (.inl (by omega)) OpR.zero.cs)
      generalize W3.setRow (w.heap.size + 1) OpR.zero.cs = W9 at *
      exact bodyPost_ret (res_row2 Tryd.results28 rfl hlv rfl) rfl ⟨by rw [HNo.out]; rfl, S9.out⟩
end Go.Proofs.YtndfgpelioipcaaDoor
