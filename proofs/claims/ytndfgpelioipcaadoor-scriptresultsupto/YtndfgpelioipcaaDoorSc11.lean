/- script: an operation printed: grammar.print, walked. -/
import Derived.Test.YtndfgpelioipcaaDoorSc8
import Derived.Test.YtndfgpelioipcaaDoorSc9
import Derived.Test.YtndfgpelioipcaaDoorSc10
namespace Go.Proofs.YtndfgpelioipcaaDoor
open Go.RowKit Go.Maps Go.WideMaps
set_option linter.unusedVariables false
set_option linter.unusedSimpArgs false
def isL (c : UInt8) : Bool := isT c || isN c
def OpR.wd (o : OpR) (c : UInt8) : List UInt8 := if isT c then quoteL (o.txt c) else Lib.itoa (o.num c)
def OpR.may (o : OpR) (c : UInt8) : Bool := if isT c then true else mayN (o.num c)
def OpR.clr (o : OpR) (c : UInt8) : OpR := if isT c then o.setT c [] else o.setN c 0
theorem isL_cases {c : UInt8} (h : isL c = true) : c = 80 ∨ c = 81 ∨ c = 68 ∨ c = 72 ∨ c = 79 ∨ c = 78 ∨ c = 70 := by
  simp [isL, isT, isN] at h
  rcases h with ((h | h) | h) | (((h | h) | h) | h) <;> simp [h]
theorem tell_any (c : UInt8) (hc : isL c = true) (g : Nat) (o : OpR) (w : World) (T : Tb w) (h : OpB w g o) (ho : o.Ok 1099511627776) (hg : 3 < g) :
    Calls Tryd.prog 37 #[.pointer (some ⟨g, 0, none⟩), .int .u8 (c.toNat : Int)] w fun e w' => e = .returned (.tuple #[.string (BA (o.wd c)), .bool (o.may c)]) ∧ OpB w' g (o.clr c) ∧ KG g w w' := by
  have hl := ho.len
  rcases isL_cases hc with rfl | rfl | rfl | rfl | rfl | rfl | rfl
  · exact tell80 g o w h (by omega)
  · exact tell81 g o w h (by omega)
  · exact tell68 g o w h (by omega)
  · exact tell72 g o w T h ho.ha hg
  · exact tell79 g o w T h ho.of hg
  · exact tell78 g o w T h ho.nn hg
  · exact tell70 g o w T h ho.fl hg
theorem OpR.Ok.clr {o : OpR} {L : Nat} (h : o.Ok L) (c : UInt8) : (o.clr c).Ok L := by
  have hz : I64 0 := by unfold I64; omega
  obtain ⟨h1, h2, h3, h4, h5, h6⟩ := h
  unfold OpR.clr OpR.setT OpR.setN
  split
  · split
    · exact ⟨h1, h2, h3, h4, h5, by simp; omega⟩
    · split
      · exact ⟨h1, h2, h3, h4, h5, by simp; omega⟩
      · exact ⟨h1, h2, h3, h4, h5, by simp; omega⟩
  · split
    · exact ⟨h1, hz, h3, h4, h5, h6⟩
    · split
      · exact ⟨h1, h2, hz, h4, h5, h6⟩
      · split
        · exact ⟨h1, h2, h3, hz, h5, h6⟩
        · exact ⟨h1, h2, h3, h4, hz, h6⟩
theorem OpR.clr_kd (o : OpR) (c : UInt8) : (o.clr c).kd = o.kd := by
  unfold OpR.clr OpR.setT OpR.setN
  repeat' split
  all_goals rfl
/-- What is told of the fields, letter by letter, and what is left of the operation. -/
def pr (o : OpR) : List UInt8 → Option (OpR × List (List UInt8))
  | [] => some (o, [])
  | c :: r => if o.may c then (pr (o.clr c) r).map (fun p => (p.1, o.wd c :: p.2)) else none
def OpR.only (k : Int) : OpR := ⟨k, [], [], 0, 0, 0, 0, []⟩
/-- The line of an operation. -/
def prt (o : OpR) : Option (List UInt8) :=
  if 1 ≤ o.kd ∧ o.kd ≤ 19 then
    match pr o (flL o.kd.toNat) with
    | none => none
    | some p => if p.1 = OpR.only o.kd then some (jn (nmL o.kd.toNat :: p.2)) else none
  else none
/-- How far the telling is. -/
structure PI (o : OpR) (L : List UInt8) (k : Nat) (ok : OpR) (ws : List (List UInt8)) : Prop where
  eq : pr o L = (pr ok (L.drop k)).map (fun p => (p.1, ws ++ p.2))
  kd : ok.kd = o.kd
  len : ws.length = k
  sum : wsum ws ≤ k * 4398046511204
  ok : ok.Ok 1099511627776
theorem PI.zero (o : OpR) (L : List UInt8) (h : o.Ok 1099511627776) : PI o L 0 o [] := ⟨by rw [List.drop_zero]; cases pr o L <;> simp, rfl, rfl, by simp [wsum], h⟩
theorem wd_len {o : OpR} {c : UInt8} (h : o.Ok 1099511627776) (hc : isL c = true) : (o.wd c).length + 1 ≤ 4398046511204 := by
  have hl := h.len
  have hq : ∀ l : List UInt8, l.length ≤ 1099511627776 → (quoteL l).length + 1 ≤ 4398046511204 := fun l hl => by
    rw [quoteL_len]
    have := (qb_len l).2
    omega
  have hi : ∀ z : Int, I64 z → (Lib.itoa z).length + 1 ≤ 4398046511204 := fun z hz => by
    have := Lib.itoa_length_le z hz.1 hz.2
    omega
  rcases isL_cases hc with rfl | rfl | rfl | rfl | rfl | rfl | rfl
  · exact hq o.pa (by omega)
  · exact hq o.ot (by omega)
  · exact hq o.da (by omega)
  · exact hi o.ha h.ha
  · exact hi o.of h.of
  · exact hi o.nn h.nn
  · exact hi o.fl h.fl
theorem PI.step {o ok : OpR} {L : List UInt8} {k : Nat} {ws : List (List UInt8)} {c : UInt8} (h : PI o L k ok ws) (hc : L[k]? = some c) (hL : isL c = true) (hm : ok.may c = true) : PI o L (k + 1) (ok.clr c) (ws ++ [ok.wd c]) := by
  have hk := (List.getElem?_eq_some_iff.1 hc).1
  refine ⟨?_, by rw [OpR.clr_kd, h.kd], by simp [h.len], ?_, h.ok.clr c⟩
  · rw [h.eq, List.drop_eq_getElem_cons hk, (List.getElem?_eq_some_iff.1 hc).2]
    conv => lhs; unfold pr
    rw [if_pos hm, Option.map_map]
    congr 1
    funext p
    simp
  · have h1 := wd_len h.ok hL
    have h2 := h.sum
    simp only [wsum, List.map_append, List.map_cons, List.map_nil, List.sum_append, List.sum_cons, List.sum_nil] at *
    omega
theorem PI.no {o ok : OpR} {L : List UInt8} {k : Nat} {ws : List (List UInt8)} {c : UInt8} (h : PI o L k ok ws) (hc : L[k]? = some c) (hm : ok.may c = false) : pr o L = none := by
  have hk := (List.getElem?_eq_some_iff.1 hc).1
  rw [h.eq, List.drop_eq_getElem_cons hk, (List.getElem?_eq_some_iff.1 hc).2]
  conv => lhs; unfold pr
  rw [hm]
  simp
theorem PI.done {o ok : OpR} {L : List UInt8} {k : Nat} {ws : List (List UInt8)} (h : PI o L k ok ws) (hk : L.length ≤ k) : pr o L = some (ok, ws) := by
  rw [h.eq, List.drop_of_length_le hk]
  simp [pr]
theorem fl_isL (k : Nat) (h : k ≤ 19) : (flL k).length ≤ 3 ∧ ∀ c ∈ flL k, isL c = true := by
  have : ∀ i : Fin 20, (flL i.val).length ≤ 3 ∧ ∀ c ∈ flL i.val, isL c = true := by decide +kernel
  exact this ⟨k, by omega⟩
/-- What PrintOp's inner call tells. -/
def ptV : Option (List UInt8) → Value
  | some l => .tuple #[.string (BA l), .bool true]
  | none => .tuple #[.string ⟨#[]⟩, .bool false]
set_option maxHeartbeats 1000000 in
set_option maxRecDepth 100000 in
theorem print_any (o : OpR) (B bf bk : Nat) (w : World) (T : Tb w) (G : Gr B w bf bk) (ho : o.Ok 1099511627776) :
    Calls Tryd.prog 24 #[.agg #[.map (some bf), .map (some bk)], .agg o.cs] w fun e w' => e = .returned (ptV (prt o)) ∧ Same w w' := by
  obtain ⟨i0, hi0, hz0, hz1, hz2⟩ := info_parts infoS
  have hT3 := T.lt
  have hcs : o.cs = #[.int .i64 o.kd, .string (BA o.pa), .string (BA o.ot), .int .i64 o.ha, .int .i64 o.of, .int .i64 o.nn, .int .i64 o.fl, .string (BA o.da)] := rfl
  rw [hcs]
  have hlk := ((G.same (same_alloc w (.cells #[.map (some bf), .map (some bk)] 51))).same (same_alloc _ (.cells o.cs 28))).formOk o.kd ho.kd.1 ho.kd.2
  rw [hcs] at hlk
  by_cases hk : 1 ≤ o.kd ∧ o.kd ≤ 19
  · rw [decide_eq_true hk] at hlk
    have hfr : frV o.kd = .agg #[.string (BA (nmL o.kd.toNat)), .string (BA (flL o.kd.toNat))] := by unfold frV; rw [if_pos hk]; rfl
    rw [hfr] at hlk
    obtain ⟨fL3, fLl⟩ := fl_isL o.kd.toNat (by omega)
    have HT := hidden T
    have HPt := hidden (show prt o = match pr o (flL o.kd.toNat) with | none => none | some p => if p.1 = OpR.only o.kd then some (jn (nmL o.kd.toNat :: p.2)) else none by unfold prt; rw [if_pos hk])
    have hnm := nm_size o.kd.toNat (by omega) (by omega)
    have HJ := hidden joined_any
    have HTe := hidden tell_any
    have HPI := hidden (PI.zero o (flL o.kd.toNat) ho)
    have hB0 : OpB ((w.alloc (.cells #[.map (some bf), .map (some bk)] 51)).alloc (.cells o.cs 28)) (w.heap.size + 1) o := by
      have := blk_new (w.alloc (.cells #[.map (some bf), .map (some bk)] 51)) (.cells o.cs 28)
      rw [show (w.alloc (.cells #[.map (some bf), .map (some bk)] 51)).heap.size = w.heap.size + 1 by simp] at this
      exact this
    rw [hcs] at hB0
    generalize nmL o.kd.toNat = NM at *
    generalize flL o.kd.toNat = L at *
    have HAt := hidden (fun W j b h => str_at (BA L) W j b h)
    rw [BA_data] at HAt
    have hml : ((BA L).size : Int) = (L.length : Int) := by rw [BA_size]
    obtain ⟨m, hm⟩ : ∃ m, m = L.length := ⟨_, rfl⟩
    rw [← hm] at hml fL3
    have HM := hidden hm
    have HFl := hidden fLl
    have HB0 := hidden hB0
    clear G hfr T hk hm fLl hB0 ho hcs
    generalize BA L = yL at *
    go_enter Tryd.func24, Tryd.ntmps24
    go_wp2
    go_loopw [8, 28] (fun u x wr => ∃ (k n c : Nat) (ao : Option Addr) (ok : OpR) (ws : List (List UInt8)), u = .slice ao n c ∧ x = .int .i64 k ∧ k ≤ m ∧ n = k + 1 ∧ PI o L k ok ws ∧ wr.ownsRow w.heap.size 9 1 (.slice ao n c) n (TS ((NM :: ws).map BA)) ∧ OpB wr (w.heap.size + 1) ok ∧ wr.heap[w.heap.size + 1 + 1]? = some (.cells #[.string (BA NM), .string yL] 68 (0, 0)) ∧ Same w wr) (fun _ x _ => m - (intOf x).toNat)
    case atStart =>
      obtain ⟨W3, hW3⟩ : ∃ W3, W3 = ((w.alloc (.cells #[.map (some bf), .map (some bk)] 51)).alloc (.cells #[.int .i64 o.kd, .string (BA o.pa), .string (BA o.ot), .int .i64 o.ha, .int .i64 o.of, .int .i64 o.nn, .int .i64 o.fl, .string (BA o.da)] 28)).alloc (.cells #[.string (BA NM), .string yL] 68) := ⟨_, rfl⟩
      have hs3 : W3.heap.size = w.heap.size + 1 + 1 + 1 := by rw [hW3]; simp
      have hr := World.ownsRow_lit (base := w.heap.size) (e := 9) (size := 1) W3 #[.string (BA NM)] 1 (by omega) (by decide) rfl
      rw [hs3] at hr
      have hb := blk_alloc (blk_new ((w.alloc (.cells #[.map (some bf), .map (some bk)] 51)).alloc (.cells #[.int .i64 o.kd, .string (BA o.pa), .string (BA o.ot), .int .i64 o.ha, .int .i64 o.of, .int .i64 o.nn, .int .i64 o.fl, .string (BA o.da)] 28)) (.cells #[.string (BA NM), .string yL] 68)) (.cells #[.string (BA NM)] 9)
      rw [show ((w.alloc (.cells #[.map (some bf), .map (some bk)] 51)).alloc (.cells #[.int .i64 o.kd, .string (BA o.pa), .string (BA o.ot), .int .i64 o.ha, .int .i64 o.of, .int .i64 o.nn, .int .i64 o.fl, .string (BA o.da)] 28)).heap.size = w.heap.size + 1 + 1 by simp] at hb
      exact ⟨0, 1, 1, some ⟨w.heap.size + 1 + 1 + 1, 0, none⟩, o, [], rfl, rfl, Nat.zero_le _, rfl, HPI.out, by rw [hW3] at hr; exact hr, blk_alloc (blk_alloc HB0.out _) _, hb, (((same_alloc _ _).alloc _).alloc _).alloc _⟩
    case round =>
      obtain ⟨k, n, c, ao, ok, ws, rfl, rfl, hkm, hn, hPI, hO, hB, hF, hS⟩ := hrel
      have HP := hidden hPI
      have HO := hidden hO
      have HB := hidden hB
      have HF := hidden hF
      have HS := hidden hS
      have hn4 : n ≤ 4 := by omega
      have HN1 := hidden hn
      clear hPI hO hB hF hS hn
      by_cases h1 : k < m
      · obtain ⟨b, hb⟩ : ∃ b, L[k]? = some b := ⟨_, List.getElem?_eq_getElem (by rw [← HM.out]; exact h1)⟩
        have x1 := fun W => HAt.out W k b hb
        have hbL := HFl.out b (List.mem_of_getElem? hb)
        have cF : wr.cell? ⟨w.heap.size + 1 + 1, 1, none⟩ = some (.string yL) := blk_cell HF.out
        have q1 : (k : Int) < (m : Int) := by omega
        have HT1 := hidden (HTe.out b hbL (w.heap.size + 1) ok wr (HT.out.same HS.out) HB.out HP.out.ok (by omega))
        cases hmay : ok.may b
        · have HNo := hidden (show prt o = none by rw [HPt.out, HP.out.no hb hmay])
          rw [hmay] at HT1
          clear hb hmay
          generalize BA (ok.wd b) = yw at *
          go_wp2_with (go_at_call 37; refine (HT1.out).mono ?_; rintro e w1 ⟨rfl, b1, k1⟩; have K1 := hidden k1; clear b1 k1)
          go_returns
          exact ⟨by rw [HNo.out]; rfl, HS.out.trans' K1.out (fun i hi e => by have e' : i = w.heap.size + 1 := e; omega)⟩
        · have HP2 := hidden (HP.out.step hb hbL hmay)
          rw [hmay] at HT1
          clear hb hmay
          obtain ⟨yw, hyw⟩ : ∃ yw, yw = BA (ok.wd b) := ⟨_, rfl⟩
          rw [← hyw] at HT1
          have HYw := hidden hyw
          clear hyw
          go_wp2_with (first
            | (go_at_call 37; refine (HT1.out).mono ?_; rintro e w1 ⟨rfl, b1, k1⟩; have K1 := hidden (HS.out.trans' k1 (fun i hi e => (by have e' : i = w.heap.size + 1 := e; omega))); have B1 := hidden b1; have F1 := hidden (blk_kept k1 (fun e => (by have e' : w.heap.size + 1 + 1 = w.heap.size + 1 := e; omega)) HF.out); have O1 := hidden (own_kept HO.out k1 (fun q hq e => own_apart HO.out HB.out (by decide) (by have e' : q = w.heap.size + 1 := e; rw [hq, e']))); clear b1 k1)
            | (at_builtin; go_must (refine wpList_append_any (by rfl) _ _ 37 (by rfl) w.heap.size 9 i0 _ 1 16 Tryd.underlying37 hi0 hz0 hz1 hz2 rfl (by decide) _ _ _ _ (by rfl) (O1.out.alloc _) (some ⟨w1.heap.size, 0, none⟩) 1 1 (TS [yw]) (by rfl) (by rfl) (lies_of (World.news_of_block (heap_alloc_new w1 _))) (TS_one _) (by unfold maxLen; omega) (by omega) (by simp; have := K1.out.size; omega) ?_; intro a3 c3 w3 hown hgrow; have R3 := hidden (same_grown (m := 0) (K1.out.alloc _) (O1.out.alloc _) hgrow); have O3 := hidden hown; have B3 := hidden ((hgrow.block _ (blk_lt (blk_alloc B1.out (.cells #[.string yw] 9))) (fun e => own_apart (O1.out.alloc (.cells #[.string yw] 9)) (blk_alloc B1.out (.cells #[.string yw] 9)) (by decide) e.symm)).trans (blk_alloc B1.out (.cells #[.string yw] 9))); have F3 := hidden ((hgrow.block _ (blk_lt (blk_alloc F1.out (.cells #[.string yw] 9))) (fun e => own_apart (O1.out.alloc (.cells #[.string yw] 9)) (blk_alloc F1.out (.cells #[.string yw] 9)) (by decide) e.symm)).trans (blk_alloc F1.out (.cells #[.string yw] 9))); clear hown hgrow)))
          go_roundw
          case rel => exact ⟨k + 1, n + 1, c3, a3, ok.clr b, ws ++ [ok.wd b], rfl, by go_num, by omega, by rw [HN1.out], HP2.out, by have h := O3.out; rw [HYw.out] at h; simpa [TS] using h, B3.out, F3.out, R3.out⟩
          case measure => simp [intOf]; omega
      · have q1 : ¬ (k : Int) < (m : Int) := by omega
        have HDn := hidden (HP.out.done (by rw [← HM.out]; omega))
        have HP1 := hidden (show prt o = if ok = OpR.only o.kd then some (jn (NM :: ws)) else none by rw [HPt.out, HDn.out])
        have HKd := hidden HP.out.kd
        have o0 : wr.cell? ⟨w.heap.size + 1, 0, none⟩ = some (.int .i64 ok.kd) := blk_cell HB.out
        have o1 : wr.cell? ⟨w.heap.size + 1, 1, none⟩ = some (.string (BA ok.pa)) := blk_cell HB.out
        have o2 : wr.cell? ⟨w.heap.size + 1, 2, none⟩ = some (.string (BA ok.ot)) := blk_cell HB.out
        have o3 : wr.cell? ⟨w.heap.size + 1, 3, none⟩ = some (.int .i64 ok.ha) := blk_cell HB.out
        have o4 : wr.cell? ⟨w.heap.size + 1, 4, none⟩ = some (.int .i64 ok.of) := blk_cell HB.out
        have o5 : wr.cell? ⟨w.heap.size + 1, 5, none⟩ = some (.int .i64 ok.nn) := blk_cell HB.out
        have o6 : wr.cell? ⟨w.heap.size + 1, 6, none⟩ = some (.int .i64 ok.fl) := blk_cell HB.out
        have o7 : wr.cell? ⟨w.heap.size + 1, 7, none⟩ = some (.string (BA ok.da)) := blk_cell HB.out
        obtain ⟨kd, pa, ot, ha, of, nn, fl, da⟩ := ok
        simp only at o0 o1 o2 o3 o4 o5 o6 o7 HKd
        have hBt : (BA ([] : List UInt8)).toList = [] := toList_BA _
        have hBd : ((BA ([] : List UInt8)).toList == []) = true := by rw [hBt]; rfl
        by_cases gpa : pa = []
        rotate_left
        · have HNo := hidden (show prt o = none by rw [HP1.out, if_neg (fun e => gpa (congrArg OpR.pa e))])
          have dpa : ((BA pa).toList == []) = false := by rw [toList_BA]; simpa using gpa
          have epa : ¬ (BA pa).toList = [] := by rw [toList_BA]; exact gpa
          generalize BA pa = zpa at *
          go_wp2
          go_returns
          exact ⟨by rw [HNo.out]; rfl, HS.out⟩
        subst gpa
        by_cases got : ot = []
        rotate_left
        · have HNo := hidden (show prt o = none by rw [HP1.out, if_neg (fun e => got (congrArg OpR.ot e))])
          have dot : ((BA ot).toList == []) = false := by rw [toList_BA]; simpa using got
          have eot : ¬ (BA ot).toList = [] := by rw [toList_BA]; exact got
          generalize BA ot = zot at *
          go_wp2
          go_returns
          exact ⟨by rw [HNo.out]; rfl, HS.out⟩
        subst got
        by_cases gha : ha = 0
        rotate_left
        · have HNo := hidden (show prt o = none by rw [HP1.out, if_neg (fun e => gha (congrArg OpR.ha e))])
          have dha : (ha == 0) = false := by simpa using gha
          go_wp2
          go_returns
          exact ⟨by rw [HNo.out]; rfl, HS.out⟩
        subst gha
        by_cases gof : of = 0
        rotate_left
        · have HNo := hidden (show prt o = none by rw [HP1.out, if_neg (fun e => gof (congrArg OpR.of e))])
          have dof : (of == 0) = false := by simpa using gof
          go_wp2
          go_returns
          exact ⟨by rw [HNo.out]; rfl, HS.out⟩
        subst gof
        by_cases gnn : nn = 0
        rotate_left
        · have HNo := hidden (show prt o = none by rw [HP1.out, if_neg (fun e => gnn (congrArg OpR.nn e))])
          have dnn : (nn == 0) = false := by simpa using gnn
          go_wp2
          go_returns
          exact ⟨by rw [HNo.out]; rfl, HS.out⟩
        subst gnn
        by_cases gfl : fl = 0
        rotate_left
        · have HNo := hidden (show prt o = none by rw [HP1.out, if_neg (fun e => gfl (congrArg OpR.fl e))])
          have dfl : (fl == 0) = false := by simpa using gfl
          go_wp2
          go_returns
          exact ⟨by rw [HNo.out]; rfl, HS.out⟩
        subst gfl
        by_cases gda : da = []
        rotate_left
        · have HNo := hidden (show prt o = none by rw [HP1.out, if_neg (fun e => gda (congrArg OpR.da e))])
          have dda : ((BA da).toList == []) = false := by rw [toList_BA]; simpa using gda
          have eda : ¬ (BA da).toList = [] := by rw [toList_BA]; exact gda
          generalize BA da = zda at *
          go_wp2
          go_returns
          exact ⟨by rw [HNo.out]; rfl, HS.out⟩
        subst gda
        have HYs := hidden (show prt o = some (jn (NM :: ws)) by rw [HP1.out, if_pos (by rw [← HKd.out]; rfl)])
        have HJ1 := hidden (HJ.out (NM :: ws) _ _ _ wr (Row.own HO.out) (by have h1 := HP.out.sum; have h2 : k * 4398046511204 ≤ 3 * 4398046511204 := Nat.mul_le_mul_right _ (by omega); simp only [wsum, List.map_cons, List.sum_cons] at *; omega))
        go_wp2_with (go_at_call 32; refine (HJ1.out).mono ?_; rintro e w1 ⟨rfl, k1⟩; have S1 := hidden (HS.out.trans k1); clear k1)
        go_returns
        exact ⟨by rw [HYs.out]; rfl, S1.out⟩
  · rw [decide_eq_false hk] at hlk
    have hfr : frV o.kd = .agg #[.string ⟨#[]⟩, .string ⟨#[]⟩] := by unfold frV; rw [if_neg hk]
    rw [hfr] at hlk
    have HP : Hid (prt o = none) := hidden (by unfold prt; rw [if_neg hk])
    clear G hfr T hk
    go_enter Tryd.func24, Tryd.ntmps24
    go_wp2
    go_returns
    exact ⟨by rw [HP.out]; rfl, ((same_alloc _ _).alloc _).alloc _⟩
end Go.Proofs.YtndfgpelioipcaaDoor
