/-
  HandleForks (P24.2): whatever the steps before and behind: a fork of a table goes on by itself, as the document's copy does: each call is told what the document tells, and both pairs stand the same at the end: the law's call returns true and leaves its arguments as they were.
  No condition.
-/
import Derived.Test.YtiffkcffcjembaaHO
import Derived.Test.YtiffkcffcjembaaH18
namespace Go.Proofs.Ytiffkcffcjembaa
open Go.RowKit Go.Maps
set_option linter.unusedVariables false
set_option linter.unusedSimpArgs false
/-- Another pair stays while one turns. -/
theorem PR.apart {w w' : World} {g bm gr n g2 bm2 gr2 n2 : Nat} {f f2 : FT} (h : PR w g bm gr f n) (h2 : PR w g2 bm2 gr2 f2 n2) (hg : g2 ≠ g) (hr : gr2 ≠ gr) (hb : bm2 ≠ bm) (k : Kept (DS g bm gr) w w') : PR w' g2 bm2 gr2 f2 n2 := by
  have e1 := h.t.blk
  obtain ⟨es, c, e2⟩ := h.t.mapblk
  obtain ⟨v, e3⟩ := h.r.blk
  have d1 := h2.t.blk
  obtain ⟨es', c', d2⟩ := h2.t.mapblk
  obtain ⟨v', d3⟩ := h2.r.blk
  have n1 : ¬ DS g bm gr g2 := by
    rintro (rfl | rfl | rfl)
    · exact hg rfl
    · rw [d1] at e2; cases e2
    · rw [d1] at e3; simp at e3
  have n2' : ¬ DS g bm gr bm2 := by
    rintro (rfl | rfl | rfl)
    · rw [d2] at e1; cases e1
    · exact hb rfl
    · rw [d2] at e3; cases e3
  have n3 : ¬ DS g bm gr gr2 := by
    rintro (rfl | rfl | rfl)
    · rw [d3] at e1; simp at e1
    · rw [d3] at e2; cases e2
    · exact hr rfl
  refine ⟨h2.t.kept k n1 n2', h2.r.kept k n3 (fun b cs hbk hs => ?_)⟩
  rcases hs with rfl | rfl | rfl
  · rw [hbk] at e1; simp at e1
  · rw [hbk] at e2; cases e2
  · rw [hbk] at e3; simp at e3
theorem PR.mono {w : World} {g bm gr n m : Nat} {f : FT} (h : PR w g bm gr f n) (hm : n ≤ m) : PR w g bm gr f m := ⟨h.t.mono hm, h.r⟩
/-- Two pairs, apart, younger than B. -/
structure AP (B : Nat) (w : World) (g gr g2 gr2 n : Nat) : Prop where
  ex : ∃ bm f bm2 f2, PR w g bm gr f n ∧ PR w g2 bm2 gr2 f2 n ∧ bm ≠ bm2 ∧ B ≤ bm ∧ B ≤ bm2
  ng : g ≠ g2
  nr : gr ≠ gr2
  a : B ≤ g
  b : B ≤ gr
  c : B ≤ g2
  d : B ≤ gr2
theorem AP.same {B : Nat} {w w' : World} {g gr g2 gr2 n : Nat} (h : AP B w g gr g2 gr2 n) (k : Same w w') : AP B w' g gr g2 gr2 n := by
  obtain ⟨bm, f, bm2, f2, h1, h2, h3, h4, h5⟩ := h.ex
  exact ⟨⟨bm, f, bm2, f2, h1.same k, h2.same k, h3, h4, h5⟩, h.ng, h.nr, h.a, h.b, h.c, h.d⟩
theorem AP.swap {B : Nat} {w : World} {g gr g2 gr2 n : Nat} (h : AP B w g gr g2 gr2 n) : AP B w g2 gr2 g gr n := by
  obtain ⟨bm, f, bm2, f2, h1, h2, h3, h4, h5⟩ := h.ex
  exact ⟨⟨bm2, f2, bm, f, h2, h1, fun e => h3 e.symm, h5, h4⟩, fun e => h.ng e.symm, fun e => h.nr e.symm, h.c, h.d, h.a, h.b⟩
/-- A step of the first pair. -/
theorem a_any (B g gr g2 gr2 n : Nat) (kd x fl : Int) (w : World) (h : AP B w g gr g2 gr2 n) (hx : I64 x) (hf : I64 fl) (hn : n < 17592186044416) (hB : B ≤ w.heap.size) :
    Calls Try.prog 9 #[P0 g, P0 gr, .agg #[.int .i64 kd, .int .i64 x, .int .i64 fl]] w fun e w' => e = .returned (.bool true) ∧ AP B w' g gr g2 gr2 (n + 1) ∧ Kept (fun k => B ≤ k) w w' := by
  obtain ⟨bm, f, bm2, f2, h1, h2, h3, h4, h5⟩ := h.ex
  refine (d_any g bm gr f n kd x fl w h1 hx hf hn).mono ?_
  rintro e w' ⟨rfl, hD⟩
  obtain ⟨b', f', hp, hb', kk⟩ := hD.ex
  have hl2 : bm2 < w.heap.size := by obtain ⟨es, c, hb⟩ := h2.t.mapblk; exact blk_lt hb
  have q2 := h1.apart h2 (fun e => h.ng e.symm) (fun e => h.nr e.symm) (fun e => h3 e.symm) kk
  refine ⟨rfl, ⟨⟨b', f', bm2, f2, hp, q2.mono (by omega), ?_, ?_, h5⟩, h.ng, h.nr, h.a, h.b, h.c, h.d⟩, kk.mono ?_⟩
  · rcases hb' with rfl | hb'
    · exact h3
    · omega
  · rcases hb' with rfl | hb'
    · exact h4
    · omega
  · have := h.a
    have := h.b
    rintro k _ (rfl | rfl | rfl) <;> omega
structure PY (B : Nat) (w : World) (g gr : Nat) (n : Nat) : Prop where
  ex : ∃ bm f, PR w g bm gr f n ∧ B ≤ bm
  g : B ≤ g
  gr : B ≤ gr
theorem PY.step {w0 w w' : World} {g gr n bm : Nat} (hg : w0.heap.size ≤ g) (hgr : w0.heap.size ≤ gr) (hb : w0.heap.size ≤ bm) (k : Same w0 w) (h : DOut g bm gr n w w') : PY w0.heap.size w' g gr (n + 1) ∧ Same w0 w' := by
  obtain ⟨b', f', hp, hb', kk⟩ := h.ex
  have := k.size
  exact ⟨⟨⟨b', f', hp, by omega⟩, hg, hgr⟩, Same.then k kk (by rintro i hi (h | h | h) <;> omega)⟩
theorem new_pair {w1 : World} {g bm : Nat} (h : TB w1 g bm f0 0) : PR (w1.alloc (.cells #[.slice none 0 0] 29)) g bm w1.heap.size f0 0 :=
  ⟨h.same (same_alloc _ _), ⟨_, blk_new w1 _, by rw [ol_zero]; exact World.ownsRow_nil _ _ _ _⟩⟩
theorem lies_row {w : World} {B e s n c : Nat} {a : Option Addr} {xs : List Value} (h : w.ownsRow B e s (.slice a n c) n xs) : Lies w a n xs := by
  intro hn
  obtain ⟨g, cap, e1, _, _, _, hc⟩ := own_at h hn
  obtain ⟨rfl, _, rfl⟩ : a = some ⟨g, 0, none⟩ ∧ True ∧ c = cap := by simpa using e1
  exact ⟨_, rfl, fun j u hu => by rw [Addr.add_mid, Nat.zero_add]; exact hc j u hu⟩
theorem RT.old {w : World} {gr : Nat} {l : List HT} (h : RT w gr l) : gr < w.heap.size := by obtain ⟨v, hb⟩ := h.blk; exact blk_lt hb
theorem TB.oldm {w : World} {g bm n : Nat} {f : FT} (h : TB w g bm f n) : bm < w.heap.size := by obtain ⟨es, c, hb⟩ := h.mapblk; exact blk_lt hb
set_option maxHeartbeats 4000000 in
set_option maxRecDepth 100000 in
theorem hforks_walk (a : Option Addr) (n c : Nat) (f : Nat → Op3) (a' : Option Addr) (n' c' : Nat) (f' : Nat → Op3) (w : World) (ho : HOps w a n f) (hs : n * 24 ≤ 140737488351232) (ho' : HOps w a' n' f') (hs' : n' * 24 ≤ 140737488351232) :
    Calls Try.prog 4 #[.slice a n c, .slice a' n' c'] w fun e w' => e = .returned (.bool true) ∧ Same w w' := by
  have HIN : Hid (∀ W, Same w W → ∀ k, k < n → ∃ b off, a = some ⟨b, off, none⟩ ∧ (f k).ok ∧ W.cell? ⟨b, off + k * 3, none⟩ = some (.int .i64 (f k).kind) ∧ W.cell? ⟨b, off + k * 3 + 1, none⟩ = some (.int .i64 (f k).N) ∧ W.cell? ⟨b, off + k * 3 + 2, none⟩ = some (.int .i64 (f k).fl)) := fun W kk k hk => by
    obtain ⟨b, off, e, h⟩ := ho (by omega)
    obtain ⟨h0, h1, h2, h3⟩ := h k hk
    exact ⟨b, off, e, h0, Kept.cell kk (fun h => h) h1, Kept.cell kk (fun h => h) h2, Kept.cell kk (fun h => h) h3⟩
  have HIN' : Hid (∀ W, Same w W → ∀ k, k < n' → ∃ b off, a' = some ⟨b, off, none⟩ ∧ (f' k).ok ∧ W.cell? ⟨b, off + k * 3, none⟩ = some (.int .i64 (f' k).kind) ∧ W.cell? ⟨b, off + k * 3 + 1, none⟩ = some (.int .i64 (f' k).N) ∧ W.cell? ⟨b, off + k * 3 + 2, none⟩ = some (.int .i64 (f' k).fl)) := fun W kk k hk => by
    obtain ⟨b, off, e, h⟩ := ho' (by omega)
    obtain ⟨h0, h1, h2, h3⟩ := h k hk
    exact ⟨b, off, e, h0, Kept.cell kk (fun h => h) h1, Kept.cell kk (fun h => h) h2, Kept.cell kk (fun h => h) h3⟩
  clear ho ho'
  obtain ⟨i0, hi, hz0, hz1', hz2⟩ := info_parts infoH
  go_enter Try.func4, Try.ntmps4
  go_wp2_with (first
    | (go_at_call 7; refine (h_new _).mono ?_; rintro e w0 ⟨g, bm, rfl, hg, hbm, k0, T0⟩; have K0 := hidden k0; have HT0 := hidden T0; clear k0 T0)
    | (go_at_call 8; refine (h_awake _).mono ?_; rintro e w1 ⟨rfl, k1⟩; have hz1 : w.heap.size ≤ w1.heap.size := (Nat.le_trans K0.out.size k1.size); have K1 := hidden ((K0.out.trans k1).alloc (.cells #[.slice none 0 0] 29)); have P1 := hidden (new_pair (HT0.out.same k1)); clear k1))
  generalize w1.heap.size = gr at *
  generalize w1.alloc (.cells #[.slice none 0 0] 29) = W at *
  go_loopw [24] (fun i wr => ∃ k : Nat, k ≤ n ∧ i = .int .i64 k ∧ PY w.heap.size wr g gr k ∧ Same w wr) (fun i _ => n - (intOf i).toNat)
  case atStart => exact ⟨0, Nat.zero_le _, rfl, ⟨⟨bm, f0, P1.out, hbm⟩, hg, hz1⟩, K1.out⟩
  case round =>
    obtain ⟨k, hk, rfl, hP, hS⟩ := hrel
    have S1 := hidden hS
    obtain ⟨b', fT, hp, hb'⟩ := hP.ex
    have P2 := hidden hp
    clear hP hp hS
    by_cases hlt : k < n
    · obtain ⟨b, off, rfl, hok, y0, y1, y2⟩ := HIN.out wr S1.out k hlt
      have q1 : (k : Int) < (n : Int) := by omega
      obtain ⟨kd, hkd⟩ : ∃ z, (f k).kind = z := ⟨_, rfl⟩
      obtain ⟨N, hNN⟩ : ∃ z, (f k).N = z := ⟨_, rfl⟩
      obtain ⟨fl, hfl⟩ : ∃ z, (f k).fl = z := ⟨_, rfl⟩
      have o1 := hok.N
      have o2 := hok.fl
      rw [hkd] at y0
      rw [hNN] at y1 o1
      rw [hfl] at y2 o2
      clear hkd hNN hfl hok
      go_wp2_with (first
        | (go_at_call 9; refine (d_any g b' gr fT k kd N fl _ (P2.out.same (same_alloc wr _)) o1 o2 (by omega)).mono ?_; rintro e w2 ⟨rfl, hD⟩; obtain ⟨p2, k2⟩ := PY.step hg hz1 hb' (S1.out.alloc _) hD; have PP := hidden p2; have KK := hidden k2; clear hD p2 k2))
      go_roundw
      case rel => exact ⟨k + 1, by omega, by go_num, PP.out, KK.out⟩
      case measure => simp [intOf]; omega
    · obtain rfl : k = n := by omega
      go_wp2_with (first
        | (go_at_call 11; refine (h_fork g b' fT k _ P2.out.t).mono ?_; rintro e w2 ⟨u, rfl, hF⟩; obtain ⟨g2, b2, rfl, hg2, hb2, t2, k2⟩ := hF.ex; have P3 := hidden (P2.out.same k2); obtain ⟨v, hbv, hov⟩ := (P2.out.same k2).r.ex; obtain ⟨va, vc, rfl⟩ := own_form hov; have cv := (blk_cell (j := 0) hbv); simp at cv; have hgr2 := blk_lt hbv; have HOV := hidden hov; have T2 := hidden t2; have K2 := hidden k2; clear hF t2 k2 hbv hov)
        | (at_builtin; refine wpList_append_any rfl _ _ 27 rfl w2.heap.size 44 i0 _ 3 24 Try.underlying27 hi hz0 hz1' hz2 rfl (by decide) _ 0 0 [] rfl (own_empty w2 _ 3) va (ol fT).length vc (c3 (ol fT)) rfl (c3_len _) (lies_row (own_kept HOV.out (same_alloc w2 _) (fun _ _ h => h))) (c3_cell _) (by have := ol_le fT; unfold maxLen; omega) (by have := ol_le fT; omega) (by simp) ?_; intro a3 d3 w3 ho3 hg3; have k3 := same_grows (same_alloc w2 _) (own_empty w2 _ 3) hg3; rw [List.nil_append, Nat.zero_add] at ho3; have O3 := hidden ho3; have K3 := hidden k3; rw [Nat.zero_add]; clear ho3 hg3 k3))
      have hAP : AP w.heap.size (w3.alloc (.cells #[.slice a3 (ol fT).length d3] 29)) g gr g2 w3.heap.size k := by
        have z0 := S1.out.size
        have z2 := K2.out.size
        have z3 := K3.out.size
        have zg := blk_lt P2.out.t.blk
        have zr := P2.out.r.old
        have zb := P2.out.t.oldm
        refine ⟨⟨b', fT, b2, fT, (P3.out.same K3.out).same (same_alloc w3 _), ⟨(T2.out.same K3.out).same (same_alloc w3 _), ⟨_, blk_new w3 _, ?_⟩⟩, by omega, hb', by omega⟩, by omega, by omega, hg, hz1, by omega, by omega⟩
        exact own_kept (own_mono O3.out (Nat.zero_le _)) (same_alloc w3 _) (fun _ _ h => h)
      have KW := hidden (((S1.out.trans K2.out).trans K3.out).alloc (.cells #[.slice a3 (ol fT).length d3] 29))
      have HAP := hidden hAP
      clear hAP
      generalize w3.heap.size = gr2 at *
      generalize w3.alloc (.cells #[.slice a3 (ol fT).length d3] 29) = W4 at *
      go_loopw [48] (fun i wr => ∃ q : Nat, q ≤ n' ∧ i = .int .i64 q ∧ AP w.heap.size wr g gr g2 gr2 (k + q) ∧ Same w wr) (fun i _ => n' - (intOf i).toNat)
      case atStart => exact ⟨0, Nat.zero_le _, rfl, HAP.out, KW.out⟩
      case round =>
        obtain ⟨q, hqn, rfl, hA5, hS5⟩ := hrel
        have A5 := hidden hA5
        have S5 := hidden hS5
        clear hA5 hS5
        by_cases hq : q < n'
        · skip
          obtain ⟨b, off, rfl, hok, y0, y1, y2⟩ := HIN'.out wr S5.out q hq
          have q1 : (q : Int) < (n' : Int) := by omega
          obtain ⟨kd, hkd⟩ : ∃ z, (f' q).kind = z := ⟨_, rfl⟩
          obtain ⟨N, hNN⟩ : ∃ z, (f' q).N = z := ⟨_, rfl⟩
          obtain ⟨fl, hfl⟩ : ∃ z, (f' q).fl = z := ⟨_, rfl⟩
          have o1 := hok.N
          have o2 := hok.fl
          rw [hkd] at y0
          rw [hNN] at y1 o1
          rw [hfl] at y2 o2
          have hzr : w.heap.size ≤ wr.heap.size := S5.out.size
          clear hkd hNN hfl hok
          by_cases hpar : q % 2 = 0
          · have e1 : ((q : Int) % 2 == 0) = true := by simp; omega
            have e2 : (q : Int) % 2 = 0 := by omega
            have e3 : ((q : Int) % 2 == 1) = false := by simp; omega
            clear hpar
            go_wp2_with (first
              | (go_at_call 9; refine (a_any w.heap.size g gr g2 gr2 (k + q) kd N fl _ (A5.out.same (same_alloc wr _)) o1 o2 (by omega) (by simp; omega)).mono ?_; rintro e w6 ⟨rfl, a6, k6⟩; have A6 := hidden a6; have K6 := hidden (Same.then (S5.out.alloc _) k6 (by intro i hi hs; omega)); clear a6 k6))
            go_roundw
            case rel => exact ⟨q + 1, by omega, by go_num, A6.out, K6.out⟩
            case measure => simp [intOf]; omega
          · have e1 : ((q : Int) % 2 == 0) = false := by simp; omega
            have e2 : (q : Int) % 2 = 1 := by omega
            have e3 : ((q : Int) % 2 == 1) = true := by simp; omega
            clear hpar
            go_wp2_with (first
              | (go_at_call 9; refine (a_any w.heap.size g2 gr2 g gr (k + q) kd N fl _ (A5.out.swap.same (same_alloc wr _)) o1 o2 (by omega) (by simp; omega)).mono ?_; rintro e w6 ⟨rfl, a6, k6⟩; have A6 := hidden a6.swap; have K6 := hidden (Same.then (S5.out.alloc _) k6 (by intro i hi hs; omega)); clear a6 k6))
            go_roundw
            case rel => exact ⟨q + 1, by omega, by go_num, A6.out, K6.out⟩
            case measure => simp [intOf]; omega
        · obtain ⟨x1, f1, x2, f2, h1, h2, _, _, _⟩ := A5.out.ex
          have H1 := hidden h1
          have H2 := hidden h2
          have t1 : True := trivial
          clear h1 h2
          go_wp2_with (first
            | (go_at_call 10; have _t := t1; refine (same_any g x1 gr f1 (k + q) _ H1.out (by omega)).mono ?_; rintro e w6 ⟨rfl, k6⟩; clear t1; have K6 := hidden (S5.out.trans k6); have H6 := hidden (H2.out.same k6); clear k6)
            | (go_at_call 10; refine (same_any g2 x2 gr2 f2 (k + q) _ H6.out (by omega)).mono ?_; rintro e w7 ⟨rfl, k7⟩; have K7 := hidden (K6.out.trans k7); clear k7))
          go_ret
          exact ⟨rfl, K7.out⟩
end Go.Proofs.Ytiffkcffcjembaa
namespace Go.Proofs.Ytiffkcffcjembaa.HandleForks
open Go.ChangeShapes Go.WideShapes Go.ChangeAt Go.RowKit Go.Joins Go.ChangeMaps
set_option maxRecDepth 100000 in
theorem contract (H : Type) (enc : TypeId × Value → H) (W : World) (base : Nat) (args : Array Value) (ds gs : List (DataW H)) (before : List MemPlace)
    (hval : ∀ (j : Nat) t v, Try.f4.params[j]? = some t → args[j]? = some v → Value.okWide Try.prog W .any base t v)
    (hW : DataW.Whole enc Try.prog Try.f4.params.toList Rows.handleForksSpec.vars false W args.toList ds gs before)
    (hsz : (DataW.weightsEach Try.prog (Try.f4.params.toList ++ (OpenSpec.ofChange Rows.handleForksSpec).bare.plain.varTypes Try.prog) (ds ++ gs)).all (· ≤ reachBytes) = true)
    (_hL : laidMetH Try.prog Rows.handleForksRow.laid W) :
    Calls Try.prog 4 args W fun e W' => ∃ v, e = .returned v ∧ Rows.handleForksSpec.post enc Try.prog Try.f4 false true false false W args v W' := by
  have hW' := hW
  obtain ⟨p, q, hA0, hV, rfl, hfz, hnd⟩ := hW
  have hA : DataW.TrodAll enc Try.prog W 0 (fun _ => true) true Try.f4.params.toList args.toList ds p := hA0
  rw [Try.params4] at hA hval hsz
  obtain ⟨v0, vs0, d0, ds0, p0, q0, hargs, rfl, rfl, h0, r0⟩ := trodAll_cons hA
  obtain ⟨v1, vs1, d1, ds1, p1, q1, rfl, rfl, rfl, h1, r1⟩ := trodAll_cons r0
  obtain ⟨rfl, rfl, rfl⟩ := trodAll_nil r1
  obtain rfl : args = #[v0, v1] := by cases args; simp_all
  obtain ⟨rfl, rfl⟩ := trodVars_none hV
  obtain ⟨a_do, n_do, c_do, f_do, rfl, o_do, s_do⟩ := hops_open (hval 0 22 v0 rfl rfl) h0 _ _ 0 hsz rfl rfl
  obtain ⟨a_more, n_more, c_more, f_more, rfl, o_more, s_more⟩ := hops_open (hval 1 22 v1 rfl rfl) h1 _ _ 1 hsz rfl rfl
  refine (hforks_walk a_do n_do c_do f_do a_more n_more c_more f_more W o_do s_do o_more s_more).mono fun e W' ⟨he, hg⟩ => ?_
  subst he
  exact ⟨_, rfl, law_post laidOut (by rw [Try.params4]; decide +kernel) rfl hW' rfl Try.underlying4 ⟨rfl, rfl, rfl⟩ (hg.below (Nat.le_refl _) fun _ h => h.elim)⟩
set_option maxRecDepth 100000 in
theorem lifted (os : Os) (started : os.Started) (H : Type) (enc : TypeId × Value → H) (F : Stop.Interp) :
    ReturnsInHanded {} Try.checked os 4 .any ((OpenSpec.ofChange Rows.handleForksSpec).preRow enc Try.prog Try.f4 Rows.handleForksRow.domain false Rows.handleForksRow.laid) (((OpenSpec.ofChange Rows.handleForksSpec).at F).post enc Try.prog Try.f4 false true false false) := by
  refine returnsInHanded_of_row (C := Try.checked) (s := OpenSpec.ofChange Rows.handleForksSpec) own started (by kernel_rfl) Try.func4
    (witness_row_at (enc := enc) (C := Try.checked) false (World.holding Try.prog os ⟨#[], #[], []⟩) #[.slice none 0 0, .slice none 0 0] rfl (by kernel_rfl) (by kernel_rfl) (by kernel_rfl)
      (OpenSpec.preRow_of_cond (x := ([.nil, .nil], [], [])) 8 (by kernel_rfl) (by kernel_rfl) (fun k hk => by cases hk) (by kernel_rfl) (laidMet_of_run' 8 (by kernel_rfl) (by kernel_rfl)))) ?_
  intro W base args ds gs before hval hW _ _ hsz hL _ _
  exact contract H enc W base args ds gs before hval hW hsz hL
theorem said : Rows.HandleForksSaid :=
  OpenClaim.holds_of_cond 4 Try.f4 rfl rfl rfl rfl rfl rfl rfl ⟨rfl, rfl, rfl, rfl, rfl⟩ rfl rfl rfl rfl rfl (by kernel_rfl) Try.func4 (by kernel_rfl)
    (of_decide_eq_true (by kernel_rfl)) (by unfold Func.isWrapper; first | (rw [if_pos (by decide +kernel)]; kernel_rfl) | (rw [if_neg (by decide +kernel)]; exact ⟨rfl, rfl⟩))
    (fun os started H enc _ F => by rw [OpenClaim.pre_eq_preRow]; exact lifted os started H enc F)
end Go.Proofs.Ytiffkcffcjembaa.HandleForks
namespace Go.Proofs.Ytiffkcffcjembaa
theorem handleForks_said : Rows.HandleForksSaid := HandleForks.said
end Go.Proofs.Ytiffkcffcjembaa
