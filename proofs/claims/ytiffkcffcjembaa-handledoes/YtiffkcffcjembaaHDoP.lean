/-
  HandleDoes (P24.1, P24.2): whatever the steps: each call of a new table is told what the document tells, in every order, and both stand the same at the end: the law's call returns true and leaves its arguments as they were.
  No condition.
-/
import Derived.Test.YtiffkcffcjembaaHO
namespace Go.Proofs.Ytiffkcffcjembaa
open Go.RowKit Go.Maps
set_option linter.unusedVariables false
set_option linter.unusedSimpArgs false
/-- Both, younger than B. -/
structure PY (B : Nat) (w : World) (g gr : Nat) (n : Nat) : Prop where
  ex : ∃ bm f, PR w g bm gr f n ∧ B ≤ bm
  g : B ≤ g
  gr : B ≤ gr
theorem PY.step {w0 w w' : World} {g gr n bm : Nat} (hg : w0.heap.size ≤ g) (hgr : w0.heap.size ≤ gr) (hb : w0.heap.size ≤ bm) (k : Same w0 w) (h : DOut g bm gr n w w') : PY w0.heap.size w' g gr (n + 1) ∧ Same w0 w' := by
  obtain ⟨b', f', hp, hb', kk⟩ := h.ex
  have := k.size
  exact ⟨⟨⟨b', f', hp, by omega⟩, hg, hgr⟩, Same.then k kk (by rintro i hi (h | h | h) <;> omega)⟩
theorem new_pair {w w1 : World} {g bm : Nat} (h : TB w1 g bm f0 0) : PR (w1.alloc (.cells #[.slice none 0 0] 29)) g bm w1.heap.size f0 0 :=
  ⟨h.same (same_alloc _ _), ⟨_, blk_new w1 _, by rw [ol_zero]; exact World.ownsRow_nil _ _ _ _⟩⟩
set_option maxHeartbeats 4000000 in
set_option maxRecDepth 100000 in
theorem hdoes_walk (a : Option Addr) (n c : Nat) (f : Nat → Op3) (w : World) (ho : HOps w a n f) (hs : n * 24 ≤ 140737488351232) :
    Calls Try.prog 3 #[.slice a n c] w fun e w' => e = .returned (.bool true) ∧ Same w w' := by
  have HIN : Hid (∀ W, Same w W → ∀ k, k < n → ∃ b off, a = some ⟨b, off, none⟩ ∧ (f k).ok ∧ W.cell? ⟨b, off + k * 3, none⟩ = some (.int .i64 (f k).kind) ∧ W.cell? ⟨b, off + k * 3 + 1, none⟩ = some (.int .i64 (f k).N) ∧ W.cell? ⟨b, off + k * 3 + 2, none⟩ = some (.int .i64 (f k).fl)) := fun W kk k hk => by
    obtain ⟨b, off, e, h⟩ := ho (by omega)
    obtain ⟨h0, h1, h2, h3⟩ := h k hk
    exact ⟨b, off, e, h0, Kept.cell kk (fun h => h) h1, Kept.cell kk (fun h => h) h2, Kept.cell kk (fun h => h) h3⟩
  clear ho
  go_enter Try.func3, Try.ntmps3
  go_wp2_with (first
    | (go_at_call 7; refine (h_new _).mono ?_; rintro e w0 ⟨g, bm, rfl, hg, hbm, k0, T0⟩; have K0 := hidden k0; have HT0 := hidden T0; clear k0 T0)
    | (go_at_call 8; refine (h_awake _).mono ?_; rintro e w1 ⟨rfl, k1⟩; have hz1 : w.heap.size ≤ w1.heap.size := (Nat.le_trans K0.out.size k1.size); have K1 := hidden ((K0.out.trans k1).alloc (.cells #[.slice none 0 0] 29)); have P1 := hidden (new_pair (w := w) (HT0.out.same k1)); clear k1))
  generalize w1.heap.size = gr at *
  generalize w1.alloc (.cells #[.slice none 0 0] 29) = W at *
  go_loopw [18] (fun i wr => ∃ k : Nat, k ≤ n ∧ i = .int .i64 k ∧ PY w.heap.size wr g gr k ∧ Same w wr) (fun i _ => n - (intOf i).toNat)
  case atStart => exact ⟨0, Nat.zero_le _, rfl, ⟨⟨bm, f0, P1.out, hbm⟩, hg, hz1⟩, K1.out⟩
  case round =>
    obtain ⟨k, hk, rfl, hP, hS⟩ := hrel
    have S1 := hidden hS
    obtain ⟨b', f', hp, hb'⟩ := hP.ex
    have P2 := hidden hp
    clear hP hp hS
    by_cases hlt : k < n
    · obtain ⟨b, off, rfl, hok, y0, y1, y2⟩ := HIN.out wr S1.out k hlt
      have q1 : (k : Int) < (n : Int) := by omega
      obtain ⟨kd, hkd⟩ : ∃ z, (f k).kind = z := ⟨_, rfl⟩
      obtain ⟨N, hNN⟩ : ∃ z, (f k).N = z := ⟨_, rfl⟩
      obtain ⟨fl, hfl⟩ : ∃ z, (f k).fl = z := ⟨_, rfl⟩
      have o1 := hok.N
      have o2 := hok.fl
      rw [hkd] at y0
      rw [hNN] at y1 o1
      rw [hfl] at y2 o2
      clear hkd hNN hfl hok
      go_wp2_with (first
        | (go_at_call 9; refine (d_any g b' gr f' k kd N fl _ (P2.out.same (same_alloc wr _)) o1 o2 (by omega)).mono ?_; rintro e w2 ⟨rfl, hD⟩; obtain ⟨p2, k2⟩ := PY.step hg hz1 hb' (S1.out.alloc _) hD; have PP := hidden p2; have KK := hidden k2; clear hD p2 k2))
      go_roundw
      case rel => exact ⟨k + 1, by omega, by go_num, PP.out, KK.out⟩
      case measure => simp [intOf]; omega
    · go_wp2_with (first
        | (go_at_call 10; refine (same_any g b' gr f' k _ P2.out (by omega)).mono ?_; rintro e w2 ⟨rfl, k2⟩; have KK := hidden (S1.out.trans k2); clear k2))
      go_ret
      exact ⟨rfl, KK.out⟩
end Go.Proofs.Ytiffkcffcjembaa
namespace Go.Proofs.Ytiffkcffcjembaa.HandleDoes
open Go.ChangeShapes Go.WideShapes Go.ChangeAt Go.RowKit Go.Joins Go.ChangeMaps
set_option maxRecDepth 100000 in
theorem contract (H : Type) (enc : TypeId × Value → H) (W : World) (base : Nat) (args : Array Value) (ds gs : List (DataW H)) (before : List MemPlace)
    (hval : ∀ (j : Nat) t v, Try.f3.params[j]? = some t → args[j]? = some v → Value.okWide Try.prog W .any base t v)
    (hW : DataW.Whole enc Try.prog Try.f3.params.toList Rows.handleDoesSpec.vars false W args.toList ds gs before)
    (hsz : (DataW.weightsEach Try.prog (Try.f3.params.toList ++ (OpenSpec.ofChange Rows.handleDoesSpec).bare.plain.varTypes Try.prog) (ds ++ gs)).all (· ≤ reachBytes) = true)
    (_hL : laidMetH Try.prog Rows.handleDoesRow.laid W) :
    Calls Try.prog 3 args W fun e W' => ∃ v, e = .returned v ∧ Rows.handleDoesSpec.post enc Try.prog Try.f3 false true false false W args v W' := by
  have hW' := hW
  obtain ⟨p, q, hA0, hV, rfl, hfz, hnd⟩ := hW
  have hA : DataW.TrodAll enc Try.prog W 0 (fun _ => true) true Try.f3.params.toList args.toList ds p := hA0
  rw [Try.params3] at hA hval hsz
  obtain ⟨v0, vs0, d0, ds0, p0, q0, hargs, rfl, rfl, h0, r0⟩ := trodAll_cons hA
  obtain ⟨rfl, rfl, rfl⟩ := trodAll_nil r0
  obtain rfl : args = #[v0] := by cases args; simp_all
  obtain ⟨rfl, rfl⟩ := trodVars_none hV
  obtain ⟨a_do, n_do, c_do, f_do, rfl, o_do, s_do⟩ := hops_open (hval 0 22 v0 rfl rfl) h0 _ _ 0 hsz rfl rfl
  refine (hdoes_walk a_do n_do c_do f_do W o_do s_do).mono fun e W' ⟨he, hg⟩ => ?_
  subst he
  exact ⟨_, rfl, law_post laidOut (by rw [Try.params3]; decide +kernel) rfl hW' rfl Try.underlying4 ⟨rfl, rfl, rfl⟩ (hg.below (Nat.le_refl _) fun _ h => h.elim)⟩
set_option maxRecDepth 100000 in
theorem lifted (os : Os) (started : os.Started) (H : Type) (enc : TypeId × Value → H) (F : Stop.Interp) :
    ReturnsInHanded {} Try.checked os 3 .any ((OpenSpec.ofChange Rows.handleDoesSpec).preRow enc Try.prog Try.f3 Rows.handleDoesRow.domain false Rows.handleDoesRow.laid) (((OpenSpec.ofChange Rows.handleDoesSpec).at F).post enc Try.prog Try.f3 false true false false) := by
  refine returnsInHanded_of_row (C := Try.checked) (s := OpenSpec.ofChange Rows.handleDoesSpec) own started (by kernel_rfl) Try.func3
    (witness_row_at (enc := enc) (C := Try.checked) false (World.holding Try.prog os ⟨#[], #[], []⟩) #[.slice none 0 0] rfl (by kernel_rfl) (by kernel_rfl) (by kernel_rfl)
      (OpenSpec.preRow_of_cond (x := ([.nil], [], [])) 8 (by kernel_rfl) (by kernel_rfl) (fun k hk => by cases hk) (by kernel_rfl) (laidMet_of_run' 8 (by kernel_rfl) (by kernel_rfl)))) ?_
  intro W base args ds gs before hval hW _ _ hsz hL _ _
  exact contract H enc W base args ds gs before hval hW hsz hL
theorem said : Rows.HandleDoesSaid :=
  OpenClaim.holds_of_cond 3 Try.f3 rfl rfl rfl rfl rfl rfl rfl ⟨rfl, rfl, rfl, rfl, rfl⟩ rfl rfl rfl rfl rfl (by kernel_rfl) Try.func3 (by kernel_rfl)
    (of_decide_eq_true (by kernel_rfl)) (by unfold Func.isWrapper; first | (rw [if_pos (by decide +kernel)]; kernel_rfl) | (rw [if_neg (by decide +kernel)]; exact ⟨rfl, rfl⟩))
    (fun os started H enc _ F => by rw [OpenClaim.pre_eq_preRow]; exact lifted os started H enc F)
end Go.Proofs.Ytiffkcffcjembaa.HandleDoes
namespace Go.Proofs.Ytiffkcffcjembaa
theorem handleDoes_said : Rows.HandleDoesSaid := HandleDoes.said
end Go.Proofs.Ytiffkcffcjembaa
