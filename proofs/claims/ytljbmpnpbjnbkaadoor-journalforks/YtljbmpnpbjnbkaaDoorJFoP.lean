/-
  JournalForks (P7.4): whatever the size, the sectors, the generation and the calls: what is appended to a Writer, and taken, is not its Fork's, and the other way round, as with the document's: the law's call returns true and leaves its arguments as they were.
  Condition: the table crcSteps holds what the program's text lays (the card ties it).
-/
import Derived.Test.YtljbmpnpbjnbkaaDoorJG2
import Derived.Test.YtljbmpnpbjnbkaaDoorJ6
import Derived.Deep.RegionHeld3
/-
  JournalForks (P7.4), walked: whatever the shape and the calls.
-/
/- journal: two pairs of Writers, apart from each other. -/
namespace Go.Proofs.YtljbmpnpbjnbkaaDoor
open Go.RowKit
set_option linter.unusedVariables false
set_option linter.unusedSimpArgs false
/-- The blocks of a pair. -/
def bl (gp gd : Nat) (rv : Value) (us : List Value) (w : World) : Nat → Prop := fun k => jS gp w k ∨ dS gd rv us k
/-- A pair behind a call, and what the call may have turned. -/
structure BO (B gp gd : Nat) (rv : Value) (us : List Value) (w : World) (s' : JSt) (d' : DSt) (rv2 : Value) (us2 : List Value) (w' : World) : Prop where
  x : JX B gp gd s' d' rv2 us2 w'
  k : Kept (bl gp gd rv us w) w w'
  f : ∀ i, i < w.heap.size → bl gp gd rv2 us2 w' i → bl gp gd rv us w i
theorem JX.bpstep {B gp gd : Nat} {s s' : JSt} {d : DSt} {rv : Value} {us : List Value} {w w' : World} (h : JX B gp gd s d rv us w) (h' : JW gp s' w') (t : Turns gp w w') : BO B gp gd rv us w s' d rv us w' := by
  refine ⟨(h.pstep h' t).1, t.kept.mono (fun i _ hi => .inl hi), fun i hi hb => ?_⟩
  rcases hb with (e | e) | e
  · exact .inl (.inl e)
  · exact .inl (t.row i hi e)
  · exact .inr e
theorem JX.bdstep {B gp gd : Nat} {s : JSt} {d d' : DSt} {rv rv' : Value} {us us' : List Value} {w w' : World} (h : JX B gp gd s d rv us w) (hd : DL gd d' w' rv' us') (hf : ∀ k, k < w.heap.size → dS gd rv' us' k → dS gd rv us k) (k : Kept (dS gd rv us) w w') : BO B gp gd rv us w s d' rv' us' w' := by
  have hn : ∀ i, jS gp w i → ¬ dS gd rv us i := fun i hi hd => (h.db i hd).2 hi
  have hj := h.p.jkept k (hn gp (.inl rfl))
  refine ⟨(h.dstep hd hf k).1, k.mono (fun i _ hi => .inr hi), fun i hi hb => ?_⟩
  rcases hb with e | e
  · exact .inl ((hj i).1 e)
  · exact .inr (hf i hi e)
/-- Two pairs. -/
structure J4 (B gp gd : Nat) (s : JSt) (d : DSt) (rv : Value) (us : List Value) (gq ge : Nat) (t : JSt) (e : DSt) (rw : Value) (vs : List Value) (w : World) : Prop where
  a : JX B gp gd s d rv us w
  b : JX B gq ge t e rw vs w
  n : ∀ k, bl gp gd rv us w k → ¬ bl gq ge rw vs w k
theorem J4.swap {B gp gd gq ge : Nat} {s t : JSt} {d e : DSt} {rv rw : Value} {us vs : List Value} {w : World} (h : J4 B gp gd s d rv us gq ge t e rw vs w) : J4 B gq ge t e rw vs gp gd s d rv us w :=
  ⟨h.b, h.a, fun k h1 h2 => h.n k h2 h1⟩
theorem J4.step {B gp gd gq ge : Nat} {s s' t : JSt} {d d' e : DSt} {rv rv2 rw : Value} {us us2 vs : List Value} {w w' : World} (h : J4 B gp gd s d rv us gq ge t e rw vs w) (o : BO B gp gd rv us w s' d' rv2 us2 w') : J4 B gp gd s' d' rv2 us2 gq ge t e rw vs w' ∧ Kept (fun k => B ≤ k) w w' := by
  have h1 : ∀ i, jS gq w i → ¬ bl gp gd rv us w i := fun i hi hb => h.n i hb (.inl hi)
  have h2 : ∀ i, dS ge rw vs i → ¬ bl gp gd rv us w i := fun i hi hb => h.n i hb (.inr hi)
  have hj := h.b.p.jkept o.k (h1 gq (.inl rfl))
  refine ⟨⟨o.x, h.b.kept o.k h1 h2, fun i hb hc => ?_⟩, o.k.mono (fun i _ hi => hi.elim (h.a.pb i) (fun e => (h.a.db i e).1))⟩
  rcases hc with hc | hc
  · have hc' := (hj i).1 hc
    exact h.n i (o.f i (h.b.p.jlt hc') hb) (.inl hc')
  · exact h.n i (o.f i (h.b.d.lt hc) hb) (.inr hc)
theorem J4.same {B gp gd gq ge : Nat} {s t : JSt} {d e : DSt} {rv rw : Value} {us vs : List Value} {w w' : World} (h : J4 B gp gd s d rv us gq ge t e rw vs w) (k : Same w w') : J4 B gp gd s d rv us gq ge t e rw vs w' := by
  have ha := h.a.p.jkept k (fun h => h)
  have hb := h.b.p.jkept k (fun h => h)
  refine ⟨h.a.same k, h.b.same k, fun i h1 h2 => h.n i (h1.imp (ha i).1 id) (h2.imp (hb i).1 id)⟩
/-- Behind both Forks. -/
theorem JX.both {B gp gq gd : Nat} {s t : JSt} {d e : DSt} {rv rw : Value} {us vs : List Value} {w w' : World} (h : JT2 B gp gq gd s t d rv us w) {ge : Nat} (he : DL ge e w' rw vs) (hy : ∀ k, dS ge rw vs k → w.heap.size ≤ k) (k : Same w w') :
    J4 B gp gd s d rv us gq ge t e rw vs w' := by
  have hl := h.a.low
  have ha := h.a.p.jkept k (fun h => h)
  have hb := h.b.p.jkept k (fun h => h)
  refine ⟨h.a.same k, ⟨h.b.p.same k, fun i hi => h.b.pb i ((hb i).1 hi), he, fun i hi => ⟨Nat.le_trans hl (hy i hi), fun e => by have := h.b.p.jlt ((hb i).1 e); have := hy i hi; omega⟩⟩, fun i h1 h2 => ?_⟩
  rcases h1 with h1 | h1
  · have g1 := (ha i).1 h1
    rcases h2 with h2 | h2
    · exact h.n i g1 ((hb i).1 h2)
    · have := h.a.p.jlt g1
      have := hy i h2
      omega
  · rcases h2 with h2 | h2
    · exact (h.b.db i h1).2 ((hb i).1 h2)
    · have := h.a.d.lt h1
      have := hy i h2
      omega
/-! ### Calls on one side -/
theorem J4.pa {B gp gd gq ge : Nat} {s t : JSt} {d e : DSt} {rv rw : Value} {us vs : List Value} {w : World} (h : J4 B gp gd s d rv us gq ge t e rw vs w) (rec : ByteArray) (hl : rec.size ≤ 140737488351232) :
    Calls Tryd.prog 11 #[.pointer (some ⟨gp, 0, none⟩), .string rec] w fun r w' => r = .returned (.int .i64 (s.appErr rec.size)) ∧ J4 B gp gd (s.app rec.data.toList) d rv us gq ge t e rw vs w' ∧ Kept (fun k => B ≤ k) w w' := by
  refine (h.a.pa rec hl).mono ?_
  rintro r w' ⟨rfl, j, k⟩
  exact ⟨rfl, h.step (h.a.bpstep j k)⟩
theorem J4.da {B gp gd gq ge : Nat} {s s0 t : JSt} {d e : DSt} {rv rw : Value} {us vs : List Value} {w : World} (h : J4 B gp gd s d rv us gq ge t e rw vs w) (ag : Ag d s0) (rec : ByteArray) (hl : rec.size ≤ 140737488351232) :
    Calls Tryd.prog 12 #[.pointer (some ⟨gd, 0, none⟩), .string rec] w fun r w' => r = .returned (.int .i64 (s0.appErr rec.size)) ∧ ∃ rv' us', J4 B gp gd s (d.appJ s0 rec) rv' us' gq ge t e rw vs w' ∧ Kept (fun k => B ≤ k) w w' := by
  unfold DSt.appJ
  by_cases he : s0.appErr rec.size = 0
  · rw [if_pos he, he]
    refine (appendD_yes h.a.d ag rec he).mono ?_
    rintro r w' ⟨rfl, ⟨rv', us', h1, h2⟩, k⟩
    exact ⟨rfl, rv', us', h.step (h.a.bdstep h1 h2 k)⟩
  · rw [if_neg he]
    refine (appendD_no h.a.d.dw ag rec hl he).mono ?_
    rintro r w' ⟨rfl, k⟩
    exact ⟨rfl, rv, us, h.same k, k.mono (fun _ _ h => h.elim)⟩
theorem J4.pt {B gp gd gq ge : Nat} {s t : JSt} {d e : DSt} {rv rw : Value} {us vs : List Value} {w : World} (h : J4 B gp gd s d rv us gq ge t e rw vs w) (hT : Tab w) :
    Calls Tryd.prog 15 #[.pointer (some ⟨gp, 0, none⟩)] w fun r w' => ∃ v, r = .returned v ∧ (Secs w' v s.taken (s.secs s.many) w.heap.size ∧ gd < w.heap.size ∧ ge < w.heap.size) ∧ J4 B gp gd s.take d rv us gq ge t e rw vs w' ∧ Kept (fun k => B ≤ k) w w' := by
  refine (j_take h.a.p hT).mono ?_
  rintro r w' ⟨v, rfl, h1, j, k⟩
  exact ⟨v, rfl, ⟨h1, h.a.d.lt (.inl rfl), h.b.d.lt (.inl rfl)⟩, h.step (h.a.bpstep j k)⟩
theorem J4.dt {B gp gd gq ge : Nat} {s s0 t : JSt} {d e : DSt} {rv rw : Value} {us vs : List Value} {w : World} (h : J4 B gp gd s d rv us gq ge t e rw vs w) (ag : Ag d s0) :
    Calls Tryd.prog 16 #[.pointer (some ⟨gd, 0, none⟩)] w fun r w' => ∃ v, r = .returned v ∧ DSecs w' v s0.taken (s0.secs s0.many) ∧ J4 B gp gd s d.take rv us gq ge t e rw vs w' ∧ Kept (fun k => B ≤ k) w w' ∧ Kept (fun k => k = gd) w w' := by
  refine (h.a.dt ag).mono ?_
  rintro r w' ⟨v, rfl, h1, x, k⟩
  have hn : ¬ (gp = gd) := fun e => (h.a.db gd (.inl rfl)).2 (.inl e.symm)
  have hj := h.a.p.jkept k hn
  obtain ⟨z1, z2⟩ := h.step (s' := s) (d' := d.take) (rv2 := rv) (us2 := us) ⟨x, k.mono (fun i _ e => .inr (.inl e)), fun i hi hb => hb.imp (hj i).1 id⟩
  exact ⟨v, rfl, h1, z1, z2, k⟩
end Go.Proofs.YtljbmpnpbjnbkaaDoor
namespace Go.Proofs.YtljbmpnpbjnbkaaDoor
open Go.RowKit
set_option linter.unusedVariables false
set_option linter.unusedSimpArgs false
theorem secs_lenF {s : JSt} (h : s.Ok) (k : Nat) : ∀ l ∈ s.secs k, l.length ≤ 4096 := by
  intro l hl
  unfold JSt.secs at hl
  obtain ⟨i, _, rfl⟩ := List.mem_map.1 hl
  unfold JSt.sec
  have h0 := h.s0
  have h1 := h.s1
  rw [jsec_len _ _ _ _ (by
    rw [List.length_take]
    have := Nat.min_le_left s.room (s.bs.drop (i * s.room)).length
    unfold JSt.room at this ⊢
    omega)]
  exact h1
theorem Ag.sameS {d : DSt} {s : JSt} (h : Ag d s) (x y : Value) (W : World) (h1 : DSecs W x s.taken (s.secs s.many)) (h2 : DSecs W y s.taken (s.secs s.many)) : Calls Tryd.prog 17 #[x, y] W fun e w' => e = .returned (.bool true) ∧ Same W w' :=
  sameS_any x y s.taken (s.secs s.many) W h1 h2 (by rw [JSt.secs_len]; have := h.ok.many; have := h.ok.n1; omega) (secs_lenF h.ok _) (by have := h.ok.t; have := h.ok.n1; omega)
theorem appJ_taken (d : DSt) (s : JSt) (rec : ByteArray) : (d.appJ s rec).taken = d.taken := by
  unfold DSt.appJ
  split <;> rfl
set_option maxHeartbeats 2000000 in
set_option maxRecDepth 100000 in
theorem jforks_walk (size sectors : Int) (g : Nat) (v : Value) (n : Nat) (f : Nat → Int × ByteArray) (v2 : Value) (n2 : Nat) (f2 : Nat → Int × ByteArray) (w : World) (hs0 : -9223372036854775808 ≤ size) (hs1 : size ≤ 9223372036854775807) (ht0 : -9223372036854775808 ≤ sectors) (ht1 : sectors ≤ 9223372036854775807) (hg : g < 18446744073709551616) (hin : JOps w v n f) (hn : n ≤ 140737488351232) (hin2 : JOps w v2 n2 f2) (hn2 : n2 ≤ 140737488351232) (hT : Tab w) :
    Calls Tryd.prog 7 #[.int .i64 size, .int .i64 sectors, .int .u64 g, v, v2] w fun e w' => e = .returned (.bool true) ∧ Same w w' := by
  have HT := hidden hT
  obtain ⟨va, vc, rfl, hin⟩ := hin
  obtain ⟨va2, vc2, rfl, hin2⟩ := hin2
  by_cases hM : JMay size sectors
  · obtain ⟨sz, rfl⟩ := Int.eq_ofNat_of_zero_le (show 0 ≤ size by have := hM.1.1; omega)
    obtain ⟨st, rfl⟩ := Int.eq_ofNat_of_zero_le (show 0 ≤ sectors by have := hM.2.1; omega)
    have HN := hidden (fun W => j_new sz st g W hM hg)
    have HD := hidden (fun W => newD_dl sz st g W hM)
    have HAg0 := hidden (Ag.new hM hg)
    have HI := hidden hin
    have HI2 := hidden hin2
    have hpd : ∀ y : Nat, (.pointer (some ⟨y, 0, none⟩) : Value) ≠ .pointer none := by simp
    clear hT hin hin2 hM
    go_enter Tryd.func7, Tryd.ntmps7
    go_wp2_with (first
      | (go_at_call 8; refine (j_lives _ HT.out).mono ?_; rintro e w1 ⟨rfl, k1⟩; have K1 := hidden k1; clear k1)
      | (go_at_call 9; refine (HN.out _).mono ?_; rintro e w2 ⟨rfl, j2, k2, r2⟩; have K2 := hidden (K1.out.trans k2); have J2 := hidden j2; have R2 := hidden r2; clear k2 j2 r2)
      | (go_at_call 10; refine (HD.out _).mono ?_; rintro e w3 ⟨rfl, d3, k3⟩; have K3 := hidden (K2.out.trans k3); have X3 := hidden (JX.new (B := w.heap.size) K1.out.size J2.out R2.out k3 d3); clear k3 d3))
    generalize w1.heap.size = gp at X3 ⊢
    clear J2 R2
    go_loopw [15] (fun v wr => ∃ (i : Nat) (s : JSt) (d : DSt) (rv : Value) (us : List Value), v = .int .i64 i ∧ i ≤ n ∧ JX w.heap.size gp w2.heap.size s d rv us wr ∧ Ag d s ∧ d.taken = 0 ∧ Same w wr) (fun v _ => n - (intOf v).toNat)
    case atStart => exact ⟨0, _, _, _, _, rfl, Nat.zero_le _, X3.out, HAg0.out, rfl, K3.out⟩
    case round =>
      obtain ⟨i, s, d, rv, us, rfl, hi, hX, hA, hd0, hK⟩ := hrel
      have HX := hidden hX
      have HA := hidden hA
      have HK := hidden hK
      have HD0 := hidden hd0
      clear hX hA hK hd0
      by_cases h1 : i < n
      · obtain ⟨b, off, hva, hcells⟩ := HI.out (by omega)
        subst hva
        obtain ⟨hrl, _, c2⟩ := hcells i h1
        obtain ⟨rec, hrec⟩ : ∃ rec, rec = (f i).2 := ⟨_, rfl⟩
        rw [← hrec] at c2 hrl
        clear hrec
        have q0 : (0 : Int) ≤ (i : Int) := Int.natCast_nonneg _
        have q1 : (i : Int) < (n : Int) := by omega
        have d2 : wr.cell? ⟨b, off + i * 2 + 1, none⟩ = some (.string rec) := HK.out.cell (fun h => h) c2
        have HC2 := hidden c2
        clear c2 hcells
        have HPa := hidden (fun W (h : JX w.heap.size gp w2.heap.size s d rv us W) => h.pa rec hrl)
        have HDa := hidden (fun s1 W (h : JX w.heap.size gp w2.heap.size s1 d rv us W) => h.da HA.out rec hrl)
        have HXd := hidden (HX.out.same ((Kept.refl (fun _ => False) wr).drew))
        have HKd := hidden (HK.out.drew)
        go_wp2
        go_region_held3 (fun w' => w'.cell? ⟨b, off + i * 2 + 1, none⟩ = some (.string rec))
          (first | go_keep | assumption)
          ((first
            | (go_at_call 11; refine (HPa.out _ HXd.out).mono ?_; rintro e w5 ⟨rfl, j5, t5⟩; obtain ⟨x5, k5⟩ := HXd.out.pstep j5 t5; have X5 := hidden x5; have K5 := hidden (HKd.out.trans' k5 (fun _ hk hb => by omega)); have d5 : w5.cell? ⟨b, off + i * 2 + 1, none⟩ = some (.string rec) := K5.out.cell (fun h => h) HC2.out; clear j5 t5 x5 k5)
            | (go_at_call 12; refine (HDa.out _ _ X5.out).mono ?_; rintro e w6 ⟨rfl, rv6, us6, x6, k6⟩; have X6 := hidden x6; have K6 := hidden (K5.out.trans' k6 (fun _ hk hb => by omega)); have d6 : w6.cell? ⟨b, off + i * 2 + 1, none⟩ = some (.string rec) := K6.out.cell (fun h => h) HC2.out; clear x6 k6)))
        go_wp2
        go_roundw
        case rel => exact ⟨i + 1, _, _, rv6, us6, by go_num, by omega, X6.out, HA.out.appJ rec, (appJ_taken _ _ _).trans HD0.out, K6.out⟩
        case measure => simp [intOf]; omega
      · have hin' : i = n := by omega
        subst hin'
        have q1 : ¬ (i : Int) < (i : Int) := by omega
        have hRl : d.rooms.length ≤ 4096 := by have := HA.out.len; have := HA.out.ok.many; have := HA.out.ok.n1; omega
        have hXl : ∀ x ∈ d.rooms, x.length ≤ 4096 := fun x hx => by
          have h1 := HA.out.chk.le x (by unfold DSt.cur; rw [HD0.out, List.drop_zero]; exact hx)
          have h2 := HA.out.ok.s1
          omega
        have HF := hidden (fun W (h : JW gp s W) => j_fork h)
        have HFd := hidden (fun W (h : DL w2.heap.size d W rv us) => forkD_any h hRl hXl)
        clear hRl hXl
        go_wp2_with (first
          | (go_at_call 19; refine (HF.out _ HX.out.p).mono ?_; rintro e w5 ⟨gq, rfl, hq, jq, k5, r5⟩; have T5 := hidden (HX.out.fork hq jq k5 r5); have K5 := hidden (HK.out.trans k5); have hgq := hpd gq; clear hq jq k5 r5)
          | (go_at_call 27; refine (HFd.out _ T5.out.a.d).mono ?_; rintro e w6 ⟨rw6, vs6, rfl, d6, y6, k6⟩; have X6 := hidden (JX.both T5.out d6 y6 k6); have K6 := hidden (K5.out.trans k6); clear d6 y6 k6))
        generalize w5.heap.size = ge at X6 ⊢
        clear T5 K5
        go_loopw [18] (fun v wr => ∃ (i : Nat) (s : JSt) (d : DSt) (rv : Value) (us : List Value) (t : JSt) (e : DSt) (rw : Value) (vs : List Value), v = .int .i64 i ∧ i ≤ n2 ∧ J4 w.heap.size gp w2.heap.size s d rv us gq ge t e rw vs wr ∧ Ag d s ∧ Ag e t ∧ Same w wr) (fun v _ => n2 - (intOf v).toNat)
        case atStart => exact ⟨0, _, _, _, _, _, _, _, _, rfl, Nat.zero_le _, X6.out, HA.out, HA.out, K6.out⟩
        case round =>
          clear HX HA HK HD0 HF HFd X6 K6
          obtain ⟨j, s, d, rv, us, t, e, rw', vs, rfl, hj, hX, hA, hE, hK⟩ := hrel
          have HX := hidden hX
          have HA := hidden hA
          have HE := hidden hE
          have HK := hidden hK
          clear hX hA hE hK
          by_cases h1 : j < n2
          · obtain ⟨b, off, hva, hcells⟩ := HI2.out (by omega)
            subst hva
            obtain ⟨hrl, c1, c2⟩ := hcells j h1
            obtain ⟨kd, hkd⟩ : ∃ kd, kd = (f2 j).1 := ⟨_, rfl⟩
            obtain ⟨rec, hrec⟩ : ∃ rec, rec = (f2 j).2 := ⟨_, rfl⟩
            rw [← hkd] at c1
            rw [← hrec] at c2 hrl
            clear hkd hrec
            have q0 : (0 : Int) ≤ (j : Int) := Int.natCast_nonneg _
            have q3 : (j : Int) < (n2 : Int) := by omega
            have d1 : wr.cell? ⟨b, off + j * 2, none⟩ = some (.int .i64 kd) := HK.out.cell (fun h => h) c1
            have d2 : wr.cell? ⟨b, off + j * 2 + 1, none⟩ = some (.string rec) := HK.out.cell (fun h => h) c2
            have HC2 := hidden c2
            clear c1 c2 hcells
            by_cases hp : (j : Int) % 2 = 1
            · have e0 : ((j : Int) % 2 == 1) = true := by simpa using hp
              by_cases k3 : kd = 3
              · subst k3
                have HTp1 := hidden (fun W (h : J4 w.heap.size gq ge t e rw' vs gp w2.heap.size s d rv us W) (T : Tab W) => h.pt T)
                have HTd1 := hidden (fun s1 W (h : J4 w.heap.size gq ge s1 e rw' vs gp w2.heap.size s d rv us W) => h.dt HE.out)
                have HSm1 := hidden (fun x y W h1 h2 => HE.out.sameS x y W h1 h2)
                go_wp2_with (first
                  | (go_at_call 15; refine (HTp1.out _ HX.out.swap (HT.out.same HK.out)).mono ?_; rintro r w15 ⟨ta1, rfl, s5, x5, k5⟩; have X15 := hidden x5; have K15 := hidden (HK.out.trans' k5 (fun _ hk hb => by omega)); have S15 := hidden s5; clear s5 x5 k5)
                  | (go_at_call 16; refine (HTd1.out _ _ X15.out).mono ?_; rintro r w16 ⟨tb1, rfl, s6, x6, k6, kg⟩; have X16 := hidden x6; have K16 := hidden (K15.out.trans' k6 (fun _ hk hb => by omega)); obtain ⟨sa, sb, sc⟩ := S15.out; have S1a := hidden (sa.kept kg (fun i h1 h2 e => by omega)); have S1b := hidden s6; clear s6 x6 k6 kg sa sb sc)
                  | (go_at_call 17; refine (HSm1.out _ _ _ S1a.out.d S1b.out).mono ?_; rintro r w17 ⟨rfl, k7⟩; have X17 := hidden (X16.out.same k7); have K17 := hidden (K16.out.trans k7); clear k7))
                go_roundw
                case rel => exact ⟨j + 1, s, d, rv, us, _, _, rw', vs, by go_num, by omega, X17.out.swap, HA.out, HE.out.take, K17.out⟩
                case measure => simp [intOf]; omega
              · have e3 : (kd == 3) = false := by simpa using k3
                have HPa := hidden (fun W (h : J4 w.heap.size gq ge t e rw' vs gp w2.heap.size s d rv us W) => h.pa rec hrl)
                have HDa := hidden (fun s1 W (h : J4 w.heap.size gq ge s1 e rw' vs gp w2.heap.size s d rv us W) => h.da HE.out rec hrl)
                have HXd := hidden (HX.out.same ((Kept.refl (fun _ => False) wr).drew))
                have HKd := hidden (HK.out.drew)
                go_wp2
                go_region_held3 (fun w' => w'.cell? ⟨b, off + j * 2 + 1, none⟩ = some (.string rec))
                  (first | go_keep | assumption)
                  ((first
                    | (go_at_call 11; refine (HPa.out _ HXd.out.swap).mono ?_; rintro r w5 ⟨rfl, x5, k5⟩; have X5 := hidden x5; have K5 := hidden (HKd.out.trans' k5 (fun _ hk hb => by omega)); have d5 : w5.cell? ⟨b, off + j * 2 + 1, none⟩ = some (.string rec) := K5.out.cell (fun h => h) HC2.out; clear x5 k5)
                    | (go_at_call 12; refine (HDa.out _ _ X5.out).mono ?_; rintro r w6 ⟨rfl, rv6, us6, x6, k6⟩; have X6 := hidden x6; have K6 := hidden (K5.out.trans' k6 (fun _ hk hb => by omega)); have d6 : w6.cell? ⟨b, off + j * 2 + 1, none⟩ = some (.string rec) := K6.out.cell (fun h => h) HC2.out; clear x6 k6)))
                go_wp2
                go_roundw
                case rel => exact ⟨j + 1, s, d, rv, us, _, _, rv6, us6, by go_num, by omega, X6.out.swap, HA.out, HE.out.appJ rec, K6.out⟩
                case measure => simp [intOf]; omega
            · have e0 : ((j : Int) % 2 == 1) = false := by simpa using hp
              by_cases k3 : kd = 3
              · subst k3
                have HTp1 := hidden (fun W (h : J4 w.heap.size gp w2.heap.size s d rv us gq ge t e rw' vs W) (T : Tab W) => h.pt T)
                have HTd1 := hidden (fun s1 W (h : J4 w.heap.size gp w2.heap.size s1 d rv us gq ge t e rw' vs W) => h.dt HA.out)
                have HSm1 := hidden (fun x y W h1 h2 => HA.out.sameS x y W h1 h2)
                go_wp2_with (first
                  | (go_at_call 15; refine (HTp1.out _ HX.out (HT.out.same HK.out)).mono ?_; rintro r w15 ⟨ta1, rfl, s5, x5, k5⟩; have X15 := hidden x5; have K15 := hidden (HK.out.trans' k5 (fun _ hk hb => by omega)); have S15 := hidden s5; clear s5 x5 k5)
                  | (go_at_call 16; refine (HTd1.out _ _ X15.out).mono ?_; rintro r w16 ⟨tb1, rfl, s6, x6, k6, kg⟩; have X16 := hidden x6; have K16 := hidden (K15.out.trans' k6 (fun _ hk hb => by omega)); obtain ⟨sa, sb, sc⟩ := S15.out; have S1a := hidden (sa.kept kg (fun i h1 h2 e => by omega)); have S1b := hidden s6; clear s6 x6 k6 kg sa sb sc)
                  | (go_at_call 17; refine (HSm1.out _ _ _ S1a.out.d S1b.out).mono ?_; rintro r w17 ⟨rfl, k7⟩; have X17 := hidden (X16.out.same k7); have K17 := hidden (K16.out.trans k7); clear k7))
                go_roundw
                case rel => exact ⟨j + 1, _, _, rv, us, t, e, rw', vs, by go_num, by omega, X17.out, HA.out.take, HE.out, K17.out⟩
                case measure => simp [intOf]; omega
              · have e3 : (kd == 3) = false := by simpa using k3
                have HPa := hidden (fun W (h : J4 w.heap.size gp w2.heap.size s d rv us gq ge t e rw' vs W) => h.pa rec hrl)
                have HDa := hidden (fun s1 W (h : J4 w.heap.size gp w2.heap.size s1 d rv us gq ge t e rw' vs W) => h.da HA.out rec hrl)
                have HXd := hidden (HX.out.same ((Kept.refl (fun _ => False) wr).drew))
                have HKd := hidden (HK.out.drew)
                go_wp2
                go_region_held3 (fun w' => w'.cell? ⟨b, off + j * 2 + 1, none⟩ = some (.string rec))
                  (first | go_keep | assumption)
                  ((first
                    | (go_at_call 11; refine (HPa.out _ HXd.out).mono ?_; rintro r w5 ⟨rfl, x5, k5⟩; have X5 := hidden x5; have K5 := hidden (HKd.out.trans' k5 (fun _ hk hb => by omega)); have d5 : w5.cell? ⟨b, off + j * 2 + 1, none⟩ = some (.string rec) := K5.out.cell (fun h => h) HC2.out; clear x5 k5)
                    | (go_at_call 12; refine (HDa.out _ _ X5.out).mono ?_; rintro r w6 ⟨rfl, rv6, us6, x6, k6⟩; have X6 := hidden x6; have K6 := hidden (K5.out.trans' k6 (fun _ hk hb => by omega)); have d6 : w6.cell? ⟨b, off + j * 2 + 1, none⟩ = some (.string rec) := K6.out.cell (fun h => h) HC2.out; clear x6 k6)))
                go_wp2
                go_roundw
                case rel => exact ⟨j + 1, _, _, rv6, us6, t, e, rw', vs, by go_num, by omega, X6.out, HA.out.appJ rec, HE.out, K6.out⟩
                case measure => simp [intOf]; omega
          · have hjn : j = n2 := by omega
            subst hjn
            have q3 : ¬ (j : Int) < (j : Int) := by omega
            have HLp := hidden (fun W (h : JW gp s W) => j_left h)
            have HLd := hidden (fun W (h : DW w2.heap.size d W) => leftD_any h HA.out)
            have HLq := hidden (fun W (h : JW gq t W) => j_left h)
            have HLe := hidden (fun W (h : DW ge e W) => leftD_any h HE.out)
            have HTp1 := hidden (fun W (h : J4 w.heap.size gp w2.heap.size s d rv us gq ge t e rw' vs W) (T : Tab W) => h.pt T)
            have HTd1 := hidden (fun s1 W (h : J4 w.heap.size gp w2.heap.size s1 d rv us gq ge t e rw' vs W) => h.dt HA.out)
            have HSm1 := hidden (fun x y W h1 h2 => HA.out.sameS x y W h1 h2)
            have HTp2 := hidden (fun W (h : J4 w.heap.size gq ge t e rw' vs gp w2.heap.size s.take d.take rv us W) (T : Tab W) => h.pt T)
            have HTd2 := hidden (fun s1 W (h : J4 w.heap.size gq ge s1 e rw' vs gp w2.heap.size s.take d.take rv us W) => h.dt HE.out)
            have HSm2 := hidden (fun x y W h1 h2 => HE.out.sameS x y W h1 h2)
            generalize ((s.free - 4 : Nat) : Int) = fr at HLp HLd
            generalize ((t.free - 4 : Nat) : Int) = fr2 at HLq HLe
            go_wp2_with (first
              | (go_at_call 13; refine (HLp.out _ HX.out.a.p).mono ?_; rintro r wa ⟨rfl, k⟩; have Xa := hidden (HX.out.same k); have Ka := hidden (HK.out.trans k); have ta := True.intro; clear k HLp)
              | (go_at_call 14; refine (HLd.out _ Xa.out.a.d.dw).mono ?_; rintro r wb ⟨rfl, k⟩; have Xb := hidden (Xa.out.same k); have Kb := hidden (Ka.out.trans k); clear k HLd)
              | (go_at_call 13; refine (HLq.out _ Xb.out.b.p).mono ?_; rintro r wc ⟨rfl, k⟩; have Xc := hidden (Xb.out.same k); have Kc := hidden (Kb.out.trans k); clear k HLq)
              | (go_at_call 14; refine (HLe.out _ Xc.out.b.d.dw).mono ?_; rintro r wd ⟨rfl, k⟩; have Xd := hidden (Xc.out.same k); have Kd := hidden (Kc.out.trans k); clear k HLe)
              | (go_at_call 15; refine (HTp1.out _ Xd.out (HT.out.same Kd.out)).mono ?_; rintro r w15 ⟨ta1, rfl, s5, x5, k5⟩; have X15 := hidden x5; have K15 := hidden (Kd.out.trans' k5 (fun _ hk hb => by omega)); have S15 := hidden s5; clear s5 x5 k5 HTp1)
              | (go_at_call 16; refine (HTd1.out _ _ X15.out).mono ?_; rintro r w16 ⟨tb1, rfl, s6, x6, k6, kg⟩; have X16 := hidden x6; have K16 := hidden (K15.out.trans' k6 (fun _ hk hb => by omega)); obtain ⟨sa, sb, sc⟩ := S15.out; have S1a := hidden (sa.kept kg (fun i h1 h2 e => by omega)); have S1b := hidden s6; clear s6 x6 k6 kg HTd1 sa sb sc)
              | (go_at_call 17; refine (HSm1.out _ _ _ S1a.out.d S1b.out).mono ?_; rintro r w17 ⟨rfl, k7⟩; have X17 := hidden (X16.out.same k7); have K17 := hidden (K16.out.trans k7); clear k7 HSm1)
              | (go_at_call 15; refine (HTp2.out _ X17.out.swap (HT.out.same K17.out)).mono ?_; rintro r w25 ⟨ta2, rfl, s5, x5, k5⟩; have X25 := hidden x5; have K25 := hidden (K17.out.trans' k5 (fun _ hk hb => by omega)); have S25 := hidden s5; clear s5 x5 k5)
              | (go_at_call 16; refine (HTd2.out _ _ X25.out).mono ?_; rintro r w26 ⟨tb2, rfl, s6, x6, k6, kg⟩; have X26 := hidden x6; have K26 := hidden (K25.out.trans' k6 (fun _ hk hb => by omega)); obtain ⟨sa, sb, sc⟩ := S25.out; have S2a := hidden (sa.kept kg (fun i h1 h2 e => by omega)); have S2b := hidden s6; clear s6 x6 k6 kg sa sb sc)
              | (go_at_call 17; refine (HSm2.out _ _ _ S2a.out.d S2b.out).mono ?_; rintro r w27 ⟨rfl, k7⟩; have X27 := hidden (X26.out.same k7); have K27 := hidden (K26.out.trans k7); clear k7))
            go_returns
            exact ⟨rfl, K27.out⟩
  · have HN := hidden (fun W => j_newNo size sectors g W hM hg)
    have HD := hidden (fun W => newD_no size sectors g W hM)
    clear hT hin hin2 hM
    go_enter Tryd.func7, Tryd.ntmps7
    go_wp2_with (first
      | (go_at_call 8; refine (j_lives _ HT.out).mono ?_; rintro e w1 ⟨rfl, k1⟩; have K1 := hidden k1; clear k1)
      | (go_at_call 9; refine (HN.out _).mono ?_; rintro e w2 ⟨rfl, rfl⟩)
      | (go_at_call 10; refine (HD.out _).mono ?_; rintro e w3 ⟨rfl, k3⟩; have K3 := hidden (K1.out.trans k3); clear k3))
    go_returns
    exact ⟨rfl, K3.out⟩
end Go.Proofs.YtljbmpnpbjnbkaaDoor
namespace Go.Proofs.YtljbmpnpbjnbkaaDoor
open Go.RowKit
set_option linter.unusedVariables false
end Go.Proofs.YtljbmpnpbjnbkaaDoor
namespace Go.Proofs.YtljbmpnpbjnbkaaDoor.JournalForks
open Go.ChangeShapes Go.WideShapes Go.ChangeAt Go.RowKit Go.Joins Go.ChangeMaps
set_option maxRecDepth 100000 in
theorem contract (H : Type) (enc : TypeId × Value → H) (W : World) (base : Nat) (args : Array Value) (ds gs : List (DataW H)) (before : List MemPlace)
    (hval : ∀ (j : Nat) t v, Tryd.f7.params[j]? = some t → args[j]? = some v → Value.okWide Tryd.prog W .any base t v)
    (hW : DataW.Whole enc Tryd.prog Tryd.f7.params.toList Rows.journalForksSpec.vars false W args.toList ds gs before)
    (hsz : (DataW.weightsEach Tryd.prog (Tryd.f7.params.toList ++ (OpenSpec.ofChange Rows.journalForksSpec).bare.plain.varTypes Tryd.prog) (ds ++ gs)).all (· ≤ reachBytes) = true)
    (hL : laidMetH Tryd.prog Rows.journalForksRow.laid W) :
    Calls Tryd.prog 7 args W fun e W' => ∃ v, e = .returned v ∧ Rows.journalForksSpec.post enc Tryd.prog Tryd.f7 false true false false W args v W' := by
  have hW' := hW
  obtain ⟨p, q, hA0, hV, rfl, hfz, hnd⟩ := hW
  have hA : DataW.TrodAll enc Tryd.prog W 0 (fun _ => true) true Tryd.f7.params.toList args.toList ds p := hA0
  rw [Tryd.params7] at hA hval hsz
  obtain ⟨v0, vs0, d0, ds0, p0, q0, hargs, rfl, rfl, h0, r0⟩ := trodAll_cons hA
  obtain ⟨v1, vs1, d1, ds1, p1, q1, rfl, rfl, rfl, h1, r1⟩ := trodAll_cons r0
  obtain ⟨v2, vs2, d2, ds2, p2, q2, rfl, rfl, rfl, h2, r2⟩ := trodAll_cons r1
  obtain ⟨v3, vs3, d3, ds3, p3, q3, rfl, rfl, rfl, h3, r3⟩ := trodAll_cons r2
  obtain ⟨v4, vs4, d4, ds4, p4, q4, rfl, rfl, rfl, h4, r4⟩ := trodAll_cons r3
  obtain ⟨rfl, rfl, rfl⟩ := trodAll_nil r4
  obtain rfl : args = #[v0, v1, v2, v3, v4] := by cases args; simp_all
  obtain ⟨rfl, rfl⟩ := trodVars_none hV
  obtain ⟨size, rfl, rfl, rfl, w_size⟩ := open_int Tryd.underlying3 (hval 0 3 v0 rfl rfl) h0
  have b_size : -9223372036854775808 ≤ size ∧ size ≤ 9223372036854775807 := by simpa [Lit.wf, IntKind.min, IntKind.max, IntKind.signed, IntKind.bits] using w_size
  obtain ⟨sectors, rfl, rfl, rfl, w_sectors⟩ := open_int Tryd.underlying3 (hval 1 3 v1 rfl rfl) h1
  have b_sectors : -9223372036854775808 ≤ sectors ∧ sectors ≤ 9223372036854775807 := by simpa [Lit.wf, IntKind.min, IntKind.max, IntKind.signed, IntKind.bits] using w_sectors
  obtain ⟨generation, rfl, rfl, rfl, w_generation⟩ := open_int Tryd.underlying22 (hval 2 22 v2 rfl rfl) h2
  have b_generation : 0 ≤ generation ∧ generation ≤ 18446744073709551615 := by simpa [Lit.wf, IntKind.min, IntKind.max, IntKind.signed, IntKind.bits] using w_generation
  obtain ⟨generation, rfl⟩ := Int.eq_ofNat_of_zero_le b_generation.1
  obtain ⟨n_l, f_l, in_l, sz_l⟩ := jops_open (hval 3 23 v3 rfl rfl) h3 _ _ 3 hsz rfl rfl
  obtain ⟨n_m, f_m, in_m, sz_m⟩ := jops_open (hval 4 23 v4 rfl rfl) h4 _ _ 4 hsz rfl rfl
  refine (jforks_walk size sectors generation v3 n_l f_l v4 n_m f_m W b_size.1 b_size.2 b_sectors.1 b_sectors.2 (show generation < 18446744073709551616 by have := b_generation.2; omega) in_l sz_l in_m sz_m (tab_laid hL)).mono fun e W' ⟨he, hg⟩ => ?_
  subst he
  exact ⟨_, rfl, law_post laidOut (by rw [Tryd.params7]; decide +kernel) rfl hW' rfl Tryd.underlying4 ⟨rfl, rfl, rfl⟩ (hg.below (Nat.le_refl _) fun _ h => h.elim)⟩
set_option maxRecDepth 100000 in
theorem lifted (os : Os) (started : os.Started) (H : Type) (enc : TypeId × Value → H) (F : Stop.Interp) :
    ReturnsInHanded {} Tryd.checked os 7 .any ((OpenSpec.ofChange Rows.journalForksSpec).preRow enc Tryd.prog Tryd.f7 Rows.journalForksRow.domain false Rows.journalForksRow.laid) (((OpenSpec.ofChange Rows.journalForksSpec).at F).post enc Tryd.prog Tryd.f7 false true false false) := by
  refine returnsInHanded_of_row (C := Tryd.checked) (s := OpenSpec.ofChange Rows.journalForksSpec) own started (by kernel_rfl) Tryd.func7
    (witness_row_at (enc := enc) (C := Tryd.checked) false ({ World.holding Tryd.prog os ⟨#[], #[], []⟩ with heap := (World.holding Tryd.prog os ⟨#[], #[], []⟩).heap.modify tabBlock fun | .cells _ t frozen => .cells (tabInts.map (Value.int .u32)).toArray t frozen | o => o }) #[.int .i64 0, .int .i64 0, .int .u64 0, .slice none 0 0, .slice none 0 0] rfl (by kernel_rfl) (by kernel_rfl) (by kernel_rfl)
      (OpenSpec.preRow_of_cond (x := ([.lit (.int .i64 0), .lit (.int .i64 0), .lit (.int .u64 0), .nil, .nil], [], [])) 8 (by kernel_rfl) (by kernel_rfl) (fun k hk => by cases hk) (by kernel_rfl) (laidMet_of_run' 8 (by kernel_rfl) (by kernel_rfl)))) ?_
  intro W base args ds gs before hval hW _ _ hsz hL _ _
  exact contract H enc W base args ds gs before hval hW hsz hL
theorem said : Rows.JournalForksSaid :=
  OpenClaim.holds_of_cond 7 Tryd.f7 rfl rfl rfl rfl rfl rfl rfl ⟨rfl, rfl, rfl, rfl, rfl⟩ rfl rfl rfl rfl rfl (by kernel_rfl) Tryd.func7 (by kernel_rfl)
    (of_decide_eq_true (by kernel_rfl)) (by unfold Func.isWrapper; first | (rw [if_pos (by decide +kernel)]; kernel_rfl) | (rw [if_neg (by decide +kernel)]; exact ⟨rfl, rfl⟩))
    (fun os started H enc _ F => by rw [OpenClaim.pre_eq_preRow]; exact lifted os started H enc F)
theorem plain (f : FuncId) (fn : Func) (hf : Tryd.pinned.checked.prog.funcNamed Rows.journalForksRow.func = some f) (hfn : Tryd.pinned.checked.prog.funcs[f]? = some fn) :
    false = Tryd.pinned.checked.prog.looks [] ∧ ∀ (j : Nat) t, fn.params[j]? = some t → Tryd.pinned.checked.prog.wantsStandIn t = false := by
  obtain rfl : f = 7 := Option.some.inj ((show Tryd.prog.funcNamed Rows.journalForksRow.func = some 7 by kernel_rfl).symm.trans hf) |>.symm
  obtain rfl : fn = Tryd.f7 := (Option.some.inj (Tryd.func7.symm.trans hfn)).symm
  refine ⟨by kernel_rfl, fun j t ht => ?_⟩
  rw [Tryd.params7] at ht
  have hm : t ∈ [3, 3, 22, 23, 23] := by simpa using Array.mem_of_getElem? ht
  have hall : [3, 3, 22, 23, 23].all (fun t => !Tryd.prog.wantsStandIn t) = true := by kernel_rfl
  have h1 := List.all_eq_true.1 hall t hm
  have h2 : Tryd.prog.wantsStandIn t = false := by simpa using h1
  exact h2
theorem card : Rows.JournalForksCardSaid :=
  Claim7.holds_tied_plain_at .later [] _ _ _ _ said (fun _ h => by cases h) (by kernel_rfl) (fun _ h => by cases h) journalForks_row_tie rfl ⟨rfl, rfl⟩ (by kernel_rfl) rfl plain (by kernel_rfl)
end Go.Proofs.YtljbmpnpbjnbkaaDoor.JournalForks
namespace Go.Proofs.YtljbmpnpbjnbkaaDoor
theorem journalForks_card : Rows.JournalForksCardSaid := JournalForks.card
end Go.Proofs.YtljbmpnpbjnbkaaDoor
