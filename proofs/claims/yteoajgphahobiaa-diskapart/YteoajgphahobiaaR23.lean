/- Two Disks and the document's two, all apart; DiskApart, walked. -/
import Derived.Test.YteoajgphahobiaaR21
import Derived.Test.YteoajgphahobiaaPTab
namespace Go.Proofs.Yteoajgphahobiaa
open Go.RowKit
set_option linter.unusedVariables false
theorem RD.weak {A : Nat → Prop} {B B' n c g pb pc : Nat} {s : St} {w : World} (h : RD A B n c g pb pc s w) (hB : B' ≤ B) : RD A B' n c g pb pc s w := by
  obtain ⟨qv, qs, more, h1, h2, h3, h4, h5, h6, h7⟩ := h.ex
  exact ⟨⟨qv, qs, more, h1, h2, h3, h4, h5, fun k hk => Nat.le_trans hB (h6 k hk), h7⟩, h.pr, h.ok, h.ap, Nat.le_trans hB h.lg, Nat.le_trans hB h.lp, h.n1, h.hn, h.c1, h.hc⟩
theorem RD.row {A : Nat → Prop} {B n c g pb pc : Nat} {s : St} {w : World} (h : RD A B n c g pb pc s w) (k : Nat) (hk : rowOf w g 3 = some k) : B ≤ k := by
  obtain ⟨qv, qs, more, h1, h2, h3, h4, h5, h6, h7⟩ := h.ex
  rw [rowOf_rc h1] at hk
  exact h6 k hk
/-- Two of the document's Disks are apart. -/
structure Ax (x xb y yb : Nat) (w : World) : Prop where
  xy : x ≠ y
  bb : xb ≠ yb
  qq : ∀ k, rowOf w x 3 = some k → rowOf w y 3 ≠ some k
theorem Ax.symm {x xb y yb : Nat} {w : World} (h : Ax x xb y yb w) : Ax y yb x xb w := ⟨h.xy.symm, h.bb.symm, fun k a b => h.qq k b a⟩
theorem Ax.out {A A' : Nat → Prop} {B n c x xb xc y yb yc : Nat} {s t : St} {w : World} (h : Ax x xb y yb w) (a : RD A B n c x xb xc s w) (b : RD A' B n c y yb yc t w) :
    ¬ rS x xb w y ∧ ¬ rS x xb w yb ∧ ∀ k, rowOf w y 3 = some k → ¬ rS x xb w k := by
  obtain ⟨rv, rq, more, i1, i2, i3, i4, i5, i6, i7⟩ := a.ex
  obtain ⟨cx, hxb, _⟩ := a.pr.open
  obtain ⟨qv, qs, mo, j1, j2, j3, j4, j5, j6, j7⟩ := b.ex
  obtain ⟨cy, hyb, _⟩ := b.pr.open
  refine ⟨?_, ?_, ?_⟩
  · rintro (e | e | e)
    · exact h.xy e.symm
    · rw [e, hxb] at j1; simp at j1
    · rw [rowOf_rc i1] at e; exact own_apart i4 j1 (by decide) e
  · rintro (e | e | e)
    · rw [e, i1] at hyb; simp at hyb
    · exact h.bb e.symm
    · rw [rowOf_rc i1] at e; exact own_apart i4 hyb (by decide) e
  · intro k hk
    have hk2 := hk
    rw [rowOf_rc j1] at hk2
    rintro (e | e | e)
    · exact own_apart j4 i1 (by decide) (by rw [hk2, e])
    · exact own_apart j4 hxb (by decide) (by rw [hk2, e])
    · exact h.qq k e hk
/-- A Disk and the document's, a second one and its. -/
structure Quad (A : Nat → Prop) (B n c g pb pc rb rc x xb xc g' pb' pc' rb' rc' y yb yc : Nat) (s t : St) (w : World) : Prop where
  p : Pair A B n c g pb pc rb rc x xb xc s s w
  q : Pair A B n c g' pb' pc' rb' rc' y yb yc t t w
  u : Pair A B n c g pb pc rb rc y yb yc s t w
  v : Pair A B n c g' pb' pc' rb' rc' x xb xc t s w
  ap : Ap g pb rb g' pb' rb' w
  ax : Ax x xb y yb w
theorem Quad.swap {A : Nat → Prop} {B n c g pb pc rb rc x xb xc g' pb' pc' rb' rc' y yb yc : Nat} {s t : St} {w : World} (h : Quad A B n c g pb pc rb rc x xb xc g' pb' pc' rb' rc' y yb yc s t w) : Quad A B n c g' pb' pc' rb' rc' y yb yc g pb pc rb rc x xb xc t s w :=
  ⟨h.q, h.p, h.v, h.u, h.ap.symm, h.ax.symm⟩
theorem Quad.left {A : Nat → Prop} {B n c g pb pc rb rc x xb xc g' pb' pc' rb' rc' y yb yc : Nat} {s s' t : St} {w w' : World} (h : Quad A B n c g pb pc rb rc x xb xc g' pb' pc' rb' rc' y yb yc s t w) (p : Pair A B n c g pb pc rb rc x xb xc s' s' w') (f : KF B g pb rb x xb w w') : Quad A B n c g pb pc rb rc x xb xc g' pb' pc' rb' rc' y yb yc s' t w' := by
  obtain ⟨a1, a2, a3, a4⟩ := h.ap.out h.p.d.yd h.q.d.yd
  obtain ⟨b1, b2, b3, b4, b5⟩ := h.v.outR
  obtain ⟨c1, c2, c3, c4⟩ := h.u.outD
  obtain ⟨d1, d2, d3⟩ := h.ax.out h.p.r h.q.r
  have hby : ∀ i cs, w.heap[i]? = some (.cells cs 5 (0, 0)) → (dS g pb rb w i ∨ rS x xb w i) → A i := fun i cs hi hs => hs.elim (fun e => absurd e (c4 i cs hi)) (fun e => b5 i cs hi e)
  have z : ZD A B n c g' pb' pc' rb' rc' t w' := h.q.d.kept f.kept (fun e => e.elim a1 b1) (fun e => e.elim a2 b2) (fun e => e.elim a3 b3) (fun i hi e => e.elim (a4 i hi) (b4 i hi)) hby
  have r : RD A B n c y yb yc t w' := h.q.r.kept f.kept (fun e => e.elim c1 d1) (fun e => e.elim c2 d2) (fun i hi e => e.elim (c3 i hi) (d3 i hi)) hby
  have eg : rowOf w' g' 3 = rowOf w g' 3 := by unfold rowOf; rw [World.cell?_of_block (f.kept.block g' h.q.d.lt.1 (fun e => e.elim a1 b1))]
  have ey : rowOf w' y 3 = rowOf w y 3 := by unfold rowOf; rw [World.cell?_of_block (f.kept.block y h.q.r.lt.1 (fun e => e.elim c1 d1))]
  have hA : ∀ i, A i → i < w'.heap.size := p.hA
  exact ⟨p, ⟨z, r, fun i a b => h.q.qq i (by rw [← eg]; exact a) (by rw [← ey]; exact b), hA⟩,
    ⟨p.d, r, fun i a b => by rw [ey] at b; exact h.u.qq i (f.rowd i (h.q.r.lt.2.2 i b) a) b, hA⟩,
    ⟨z, p.r, fun i a b => by rw [eg] at a; exact h.v.qq i a (f.rowx i (h.q.d.lt.2.2.2 i a) b), hA⟩,
    ⟨h.ap.gg, h.ap.pp, h.ap.pr, h.ap.rp, h.ap.rr, fun i a b => by rw [eg] at b; exact h.ap.qq i (f.rowd i (h.q.d.lt.2.2.2 i b) a) b⟩,
    ⟨h.ax.xy, h.ax.bb, fun i a b => by rw [ey] at b; exact h.ax.qq i (f.rowx i (h.q.r.lt.2.2 i b) a) b⟩⟩
theorem Quad.same {A : Nat → Prop} {B n c g pb pc rb rc x xb xc g' pb' pc' rb' rc' y yb yc : Nat} {s t : St} {w w' : World} (h : Quad A B n c g pb pc rb rc x xb xc g' pb' pc' rb' rc' y yb yc s t w) (k : Same w w') : Quad A B n c g pb pc rb rc x xb xc g' pb' pc' rb' rc' y yb yc s t w' := h.left (h.p.same k) (h.p.kfS k)
/-- Both forked. -/
theorem Quad.of {B n c g pb pc rb rc x xb xc g' pb' pc' rb' rc' y yb yc : Nat} {s : St} {w w1 w2 : World} (h : Pair (fun i => i = xb) B n c g pb pc rb rc x xb xc s s w) (hB : B ≤ w.heap.size) (d : ZD (fun i => i = xb) w.heap.size n c g' pb' pc' rb' rc' s w1) (k : Same w w1) (r : RD (fun i => i ≤ yb) w1.heap.size n c y yb yc s w2) (k2 : Same w1 w2) :
    Quad (fun i => i = xb ∨ i = yb) B n c g pb pc rb rc x xb xc g' pb' pc' rb' rc' y yb yc s s w2 := by
  have hs := k.size
  have hs2 := k2.size
  obtain ⟨l1, l2, l3, l4⟩ := h.d.lt
  obtain ⟨m1, m2, m3⟩ := h.r.lt
  obtain ⟨d1, d2, d3, d4⟩ := d.lt
  have ry := r.lp
  have rg := r.lg
  obtain ⟨ry1, ry2, ry3⟩ := r.lt
  have kk := k.trans k2
  have hA : ∀ i, (i = xb ∨ i = yb) → i < w2.heap.size := fun i hi => hi.elim (fun e => by omega) (fun e => by omega)
  have zd : ZD (fun i => i = xb ∨ i = yb) B n c g pb pc rb rc s w2 := (h.d.more (fun i hi => hi.imp id (fun e => by omega))).same kk
  have rx : RD (fun i => i = xb ∨ i = yb) B n c x xb xc s w2 := (h.r.more (Or.inl rfl) (fun i hi => hi.imp id (fun e => by omega))).same kk
  have zc : ZD (fun i => i = xb ∨ i = yb) B n c g' pb' pc' rb' rc' s w2 := ((d.more (fun i hi => hi.imp id (fun e => by omega))).same k2).weak hB
  have ry' : RD (fun i => i = xb ∨ i = yb) B n c y yb yc s w2 := (r.more (Or.inr rfl) (fun i hi => Or.inl (hi.elim (fun e => by omega) (fun e => by omega)))).weak (by omega)
  have rowg : rowOf w2 g 3 = rowOf w g 3 := rowOf_same l1 kk
  have rowx : rowOf w2 x 3 = rowOf w x 3 := rowOf_same m1 kk
  have rowc : rowOf w2 g' 3 = rowOf w1 g' 3 := rowOf_same d1 k2
  have lc := d.lg
  have lp := d.lp
  have lr := d.lr
  refine ⟨⟨zd, rx, fun i a b => h.qq i (by rw [← rowg]; exact a) (by rw [← rowx]; exact b), hA⟩, ⟨zc, ry', fun i a b => ?_, hA⟩, ⟨zd, ry', fun i a b => ?_, hA⟩, ⟨zc, rx, fun i a b => ?_, hA⟩, ⟨by omega, by omega, by omega, by omega, by omega, fun i a b => ?_⟩, ⟨by omega, by omega, fun i a b => ?_⟩⟩
  · rw [rowc] at a
    have := d4 i a
    have := r.row i b
    omega
  · rw [rowg] at a
    have := l4 i a
    have := r.row i b
    omega
  · rw [rowc] at a
    rw [rowx] at b
    have := d.row i a
    have := m3 i b
    omega
  · rw [rowg] at a
    rw [rowc] at b
    have := l4 i a
    have := d.row i b
    omega
  · rw [rowx] at a
    have := m3 i a
    have := r.row i b
    omega
theorem Op5.ok.kb {B : Nat} {w w' : World} {p : Op5} (h : p.ok w) (k : KB B w w') (hB : w.heap.size ≤ B) : p.ok w' :=
  ⟨h.byte, h.kind, h.N, h.more, h.ints.kb k (fun a k c e z => Nat.lt_of_lt_of_le (h.blk a k c e z) hB), h.len, h.each, fun a i c e z => Nat.lt_of_lt_of_le (h.blk a i c e z) k.size⟩
/-- The steps read as before. -/
theorem DOps5.kb {B n : Nat} {w w' : World} {v : Value} {f : Nat → Op5} (h : DOps5 w v n f) (k : KB B w w') (hB : w.heap.size ≤ B) : DOps5 w' v n f := by
  obtain ⟨a, cap, e, hc⟩ := h
  refine ⟨a, cap, e, fun hn => ?_⟩
  obtain ⟨b, off, rfl, hc2⟩ := hc hn
  have key : ∀ {p : Addr} {v : Value}, w.cell? p = some v → w'.cell? p = some v := fun {p v} h => Kept.cell k (by have := World.block_lt_of_cell? w p h; omega) h
  refine ⟨b, off, rfl, fun i hi => ?_⟩
  obtain ⟨o, c0, c1, c2, c3, c4⟩ := hc2 i hi
  exact ⟨o.kb k hB, key c0, key c1, key c2, key c3, key c4⟩
theorem Same.ofKB {B : Nat} {w w' : World} (k : KB B w w') (hB : w.heap.size ≤ B) : Same w w' := k.mono (fun i hi h => by omega)
set_option maxHeartbeats 1000000 in
set_option maxRecDepth 100000 in
theorem apart_no (n c : Int) (v u : Value) (w : World) (h : ¬ (JSize n ∧ 1 ≤ c ∧ c ≤ 4096)) :
    Calls Try.prog 8 #[.int .i64 n, .int .i64 c, v, u] w fun e w' => e = .returned (.bool true) ∧ Same w w' := by
  go_enter Try.func8, Try.ntmps8
  go_wp2_with (first
    | (go_at_call 11; go_must (refine (d_lives _).mono ?_; rintro e w1 ⟨rfl, k1⟩; have K1 := hidden k1; clear k1))
    | (go_at_call 12; go_must (refine (d_newNo n c _ h).mono ?_; rintro e w2 ⟨rfl, rfl⟩))
    | (go_at_call 13; go_must (refine (r_newNo n c _ h).mono ?_; rintro e w2 ⟨rfl, rfl⟩)))
  go_returns
  exact ⟨rfl, K1.out⟩
set_option maxHeartbeats 2000000 in
set_option maxRecDepth 100000 in
theorem apart_yes (n c : Nat) (v u : Value) (nl nm : Nat) (f e : Nat → Op5) (w : World) (hn : JSize n) (hc1 : 1 ≤ c) (hc2 : c ≤ 4096) (hl : DOps5 w v nl f) (hm : DOps5 w u nm e) (hnl : nl * 56 ≤ 140737488351232) (hnm : nm * 56 ≤ 140737488351232) :
    Calls Try.prog 8 #[.int .i64 n, .int .i64 c, v, u] w fun e w' => e = .returned (.bool true) ∧ Same w w' := by
  have hn5 : 512 ≤ n := by have := hn.1; omega
  have hn4 : n ≤ 4096 := by have := hn.2.1; omega
  obtain ⟨la, lc, rfl, _⟩ := id hl
  obtain ⟨ma, mc, rfl, _⟩ := id hm
  have HL := hidden hl
  have HM := hidden hm
  have HN := hidden hn
  clear hl hn hm
  go_enter Try.func8, Try.ntmps8
  go_wp2_with (first
    | (go_at_call 11; go_must (refine (d_lives _).mono ?_; rintro e w1 ⟨rfl, k1⟩; have K1 := hidden k1; clear k1))
    | (go_at_call 12; go_must (refine (d_new n c _ HN.out hc1 hc2).mono ?_; rintro e w2 ⟨g, rfl, m2⟩; obtain ⟨pb, rb, rc, z2, k2⟩ := m2.zd (by omega) (by omega) hc1 hc2; have Z2 := hidden z2; have K2 := hidden k2; clear z2 k2 m2))
    | (go_at_call 13; go_must (refine (r_new n c _ HN.out hc1 hc2).mono ?_; rintro e w3 ⟨x, rfl, hx, hb3, hp3, k3⟩; have P3 := hidden (pair_new Z2.out K2.out.size hx hb3 hp3 k3); have K3 := hidden (Kept.trans K2.out k3); clear hb3 hp3 k3)))
  have HB0 : Hid (w.heap.size ≤ w1.heap.size) := K1.out.size
  have KB3 : Hid (KB w1.heap.size w1 w3) := KB.ofSame K3.out
  obtain ⟨xb, hxb⟩ : ∃ xb, xb = w2.heap.size := ⟨_, rfl⟩
  rw [← hxb] at P3
  clear hxb
  go_loopw [13] (fun iv wr => ∃ (k : Nat) (s : St), k ≤ nl ∧ iv = .int .i64 k ∧ Pair (fun i => i = xb) w1.heap.size n c g pb c rb rc x xb (n * c) s s wr ∧ SB k s ∧ KB w1.heap.size w1 wr) (fun iv wr => nl - (intOf iv).toNat)
  case atStart => exact ⟨0, _, Nat.zero_le _, rfl, P3.out, SB.new n c, KB3.out⟩
  case round =>
    obtain ⟨k, s, hk, rfl, hP, hS, hK⟩ := hrel
    have HP := hidden hP
    have HS := hidden hS
    have HK := hidden hK
    have hBw := hK.size
    clear hP hS hK P3 Z2
    by_cases h1 : k < nl
    · have hd := HL.out.kb (B := w1.heap.size) ((KB.ofSame K1.out).trans HK.out) K1.out.size
      obtain ⟨la', lc', e, hc⟩ := hd
      simp only [Value.slice.injEq] at e
      obtain ⟨rfl, _, rfl⟩ := e
      obtain ⟨lb, lo, rfl, hc2⟩ := hc (by omega)
      obtain ⟨ok, c0, c1, c2, c3, c4⟩ := hc2 k h1
      have q1 : (k : Int) < (nl : Int) := by omega
      have OK := hidden ok
      have HKV : Hid (∀ a j c, (f k).kv = .slice (some a) j c → 0 < j → a.block < w1.heap.size) := fun a j c e z => by
        obtain ⟨_, _, e0, hc0⟩ := HL.out
        obtain ⟨_, _, _, hc0⟩ := hc0 (by omega)
        have := (hc0 k h1).1.blk a j c e z
        have := HB0.out
        omega
      clear hc hc2 ok
      have hkn : k ≤ 4398046511100 := by omega
      by_cases h8 : (f k).kind = 8
      · have e8 : ((f k).kind == 8) = true := by simpa using h8
        generalize (f k) = p at *
        clear h8
        go_wp2
        go_roundw
        case rel => exact ⟨k + 1, s, by omega, by go_num, HP.out, HS.out.up (Nat.le_succ _), HK.out⟩
        case measure => simp [intOf]; omega
      · have e8 : ((f k).kind == 8) = false := by simpa using h8
        generalize (f k) = p at *
        go_wp2_with (go_at_call 26; go_must (refine (step_any HP.out HS.out (by omega) hBw hn5 p OK.out HKV.out).mono ?_; rintro e w4 ⟨rfl, p4, k4⟩; have P4 := hidden p4; have KK4 := hidden (HK.out.trans k4.kb); clear p4 k4))
        go_roundw
        case rel => exact ⟨k + 1, _, by omega, by go_num, P4.out, HS.out.step n c p, KK4.out⟩
        case measure => simp [intOf]; omega
    · have q1 : ¬ (k : Int) < (nl : Int) := by omega
      obtain rfl : k = nl := by omega
      have HBW := hidden hBw
      go_wp2_with (first
        | (go_at_call 21; go_must (refine (zd_fork HP.out.d HS.out (by omega)).mono ?_; rintro e w4 ⟨g', pb', pc', rb', rc', rfl, d4, k4⟩; have D4 := hidden d4; have K4 := hidden k4; clear d4 k4))
        | (go_at_call 32; go_must (refine (rd_fork (HP.out.r.same K4.out) HS.out (by omega)).mono ?_; rintro e w5 ⟨y, yb, yc, rfl, r5, k5⟩; have Q5 := hidden (Quad.of HP.out HBW.out D4.out K4.out r5 k5); have KK5 := hidden ((HK.out.trans (KB.ofSame K4.out)).trans (KB.ofSame k5)); clear r5 k5)))
      obtain ⟨A, hA⟩ : ∃ A : Nat → Prop, A = (fun i => i = xb ∨ i = yb) := ⟨_, rfl⟩
      rw [← hA] at Q5
      clear hA
      go_loopw [16] (fun iv wz => ∃ (j : Nat) (s t : St), j ≤ nm ∧ iv = .int .i64 j ∧ Quad A w1.heap.size n c g pb c rb rc x xb (n * c) g' pb' pc' rb' rc' y yb yc s t wz ∧ SB (k + (j + 1) / 2) s ∧ SB (k + j / 2) t ∧ KB w1.heap.size w1 wz) (fun iv wz => nm - (intOf iv).toNat)
      case atStart => exact ⟨0, s, s, Nat.zero_le _, rfl, Q5.out, HS.out, HS.out, KK5.out⟩
      case round =>
        obtain ⟨j, s, t, hj, rfl, hQ, hS1, hT1, hK1⟩ := hrel
        have HQ := hidden hQ
        have HS1 := hidden hS1
        have HT1 := hidden hT1
        have HK1 := hidden hK1
        have hBz := hK1.size
        clear hQ hS1 hT1 hK1 Q5 KK5
        by_cases h2 : j < nm
        · have hd := HM.out.kb (B := w1.heap.size) ((KB.ofSame K1.out).trans HK1.out) K1.out.size
          obtain ⟨la', lc', e', hc⟩ := hd
          simp only [Value.slice.injEq] at e'
          obtain ⟨rfl, _, rfl⟩ := e'
          obtain ⟨lb, lo, rfl, hc2⟩ := hc (by omega)
          obtain ⟨ok, c0, c1, c2, c3, c4⟩ := hc2 j h2
          have q2 : (j : Int) < (nm : Int) := by omega
          have OK := hidden ok
          have HKV : Hid (∀ a i c, (e j).kv = .slice (some a) i c → 0 < i → a.block < w1.heap.size) := fun a i c e z => by
            obtain ⟨_, _, e0, hc0⟩ := HM.out
            obtain ⟨_, _, _, hc0⟩ := hc0 (by omega)
            have := (hc0 j h2).1.blk a i c e z
            have := HB0.out
            omega
          clear hc hc2 ok
          have hkn : k + (j + 1) / 2 ≤ 4398046511100 := by omega
          by_cases h8 : (e j).kind = 8
          · have e8 : ((e j).kind == 8) = true := by simpa using h8
            generalize (e j) = p at *
            clear h8
            go_wp2
            go_roundw
            case rel => exact ⟨j + 1, s, t, by omega, by go_num, HQ.out, HS1.out.up (by omega), HT1.out.up (by omega), HK1.out⟩
            case measure => simp [intOf]; omega
          · have e8 : ((e j).kind == 8) = false := by simpa using h8
            generalize (e j) = p at *
            clear h8
            by_cases hev : j % 2 = 0
            · have r1 : Int.tmod (j : Int) 2 = 0 := by rw [Int.tmod_eq_emod_of_nonneg (by omega)]; omega
              have HEV := hidden hev
              clear hev
              go_wp2_with (go_at_call 26; go_must (refine (step_any HQ.out.p HS1.out (by omega) hBz hn5 p OK.out HKV.out).mono ?_; rintro e w4 ⟨rfl, p4, k4⟩; have Q6 := hidden (HQ.out.left p4 k4); have KK6 := hidden (HK1.out.trans k4.kb); clear p4 k4))
              go_roundw
              case rel => exact ⟨j + 1, _, t, by omega, by go_num, Q6.out, by have := HEV.out; have h9 := HS1.out.step n c p; rw [show k + (j + 1 + 1) / 2 = k + (j + 1) / 2 + 1 by omega]; exact h9, HT1.out.up (by omega), KK6.out⟩
              case measure => simp [intOf]; omega
            · have r1 : Int.tmod (j : Int) 2 = 1 := by rw [Int.tmod_eq_emod_of_nonneg (by omega)]; omega
              have HEV := hidden hev
              clear hev
              go_wp2_with (go_at_call 26; go_must (refine (step_any HQ.out.q HT1.out (by omega) hBz hn5 p OK.out HKV.out).mono ?_; rintro e w4 ⟨rfl, p4, k4⟩; have Q6 := hidden (HQ.out.swap.left p4 k4).swap; have KK6 := hidden (HK1.out.trans k4.kb); clear p4 k4))
              go_roundw
              case rel => exact ⟨j + 1, s, _, by omega, by go_num, Q6.out, HS1.out.up (by omega), by have := HEV.out; have h9 := HT1.out.step n c p; rw [show k + (j + 1) / 2 = k + j / 2 + 1 by omega]; exact h9, KK6.out⟩
              case measure => simp [intOf]; omega
        · have q2 : ¬ (j : Int) < (nm : Int) := by omega
          have t1 : True := trivial
          go_wp2_with (first
            | (go_at_call 27; have _t := t1; go_must (refine (looks_any HQ.out.p HS1.out (by omega) hBz hn5).mono ?_; rintro e w4 ⟨rfl, p4, k4⟩; have Q6 := hidden (HQ.out.left p4 k4); have KK6 := hidden (HK1.out.trans k4.kb); clear p4 k4 t1))
            | (go_at_call 27; go_must (refine (looks_any Q6.out.q HT1.out (by omega) KK6.out.size hn5).mono ?_; rintro e w5 ⟨rfl, p5, k5⟩; have KK7 := hidden (KK6.out.trans k5.kb); clear p5 k5)))
          go_returns
          exact ⟨by first | rfl | simp, Kept.trans K1.out (Same.ofKB KK7.out (Nat.le_refl _))⟩
theorem apart_walk (n c : Int) (v : Value) (nl : Nat) (f : Nat → Op5) (u : Value) (nm : Nat) (e : Nat → Op5) (w : World) (_ : -9223372036854775808 ≤ n) (_ : n ≤ 9223372036854775807) (_ : -9223372036854775808 ≤ c) (_ : c ≤ 9223372036854775807) (hl : DOps5 w v nl f) (hnl : nl * 56 ≤ 140737488351232) (hm : DOps5 w u nm e) (hnm : nm * 56 ≤ 140737488351232) :
    Calls Try.prog 8 #[.int .i64 n, .int .i64 c, v, u] w fun e w' => e = .returned (.bool true) ∧ Same w w' := by
  by_cases h : JSize n ∧ 1 ≤ c ∧ c ≤ 4096
  · obtain ⟨n, rfl⟩ := Int.eq_ofNat_of_zero_le (show 0 ≤ n by have := h.1.1; omega)
    obtain ⟨c, rfl⟩ := Int.eq_ofNat_of_zero_le (show 0 ≤ c by omega)
    exact apart_yes n c v u nl nm f e w h.1 (by omega) (by omega) hl hm hnl hnm
  · exact apart_no n c v u w h
end Go.Proofs.Yteoajgphahobiaa
