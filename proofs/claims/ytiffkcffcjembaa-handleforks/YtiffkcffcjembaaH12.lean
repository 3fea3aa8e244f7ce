/- The document's table: Inodes. -/
import Derived.Test.YtiffkcffcjembaaH11
import Derived.Deep.RegionLaw
namespace Go.Proofs.Ytiffkcffcjembaa
open Go.RowKit Go.Maps
set_option linter.unusedVariables false
set_option linter.unusedSimpArgs false
theorem split_at (y : Int) : ∀ o : List Int, ∃ A B, o = A ++ B ∧ (∀ x ∈ A, x < y) ∧ (∀ x, B.head? = some x → y ≤ x)
  | [] => ⟨[], [], rfl, (fun _ h => by cases h), (fun _ h => by cases h)⟩
  | a :: t => by
    by_cases h : a < y
    · obtain ⟨A, B, e, h1, h2⟩ := split_at y t
      exact ⟨a :: A, B, by rw [e]; rfl, fun x hx => by rcases List.mem_cons.1 hx with rfl | hx; exact h; exact h1 x hx, h2⟩
    · exact ⟨[], a :: t, rfl, (fun _ h => by cases h), (fun x hx => by simp at hx; omega)⟩
/-- The inodes of a list's first k, rising. -/
structure Ris (l : List HT) (k : Nat) (o : List Int) : Prop where
  up : o.Pairwise (· < ·)
  mem : ∀ x, x ∈ o ↔ ∃ p ∈ l.take k, p.2.1 = x
  few : o.length ≤ k
theorem Ris.zero (l : List HT) : Ris l 0 [] := ⟨List.Pairwise.nil, fun x => by simp, Nat.le_refl _⟩
theorem take_mem {l : List HT} {k : Nat} {p : HT} (hp : l[k]? = some p) (x : Int) : (∃ q ∈ l.take (k + 1), q.2.1 = x) ↔ (∃ q ∈ l.take k, q.2.1 = x) ∨ p.2.1 = x := by
  rw [List.take_add_one, hp]
  simp only [Option.toList_some, List.mem_append, List.mem_singleton]
  constructor
  · rintro ⟨q, h | rfl, e⟩
    · exact .inl ⟨q, h, e⟩
    · exact .inr e
  · rintro (⟨q, h, e⟩ | e)
    · exact ⟨q, .inl h, e⟩
    · exact ⟨p, .inr rfl, e⟩
theorem Ris.old {l : List HT} {k : Nat} {o : List Int} (h : Ris l k o) {p : HT} (hp : l[k]? = some p) (hm : p.2.1 ∈ o) : Ris l (k + 1) o := by
  refine ⟨h.up, fun x => ?_, by have := h.few; omega⟩
  rw [take_mem hp, ← h.mem]
  constructor
  · exact .inl
  · rintro (h1 | rfl)
    · exact h1
    · exact hm
theorem Ris.ins {l : List HT} {k : Nat} {A B : List Int} (h : Ris l k (A ++ B)) {p : HT} (hp : l[k]? = some p) (hA : ∀ x ∈ A, x < p.2.1) (hB : ∀ x ∈ B, p.2.1 < x) : Ris l (k + 1) (A ++ ([p.2.1] ++ B)) := by
  have hup := List.pairwise_append.1 h.up
  refine ⟨?_, fun x => ?_, by have := h.few; simp at this ⊢; omega⟩
  · rw [List.pairwise_append]
    refine ⟨hup.1, ?_, fun a ha b hb => ?_⟩
    · rw [List.singleton_append, List.pairwise_cons]
      exact ⟨hB, hup.2.1⟩
    · simp at hb
      rcases hb with rfl | hb
      · exact hA a ha
      · exact hup.2.2 a ha b hb
  · rw [take_mem hp, ← h.mem]
    simp only [List.mem_append, List.mem_singleton]
    constructor
    · rintro (h1 | rfl | h1)
      · exact .inl (.inl h1)
      · exact .inr rfl
      · exact .inl (.inr h1)
    · rintro ((h1 | h1) | rfl)
      · exact .inl h1
      · exact .inr (.inr h1)
      · exact .inr (.inl rfl)
theorem Ris.above {l : List HT} {k : Nat} {A B B' : List Int} (h : Ris l k (A ++ B)) {z y : Int} (hB : B = z :: B') (hz : y < z) : ∀ x ∈ B, y < x := by
  have hup := (List.pairwise_append.1 h.up).2.1
  subst hB
  intro x hx
  rcases List.mem_cons.1 hx with rfl | hx
  · exact hz
  · have := (List.pairwise_cons.1 hup).1 x hx
    omega
theorem Ris.ino {f : FT} {o : List Int} (h : Ris (ol f) (ol f).length o) : InoL f o := by
  refine ⟨h.up, fun x => ?_⟩
  rw [h.mem, List.take_length]
  exact ol_ino f x
theorem infoI : (Try.prog.info? 3).map (fun i => (i.zero, i.size, i.bytes)) = some (some (.int .i64 0), 1, 8) := by kernel_rfl
abbrev iv (l : List Int) : List Value := l.map (Value.int .i64)
theorem iv_cell (l : List Int) : ∀ u ∈ iv l, u.oneCell' = true := by
  intro u hu
  obtain ⟨x, _, rfl⟩ := List.mem_map.1 hu
  rfl
theorem own_old {w : World} {B e s n : Nat} {v : Value} {xs : List Value} (h : w.ownsRow B e s v n xs) (k : Nat) (hk : v.ownBlock = some k) : B ≤ k := (h.lt k hk).1
set_option maxHeartbeats 4000000 in
set_option maxRecDepth 100000 in
theorem r_inodes (gr : Nat) (l : List HT) (w : World) (h : RT w gr l) (hl : l.length ≤ 64) :
    Calls Try.prog 25 #[P0 gr] w fun e w' => ∃ (v : Value) (o : List Int), e = .returned v ∧ Ris l l.length o ∧ w'.ownsRow w.heap.size 3 1 v o.length (iv o) ∧ Same w w' := by
  obtain ⟨v, hb, ho⟩ := h.ex
  obtain ⟨va, vc, rfl⟩ := own_form ho
  have c0 : w.cell? ⟨gr, 0, none⟩ = some (.slice va l.length vc) := (blk_cell hb).trans rfl
  have HO := hidden ho
  clear hb ho
  obtain ⟨L, hL⟩ : ∃ L, L = l.length := ⟨_, rfl⟩
  rw [← hL] at c0 hl ⊢
  have HL := hidden hL
  clear hL
  obtain ⟨i0, hi, hz0, hz1, hz2⟩ := info_parts infoI
  go_enter Try.func25, Try.ntmps25
  go_wp2
  go_loopw [3, 13] (fun u i wr => ∃ (k : Nat) (o : List Int), k ≤ L ∧ i = .int .i64 k ∧ Ris l k o ∧ wr.ownsRow w.heap.size 3 1 u o.length (iv o) ∧ Same w wr) (fun _ i _ => 65 - (intOf i).toNat)
  case atStart => exact ⟨0, [], Nat.zero_le _, rfl, Ris.zero l, World.ownsRow_nil _ _ _ _, Kept.refl _ _⟩
  case round =>
    obtain ⟨k, o, hk, rfl, hR, hO, hs⟩ := hrel
    obtain ⟨wo, hwo⟩ : ∃ wo, wo = wr := ⟨_, rfl⟩
    subst hwo
    have S1 := hidden hs
    have O1 := hidden hO
    have R1 := hidden hR
    have hfew := hR.few
    obtain ⟨ua, uc, rfl⟩ := own_form hO
    have hroom := own_room hO
    by_cases hlt : k < L
    · obtain ⟨p, hp⟩ : ∃ p, l[k]? = some p := ⟨_, List.getElem?_eq_getElem (by rw [← HL.out]; exact hlt)⟩
      obtain ⟨g, gc, e1, _, _, _, c1⟩ := own_at HO.out (by rw [← HL.out]; omega)
      obtain ⟨rfl, _, rfl⟩ : va = some ⟨g, 0, none⟩ ∧ True ∧ vc = gc := by simpa using e1
      obtain ⟨t0, t1, t2⟩ := c3_at l k p hp
      have d1 := S1.out.cell (fun h => h) (c1 _ _ t0)
      have d2 := S1.out.cell (fun h => h) (c1 _ _ t1)
      have d3 := S1.out.cell (fun h => h) (c1 _ _ t2)
      have hk1 : (k : Int) < L := by omega
      obtain ⟨A, B, hAB, hA, hB⟩ := split_at p.2.1 o
      have HP := hidden hp
      have HAB := hidden hAB
      have HA := hidden hA
      have HB := hidden hB
      clear t0 t1 t2 c1 e1 hs hO hR hp hAB hA hB
      go_wp2
      have bxb := blk_new wo (.cells #[.int .i64 p.1, .int .i64 p.2.1, .int .i64 p.2.2] 44)
      have k0 := same_alloc wo (.cells #[.int .i64 p.1, .int .i64 p.2.1, .int .i64 p.2.2] 44)
      have oo := own_kept O1.out k0 (fun _ _ h => h)
      have hbx : w.heap.size ≤ wo.heap.size := S1.out.size
      have S2 := hidden (S1.out.trans k0)
      generalize wo.heap.size = bx at *
      generalize wo.alloc (.cells #[.int .i64 p.1, .int .i64 p.2.1, .int .i64 p.2.2] 44) = W0 at *
      have bxc : W0.cell? ⟨bx, 1, none⟩ = some (.int .i64 p.2.1) := (blk_cell bxb).trans rfl
      have zW : w.heap.size ≤ W0.heap.size := S2.out.size
      have OO := hidden oo
      have hfewL : o.length ≤ 64 := by omega
      have hoL : Hid (A.length + B.length = o.length) := hidden (by rw [HAB.out]; simp)
      have l1 : ∀ W, Same W0 W → Lies W (if uc = 0 then ua else ua.map (·.add (0 * 1))) A.length (iv A) := fun W kk => by
        have := sub_lies (own_kept oo kk (fun _ _ h => h)) 0 A.length (by have := hoL.out; omega)
        rw [Nat.zero_mul, List.drop_zero, HAB.out] at this
        rw [Nat.zero_mul]
        rw [show (iv (A ++ B)).take (A.length * 1) = iv A by simp] at this
        exact this
      have l2 : ∀ W, Same W0 W → Lies W (if uc = A.length then ua else ua.map (·.add (A.length * 1))) (o.length - A.length) (iv B) := fun W kk => by
        have := sub_lies (own_kept oo kk (fun _ _ h => h)) A.length (o.length - A.length) (by have := hoL.out; omega)
        rw [show (iv o).drop (A.length * 1) = iv B by rw [HAB.out]; simp, List.take_of_length_le (by simp; have := hoL.out; omega)] at this
        exact this
      have s1 := sl_to und_i size_i ua o.length uc A.length (by have := hoL.out; omega) hroom
      have s2 := sl_from und_i size_i ua o.length uc A.length (by have := hoL.out; omega) hroom
      generalize (if uc = 0 then ua else ua.map (·.add (0 * 1))) = q1 at l1 s1
      generalize (if uc = A.length then ua else ua.map (·.add (A.length * 1))) = q2 at l2 s2
      have L1 := hidden l1
      have L2 := hidden l2
      have HW := hidden (fun (hn : 0 < o.length) => own_at oo hn)
      have hjle : A.length ≤ o.length := by have := hoL.out; omega
      obtain ⟨J, hJ⟩ : ∃ J, J = A.length := ⟨_, rfl⟩
      obtain ⟨M, hM⟩ : ∃ M, M = o.length := ⟨_, rfl⟩
      rw [← hJ] at s1 s2 hjle
      rw [← hM] at s1 s2 hjle hfewL hroom ⊢
      have HJ := hidden hJ
      have HM := hidden hM
      clear l1 l2 oo bxb k0 d1 d2 d3 hJ hM
      have tk1 : True := trivial
      have tk2 : True := trivial
      go_loopw [6] (fun a wr => ∃ j : Nat, j ≤ J ∧ a = .int .i64 j ∧ Same W0 wr) (fun a _ => 65 - (intOf a).toNat)
      case atStart => exact ⟨0, Nat.zero_le _, rfl, Kept.refl _ _⟩
      case round =>
        obtain ⟨j, hj, rfl, hs3⟩ := hrel
        have S3 := hidden hs3
        have bxr := hs3.cell (fun h => h) bxc
        have zr : w.heap.size ≤ wr.heap.size := Nat.le_trans zW hs3.size
        clear hs3
        by_cases hjl : j < J
        · obtain ⟨x, hx⟩ : ∃ x, A[j]? = some x := ⟨_, List.getElem?_eq_getElem (by rw [← HJ.out]; exact hjl)⟩
          have hxy := HA.out x (List.mem_of_getElem? hx)
          obtain ⟨q, qc, e2, _, _, _, c2⟩ := HW.out (by rw [← HM.out]; omega)
          obtain ⟨rfl, _, rfl⟩ : ua = some ⟨q, 0, none⟩ ∧ True ∧ uc = qc := by simpa using e2
          have d4 := S3.out.cell (fun h => h) (c2 j (.int .i64 x) (by rw [HAB.out, List.getElem?_map, List.getElem?_append_left (by rw [← HJ.out]; exact hjl), hx]; rfl))
          have b1 : decide ((j : Int) < M) = true := decide_eq_true (by omega)
          have b2 : (j : Int) < M := by omega
          have b3 : decide (x < p.2.1) = true := decide_eq_true hxy
          clear c2 e2 hx
          go_wp2
          go_quiet (fail)
          go_wp2
          go_roundw
          case rel => exact ⟨j + 1, by omega, by go_num, S3.out.drewN _⟩
          case measure => simp [intOf]; omega
        · obtain rfl : j = J := by omega
          cases hBc : B with
          | nil =>
            have hMj : (M : Int) ≤ j := by have h1 := hoL.out; have h2 := HJ.out; have h3 := HM.out; rw [hBc] at h1; simp at h1; omega
            have b1 : decide ((j : Int) < M) = false := decide_eq_false (by omega)
            have b1n : decide (j < M) = false := decide_eq_false (by omega)
            have HBc := hidden hBc
            clear hBc
            go_wp2
            go_quiet (fail)
            rename Nat => n1
            go_wp2
            go_quiet (fail)
            have kV : Same W0 ((wr.drewN n1).drewN nq) := (S3.out.drewN n1).drewN nq
            generalize hV : (wr.drewN n1).drewN nq = V at kV ⊢
            have bxV := kV.cell (fun h => h) bxc
            have zV : w.heap.size ≤ V.heap.size := Nat.le_trans zW kV.size
            have hbV : bx < V.heap.size := World.block_lt_of_cell? V _ bxV
            have SV := hidden kV
            clear kV hV S3 bxr zr
            go_wp2_with (first
              | (at_builtin; have _t := tk1; refine wpList_append_any rfl _ _ 53 rfl V.heap.size 3 i0 _ 1 8 Try.underlying53 hi hz0 hz1 hz2 rfl (by decide) _ 0 0 [] rfl (own_empty V 3 1) q1 j uc (iv A) rfl (by rw [List.length_map, ← HJ.out]; omega) (by have := L1.out _ (SV.out.alloc (.cells #[] 3)); rw [← HJ.out] at this; exact this) (iv_cell _) (by unfold maxLen; omega) (by omega) (by simp) ?_; intro a2 c2 w2 ho2 hg2; clear tk1; have k2 := same_grows (same_alloc V _) (own_empty V 3 1) hg2; rw [List.nil_append, Nat.zero_add] at ho2; have O2 := hidden ho2; have K2 := hidden (SV.out.trans k2); have z2 := k2.size; have bx2 := k2.cell (fun h => h) bxV; have hb2 : bx < w2.heap.size := (Nat.lt_of_lt_of_le hbV z2); rw [Nat.zero_add]; clear ho2 hg2 k2))
            have WD : Same W0 w2.drew := K2.out.drew
            go_region_law (first
              | (have _t := tk2; refine step_append_any rfl _ _ 53 rfl V.heap.size 3 i0 _ 1 8 Try.underlying53 hi hz0 hz1 hz2 rfl (by decide) a2 j c2 (iv A) (by first | rfl | simp [Act.eval, Act.put]) (own_kept O2.out (((Kept.refl (fun _ => False) w2).alloc _).drew) (fun _ _ h => h)) (some ⟨w2.heap.size, 0, none⟩) 1 1 [.int .i64 p.2.1] (by first | rfl | simp [Act.eval, Act.put]) rfl (fun h => lies_new w2 _ 3 1 _ rfl h) (by intro u hu; simp at hu; subst hu; rfl) (by unfold maxLen; omega) (by omega) (by simp; omega) ?_; intro a3 d3 w3 ho3 hg3; clear tk2; have k3 : Same W0 w3 := (Kept.grown ((K2.out.alloc _).drew) hg3 (fun qq hk hl => by have := own_old O2.out qq hk; have := SV.out.size; omega)); have k3w : Same w w3 := (same_grows (S2.out.trans ((K2.out.alloc _).drew)) (own_mono (own_kept O2.out (((Kept.refl (fun _ => False) w2).alloc _).drew) (fun _ _ h => h)) zV) hg3); have O3 := hidden (own_mono ho3 zV); have K3 := hidden k3; have K3w := hidden k3w; have z3 := k3w.size; clear ho3 hg3 k3 k3w)
              | (refine step_append_any rfl _ _ 53 rfl w.heap.size 3 i0 _ 1 8 Try.underlying53 hi hz0 hz1 hz2 rfl (by decide) a3 (j + 1) d3 (iv A ++ [.int .i64 p.2.1]) (by first | rfl | simp [Act.eval, Act.put]) O3.out q2 (M - j) (uc - j) (iv B) (by first | rfl | simp [Act.eval, Act.put]) (by have h1 := hoL.out; have h2 := HJ.out; have h3 := HM.out; rw [List.length_map]; omega) (by have := L2.out _ K3.out; rw [← HJ.out, ← HM.out] at this; exact this) (iv_cell _) (by unfold maxLen; omega) (by omega) z3 ?_; intro a4 d4 w4 ho4 hg4; have k4 : Same w w4 := (same_grows K3w.out O3.out hg4); have O4 := hidden ho4; have K4 := hidden k4; clear ho4 hg4 k4))
            go_wp2
            go_roundw
            case rel =>
              have hR := R1.out
              rw [HAB.out] at hR
              have h1 := hoL.out
              have h2 := HJ.out
              have h3 := HM.out
              refine ⟨k + 1, A ++ ([p.2.1] ++ B), by omega, by go_num, hR.ins HP.out HA.out (fun x hx => by rw [HBc.out] at hx; cases hx), ?_, K4.out⟩
              have hfin := O4.out
              rw [show (A ++ ([p.2.1] ++ B)).length = j + 1 + (M - j) by simp; omega, show iv (A ++ ([p.2.1] ++ B)) = iv A ++ [.int .i64 p.2.1] ++ iv B by simp]
              exact hfin
            case measure => simp [intOf]; omega
          | cons z B' =>
            have hMj : (j : Int) < M := by have h1 := hoL.out; have h2 := HJ.out; have h3 := HM.out; rw [hBc] at h1; simp at h1; omega
            have b1 : decide ((j : Int) < M) = true := decide_eq_true hMj
            have b1n : decide (j < M) = true := decide_eq_true (by omega)
            have hzy : p.2.1 ≤ z := HB.out z (by rw [hBc]; rfl)
            have b3 : decide (z < p.2.1) = false := decide_eq_false (by omega)
            obtain ⟨q, qc, e2, _, _, _, c2⟩ := HW.out (by rw [← HM.out]; omega)
            obtain ⟨rfl, _, rfl⟩ : ua = some ⟨q, 0, none⟩ ∧ True ∧ uc = qc := by simpa using e2
            have d4 := S3.out.cell (fun h => h) (c2 j (.int .i64 z) (by rw [HAB.out, List.getElem?_map, List.getElem?_append_right (by rw [← HJ.out]; omega), ← HJ.out, hBc]; simp))
            have HBc := hidden hBc
            clear c2 e2 hBc
            by_cases hz : z = p.2.1
            · have b4 : (z == p.2.1) = true := by simpa using hz
              have HZ := hidden hz
              clear hz
              go_wp2
              go_quiet (fail)
              go_wp2
              go_quiet (fail)
              go_wp2
              go_roundw
              case rel => exact ⟨k + 1, o, by omega, by go_num, R1.out.old HP.out (by rw [HAB.out, HBc.out, ← HZ.out]; simp), by rw [HM.out]; exact own_kept OO.out (S3.out.drewN _) (fun _ _ h => h), S2.out.trans (S3.out.drewN _)⟩
              case measure => simp [intOf]; omega
            · have b4 : (z == p.2.1) = false := by simpa using hz
              have HZ : Hid (p.2.1 < z) := hidden (by omega)
              clear hz
              go_wp2
              go_quiet (fail)
              rename Nat => n1
              go_wp2
              go_quiet (fail)
              have kV : Same W0 ((wr.drewN n1).drewN nq) := (S3.out.drewN n1).drewN nq
              generalize hV : (wr.drewN n1).drewN nq = V at kV ⊢
              have bxV := kV.cell (fun h => h) bxc
              have zV : w.heap.size ≤ V.heap.size := Nat.le_trans zW kV.size
              have hbV : bx < V.heap.size := World.block_lt_of_cell? V _ bxV
              have SV := hidden kV
              clear kV hV S3 bxr zr
              go_wp2_with (first
                | (at_builtin; have _t := tk1; refine wpList_append_any rfl _ _ 53 rfl V.heap.size 3 i0 _ 1 8 Try.underlying53 hi hz0 hz1 hz2 rfl (by decide) _ 0 0 [] rfl (own_empty V 3 1) q1 j uc (iv A) rfl (by rw [List.length_map, ← HJ.out]; omega) (by have := L1.out _ (SV.out.alloc (.cells #[] 3)); rw [← HJ.out] at this; exact this) (iv_cell _) (by unfold maxLen; omega) (by omega) (by simp) ?_; intro a2 c2 w2 ho2 hg2; clear tk1; have k2 := same_grows (same_alloc V _) (own_empty V 3 1) hg2; rw [List.nil_append, Nat.zero_add] at ho2; have O2 := hidden ho2; have K2 := hidden (SV.out.trans k2); have z2 := k2.size; have bx2 := k2.cell (fun h => h) bxV; have hb2 : bx < w2.heap.size := (Nat.lt_of_lt_of_le hbV z2); rw [Nat.zero_add]; clear ho2 hg2 k2))
              have WD : Same W0 w2.drew := K2.out.drew
              go_region_law (first
                | (have _t := tk2; refine step_append_any rfl _ _ 53 rfl V.heap.size 3 i0 _ 1 8 Try.underlying53 hi hz0 hz1 hz2 rfl (by decide) a2 j c2 (iv A) (by first | rfl | simp [Act.eval, Act.put]) (own_kept O2.out (((Kept.refl (fun _ => False) w2).alloc _).drew) (fun _ _ h => h)) (some ⟨w2.heap.size, 0, none⟩) 1 1 [.int .i64 p.2.1] (by first | rfl | simp [Act.eval, Act.put]) rfl (fun h => lies_new w2 _ 3 1 _ rfl h) (by intro u hu; simp at hu; subst hu; rfl) (by unfold maxLen; omega) (by omega) (by simp; omega) ?_; intro a3 d3 w3 ho3 hg3; clear tk2; have k3 : Same W0 w3 := (Kept.grown ((K2.out.alloc _).drew) hg3 (fun qq hk hl => by have := own_old O2.out qq hk; have := SV.out.size; omega)); have k3w : Same w w3 := (same_grows (S2.out.trans ((K2.out.alloc _).drew)) (own_mono (own_kept O2.out (((Kept.refl (fun _ => False) w2).alloc _).drew) (fun _ _ h => h)) zV) hg3); have O3 := hidden (own_mono ho3 zV); have K3 := hidden k3; have K3w := hidden k3w; have z3 := k3w.size; clear ho3 hg3 k3 k3w)
                | (refine step_append_any rfl _ _ 53 rfl w.heap.size 3 i0 _ 1 8 Try.underlying53 hi hz0 hz1 hz2 rfl (by decide) a3 (j + 1) d3 (iv A ++ [.int .i64 p.2.1]) (by first | rfl | simp [Act.eval, Act.put]) O3.out q2 (M - j) (uc - j) (iv B) (by first | rfl | simp [Act.eval, Act.put]) (by have h1 := hoL.out; have h2 := HJ.out; have h3 := HM.out; rw [List.length_map]; omega) (by have := L2.out _ K3.out; rw [← HJ.out, ← HM.out] at this; exact this) (iv_cell _) (by unfold maxLen; omega) (by omega) z3 ?_; intro a4 d4 w4 ho4 hg4; have k4 : Same w w4 := (same_grows K3w.out O3.out hg4); have O4 := hidden ho4; have K4 := hidden k4; clear ho4 hg4 k4))
              go_wp2
              go_roundw
              case rel =>
                have hR := R1.out
                rw [HAB.out] at hR
                have h1 := hoL.out
                have h2 := HJ.out
                have h3 := HM.out
                refine ⟨k + 1, A ++ ([p.2.1] ++ B), by omega, by go_num, hR.ins HP.out HA.out (hR.above HBc.out HZ.out), ?_, K4.out⟩
                have hfin := O4.out
                rw [show (A ++ ([p.2.1] ++ B)).length = j + 1 + (M - j) by simp; omega, show iv (A ++ ([p.2.1] ++ B)) = iv A ++ [.int .i64 p.2.1] ++ iv B by simp]
                exact hfin
              case measure => simp [intOf]; omega
    · have hm4 : k = L := by omega
      subst hm4
      go_wp2
      go_ret
      exact ⟨_, o, rfl, by rw [HL.out] at hR ⊢; exact hR, hO, hs⟩
end Go.Proofs.Ytiffkcffcjembaa
