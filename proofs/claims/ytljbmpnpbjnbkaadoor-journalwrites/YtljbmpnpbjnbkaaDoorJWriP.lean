/-
  JournalWrites (P7.1, P7.2): whatever the size, the sectors, the generation and the calls: the program's Writer and the document's tell the same of every call, and what was told may be written to: the law's call returns true and leaves its arguments as they were.
  Condition: the table crcSteps holds what the program's text lays (the card ties it).
-/
import Derived.Test.YtljbmpnpbjnbkaaDoorJE4
import Derived.Test.YtljbmpnpbjnbkaaDoorJ6
import Derived.Deep.RegionHeld3
/-
  JournalWrites (P7.1, P7.2), walked: whatever the shape and the calls.
-/
namespace Go.Proofs.YtljbmpnpbjnbkaaDoor
open Go.RowKit
set_option linter.unusedVariables false
set_option linter.unusedSimpArgs false
theorem secs_len {s : JSt} (h : s.Ok) (k : Nat) : ∀ l ∈ s.secs k, l.length = s.size := by
  intro l hl
  unfold JSt.secs at hl
  obtain ⟨i, _, rfl⟩ := List.mem_map.1 hl
  unfold JSt.sec
  have h0 := h.s0
  refine jsec_len _ _ _ _ ?_
  rw [List.length_take]
  have := Nat.min_le_left s.room (s.bs.drop (i * s.room)).length
  unfold JSt.room at this ⊢
  omega
set_option maxHeartbeats 1000000 in
set_option maxRecDepth 100000 in
theorem jwrites_walk (size sectors : Int) (g : Nat) (v : Value) (n : Nat) (f : Nat → Int × ByteArray) (w : World) (hs0 : -9223372036854775808 ≤ size) (hs1 : size ≤ 9223372036854775807) (ht0 : -9223372036854775808 ≤ sectors) (ht1 : sectors ≤ 9223372036854775807) (hg : g < 18446744073709551616) (hin : JOps w v n f) (hn : n ≤ 140737488351232) (hT : Tab w) :
    Calls Tryd.prog 3 #[.int .i64 size, .int .i64 sectors, .int .u64 g, v] w fun e w' => e = .returned (.bool true) ∧ Same w w' := by
  have HT := hidden hT
  obtain ⟨va, vc, rfl, hin⟩ := hin
  by_cases hM : JMay size sectors
  · obtain ⟨sz, rfl⟩ := Int.eq_ofNat_of_zero_le (show 0 ≤ size by have := hM.1.1; omega)
    obtain ⟨st, rfl⟩ := Int.eq_ofNat_of_zero_le (show 0 ≤ sectors by have := hM.2.1; omega)
    have HN := hidden (fun W => j_new sz st g W hM hg)
    have HD := hidden (fun W => newD_dl sz st g W hM)
    have HAg0 := hidden (Ag.new hM hg)
    have HI := hidden hin
    have hpd : ∀ y : Nat, (.pointer (some ⟨y, 0, none⟩) : Value) ≠ .pointer none := by simp
    clear hT hin hM
    go_enter Tryd.func3, Tryd.ntmps3
    go_wp2_with (first
      | (go_at_call 8; refine (j_lives _ HT.out).mono ?_; rintro e w1 ⟨rfl, k1⟩; have K1 := hidden k1; clear k1)
      | (go_at_call 9; refine (HN.out _).mono ?_; rintro e w2 ⟨rfl, j2, k2, r2⟩; have K2 := hidden (K1.out.trans k2); have J2 := hidden j2; have R2 := hidden r2; clear k2 j2 r2)
      | (go_at_call 10; refine (HD.out _).mono ?_; rintro e w3 ⟨rfl, d3, k3⟩; have K3 := hidden (K2.out.trans k3); have X3 := hidden (JX.new (B := w.heap.size) K1.out.size J2.out R2.out k3 d3); clear k3 d3))
    go_loopw [9, 13] (fun p v wr => ∃ (i gp : Nat) (s : JSt) (d : DSt) (rv : Value) (us : List Value), v = .int .i64 i ∧ i ≤ n ∧ p = .pointer (some ⟨gp, 0, none⟩) ∧ JX w.heap.size gp w2.heap.size s d rv us wr ∧ Ag d s ∧ Same w wr) (fun _ v _ => n - (intOf v).toNat)
    case atStart => exact ⟨0, _, _, _, _, _, rfl, Nat.zero_le _, rfl, X3.out, HAg0.out, K3.out⟩
    case round =>
      obtain ⟨i, gp, s, d, rv, us, rfl, hi, rfl, hX, hA, hK⟩ := hrel
      have HX := hidden hX
      have HA := hidden hA
      have HK := hidden hK
      clear hX hA hK
      by_cases h1 : i < n
      · obtain ⟨b, off, hva, hcells⟩ := HI.out (by omega)
        subst hva
        obtain ⟨hrl, c1, c2⟩ := hcells i h1
        obtain ⟨kd, hkd⟩ : ∃ kd, kd = (f i).1 := ⟨_, rfl⟩
        obtain ⟨rec, hrec⟩ : ∃ rec, rec = (f i).2 := ⟨_, rfl⟩
        rw [← hkd] at c1
        rw [← hrec] at c2 hrl
        clear hkd hrec
        have q0 : (0 : Int) ≤ (i : Int) := Int.natCast_nonneg _
        have q1 : (i : Int) < (n : Int) := by omega
        have d1 : wr.cell? ⟨b, off + i * 2, none⟩ = some (.int .i64 kd) := HK.out.cell (fun h => h) c1
        have d2 : wr.cell? ⟨b, off + i * 2 + 1, none⟩ = some (.string rec) := HK.out.cell (fun h => h) c2
        have HC2 := hidden c2
        clear c1 c2 hcells
        by_cases k1 : kd = 1
        · subst k1
          have HPa := hidden (fun W (h : JX w.heap.size gp w2.heap.size s d rv us W) => h.pa rec hrl)
          have HDa := hidden (fun s1 W (h : JX w.heap.size gp w2.heap.size s1 d rv us W) => h.da HA.out rec hrl)
          have HXd := hidden (HX.out.same ((Kept.refl (fun _ => False) wr).drew))
          have HKd := hidden (HK.out.drew)
          go_wp2
          go_region_held3 (fun w' => w'.cell? ⟨b, off + i * 2 + 1, none⟩ = some (.string rec))
            (first | go_keep | assumption)
            ((first
              | (go_at_call 11; refine (HPa.out _ HXd.out).mono ?_; rintro e w5 ⟨rfl, j5, t5⟩; obtain ⟨x5, k5⟩ := HXd.out.pstep j5 t5; have X5 := hidden x5; have K5 := hidden (HKd.out.trans' k5 (fun _ hk hb => by omega)); have d5 : w5.cell? ⟨b, off + i * 2 + 1, none⟩ = some (.string rec) := K5.out.cell (fun h => h) HC2.out; clear j5 t5 x5 k5)
              | (go_at_call 12; refine (HDa.out _ _ X5.out).mono ?_; rintro e w6 ⟨rfl, rv6, us6, x6, k6⟩; have X6 := hidden x6; have K6 := hidden (K5.out.trans' k6 (fun _ hk hb => by omega)); have d6 : w6.cell? ⟨b, off + i * 2 + 1, none⟩ = some (.string rec) := K6.out.cell (fun h => h) HC2.out; clear x6 k6)))
          go_wp2
          go_roundw
          case rel => exact ⟨i + 1, gp, _, _, rv6, us6, by go_num, by omega, rfl, X6.out, HA.out.appJ rec, K6.out⟩
          case measure => simp [intOf]; omega
        · by_cases k2 : kd = 2
          · subst k2
            have HL := hidden (fun W (h : JW gp s W) => j_left h)
            have HR := hidden (fun W (h : DW w2.heap.size d W) => leftD_any h HA.out)
            generalize ((s.free - 4 : Nat) : Int) = fr at HL HR
            go_wp2_with (first
              | (go_at_call 13; refine (HL.out _ HX.out.p).mono ?_; rintro e w5 ⟨rfl, k5⟩; have K5 := hidden k5; clear k5)
              | (go_at_call 14; refine (HR.out _ (HX.out.same K5.out).d.dw).mono ?_; rintro e w6 ⟨rfl, k6⟩; have K6 := hidden (K5.out.trans k6); clear k6))
            go_roundw
            case rel => exact ⟨i + 1, gp, s, d, rv, us, by go_num, by omega, rfl, HX.out.same K6.out, HA.out, HK.out.trans K6.out⟩
            case measure => simp [intOf]; omega
          · by_cases k3 : kd = 3
            · subst k3
              have HTk := hidden (fun W (h : JX w.heap.size gp w2.heap.size s d rv us W) (t : Tab W) => j_takeR h.p t)
              have HDt := hidden (fun s1 W (h : JX w.heap.size gp w2.heap.size s1 d rv us W) => h.dt HA.out)
              have hok := HA.out.ok
              have hml : (s.secs s.many).length = s.many := JSt.secs_len _ _
              have hm1 : s.many ≤ 4096 := by have := hok.many; have := hok.n1; omega
              have htk : s.taken ≤ 4096 := by have := hok.t; have := hok.n1; omega
              have HSm := hidden (fun W x y (h1 : DSecs W x s.taken (s.secs s.many)) (h2 : DSecs W y s.taken (s.secs s.many)) => sameS_any x y s.taken (s.secs s.many) W h1 h2 (by rw [hml]; exact hm1) (fun l hl => by rw [secs_len hok _ l hl]; exact hok.s1) htk)
              have HPos := hidden (fun l (hl : l ∈ s.secs s.many) => show 0 < l.length by rw [secs_len hok _ l hl]; have := hok.s0; omega)
              have hgdl : w2.heap.size < wr.heap.size := HX.out.d.lt (.inl rfl)
              have hgpl : gp < wr.heap.size := HX.out.p.lt
              have hgdb : w.heap.size ≤ w2.heap.size := (HX.out.db _ (.inl rfl)).1
              have hne : gp ≠ w2.heap.size := fun e => (HX.out.db _ (.inl rfl)).2 (.inl e.symm)
              obtain ⟨n0, hn0⟩ : ∃ n0, n0 = wr.heap.size := ⟨_, rfl⟩
              have HDl : Hid (∀ i, dS w2.heap.size rv us i → ¬ n0 ≤ i) := hidden (fun i hi e => by have := HX.out.d.lt hi; omega)
              have hwl : w.heap.size ≤ n0 := by have := HK.out.size; omega
              obtain ⟨M, hM⟩ : ∃ M, M = s.many := ⟨_, rfl⟩
              have HMl := hidden (hml.trans hM.symm)
              have hMb : M ≤ 4096 := by omega
              have HN0 := hidden hn0
              rw [← hn0] at hgdl hgpl
              clear hM hn0
              clear hok hml hm1 htk
              go_wp2_with (first
                  | (go_at_call 15; refine (HTk.out _ HX.out (HT.out.same HK.out)).mono ?_; rintro e w5 ⟨ta, rfl, s5, j5, t5, r5⟩; obtain ⟨x5, k5⟩ := HX.out.pstep j5 t5; have X5 := hidden x5; have K5 := hidden (HK.out.trans' k5 (fun _ hk hb => by omega)); rw [← HN0.out] at s5; have S5 := hidden s5; have J5 : Hid (∀ k, jS gp w5 k → k < n0) := hidden (fun k hk => by rcases hk with e | e; (subst e; omega); (rw [r5] at e; cases e)); obtain ⟨ao, ac, hta, _⟩ := s5.d; rw [HMl.out] at hta; subst hta; clear s5 j5 t5 r5 x5 k5)
                  | (go_at_call 16; refine (HDt.out _ _ X5.out).mono ?_; rintro e w6 ⟨tb, rfl, s6, x6, k6⟩; have X6 := hidden x6; have K6 := hidden (K5.out.trans' k6 (fun _ hk hb => by omega)); have S6a := hidden (S5.out.kept k6 (fun i h1 h2 e => by omega)); have S6b := hidden s6; have J6 : Hid (∀ k, jS gp w6 k → k < n0) := hidden (fun k hk => J5.out k ((X5.out.p.jkept k6 hne k).1 hk)); clear s6 x6 k6)
                  | (go_at_call 17; refine (HSm.out _ _ _ S6a.out.d S6b.out).mono ?_; rintro e w7 ⟨rfl, k7⟩; have X7 := hidden (X6.out.same k7); have K7 := hidden (K6.out.trans k7); have S7 := hidden ((S6a.out.same k7).w HPos.out); have J7 : Hid (∀ k, jS gp w7 k → k < n0) := hidden (fun k hk => J6.out k ((X6.out.p.jkept k7 (fun h => h) k).1 hk)); clear k7))
              have S7' := hidden S7.out
              rw [HMl.out] at S7'
              clear S7
              have HAt := hidden HA.out.take
              go_loopw [17] (fun v W => ∃ k : Nat, v = .int .i64 k ∧ k ≤ M ∧ SecW W (.slice ao M ac) M n0 ∧ Kept (fun i => n0 ≤ i) w7 W) (fun v _ => M - (intOf v).toNat)
              case atStart => exact ⟨0, rfl, Nat.zero_le _, S7'.out, Kept.refl _ _⟩
              case round =>
                obtain ⟨k, rfl, hk, hS, hKK⟩ := hrel
                have HS := hidden hS
                have HKK := hidden hKK
                clear hKK
                by_cases h2 : k < M
                · obtain ⟨a9, c9, e9, hc9⟩ := hS
                  obtain ⟨b9, y9, len9, cp9, cs9, e8, hy9, x1, hl9, ⟨_, _⟩, hcs9, hp9⟩ := hc9 k h2
                  injection e9 with e9a e9b e9c
                  rw [e8] at e9a
                  subst e9a
                  have p0 : (0 : Int) ≤ (k : Int) := Int.natCast_nonneg _
                  have p1 : (k : Int) < (M : Int) := by omega
                  have p2 : (0 : Int) < (len9 : Int) := by omega
                  obtain ⟨u9, hu9⟩ : ∃ u, cs9[0]? = some u := ⟨_, Array.getElem?_eq_getElem hp9⟩
                  have x2 : wr.cell? ⟨y9, 0, none⟩ = some u9 := (blk_cell hcs9).trans hu9
                  have x3 : wr.frozen? ⟨y9, 0, none⟩ = false := blk_free hcs9
                  have HC9 := hidden hcs9
                  clear hc9 hcs9 hp9 hu9 hl9 e9b e9c e8
                  go_wp2
                  go_roundw
                  case rel => exact ⟨k + 1, by go_num, by omega, HS.out.set HC9.out _, HKK.out.setCell (p := ⟨y9, 0, none⟩) hy9 _⟩
                  case measure => simp [intOf]; omega
                · have hkM : k = M := by omega
                  subst hkM
                  have p1 : ¬ (k : Int) < (k : Int) := by omega
                  clear hS
                  go_wp2
                  have X8 := hidden (X7.out.kept HKK.out (fun i hi e => by have := J7.out i hi; omega) HDl.out)
                  have K8 := hidden (K7.out.trans' HKK.out (fun i hi e => by omega))
                  go_roundw
                  case rel => exact ⟨i + 1, gp, _, _, rv, us, by go_num, by omega, rfl, X8.out, HAt.out, K8.out⟩
                  case measure => simp [intOf]; omega
            · by_cases k4 : kd = 4
              · subst k4
                have HR := hidden (fun W (h : JW gp s W) => j_records h)
                have HCn := hidden (HA.out.count)
                have hbx := HX.out.d.box
                have d5 : wr.cell? ⟨w2.heap.size, 5, none⟩ = some (.int .i64 (s.recs : Nat)) := by rw [← HA.out.count]; exact blk_cell hbx
                have HXd := hidden (HX.out.same ((Kept.refl (fun _ => False) wr).drew))
                have HKd := hidden (HK.out.drew)
                clear hbx
                go_wp2
                go_region_held3 (fun w' => w'.cell? ⟨w2.heap.size, 5, none⟩ = some (.int .i64 (s.recs : Nat)))
                  (first | go_keep | assumption)
                  ((first
                    | (go_at_call 18; refine (HR.out _ HXd.out.p).mono ?_; rintro e w5 ⟨rfl, rfl⟩)))
                go_wp2
                go_roundw
                case rel => exact ⟨i + 1, gp, s, d, rv, us, by go_num, by omega, rfl, HXd.out, HA.out, HKd.out⟩
                case measure => simp [intOf]; omega
              · have e1 : (kd == 1) = false := by simpa using k1
                have e2 : (kd == 2) = false := by simpa using k2
                have e3 : (kd == 3) = false := by simpa using k3
                have e4 : (kd == 4) = false := by simpa using k4
                have HF := hidden (fun W (h : JW gp s W) => j_fork h)
                have HPa := hidden (fun W (h : JX w.heap.size gp w2.heap.size s d rv us W) => h.pa rec hrl)
                have HTk := hidden (fun s1 W (h : JW gp s1 W) (t : Tab W) => j_takeR h t)
                have HTT := HT
                go_wp2_with (first
                  | (go_at_call 19; refine (HF.out _ HX.out.p).mono ?_; rintro e w5 ⟨gq, rfl, hq, jq, k5, r5⟩; have T5 := hidden (HX.out.fork hq jq k5 r5); have K5 := hidden (HK.out.trans k5); have d5 : w5.cell? ⟨b, off + i * 2 + 1, none⟩ = some (.string rec) := K5.out.cell (fun h => h) HC2.out; have hgq := hpd gq; clear hq jq k5 r5)
                  | (go_at_call 11; refine (HPa.out _ T5.out.a).mono ?_; rintro e w6 ⟨rfl, j6, t6⟩; obtain ⟨x6, k6⟩ := T5.out.step j6 t6; have T6 := hidden x6; have K6 := hidden (K5.out.trans' k6 (fun _ hk hb => by omega)); clear j6 t6 x6 k6)
                  | (go_at_call 15; refine (HTk.out _ _ T6.out.a.p (HTT.out.same K6.out)).mono ?_; rintro e w7 ⟨tv, rfl, _, j7, t7, _⟩; obtain ⟨x7, k7⟩ := T6.out.step j7 t7; have T7 := hidden x7; have K7 := hidden (K6.out.trans' k7 (fun _ hk hb => by omega)); clear j7 t7 x7 k7))
                go_roundw
                case rel => exact ⟨i + 1, gq, s, d, rv, us, by go_num, by omega, rfl, T7.out.b, HA.out, K7.out⟩
                case measure => simp [intOf]; omega
      · have hin' : i = n := by omega
        subst hin'
        have q1 : ¬ (i : Int) < (i : Int) := by omega
        have HLp := hidden (fun W (h : JW gp s W) => j_left h)
        have HLd := hidden (fun W (h : DW w2.heap.size d W) => leftD_any h HA.out)
        have HRp := hidden (fun W (h : JW gp s W) => j_records h)
        have HTk := hidden (fun W (h : JX w.heap.size gp w2.heap.size s d rv us W) (t : Tab W) => j_takeR h.p t)
        have HDt := hidden (fun s1 W (h : JX w.heap.size gp w2.heap.size s1 d rv us W) => h.dt HA.out)
        have hok := HA.out.ok
        have hml : (s.secs s.many).length = s.many := JSt.secs_len _ _
        have hm1 : s.many ≤ 4096 := by have := hok.many; have := hok.n1; omega
        have htk : s.taken ≤ 4096 := by have := hok.t; have := hok.n1; omega
        have HSm := hidden (fun W x y (h1 : DSecs W x s.taken (s.secs s.many)) (h2 : DSecs W y s.taken (s.secs s.many)) => sameS_any x y s.taken (s.secs s.many) W h1 h2 (by rw [hml]; exact hm1) (fun l hl => by rw [secs_len hok _ l hl]; exact hok.s1) htk)
        have hgdb : w.heap.size ≤ w2.heap.size := (HX.out.db _ (.inl rfl)).1
        have HCn := hidden (HA.out.count)
        have hbx := HX.out.d.box
        have d5 : wr.cell? ⟨w2.heap.size, 5, none⟩ = some (.int .i64 (s.recs : Nat)) := by rw [← HA.out.count]; exact blk_cell hbx
        have HXd := hidden (HX.out.same ((Kept.refl (fun _ => False) wr).drew))
        have HKd := hidden (HK.out.drew)
        have HC5 : Hid (∀ W s1 d1, d1.count = s.recs → JX w.heap.size gp w2.heap.size s1 d1 rv us W → W.cell? ⟨w2.heap.size, 5, none⟩ = some (.int .i64 (s.recs : Nat))) := hidden (fun W s1 d1 e h => by rw [← e]; exact blk_cell h.d.box)
        generalize ((s.free - 4 : Nat) : Int) = fr at HLp HLd
        clear hbx hok hml hm1 htk
        go_wp2
        go_region_held3 (fun w' => w'.cell? ⟨w2.heap.size, 5, none⟩ = some (.int .i64 (s.recs : Nat)))
          (first | go_keep | assumption)
          ((first
            | (go_at_call 13; refine (HLp.out _ HXd.out.p).mono ?_; rintro e w3a ⟨rfl, k3a⟩; have X3a := hidden (HXd.out.same k3a); have K3a := hidden (HKd.out.trans k3a); have c3a := HC5.out w3a _ _ HCn.out X3a.out; clear k3a)
            | (go_at_call 14; refine (HLd.out _ X3a.out.d.dw).mono ?_; rintro e w4a ⟨rfl, k4a⟩; have X4a := hidden (X3a.out.same k4a); have K4a := hidden (K3a.out.trans k4a); have c4a := HC5.out w4a _ _ HCn.out X4a.out; clear k4a)
            | (go_at_call 18; refine (HRp.out _ X4a.out.p).mono ?_; rintro e w4b ⟨rfl, rfl⟩)
            | (go_at_call 15; refine (HTk.out _ X4a.out (HT.out.same K4a.out)).mono ?_; rintro e w5 ⟨ta, rfl, s5, j5, t5, r5⟩; obtain ⟨x5, k5⟩ := X4a.out.pstep j5 t5; have X5 := hidden x5; have K5 := hidden (K4a.out.trans' k5 (fun _ hk hb => by omega)); have S5 := hidden s5; have c5a := HC5.out w5 _ _ HCn.out X5.out; clear s5 j5 t5 r5 x5 k5)
            | (go_at_call 16; refine (HDt.out _ _ X5.out).mono ?_; rintro e w6 ⟨tb, rfl, s6, x6, k6⟩; have X6 := hidden x6; have K6 := hidden (K5.out.trans' k6 (fun _ hk hb => by omega)); have S6a := hidden (S5.out.kept k6 (fun i h1 h2 e => by have := X4a.out.d.lt (.inl rfl); omega)); have S6b := hidden s6; have c6a := HC5.out w6 _ _ (show d.take.count = s.recs from HCn.out) X6.out; clear s6 x6 k6)
            | (go_at_call 17; refine (HSm.out _ _ _ S6a.out.d S6b.out).mono ?_; rintro e w7 ⟨rfl, k7⟩; have X7 := hidden (X6.out.same k7); have K7 := hidden (K6.out.trans k7); have c7a := HC5.out w7 _ _ (show d.take.count = s.recs from HCn.out) X7.out; clear k7)))
        go_wp2
        go_returns
        exact ⟨rfl, K7.out⟩
  · have HN := hidden (fun W => j_newNo size sectors g W hM hg)
    have HD := hidden (fun W => newD_no size sectors g W hM)
    clear hT hin hM
    go_enter Tryd.func3, Tryd.ntmps3
    go_wp2_with (first
      | (go_at_call 8; refine (j_lives _ HT.out).mono ?_; rintro e w1 ⟨rfl, k1⟩; have K1 := hidden k1; clear k1)
      | (go_at_call 9; refine (HN.out _).mono ?_; rintro e w2 ⟨rfl, rfl⟩)
      | (go_at_call 10; refine (HD.out _).mono ?_; rintro e w3 ⟨rfl, k3⟩; have K3 := hidden (K1.out.trans k3); clear k3))
    go_returns
    exact ⟨rfl, K3.out⟩
end Go.Proofs.YtljbmpnpbjnbkaaDoor
namespace Go.Proofs.YtljbmpnpbjnbkaaDoor
open Go.RowKit
set_option linter.unusedVariables false
end Go.Proofs.YtljbmpnpbjnbkaaDoor
namespace Go.Proofs.YtljbmpnpbjnbkaaDoor.JournalWrites
open Go.ChangeShapes Go.WideShapes Go.ChangeAt Go.RowKit Go.Joins Go.ChangeMaps
set_option maxRecDepth 100000 in
theorem contract (H : Type) (enc : TypeId × Value → H) (W : World) (base : Nat) (args : Array Value) (ds gs : List (DataW H)) (before : List MemPlace)
    (hval : ∀ (j : Nat) t v, Tryd.f3.params[j]? = some t → args[j]? = some v → Value.okWide Tryd.prog W .any base t v)
    (hW : DataW.Whole enc Tryd.prog Tryd.f3.params.toList Rows.journalWritesSpec.vars false W args.toList ds gs before)
    (hsz : (DataW.weightsEach Tryd.prog (Tryd.f3.params.toList ++ (OpenSpec.ofChange Rows.journalWritesSpec).bare.plain.varTypes Tryd.prog) (ds ++ gs)).all (· ≤ reachBytes) = true)
    (hL : laidMetH Tryd.prog Rows.journalWritesRow.laid W) :
    Calls Tryd.prog 3 args W fun e W' => ∃ v, e = .returned v ∧ Rows.journalWritesSpec.post enc Tryd.prog Tryd.f3 false true false false W args v W' := by
  have hW' := hW
  obtain ⟨p, q, hA0, hV, rfl, hfz, hnd⟩ := hW
  have hA : DataW.TrodAll enc Tryd.prog W 0 (fun _ => true) true Tryd.f3.params.toList args.toList ds p := hA0
  rw [Tryd.params3] at hA hval hsz
  obtain ⟨v0, vs0, d0, ds0, p0, q0, hargs, rfl, rfl, h0, r0⟩ := trodAll_cons hA
  obtain ⟨v1, vs1, d1, ds1, p1, q1, rfl, rfl, rfl, h1, r1⟩ := trodAll_cons r0
  obtain ⟨v2, vs2, d2, ds2, p2, q2, rfl, rfl, rfl, h2, r2⟩ := trodAll_cons r1
  obtain ⟨v3, vs3, d3, ds3, p3, q3, rfl, rfl, rfl, h3, r3⟩ := trodAll_cons r2
  obtain ⟨rfl, rfl, rfl⟩ := trodAll_nil r3
  obtain rfl : args = #[v0, v1, v2, v3] := by cases args; simp_all
  obtain ⟨rfl, rfl⟩ := trodVars_none hV
  obtain ⟨size, rfl, rfl, rfl, w_size⟩ := open_int Tryd.underlying3 (hval 0 3 v0 rfl rfl) h0
  have b_size : -9223372036854775808 ≤ size ∧ size ≤ 9223372036854775807 := by simpa [Lit.wf, IntKind.min, IntKind.max, IntKind.signed, IntKind.bits] using w_size
  obtain ⟨sectors, rfl, rfl, rfl, w_sectors⟩ := open_int Tryd.underlying3 (hval 1 3 v1 rfl rfl) h1
  have b_sectors : -9223372036854775808 ≤ sectors ∧ sectors ≤ 9223372036854775807 := by simpa [Lit.wf, IntKind.min, IntKind.max, IntKind.signed, IntKind.bits] using w_sectors
  obtain ⟨generation, rfl, rfl, rfl, w_generation⟩ := open_int Tryd.underlying22 (hval 2 22 v2 rfl rfl) h2
  have b_generation : 0 ≤ generation ∧ generation ≤ 18446744073709551615 := by simpa [Lit.wf, IntKind.min, IntKind.max, IntKind.signed, IntKind.bits] using w_generation
  obtain ⟨generation, rfl⟩ := Int.eq_ofNat_of_zero_le b_generation.1
  obtain ⟨n_l, f_l, in_l, sz_l⟩ := jops_open (hval 3 23 v3 rfl rfl) h3 _ _ 3 hsz rfl rfl
  refine (jwrites_walk size sectors generation v3 n_l f_l W b_size.1 b_size.2 b_sectors.1 b_sectors.2 (show generation < 18446744073709551616 by have := b_generation.2; omega) in_l sz_l (tab_laid hL)).mono fun e W' ⟨he, hg⟩ => ?_
  subst he
  exact ⟨_, rfl, law_post laidOut (by rw [Tryd.params3]; decide +kernel) rfl hW' rfl Tryd.underlying4 ⟨rfl, rfl, rfl⟩ (hg.below (Nat.le_refl _) fun _ h => h.elim)⟩
set_option maxRecDepth 100000 in
theorem lifted (os : Os) (started : os.Started) (H : Type) (enc : TypeId × Value → H) (F : Stop.Interp) :
    ReturnsInHanded {} Tryd.checked os 3 .any ((OpenSpec.ofChange Rows.journalWritesSpec).preRow enc Tryd.prog Tryd.f3 Rows.journalWritesRow.domain false Rows.journalWritesRow.laid) (((OpenSpec.ofChange Rows.journalWritesSpec).at F).post enc Tryd.prog Tryd.f3 false true false false) := by
  refine returnsInHanded_of_row (C := Tryd.checked) (s := OpenSpec.ofChange Rows.journalWritesSpec) own started (by kernel_rfl) Tryd.func3
    (witness_row_at (enc := enc) (C := Tryd.checked) false ({ World.holding Tryd.prog os ⟨#[], #[], []⟩ with heap := (World.holding Tryd.prog os ⟨#[], #[], []⟩).heap.modify tabBlock fun | .cells _ t frozen => .cells (tabInts.map (Value.int .u32)).toArray t frozen | o => o }) #[.int .i64 0, .int .i64 0, .int .u64 0, .slice none 0 0] rfl (by kernel_rfl) (by kernel_rfl) (by kernel_rfl)
      (OpenSpec.preRow_of_cond (x := ([.lit (.int .i64 0), .lit (.int .i64 0), .lit (.int .u64 0), .nil], [], [])) 8 (by kernel_rfl) (by kernel_rfl) (fun k hk => by cases hk) (by kernel_rfl) (laidMet_of_run' 8 (by kernel_rfl) (by kernel_rfl)))) ?_
  intro W base args ds gs before hval hW _ _ hsz hL _ _
  exact contract H enc W base args ds gs before hval hW hsz hL
theorem said : Rows.JournalWritesSaid :=
  OpenClaim.holds_of_cond 3 Tryd.f3 rfl rfl rfl rfl rfl rfl rfl ⟨rfl, rfl, rfl, rfl, rfl⟩ rfl rfl rfl rfl rfl (by kernel_rfl) Tryd.func3 (by kernel_rfl)
    (of_decide_eq_true (by kernel_rfl)) (by unfold Func.isWrapper; first | (rw [if_pos (by decide +kernel)]; kernel_rfl) | (rw [if_neg (by decide +kernel)]; exact ⟨rfl, rfl⟩))
    (fun os started H enc _ F => by rw [OpenClaim.pre_eq_preRow]; exact lifted os started H enc F)
theorem plain (f : FuncId) (fn : Func) (hf : Tryd.pinned.checked.prog.funcNamed Rows.journalWritesRow.func = some f) (hfn : Tryd.pinned.checked.prog.funcs[f]? = some fn) :
    false = Tryd.pinned.checked.prog.looks [] ∧ ∀ (j : Nat) t, fn.params[j]? = some t → Tryd.pinned.checked.prog.wantsStandIn t = false := by
  obtain rfl : f = 3 := Option.some.inj ((show Tryd.prog.funcNamed Rows.journalWritesRow.func = some 3 by kernel_rfl).symm.trans hf) |>.symm
  obtain rfl : fn = Tryd.f3 := (Option.some.inj (Tryd.func3.symm.trans hfn)).symm
  refine ⟨by kernel_rfl, fun j t ht => ?_⟩
  rw [Tryd.params3] at ht
  have hm : t ∈ [3, 3, 22, 23] := by simpa using Array.mem_of_getElem? ht
  have hall : [3, 3, 22, 23].all (fun t => !Tryd.prog.wantsStandIn t) = true := by kernel_rfl
  have h1 := List.all_eq_true.1 hall t hm
  have h2 : Tryd.prog.wantsStandIn t = false := by simpa using h1
  exact h2
theorem card : Rows.JournalWritesCardSaid :=
  Claim7.holds_tied_plain_at .later [] _ _ _ _ said (fun _ h => by cases h) (by kernel_rfl) (fun _ h => by cases h) journalWrites_row_tie rfl ⟨rfl, rfl⟩ (by kernel_rfl) rfl plain (by kernel_rfl)
end Go.Proofs.YtljbmpnpbjnbkaaDoor.JournalWrites
namespace Go.Proofs.YtljbmpnpbjnbkaaDoor
theorem journalWrites_card : Rows.JournalWritesCardSaid := JournalWrites.card
end Go.Proofs.YtljbmpnpbjnbkaaDoor
