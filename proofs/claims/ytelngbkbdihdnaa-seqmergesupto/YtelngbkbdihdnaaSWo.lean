/- SeqWithout, walked. -/
import Derived.Test.YtelngbkbdihdnaaItWp
import Derived.Test.YtelngbkbdihdnaaItm2
import Derived.Test.YtelngbkbdihdnaaIOp
namespace Go.Proofs.Ytelngbkbdihdnaa
open Go.RowKit
set_option linter.unusedVariables false
theorem sortGo_srt : ∀ (u : List Kv) (k : ByteArray), (∀ p ∈ sortGo u (some k), ltS k p.1 = true) ∧ Srt (sortGo u (some k))
  | [], k => ⟨fun p hp => by simp [sortGo] at hp, List.Pairwise.nil⟩
  | q :: u, k => by
    unfold sortGo
    cases h : ltS k q.1
    · simpa [h] using sortGo_srt u k
    · obtain ⟨h1, h2⟩ := sortGo_srt u q.1
      simp only [if_true]
      refine ⟨fun p hp => ?_, List.pairwise_cons.2 ⟨fun p hp => h1 p hp, h2⟩⟩
      rcases List.mem_cons.1 hp with rfl | hp
      · exact h
      · exact ordS.lt_lt h (h1 p hp)
theorem sortL_srt (l : List Kv) : Srt (sortL l) := by
  cases l with
  | nil => exact List.Pairwise.nil
  | cons p t =>
    obtain ⟨h1, h2⟩ := sortGo_srt t p.1
    exact List.pairwise_cons.2 ⟨fun q hq => h1 q hq, h2⟩
theorem sortGo_len : ∀ (u : List Kv) (o : Option ByteArray), (sortGo u o).length ≤ u.length
  | [], o => by cases o <;> simp [sortGo]
  | q :: u, none => by have := sortGo_len u (some q.1); simp [sortGo]; omega
  | q :: u, some k => by
    unfold sortGo
    split
    · have := sortGo_len u (some q.1); simp; omega
    · have := sortGo_len u (some k); simp; omega
theorem sortL_len (l : List Kv) : (sortL l).length ≤ l.length := sortGo_len l none
set_option maxHeartbeats 1000000 in
set_option maxRecDepth 100000 in
theorem without_walk (v : Value) (l : List Kv) (kv : Value) (ks : List ByteArray) (k : ByteArray) (w : World) (hv : Its w v l) (hl : l.length * 24 ≤ 140737488351232) (hk : Strs w kv ks) (hks : ks.length * 16 ≤ 140737488351232) (_ : k.size ≤ 140737488351232) :
    Calls Try.prog 9 #[v, kv, .string k] w fun e w' => e = .returned (.bool true) ∧ Same w w' := by
  have HV : Hid (∀ W, Same w W → Its W v l) := fun W kk => hv.same kk
  have HKS : Hid (∀ W, Same w W → Strs W kv ks) := fun W kk => hk.same kk
  obtain ⟨va, vc, rfl, _⟩ := id hv
  obtain ⟨ka, kc, rfl⟩ := hk.form
  have HLB : Hid ((l.length + 1) * 24 ≤ 140737488355328) := by show _ ≤ _; omega
  have HL2 : Hid (l.length ≤ 562949953421312) := by show _ ≤ _; omega
  have HWL : Hid ((wo ks (sortL l)).length ≤ l.length → (wo ks (sortL l)).length ≤ 562949953421312) := fun h => Nat.le_trans h HL2.out
  have t1 : True := trivial
  have t2 : True := trivial
  have t3 : True := trivial
  have HWO := hidden (fun W (kk : Same w W) (u : Value) (hu : Itc W u l) => withoutP_any hu (HKS.out W kk) HLB.out hks)
  have HWD := hidden (fun W (kk : Same w W) => withoutD_any (HV.out W kk) (HKS.out W kk) HLB.out hks)
  have HIL := hidden (fun W (kk : Same w W) => items_law (HV.out W kk) HLB.out)
  have HSO := hidden (fun W (kk : Same w W) => sortOut_any (HV.out W kk) HLB.out)
  have HSL : Hid ((sortL l).length ≤ l.length) := sortL_len l
  have HSS : Hid (Srt (sortL l)) := sortL_srt l
  have HSE : Hid (∀ W u, Its W u (sortL l) → Calls Try.prog 39 #[u, .string k] W fun e w' => e = .returned (.tuple #[.int .i64 (rkL k (sortL l)), .bool (lk k (sortL l)).isSome]) ∧ Same W w') := fun W u hu => (search_any k hu (by have h1 := HSL.out; have h2 := HLB.out; omega)).mono (fun e w' hh => by
    obtain ⟨i, b, rfl, hs, kk⟩ := hh
    obtain ⟨e1, e2⟩ := hs.srt HSS.out
    rw [e1, e2]
    exact ⟨rfl, kk⟩)
  have HFI : Hid (∀ W u, Its W u (sortL l) → Calls Try.prog 40 #[u, .string k] W fun e w' => e = .returned (.tuple #[.int .i64 (rkL k (sortL l)), .bool (lk k (sortL l)).isSome]) ∧ Same W w') := fun W u hu => findD_any k hu HSS.out (by have h1 := HSL.out; have h2 := HL2.out; omega)
  have HIT : Hid (∀ W u, Its W u (sortL l) → Calls Try.prog 32 #[u] W fun e w' => ∃ x, e = .returned x ∧ ItS W.heap.size w' x (sortL l) ∧ Same W w') := fun W u hu => items_law hu (by have h1 := HSL.out; have h2 := HLB.out; omega)
  generalize rkL k (sortL l) = rk at HSE HFI
  generalize (lk k (sortL l)).isSome = bo at HSE HFI
  obtain ⟨n, hn⟩ : ∃ n, l.length = n := ⟨_, rfl⟩
  obtain ⟨m, hm⟩ : ∃ m, ks.length = m := ⟨_, rfl⟩
  have HN := hidden hn
  rw [hn] at hl HWD HIL HSO HV ⊢
  rw [hm] at hks HWO HWD ⊢
  clear hv hk hn hm
  go_enter Try.func9, Try.ntmps9
  go_wp2_with (first
    | (go_at_call 12; go_must (refine (awake_any _).mono ?_; rintro e w1 ⟨rfl, k1⟩; have K1 := hidden k1; clear k1))
    | (go_at_call 32; have _t := t1; go_must (refine (HIL.out _ K1.out).mono ?_; rintro e w2 ⟨u2, rfl, i2, k2⟩; have I2 := hidden i2; have K2 := hidden (K1.out.trans k2); clear i2 k2 t1))
    | (go_at_call 36; go_must (refine (HWO.out _ K2.out _ I2.out.itc).mono ?_; rintro e w3 ⟨u3, rfl, i3, k3⟩; have I3 := hidden i3; have X3 := hidden (I2.out.itc.same k3); have K3 := hidden (K2.out.trans k3); clear i3 k3))
    | (go_at_call 37; go_must (refine (HWD.out _ K3.out).mono ?_; rintro e w4 ⟨u4, rfl, i4, k4⟩; have I4 := hidden i4; have X4 := hidden (X3.out.same k4); have J4 := hidden (I3.out.itc.same k4); have K4 := hidden (K3.out.trans k4); clear i4 k4))
    | (go_at_call 35; have _t := t2; go_must (refine (same_any J4.out.its I4.out.itc.its (Nat.le_trans (wo_len _ _) (Nat.le_trans HSL.out HL2.out))).mono ?_; rintro e w5 ⟨rfl, k5⟩; have X5 := hidden (X4.out.same k5); have K5 := hidden (K4.out.trans k5); clear k5 t2))
    | (go_at_call 35; go_must (refine (same_any X5.out.its (HV.out _ K5.out) HL2.out).mono ?_; rintro e w6 ⟨rfl, k6⟩; have X6 := hidden (X5.out.same k6); have K6 := hidden (K5.out.trans k6); clear k6))
    | (go_at_call 38; go_must (refine (HSO.out _ K6.out).mono ?_; rintro e w7 ⟨u7, rfl, i7, _, k7⟩; have I7 := hidden i7.itc; have X7 := hidden (X6.out.same k7); have K7 := hidden (K6.out.trans k7); clear i7 k7))
    | (go_at_call 32; go_must (refine (HIT.out _ _ I7.out.its).mono ?_; rintro e w8 ⟨u8, rfl, i8, k8⟩; have I8 := hidden i8.itc; have J8 := hidden (I7.out.same k8); have X8 := hidden (X7.out.same k8); have K8 := hidden (K7.out.trans k8); clear i8 k8))
    | (go_at_call 39; have _t := t3; go_must (refine (HSE.out _ _ I8.out.its).mono ?_; rintro e w9 ⟨rfl, k9⟩; have J9 := hidden (J8.out.same k9); have X9 := hidden (X8.out.same k9); have K9 := hidden (K8.out.trans k9); clear k9 t3))
    | (go_at_call 40; go_must (refine (HFI.out _ _ J9.out.its).mono ?_; rintro e wA ⟨rfl, kA⟩; have XA := hidden (X9.out.same kA); have KA := hidden (K9.out.trans kA); clear kA)))
  go_at_call 39
  refine (search_any k XA.out.its HLB.out).mono ?_
  rintro e wB ⟨i, b, rfl, hs, kB⟩
  have HSE2 := hidden hs
  have KB := hidden (KA.out.trans kB)
  have hin : i ≤ n := by rw [← HN.out]; exact hs.le
  clear hs kB
  have q1 : (0 : Int) ≤ (i : Int) := Int.natCast_nonneg _
  have q2 : (i : Int) ≤ (n : Int) := by omega
  by_cases hlt : i < n
  · have hil : i < l.length := by rw [HN.out]; exact hlt
    have HAT := hidden (HSE2.out.at_ hil)
    obtain ⟨a', c', e', hc⟩ := HV.out wB KB.out
    obtain ⟨bb, off, rfl, hce⟩ := hc (by omega)
    obtain ⟨y0, y1⟩ := hce i hil
    simp only [Value.slice.injEq] at e'
    obtain ⟨rfl, -, rfl⟩ := e'
    obtain ⟨⟨a, z⟩, hay⟩ : ∃ e, l[i] = e := ⟨_, rfl⟩
    rw [hay] at y0 y1 HAT
    have q3 : (i : Int) < (n : Int) := by omega
    clear hay hce hc
    obtain ⟨bq, hbq⟩ : ∃ bq, (a.toList == k.toList) = bq := ⟨_, rfl⟩
    have HBQ : Hid (b = bq) := by rw [Hid, HAT.out]; exact hbq
    have hb2 := HBQ.out
    subst hb2
    clear HAT HBQ
    go_wp2
    go_returns
    exact ⟨by first | rfl | simp, KB.out⟩
  · have q3 : ¬ (i : Int) < (n : Int) := by omega
    have hb2 : b = false := HSE2.out.out (by rw [HN.out]; exact hlt)
    subst hb2
    go_wp2
    go_returns
    exact ⟨by first | rfl | simp, KB.out⟩
end Go.Proofs.Ytelngbkbdihdnaa
