/- Range over a tree. (Made by mkm15.py.) -/
import Derived.Test.YtelngbkbdihdnaaM14
namespace Go.Proofs.Ytelngbkbdihdnaa
open Go.RowKit Go.Shelf
set_option linter.unusedVariables false
attribute [local go_sem] Oper.semAt_some
def rng (fr to : ByteArray) (l : List Kv) : List Kv := l.filter (fun a => !ltS a.1 fr && ltS a.1 to)
theorem rng_app (fr to : ByteArray) (l r : List Kv) : rng fr to (l ++ r) = rng fr to l ++ rng fr to r := List.filter_append _ _
theorem rng_none {fr to : ByteArray} {l : List Kv} (h : ∀ a ∈ l, (!ltS a.1 fr && ltS a.1 to) = false) : rng fr to l = [] := List.filter_eq_nil_iff.2 (fun a ha => by rw [h a ha]; simp)
theorem rng_low {fr to bk : ByteArray} {bv : Int} {l r : List Kv} (h : Srt (l ++ (bk, bv) :: r)) (ha : ltS bk fr = true) : rng fr to (l ++ (bk, bv) :: r) = rng fr to r := by
  obtain ⟨_, _, h3, _, _⟩ := srt_split h
  rw [rng_app, rng_none (l := l) (fun a hl => by rw [ordS.lt_lt (h3 a hl) ha]; rfl)]
  unfold rng
  rw [List.filter_cons_of_neg (by simp [ha])]
  rfl
theorem rng_high {fr to bk : ByteArray} {bv : Int} {l r : List Kv} (h : Srt (l ++ (bk, bv) :: r)) (hb : ltS bk to = false) : rng fr to (l ++ (bk, bv) :: r) = rng fr to l := by
  obtain ⟨_, _, _, h4, _⟩ := srt_split h
  have e : ∀ a ∈ (bk, bv) :: r, (!ltS a.1 fr && ltS a.1 to) = false := fun a hl => by
    rcases List.mem_cons.1 hl with rfl | hl
    · rw [hb]; simp
    · rw [ordS.tr _ _ _ hb (ordS.as _ _ (h4 a hl))]; simp
  rw [rng_app, rng_none e, List.append_nil]
theorem rng_mid {fr to bk : ByteArray} {bv : Int} {l r : List Kv} (ha : ltS bk fr = false) (hb : ltS bk to = true) : rng fr to (l ++ (bk, bv) :: r) = rng fr to l ++ (bk, bv) :: rng fr to r := by
  rw [rng_app]
  congr 1
  unfold rng
  rw [List.filter_cons_of_pos (by simp [ha, hb])]
set_option maxRecDepth 100000 in
set_option maxHeartbeats 4000000 in
theorem within_in (S : Nat → Prop) (l N q : Nat) (fr to : ByteArray) (J Jx : List Kv → World → Prop) (hJ : AbidesFrom q J)
    (hY : ∀ m pre x W, J pre W → pre.length < N → YieldAt Fence.wide m Try.prog l (encKV x) W fun e W' =>
      (e = .returned (.bool true) ∧ J (pre ++ [x]) W' ∧ Kept S W W') ∨ (e = .returned (.bool false) ∧ Jx (pre ++ [x]) W')) (t : T) :
    ∀ (n : Nat) (v : Value) (pre : List Kv) (W : World), BTo S W v t → Srt t.list → J pre W → pre.length + (rng fr to t.list).length ≤ N →
      CallsIn Fence.wide n Try.prog 74 #[v, .string fr, .string to, .func (.yield l) #[] #[]] W fun e W' =>
        (e = .returned (.bool true) ∧ J (pre ++ rng fr to t.list) W' ∧ Kept S W W') ∨ (e = .returned (.bool false) ∧ ∃ q, q <+: rng fr to t.list ∧ Jx (pre ++ q) W') := by
  have hmx : Try.prog.follows .mixedOrders = true := by kernel_rfl
  induction t with
  | nil =>
    intro n v pre W ht _ h0 _
    obtain rfl : v = .pointer none := ht
    refine ((callsIn_wide (n := n)).2 (withinB_nil _ _ _ W)).mono ?_
    rintro e W1 ⟨rfl, rfl⟩
    exact .inl ⟨rfl, by simpa [T.list, rng] using h0, Kept.refl _ _⟩
  | node bk bv tl tr ihl ihr =>
    intro n v pre W ht hs h0 hN
    obtain ⟨g, lo, hi, rfl, hg, hbk, hl, hr⟩ := ht
    obtain ⟨pl, rfl⟩ := hl.ptr
    obtain ⟨ph, rfl⟩ := hr.ptr
    obtain ⟨c0, c1, c2, c3⟩ := BT.cells hbk
    have hdd : ∀ k : Nat, (Fence.wide.depth.isSome = true → 1 ≤ k) := fun k h => by cases h
    have hs' : Srt (tl.list ++ (bk, bv) :: tr.list) := hs
    obtain ⟨s1, s2, _⟩ := srt_split hs'
    have KD : Hid (∀ X, Kept S W X → J pre X → True) := fun _ _ _ => trivial
    have HD : Hid (∀ p X, J p X → J p X.drew) := fun p X h => hJ _ _ _ none h (grownBy_same (Kept.refl _ X).drew) (fun r e => by cases e)
    have SD : Hid (∀ X, Kept S X X.drew) := fun X => (Kept.refl _ X).drew
    show CallsIn _ _ _ _ _ _ fun e W' => (e = .returned (.bool true) ∧ J (pre ++ rng fr to (tl.list ++ (bk, bv) :: tr.list)) W' ∧ Kept S W W') ∨ (e = .returned (.bool false) ∧ ∃ q, q <+: rng fr to (tl.list ++ (bk, bv) :: tr.list) ∧ Jx (pre ++ q) W')
    have hN' : pre.length + (rng fr to (tl.list ++ (bk, bv) :: tr.list)).length ≤ N := hN
    clear hN hs
    cases ha : ltS bk fr
    · have HY2 : Hid (∀ X, J (pre ++ rng fr to tl.list) X → pre.length + (rng fr to tl.list).length < N → Kept S W X → YieldAt Fence.wide (n - 1) Try.prog l #[.string bk, .int .i64 bv] X fun e W2 =>
          (e = .returned (.bool true) ∧ J (pre ++ rng fr to tl.list ++ [(bk, bv)]) W2 ∧ Kept S W W2 ∧ W2.cell? ⟨g, 3, none⟩ = some (.pointer ph) ∧ BTo S W2 (.pointer ph) tr) ∨ (e = .returned (.bool false) ∧ Jx (pre ++ rng fr to tl.list ++ [(bk, bv)]) W2)) := fun X hX hlen kX =>
        YieldAt.mono (hY (n - 1) _ (bk, bv) X hX (by simp; omega)) fun e W2 h => h.elim
          (fun ⟨he, hj, hb2⟩ => .inl ⟨he, hj, kX.trans hb2, (kX.trans hb2).cell hg c3, hr.kept (kX.trans hb2)⟩) .inr
      have IL : Hid (CallsIn Fence.wide (n - 1) Try.prog 74 #[.pointer pl, .string fr, .string to, .func (.yield l) #[] #[]] W fun e W1 => (e = .returned (.bool true) ∧ J (pre ++ rng fr to tl.list) W1 ∧ Kept S W W1 ∧ W1.drew.cell? ⟨g, 0, none⟩ = some (.string bk) ∧ W1.drew.cell? ⟨g, 1, none⟩ = some (.int .i64 bv) ∧ W1.drew.cell? ⟨g, 3, none⟩ = some (.pointer ph) ∧ BTo S W1.drew (.pointer ph) tr) ∨ (e = .returned (.bool false) ∧ ∃ q, q <+: rng fr to tl.list ∧ Jx (pre ++ q) W1)) := (ihl (n - 1) (.pointer pl) pre W hl s1 h0 (by rw [rng_app] at hN'; simp at hN'; omega)).mono (fun e W1 h => h.elim (fun ⟨he, hj, k1⟩ => by
          have kw := k1.trans (SD.out W1)
          exact .inl ⟨he, hj, k1, kw.cell hg c0, kw.cell hg c1, kw.cell hg c3, hr.kept kw⟩) .inr)
      have IR2 : Hid (∀ p X, BTo S X (.pointer ph) tr → J p X → p.length + (rng fr to tr.list).length ≤ N → CallsIn Fence.wide (n - 1) Try.prog 74 #[.pointer ph, .string fr, .string to, .func (.yield l) #[] #[]] X fun e W' => (e = .returned (.bool true) ∧ J (p ++ rng fr to tr.list) W' ∧ Kept S X W') ∨ (e = .returned (.bool false) ∧ ∃ q, q <+: rng fr to tr.list ∧ Jx (p ++ q) W')) := fun p X hX hj hn => ihr (n - 1) (.pointer ph) p X hX s2 hj hn
      clear ihl ihr hY hJ hl hr hbk h0 s1 s2
      cases hb : ltS bk to
      · have HEQ : Hid (rng fr to (tl.list ++ (bk, bv) :: tr.list) = rng fr to tl.list ++ []) := by rw [Hid, rng_high hs' hb, List.append_nil]
        clear hs' hN'
        refine callsIn_of_wp Try.func74 rfl trivial ?_ rfl
        simp only [Try.ntmps74, List.size_toArray, List.length_cons, List.length_nil, Nat.reduceAdd, Nat.reduceSub, Array.replicate_succ, Array.replicate_zero, List.push_toArray, List.append_toArray, List.nil_append, List.cons_append]
        gi_wp2_with (first | ((try refine ⟨trivial, ?_⟩); (try refine ⟨hdd _, ?_⟩); gi_at_call 46; refine (callsIn_wide.2 (less_str _ _ _)).mono ?_; rintro e w0 ⟨rfl, rfl⟩; (try rw [ha]); (try rw [hb])) | ((try refine ⟨trivial, ?_⟩); (try refine ⟨hdd _, ?_⟩); gi_at_call 74; refine IL.out.mono ?_; clear IL; rintro e W1 (⟨rfl, hJ1, kw1, c0', c1', c3', hr1⟩ | ⟨rfl, q, hq, hx1⟩)))
        · skip
          refine wpIn_region_any hmx ?_
          change wpAnyIn _ _ _ _ _ _ _ _ _ (World.drew _)
          refine wpAnyIn_take (i := 0) (v := .bool true) rfl rfl (by kernel_rfl) (by kernel_rfl) (by kernel_rfl) (fun _ _ _ h => h) ⟨Or.inl ⟨by rfl, (by intro w; go_simp; try rfl)⟩, fun _ => rfl⟩ ?_; (try go_simp)
          refine wpAnyIn_take (i := 1) (v := .bool true) rfl rfl (by kernel_rfl) (by kernel_rfl) (by kernel_rfl) (fun _ _ _ h => h) ⟨Or.inl ⟨by rfl, (by intro w; go_simp; try rfl)⟩, fun _ => rfl⟩ ?_; (try go_simp)
          refine wpAnyIn_take (i := 2) (v := .bool true) rfl rfl (by kernel_rfl) (by kernel_rfl) (by kernel_rfl) (fun _ _ _ h => h) ⟨Or.inl ⟨by rfl, (by intro w; go_simp; try rfl)⟩, fun _ => rfl⟩ ?_; (try go_simp)
          refine wpAnyIn_take (i := 3) (v := .bool false) rfl rfl (by kernel_rfl) (by kernel_rfl) (by kernel_rfl) (fun _ _ _ h => h) ⟨Or.inl ⟨by rfl, (by intro w; go_simp; try rfl)⟩, fun _ => rfl⟩ ?_; (try go_simp)
          refine wpAnyIn_take (i := 4) (v := .bool false) rfl rfl (by kernel_rfl) (by kernel_rfl) (by kernel_rfl) (fun _ _ _ h => h) ⟨Or.inl ⟨by rfl, (by intro w; go_simp; try rfl)⟩, fun _ => rfl⟩ ?_; (try go_simp)
          refine wpAnyIn_take (i := 5) (v := .bool false) rfl rfl (by kernel_rfl) (by kernel_rfl) (by kernel_rfl) (fun _ _ _ h => h) ⟨Or.inl ⟨by rfl, (by intro w; go_simp; try rfl)⟩, fun _ => rfl⟩ ?_; (try go_simp)
          refine wpAnyIn_take (i := 6) (v := undef) rfl rfl (by kernel_rfl) (by kernel_rfl) (by kernel_rfl) (fun _ _ _ h => h) ⟨Or.inr ⟨by rfl, rfl⟩, fun _ => rfl⟩ ?_; (try go_simp)
          refine wpAnyIn_take (i := 7) (v := undef) rfl rfl (by kernel_rfl) (by kernel_rfl) (by kernel_rfl) (fun _ _ _ h => h) ⟨Or.inr ⟨by rfl, rfl⟩, fun _ => rfl⟩ ?_; (try go_simp)
          refine wpAnyIn_take (i := 8) (v := undef) rfl rfl (by kernel_rfl) (by kernel_rfl) (by kernel_rfl) (fun _ _ _ h => h) ⟨Or.inr ⟨by rfl, rfl⟩, fun _ => rfl⟩ ?_; (try go_simp)
          refine wpAnyIn_take (i := 9) (v := undef) rfl rfl (by kernel_rfl) (by kernel_rfl) (by kernel_rfl) (fun _ _ _ h => h) ⟨Or.inr ⟨by rfl, rfl⟩, fun _ => rfl⟩ ?_; (try go_simp)
          refine wpAnyIn_take (i := 10) (v := undef) rfl rfl (by kernel_rfl) (by kernel_rfl) (by kernel_rfl) (fun _ _ _ h => h) ⟨Or.inr ⟨by rfl, rfl⟩, fun _ => rfl⟩ ?_; (try go_simp)
          refine wpAnyIn_take (i := 11) (v := undef) rfl rfl (by kernel_rfl) (by kernel_rfl) (by kernel_rfl) (fun _ _ _ h => h) ⟨Or.inr ⟨by rfl, rfl⟩, fun _ => rfl⟩ ?_; (try go_simp)
          refine wpAnyIn_take (i := 12) (v := undef) rfl rfl (by kernel_rfl) (by kernel_rfl) (by kernel_rfl) (fun _ _ _ h => h) ⟨Or.inr ⟨by rfl, rfl⟩, fun _ => rfl⟩ ?_; (try go_simp)
          refine wpAnyIn_take (i := 13) (v := undef) rfl rfl (by kernel_rfl) (by kernel_rfl) (by kernel_rfl) (fun _ _ _ h => h) ⟨Or.inr ⟨by rfl, rfl⟩, fun _ => rfl⟩ ?_; (try go_simp)
          refine wpAnyIn_take (i := 14) (v := undef) rfl rfl (by kernel_rfl) (by kernel_rfl) (by kernel_rfl) (fun _ _ _ h => h) ⟨Or.inr ⟨by rfl, rfl⟩, fun _ => rfl⟩ ?_; (try go_simp)
          refine wpAnyIn_take (i := 15) (v := undef) rfl rfl (by kernel_rfl) (by kernel_rfl) (by kernel_rfl) (fun _ _ _ h => h) ⟨Or.inr ⟨by rfl, rfl⟩, fun _ => rfl⟩ ?_; (try go_simp)
          refine wpAnyIn_take (i := 16) (v := undef) rfl rfl (by kernel_rfl) (by kernel_rfl) (by kernel_rfl) (fun _ _ _ h => h) ⟨Or.inr ⟨by rfl, rfl⟩, fun _ => rfl⟩ ?_; (try go_simp)
          refine wpAnyIn_ready (rs := [17]) (by kernel_rfl) (by simp) ?_; refine AllReadyIn.cons rfl (fun K hK => ?_) AllReadyIn.nil; go_simp; (first | refine ⟨fun _ _ => trivial, ?_⟩ | refine ⟨trivial, ?_⟩ | skip); refine hK _ _ ?_; clear hK K
          refine wpAnyIn_take (i := 18) (v := undef) rfl rfl (by kernel_rfl) (by kernel_rfl) (by kernel_rfl) (fun _ _ _ h => h) ⟨Or.inr ⟨by rfl, rfl⟩, fun _ => rfl⟩ ?_; (try go_simp)
          refine wpAnyIn_take (i := 19) (v := .bool false) rfl rfl (by kernel_rfl) (by kernel_rfl) (by kernel_rfl) (fun _ _ _ h => h) ⟨Or.inl ⟨by rfl, (by intro w; go_simp; try rfl)⟩, fun _ => rfl⟩ ?_; (try go_simp)
          refine wpAnyIn_done (by kernel_rfl) ?_ _
          gi_wp2
          refine ⟨trivial, ?_⟩
          gi_wp2
          go_ret
          exact .inl ⟨rfl, by rw [HEQ.out, List.append_nil]; exact HD.out _ _ hJ1, kw1.trans (SD.out _)⟩
        · skip
          skip
          go_ret
          exact .inr ⟨rfl, q, hq.trans (by rw [HEQ.out]; exact ⟨_, rfl⟩), hx1⟩
      · have HB2 : Hid (rng fr to (tl.list ++ (bk, bv) :: tr.list) = rng fr to tl.list ++ (bk, bv) :: rng fr to tr.list) := rng_mid ha hb
        have HEQ := HB2
        rw [HB2.out] at hN'
        simp only [List.length_append, List.length_cons] at hN'
        clear hs'
        refine callsIn_of_wp Try.func74 rfl trivial ?_ rfl
        simp only [Try.ntmps74, List.size_toArray, List.length_cons, List.length_nil, Nat.reduceAdd, Nat.reduceSub, Array.replicate_succ, Array.replicate_zero, List.push_toArray, List.append_toArray, List.nil_append, List.cons_append]
        gi_wp2_with (first | ((try refine ⟨trivial, ?_⟩); (try refine ⟨hdd _, ?_⟩); gi_at_call 46; refine (callsIn_wide.2 (less_str _ _ _)).mono ?_; rintro e w0 ⟨rfl, rfl⟩; (try rw [ha]); (try rw [hb])) | ((try refine ⟨trivial, ?_⟩); (try refine ⟨hdd _, ?_⟩); gi_at_call 74; refine IL.out.mono ?_; clear IL; rintro e W1 (⟨rfl, hJ1, kw1, c0', c1', c3', hr1⟩ | ⟨rfl, q, hq, hx1⟩)))
        · skip
          obtain ⟨fn, tmps, assign, body, hy, hR⟩ := HY2.out W1.drew (HD.out _ _ hJ1) (by omega) (kw1.trans (SD.out _))
          refine wpIn_region_any hmx ?_
          change wpAnyIn _ _ _ _ _ _ _ _ _ (World.drew _)
          refine wpAnyIn_take (i := 0) (v := .bool true) rfl rfl (by kernel_rfl) (by kernel_rfl) (by kernel_rfl) (fun _ _ _ h => h) ⟨Or.inl ⟨by rfl, (by intro w; go_simp; try rfl)⟩, fun _ => rfl⟩ ?_; (try go_simp)
          refine wpAnyIn_take (i := 1) (v := .bool true) rfl rfl (by kernel_rfl) (by kernel_rfl) (by kernel_rfl) (fun _ _ _ h => h) ⟨Or.inl ⟨by rfl, (by intro w; go_simp; try rfl)⟩, fun _ => rfl⟩ ?_; (try go_simp)
          refine wpAnyIn_take (i := 2) (v := .bool false) rfl rfl (by kernel_rfl) (by kernel_rfl) (by kernel_rfl) (fun _ _ _ h => h) ⟨Or.inl ⟨by rfl, (by intro w; go_simp; try rfl)⟩, fun _ => rfl⟩ ?_; (try go_simp)
          refine wpAnyIn_take (i := 3) (v := .bool true) rfl rfl (by kernel_rfl) (by kernel_rfl) (by kernel_rfl) (fun _ _ _ h => h) ⟨Or.inl ⟨by rfl, (by intro w; go_simp; try rfl)⟩, fun _ => rfl⟩ ?_; (try go_simp)
          refine wpAnyIn_take (i := 4) (v := .bool true) rfl rfl (by kernel_rfl) (by kernel_rfl) (by kernel_rfl) (fun _ _ _ h => h) ⟨Or.inl ⟨by rfl, (by intro w; go_simp; try rfl)⟩, fun _ => rfl⟩ ?_; (try go_simp)
          refine wpAnyIn_take (i := 5) (v := .bool true) rfl rfl (by kernel_rfl) (by kernel_rfl) (by kernel_rfl) (fun _ _ _ h => h) ⟨Or.inl ⟨by rfl, (by intro w; go_simp; try rfl)⟩, fun _ => rfl⟩ ?_; (try go_simp)
          refine wpAnyIn_take (i := 6) (v := (.func (.yield l) #[] #[])) rfl rfl (by kernel_rfl) (by kernel_rfl) (by kernel_rfl) (fun _ _ _ h => h) ⟨Or.inl ⟨by rfl, (by intro w; go_simp; try rfl)⟩, fun _ => rfl⟩ ?_; (try go_simp)
          refine wpAnyIn_take (i := 7) (v := (.pointer (some ⟨g, 0, none⟩))) rfl rfl (by kernel_rfl) (by kernel_rfl) (by kernel_rfl) (fun _ _ _ h => h) ⟨Or.inl ⟨by rfl, (by intro w; go_simp; try rfl)⟩, fun _ => rfl⟩ ?_; (try go_simp)
          refine wpAnyIn_take (i := 8) (v := (.pointer (some ⟨g, 0, none⟩))) rfl rfl (by kernel_rfl) (by kernel_rfl) (by kernel_rfl) (fun _ _ _ h => h) ⟨Or.inl ⟨by rfl, (by intro w; go_simp; try rfl)⟩, fun _ => rfl⟩ ?_; (try go_simp)
          refine wpAnyIn_take (i := 9) (v := (.pointer (some ⟨g, 0, none⟩))) rfl rfl (by kernel_rfl) (by kernel_rfl) (by kernel_rfl) (fun _ _ _ h => h) ⟨Or.inl ⟨by rfl, (by intro w; go_simp; try rfl)⟩, fun _ => rfl⟩ ?_; (try go_simp)
          refine wpAnyIn_take (i := 10) (v := (.pointer (some ⟨g, 0, none⟩))) rfl rfl (by kernel_rfl) (by kernel_rfl) (by kernel_rfl) (fun _ _ _ h => h) ⟨Or.inl ⟨by rfl, (by intro w; go_simp; try rfl)⟩, fun _ => rfl⟩ ?_; (try go_simp)
          refine wpAnyIn_take (i := 12) (v := (.pointer (some ⟨g, 0, none⟩))) rfl rfl (by kernel_rfl) (by kernel_rfl) (by kernel_rfl) (fun _ _ _ h => h) ⟨Or.inl ⟨by rfl, (by intro w; go_simp; try rfl)⟩, fun _ => rfl⟩ ?_; (try go_simp)
          refine wpAnyIn_take (i := 13) (v := (.pointer (some ⟨g, 0, none⟩))) rfl rfl (by kernel_rfl) (by kernel_rfl) (by kernel_rfl) (fun _ _ _ h => h) ⟨Or.inl ⟨by rfl, (by intro w; go_simp; try rfl)⟩, fun _ => rfl⟩ ?_; (try go_simp)
          refine wpAnyIn_take (i := 14) (v := (.pointer (some ⟨g, 0, none⟩))) rfl rfl (by kernel_rfl) (by kernel_rfl) (by kernel_rfl) (fun _ _ _ h => h) ⟨Or.inl ⟨by rfl, (by intro w; go_simp; try rfl)⟩, fun _ => rfl⟩ ?_; (try go_simp)
          refine wpAnyIn_take (i := 15) (v := (.pointer (some ⟨g, 1, none⟩))) rfl rfl (by kernel_rfl) (by kernel_rfl) (by kernel_rfl) (fun _ _ _ h => h) ⟨Or.inl ⟨by rfl, (by intro w; go_simp; try rfl)⟩, fun _ => rfl⟩ ?_; (try go_simp)
          refine wpAnyIn_ready (rs := [11, 16]) (by kernel_rfl) (by simp) ?_
          refine AllReadyIn.cons rfl (fun K hK => ?_) (AllReadyIn.cons rfl (fun K hK => ?_) AllReadyIn.nil)
          · skip
            go_simp
            refine hK _ _ ?_; clear hK K
            refine wpAnyIn_ready (rs := [16]) (by kernel_rfl) (by simp) ?_; refine AllReadyIn.cons rfl (fun K hK => ?_) AllReadyIn.nil; go_simp
            refine hK _ _ ?_; clear hK K
            refine wpAnyIn_ready (rs := [17]) (by kernel_rfl) (by simp) ?_; refine AllReadyIn.cons rfl (fun K hK => ?_) AllReadyIn.nil; go_simp
            (first | refine ⟨hdd _, ?_⟩ | skip)
            refine hR.mono ?_
            rintro e W2 (⟨rfl, hJ2, hb2, c3'', hr2⟩ | ⟨rfl, hx2⟩)
            · skip
              refine hK _ _ ?_; clear hK K
              refine wpAnyIn_take (i := 18) (v := .bool false) rfl rfl (by kernel_rfl) (by kernel_rfl) (by kernel_rfl) (fun _ _ _ h => h) ⟨Or.inl ⟨by rfl, (by intro w; go_simp; try rfl)⟩, fun _ => rfl⟩ ?_; (try go_simp)
              refine wpAnyIn_take (i := 19) (v := .bool false) rfl rfl (by kernel_rfl) (by kernel_rfl) (by kernel_rfl) (fun _ _ _ h => h) ⟨Or.inl ⟨by rfl, (by intro w; go_simp; try rfl)⟩, fun _ => rfl⟩ ?_; (try go_simp)
              refine wpAnyIn_done (by kernel_rfl) ?_ _
              gi_wp2_with ((try refine ⟨trivial, ?_⟩); (try refine ⟨hdd _, ?_⟩); gi_at_call 74; refine (IR2.out _ _ hr2 hJ2 (by simp; omega)).mono ?_; rintro e W3 (⟨rfl, hJ3, hb3⟩ | ⟨rfl, q, hq, hx3⟩))
              · go_ret
                exact .inl ⟨rfl, by rw [HB2.out, ← List.append_assoc, List.append_cons]; simpa [List.append_assoc] using hJ3, hb2.trans hb3⟩
              · go_ret
                exact .inr ⟨rfl, rng fr to tl.list ++ (bk, bv) :: q, by rw [HB2.out]; exact (List.prefix_append_right_inj _).2 (List.cons_prefix_cons.2 ⟨rfl, hq⟩), by simpa [List.append_assoc] using hx3⟩
            · skip
              refine hK _ _ ?_; clear hK K
              refine wpAnyIn_take (i := 18) (v := .bool true) rfl rfl (by kernel_rfl) (by kernel_rfl) (by kernel_rfl) (fun _ _ _ h => h) ⟨Or.inl ⟨by rfl, (by intro w; go_simp; try rfl)⟩, fun _ => rfl⟩ ?_; (try go_simp)
              refine wpAnyIn_take (i := 19) (v := .bool true) rfl rfl (by kernel_rfl) (by kernel_rfl) (by kernel_rfl) (fun _ _ _ h => h) ⟨Or.inl ⟨by rfl, (by intro w; go_simp; try rfl)⟩, fun _ => rfl⟩ ?_; (try go_simp)
              refine wpAnyIn_done (by kernel_rfl) ?_ _
              gi_wp2
              go_ret
              exact .inr ⟨rfl, rng fr to tl.list ++ [(bk, bv)], by rw [HB2.out]; exact (List.prefix_append_right_inj _).2 (List.cons_prefix_cons.2 ⟨rfl, List.nil_prefix⟩), by simpa [List.append_assoc] using hx2⟩
          · skip
            go_simp
            refine hK _ _ ?_; clear hK K
            refine wpAnyIn_ready (rs := [11]) (by kernel_rfl) (by simp) ?_; refine AllReadyIn.cons rfl (fun K hK => ?_) AllReadyIn.nil; go_simp
            refine hK _ _ ?_; clear hK K
            refine wpAnyIn_ready (rs := [17]) (by kernel_rfl) (by simp) ?_; refine AllReadyIn.cons rfl (fun K hK => ?_) AllReadyIn.nil; go_simp
            (first | refine ⟨hdd _, ?_⟩ | skip)
            refine hR.mono ?_
            rintro e W2 (⟨rfl, hJ2, hb2, c3'', hr2⟩ | ⟨rfl, hx2⟩)
            · skip
              refine hK _ _ ?_; clear hK K
              refine wpAnyIn_take (i := 18) (v := .bool false) rfl rfl (by kernel_rfl) (by kernel_rfl) (by kernel_rfl) (fun _ _ _ h => h) ⟨Or.inl ⟨by rfl, (by intro w; go_simp; try rfl)⟩, fun _ => rfl⟩ ?_; (try go_simp)
              refine wpAnyIn_take (i := 19) (v := .bool false) rfl rfl (by kernel_rfl) (by kernel_rfl) (by kernel_rfl) (fun _ _ _ h => h) ⟨Or.inl ⟨by rfl, (by intro w; go_simp; try rfl)⟩, fun _ => rfl⟩ ?_; (try go_simp)
              refine wpAnyIn_done (by kernel_rfl) ?_ _
              gi_wp2_with ((try refine ⟨trivial, ?_⟩); (try refine ⟨hdd _, ?_⟩); gi_at_call 74; refine (IR2.out _ _ hr2 hJ2 (by simp; omega)).mono ?_; rintro e W3 (⟨rfl, hJ3, hb3⟩ | ⟨rfl, q, hq, hx3⟩))
              · go_ret
                exact .inl ⟨rfl, by rw [HB2.out, ← List.append_assoc, List.append_cons]; simpa [List.append_assoc] using hJ3, hb2.trans hb3⟩
              · go_ret
                exact .inr ⟨rfl, rng fr to tl.list ++ (bk, bv) :: q, by rw [HB2.out]; exact (List.prefix_append_right_inj _).2 (List.cons_prefix_cons.2 ⟨rfl, hq⟩), by simpa [List.append_assoc] using hx3⟩
            · skip
              refine hK _ _ ?_; clear hK K
              refine wpAnyIn_take (i := 18) (v := .bool true) rfl rfl (by kernel_rfl) (by kernel_rfl) (by kernel_rfl) (fun _ _ _ h => h) ⟨Or.inl ⟨by rfl, (by intro w; go_simp; try rfl)⟩, fun _ => rfl⟩ ?_; (try go_simp)
              refine wpAnyIn_take (i := 19) (v := .bool true) rfl rfl (by kernel_rfl) (by kernel_rfl) (by kernel_rfl) (fun _ _ _ h => h) ⟨Or.inl ⟨by rfl, (by intro w; go_simp; try rfl)⟩, fun _ => rfl⟩ ?_; (try go_simp)
              refine wpAnyIn_done (by kernel_rfl) ?_ _
              gi_wp2
              go_ret
              exact .inr ⟨rfl, rng fr to tl.list ++ [(bk, bv)], by rw [HB2.out]; exact (List.prefix_append_right_inj _).2 (List.cons_prefix_cons.2 ⟨rfl, List.nil_prefix⟩), by simpa [List.append_assoc] using hx2⟩
        · skip
          skip
          go_ret
          exact .inr ⟨rfl, q, hq.trans (by rw [HEQ.out]; exact ⟨_, rfl⟩), hx1⟩
    · have HLOW : Hid (rng fr to (tl.list ++ (bk, bv) :: tr.list) = rng fr to tr.list) := rng_low hs' ha
      rw [HLOW.out] at hN'
      have hrd : BTo S W.drew (.pointer ph) tr := hr.kept (SD.out W)
      have d3 : W.drew.cell? ⟨g, 3, none⟩ = some (.pointer ph) := (SD.out W).cell hg c3
      have IR : Hid (CallsIn Fence.wide (n - 1) Try.prog 74 #[.pointer ph, .string fr, .string to, .func (.yield l) #[] #[]] W.drew fun e W' => (e = .returned (.bool true) ∧ J (pre ++ rng fr to tr.list) W' ∧ Kept S W.drew W') ∨ (e = .returned (.bool false) ∧ ∃ q, q <+: rng fr to tr.list ∧ Jx (pre ++ q) W')) := ihr (n - 1) (.pointer ph) pre W.drew hrd s2 (HD.out _ _ h0) hN'
      have H0 := hidden h0
      clear ihl ihr hY hJ hl hr hbk h0 s1 hrd
      cases hb : ltS bk to
      · have HE : Hid (rng fr to (tl.list ++ (bk, bv) :: tr.list) = []) := by
          rw [Hid, rng_high hs' hb]
          obtain ⟨_, _, h3, _, _⟩ := srt_split hs'
          exact rng_none (fun a hl => by rw [ordS.lt_lt (h3 a hl) ha]; rfl)
        clear hs'
        refine callsIn_of_wp Try.func74 rfl trivial ?_ rfl
        simp only [Try.ntmps74, List.size_toArray, List.length_cons, List.length_nil, Nat.reduceAdd, Nat.reduceSub, Array.replicate_succ, Array.replicate_zero, List.push_toArray, List.append_toArray, List.nil_append, List.cons_append]
        gi_wp2_with ((try refine ⟨trivial, ?_⟩); (try refine ⟨hdd _, ?_⟩); gi_at_call 46; refine (callsIn_wide.2 (less_str _ _ _)).mono ?_; rintro e w0 ⟨rfl, rfl⟩; (try rw [ha]); (try rw [hb]))
        refine ⟨trivial, ?_⟩
        gi_wp2
        refine wpIn_region_any hmx ?_
        change wpAnyIn _ _ _ _ _ _ _ _ _ (World.drew _)
        refine wpAnyIn_take (i := 0) (v := .bool false) rfl rfl (by kernel_rfl) (by kernel_rfl) (by kernel_rfl) (fun _ _ _ h => h) ⟨Or.inl ⟨by rfl, (by intro w; go_simp; try rfl)⟩, fun _ => rfl⟩ ?_; (try go_simp)
        refine wpAnyIn_take (i := 1) (v := .bool false) rfl rfl (by kernel_rfl) (by kernel_rfl) (by kernel_rfl) (fun _ _ _ h => h) ⟨Or.inl ⟨by rfl, (by intro w; go_simp; try rfl)⟩, fun _ => rfl⟩ ?_; (try go_simp)
        refine wpAnyIn_take (i := 2) (v := undef) rfl rfl (by kernel_rfl) (by kernel_rfl) (by kernel_rfl) (fun _ _ _ h => h) ⟨Or.inr ⟨by rfl, rfl⟩, fun _ => rfl⟩ ?_; (try go_simp)
        refine wpAnyIn_take (i := 3) (v := undef) rfl rfl (by kernel_rfl) (by kernel_rfl) (by kernel_rfl) (fun _ _ _ h => h) ⟨Or.inr ⟨by rfl, rfl⟩, fun _ => rfl⟩ ?_; (try go_simp)
        refine wpAnyIn_take (i := 4) (v := .bool false) rfl rfl (by kernel_rfl) (by kernel_rfl) (by kernel_rfl) (fun _ _ _ h => h) ⟨Or.inl ⟨by rfl, (by intro w; go_simp; try rfl)⟩, fun _ => rfl⟩ ?_; (try go_simp)
        refine wpAnyIn_take (i := 5) (v := .bool false) rfl rfl (by kernel_rfl) (by kernel_rfl) (by kernel_rfl) (fun _ _ _ h => h) ⟨Or.inl ⟨by rfl, (by intro w; go_simp; try rfl)⟩, fun _ => rfl⟩ ?_; (try go_simp)
        refine wpAnyIn_take (i := 6) (v := undef) rfl rfl (by kernel_rfl) (by kernel_rfl) (by kernel_rfl) (fun _ _ _ h => h) ⟨Or.inr ⟨by rfl, rfl⟩, fun _ => rfl⟩ ?_; (try go_simp)
        refine wpAnyIn_take (i := 7) (v := undef) rfl rfl (by kernel_rfl) (by kernel_rfl) (by kernel_rfl) (fun _ _ _ h => h) ⟨Or.inr ⟨by rfl, rfl⟩, fun _ => rfl⟩ ?_; (try go_simp)
        refine wpAnyIn_take (i := 8) (v := undef) rfl rfl (by kernel_rfl) (by kernel_rfl) (by kernel_rfl) (fun _ _ _ h => h) ⟨Or.inr ⟨by rfl, rfl⟩, fun _ => rfl⟩ ?_; (try go_simp)
        refine wpAnyIn_take (i := 9) (v := undef) rfl rfl (by kernel_rfl) (by kernel_rfl) (by kernel_rfl) (fun _ _ _ h => h) ⟨Or.inr ⟨by rfl, rfl⟩, fun _ => rfl⟩ ?_; (try go_simp)
        refine wpAnyIn_take (i := 10) (v := undef) rfl rfl (by kernel_rfl) (by kernel_rfl) (by kernel_rfl) (fun _ _ _ h => h) ⟨Or.inr ⟨by rfl, rfl⟩, fun _ => rfl⟩ ?_; (try go_simp)
        refine wpAnyIn_take (i := 11) (v := undef) rfl rfl (by kernel_rfl) (by kernel_rfl) (by kernel_rfl) (fun _ _ _ h => h) ⟨Or.inr ⟨by rfl, rfl⟩, fun _ => rfl⟩ ?_; (try go_simp)
        refine wpAnyIn_take (i := 12) (v := undef) rfl rfl (by kernel_rfl) (by kernel_rfl) (by kernel_rfl) (fun _ _ _ h => h) ⟨Or.inr ⟨by rfl, rfl⟩, fun _ => rfl⟩ ?_; (try go_simp)
        refine wpAnyIn_take (i := 13) (v := undef) rfl rfl (by kernel_rfl) (by kernel_rfl) (by kernel_rfl) (fun _ _ _ h => h) ⟨Or.inr ⟨by rfl, rfl⟩, fun _ => rfl⟩ ?_; (try go_simp)
        refine wpAnyIn_take (i := 14) (v := undef) rfl rfl (by kernel_rfl) (by kernel_rfl) (by kernel_rfl) (fun _ _ _ h => h) ⟨Or.inr ⟨by rfl, rfl⟩, fun _ => rfl⟩ ?_; (try go_simp)
        refine wpAnyIn_take (i := 15) (v := undef) rfl rfl (by kernel_rfl) (by kernel_rfl) (by kernel_rfl) (fun _ _ _ h => h) ⟨Or.inr ⟨by rfl, rfl⟩, fun _ => rfl⟩ ?_; (try go_simp)
        refine wpAnyIn_take (i := 16) (v := undef) rfl rfl (by kernel_rfl) (by kernel_rfl) (by kernel_rfl) (fun _ _ _ h => h) ⟨Or.inr ⟨by rfl, rfl⟩, fun _ => rfl⟩ ?_; (try go_simp)
        refine wpAnyIn_ready (rs := [17]) (by kernel_rfl) (by simp) ?_; refine AllReadyIn.cons rfl (fun K hK => ?_) AllReadyIn.nil; go_simp; (first | refine ⟨fun _ _ => trivial, ?_⟩ | refine ⟨trivial, ?_⟩ | skip); refine hK _ _ ?_; clear hK K
        refine wpAnyIn_take (i := 18) (v := undef) rfl rfl (by kernel_rfl) (by kernel_rfl) (by kernel_rfl) (fun _ _ _ h => h) ⟨Or.inr ⟨by rfl, rfl⟩, fun _ => rfl⟩ ?_; (try go_simp)
        refine wpAnyIn_take (i := 19) (v := .bool false) rfl rfl (by kernel_rfl) (by kernel_rfl) (by kernel_rfl) (fun _ _ _ h => h) ⟨Or.inl ⟨by rfl, (by intro w; go_simp; try rfl)⟩, fun _ => rfl⟩ ?_; (try go_simp)
        refine wpAnyIn_done (by kernel_rfl) ?_ _
        gi_wp2
        refine ⟨trivial, ?_⟩
        gi_wp2
        go_ret
        exact .inl ⟨rfl, by rw [HE.out, List.append_nil]; exact HD.out _ _ H0.out, SD.out _⟩
      · clear hs'
        refine callsIn_of_wp Try.func74 rfl trivial ?_ rfl
        simp only [Try.ntmps74, List.size_toArray, List.length_cons, List.length_nil, Nat.reduceAdd, Nat.reduceSub, Array.replicate_succ, Array.replicate_zero, List.push_toArray, List.append_toArray, List.nil_append, List.cons_append]
        gi_wp2_with ((try refine ⟨trivial, ?_⟩); (try refine ⟨hdd _, ?_⟩); gi_at_call 46; refine (callsIn_wide.2 (less_str _ _ _)).mono ?_; rintro e w0 ⟨rfl, rfl⟩; (try rw [ha]); (try rw [hb]))
        refine ⟨trivial, ?_⟩
        gi_wp2
        refine wpIn_region_any hmx ?_
        change wpAnyIn _ _ _ _ _ _ _ _ _ (World.drew _)
        refine wpAnyIn_take (i := 0) (v := .bool false) rfl rfl (by kernel_rfl) (by kernel_rfl) (by kernel_rfl) (fun _ _ _ h => h) ⟨Or.inl ⟨by rfl, (by intro w; go_simp; try rfl)⟩, fun _ => rfl⟩ ?_; (try go_simp)
        refine wpAnyIn_take (i := 1) (v := .bool false) rfl rfl (by kernel_rfl) (by kernel_rfl) (by kernel_rfl) (fun _ _ _ h => h) ⟨Or.inl ⟨by rfl, (by intro w; go_simp; try rfl)⟩, fun _ => rfl⟩ ?_; (try go_simp)
        refine wpAnyIn_take (i := 2) (v := undef) rfl rfl (by kernel_rfl) (by kernel_rfl) (by kernel_rfl) (fun _ _ _ h => h) ⟨Or.inr ⟨by rfl, rfl⟩, fun _ => rfl⟩ ?_; (try go_simp)
        refine wpAnyIn_take (i := 3) (v := undef) rfl rfl (by kernel_rfl) (by kernel_rfl) (by kernel_rfl) (fun _ _ _ h => h) ⟨Or.inr ⟨by rfl, rfl⟩, fun _ => rfl⟩ ?_; (try go_simp)
        refine wpAnyIn_take (i := 4) (v := .bool false) rfl rfl (by kernel_rfl) (by kernel_rfl) (by kernel_rfl) (fun _ _ _ h => h) ⟨Or.inl ⟨by rfl, (by intro w; go_simp; try rfl)⟩, fun _ => rfl⟩ ?_; (try go_simp)
        refine wpAnyIn_take (i := 5) (v := .bool false) rfl rfl (by kernel_rfl) (by kernel_rfl) (by kernel_rfl) (fun _ _ _ h => h) ⟨Or.inl ⟨by rfl, (by intro w; go_simp; try rfl)⟩, fun _ => rfl⟩ ?_; (try go_simp)
        refine wpAnyIn_take (i := 6) (v := undef) rfl rfl (by kernel_rfl) (by kernel_rfl) (by kernel_rfl) (fun _ _ _ h => h) ⟨Or.inr ⟨by rfl, rfl⟩, fun _ => rfl⟩ ?_; (try go_simp)
        refine wpAnyIn_take (i := 7) (v := undef) rfl rfl (by kernel_rfl) (by kernel_rfl) (by kernel_rfl) (fun _ _ _ h => h) ⟨Or.inr ⟨by rfl, rfl⟩, fun _ => rfl⟩ ?_; (try go_simp)
        refine wpAnyIn_take (i := 8) (v := undef) rfl rfl (by kernel_rfl) (by kernel_rfl) (by kernel_rfl) (fun _ _ _ h => h) ⟨Or.inr ⟨by rfl, rfl⟩, fun _ => rfl⟩ ?_; (try go_simp)
        refine wpAnyIn_take (i := 9) (v := undef) rfl rfl (by kernel_rfl) (by kernel_rfl) (by kernel_rfl) (fun _ _ _ h => h) ⟨Or.inr ⟨by rfl, rfl⟩, fun _ => rfl⟩ ?_; (try go_simp)
        refine wpAnyIn_take (i := 10) (v := undef) rfl rfl (by kernel_rfl) (by kernel_rfl) (by kernel_rfl) (fun _ _ _ h => h) ⟨Or.inr ⟨by rfl, rfl⟩, fun _ => rfl⟩ ?_; (try go_simp)
        refine wpAnyIn_take (i := 11) (v := undef) rfl rfl (by kernel_rfl) (by kernel_rfl) (by kernel_rfl) (fun _ _ _ h => h) ⟨Or.inr ⟨by rfl, rfl⟩, fun _ => rfl⟩ ?_; (try go_simp)
        refine wpAnyIn_take (i := 12) (v := undef) rfl rfl (by kernel_rfl) (by kernel_rfl) (by kernel_rfl) (fun _ _ _ h => h) ⟨Or.inr ⟨by rfl, rfl⟩, fun _ => rfl⟩ ?_; (try go_simp)
        refine wpAnyIn_take (i := 13) (v := undef) rfl rfl (by kernel_rfl) (by kernel_rfl) (by kernel_rfl) (fun _ _ _ h => h) ⟨Or.inr ⟨by rfl, rfl⟩, fun _ => rfl⟩ ?_; (try go_simp)
        refine wpAnyIn_take (i := 14) (v := undef) rfl rfl (by kernel_rfl) (by kernel_rfl) (by kernel_rfl) (fun _ _ _ h => h) ⟨Or.inr ⟨by rfl, rfl⟩, fun _ => rfl⟩ ?_; (try go_simp)
        refine wpAnyIn_take (i := 15) (v := undef) rfl rfl (by kernel_rfl) (by kernel_rfl) (by kernel_rfl) (fun _ _ _ h => h) ⟨Or.inr ⟨by rfl, rfl⟩, fun _ => rfl⟩ ?_; (try go_simp)
        refine wpAnyIn_take (i := 16) (v := undef) rfl rfl (by kernel_rfl) (by kernel_rfl) (by kernel_rfl) (fun _ _ _ h => h) ⟨Or.inr ⟨by rfl, rfl⟩, fun _ => rfl⟩ ?_; (try go_simp)
        refine wpAnyIn_ready (rs := [17]) (by kernel_rfl) (by simp) ?_; refine AllReadyIn.cons rfl (fun K hK => ?_) AllReadyIn.nil; go_simp; (first | refine ⟨fun _ _ => trivial, ?_⟩ | refine ⟨trivial, ?_⟩ | skip); refine hK _ _ ?_; clear hK K
        refine wpAnyIn_take (i := 18) (v := undef) rfl rfl (by kernel_rfl) (by kernel_rfl) (by kernel_rfl) (fun _ _ _ h => h) ⟨Or.inr ⟨by rfl, rfl⟩, fun _ => rfl⟩ ?_; (try go_simp)
        refine wpAnyIn_take (i := 19) (v := .bool false) rfl rfl (by kernel_rfl) (by kernel_rfl) (by kernel_rfl) (fun _ _ _ h => h) ⟨Or.inl ⟨by rfl, (by intro w; go_simp; try rfl)⟩, fun _ => rfl⟩ ?_; (try go_simp)
        refine wpAnyIn_done (by kernel_rfl) ?_ _
        gi_wp2_with ((try refine ⟨trivial, ?_⟩); (try refine ⟨hdd _, ?_⟩); gi_at_call 74; refine IR.out.mono ?_; rintro e W3 (⟨rfl, hJ3, hb3⟩ | ⟨rfl, q, hq, hx3⟩))
        · go_ret
          exact .inl ⟨rfl, by rw [HLOW.out]; exact hJ3, (SD.out W).trans hb3⟩
        · go_ret
          exact .inr ⟨rfl, q, by rw [HLOW.out]; exact hq, hx3⟩
end Go.Proofs.Ytelngbkbdihdnaa
