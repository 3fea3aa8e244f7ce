/- The program's Merge. -/
import Derived.Test.YtelngbkbdihdnaaMg2
namespace Go.Proofs.Ytelngbkbdihdnaa
open Go.RowKit
set_option linter.unusedVariables false
theorem infoHead : (Try.prog.info? 103).map (fun i => (i.zero, i.size, i.bytes)) = some (some (.agg #[.slice none 0 0, .int .i64 0]), 2, 32) := by kernel_rfl
theorem own_rebase {w : World} {B g n cap s : Nat} {e : TypeId} {xs : List Value} (h : w.ownsRow 0 e s (.slice (some ⟨g, 0, none⟩) n cap) n xs) (hb : B ≤ g) : w.ownsRow B e s (.slice (some ⟨g, 0, none⟩) n cap) n xs := by
  refine ⟨h.1, ?_⟩
  rcases h.2 with ⟨h2, _⟩ | ⟨g', cap', cur, hv, hb', r⟩
  · cases h2
  · obtain ⟨rfl, rfl⟩ : g = g' ∧ cap = cap' := by simpa using hv
    exact Or.inr ⟨g, cap, cur, rfl, hb, r⟩
theorem own_at {w : World} {B n cap s : Nat} {a : Option Addr} {e : TypeId} {xs : List Value} (h : w.ownsRow B e s (.slice a n cap) n xs) (hn : 0 < n) : ∃ g, a = some ⟨g, 0, none⟩ ∧ B ≤ g ∧ n ≤ cap := by
  rcases h.2 with ⟨_, h2⟩ | ⟨g', cap', cur, hv, hb, hg, hn', _⟩
  · omega
  · obtain ⟨rfl, rfl⟩ : a = some ⟨g', 0, none⟩ ∧ cap = cap' := by simpa using hv
    exact ⟨g', rfl, hb, hn'⟩
theorem flH_one : ∀ l : List Hd, (∀ h ∈ l, h.v.oneCell' = true) → ∀ u ∈ flH l, u.oneCell' = true
  | [], _, u, h => by simp [flH] at h
  | p :: l, hv, u, h => by
    rw [flH_cons] at h
    rcases List.mem_cons.1 h with rfl | h
    · exact hv p (by simp)
    · rcases List.mem_cons.1 h with rfl | h
      · rfl
      · exact flH_one l (fun x hx => hv x (by simp [hx])) u h
theorem HL.pushAt {B i : Nat} {w : World} {H : List Hd} {R : List (List Kv)} (h : HL B w H R) (hR : R.length = i) {v : Value} {l : List Kv} (hi : Itc w v l) (h0 : 0 < l.length) (hb : ∀ b, v.ownBlock = some b → b < B) : HL B w (H ++ [⟨v, l[0].1, i⟩]) (R ++ [l]) := by
  subst hR
  exact h.push hi h0 hb
theorem own_setS {w : World} {B g n cap i s : Nat} {e : TypeId} {xs : List Value} (h : w.ownsRow B e s (.slice (some ⟨g, 0, none⟩) n cap) n xs) (u : Value) :
    (w.setCell ⟨g, i, none⟩ u).ownsRow B e s (.slice (some ⟨g, 0, none⟩) n cap) n (xs.set i u) := by
  obtain ⟨h1, h2⟩ := h
  refine ⟨by simpa using h1, ?_⟩
  rcases h2 with ⟨h2, _⟩ | ⟨g', cap', cur, hv, hb, hg, hn, hc, hs, ht⟩
  · cases h2
  · obtain ⟨rfl, rfl⟩ : g = g' ∧ cap = cap' := by simpa using hv
    refine Or.inr ⟨g, cap, cur.setIfInBounds i u, rfl, hb, blk_set hg u, hn, hc, by simpa using hs, ?_⟩
    rw [Array.toList_setIfInBounds, List.take_set, ht]
theorem hown_first {w : World} {B g n cap : Nat} {e : TypeId} {h0 : Hd} {t : List Hd} (h : w.ownsRow B e 2 (.slice (some ⟨g, 0, none⟩) n cap) n (flH (h0 :: t))) (u : Value) (k : ByteArray) : (w.setCell ⟨g, 0, none⟩ u).ownsRow B e 2 (.slice (some ⟨g, 0, none⟩) n cap) n (flH (⟨u, k, h0.p⟩ :: t)) := own_setS (i := 0) h u
theorem down_drop {κ : Type} {lt : κ → κ → Bool} {h0 x : κ} {t : List κ} (hh : IsHeap lt (h0 :: t)) (h' : 0 < (x :: t).length) : Down lt (dropL (x :: t) h') 0 := by
  have e : dropL (x :: t) h' = dropL (h0 :: t) (by simp) := dropL_first (L := h0 :: t) x (by simp) h'
  rw [e]
  exact down_start hh _
/-- Rows of two types are apart. -/
theorem own_two {w : World} {B C g n m cap s r : Nat} {e f : TypeId} {v : Value} {xs ys : List Value} (h : w.ownsRow B e s (.slice (some ⟨g, 0, none⟩) n cap) n xs) (k : w.ownsRow C f r v m ys) (hne : e ≠ f) : ∀ b, v.ownBlock = some b → b ≠ g := fun b hb eb => by
  subst eb
  rcases h.2 with ⟨h2, _⟩ | ⟨g', cap', cur, hv, _, hg, _⟩
  · cases h2
  · obtain ⟨rfl, _⟩ : b = g' ∧ cap = cap' := by simpa using hv
    rcases k.2 with ⟨k2, _⟩ | ⟨g2, cap2, cur2, kv, _, kg, _⟩
    · rw [k2] at hb; cases hb
    · rw [kv] at hb
      simp [Value.ownBlock] at hb
      subst hb
      rw [hg] at kg
      simp at kg
      exact hne kg.2
theorem last_lt {out : List Kv} (hs : Srt out) {m : Nat} {k : ByteArray} (hm : out.length = m + 1) (h : ltS (out[m]'(by omega)).1 k = true) : ∀ o ∈ out, ltS o.1 k = true := fun o ho => by
  obtain ⟨j, hj, rfl⟩ := List.getElem_of_mem ho
  rcases Nat.lt_or_ge j m with h1 | h1
  · exact ordS.lt_lt (List.pairwise_iff_getElem.1 hs j m hj (by omega) h1) h
  · have : j = m := by omega
    subst this
    exact h
theorem last_eq {out : List Kv} {m : Nat} {k : ByteArray} (hm : out.length = m + 1) (h : ltS (out[m]'(by omega)).1 k = false) (h' : ltS k (out[m]'(by omega)).1 = false) : lk k out ≠ none := fun e => by
  have := lk_none_mem e _ (List.getElem_mem (show m < out.length by omega))
  unfold eqK at this
  rw [h, h'] at this
  cases this
theorem sum_set {R : List (List Kv)} {p : Nat} {l : List Kv} (hp : p < R.length) : ((R.set p l).map List.length).sum + R[p].length = (R.map List.length).sum + l.length := by
  induction R generalizing p with
  | nil => simp at hp
  | cons a R ih =>
    cases p with
    | zero => simp; omega
    | succ p =>
      have := ih (p := p) (by simpa using hp)
      simp at this ⊢
      omega
def slen : Value → Nat
  | .slice _ k _ => k
  | _ => 0
/-- How many items the heads have. -/
def hsum (hv : Value) (w : World) : Nat :=
  match hv with
  | .slice (some ⟨b, _, _⟩) n _ => ((List.range n).map fun j => match w.cell? ⟨b, j * 2, none⟩ with | some v => slen v | none => 0).sum
  | _ => 0
theorem hsum_own {w : World} {B n cap : Nat} {a : Option Addr} {e : TypeId} {H : List Hd} (h : w.ownsRow B e 2 (.slice a n cap) n (flH H)) (hl : H.length = n) : hsum (.slice a n cap) w = (H.map (fun x => slen x.v)).sum := by
  rcases Nat.eq_zero_or_pos n with rfl | hp
  · rw [List.length_eq_zero_iff.1 hl]
    cases a <;> simp [hsum]
  · obtain ⟨g, rfl, _⟩ := own_at h hp
    unfold hsum
    simp only
    congr 1
    apply List.ext_getElem (by simp [hl])
    intro i h1 h2
    simp at h1 h2
    have h3 := (hown_cell h (i := i) (by omega)).1
    simp [h3]
set_option maxHeartbeats 1000000 in
set_option maxRecDepth 100000 in
theorem merge_any {Ls : List (List Kv)} {vs : List Value} {la : Option Addr} {lc : Nat} {w : World} (hvl : vs.length = Ls.length)
    (hce : ∀ j (hj : j < Ls.length), ∃ b o, la = some ⟨b, o, none⟩ ∧ w.cell? ⟨b, o + j, none⟩ = some (vs[j]'(by omega)))
    (hIt : ∀ j (hj : j < Ls.length), Itc w (vs[j]'(by omega)) Ls[j]) (hn : Ls.length ≤ 1073741824) (htot : (Ls.flatten.length + 1) * 24 ≤ 140737488355328) :
    Calls Try.prog 33 #[.slice la Ls.length lc] w fun e w' => ∃ u, e = .returned u ∧ ∃ M, ItS w.heap.size w' u M ∧ Srt M ∧ (∀ k, lk k M = sel (Ls.map sortL) k) ∧ M.length ≤ Ls.flatten.length ∧ Same w w' := by
  obtain ⟨i0, hi0, hz0, hz1, hz2⟩ := info_parts infoHead
  obtain ⟨i1, hi1, hy0, hy1, hy2⟩ := info_parts infoItemS
  have HCE : Hid (∀ j (hj : j < Ls.length), ∃ b o, la = some ⟨b, o, none⟩ ∧ ∀ W, Same w W → W.cell? ⟨b, o + j, none⟩ = some (vs[j]'(by omega))) := fun j hj => let ⟨b, o, e, h⟩ := hce j hj; ⟨b, o, e, fun W kk => Kept.cell kk (fun h => h) h⟩
  have HIT : Hid (∀ j (hj : j < Ls.length), (∀ W, Same w W → Itc W (vs[j]'(by omega)) Ls[j]) ∧ ∀ b, (vs[j]'(by omega)).ownBlock = some b → 0 < Ls[j].length → b < w.heap.size) := fun j hj => by
    refine ⟨fun W kk => (hIt j hj).same kk, fun b hb hp => ?_⟩
    obtain ⟨a', c', e, _, hc⟩ := hIt j hj
    obtain ⟨b2, off, e2, hce⟩ := hc hp
    rw [e, e2] at hb
    simp [Value.ownBlock] at hb
    subst hb
    exact World.block_lt_of_cell? w _ (hce 0 hp).1
  obtain ⟨n, hnn⟩ : ∃ n, Ls.length = n := ⟨_, rfl⟩
  have HN := hidden hnn
  obtain ⟨tot, htt⟩ : ∃ tot, Ls.flatten.length = tot := ⟨_, rfl⟩
  rw [htt] at htot ⊢
  have HTT := hidden htt
  have HTOT := hidden htot
  rw [hnn] at hn ⊢
  clear hce hIt hnn htot htt
  go_enter Try.func33, Try.ntmps33
  go_wp2
  go_loopw [3, 11] (fun hv iv wr => ∃ (i hn hc : Nat) (ha : Option Addr) (H : List Hd), i ≤ n ∧ iv = .int .i64 i ∧ hv = .slice ha hn hc ∧ H.length = hn ∧ hn ≤ i ∧ wr.ownsRow w.heap.size 103 2 (.slice ha hn hc) hn (flH H) ∧ IsHeap ltH H ∧ HL w.heap.size wr H (Ls.take i) ∧ Same w wr) (fun hv iv wr => n - (intOf iv).toNat)
  case atStart => exact ⟨0, 0, 0, none, [], Nat.zero_le _, rfl, rfl, rfl, Nat.le_refl _, World.ownsRow_nil _ _ _ _, fun j hj => by simp at hj, HL.nil _ _, Kept.refl _ _⟩
  case round =>
    obtain ⟨i, hm, hc, ha, H, hi, rfl, rfl, hHl, hmi, hO, hHp, hHL, hK⟩ := hrel
    have HO := hidden hO
    have HHP := hidden hHp
    have HHL := hidden hHL
    have HLN := hidden hHl
    have HK := hidden hK
    have hsz := hK.size
    clear hO hHp hHL hHl hK
    by_cases h1 : i < n
    · have hil : i < Ls.length := by rw [HN.out]; exact h1
      obtain ⟨lb, lo, rfl, hcw⟩ := HCE.out i hil
      have y0 := hcw wr HK.out
      obtain ⟨hit, hbt⟩ := HIT.out i hil
      have HI := hidden (hit wr HK.out)
      have HBT := hidden hbt
      obtain ⟨va, vc, hv, -, -⟩ := hit wr HK.out
      obtain ⟨v, hvv⟩ : ∃ v, vs[i]'(by omega) = v := ⟨_, rfl⟩
      rw [hvv] at y0 HI HBT hv
      have HTK := hidden (show Ls.take (i + 1) = Ls.take i ++ [Ls[i]] from (List.take_append_getElem hil).symm)
      obtain ⟨l, hll⟩ : ∃ l, Ls[i] = l := ⟨_, rfl⟩
      rw [hll] at HI HBT hv HTK
      obtain ⟨ml, hml⟩ : ∃ ml, l.length = ml := ⟨_, rfl⟩
      have HML := hidden hml
      rw [hml] at hv
      subst hv
      have htl : (Ls.take i).length = i := by rw [List.length_take]; omega
      have HTL := hidden htl
      have q1 : (i : Int) < (n : Int) := by omega
      have q0 : (0 : Int) ≤ (i : Int) := Int.natCast_nonneg _
      clear hcw hit hbt hll hml htl hvv
      by_cases h2 : 0 < ml
      · have q2 : (0 : Int) < (ml : Int) := by omega
        have hlp : 0 < l.length := by rw [HML.out]; exact h2
        have HB2 := hidden (heap_alloc_new wr (.cells #[.slice va ml vc, .int .i64 (i : Int)] 103))
        have hsq : (wr.alloc (.cells #[.slice va ml vc, .int .i64 (i : Int)] 103)).heap.size = wr.heap.size + 1 := alloc_size1 _ _
        go_wp2_with (first
          | (at_builtin; go_must (refine wpList_append_any (by rfl) _ _ 101 (by rfl) w.heap.size 103 i0 _ 2 32 Try.underlying101 hi0 hz0 hz1 hz2 rfl (by decide) _ _ _ _ (by rfl) (HO.out.alloc _) (some ⟨wr.heap.size, 0, none⟩) 1 1 (flH [⟨.slice va ml vc, l[0].1, i⟩]) (by rfl) (by rfl) (lies_of (World.news_of_block HB2.out)) (flH_one _ (by simp [Value.oneCell'])) (by unfold maxLen; omega) (by omega) (by rw [hsq]; omega) ?_; intro a3 c3 w3 hown hgrow; have R3 := hidden (same_grown (m := 0) (HK.out.alloc _) (HO.out.alloc _) hgrow); have L3 : Hid (HL w.heap.size w3 H (Ls.take i)) := HHL.out.kept (((Kept.refl (fun x => w.heap.size ≤ x) wr).alloc _).grown hgrow (fun q hq _ => (HO.out.lt q hq).1)) (fun b hb h => by omega); have I3 : Hid (Itc w3 (.slice va ml vc) l) := HI.out.kept (((Kept.refl (fun x => w.heap.size ≤ x) wr).alloc _).grown hgrow (fun q hq _ => (HO.out.lt q hq).1)) (fun b hb h => by have := HBT.out b hb hlp; omega); rw [← flH_app] at hown; obtain ⟨gb, rfl, hgb, hgc⟩ := own_at hown (by omega); have O3 := hidden hown; clear hown hgrow))
          | (go_at_call 62; go_must (refine (climb_H gb c3 (hm + 1) (H ++ [⟨.slice va ml vc, l[0].1, i⟩]) _ (by rw [List.length_append, HLN.out]; rfl) (by omega) (by omega) (own_base O3.out) ((L3.out.pushAt HTL.out I3.out hlp (fun b hb => HBT.out b hb hlp)).ok hgb (by rw [List.length_append, HTL.out]; simp; omega)) (by rw [Nat.add_sub_cancel, ← HLN.out]; exact up_start HHP.out _)).mono ?_; rintro e w4 ⟨rfl, H4, hp4, hh4, hr4, hk4⟩; have P4 := hidden hp4; have HH4 := hidden hh4; have O4 := hidden hr4; have K4 := hidden hk4; clear hp4 hh4 hr4 hk4)))
        go_roundw
        case rel =>
          refine ⟨i + 1, hm + 1, c3, _, H4, by omega, by go_num, rfl, by rw [P4.out.length_eq, List.length_append, HLN.out]; rfl, by omega, own_rebase O4.out hgb, HH4.out, ?_, R3.out.trans' K4.out (fun k hk e => by omega)⟩
          rw [HTK.out]
          exact HL.perm (HL.kept (L3.out.pushAt HTL.out I3.out hlp (fun b hb => HBT.out b hb hlp)) K4.out (fun b hb e => by omega)) P4.out
        case measure => simp [intOf]; omega
      · obtain rfl : ml = 0 := by omega
        have q2 : ¬ (0 : Int) < ((0 : Nat) : Int) := by omega
        go_wp2
        go_roundw
        case rel => exact ⟨i + 1, hm, hc, ha, H, by omega, by go_num, rfl, HLN.out, by omega, HO.out, HHP.out, by rw [HTK.out]; exact HHL.out.skip HML.out, HK.out⟩
        case measure => simp [intOf]; omega
    · obtain rfl : i = n := by omega
      have q1 : ¬ (i : Int) < (i : Int) := by omega
      go_wp2
      --@loop2
      have HHL0 : Hid (HL w.heap.size wr H Ls) := by have h9 := HHL.out; rw [← HN.out, List.take_length] at h9; exact h9
      go_loopw [3, 6] (fun hv ov wz => ∃ (hn hc om oc : Nat) (ha oa : Option Addr) (H : List Hd) (R : List (List Kv)) (out : List Kv), hv = .slice ha hn hc ∧ ov = .slice oa om oc ∧ H.length = hn ∧ out.length = om ∧ R.length = Ls.length ∧ hn ≤ 1073741824 ∧ om + (R.map List.length).sum ≤ tot ∧ wz.ownsRow w.heap.size 103 2 (.slice ha hn hc) hn (flH H) ∧ IsHeap ltH H ∧ HL w.heap.size wz H R ∧ MInv (Ls.map sortL) (R.map sortL) out ∧ wz.ownsRow w.heap.size 54 2 (.slice oa om oc) om (flat out) ∧ Same w wz) (fun hv ov wz => hsum hv wz)
      case atStart => exact ⟨hm, hc, 0, 0, ha, none, H, Ls, [], rfl, rfl, HLN.out, rfl, rfl, by omega, by rw [← HTT.out, List.length_flatten]; omega, HO.out, HHP.out, HHL0.out, MInv.init (fun l hl => by obtain ⟨x, _, rfl⟩ := List.mem_map.1 hl; exact sortL_srt x), World.ownsRow_nil _ _ _ _, HK.out⟩
      case round =>
        clear HO HHP HHL HLN HK HHL0 hsz hmi hi
        obtain ⟨hm, hc, om, oc, ha, oa, H, R, out, rfl, rfl, hHl, hol, hRl, hmb, hsu, hO, hHp, hHL, hMI, hOO, hK⟩ := hrel
        have HO := hidden hO
        have HHP := hidden hHp
        have HHL := hidden hHL
        have HLN := hidden hHl
        have HOL := hidden hol
        have HRL := hidden hRl
        have HSU := hidden hsu
        have HMI := hidden hMI
        have HOO := hidden hOO
        have HK := hidden hK
        have hsz := hK.size
        have hom : (om + 1) * 24 ≤ 140737488355328 := by have := HTOT.out; omega
        clear hO hHp hHL hHl hol hRl hMI hOO hK
        by_cases h1 : 0 < hm
        · obtain ⟨hb, rfl, hgb, hgc⟩ := own_at HO.out h1
          obtain ⟨h0, t, rfl⟩ : ∃ h0 t, H = h0 :: t := by
            cases H with
            | nil => have := HLN.out; simp at this; omega
            | cons a t => exact ⟨a, t, rfl⟩
          obtain ⟨hq, hp0, hS, hk0, hmin, hfst⟩ := HHL.out.min (fun x hx => by
            obtain ⟨j, hj, rfl⟩ := List.getElem_of_mem hx
            exact heap_min ordH HHP.out j hj)
          obtain ⟨hq', hp', hit, hkk, hbl⟩ := HHL.out.ls h0 (by simp)
          obtain ⟨p0, ep0⟩ : ∃ p, h0.p = p := ⟨_, rfl⟩
          obtain ⟨rl, hrl⟩ : ∃ rl, R[h0.p] = rl := ⟨_, rfl⟩
          simp only [hrl] at hp0 hS hk0 hit
          have hbhd := bhd_lt hp0
          have hsr := sum_set (l := bhd rl) hq
          rw [hrl] at hsr
          obtain ⟨⟨k, z⟩, hkz⟩ : ∃ e, rl[0] = e := ⟨_, rfl⟩
          rw [hkz] at hS hk0
          dsimp only at hk0
          rw [← hk0] at hmin hfst
          have HOLD : Hid (lk k out ≠ none → MInv (Ls.map sortL) ((R.set h0.p (bhd rl)).map sortL) out) := fun h => by rw [List.map_set]; exact HMI.out.old (by simpa using hq) hS h
          have HNEW : Hid ((∀ o ∈ out, ltS o.1 k = true) → MInv (Ls.map sortL) ((R.set h0.p (bhd rl)).map sortL) (out ++ [(k, z)])) := fun h => by rw [List.map_set]; exact HMI.out.new (by simpa using hq) hS h hmin hfst
          have HGE : Hid (∀ o ∈ out, ltS k o.1 = false) := fun o ho => HMI.out.ge o ho _ (List.getElem_mem (by simpa using hq)) (k, z) (by rw [hS]; simp)
          have HRP := hidden hrl
          have HIT := hidden hit
          have HBL := hidden hbl
          obtain ⟨a', c1, ev, hcc, hcb⟩ := id hit
          obtain ⟨b1, o1, rfl, hce⟩ := hcb hp0
          obtain ⟨y0, y1⟩ := hce 0 hp0
          rw [hkz] at y0 y1
          simp only [Nat.zero_mul, Nat.add_zero] at y0 y1
          obtain ⟨m1, hm1⟩ : ∃ m, rl.length = m := ⟨_, rfl⟩
          rw [hm1] at ev hbhd hsr
          have HM1 := hidden hm1
          have hpm : 0 < m1 := by rw [← hm1]; exact hp0
          have hsl := sum_set (l := []) hq
          rw [HRP.out, hm1] at hsl
          have hmx : m1 ≤ tot := by simp only [List.length_nil] at hsl; omega
          obtain ⟨h0v, h0k, h0p⟩ := h0
          dsimp only at ev hq hbhd hsr HOLD HNEW HRP HIT HBL
          subst ev
          obtain ⟨x0, x1, xf⟩ := hown_cell HO.out (i := 0) (by simp)
          simp only [Nat.zero_mul, Nat.zero_add, List.getElem_cons_zero] at x0 x1
          have hb1 := HBL.out b1 rfl
          have HBH : Hid (∀ W, Itc W (.slice (some ⟨b1, o1, none⟩) m1 c1) rl → Calls Try.prog 64 #[.slice (some ⟨b1, o1, none⟩) m1 c1] W fun e w' => ∃ u, e = .returned u ∧ Itc w' u (bhd rl) ∧ Same W w' ∧ (∀ b', u.ownBlock = some b' → (Value.slice (some ⟨b1, o1, none⟩) m1 c1).ownBlock = some b')) := fun W kk => behind_any kk (by rw [HM1.out]; have := HTOT.out; omega) (by rw [HM1.out]; exact hpm)
          obtain ⟨m5, hm5⟩ : ∃ m, (bhd rl).length = m := ⟨_, rfl⟩
          rw [hm5] at hbhd hsr
          have HM5 := hidden hm5
          have HLT : Hid (t.length + 1 = hm) := HLN.out
          have HSR := hidden hsr
          obtain ⟨w1, hw1⟩ : ∃ W, W = wr.alloc (.cells #[.string k, .int .i64 z] 54) := ⟨_, rfl⟩
          have k1 : Same wr w1 := by rw [hw1]; exact same_alloc _ _
          have g1 := heap_alloc_new wr (.cells #[.string k, .int .i64 z] 54)
          rw [← hw1] at g1
          have d0 : w1.cell? ⟨wr.heap.size, 0, none⟩ = some (.string k) := blk_cell g1
          have d1 : w1.cell? ⟨wr.heap.size, 1, none⟩ = some (.int .i64 z) := blk_cell g1
          have K1 := hidden k1
          have q1 : (0 : Int) < (hm : Int) := by omega
          have q2 : (0 : Int) < (m1 : Int) := by omega
          clear HRP g1 k1 hm5 hm1 hkz hit hcb hce hcc hS hk0 hmin hfst hp0 hq' hp' hkk hrl hbl hsr hsl
          by_cases h4 : om = 0
          · subst h4
            have q4 : decide (((0 : Nat) : Int) = 0) = true := by simp
            by_cases h3 : 0 < m5
            · have q3 : (0 : Int) < (m5 : Int) := by omega
              have h3b : 0 < (bhd rl).length := by rw [HM5.out]; exact h3
              obtain ⟨kx, hkx⟩ : ∃ e, (bhd rl)[0].1 = e := ⟨_, rfl⟩
              have HKX := hidden hkx
              clear hkx
              go_wp2
              rw [← hw1]
              clear hw1
              go_quiet (fail)
              obtain ⟨w9, hw9, hk9⟩ : ∃ W, W = w1.drewN nq ∧ Same w1 W := ⟨_, rfl, (Kept.refl _ w1).drewN nq⟩
              rw [← hw9]
              clear hw9
              have e0 : w9.cell? ⟨wr.heap.size, 0, none⟩ = some (.string k) := Kept.cell hk9 (fun h => h) d0
              have e1 : w9.cell? ⟨wr.heap.size, 1, none⟩ = some (.int .i64 z) := Kept.cell hk9 (fun h => h) d1
              have k9 := K1.out.trans hk9
              have O9 := hidden (own_kept HO.out k9 (fun _ _ h => h))
              have OO9 := hidden (own_kept HOO.out k9 (fun _ _ h => h))
              have L9 := hidden (HHL.out.kept k9 (fun _ _ h => h))
              have I9 := hidden (HIT.out.same k9)
              have HK9 := hidden (HK.out.trans k9)
              have e2 : w9.cell? ⟨hb, 0, none⟩ = some (.slice (some ⟨b1, o1, none⟩) m1 c1) := Kept.cell k9 (fun h => h) x0
              have hs9 := k9.size
              clear hk9 k9 d0 d1
              have HB2 := hidden (heap_alloc_new w9 (.cells #[.string k, .int .i64 z] 54))
              have hsq : (w9.alloc (.cells #[.string k, .int .i64 z] 54)).heap.size = w9.heap.size + 1 := alloc_size1 _ _
              go_wp2_with (first
                | (at_builtin; go_must (refine wpList_append_any (by rfl) _ _ 58 (by rfl) w.heap.size 54 i1 _ 2 24 Try.underlying58 hi1 hy0 hy1 hy2 rfl (by decide) _ _ _ _ (by rfl) (OO9.out.alloc _) (some ⟨w9.heap.size, 0, none⟩) 1 1 (flat [(k, z)]) (by rfl) (by rfl) (lies_of (World.news_of_block HB2.out)) (flat_one _) (by unfold maxLen; omega) (by omega) (by rw [hsq]; omega) ?_; intro a3 c3 w3 hown hgrow; have kk3 := (((Kept.refl (fun x => (Value.slice oa 0 oc).ownBlock = some x) w9).alloc _).grown hgrow (fun q hq _ => hq)); have ks3 := (((Kept.refl (fun x => w.heap.size ≤ x) w9).alloc _).grown hgrow (fun q hq _ => (OO9.out.lt q hq).1)); have R3 := hidden (same_grown (m := 0) (HK9.out.alloc _) (OO9.out.alloc _) hgrow); have L3 := hidden (L9.out.kept ks3 (fun b hb h => by omega)); have I3 := hidden (I9.out.kept ks3 (fun b hb h => by simp [Value.ownBlock] at hb; omega)); have O3 := hidden (own_kept O9.out kk3 (fun b hb hs => by simp [Value.ownBlock] at hb; subst hb; exact own_two O9.out OO9.out (by decide) _ hs rfl)); obtain ⟨x3, -, -⟩ := hown_cell O3.out (i := 0) (by simp); simp only [Nat.zero_mul, List.getElem_cons_zero] at x3; rw [← flat_app] at hown; have OO3 := hidden hown; clear hown hgrow kk3 ks3))
                | (go_at_call 64; go_must (refine (HBH.out _ I3.out).mono ?_; rintro e w5 ⟨u5, rfl, i5, k5, o5⟩; have I5 := hidden i5; have O5 := hidden (own_kept O3.out k5 (fun _ _ h => h)); have OO5 := hidden (own_kept OO3.out k5 (fun _ _ h => h)); have L5 := hidden (L3.out.kept k5 (fun _ _ h => h)); have R5 := hidden (R3.out.trans k5); have B5 : Hid (∀ b, u5.ownBlock = some b → b < w.heap.size) := fun b hb => (by have h9 := o5 b hb; simp [Value.ownBlock] at h9; omega); obtain ⟨ra5, rc5, e5, -, -⟩ := id i5; rw [HM5.out] at e5; subst e5; obtain ⟨x5, -, f5⟩ := hown_cell O5.out (i := 0) (by simp); simp only [Nat.zero_mul, List.getElem_cons_zero] at x5; have O6 := hidden (hown_first O5.out (.slice ra5 m5 rc5) kx); obtain ⟨z6, -, -⟩ := hown_cell O6.out (i := 0) (by simp); simp only [Nat.zero_mul, List.getElem_cons_zero] at z6; clear i5 k5 o5))
                | (go_at_call 65; go_must (have L6 : Hid (HL w.heap.size _ (⟨.slice ra5 m5 rc5, kx, h0p⟩ :: t) (R.set h0p (bhd rl))) := (by have h9 := (L5.out.next I5.out (by rw [HM5.out]; exact h3) B5.out); rw [HKX.out] at h9; exact h9 : HL w.heap.size w5 (⟨.slice ra5 m5 rc5, kx, h0p⟩ :: t) (R.set h0p (bhd rl))).kept ((Kept.refl (fun x => w.heap.size ≤ x) w5).setCell (p := ⟨hb, 0, none⟩) hgb (.slice ra5 m5 rc5)) (fun b hb h => by omega); refine (sink_H hb hc hm (⟨.slice ra5 m5 rc5, kx, h0p⟩ :: t) _ HLT.out hmb (own_base O6.out) (L6.out.ok hgb (by rw [List.length_set, HRL.out, HN.out]; exact hn)) (down_first HHP.out _)).mono ?_; rintro e w7 ⟨rfl, H7, hp7, hh7, hr7, hk7⟩; have P7 := hidden hp7; have HH7 := hidden hh7; have O7 := hidden hr7; have K7 := hidden hk7; clear hp7 hh7 hr7 hk7)))
              go_roundw
              case rel =>
                refine ⟨hm, hc, 0 + 1, c3, _, a3, H7, R.set h0p (bhd rl), out ++ [(k, z)], rfl, rfl, by rw [P7.out.length_eq]; exact HLT.out, by rw [List.length_append, HOL.out]; rfl, by rw [List.length_set]; exact HRL.out, by omega, by have h8 := HSR.out; have h9 := HSU.out; omega, own_rebase O7.out hgb, HH7.out, HL.perm (HL.kept L6.out K7.out (fun b hb e => by omega)) P7.out, HNEW.out (fun o ho => by rw [List.length_eq_zero_iff.1 HOL.out] at ho; simp at ho), ?_, ?_⟩
                · exact own_kept (own_kept OO5.out ((Kept.refl (fun k => k = hb) w5).setCell (p := ⟨hb, 0, none⟩) rfl _) (own_two O5.out OO5.out (by decide))) K7.out (own_two O5.out OO5.out (by decide))
                · exact Kept.trans' (Kept.trans' R5.out ((Kept.refl (fun k => k = hb) w5).setCell (p := ⟨hb, 0, none⟩) rfl _) (fun k hk e => by omega)) K7.out (fun k hk e => by omega)
              case measure =>
                rw [hsum_own O7.out (by rw [P7.out.length_eq]; exact HLT.out), hsum_own HO.out HLN.out, (P7.out.map _).sum_nat]
                simp [slen]
                omega
            · obtain rfl : m5 = 0 := by omega
              have q3 : ¬ (0 : Int) < ((0 : Nat) : Int) := by omega
              have HV : Hid (∀ v, (∃ a m c, v = Value.slice a m c) → ∀ x ∈ (⟨v, k, h0p⟩ :: t : List Hd), ∃ a m c, x.v = Value.slice a m c) := fun v hv x hx => by
                rcases List.mem_cons.1 hx with rfl | hx
                · exact hv
                · obtain ⟨_, _, hi9, _⟩ := HHL.out.ls x (by simp [hx])
                  obtain ⟨a9, c9, e9, _⟩ := hi9
                  exact ⟨a9, _, c9, e9⟩
              go_wp2
              rw [← hw1]
              clear hw1
              go_quiet (fail)
              obtain ⟨w9, hw9, hk9⟩ : ∃ W, W = w1.drewN nq ∧ Same w1 W := ⟨_, rfl, (Kept.refl _ w1).drewN nq⟩
              rw [← hw9]
              clear hw9
              have e0 : w9.cell? ⟨wr.heap.size, 0, none⟩ = some (.string k) := Kept.cell hk9 (fun h => h) d0
              have e1 : w9.cell? ⟨wr.heap.size, 1, none⟩ = some (.int .i64 z) := Kept.cell hk9 (fun h => h) d1
              have k9 := K1.out.trans hk9
              have O9 := hidden (own_kept HO.out k9 (fun _ _ h => h))
              have OO9 := hidden (own_kept HOO.out k9 (fun _ _ h => h))
              have L9 := hidden (HHL.out.kept k9 (fun _ _ h => h))
              have I9 := hidden (HIT.out.same k9)
              have HK9 := hidden (HK.out.trans k9)
              have e2 : w9.cell? ⟨hb, 0, none⟩ = some (.slice (some ⟨b1, o1, none⟩) m1 c1) := Kept.cell k9 (fun h => h) x0
              have hs9 := k9.size
              clear hk9 k9 d0 d1
              have HB2 := hidden (heap_alloc_new w9 (.cells #[.string k, .int .i64 z] 54))
              have hsq : (w9.alloc (.cells #[.string k, .int .i64 z] 54)).heap.size = w9.heap.size + 1 := alloc_size1 _ _
              go_wp2_with (first
                | (at_builtin; go_must (refine wpList_append_any (by rfl) _ _ 58 (by rfl) w.heap.size 54 i1 _ 2 24 Try.underlying58 hi1 hy0 hy1 hy2 rfl (by decide) _ _ _ _ (by rfl) (OO9.out.alloc _) (some ⟨w9.heap.size, 0, none⟩) 1 1 (flat [(k, z)]) (by rfl) (by rfl) (lies_of (World.news_of_block HB2.out)) (flat_one _) (by unfold maxLen; omega) (by omega) (by rw [hsq]; omega) ?_; intro a3 c3 w3 hown hgrow; have kk3 := (((Kept.refl (fun x => (Value.slice oa 0 oc).ownBlock = some x) w9).alloc _).grown hgrow (fun q hq _ => hq)); have ks3 := (((Kept.refl (fun x => w.heap.size ≤ x) w9).alloc _).grown hgrow (fun q hq _ => (OO9.out.lt q hq).1)); have R3 := hidden (same_grown (m := 0) (HK9.out.alloc _) (OO9.out.alloc _) hgrow); have L3 := hidden (L9.out.kept ks3 (fun b hb h => by omega)); have I3 := hidden (I9.out.kept ks3 (fun b hb h => by simp [Value.ownBlock] at hb; omega)); have O3 := hidden (own_kept O9.out kk3 (fun b hb hs => by simp [Value.ownBlock] at hb; subst hb; exact own_two O9.out OO9.out (by decide) _ hs rfl)); obtain ⟨x3, -, -⟩ := hown_cell O3.out (i := 0) (by simp); simp only [Nat.zero_mul, List.getElem_cons_zero] at x3; rw [← flat_app] at hown; have OO3 := hidden hown; clear hown hgrow kk3 ks3))
                | (go_at_call 64; go_must (refine (HBH.out _ I3.out).mono ?_; rintro e w5 ⟨u5, rfl, i5, k5, o5⟩; have I5 := hidden i5; have O5 := hidden (own_kept O3.out k5 (fun _ _ h => h)); have OO5 := hidden (own_kept OO3.out k5 (fun _ _ h => h)); have L5 := hidden (L3.out.kept k5 (fun _ _ h => h)); have R5 := hidden (R3.out.trans k5); have B5 : Hid (∀ b, u5.ownBlock = some b → b < w.heap.size) := fun b hb => (by have h9 := o5 b hb; simp [Value.ownBlock] at h9; omega); obtain ⟨ra5, rc5, e5, -, -⟩ := id i5; rw [HM5.out] at e5; subst e5; obtain ⟨x5, -, f5⟩ := hown_cell O5.out (i := 0) (by simp); simp only [Nat.zero_mul, List.getElem_cons_zero] at x5; have O6 := hidden (hown_first O5.out (.slice ra5 0 rc5) k); obtain ⟨z6, -, -⟩ := hown_cell O6.out (i := 0) (by simp); simp only [Nat.zero_mul, List.getElem_cons_zero] at z6; clear i5 k5 o5))
                | (go_at_call 66; go_must (have L6 := hidden ((L5.out.gone (l := bhd rl) HM5.out).kept ((Kept.refl (fun x => w.heap.size ≤ x) w5).setCell (p := ⟨hb, 0, none⟩) hgb (.slice ra5 0 rc5)) (fun b hb h => by omega)); have PD : Hid (t.Perm (dropL (⟨.slice ra5 0 rc5, k, h0p⟩ :: t) (by simp))) := (dropL_perm (⟨.slice ra5 0 rc5, k, h0p⟩ :: t) (by simp)).cons_inv; refine (drop_H hb hc hm (⟨.slice ra5 0 rc5, k, h0p⟩ :: t) _ HLT.out (by simp) hmb hgc (own_base O6.out) (fun x hx => HV.out _ ⟨_, _, _, rfl⟩ x hx) (fun x hx => L6.out.ok hgb (by rw [List.length_set, HRL.out, HN.out]; exact hn) x (PD.out.mem_iff.2 hx)) (down_drop HHP.out _)).mono ?_; rintro e w7 ⟨rfl, H7, hp7, hh7, hr7, hk7⟩; have P7 := hidden (hp7.trans PD.out.symm); have HH7 := hidden hh7; have O7 := hidden hr7; have K7 := hidden hk7; clear hp7 hh7 hr7 hk7)))
              go_roundw
              case rel =>
                refine ⟨hm - 1, hc, 0 + 1, c3, _, a3, H7, R.set h0p (bhd rl), out ++ [(k, z)], rfl, rfl, by rw [P7.out.length_eq]; have h9 := HLT.out; omega, by rw [List.length_append, HOL.out]; rfl, by rw [List.length_set]; exact HRL.out, by omega, by have h8 := HSR.out; have h9 := HSU.out; omega, own_rebase O7.out hgb, HH7.out, HL.perm (HL.kept L6.out K7.out (fun b hb e => by omega)) P7.out, HNEW.out (fun o ho => by rw [List.length_eq_zero_iff.1 HOL.out] at ho; simp at ho), ?_, ?_⟩
                · exact own_kept (own_kept OO5.out ((Kept.refl (fun k => k = hb) w5).setCell (p := ⟨hb, 0, none⟩) rfl _) (own_two O5.out OO5.out (by decide))) K7.out (own_two O5.out OO5.out (by decide))
                · exact Kept.trans' (Kept.trans' R5.out ((Kept.refl (fun k => k = hb) w5).setCell (p := ⟨hb, 0, none⟩) rfl _) (fun k hk e => by omega)) K7.out (fun k hk e => by omega)
              case measure =>
                rw [hsum_own O7.out (by rw [P7.out.length_eq]; have h9 := HLT.out; omega), hsum_own HO.out HLN.out, (P7.out.map _).sum_nat]
                simp [slen]
                omega
          · obtain ⟨m, hm9⟩ : ∃ m, om = m + 1 := ⟨om - 1, by omega⟩
            have hmi : (om : Int) - 1 = (m : Int) := by omega
            have hoi : m < out.length := by rw [HOL.out]; omega
            have HOM : Hid (out.length = m + 1) := by rw [Hid, HOL.out]; exact hm9
            obtain ⟨ob, rfl, hob, hocap⟩ := own_at HOO.out (by omega)
            have l0 := (HOO.out.cells (g := ob) rfl _ _ (flat_at out m hoi).1)
            rw [add_none, Nat.zero_add] at l0
            have l0 := Kept.cell K1.out (fun h => h) l0
            obtain ⟨kl, hkl⟩ : ∃ e, out[m].1 = e := ⟨_, rfl⟩
            rw [hkl] at l0
            have q4 : ¬ (om : Int) = 0 := by omega
            have q5 : decide ((om : Int) = 0) = false := by simpa using q4
            have q6 : ((om : Int) == 0) = false := by simpa using q4
            have q7 : (m : Int) < (om : Int) := by omega
            have q8 : (0 : Int) ≤ (m : Int) := Int.natCast_nonneg _
            have HLS := hidden (fun W => less_str kl k W)
            have hlt9 := hidden (show ltS out[m].1 k = ltS kl k by rw [hkl])
            generalize hbo : ltS kl k = bo at HLS hlt9
            clear hkl hbo hm9
            cases bo
            · by_cases h3 : 0 < m5
              · have q3 : (0 : Int) < (m5 : Int) := by omega
                have h3b : 0 < (bhd rl).length := by rw [HM5.out]; exact h3
                obtain ⟨kx, hkx⟩ : ∃ e, (bhd rl)[0].1 = e := ⟨_, rfl⟩
                have HKX := hidden hkx
                clear hkx
                go_wp2
                rw [← hw1]
                clear hw1
                go_quiet ((go_at_call 46; exact Calls.quiet_of_same ((HLS.out _).mono fun _ _ ⟨a, b⟩ => ⟨a, b.symm⟩)))
                obtain ⟨w9, hw9, hk9⟩ : ∃ W, W = w1.drewN nq ∧ Same w1 W := ⟨_, rfl, (Kept.refl _ w1).drewN nq⟩
                rw [← hw9]
                clear hw9
                have e0 : w9.cell? ⟨wr.heap.size, 0, none⟩ = some (.string k) := Kept.cell hk9 (fun h => h) d0
                have e1 : w9.cell? ⟨wr.heap.size, 1, none⟩ = some (.int .i64 z) := Kept.cell hk9 (fun h => h) d1
                have k9 := K1.out.trans hk9
                have O9 := hidden (own_kept HO.out k9 (fun _ _ h => h))
                have OO9 := hidden (own_kept HOO.out k9 (fun _ _ h => h))
                have L9 := hidden (HHL.out.kept k9 (fun _ _ h => h))
                have I9 := hidden (HIT.out.same k9)
                have HK9 := hidden (HK.out.trans k9)
                have e2 : w9.cell? ⟨hb, 0, none⟩ = some (.slice (some ⟨b1, o1, none⟩) m1 c1) := Kept.cell k9 (fun h => h) x0
                have hs9 := k9.size
                clear hk9 k9 d0 d1 l0
                go_wp2_with (first
                  | (go_at_call 64; go_must (refine (HBH.out _ I9.out).mono ?_; rintro e w5 ⟨u5, rfl, i5, k5, o5⟩; have I5 := hidden i5; have O5 := hidden (own_kept O9.out k5 (fun _ _ h => h)); have OO5 := hidden (own_kept OO9.out k5 (fun _ _ h => h)); have L5 := hidden (L9.out.kept k5 (fun _ _ h => h)); have R5 := hidden (HK9.out.trans k5); have B5 : Hid (∀ b, u5.ownBlock = some b → b < w.heap.size) := fun b hb => (by have h9 := o5 b hb; simp [Value.ownBlock] at h9; omega); obtain ⟨ra5, rc5, e5, -, -⟩ := id i5; rw [HM5.out] at e5; subst e5; obtain ⟨x5, -, f5⟩ := hown_cell O5.out (i := 0) (by simp); simp only [Nat.zero_mul, List.getElem_cons_zero] at x5; have O6 := hidden (hown_first O5.out (.slice ra5 m5 rc5) kx); obtain ⟨z6, -, -⟩ := hown_cell O6.out (i := 0) (by simp); simp only [Nat.zero_mul, List.getElem_cons_zero] at z6; clear i5 k5 o5))
                  | (go_at_call 65; go_must (have L6 : Hid (HL w.heap.size _ (⟨.slice ra5 m5 rc5, kx, h0p⟩ :: t) (R.set h0p (bhd rl))) := (by have h9 := (L5.out.next I5.out (by rw [HM5.out]; exact h3) B5.out); rw [HKX.out] at h9; exact h9 : HL w.heap.size w5 (⟨.slice ra5 m5 rc5, kx, h0p⟩ :: t) (R.set h0p (bhd rl))).kept ((Kept.refl (fun x => w.heap.size ≤ x) w5).setCell (p := ⟨hb, 0, none⟩) hgb (.slice ra5 m5 rc5)) (fun b hb h => by omega); refine (sink_H hb hc hm (⟨.slice ra5 m5 rc5, kx, h0p⟩ :: t) _ HLT.out hmb (own_base O6.out) (L6.out.ok hgb (by rw [List.length_set, HRL.out, HN.out]; exact hn)) (down_first HHP.out _)).mono ?_; rintro e w7 ⟨rfl, H7, hp7, hh7, hr7, hk7⟩; have P7 := hidden hp7; have HH7 := hidden hh7; have O7 := hidden hr7; have K7 := hidden hk7; clear hp7 hh7 hr7 hk7)))
                go_roundw
                case rel =>
                  refine ⟨hm, hc, om, oc, _, _, H7, R.set h0p (bhd rl), out, rfl, rfl, by rw [P7.out.length_eq]; exact HLT.out, HOL.out, by rw [List.length_set]; exact HRL.out, by omega, by have h8 := HSR.out; have h9 := HSU.out; omega, own_rebase O7.out hgb, HH7.out, HL.perm (HL.kept L6.out K7.out (fun b hb e => by omega)) P7.out, HOLD.out (last_eq HOM.out hlt9.out (HGE.out _ (List.getElem_mem _))), ?_, ?_⟩
                  · exact own_kept (own_kept OO5.out ((Kept.refl (fun k => k = hb) w5).setCell (p := ⟨hb, 0, none⟩) rfl _) (own_two O5.out OO5.out (by decide))) K7.out (own_two O5.out OO5.out (by decide))
                  · exact Kept.trans' (Kept.trans' R5.out ((Kept.refl (fun k => k = hb) w5).setCell (p := ⟨hb, 0, none⟩) rfl _) (fun k hk e => by omega)) K7.out (fun k hk e => by omega)
                case measure =>
                  rw [hsum_own O7.out (by rw [P7.out.length_eq]; exact HLT.out), hsum_own HO.out HLN.out, (P7.out.map _).sum_nat]
                  simp [slen]
                  omega
              · obtain rfl : m5 = 0 := by omega
                have q3 : ¬ (0 : Int) < ((0 : Nat) : Int) := by omega
                have HV : Hid (∀ v, (∃ a m c, v = Value.slice a m c) → ∀ x ∈ (⟨v, k, h0p⟩ :: t : List Hd), ∃ a m c, x.v = Value.slice a m c) := fun v hv x hx => by
                  rcases List.mem_cons.1 hx with rfl | hx
                  · exact hv
                  · obtain ⟨_, _, hi9, _⟩ := HHL.out.ls x (by simp [hx])
                    obtain ⟨a9, c9, e9, _⟩ := hi9
                    exact ⟨a9, _, c9, e9⟩
                go_wp2
                rw [← hw1]
                clear hw1
                go_quiet ((go_at_call 46; exact Calls.quiet_of_same ((HLS.out _).mono fun _ _ ⟨a, b⟩ => ⟨a, b.symm⟩)))
                obtain ⟨w9, hw9, hk9⟩ : ∃ W, W = w1.drewN nq ∧ Same w1 W := ⟨_, rfl, (Kept.refl _ w1).drewN nq⟩
                rw [← hw9]
                clear hw9
                have e0 : w9.cell? ⟨wr.heap.size, 0, none⟩ = some (.string k) := Kept.cell hk9 (fun h => h) d0
                have e1 : w9.cell? ⟨wr.heap.size, 1, none⟩ = some (.int .i64 z) := Kept.cell hk9 (fun h => h) d1
                have k9 := K1.out.trans hk9
                have O9 := hidden (own_kept HO.out k9 (fun _ _ h => h))
                have OO9 := hidden (own_kept HOO.out k9 (fun _ _ h => h))
                have L9 := hidden (HHL.out.kept k9 (fun _ _ h => h))
                have I9 := hidden (HIT.out.same k9)
                have HK9 := hidden (HK.out.trans k9)
                have e2 : w9.cell? ⟨hb, 0, none⟩ = some (.slice (some ⟨b1, o1, none⟩) m1 c1) := Kept.cell k9 (fun h => h) x0
                have hs9 := k9.size
                clear hk9 k9 d0 d1 l0
                go_wp2_with (first
                  | (go_at_call 64; go_must (refine (HBH.out _ I9.out).mono ?_; rintro e w5 ⟨u5, rfl, i5, k5, o5⟩; have I5 := hidden i5; have O5 := hidden (own_kept O9.out k5 (fun _ _ h => h)); have OO5 := hidden (own_kept OO9.out k5 (fun _ _ h => h)); have L5 := hidden (L9.out.kept k5 (fun _ _ h => h)); have R5 := hidden (HK9.out.trans k5); have B5 : Hid (∀ b, u5.ownBlock = some b → b < w.heap.size) := fun b hb => (by have h9 := o5 b hb; simp [Value.ownBlock] at h9; omega); obtain ⟨ra5, rc5, e5, -, -⟩ := id i5; rw [HM5.out] at e5; subst e5; obtain ⟨x5, -, f5⟩ := hown_cell O5.out (i := 0) (by simp); simp only [Nat.zero_mul, List.getElem_cons_zero] at x5; have O6 := hidden (hown_first O5.out (.slice ra5 0 rc5) k); obtain ⟨z6, -, -⟩ := hown_cell O6.out (i := 0) (by simp); simp only [Nat.zero_mul, List.getElem_cons_zero] at z6; clear i5 k5 o5))
                  | (go_at_call 66; go_must (have L6 := hidden ((L5.out.gone (l := bhd rl) HM5.out).kept ((Kept.refl (fun x => w.heap.size ≤ x) w5).setCell (p := ⟨hb, 0, none⟩) hgb (.slice ra5 0 rc5)) (fun b hb h => by omega)); have PD : Hid (t.Perm (dropL (⟨.slice ra5 0 rc5, k, h0p⟩ :: t) (by simp))) := (dropL_perm (⟨.slice ra5 0 rc5, k, h0p⟩ :: t) (by simp)).cons_inv; refine (drop_H hb hc hm (⟨.slice ra5 0 rc5, k, h0p⟩ :: t) _ HLT.out (by simp) hmb hgc (own_base O6.out) (fun x hx => HV.out _ ⟨_, _, _, rfl⟩ x hx) (fun x hx => L6.out.ok hgb (by rw [List.length_set, HRL.out, HN.out]; exact hn) x (PD.out.mem_iff.2 hx)) (down_drop HHP.out _)).mono ?_; rintro e w7 ⟨rfl, H7, hp7, hh7, hr7, hk7⟩; have P7 := hidden (hp7.trans PD.out.symm); have HH7 := hidden hh7; have O7 := hidden hr7; have K7 := hidden hk7; clear hp7 hh7 hr7 hk7)))
                go_roundw
                case rel =>
                  refine ⟨hm - 1, hc, om, oc, _, _, H7, R.set h0p (bhd rl), out, rfl, rfl, by rw [P7.out.length_eq]; have h9 := HLT.out; omega, HOL.out, by rw [List.length_set]; exact HRL.out, by omega, by have h8 := HSR.out; have h9 := HSU.out; omega, own_rebase O7.out hgb, HH7.out, HL.perm (HL.kept L6.out K7.out (fun b hb e => by omega)) P7.out, HOLD.out (last_eq HOM.out hlt9.out (HGE.out _ (List.getElem_mem _))), ?_, ?_⟩
                  · exact own_kept (own_kept OO5.out ((Kept.refl (fun k => k = hb) w5).setCell (p := ⟨hb, 0, none⟩) rfl _) (own_two O5.out OO5.out (by decide))) K7.out (own_two O5.out OO5.out (by decide))
                  · exact Kept.trans' (Kept.trans' R5.out ((Kept.refl (fun k => k = hb) w5).setCell (p := ⟨hb, 0, none⟩) rfl _) (fun k hk e => by omega)) K7.out (fun k hk e => by omega)
                case measure =>
                  rw [hsum_own O7.out (by rw [P7.out.length_eq]; have h9 := HLT.out; omega), hsum_own HO.out HLN.out, (P7.out.map _).sum_nat]
                  simp [slen]
                  omega
            · by_cases h3 : 0 < m5
              · have q3 : (0 : Int) < (m5 : Int) := by omega
                have h3b : 0 < (bhd rl).length := by rw [HM5.out]; exact h3
                obtain ⟨kx, hkx⟩ : ∃ e, (bhd rl)[0].1 = e := ⟨_, rfl⟩
                have HKX := hidden hkx
                clear hkx
                go_wp2
                rw [← hw1]
                clear hw1
                go_quiet ((go_at_call 46; exact Calls.quiet_of_same ((HLS.out _).mono fun _ _ ⟨a, b⟩ => ⟨a, b.symm⟩)))
                obtain ⟨w9, hw9, hk9⟩ : ∃ W, W = w1.drewN nq ∧ Same w1 W := ⟨_, rfl, (Kept.refl _ w1).drewN nq⟩
                rw [← hw9]
                clear hw9
                have e0 : w9.cell? ⟨wr.heap.size, 0, none⟩ = some (.string k) := Kept.cell hk9 (fun h => h) d0
                have e1 : w9.cell? ⟨wr.heap.size, 1, none⟩ = some (.int .i64 z) := Kept.cell hk9 (fun h => h) d1
                have k9 := K1.out.trans hk9
                have O9 := hidden (own_kept HO.out k9 (fun _ _ h => h))
                have OO9 := hidden (own_kept HOO.out k9 (fun _ _ h => h))
                have L9 := hidden (HHL.out.kept k9 (fun _ _ h => h))
                have I9 := hidden (HIT.out.same k9)
                have HK9 := hidden (HK.out.trans k9)
                have e2 : w9.cell? ⟨hb, 0, none⟩ = some (.slice (some ⟨b1, o1, none⟩) m1 c1) := Kept.cell k9 (fun h => h) x0
                have hs9 := k9.size
                clear hk9 k9 d0 d1 l0
                have HB2 := hidden (heap_alloc_new w9 (.cells #[.string k, .int .i64 z] 54))
                have hsq : (w9.alloc (.cells #[.string k, .int .i64 z] 54)).heap.size = w9.heap.size + 1 := alloc_size1 _ _
                go_wp2_with (first
                  | (at_builtin; go_must (refine wpList_append_any (by rfl) _ _ 58 (by rfl) w.heap.size 54 i1 _ 2 24 Try.underlying58 hi1 hy0 hy1 hy2 rfl (by decide) _ _ _ _ (by rfl) (OO9.out.alloc _) (some ⟨w9.heap.size, 0, none⟩) 1 1 (flat [(k, z)]) (by rfl) (by rfl) (lies_of (World.news_of_block HB2.out)) (flat_one _) (by unfold maxLen; omega) (by omega) (by rw [hsq]; omega) ?_; intro a3 c3 w3 hown hgrow; have kk3 := (((Kept.refl (fun x => (Value.slice (some ⟨ob, 0, none⟩) om oc).ownBlock = some x) w9).alloc _).grown hgrow (fun q hq _ => hq)); have ks3 := (((Kept.refl (fun x => w.heap.size ≤ x) w9).alloc _).grown hgrow (fun q hq _ => (OO9.out.lt q hq).1)); have R3 := hidden (same_grown (m := 0) (HK9.out.alloc _) (OO9.out.alloc _) hgrow); have L3 := hidden (L9.out.kept ks3 (fun b hb h => by omega)); have I3 := hidden (I9.out.kept ks3 (fun b hb h => by simp [Value.ownBlock] at hb; omega)); have O3 := hidden (own_kept O9.out kk3 (fun b hb hs => by simp [Value.ownBlock] at hb; subst hb; exact own_two O9.out OO9.out (by decide) _ hs rfl)); obtain ⟨x3, -, -⟩ := hown_cell O3.out (i := 0) (by simp); simp only [Nat.zero_mul, List.getElem_cons_zero] at x3; rw [← flat_app] at hown; have OO3 := hidden hown; clear hown hgrow kk3 ks3))
                  | (go_at_call 64; go_must (refine (HBH.out _ I3.out).mono ?_; rintro e w5 ⟨u5, rfl, i5, k5, o5⟩; have I5 := hidden i5; have O5 := hidden (own_kept O3.out k5 (fun _ _ h => h)); have OO5 := hidden (own_kept OO3.out k5 (fun _ _ h => h)); have L5 := hidden (L3.out.kept k5 (fun _ _ h => h)); have R5 := hidden (R3.out.trans k5); have B5 : Hid (∀ b, u5.ownBlock = some b → b < w.heap.size) := fun b hb => (by have h9 := o5 b hb; simp [Value.ownBlock] at h9; omega); obtain ⟨ra5, rc5, e5, -, -⟩ := id i5; rw [HM5.out] at e5; subst e5; obtain ⟨x5, -, f5⟩ := hown_cell O5.out (i := 0) (by simp); simp only [Nat.zero_mul, List.getElem_cons_zero] at x5; have O6 := hidden (hown_first O5.out (.slice ra5 m5 rc5) kx); obtain ⟨z6, -, -⟩ := hown_cell O6.out (i := 0) (by simp); simp only [Nat.zero_mul, List.getElem_cons_zero] at z6; clear i5 k5 o5))
                  | (go_at_call 65; go_must (have L6 : Hid (HL w.heap.size _ (⟨.slice ra5 m5 rc5, kx, h0p⟩ :: t) (R.set h0p (bhd rl))) := (by have h9 := (L5.out.next I5.out (by rw [HM5.out]; exact h3) B5.out); rw [HKX.out] at h9; exact h9 : HL w.heap.size w5 (⟨.slice ra5 m5 rc5, kx, h0p⟩ :: t) (R.set h0p (bhd rl))).kept ((Kept.refl (fun x => w.heap.size ≤ x) w5).setCell (p := ⟨hb, 0, none⟩) hgb (.slice ra5 m5 rc5)) (fun b hb h => by omega); refine (sink_H hb hc hm (⟨.slice ra5 m5 rc5, kx, h0p⟩ :: t) _ HLT.out hmb (own_base O6.out) (L6.out.ok hgb (by rw [List.length_set, HRL.out, HN.out]; exact hn)) (down_first HHP.out _)).mono ?_; rintro e w7 ⟨rfl, H7, hp7, hh7, hr7, hk7⟩; have P7 := hidden hp7; have HH7 := hidden hh7; have O7 := hidden hr7; have K7 := hidden hk7; clear hp7 hh7 hr7 hk7)))
                go_roundw
                case rel =>
                  refine ⟨hm, hc, om + 1, c3, _, a3, H7, R.set h0p (bhd rl), out ++ [(k, z)], rfl, rfl, by rw [P7.out.length_eq]; exact HLT.out, by rw [List.length_append, HOL.out]; rfl, by rw [List.length_set]; exact HRL.out, by omega, by have h8 := HSR.out; have h9 := HSU.out; omega, own_rebase O7.out hgb, HH7.out, HL.perm (HL.kept L6.out K7.out (fun b hb e => by omega)) P7.out, HNEW.out (last_lt HMI.out.srt HOM.out hlt9.out), ?_, ?_⟩
                  · exact own_kept (own_kept OO5.out ((Kept.refl (fun k => k = hb) w5).setCell (p := ⟨hb, 0, none⟩) rfl _) (own_two O5.out OO5.out (by decide))) K7.out (own_two O5.out OO5.out (by decide))
                  · exact Kept.trans' (Kept.trans' R5.out ((Kept.refl (fun k => k = hb) w5).setCell (p := ⟨hb, 0, none⟩) rfl _) (fun k hk e => by omega)) K7.out (fun k hk e => by omega)
                case measure =>
                  rw [hsum_own O7.out (by rw [P7.out.length_eq]; exact HLT.out), hsum_own HO.out HLN.out, (P7.out.map _).sum_nat]
                  simp [slen]
                  omega
              · obtain rfl : m5 = 0 := by omega
                have q3 : ¬ (0 : Int) < ((0 : Nat) : Int) := by omega
                have HV : Hid (∀ v, (∃ a m c, v = Value.slice a m c) → ∀ x ∈ (⟨v, k, h0p⟩ :: t : List Hd), ∃ a m c, x.v = Value.slice a m c) := fun v hv x hx => by
                  rcases List.mem_cons.1 hx with rfl | hx
                  · exact hv
                  · obtain ⟨_, _, hi9, _⟩ := HHL.out.ls x (by simp [hx])
                    obtain ⟨a9, c9, e9, _⟩ := hi9
                    exact ⟨a9, _, c9, e9⟩
                go_wp2
                rw [← hw1]
                clear hw1
                go_quiet ((go_at_call 46; exact Calls.quiet_of_same ((HLS.out _).mono fun _ _ ⟨a, b⟩ => ⟨a, b.symm⟩)))
                obtain ⟨w9, hw9, hk9⟩ : ∃ W, W = w1.drewN nq ∧ Same w1 W := ⟨_, rfl, (Kept.refl _ w1).drewN nq⟩
                rw [← hw9]
                clear hw9
                have e0 : w9.cell? ⟨wr.heap.size, 0, none⟩ = some (.string k) := Kept.cell hk9 (fun h => h) d0
                have e1 : w9.cell? ⟨wr.heap.size, 1, none⟩ = some (.int .i64 z) := Kept.cell hk9 (fun h => h) d1
                have k9 := K1.out.trans hk9
                have O9 := hidden (own_kept HO.out k9 (fun _ _ h => h))
                have OO9 := hidden (own_kept HOO.out k9 (fun _ _ h => h))
                have L9 := hidden (HHL.out.kept k9 (fun _ _ h => h))
                have I9 := hidden (HIT.out.same k9)
                have HK9 := hidden (HK.out.trans k9)
                have e2 : w9.cell? ⟨hb, 0, none⟩ = some (.slice (some ⟨b1, o1, none⟩) m1 c1) := Kept.cell k9 (fun h => h) x0
                have hs9 := k9.size
                clear hk9 k9 d0 d1 l0
                have HB2 := hidden (heap_alloc_new w9 (.cells #[.string k, .int .i64 z] 54))
                have hsq : (w9.alloc (.cells #[.string k, .int .i64 z] 54)).heap.size = w9.heap.size + 1 := alloc_size1 _ _
                go_wp2_with (first
                  | (at_builtin; go_must (refine wpList_append_any (by rfl) _ _ 58 (by rfl) w.heap.size 54 i1 _ 2 24 Try.underlying58 hi1 hy0 hy1 hy2 rfl (by decide) _ _ _ _ (by rfl) (OO9.out.alloc _) (some ⟨w9.heap.size, 0, none⟩) 1 1 (flat [(k, z)]) (by rfl) (by rfl) (lies_of (World.news_of_block HB2.out)) (flat_one _) (by unfold maxLen; omega) (by omega) (by rw [hsq]; omega) ?_; intro a3 c3 w3 hown hgrow; have kk3 := (((Kept.refl (fun x => (Value.slice (some ⟨ob, 0, none⟩) om oc).ownBlock = some x) w9).alloc _).grown hgrow (fun q hq _ => hq)); have ks3 := (((Kept.refl (fun x => w.heap.size ≤ x) w9).alloc _).grown hgrow (fun q hq _ => (OO9.out.lt q hq).1)); have R3 := hidden (same_grown (m := 0) (HK9.out.alloc _) (OO9.out.alloc _) hgrow); have L3 := hidden (L9.out.kept ks3 (fun b hb h => by omega)); have I3 := hidden (I9.out.kept ks3 (fun b hb h => by simp [Value.ownBlock] at hb; omega)); have O3 := hidden (own_kept O9.out kk3 (fun b hb hs => by simp [Value.ownBlock] at hb; subst hb; exact own_two O9.out OO9.out (by decide) _ hs rfl)); obtain ⟨x3, -, -⟩ := hown_cell O3.out (i := 0) (by simp); simp only [Nat.zero_mul, List.getElem_cons_zero] at x3; rw [← flat_app] at hown; have OO3 := hidden hown; clear hown hgrow kk3 ks3))
                  | (go_at_call 64; go_must (refine (HBH.out _ I3.out).mono ?_; rintro e w5 ⟨u5, rfl, i5, k5, o5⟩; have I5 := hidden i5; have O5 := hidden (own_kept O3.out k5 (fun _ _ h => h)); have OO5 := hidden (own_kept OO3.out k5 (fun _ _ h => h)); have L5 := hidden (L3.out.kept k5 (fun _ _ h => h)); have R5 := hidden (R3.out.trans k5); have B5 : Hid (∀ b, u5.ownBlock = some b → b < w.heap.size) := fun b hb => (by have h9 := o5 b hb; simp [Value.ownBlock] at h9; omega); obtain ⟨ra5, rc5, e5, -, -⟩ := id i5; rw [HM5.out] at e5; subst e5; obtain ⟨x5, -, f5⟩ := hown_cell O5.out (i := 0) (by simp); simp only [Nat.zero_mul, List.getElem_cons_zero] at x5; have O6 := hidden (hown_first O5.out (.slice ra5 0 rc5) k); obtain ⟨z6, -, -⟩ := hown_cell O6.out (i := 0) (by simp); simp only [Nat.zero_mul, List.getElem_cons_zero] at z6; clear i5 k5 o5))
                  | (go_at_call 66; go_must (have L6 := hidden ((L5.out.gone (l := bhd rl) HM5.out).kept ((Kept.refl (fun x => w.heap.size ≤ x) w5).setCell (p := ⟨hb, 0, none⟩) hgb (.slice ra5 0 rc5)) (fun b hb h => by omega)); have PD : Hid (t.Perm (dropL (⟨.slice ra5 0 rc5, k, h0p⟩ :: t) (by simp))) := (dropL_perm (⟨.slice ra5 0 rc5, k, h0p⟩ :: t) (by simp)).cons_inv; refine (drop_H hb hc hm (⟨.slice ra5 0 rc5, k, h0p⟩ :: t) _ HLT.out (by simp) hmb hgc (own_base O6.out) (fun x hx => HV.out _ ⟨_, _, _, rfl⟩ x hx) (fun x hx => L6.out.ok hgb (by rw [List.length_set, HRL.out, HN.out]; exact hn) x (PD.out.mem_iff.2 hx)) (down_drop HHP.out _)).mono ?_; rintro e w7 ⟨rfl, H7, hp7, hh7, hr7, hk7⟩; have P7 := hidden (hp7.trans PD.out.symm); have HH7 := hidden hh7; have O7 := hidden hr7; have K7 := hidden hk7; clear hp7 hh7 hr7 hk7)))
                go_roundw
                case rel =>
                  refine ⟨hm - 1, hc, om + 1, c3, _, a3, H7, R.set h0p (bhd rl), out ++ [(k, z)], rfl, rfl, by rw [P7.out.length_eq]; have h9 := HLT.out; omega, by rw [List.length_append, HOL.out]; rfl, by rw [List.length_set]; exact HRL.out, by omega, by have h8 := HSR.out; have h9 := HSU.out; omega, own_rebase O7.out hgb, HH7.out, HL.perm (HL.kept L6.out K7.out (fun b hb e => by omega)) P7.out, HNEW.out (last_lt HMI.out.srt HOM.out hlt9.out), ?_, ?_⟩
                  · exact own_kept (own_kept OO5.out ((Kept.refl (fun k => k = hb) w5).setCell (p := ⟨hb, 0, none⟩) rfl _) (own_two O5.out OO5.out (by decide))) K7.out (own_two O5.out OO5.out (by decide))
                  · exact Kept.trans' (Kept.trans' R5.out ((Kept.refl (fun k => k = hb) w5).setCell (p := ⟨hb, 0, none⟩) rfl _) (fun k hk e => by omega)) K7.out (fun k hk e => by omega)
                case measure =>
                  rw [hsum_own O7.out (by rw [P7.out.length_eq]; have h9 := HLT.out; omega), hsum_own HO.out HLN.out, (P7.out.map _).sum_nat]
                  simp [slen]
                  omega
        · obtain rfl : hm = 0 := by omega
          have hH0 : H = [] := List.length_eq_zero_iff.1 HLN.out
          have q1 : ¬ (0 : Int) < ((0 : Nat) : Int) := by omega
          go_wp2
          go_returns
          have hd := HMI.out.done (fun l hl => by
            obtain ⟨x, hx, rfl⟩ := List.mem_map.1 hl
            obtain ⟨q, hq, rfl⟩ := List.getElem_of_mem hx
            have h9 : R[q].length = 0 := by
              rcases Nat.eq_zero_or_pos R[q].length with h | h
              · exact h
              · obtain ⟨y, hy, _⟩ := HHL.out.all q hq h
                rw [hH0] at hy
                simp at hy
            rw [List.length_eq_zero_iff.1 h9]
            rfl)
          refine ⟨_, rfl, out, ?_, HMI.out.srt, hd, by have := HOL.out; omega, HK.out⟩
          unfold ItS
          rw [HOL.out]
          exact HOO.out
--@end2
end Go.Proofs.Ytelngbkbdihdnaa
