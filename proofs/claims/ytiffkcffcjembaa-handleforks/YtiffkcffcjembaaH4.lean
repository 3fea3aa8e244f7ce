/- Tables: Inodes. -/
import Derived.Test.YtiffkcffcjembaaH3
import Derived.Test.YtiffkcffcjembaaHSh
import Derived.Maps.Range
namespace Go.Proofs.Ytiffkcffcjembaa
open Go.RowKit Go.Maps Go.Sort Go.Shelf
set_option linter.unusedVariables false
set_option linter.unusedSimpArgs false
/-- On which inodes some of the 64 places are open: rising. -/
structure InoL (f : FT) (l : List Int) : Prop where
  up : l.Pairwise (· < ·)
  mem : ∀ x, x ∈ l ↔ 0 < cn f x 64
theorem up_unique {l l' : List Int} (h : l.Pairwise (· < ·)) (h' : l'.Pairwise (· < ·)) (hm : ∀ x, x ∈ l ↔ x ∈ l') : l = l' := by
  have nd : ∀ {m : List Int}, m.Pairwise (· < ·) → m.Nodup := fun hp => hp.imp (fun {a b} hab e => by omega)
  refine List.Perm.eq_of_pairwise (le := fun a b : Int => a ≤ b) (fun a b _ _ h1 h2 => by omega) (h.imp (fun {a b} hab => by omega)) (h'.imp (fun {a b} hab => by omega)) ?_
  exact (List.perm_ext_iff_of_nodup (nd h) (nd h')).2 hm
theorem InoL.unique {f : FT} {l l' : List Int} (h : InoL f l) (h' : InoL f l') : l = l' := up_unique h.up h'.up (fun x => (h.mem x).trans (h'.mem x).symm)
theorem keys_spec {w : World} {bm n : Nat} {D : DataW Unit} {f : FT} (hown : w.ownsMap Try.prog 3 (plainElem Try.prog 3) bm n D) (hc : Cnt D f) : (intKeys D).Nodup ∧ ∀ x, x ∈ intKeys D ↔ 0 < cn f x 64 := by
  obtain ⟨es, hD, hp, _⟩ := hown.entries law3
  obtain ⟨es', hD', hko⟩ := hown.keysOf
  obtain rfl : es = es' := by rw [hD] at hD'; simpa using hD'
  subst hD
  have hk : ∀ p ∈ es, ∃ x, p.1 = .int .i64 x := fun p hp => by
    obtain ⟨v, hv⟩ := hko p hp
    obtain ⟨x, _, hx, _⟩ := Maps.keyOf_i64 Try.underlying3 hv
    exact ⟨x, hx⟩
  constructor
  · show (es.map fun p => Go.intOf p.1).Nodup
    refine List.pairwise_map.2 (hp.imp_of_mem fun {p q} hp' hq' hne e => hne ?_)
    obtain ⟨a, ha⟩ := hk p hp'
    obtain ⟨b, hb⟩ := hk q hq'
    rw [ha, hb] at e ⊢
    exact congrArg _ e
  · intro x
    have hh : (0 < cn f x 64) ↔ Maps.has (.map es : DataW Unit) (.int .i64 x) = true := by rw [hc.has x]; simp
    rw [hh, has_eq, List.any_eq_true]
    show x ∈ (es.map fun p => Go.intOf p.1) ↔ _
    rw [List.mem_map]
    constructor
    · rintro ⟨p, hp', rfl⟩
      obtain ⟨a, ha⟩ := hk p hp'
      exact ⟨p, hp', by rw [ha]; simp [Lit.sameKey, Go.intOf]⟩
    · rintro ⟨p, hp', hs⟩
      obtain ⟨a, ha⟩ := hk p hp'
      rw [ha] at hs
      exact ⟨p, hp', by rw [ha]; simpa [Lit.sameKey, Go.intOf] using hs⟩
theorem inoL_of {D : DataW Unit} {f : FT} (h : (intKeys D).Nodup ∧ ∀ x, x ∈ intKeys D ↔ 0 < cn f x 64) {ss : List Int} (hp : ss.Perm (intKeys D)) : InoL f (ss.mergeSort (fun x y => decide (x ≤ y))) := by
  have hp2 := (List.mergeSort_perm ss (fun x y => decide (x ≤ y))).trans hp
  have hle : (ss.mergeSort (fun x y => decide (x ≤ y))).Pairwise (fun a b => a ≤ b) := (List.pairwise_mergeSort (le := fun x y => decide (x ≤ y)) (fun a b c h1 h2 => by simp only [decide_eq_true_eq] at *; omega) (fun a b => by simp only [Bool.or_eq_true, decide_eq_true_eq]; omega) ss).imp (fun {a b} h => by simpa using h)
  have hnd : (ss.mergeSort (fun x y => decide (x ≤ y))).Nodup := hp2.nodup_iff.2 h.1
  refine ⟨(hle.and hnd).imp (fun {a b} ⟨h1, h2⟩ => by omega), fun x => ?_⟩
  rw [hp2.mem_iff]
  exact h.2 x
theorem same_of_below {W w' : World} (hb : Below W.heap.size W w') : Same W w' := ⟨hb.os, hb.tape, hb.output, hb.size, fun k hk _ => hb.block k hk⟩
theorem own_lower {w : World} {B C n s : Nat} {e : TypeId} {v : Value} {xs : List Value} (h : w.ownsRow B e s v n xs) (hc : C ≤ B) : w.ownsRow C e s v n xs :=
  ⟨h.1, h.2.imp id fun ⟨g, cap, cur, a, hb, b⟩ => ⟨g, cap, cur, a, Nat.le_trans hc hb, b⟩⟩
/-- slices.Sort's two contracts at this dump, at the fence that asks nothing. -/
theorem sortsA (m : Nat) : AnyZI.SortsIn Try.prog sortedA_ren Fence.wide m :=
  ⟨fun blk off cap ss W hH hblk hsz => callsIn_wide.2 (AnyM.slices_Sort_int sortA blk off cap ss W hH hblk hsz),
   fun p cap W => callsIn_wide.2 (AnyM.slices_Sort_int_none sortA p cap W)⟩
set_option maxHeartbeats 1000000 in
set_option maxRecDepth 100000 in
theorem h_inodes (g bm : Nat) (f : FT) (n : Nat) (w : World) (h : TB w g bm f n) (hn : n ≤ 17592186044416) :
    Calls Try.prog 17 #[P0 g] w fun e w' => ∃ (v : Value) (l : List Int), e = .returned v ∧ InoL f l ∧ w'.ownsRow w.heap.size 3 1 v l.length (l.map (Value.int .i64)) ∧ Same w w' := by
  obtain ⟨D, cm, hb, hown, hc⟩ := h.cell_map
  have hsd := hown.size_le
  have hks := keys_spec hown hc
  refine (callsIn_wide (n := 6)).1 ?_
  have hbl := hown.lt
  have hseq : SeqGives Fence.wide 2 Try.prog 36 #[.pointer (some ⟨w.heap.size, 0, none⟩)] encZ (fun ss => ss.Perm (intKeys D)) (Maps.size D) (w.alloc (.cells #[.map (some bm)] 46)) :=
    AnyZI.keys_gives (ρ := keysA_ren) { keysA with } Fence.wide _ trivial rfl (by omega) w.heap.size bm n D _ (by simp) (by simp) (by
      obtain ⟨es, clock, hb, Ft, hs, hD⟩ := hown
      exact ⟨es, clock, (Below.heap_alloc _ _ bm hbl).trans hb, Ft, hs, hD⟩)
  have cK : ∀ mb W, CallsIn Fence.wide 5 Try.prog 31 #[.map mb] W fun e w' => e = .returned (.func (.func 36) #[] #[.pointer (some ⟨W.heap.size, 0, none⟩)]) ∧ w' = W.alloc (.cells #[.map mb] 46) := fun mb W => AnyZI.keys_in keysA Fence.wide 5 trivial rfl mb W
  have cM : CallsIn Fence.wide 5 Try.prog 26 #[P0 g] w fun e w' => e = .returned (.bool true) ∧ w' = w := callsIn_wide.2 (h_made g bm w cm)
  have cS := AnyZI.sorted_in sortedA Fence.wide 5 trivial trivial trivial trivial rfl (by omega) (sortsA _) (enters_of Try.func35 (by kernel_rfl) rfl) 36 #[.pointer (some ⟨w.heap.size, 0, none⟩)] trivial (enters_of Try.func36 (by kernel_rfl) rfl) _ _ (by unfold maxLen; omega) (by omega) _ hseq
  change CallsIn _ _ Try.prog 30 _ _ _ at cS
  have hfK : Fence.wide.fn 31 := trivial
  have hfS : Fence.wide.fn 30 := trivial
  have hfM : Fence.wide.fn 26 := trivial
  refine callsIn_of_wp Try.func17 rfl trivial ?_ rfl
  simp only [Try.ntmps17, List.size_toArray, List.length_cons, List.length_nil, Nat.reduceAdd, Nat.reduceSub, Array.replicate_succ, Array.replicate_zero, List.push_toArray, List.append_toArray, List.nil_append, List.cons_append]
  gi_wp2_with (first
    | (gi_at_call 26; refine cM.mono ?_; rintro e w' ⟨rfl, rfl⟩)
    | (gi_at_call 31; refine (cK _ _).mono ?_; rintro e w' ⟨rfl, rfl⟩)
    | (gi_at_call 30; refine cS.mono ?_; rintro e w' ⟨v, ss, rfl, hS, hrow, hnil, hb⟩))
  go_ret
  rename_i w0 _
  refine ⟨v, _, rfl, inoL_of hks hS, ?_, (same_alloc w0 _).trans (same_of_below hb)⟩
  rw [List.length_mergeSort]
  exact own_lower hrow (by simp)
end Go.Proofs.Ytiffkcffcjembaa
