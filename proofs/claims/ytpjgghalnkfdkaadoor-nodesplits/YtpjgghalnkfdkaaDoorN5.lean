/- node: slices.Insert of one text into a row of one's own. -/
import Derived.Test.YtpjgghalnkfdkaaDoorN4
import Derived.Test.YtpjgghalnkfdkaaDoorIns
namespace Go.Proofs.YtpjgghalnkfdkaaDoor
open Go.RowKit
set_option linter.unusedVariables false
set_option linter.unusedSimpArgs false
/-- Values written one behind the other. -/
def putAt (cur : Array Value) (o : Nat) : List Value → Array Value
  | [] => cur
  | v :: r => putAt (cur.setIfInBounds o v) (o + 1) r
theorem putAt_size : ∀ (vs : List Value) (cur : Array Value) (o : Nat), (putAt cur o vs).size = cur.size
  | [], _, _ => rfl
  | v :: r, cur, o => by rw [putAt, putAt_size r]; simp
theorem putAt_at : ∀ (vs : List Value) (cur : Array Value) (o : Nat), o + vs.length ≤ cur.size → ∀ j, (putAt cur o vs)[j]? = if o ≤ j ∧ j < o + vs.length then vs[j - o]? else cur[j]?
  | [], cur, o, _, j => by
    have : ¬ (o ≤ j ∧ j < o + ([] : List Value).length) := by simp
    rw [if_neg this]
    rfl
  | v :: r, cur, o, h, j => by
    simp only [List.length_cons] at h
    rw [putAt, putAt_at r (cur.setIfInBounds o v) (o + 1) (by simp; omega) j]
    rcases Nat.lt_trichotomy j o with h1 | h1 | h1
    · rw [if_neg (by omega), if_neg (by omega), Array.getElem?_setIfInBounds_ne (by omega)]
    · subst h1
      rw [if_neg (by omega), if_pos (by simp), Array.getElem?_setIfInBounds_self_of_lt (by omega)]
      simp
    · by_cases h2 : j < o + 1 + r.length
      · rw [if_pos (by omega), if_pos (by simp; omega), show j - o = (j - (o + 1)) + 1 by omega, List.getElem?_cons_succ]
      · rw [if_neg (by omega), if_neg (by simp; omega), Array.getElem?_setIfInBounds_ne (by omega)]
theorem blk_setCells {g : Nat} {t : TypeId} : ∀ (vs : List Value) (o : Nat) (w : World) (cur : Array Value), w.heap[g]? = some (.cells cur t (0, 0)) → (w.setCells g o vs).heap[g]? = some (.cells (putAt cur o vs) t (0, 0))
  | [], _, _, _, h => h
  | v :: r, o, w, cur, h => by
    rw [World.setCells]
    exact blk_setCells r (o + 1) _ _ (blk_set h v)
theorem kept_setCells {g : Nat} : ∀ (vs : List Value) (o : Nat) (w : World), Kept (only g) w (w.setCells g o vs)
  | [], _, w => Kept.refl _ _
  | v :: r, o, w => by
    rw [World.setCells]
    exact ((Kept.refl (only g) w).setCell (p := ⟨g, o, none⟩) rfl v).trans (kept_setCells r (o + 1) _)
theorem ins_list (l : List ByteArray) (x : ByteArray) {i k : Nat} (hk : l.length = k) (hi : i ≤ k) (arr : Array Value) (hs : k + 1 ≤ arr.size)
    (h1 : ∀ j, j < i → arr[j]? = (TS l)[j]?) (h2 : arr[i]? = some (.string x)) (h3 : ∀ j, i < j → j ≤ k → arr[j]? = (TS l)[j - 1]?) : arr.toList.take (k + 1) = TS (l.take i ++ x :: l.drop i) := by
  apply List.ext_getElem?
  intro j
  have ht : TS (l.take i ++ x :: l.drop i) = (TS l).take i ++ .string x :: (TS l).drop i := by simp [TS]
  have hl := TS_len l
  rw [ht, List.getElem?_take]
  split
  · rename_i hj
    rw [Array.getElem?_toList]
    rcases Nat.lt_trichotomy j i with h | h | h
    · rw [h1 j h, List.getElem?_append_left (by rw [List.length_take]; omega), List.getElem?_take, if_pos h]
    · subst h
      rw [h2, List.getElem?_append_right (by rw [List.length_take]; omega), List.length_take, show j - min j (TS l).length = 0 by omega]
      rfl
    · rw [h3 j h (by omega), List.getElem?_append_right (by rw [List.length_take]; omega), List.length_take, show j - min i (TS l).length = (j - 1 - i) + 1 by omega, List.getElem?_cons_succ, List.getElem?_drop]
      congr 1
      omega
  · rename_i hj
    rw [List.getElem?_eq_none]
    simp only [List.length_append, List.length_take, List.length_cons, List.length_drop]
    omega
theorem blk_lits (l : List ByteArray) {cur : Array Value} {k : Nat} (ht : cur.toList.take k = TS l) (hl : l.length = k) : ∀ j, j < k → cur[j]? = (TS l)[j]? := by
  intro j hj
  rw [← ht, List.getElem?_take, if_pos hj, Array.getElem?_toList]
theorem own_mk {w : World} {B g cap k : Nat} {arr : Array Value} {L : List ByteArray} (hg : w.heap[g]? = some (.cells arr 9 (0, 0))) (hB : B ≤ g) (hL : L.length = k) (hk : k ≤ cap) (hm : cap ≤ maxLen) (hs : arr.size = cap) (ht : arr.toList.take k = TS L) : w.ownsRow B 9 1 (.slice (some ⟨g, 0, none⟩) k cap) k (TS L) :=
  ⟨by rw [TS_len]; omega, .inr ⟨g, cap, arr, rfl, hB, hg, hk, hm, by omega, by rw [Nat.mul_one]; exact ht⟩⟩
theorem grown_kept {S : Nat → Prop} {w W : World} {row : Option Nat} (k : Kept S w W) (h : ∀ i, S i → i < w.heap.size → row = some i) : w.grownBy W row :=
  ⟨k.os, k.tape, k.output, k.size, fun i hi hne => k.block i hi (fun hs => hne (h i hs hi).symm)⟩
theorem own_cellN {w : World} {B g n cap i : Nat} {e : TypeId} {xs : List Value} (h : w.ownsRow B e 1 (.slice (some ⟨g, 0, none⟩) n cap) n xs) (u : Value) (hu : xs[i]? = some u) :
    w.cell? ⟨g, i, none⟩ = some u ∧ w.frozen? ⟨g, i, none⟩ = false := by
  have h1 := h.cells (g := g) rfl i u hu
  rw [add_none, Nat.zero_add] at h1
  refine ⟨h1, ?_⟩
  rcases h.2 with ⟨h2, _⟩ | ⟨g', cap', cur, hv, hb, hg, _⟩
  · cases h2
  · obtain ⟨rfl, rfl⟩ : g = g' ∧ cap = cap' := by simpa using hv
    exact blk_free hg
theorem own_setN {w : World} {B g n cap i : Nat} {e : TypeId} {xs : List Value} (h : w.ownsRow B e 1 (.slice (some ⟨g, 0, none⟩) n cap) n xs) (u : Value) :
    (w.setCell ⟨g, i, none⟩ u).ownsRow B e 1 (.slice (some ⟨g, 0, none⟩) n cap) n (xs.set i u) := by
  obtain ⟨h1, h2⟩ := h
  refine ⟨by simpa using h1, ?_⟩
  rcases h2 with ⟨h2, _⟩ | ⟨g', cap', cur, hv, hb, hg, hn, hc, hs, ht⟩
  · cases h2
  · obtain ⟨rfl, rfl⟩ : g = g' ∧ cap = cap' := by simpa using hv
    refine Or.inr ⟨g, cap, cur.setIfInBounds i u, rfl, hb, blk_set hg u, hn, hc, by simpa using hs, ?_⟩
    rw [Array.toList_setIfInBounds, List.take_set, ht]
structure InP (B : Nat) (l : List ByteArray) (w : World) (v u : Value) (W : World) : Prop where
  out : ∃ a c, u = .slice a l.length c ∧ W.ownsRow B 9 1 (.slice a l.length c) l.length (TS l) ∧ w.grownBy W v.ownBlock ∧ (∀ g, (Value.slice a l.length c).ownBlock = some g → v.ownBlock = some g ∨ g = w.heap.size)
set_option maxRecDepth 100000 in
theorem insert_any (l : List ByteArray) (x : ByteArray) (i : Nat) (a : Option Addr) (k c : Nat) (w : World) (B : Nat) (ho : w.ownsRow B 9 1 (.slice a k c) k (TS l)) (hi : i ≤ k) (hk : k ≤ 8796093022206) (hB : B ≤ w.heap.size)
    (vb : Nat) (hv : w.heap[vb]? = some (.cells #[.string x] 9 (0, 0))) (hne : (Value.slice a k c).ownBlock ≠ some vb) :
    Calls Tryd.prog 50 #[.slice a k c, .int .i64 i, .slice (some ⟨vb, 0, none⟩) 1 1] w fun e w' => ∃ u, e = .returned u ∧ InP B (l.take i ++ x :: l.drop i) w (.slice a k c) u w' := by
  have hlen : l.length = k := by have := ho.1; rw [TS_len] at this; omega
  have hlen2 : (l.take i ++ x :: l.drop i).length = k + 1 := by simp only [List.length_append, List.length_take, List.length_cons, List.length_drop]; omega
  have hvs : ∀ j v, ([.string x] : List Value)[j]? = some v → w.cell? ⟨vb, 0 + j, none⟩ = some v := fun j v hj => by
    rw [Nat.zero_add]
    rw [cell_of_row _ _ _ _ _ _ hv]
    simpa using hj
  have h1v : ∀ v ∈ ([.string x] : List Value), v.oneCell' = true := by simp [Value.oneCell']
  have hTl := TS_len l
  rcases ho.2 with ⟨he, h0⟩ | ⟨b, cap, cur, he, hb, hg, hn, hm, hs, ht⟩
  · simp only [Value.slice.injEq] at he
    obtain ⟨rfl, rfl, rfl⟩ := he
    obtain rfl : i = 0 := by omega
    obtain rfl : l = [] := List.eq_nil_of_length_eq_zero hlen
    have hr := Any2.slices_Insert_string_end_grow insLay none 0 0 vb 0 1 1 [] [.string x] w (by decide) (Nat.le_refl _) (by decide) (by decide) rfl rfl (fun _ => rfl) (fun a h => by cases h) hvs h1v
    refine hr.mono ?_
    rintro e w' ⟨rfl, rfl⟩
    have hge := grownCap_ge w (0 + 1) 0 9
    have hle := grownCap_le_maxLen w (0 + 1) 0 9 (by decide)
    rw [show insLay_ren.t 9 = 9 from rfl]
    generalize grownCap w (0 + 1) 0 9 = G at *
    refine ⟨_, rfl, ⟨some ⟨w.heap.size, 0, none⟩, G, rfl, ?_, ?_, ?_⟩⟩
    · refine own_mk (blk_new w.drew _) hB rfl hge hle ?_ ?_
      · simp [size_zeroCells, Value.cells]
        omega
      · simp [TS]
    · exact grown_kept (((Kept.refl (fun _ => False) w).drew).alloc _) (fun i h _ => h.elim)
    · intro g hg
      right
      simpa [Value.ownBlock] using hg.symm
  · simp only [Value.slice.injEq] at he
    obtain ⟨rfl, -, rfl⟩ := he
    rw [Nat.mul_one] at hs ht
    have hbv : vb ≠ b := fun e => hne (by rw [e]; rfl)
    have hlits := blk_lits l ht hlen
    have hcs : ∀ j v, (TS l)[j]? = some v → w.cell? ⟨b, 0 + j, none⟩ = some v := fun j v hj => by
      have hjk : j < k := by have := (List.getElem?_eq_some_iff.1 hj).1; omega
      rw [Nat.zero_add, cell_of_row _ _ _ _ _ _ hg, hlits j hjk, hj]
    have hsp : ∀ j, j < c → (w.cell? ⟨b, 0 + j, none⟩).isSome = true := fun j hj => by
      rw [Nat.zero_add, cell_of_row _ _ _ _ _ _ hg, Array.getElem?_eq_getElem (by omega)]
      rfl
    have hfz : ∀ j, w.frozen? ⟨b, 0 + j, none⟩ = false := fun j => blk_free hg
    have hbl : b < w.heap.size := blk_lt hg
    have hcm : c ≤ 9223372036854775807 := by unfold maxLen at hm; omega
    by_cases hik : i = k
    · subst hik
      by_cases hroom : i + 1 ≤ c
      · have hr := Any2.slices_Insert_string_end_room insLay b 0 i c vb 0 1 1 [.string x] w (by decide) hroom hcm rfl (fun j hj => by rw [Nat.add_assoc]; exact hsp _ (by omega)) (fun j hj => by rw [Nat.add_assoc]; exact hfz _) hvs h1v
        refine hr.mono ?_
        rintro e w' ⟨rfl, rfl⟩
        refine ⟨_, rfl, ⟨some ⟨b, 0, none⟩, c, by rw [hlen2], ?_, grown_kept (kept_setCells _ _ _) (fun i h _ => by have e : i = b := h; rw [e]; rfl), ?_⟩⟩
        · rw [hlen2]
          refine own_mk (blk_setCells _ _ _ _ hg) hb hlen2 hroom hm (by rw [putAt_size]; exact hs) (ins_list l x hlen hi _ (by rw [putAt_size]; omega) ?_ ?_ ?_)
          · intro j hj
            rw [putAt_at _ _ _ (by simp; omega), if_neg (by simp; omega), hlits j (by omega)]
          · rw [putAt_at _ _ _ (by simp; omega), if_pos (by simp)]
            simp
          · intro j h1 h2
            omega
        · intro g hg'
          left
          exact hg'
      · have hci : c = i := by omega
        subst hci
        have hr := Any2.slices_Insert_string_end_grow insLay (some ⟨b, 0, none⟩) c c vb 0 1 1 (TS l) [.string x] w (by decide) (Nat.le_refl _) (by omega) (by omega) (by omega) rfl (fun h => by cases h) (fun a h j v hj => by cases h; rw [add_none]; exact hcs j v hj) hvs h1v
        refine hr.mono ?_
        rintro e w' ⟨rfl, rfl⟩
        have hge := grownCap_ge w (c + 1) c 9
        have hle := grownCap_le_maxLen w (c + 1) c 9 (by unfold maxLen; omega)
        rw [show insLay_ren.t 9 = 9 from rfl]
        generalize grownCap w (c + 1) c 9 = G at *
        refine ⟨_, rfl, ⟨some ⟨w.heap.size, 0, none⟩, G, by rw [hlen2], ?_, ?_, ?_⟩⟩
        · rw [hlen2]
          refine own_mk (blk_new w.drew _) hB hlen2 hge hle ?_ ?_
          · simp [size_zeroCells, Value.cells, hTl, hlen]
            omega
          · have e1 : l.take c = l := by rw [← hlen]; exact List.take_length
            have e2 : l.drop c = [] := by rw [← hlen]; exact List.drop_length
            rw [e1, e2]
            simp only [Array.toList_append, List.toList_toArray]
            rw [List.take_append_of_le_length (by simp [hTl, hlen]), List.take_of_length_le (by simp [hTl, hlen])]
            simp [TS]
        · exact grown_kept (((Kept.refl (fun _ => False) w).drew).alloc _) (fun i h _ => h.elim)
        · intro g hg'
          right
          simpa [Value.ownBlock] using hg'.symm
    · by_cases hroom : k + 1 ≤ c
      · have hr := Any2.slices_Insert_string_shift insLay b 0 k c i vb 0 1 1 (TS l) [.string x] w (by omega) (by decide) hroom hcm hbv (by omega) rfl hcs (fun j hj => hsp j (by omega)) (fun j hj => hfz j) hvs (TS_one l) h1v 9 9 1 cur.size (by simp [World.shape?, hv]) (by simp [World.shape?, hg]) (by omega) (blk_free hv) (blk_free hv)
        refine hr.mono ?_
        rintro e w' ⟨rfl, rfl⟩
        have hdl : ((TS l).drop i).length = k - i := by rw [List.length_drop]; omega
        have g1 := blk_setCells ((TS l).drop i) (0 + (i + 1)) w.drew cur hg
        have g2 := blk_setCells [.string x] (0 + i) _ _ g1
        refine ⟨_, rfl, ⟨some ⟨b, 0, none⟩, c, by rw [hlen2], ?_, grown_kept ((((Kept.refl (only b) w).drew).trans (kept_setCells _ _ _)).trans (kept_setCells _ _ _)) (fun i h _ => by have e : i = b := h; rw [e]; rfl), ?_⟩⟩
        · rw [hlen2]
          refine own_mk g2 hb hlen2 hroom hm (by rw [putAt_size, putAt_size]; exact hs) (ins_list l x hlen hi _ (by rw [putAt_size, putAt_size]; omega) ?_ ?_ ?_)
          · intro j hj
            rw [putAt_at _ _ _ (by rw [putAt_size]; simp; omega), if_neg (by simp; omega), putAt_at _ _ _ (by omega), if_neg (by omega), hlits j (by omega)]
          · rw [putAt_at _ _ _ (by rw [putAt_size]; simp; omega), if_pos (by simp)]
            simp
          · intro j h1 h2
            rw [putAt_at _ _ _ (by rw [putAt_size]; simp; omega), if_neg (by simp; omega), putAt_at _ _ _ (by omega), if_pos (by omega), List.getElem?_drop]
            congr 1
            omega
        · intro g hg'
          left
          exact hg'
      · have hck : c = k := by omega
        subst hck
        have hr := Any2.slices_Insert_string_grow insLay b 0 c c i vb 0 1 1 (TS l) [.string x] w (by omega) (by decide) (Nat.le_refl _) (by omega) (by omega) (by omega) rfl hcs hvs (TS_one l) h1v
        refine hr.mono ?_
        rintro e w' ⟨rfl, rfl⟩
        have hge := grownCap_ge w (c + 1) c 9
        have hle := grownCap_le_maxLen w (c + 1) c 9 (by unfold maxLen; omega)
        generalize hG : grownCap w (c + 1) c 9 = G at *
        have hz : insLay_ren.t 9 = 9 := rfl
        rw [hz, hG]
        obtain ⟨arr, harr⟩ : ∃ arr, arr = ((TS l).take i).toArray ++ Builtin.zeroCells (Value.string ⟨#[]⟩).cells (c + 1 - i) ++ Builtin.zeroCells (Value.string ⟨#[]⟩).cells (G - (c + 1)) := ⟨_, rfl⟩
        have hasz : arr.size = G := by
          rw [harr]
          simp [size_zeroCells, Value.cells, List.length_take, hTl, hlen]
          omega
        have haj : ∀ j, j < i → arr[j]? = (TS l)[j]? := fun j hj => by
          rw [harr, Array.append_assoc, Array.getElem?_append_left (by simp [List.length_take, hTl, hlen]; omega)]
          simp [List.getElem?_take, hj]
        rw [← harr]
        clear harr
        have g1 := blk_setCells [.string x] i (w.alloc (.cells arr 9)).drew arr (blk_new w _)
        have hdl : ((TS l).drop i).length = c - i := by rw [List.length_drop]; omega
        have g2 := blk_setCells ((TS l).drop i) (i + 1) ((w.alloc (.cells arr 9)).drew.setCells w.heap.size i [.string x]).drew _ g1
        refine ⟨_, rfl, ⟨some ⟨w.heap.size, 0, none⟩, G, by rw [hlen2], ?_, ?_, ?_⟩⟩
        · rw [hlen2]
          refine own_mk g2 hB hlen2 hge hle (by rw [putAt_size, putAt_size]; exact hasz) (ins_list l x hlen hi _ (by rw [putAt_size, putAt_size]; omega) ?_ ?_ ?_)
          · intro j hj
            rw [putAt_at _ _ _ (by rw [putAt_size]; omega), if_neg (by omega), putAt_at _ _ _ (by simp; omega), if_neg (by simp; omega), haj j hj]
          · rw [putAt_at _ _ _ (by rw [putAt_size]; omega), if_neg (by omega), putAt_at _ _ _ (by simp; omega), if_pos (by simp)]
            simp
          · intro j h1 h2
            rw [putAt_at _ _ _ (by rw [putAt_size]; omega), if_pos (by omega), List.getElem?_drop]
            congr 1
            omega
        · have kA : Kept (fun k => w.heap.size ≤ k) w (w.alloc (.cells arr 9)).drew := ((Kept.refl (fun k => w.heap.size ≤ k) w).alloc _).drew
          have kB : Kept (fun k => w.heap.size ≤ k) w (((w.alloc (.cells arr 9)).drew.setCells w.heap.size i [.string x]).drew) := (kA.trans' (kept_setCells _ _ _) (fun i hi hs => by have : i = w.heap.size := hs; omega)).drew
          exact grown_kept (kB.trans' (kept_setCells _ _ _) (fun i hi hs => by have : i = w.heap.size := hs; omega)) (fun i h hl => by omega)
        · intro g hg'
          right
          simpa [Value.ownBlock] using hg'.symm
end Go.Proofs.YtpjgghalnkfdkaaDoor
