/- seq's branches: with. -/
import Derived.Test.YtelngbkbdihdnaaM3
namespace Go.Proofs.Ytelngbkbdihdnaa
open Go.RowKit
set_option linter.unusedVariables false
theorem Ord.lt_le {κ : Type} {lt : κ → κ → Bool} (o : Ord lt) {a b c : κ} (h1 : lt a b = true) (h2 : lt c b = false) : lt a c = true := by
  cases h : lt a c
  · exact absurd (o.tr _ _ _ h2 h) (by rw [h1]; simp)
  · rfl
theorem Ord.le_lt {κ : Type} {lt : κ → κ → Bool} (o : Ord lt) {a b c : κ} (h1 : lt b a = false) (h2 : lt b c = true) : lt a c = true := by
  cases h : lt a c
  · exact absurd (o.tr _ _ _ h h1) (by rw [h2]; simp)
  · rfl
theorem Ord.lt_lt {κ : Type} {lt : κ → κ → Bool} (o : Ord lt) {a b c : κ} (h1 : lt a b = true) (h2 : lt b c = true) : lt a c = true := o.lt_le h1 (o.as _ _ h2)
abbrev Kv := ByteArray × Int
def Srt (l : List Kv) : Prop := l.Pairwise (fun a b => ltS a.1 b.1 = true)
def insL (k : ByteArray) (x : Int) : List Kv → List Kv
  | [] => [(k, x)]
  | (a, y) :: t => if ltS k a then (k, x) :: (a, y) :: t else if ltS a k then (a, y) :: insL k x t else (k, x) :: t
theorem insL_len (k : ByteArray) (x : Int) : ∀ l, (insL k x l).length ≤ l.length + 1
  | [] => by simp [insL]
  | (a, y) :: t => by
    unfold insL
    have := insL_len k x t
    split
    · simp
    · split <;> simp <;> omega
theorem insL_left (k : ByteArray) (x : Int) (b : ByteArray) (y : Int) (r : List Kv) (h : ltS k b = true) : ∀ l : List Kv, insL k x (l ++ (b, y) :: r) = insL k x l ++ (b, y) :: r
  | [] => by simp [insL, h]
  | (a, z) :: t => by
    simp only [List.cons_append, insL]
    split
    · rfl
    · split
      · rw [insL_left k x b y r h t]; rfl
      · rfl
theorem insL_right (k : ByteArray) (x : Int) (r : List Kv) : ∀ l : List Kv, (∀ a ∈ l, ltS a.1 k = true) → insL k x (l ++ r) = l ++ insL k x r
  | [], _ => rfl
  | (a, z) :: t, h => by
    have h1 := h (a, z) (List.mem_cons_self ..)
    simp only [List.cons_append, insL]
    rw [if_neg (by rw [ordS.as _ _ h1]; simp), if_pos h1, insL_right k x r t (fun b hb => h b (List.mem_cons_of_mem _ hb))]
theorem mem_insL {k : ByteArray} {x : Int} : ∀ {l : List Kv} {a : Kv}, a ∈ insL k x l → a = (k, x) ∨ a ∈ l
  | [], a, h => Or.inl (by simpa [insL] using h)
  | (b, y) :: t, a, h => by
    unfold insL at h
    split at h
    · rcases List.mem_cons.1 h with h | h
      · exact Or.inl h
      · exact Or.inr h
    · split at h
      · rcases List.mem_cons.1 h with h | h
        · exact Or.inr (h ▸ List.mem_cons_self ..)
        · exact (mem_insL h).imp id (List.mem_cons_of_mem _)
      · rcases List.mem_cons.1 h with h | h
        · exact Or.inl h
        · exact Or.inr (List.mem_cons_of_mem _ h)
theorem Srt.ins {l : List Kv} (h : Srt l) (k : ByteArray) (x : Int) : Srt (insL k x l) := by
  induction l with
  | nil => simp [insL, Srt]
  | cons b t ih =>
    obtain ⟨b, y⟩ := b
    obtain ⟨h1, h2⟩ := List.pairwise_cons.1 h
    unfold insL
    split
    · rename_i hk
      exact List.pairwise_cons.2 ⟨fun a ha => by
        rcases List.mem_cons.1 ha with rfl | ha
        · exact hk
        · exact ordS.lt_lt hk (h1 a ha), h⟩
    · rename_i hk
      split
      · rename_i hb
        exact List.pairwise_cons.2 ⟨fun a ha => by
          rcases mem_insL ha with rfl | ha
          · exact hb
          · exact h1 a ha, ih h2⟩
      · rename_i hb
        exact List.pairwise_cons.2 ⟨fun a ha => ordS.le_lt (by simpa using hb) (h1 a ha), h2⟩
theorem srt_split {l r : List Kv} {k : ByteArray} {x : Int} (h : Srt (l ++ (k, x) :: r)) : Srt l ∧ Srt r ∧ (∀ a ∈ l, ltS a.1 k = true) ∧ (∀ a ∈ r, ltS k a.1 = true) ∧ (∀ a ∈ l, ∀ b ∈ r, ltS a.1 b.1 = true) := by
  obtain ⟨h1, h2, h3⟩ := List.pairwise_append.1 h
  obtain ⟨h4, h5⟩ := List.pairwise_cons.1 h2
  exact ⟨h1, h5, fun a ha => h3 a ha (k, x) (List.mem_cons_self ..), fun a ha => h4 a ha, fun a ha b hb => h3 a ha b (List.mem_cons_of_mem _ hb)⟩
def cmpI (a b : ByteArray) : Int := if ltS a b then -1 else if ltS b a then 1 else 0
set_option maxHeartbeats 4000000 in
set_option maxRecDepth 100000 in
theorem with_any (k : ByteArray) (x : Int) : ∀ (t : T) (v : Value) (w : World), BT w v t → Srt t.list → t.size ≤ 562949953421312 →
    Calls Try.prog 49 #[v, It k x] w fun e w' => ∃ v' t', e = .returned v' ∧ BT w' v' t' ∧ t'.list = insL k x t.list ∧ Same w w' := by
  intro t
  induction t with
  | nil =>
    intro v w h hS hs
    obtain rfl : v = .pointer none := h
    have bN : Hid (∀ W : World, BT W (.pointer none) .nil) := fun W => rfl
    go_enter Try.func49, Try.ntmps49
    go_wp2_with (go_at_call 79; go_must (refine (newB_any k x (bN.out _) (bN.out _) (by simp [T.size])).mono ?_; rintro e w1 ⟨v1, rfl, hv1, k1⟩; obtain ⟨p1, rfl⟩ := hv1.ptr))
    go_returns
    exact ⟨_, _, rfl, hv1, by simp [T.list, insL], Kept.trans (same_alloc w _) k1⟩
  | node bk bv l r ihl ihr =>
    intro v w h hS hs
    obtain ⟨gh, lo, hi, rfl, hbk, hl, hr⟩ := h
    obtain ⟨pl, rfl⟩ := hl.ptr
    obtain ⟨ph, rfl⟩ := hr.ptr
    obtain ⟨s1, s2, s3, s4, s5⟩ := srt_split hS
    have hsz : (T.node bk bv l r).size = l.size + 1 + r.size := rfl
    rw [hsz] at hs
    have HL : Hid (∀ W, Same w W → BT W (.pointer pl) l) := fun W k => hl.same k
    have HR : Hid (∀ W, Same w W → BT W (.pointer ph) r) := fun W k => hr.same k
    have HC : Hid (∀ W, Same w W → W.cell? ⟨gh, 0, none⟩ = some (.string bk) ∧ W.cell? ⟨gh, 1, none⟩ = some (.int .i64 bv) ∧ W.cell? ⟨gh, 2, none⟩ = some (.pointer pl) ∧ W.cell? ⟨gh, 3, none⟩ = some (.pointer ph)) := fun W k => BT.cells (blk_kept k (fun h => h) hbk)
    have HBX : Hid (∀ W cs t, Same (w.alloc (.cells cs t)) W → W.heap[w.heap.size]? = some (.cells cs t (0, 0))) := fun W cs t k => blk_kept k (fun h => h) (heap_alloc_new w _)
    have IL := hidden (fun v w h => ihl v w h s1 (by omega))
    have IR := hidden (fun v w h => ihr v w h s2 (by omega))
    have a0 : ∀ o, (w.alloc o).cell? ⟨gh, 0, none⟩ = some (.string bk) := fun o => (HC.out _ (same_alloc w o)).1
    have HS3 := hidden s3
    clear hl hr hbk hS s1 s2 s3 s4 s5 ihl ihr
    cases hlt : ltS k bk
    · cases hgt : ltS bk k
      · skip
        have HCMP : Hid (∀ W, Calls Try.prog 72 #[.string k, .string bk] W fun e w' => e = .returned (.int .i64 (0)) ∧ W = w') := fun W => by
          have := cmp_str k bk W
          simpa [hlt, hgt] using this
        go_enter Try.func49, Try.ntmps49
        go_wp2
        go_region_held3 (fun w' => w'.cell? ⟨w.heap.size, 0, none⟩ = some (.string k) ∧ w'.cell? ⟨gh, 0, none⟩ = some (.string bk))
          (first | go_keep | (go_split_ands; assumption) | assumption)
          ((go_at_call 72; go_must (refine (HCMP.out _).mono ?_; rintro e w1 ⟨rfl, rfl⟩)))
        go_wp2
        obtain ⟨w2, hw2⟩ : ∃ W, W = (w.alloc (.cells #[.string k, .int .i64 x] 54)).drew := ⟨_, rfl⟩
        rw [← hw2]
        have k2 : Same w w2 := by rw [hw2]; exact (same_alloc w _).drew
        have kb2 : Same (w.alloc (.cells #[.string k, .int .i64 x] 54)) w2 := by rw [hw2]; exact (Kept.refl _ _).drew
        have K2 := hidden k2
        have b2 := HBX.out w2 _ _ kb2
        have x0 : w2.cell? ⟨w.heap.size, 0, none⟩ = some (.string k) := blk_cell b2
        have x1 : w2.cell? ⟨w.heap.size, 1, none⟩ = some (.int .i64 x) := blk_cell b2
        obtain ⟨d0, d1, d2, d3⟩ := HC.out w2 k2
        clear hw2 kb2 k2 b2 a0
        go_region_held3 (fun w' => w'.cell? ⟨w.heap.size, 0, none⟩ = some (.string k) ∧ w'.cell? ⟨w.heap.size, 1, none⟩ = some (.int .i64 x) ∧ w'.cell? ⟨gh, 0, none⟩ = some (.string bk) ∧ w'.cell? ⟨gh, 1, none⟩ = some (.int .i64 bv) ∧ w'.cell? ⟨gh, 2, none⟩ = some (.pointer pl) ∧ w'.cell? ⟨gh, 3, none⟩ = some (.pointer ph))
          (first | go_keep | (go_split_ands; exact ⟨by assumption, by assumption, by assumption, by assumption, by assumption, by assumption⟩))
          ((go_at_call 79; go_must (refine (newB_any k x (HL.out _ (Kept.trans K2.out (Kept.refl _ w2).drew)) (HR.out _ (Kept.trans K2.out (Kept.refl _ w2).drew)) (by omega)).mono ?_; rintro e w3 ⟨v3, rfl, hv3, k3⟩; obtain ⟨p3, rfl⟩ := hv3.ptr; have V3 := hidden hv3; have k3' := Kept.trans (Kept.refl _ w2).drew k3; have S3 := hidden (Kept.trans K2.out k3'); have x0' := Kept.cell k3' (fun h => h) x0; have x1' := Kept.cell k3' (fun h => h) x1; have d0' := Kept.cell k3' (fun h => h) d0; have d1' := Kept.cell k3' (fun h => h) d1; have d2' := Kept.cell k3' (fun h => h) d2; have d3' := Kept.cell k3' (fun h => h) d3; clear hv3 k3 k3')))
        go_wp2
        go_returns
        refine ⟨_, _, rfl, V3.out, ?_, S3.out⟩
        show l.list ++ (k, x) :: r.list = insL k x (l.list ++ (bk, bv) :: r.list)
        rw [insL_right k x _ _ (fun a ha => ordS.lt_le (HS3.out a ha) hlt)]
        simp [insL, hlt, hgt]
      · skip
        have HCMP : Hid (∀ W, Calls Try.prog 72 #[.string k, .string bk] W fun e w' => e = .returned (.int .i64 (1)) ∧ W = w') := fun W => by
          have := cmp_str k bk W
          simpa [hlt, hgt] using this
        go_enter Try.func49, Try.ntmps49
        go_wp2
        go_region_held3 (fun w' => w'.cell? ⟨w.heap.size, 0, none⟩ = some (.string k) ∧ w'.cell? ⟨gh, 0, none⟩ = some (.string bk))
          (first | go_keep | (go_split_ands; assumption) | assumption)
          ((go_at_call 72; go_must (refine (HCMP.out _).mono ?_; rintro e w1 ⟨rfl, rfl⟩)))
        go_wp2
        obtain ⟨w2, hw2⟩ : ∃ W, W = (w.alloc (.cells #[.string k, .int .i64 x] 54)).drew := ⟨_, rfl⟩
        rw [← hw2]
        have k2 : Same w w2 := by rw [hw2]; exact (same_alloc w _).drew
        have kb2 : Same (w.alloc (.cells #[.string k, .int .i64 x] 54)) w2 := by rw [hw2]; exact (Kept.refl _ _).drew
        have K2 := hidden k2
        have b2 := HBX.out w2 _ _ kb2
        have x0 : w2.cell? ⟨w.heap.size, 0, none⟩ = some (.string k) := blk_cell b2
        have x1 : w2.cell? ⟨w.heap.size, 1, none⟩ = some (.int .i64 x) := blk_cell b2
        obtain ⟨d0, d1, d2, d3⟩ := HC.out w2 k2
        clear hw2 kb2 k2 b2 a0
        go_region_held3 (fun w' => w'.cell? ⟨w.heap.size, 0, none⟩ = some (.string k) ∧ w'.cell? ⟨w.heap.size, 1, none⟩ = some (.int .i64 x) ∧ w'.cell? ⟨gh, 0, none⟩ = some (.string bk) ∧ w'.cell? ⟨gh, 1, none⟩ = some (.int .i64 bv) ∧ w'.cell? ⟨gh, 2, none⟩ = some (.pointer pl) ∧ w'.cell? ⟨gh, 3, none⟩ = some (.pointer ph))
          (first | go_keep | (go_split_ands; exact ⟨by assumption, by assumption, by assumption, by assumption, by assumption, by assumption⟩))
          ((first
            | (go_at_call 49; go_must (refine (IR.out _ _ (HR.out _ (Kept.trans K2.out (Kept.refl _ w2).drew))).mono ?_; rintro e w3 ⟨v3, t3, rfl, hv3, hl3, k3⟩; obtain ⟨p3, rfl⟩ := hv3.ptr; have V3 := hidden hv3; have L3 := hidden hl3; have k3' := Kept.trans (Kept.refl _ w2).drew k3; have S3 := hidden (Kept.trans K2.out k3'); have x0' := Kept.cell k3' (fun h => h) x0; have x1' := Kept.cell k3' (fun h => h) x1; have d0' := Kept.cell k3' (fun h => h) d0; have d1' := Kept.cell k3' (fun h => h) d1; have d2' := Kept.cell k3' (fun h => h) d2; have d3' := Kept.cell k3' (fun h => h) d3; have Z3 : Hid (t3.size ≤ r.size + 1) := (by rw [Hid, ← T.list_len, hl3, ← T.list_len]; exact insL_len k x _); clear hv3 hl3 k3 k3'))
            | (go_at_call 80; go_must (refine (bal_any bk bv (HL.out _ S3.out) V3.out (by have := Z3.out; omega)).mono ?_; rintro e w4 ⟨v4, t4, rfl, hv4, hl4, k4⟩; obtain ⟨p4, rfl⟩ := hv4.ptr; have V4 := hidden hv4; have L4 := hidden hl4; have S4 := hidden (Kept.trans S3.out k4); have x0'' := Kept.cell k4 (fun h => h) x0'; have x1'' := Kept.cell k4 (fun h => h) x1'; have d0'' := Kept.cell k4 (fun h => h) d0'; have d1'' := Kept.cell k4 (fun h => h) d1'; have d2'' := Kept.cell k4 (fun h => h) d2'; have d3'' := Kept.cell k4 (fun h => h) d3'; clear hv4 hl4 k4))))
        go_wp2
        go_returns
        refine ⟨_, _, rfl, V4.out, ?_, S4.out⟩
        rw [L4.out, L3.out]
        show l.list ++ (bk, bv) :: insL k x r.list = insL k x (l.list ++ (bk, bv) :: r.list)
        rw [insL_right k x _ _ (fun a ha => ordS.lt_lt (HS3.out a ha) hgt)]
        simp [insL, hlt, hgt]
    · skip
      have HCMP : Hid (∀ W, Calls Try.prog 72 #[.string k, .string bk] W fun e w' => e = .returned (.int .i64 (-1)) ∧ W = w') := fun W => by
        have := cmp_str k bk W
        simpa [hlt] using this
      go_enter Try.func49, Try.ntmps49
      go_wp2
      go_region_held3 (fun w' => w'.cell? ⟨w.heap.size, 0, none⟩ = some (.string k) ∧ w'.cell? ⟨gh, 0, none⟩ = some (.string bk))
        (first | go_keep | (go_split_ands; assumption) | assumption)
        ((go_at_call 72; go_must (refine (HCMP.out _).mono ?_; rintro e w1 ⟨rfl, rfl⟩)))
      go_wp2
      obtain ⟨w2, hw2⟩ : ∃ W, W = (w.alloc (.cells #[.string k, .int .i64 x] 54)).drew := ⟨_, rfl⟩
      rw [← hw2]
      have k2 : Same w w2 := by rw [hw2]; exact (same_alloc w _).drew
      have kb2 : Same (w.alloc (.cells #[.string k, .int .i64 x] 54)) w2 := by rw [hw2]; exact (Kept.refl _ _).drew
      have K2 := hidden k2
      have b2 := HBX.out w2 _ _ kb2
      have x0 : w2.cell? ⟨w.heap.size, 0, none⟩ = some (.string k) := blk_cell b2
      have x1 : w2.cell? ⟨w.heap.size, 1, none⟩ = some (.int .i64 x) := blk_cell b2
      obtain ⟨d0, d1, d2, d3⟩ := HC.out w2 k2
      clear hw2 kb2 k2 b2 a0
      go_region_held3 (fun w' => w'.cell? ⟨w.heap.size, 0, none⟩ = some (.string k) ∧ w'.cell? ⟨w.heap.size, 1, none⟩ = some (.int .i64 x) ∧ w'.cell? ⟨gh, 0, none⟩ = some (.string bk) ∧ w'.cell? ⟨gh, 1, none⟩ = some (.int .i64 bv) ∧ w'.cell? ⟨gh, 2, none⟩ = some (.pointer pl) ∧ w'.cell? ⟨gh, 3, none⟩ = some (.pointer ph))
        (first | go_keep | (go_split_ands; exact ⟨by assumption, by assumption, by assumption, by assumption, by assumption, by assumption⟩))
        ((first
          | (go_at_call 49; go_must (refine (IL.out _ _ (HL.out _ (Kept.trans K2.out (Kept.refl _ w2).drew))).mono ?_; rintro e w3 ⟨v3, t3, rfl, hv3, hl3, k3⟩; obtain ⟨p3, rfl⟩ := hv3.ptr; have V3 := hidden hv3; have L3 := hidden hl3; have k3' := Kept.trans (Kept.refl _ w2).drew k3; have S3 := hidden (Kept.trans K2.out k3'); have x0' := Kept.cell k3' (fun h => h) x0; have x1' := Kept.cell k3' (fun h => h) x1; have d0' := Kept.cell k3' (fun h => h) d0; have d1' := Kept.cell k3' (fun h => h) d1; have d2' := Kept.cell k3' (fun h => h) d2; have d3' := Kept.cell k3' (fun h => h) d3; have Z3 : Hid (t3.size ≤ l.size + 1) := (by rw [Hid, ← T.list_len, hl3, ← T.list_len]; exact insL_len k x _); clear hv3 hl3 k3 k3'))
          | (go_at_call 80; go_must (refine (bal_any bk bv V3.out (HR.out _ S3.out) (by have := Z3.out; omega)).mono ?_; rintro e w4 ⟨v4, t4, rfl, hv4, hl4, k4⟩; obtain ⟨p4, rfl⟩ := hv4.ptr; have V4 := hidden hv4; have L4 := hidden hl4; have S4 := hidden (Kept.trans S3.out k4); have x0'' := Kept.cell k4 (fun h => h) x0'; have x1'' := Kept.cell k4 (fun h => h) x1'; have d0'' := Kept.cell k4 (fun h => h) d0'; have d1'' := Kept.cell k4 (fun h => h) d1'; have d2'' := Kept.cell k4 (fun h => h) d2'; have d3'' := Kept.cell k4 (fun h => h) d3'; clear hv4 hl4 k4))))
      go_wp2
      go_returns
      refine ⟨_, _, rfl, V4.out, ?_, S4.out⟩
      rw [L4.out, L3.out]
      exact (insL_left k x bk bv r.list hlt l.list).symm
end Go.Proofs.Ytelngbkbdihdnaa
