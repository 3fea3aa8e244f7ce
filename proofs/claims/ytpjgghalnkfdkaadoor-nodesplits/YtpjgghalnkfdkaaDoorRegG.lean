/- A region that draws its order, all of whose operations but the last only make memory: each is looked at once. Of no program. -/
import Derived.Test.YtpjgghalnkfdkaaDoorN12
import Derived.Deep.RegionLaw
import Derived.RegionTactic
/- append of whatever, and where the new row lies; node: Remove. -/
namespace Go.Proofs.YtpjgghalnkfdkaaDoor
open Go.RowKit
set_option linter.unusedVariables false
set_option linter.unusedSimpArgs false
theorem run_append_where {P : Program} (w : World) (t ty : TypeId) (base : Nat) (e : TypeId) (i : TypeInfo) (z : Value) (size bytes : Nat) (ht : P.underlying t = some (.slice e)) (hi : P.info? e = some i) (hz : i.zero = some z)
    (hsize : i.size = size) (hby : i.bytes = bytes) (hzs : z.cells.size = size) (hsz : 0 < size)
    (a0 : Option Addr) (n c0 : Nat) (xs : List Value) (hown : w.ownsRow base e size (.slice a0 n c0) n xs)
    (ao : Option Addr) (m c : Nat) (news : List Value) (hl : news.length = m * size) (hnews : Lies w ao m news) (h1 : ∀ u ∈ news, u.oneCell' = true)
    (h63 : n + m ≤ maxLen) (hbytes : (n + m) * bytes ≤ 140737488355328) (hbase : base ≤ w.heap.size) :
    ∃ a' cap w', (Builtin.append_ #[t, t] ty #[.slice a0 n c0, .slice ao m c]).run P w = .ok (.slice a' (n + m) cap) w' ∧
      w'.ownsRow base e size (.slice a' (n + m) cap) (n + m) (xs ++ news) ∧ w.grownBy w' (Value.slice a0 n c0).ownBlock ∧ (∀ g, (Value.slice a' (n + m) cap).ownBlock = some g → (Value.slice a0 n c0).ownBlock = some g ∨ g = w.heap.size) := by
  rcases Nat.eq_zero_or_pos m with rfl | hm
  · have hn0 : news = [] := List.length_eq_zero_iff.1 (by simpa using hl)
    subst hn0
    exact ⟨a0, c0, w, run_append_none w t ty e i ht hi a0 n c0 ao c (own_room hown), by simpa using hown, grownBy_rfl _ _, fun g hg => .inl (by simpa using hg)⟩
  · obtain ⟨ad, rfl, hc⟩ := hnews hm
    obtain ⟨g, cap, w', hr, h2, h3, h4, _⟩ := run_append_lies (P := P) w t ty base e i z size bytes ht hi hz hsize hby hzs hsz _ n xs hown ad m c news hl hc h1 hm h63 hbytes hbase _ rfl
    exact ⟨_, cap, w', hr, h2, h3, fun g' hg' => by
      have : g = g' := by simpa [Value.ownBlock] using hg'
      subst this
      exact h4⟩
theorem wp_append_where {P : Program} {w : World} {o : Oper} {a : Act} {K : Act → World → Prop} {Q : Exit → Act → World → Prop} (s x : Operand) (t : TypeId)
    (ho : o.op = .call { callee := .builtin .append, args := #[s, x], argTypes := #[t, t] })
    (base : Nat) (e : TypeId) (i : TypeInfo) (z : Value) (size bytes : Nat) (ht : P.underlying t = some (.slice e)) (hi : P.info? e = some i) (hz : i.zero = some z)
    (hsize : i.size = size) (hby : i.bytes = bytes) (hzs : z.cells.size = size) (hsz : 0 < size)
    (a0 : Option Addr) (n c0 : Nat) (xs : List Value) (hs : a.eval s = .slice a0 n c0) (hown : w.ownsRow base e size (.slice a0 n c0) n xs)
    (ao : Option Addr) (m c : Nat) (news : List Value) (hx : a.eval x = .slice ao m c) (hl : news.length = m * size) (hnews : Lies w ao m news) (h1 : ∀ u ∈ news, u.oneCell' = true)
    (h63 : n + m ≤ maxLen) (hbytes : (n + m) * bytes ≤ 140737488355328) (hbase : base ≤ w.heap.size)
    (h : ∀ a' cap w', w'.ownsRow base e size (.slice a' (n + m) cap) (n + m) (xs ++ news) → w.grownBy w' (Value.slice a0 n c0).ownBlock → (∀ g, (Value.slice a' (n + m) cap).ownBlock = some g → (Value.slice a0 n c0).ownBlock = some g ∨ g = w.heap.size) → K (a.put o.dst (.slice a' (n + m) cap)) w') : o.wp P a w K Q := by
  obtain ⟨a', cap, w', hr, h2, h3, h4⟩ := run_append_where (P := P) w t o.type base e i z size bytes ht hi hz hsize hby hzs hsz a0 n c0 xs hown ao m c news hl hnews h1 h63 hbytes hbase
  unfold Oper.wp execOp
  simp only [ho, resolve, invoke, builtin, Sem.run_bind, Sem.run_pure, Result.andThen_ok, List.map_toArray, List.map_cons, List.map_nil, hs, hx, hr]
  exact h a' cap w' h2 h3 h4
theorem wpList_append_where {P : Program} {w : World} {ops : Array Oper} {rest : List Oper} {o : Oper} {a : Act} {Q : Exit → Act → World → Prop} (hgd : o.guard = none) (s x : Operand) (t : TypeId)
    (ho : o.op = .call { callee := .builtin .append, args := #[s, x], argTypes := #[t, t] })
    (base : Nat) (e : TypeId) (i : TypeInfo) (z : Value) (size bytes : Nat) (ht : P.underlying t = some (.slice e)) (hi : P.info? e = some i) (hz : i.zero = some z)
    (hsize : i.size = size) (hby : i.bytes = bytes) (hzs : z.cells.size = size) (hsz : 0 < size)
    (a0 : Option Addr) (n c0 : Nat) (xs : List Value) (hs : a.eval s = .slice a0 n c0) (hown : w.ownsRow base e size (.slice a0 n c0) n xs)
    (ao : Option Addr) (m c : Nat) (news : List Value) (hx : a.eval x = .slice ao m c) (hl : news.length = m * size) (hnews : Lies w ao m news) (h1 : ∀ u ∈ news, u.oneCell' = true)
    (h63 : n + m ≤ maxLen) (hbytes : (n + m) * bytes ≤ 140737488355328) (hbase : base ≤ w.heap.size)
    (h : ∀ a' cap w', w'.ownsRow base e size (.slice a' (n + m) cap) (n + m) (xs ++ news) → w.grownBy w' (Value.slice a0 n c0).ownBlock → (∀ g, (Value.slice a' (n + m) cap).ownBlock = some g → (Value.slice a0 n c0).ownBlock = some g ∨ g = w.heap.size) → wpList P ops Q rest (a.put o.dst (.slice a' (n + m) cap)) w') : wpList P ops Q (o :: rest) a w :=
  wpList_plain hgd fun _ hK => wp_append_where s x t ho base e i z size bytes ht hi hz hsize hby hzs hsz a0 n c0 xs hs hown ao m c news hx hl hnews h1 h63 hbytes hbase fun a' cap w' h2 h3 h4 => hK _ _ (h a' cap w' h2 h3 h4)
theorem step_append_where {P : Program} {w : World} {ops : Array Oper} {o : Oper} {a : Act} {K : Act → World → Prop} {Q : Exit → Act → World → Prop} {E : Prop} (hgd : o.guard = none) (s x : Operand) (t : TypeId)
    (ho : o.op = .call { callee := .builtin .append, args := #[s, x], argTypes := #[t, t] })
    (base : Nat) (e : TypeId) (i : TypeInfo) (z : Value) (size bytes : Nat) (ht : P.underlying t = some (.slice e)) (hi : P.info? e = some i) (hz : i.zero = some z)
    (hsize : i.size = size) (hby : i.bytes = bytes) (hzs : z.cells.size = size) (hsz : 0 < size)
    (a0 : Option Addr) (n c0 : Nat) (xs : List Value) (hs : a.eval s = .slice a0 n c0) (hown : w.ownsRow base e size (.slice a0 n c0) n xs)
    (ao : Option Addr) (m c : Nat) (news : List Value) (hx : a.eval x = .slice ao m c) (hl : news.length = m * size) (hnews : Lies w ao m news) (h1 : ∀ u ∈ news, u.oneCell' = true)
    (h63 : n + m ≤ maxLen) (hbytes : (n + m) * bytes ≤ 140737488355328) (hbase : base ≤ w.heap.size)
    (h : ∀ a' cap w', w'.ownsRow base e size (.slice a' (n + m) cap) (n + m) (xs ++ news) → w.grownBy w' (Value.slice a0 n c0).ownBlock → (∀ g, (Value.slice a' (n + m) cap).ownBlock = some g → (Value.slice a0 n c0).ownBlock = some g ∨ g = w.heap.size) → K (a.put o.dst (.slice a' (n + m) cap)) w') :
    if Region.wanted o (yielded ops a.tmps) = true then Oper.wp P o a w K Q else E := by
  have hw : Region.wanted o (yielded ops a.tmps) = true := by simp [Region.wanted, hgd]
  rw [if_pos hw]
  exact wp_append_where s x t ho base e i z size bytes ht hi hz hsize hby hzs hsz a0 n c0 xs hs hown ao m c news hx hl hnews h1 h63 hbytes hbase h
end Go.Proofs.YtpjgghalnkfdkaaDoor
namespace Go.Proofs.YtpjgghalnkfdkaaDoor
open Go.RowKit
set_option linter.unusedVariables false
def depB (ops : Array Oper) (i j : Nat) : Bool := match ops[i]? with
  | some o => o.after.any fun e => Region.binds .any e && e.on == j
  | none => false
/-- Each edge leads back, and from each operation but the last one some later one hangs. -/
def okB (ops : Array Oper) (m : Nat) : Bool :=
  decide (ops.size = m + 1) && ((List.range (m + 1)).all fun i => match ops[i]? with
    | some o => o.after.all fun e => !Region.binds .any e || decide (e.on < i)
    | none => false) && ((List.range m).all fun j => (List.range (m + 1)).any fun i => decide (j < i) && depB ops i j)
section
variable {P : Program} {ops : Array Oper} {Q : Exit → Act → World → Prop}
def doneOf (listed : Array Bool) (i : Nat) : Bool := listed.getD i false
theorem ready_iff {listed : Array Bool} (hs : listed.size = ops.size) {i : Nat} : i ∈ Region.ready .any ops listed ↔ i < ops.size ∧ doneOf listed i = false ∧ ∀ j, depB ops i j = true → doneOf listed j = true := by
  unfold Region.ready
  simp only [List.mem_filter, List.mem_range, Bool.and_eq_true, Bool.not_eq_true']
  constructor
  · rintro ⟨h1, h2, h3⟩
    refine ⟨h1, ?_, ?_⟩
    · unfold doneOf
      rw [Array.getD, dif_pos (by omega)] at h2 ⊢
      exact h2
    · intro j hj
      unfold depB at hj
      rw [Array.getElem?_eq_getElem h1] at hj h3
      simp only [Option.map_some, Option.getD_some, Array.all_eq_true', Array.any_eq_true', Bool.and_eq_true, Bool.or_eq_true, Bool.not_eq_true', beq_iff_eq] at hj h3
      obtain ⟨e, he, hb, rfl⟩ := hj
      rcases h3 e he with h4 | h4
      · rw [hb] at h4; cases h4
      · exact h4
  · rintro ⟨h1, h2, h3⟩
    refine ⟨h1, ?_, ?_⟩
    · unfold doneOf at h2
      rw [Array.getD, dif_pos (by omega)] at h2 ⊢
      exact h2
    · rw [Array.getElem?_eq_getElem h1]
      simp only [Option.map_some, Option.getD_some, Array.all_eq_true', Bool.or_eq_true, Bool.not_eq_true']
      intro e he
      by_cases hb : Region.binds .any e = true
      · right
        refine h3 e.on ?_
        unfold depB
        rw [Array.getElem?_eq_getElem h1]
        simp only [Array.any_eq_true', Bool.and_eq_true, beq_iff_eq]
        exact ⟨e, he, hb, rfl⟩
      · left
        simpa using hb
def und (d : Nat → Bool) (n : Nat) : Nat := ((List.range n).map fun i => if d i then 0 else 1).sum
theorem und_succ (d : Nat → Bool) (n : Nat) : und d (n + 1) = und d n + (if d n then 0 else 1) := by
  unfold und
  rw [List.range_succ, List.map_append, List.sum_append]
  simp
theorem und_same {d d' : Nat → Bool} : ∀ (n : Nat), (∀ i, i < n → d i = d' i) → und d n = und d' n
  | 0, _ => rfl
  | n + 1, h => by rw [und_succ, und_succ, und_same n (fun i hi => h i (by omega)), h n (by omega)]
theorem und_set {d d' : Nat → Bool} {i : Nat} (hi : d i = false) (hi' : d' i = true) (he : ∀ j, j ≠ i → d' j = d j) : ∀ (n : Nat), i < n → und d' n + 1 = und d n
  | 0, h => by omega
  | n + 1, h => by
    rw [und_succ, und_succ]
    by_cases hn : i = n
    · subst hn
      rw [und_same i (fun j hj => he j (by omega)), hi, hi']
      simp
    · have := und_set hi hi' he n (by omega)
      rw [he n (fun e => hn e.symm)]
      omega
theorem und_none {d : Nat → Bool} : ∀ (n : Nat), und d n = 0 → ∀ i, i < n → d i = true
  | 0, _, _, h => by omega
  | n + 1, h, i, hi => by
    rw [und_succ] at h
    by_cases hn : i = n
    · subst hn
      by_cases hd : d i = true
      · exact hd
      · rw [if_neg hd] at h; omega
    · exact und_none n (by omega) i (by omega)
theorem done_set {listed : Array Bool} {i : Nat} (hi : i < listed.size) (j : Nat) : doneOf (listed.setIfInBounds i true) j = if j = i then true else doneOf listed j := by
  unfold doneOf
  by_cases h : j = i
  · subst h
    rw [if_pos rfl]
    simp [Array.getD, hi]
  · rw [if_neg h]
    rw [Array.getD_eq_getD_getElem?, Array.getD_eq_getD_getElem?, Array.getElem?_setIfInBounds_ne (Ne.symm h)]
theorem least_below (d : Nat → Bool) : ∀ (m : Nat), (∃ k, k ≤ m ∧ d k = false) → ∃ i, i ≤ m ∧ d i = false ∧ ∀ j, j < i → d j = true
  | 0, ⟨k, hk, hd⟩ => ⟨0, Nat.le_refl _, by obtain rfl : k = 0 := by omega
                                            exact hd, fun j hj => by omega⟩
  | m + 1, hx => by
    by_cases hy : ∃ k, k ≤ m ∧ d k = false
    · obtain ⟨i, h1, h2, h3⟩ := least_below d m hy
      exact ⟨i, by omega, h2, h3⟩
    · obtain ⟨k, hk, hd⟩ := hx
      have hk1 : k = m + 1 := by
        rcases Nat.lt_or_ge k (m + 1) with h | h
        · exact absurd ⟨k, by omega, hd⟩ hy
        · omega
      subst hk1
      refine ⟨m + 1, Nat.le_refl _, hd, fun j hj => ?_⟩
      by_cases hdj : d j = true
      · exact hdj
      · exact absurd ⟨j, by omega, by simpa using hdj⟩ hy
theorem least (d : Nat → Bool) : ∀ (m : Nat), d m = false → ∃ i, i ≤ m ∧ d i = false ∧ ∀ j, j < i → d j = true
  | 0, h => ⟨0, Nat.le_refl _, h, fun j hj => by omega⟩
  | m + 1, h => by
    by_cases hx : ∃ k, k ≤ m ∧ d k = false
    · obtain ⟨k, hk, hd⟩ := hx
      obtain ⟨i, h1, h2, h3⟩ := least_below d m ⟨k, hk, hd⟩
      exact ⟨i, by omega, h2, h3⟩
    · refine ⟨m + 1, Nat.le_refl _, h, fun j hj => ?_⟩
      by_cases hd : d j = true
      · exact hd
      · exact absurd ⟨j, by omega, by simpa using hd⟩ hx
structure OkP (ops : Array Oper) (m : Nat) : Prop where
  size : ops.size = m + 1
  back : ∀ i j, i ≤ m → depB ops i j = true → j < i
  on : ∀ j, j < m → ∃ i, i ≤ m ∧ j < i ∧ depB ops i j = true
theorem okP {m : Nat} (h : okB ops m = true) : OkP ops m := by
  simp only [okB, Bool.and_eq_true, decide_eq_true_eq, List.all_eq_true, List.mem_range, List.any_eq_true] at h
  obtain ⟨⟨h1, h2⟩, h3⟩ := h
  refine ⟨h1, fun i j hi hd => ?_, fun j hj => ?_⟩
  · have := h2 i (by omega)
    unfold depB at hd
    rw [Array.getElem?_eq_getElem (by omega)] at hd this
    simp only [Array.all_eq_true', Array.any_eq_true', Bool.and_eq_true, Bool.or_eq_true, Bool.not_eq_true', beq_iff_eq, decide_eq_true_eq] at hd this
    obtain ⟨e, he, hb, rfl⟩ := hd
    rcases this e he with h4 | h4
    · rw [hb] at h4; cases h4
    · exact h4
  · obtain ⟨i, hi, hd⟩ := h3 j hj
    exact ⟨i, by omega, hd.1, hd.2⟩
theorem all_done {m : Nat} (ok : OkP ops m) {d : Nat → Bool} (hcl : ∀ i j, i ≤ m → d i = true → depB ops i j = true → d j = true) (hm : ∀ j, depB ops m j = true → d j = true) : ∀ (k j : Nat), m - j = k → j < m → d j = true := by
  intro k
  induction k using Nat.strongRecOn with
  | _ k ih =>
    intro j hk hj
    obtain ⟨i, hi, hlt, hd⟩ := ok.on j hj
    by_cases he : i = m
    · subst he
      exact hm j hd
    · exact hcl i j hi (ih (m - i) (by omega) i rfl (by omega)) hd
def upd {α : Type} (x : Nat → α) (i : Nat) (v : α) : Nat → α := fun j => if j = i then v else x j
/-- All operations but the last make memory alone, by an invariant over what has been done; the last one comes behind all others. -/
theorem wpAny_grow {m : Nat} (ok : OkP ops m) {w : World} {F : (Nat → Value) → Act} {I : (Nat → Bool) → (Nat → Value) → World → Prop}
    (hstep : ∀ i, i < m → ∀ d x W, Same w W → d i = false → (∀ j, depB ops i j = true → d j = true) → I d x W → wpOp P ops Q i (fun a' W' => ∃ v, a' = F (upd x i v) ∧ I (upd d i true) (upd x i v) W' ∧ Same w W') (F x) W)
    (hlast : ∀ d x W, Same w W → (∀ j, j < m → d j = true) → I d x W → wpOp P ops Q m (fun a' W' => Q .normal a' W') (F x) W) :
    ∀ (fuel : Nat) (listed : Array Bool) (x : Nat → Value) (W : World), listed.size = ops.size → und (doneOf listed) ops.size ≤ fuel → doneOf listed m = false → (∀ i j, i ≤ m → doneOf listed i = true → depB ops i j = true → doneOf listed j = true) → Same w W → I (doneOf listed) x W → wpAny P .any ops Q fuel listed (F x) W := by
  intro fuel
  induction fuel with
  | zero =>
    intro listed x W hs hu hdm _ _ _
    have := und_none _ (Nat.le_zero.1 hu) m (by have := ok.size; omega)
    rw [hdm] at this
    cases this
  | succ fuel ih =>
    intro listed x W hs hu hdm hcl hsm hr
    refine ⟨fun hn => ?_, fun i hi => ?_⟩
    · obtain ⟨i, h1, h2, h3⟩ := least (doneOf listed) m hdm
      have : i ∈ Region.ready .any ops listed := (ready_iff hs).2 ⟨by have := ok.size; omega, h2, fun j hj => h3 j (ok.back i j h1 hj)⟩
      rw [hn] at this
      cases this
    · obtain ⟨h1, h2, h3⟩ := (ready_iff hs).1 hi
      have hil : i < listed.size := by omega
      by_cases him : i = m
      · subst him
        have hall : ∀ j, j < i → doneOf listed j = true := fun j hj => all_done ok hcl h3 _ j rfl hj
        refine wpOp_mono (fun a' W' hq => ?_) (hlast (doneOf listed) x W hsm hall hr)
        have hnone : Region.ready .any ops (listed.setIfInBounds i true) = [] := by
          rw [List.eq_nil_iff_forall_not_mem]
          intro k hk
          obtain ⟨g1, g2, _⟩ := (ready_iff (by simpa using hs)).1 hk
          rw [done_set hil] at g2
          split at g2
          · cases g2
          · rename_i hne
            rw [hall k (by have := ok.size; omega)] at g2
            cases g2
        cases fuel with
        | zero => exact ⟨hnone, hq⟩
        | succ f => exact ⟨fun _ => hq, fun k hk => by rw [hnone] at hk; cases hk⟩
      · have hlt : i < m := by have := ok.size; omega
        refine wpOp_mono (fun a' W' hq => ?_) (hstep i hlt (doneOf listed) x W hsm h2 h3 hr)
        obtain ⟨v, rfl, hv, hw⟩ := hq
        have hde : doneOf (listed.setIfInBounds i true) = upd (doneOf listed) i true := by
          funext j
          rw [done_set hil]
          rfl
        refine ih _ _ _ (by simpa using hs) ?_ ?_ ?_ hw (by rw [hde]; exact hv)
        · have := und_set (d := doneOf listed) (d' := doneOf (listed.setIfInBounds i true)) h2 (by rw [done_set hil, if_pos rfl]) (fun j hj => by rw [done_set hil, if_neg hj]) ops.size h1
          omega
        · rw [done_set hil, if_neg (fun e => him e.symm)]
          exact hdm
        · intro k j hk hd hdep
          rw [done_set hil] at hd ⊢
          split
          · rfl
          · split at hd
            · rename_i _ hki
              subst hki
              exact h3 j hdep
            · exact hcl k j hk hd hdep
theorem region_grow {id m : Nat} {a : Act} {w : World} (hm : P.follows .mixedOrders = true) (hok : okB ops m = true) {F : (Nat → Value) → Act} {I : (Nat → Bool) → (Nat → Value) → World → Prop} (x0 : Nat → Value) (hF : F x0 = a) (h0 : I (fun _ => false) x0 w.drew)
    (hstep : ∀ i, i < m → ∀ d x W, Same w W → d i = false → (∀ j, depB ops i j = true → d j = true) → I d x W → wpOp P ops Q i (fun a' W' => ∃ v, a' = F (upd x i v) ∧ I (upd d i true) (upd x i v) W' ∧ Same w W') (F x) W)
    (hlast : ∀ d x W, Same w W → (∀ j, j < m → d j = true) → I d x W → wpOp P ops Q m (fun a' W' => Q .normal a' W') (F x) W) : (Code.region id ops true).wp P Q a w := by
  have ok := okP hok
  refine wp_region_any hm ?_
  rw [← hF]
  have hnd : doneOf (Array.replicate ops.size false) = fun _ => false := by
    funext i
    unfold doneOf
    simp only [Array.getD]
    split <;> simp
  refine wpAny_grow ok hstep hlast _ _ _ _ (by simp) ?_ (by rw [hnd]) (fun i j _ h => by rw [hnd] at h; cases h) ⟨rfl, rfl, rfl, Nat.le_refl _, fun _ _ _ => rfl⟩ (by rw [hnd]; exact h0)
  have h2 : ∀ (d : Nat → Bool) (k : Nat), und d k ≤ k := fun d k => by
    induction k with
    | zero => exact Nat.le_refl _
    | succ k ih => rw [und_succ]; split <;> omega
  exact h2 _ _
end
end Go.Proofs.YtpjgghalnkfdkaaDoor
