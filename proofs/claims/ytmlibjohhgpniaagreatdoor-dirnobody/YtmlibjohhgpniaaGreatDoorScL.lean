/- tree: Scan of a tree of one leaf goes over its keys and values within the bounds. -/
import Derived.Test.YtmlibjohhgpniaaGreatDoorRgT
/- tree: the spots of a tree of one leaf, gone over, for rounds that hand on. (Made by mkspa.py.) -/
namespace Go.Proofs.YtmlibjohhgpniaaGreatDoor
open Go.RowKit Go.Shelf
set_option linter.unusedVariables false
set_option linter.unusedSimpArgs false
attribute [local go_sem] Oper.semAt_some
attribute [local go_sem] run_store_fn
set_option maxHeartbeats 2000000 in
set_option maxRecDepth 100000 in
theorem over_at (n : Nd) (a1 a2 a3 : Option Addr) (k1 c1 k2 c2 k3 c3 : Nat) (W : World) (B Y Fb Tb Ob g p lp : Nat) (R1 R2 : World → Prop) (Kq : World → World → Prop) (hs : ∀ W1 W2 k, Kq W1 W2 → W.heap.size ≤ k → W1.heap[k]? = some (.cells #[.pointer (some ⟨p, 0, none⟩), .string ⟨#[]⟩, .string ⟨#[]⟩, .int .i64 1] 96 (0, 0)) → W2.heap[k]? = some (.cells #[.pointer (some ⟨p, 0, none⟩), .string ⟨#[]⟩, .string ⟨#[]⟩, .int .i64 1] 96 (0, 0))) (hp6 : ∀ W1 W2, Same W W1 → Kq W1 W2 → W2.cell? ⟨p, 6, none⟩ = some (.slice none 0 0)) (h : LT W g p n a1 a2 a3 k1 c1 k2 c2 k3 c3) (hl : n.leaf = true) (hb1 : n.keys.length ≤ 17592186044416) (hB : W.heap[B]? = some (.cells #[.pointer (some ⟨g, 0, none⟩)] 22 (0, 0))) (hYb : W.heap[Y]? = some (.cells #[.func (.yield lp) #[] #[]] 204 (0, 0)))
    (hY : ∀ W1, Same W W1 → YieldAt Fence.wide 4 Tryz.prog lp #[.agg #[.pointer (some ⟨p, 0, none⟩), .string ⟨#[]⟩, .string ⟨#[]⟩, .int .i64 1], .int .i64 0] W1 fun e W' => (e = .returned (.bool true) ∧ R1 W' ∧ Kq W1 W') ∨ (e = .returned (.bool false) ∧ R2 W')) :
    CallsIn Fence.wide 5 Tryz.prog 122 #[.agg #[.pointer (some ⟨p, 0, none⟩), .string ⟨#[]⟩, .string ⟨#[]⟩, .int .i64 1], .pointer (some ⟨B, 0, none⟩), .pointer (some ⟨Y, 0, none⟩), .pointer (some ⟨Fb, 0, none⟩), .pointer (some ⟨Tb, 0, none⟩), .pointer (some ⟨Ob, 0, none⟩)] W fun e W' => (∃ v, e = .returned v) ∧ (R1 W' ∨ R2 W') := by
  have HLk := hidden (fun W1 (k : Same W W1) => (callsIn_wide (n := 4)).2 (tlook n a1 a2 a3 k1 c1 k2 c2 k3 c3 W1 g p (h.same k) hl hb1))
  have K0 := hidden (same_alloc W (.cells #[.pointer (some ⟨p, 0, none⟩), .string ⟨#[]⟩, .string ⟨#[]⟩, .int .i64 1] 96))
  have GS := hidden (blk_new W (.cells #[.pointer (some ⟨p, 0, none⟩), .string ⟨#[]⟩, .string ⟨#[]⟩, .int .i64 1] 96))
  have HS := hidden hs
  have HP6 := hidden hp6
  have GB := hidden hB
  have GY := hidden hYb
  have GP := hidden h.pg.box
  have HY := hidden hY
  have b0 : (W.alloc (.cells #[.pointer (some ⟨p, 0, none⟩), .string ⟨#[]⟩, .string ⟨#[]⟩, .int .i64 1] 96)).cell? ⟨B, 0, none⟩ = some (.pointer (some ⟨g, 0, none⟩)) := blk_cell (blk_alloc hB _)
  clear h hB hYb hY hs hp6
  refine callsIn_of_wp Tryz.func122 rfl trivial ?_ rfl
  simp only [Tryz.ntmps122, List.size_toArray, List.length_cons, List.length_nil, Nat.reduceAdd, Nat.reduceSub, Array.replicate_succ, Array.replicate_zero, List.push_toArray, List.append_toArray, List.nil_append, List.cons_append]
  gi_wp2_with (refine ⟨trivial, ?_⟩; gi_at_call 51; refine (HLk.out _ K0.out).mono ?_; rintro e w1 ⟨rfl, q1⟩; have K1 := hidden (K0.out.trans q1); have S1 := hidden (blk_kept q1 (fun h => h) GS.out); have y0 : w1.cell? ⟨Y, 0, none⟩ = some (.func (.yield lp) #[] #[]) := blk_cell (blk_kept K1.out (fun h => h) GY.out); have s0 := blk_cell (j := 0) S1.out; have s1 := blk_cell (j := 1) S1.out; have s2 := blk_cell (j := 2) S1.out; have s3 := blk_cell (j := 3) S1.out; obtain ⟨fn, tmps, assign, body, hy, hR⟩ := HY.out w1 K1.out; clear q1)
  refine hR.mono ?_
  rintro e W3 (⟨rfl, hJ3, hk3⟩ | ⟨rfl, hJx3⟩)
  · have HJ3 := hidden hJ3
    have g1 := HS.out _ _ _ hk3 (Nat.le_refl _) S1.out
    have u0 : W3.cell? ⟨W.heap.size, 0, none⟩ = some (.pointer (some ⟨p, 0, none⟩)) := blk_cell g1
    have u6 : W3.cell? ⟨p, 6, none⟩ = some (.slice none 0 0) := HP6.out _ _ K1.out hk3
    clear hJ3 hk3 g1 hR hy y0 s0 s1 s2 s3 b0
    gi_wp2
    refine wpIn_loop_once ?_
    gi_wp2
    refine bodyPost_ret (v := .bool true) (by simp [results, Tryz.results122, go_sem]) rfl ⟨⟨_, rfl⟩, .inl HJ3.out⟩
  · have HJx := hidden hJx3
    clear hJx3 hR hy y0 s0 s1 s2 s3 b0
    gi_wp2
    refine bodyPost_ret (v := .bool false) (by simp [results, Tryz.results122, go_sem]) rfl ⟨⟨_, rfl⟩, .inr HJx.out⟩
set_option maxHeartbeats 2000000 in
set_option maxRecDepth 100000 in
theorem spots_at (n : Nd) (a1 a2 a3 : Option Addr) (k1 c1 k2 c2 k3 c3 : Nat) (W : World) (B g p : Nat) (Kq : World → World → Prop) (hs : ∀ W1 W2 k, Kq W1 W2 → W.heap.size ≤ k → W1.heap[k]? = some (.cells #[.pointer (some ⟨p, 0, none⟩), .string ⟨#[]⟩, .string ⟨#[]⟩, .int .i64 1] 96 (0, 0)) → W2.heap[k]? = some (.cells #[.pointer (some ⟨p, 0, none⟩), .string ⟨#[]⟩, .string ⟨#[]⟩, .int .i64 1] 96 (0, 0))) (hp6 : ∀ W1 W2, Same W W1 → Kq W1 W2 → W2.cell? ⟨p, 6, none⟩ = some (.slice none 0 0)) (hB1 : W.heap[B]? = some (.cells #[.pointer (some ⟨g, 0, none⟩)] 22 (0, 0))) (hL1 : LT W g p n a1 a2 a3 k1 c1 k2 c2 k3 c3) (hl : n.leaf = true) (hb1 : n.keys.length ≤ 17592186044416) :
    SeqAt Fence.wide 6 Tryz.prog 121 #[.pointer (some ⟨B, 0, none⟩), .pointer (some ⟨B + 1, 0, none⟩), .pointer (some ⟨B + 2, 0, none⟩)] (fun (_ : Unit) => #[.agg #[.pointer (some ⟨p, 0, none⟩), .string ⟨#[]⟩, .string ⟨#[]⟩, .int .i64 1], .int .i64 0]) Kq (fun ys => ys = [()]) (fun pre => pre = [()]) 1 W := fun lp J Jx hJ hJx hY h0 => by
  have HY : Hid (∀ W1, Same W W1 → YieldAt Fence.wide 4 Tryz.prog lp #[.agg #[.pointer (some ⟨p, 0, none⟩), .string ⟨#[]⟩, .string ⟨#[]⟩, .int .i64 1], .int .i64 0] W1 fun e W' => (e = .returned (.bool true) ∧ J [()] W' ∧ Kq W1 W') ∨ (e = .returned (.bool false) ∧ Jx [()] W')) := hidden (fun W1 k => by
    obtain ⟨fn, tmps, asg, bd, hy, hr⟩ := yield_any 4 (hY [] () W1 (hJ [] W W1 none h0 (grown_same k) (fun r e => by cases e)) (by decide))
    exact ⟨fn, tmps, asg, bd, hy, hr.mono fun e W' hw => hw.elim .inl (fun ⟨a, b, _⟩ => .inr ⟨a, b⟩)⟩)
  have HTp := hidden (fun W1 (k : Same W W1) => (callsIn_wide (n := 5)).2 (ttop n a1 a2 a3 k1 c1 k2 c2 k3 c3 W1 g p (hL1.same k)))
  have HOv := hidden (fun W1 (kk : Same W W1) Y Fb Tb Ob hYb => over_at n a1 a2 a3 k1 c1 k2 c2 k3 c3 W1 B Y Fb Tb Ob g p lp (J [()]) (Jx [()]) Kq (fun A C k hq hk hc => hs A C k hq (Nat.le_trans kk.size hk) hc) (fun A C ka hq => hp6 A C (kk.trans ka) hq) (hL1.same kk) hl hb1 (blk_kept kk (fun h => h) hB1) hYb (fun W2 k2 => HY.out W2 (kk.trans k2)))
  have g3 : ((W.alloc (.cells #[.func (.yield lp) #[] #[]] 204)).alloc (.cells #[(.func (.func 122) #[] #[.pointer (some ⟨B, 0, none⟩), .pointer (some ⟨W.heap.size, 0, none⟩), .pointer (some ⟨B + 1, 0, none⟩), .pointer (some ⟨B + 2, 0, none⟩), .pointer (some ⟨W.heap.size + 1, 0, none⟩)])] 205)).heap[W.heap.size + 1]? = some (.cells #[(.func (.func 122) #[] #[.pointer (some ⟨B, 0, none⟩), .pointer (some ⟨W.heap.size, 0, none⟩), .pointer (some ⟨B + 1, 0, none⟩), .pointer (some ⟨B + 2, 0, none⟩), .pointer (some ⟨W.heap.size + 1, 0, none⟩)])] 205 (0, 0)) := by have := blk_new (W.alloc (.cells #[.func (.yield lp) #[] #[]] 204)) (.cells #[(.func (.func 122) #[] #[.pointer (some ⟨B, 0, none⟩), .pointer (some ⟨W.heap.size, 0, none⟩), .pointer (some ⟨B + 1, 0, none⟩), .pointer (some ⟨B + 2, 0, none⟩), .pointer (some ⟨W.heap.size + 1, 0, none⟩)])] 205); simpa using this
  have k3 : Same W ((W.alloc (.cells #[.func (.yield lp) #[] #[]] 204)).alloc (.cells #[(.func (.func 122) #[] #[.pointer (some ⟨B, 0, none⟩), .pointer (some ⟨W.heap.size, 0, none⟩), .pointer (some ⟨B + 1, 0, none⟩), .pointer (some ⟨B + 2, 0, none⟩), .pointer (some ⟨W.heap.size + 1, 0, none⟩)])] 205)) := ((Kept.refl _ W).alloc _).alloc _
  have g4 : ((W.alloc (.cells #[.func (.yield lp) #[] #[]] 204)).alloc (.cells #[(.func (.func 122) #[] #[.pointer (some ⟨B, 0, none⟩), .pointer (some ⟨W.heap.size, 0, none⟩), .pointer (some ⟨B + 1, 0, none⟩), .pointer (some ⟨B + 2, 0, none⟩), .pointer (some ⟨W.heap.size + 1, 0, none⟩)])] 205)).heap[W.heap.size]? = some (.cells #[.func (.yield lp) #[] #[]] 204 (0, 0)) := blk_alloc (blk_new W _) _
  have G3 := hidden g3
  have G4 := hidden g4
  have K3 := hidden k3
  clear g3 g4 k3
  clear hY hJ hJx h0
  have HBW := hidden hB1
  clear hB1 hL1
  refine callsIn_of_wp Tryz.func121 rfl trivial ?_ rfl
  simp only [Tryz.ntmps121, List.size_toArray, List.length_cons, List.length_nil, Nat.reduceAdd, Nat.reduceSub, Array.replicate_succ, Array.replicate_zero, List.push_toArray, List.append_toArray, List.nil_append, List.cons_append]
  gi_wp2
  generalize (W.alloc (.cells #[.func (.yield lp) #[] #[]] 204)).alloc (.cells #[(.func (.func 122) #[] #[.pointer (some ⟨B, 0, none⟩), .pointer (some ⟨W.heap.size, 0, none⟩), .pointer (some ⟨B + 1, 0, none⟩), .pointer (some ⟨B + 2, 0, none⟩), .pointer (some ⟨W.heap.size + 1, 0, none⟩)])] 205) = WS at G3 G4 K3 ⊢
  have o1 : WS.cell? ⟨W.heap.size + 1, 0, none⟩ = some (.func (.func 122) #[] #[.pointer (some ⟨B, 0, none⟩), .pointer (some ⟨W.heap.size, 0, none⟩), .pointer (some ⟨B + 1, 0, none⟩), .pointer (some ⟨B + 2, 0, none⟩), .pointer (some ⟨W.heap.size + 1, 0, none⟩)]) := blk_cell G3.out
  have o2 : WS.cell? ⟨B, 0, none⟩ = some (.pointer (some ⟨g, 0, none⟩)) := blk_cell (blk_kept K3.out (fun h => h) HBW.out)
  have hmx : Tryz.prog.follows .mixedOrders = true := by kernel_rfl
  have hdd : ∀ k : Nat, (Fence.wide.depth.isSome = true → 1 ≤ k) := fun k h => by cases h
  refine wpIn_region_any hmx ?_
  change wpAnyIn _ _ _ _ _ _ _ _ _ (World.drew _)
  refine wpAnyIn_ready (rs := [0, 1]) (by kernel_rfl) (by simp) ?_
  refine AllReadyIn.cons rfl (fun K hK => ?_) (AllReadyIn.cons rfl (fun K hK => ?_) AllReadyIn.nil)
  · go_simp
    refine hK _ _ ?_; clear hK K
    refine wpAnyIn_ready (rs := [1]) (by kernel_rfl) (by simp) ?_; refine AllReadyIn.cons rfl (fun K hK => ?_) AllReadyIn.nil; go_simp
    refine hK _ _ ?_; clear hK K
    refine wpAnyIn_ready (rs := [2]) (by kernel_rfl) (by simp) ?_; refine AllReadyIn.cons rfl (fun K hK => ?_) AllReadyIn.nil; go_simp
    refine ⟨trivial, ?_⟩
    refine (HTp.out _ K3.out.drew).mono ?_
    rintro e w4 ⟨rfl, q4⟩
    have K4 := hidden (K3.out.drew.trans q4)
    have o3 : w4.cell? ⟨W.heap.size + 1, 0, none⟩ = some (.func (.func 122) #[] #[.pointer (some ⟨B, 0, none⟩), .pointer (some ⟨W.heap.size, 0, none⟩), .pointer (some ⟨B + 1, 0, none⟩), .pointer (some ⟨B + 2, 0, none⟩), .pointer (some ⟨W.heap.size + 1, 0, none⟩)]) := q4.cell (fun h => h) o1
    have G5 := hidden (blk_kept q4 (fun h => h) (blk_kept ((Kept.refl (fun _ => False) WS).drew) (fun h => h) G4.out))
    clear q4
    refine hK _ _ ?_; clear hK K
    refine wpAnyIn_ready (rs := [3]) (by kernel_rfl) (by simp) ?_; refine AllReadyIn.cons rfl (fun K hK => ?_) AllReadyIn.nil; go_simp
    refine ⟨trivial, ?_⟩
    refine (HOv.out _ K4.out _ _ _ _ G5.out).mono ?_
    rintro e w5 ⟨⟨v, rfl⟩, h5⟩
    have H5 := hidden h5
    clear h5
    refine hK _ _ ?_; clear hK K
    refine wpAnyIn_done (by kernel_rfl) ?_ _
    gi_wp2
    go_end0
    refine ⟨⟨_, rfl⟩, ?_⟩
    rcases H5.out with h | h
    · exact .inl ⟨_, rfl, h⟩
    · exact .inr ⟨_, rfl, h⟩
  · go_simp
    refine hK _ _ ?_; clear hK K
    refine wpAnyIn_ready (rs := [0, 2]) (by kernel_rfl) (by simp) ?_
    refine AllReadyIn.cons rfl (fun K hK => ?_) (AllReadyIn.cons rfl (fun K hK => ?_) AllReadyIn.nil)
    · go_simp
      refine hK _ _ ?_; clear hK K
      refine wpAnyIn_ready (rs := [2]) (by kernel_rfl) (by simp) ?_; refine AllReadyIn.cons rfl (fun K hK => ?_) AllReadyIn.nil; go_simp
      refine ⟨trivial, ?_⟩
      refine (HTp.out _ K3.out.drew).mono ?_
      rintro e w4 ⟨rfl, q4⟩
      have K4 := hidden (K3.out.drew.trans q4)
      have o3 : w4.cell? ⟨W.heap.size + 1, 0, none⟩ = some (.func (.func 122) #[] #[.pointer (some ⟨B, 0, none⟩), .pointer (some ⟨W.heap.size, 0, none⟩), .pointer (some ⟨B + 1, 0, none⟩), .pointer (some ⟨B + 2, 0, none⟩), .pointer (some ⟨W.heap.size + 1, 0, none⟩)]) := q4.cell (fun h => h) o1
      have G5 := hidden (blk_kept q4 (fun h => h) (blk_kept ((Kept.refl (fun _ => False) WS).drew) (fun h => h) G4.out))
      clear q4
      refine hK _ _ ?_; clear hK K
      refine wpAnyIn_ready (rs := [3]) (by kernel_rfl) (by simp) ?_; refine AllReadyIn.cons rfl (fun K hK => ?_) AllReadyIn.nil; go_simp
      refine ⟨trivial, ?_⟩
      refine (HOv.out _ K4.out _ _ _ _ G5.out).mono ?_
      rintro e w5 ⟨⟨v, rfl⟩, h5⟩
      have H5 := hidden h5
      clear h5
      refine hK _ _ ?_; clear hK K
      refine wpAnyIn_done (by kernel_rfl) ?_ _
      gi_wp2
      go_end0
      refine ⟨⟨_, rfl⟩, ?_⟩
      rcases H5.out with h | h
      · exact .inl ⟨_, rfl, h⟩
      · exact .inr ⟨_, rfl, h⟩
    · go_simp
      refine ⟨trivial, ?_⟩
      refine (HTp.out _ K3.out.drew).mono ?_
      rintro e w4 ⟨rfl, q4⟩
      have K4 := hidden (K3.out.drew.trans q4)
      have o3 : w4.cell? ⟨W.heap.size + 1, 0, none⟩ = some (.func (.func 122) #[] #[.pointer (some ⟨B, 0, none⟩), .pointer (some ⟨W.heap.size, 0, none⟩), .pointer (some ⟨B + 1, 0, none⟩), .pointer (some ⟨B + 2, 0, none⟩), .pointer (some ⟨W.heap.size + 1, 0, none⟩)]) := q4.cell (fun h => h) o1
      have G5 := hidden (blk_kept q4 (fun h => h) (blk_kept ((Kept.refl (fun _ => False) WS).drew) (fun h => h) G4.out))
      clear q4
      refine hK _ _ ?_; clear hK K
      refine wpAnyIn_ready (rs := [0]) (by kernel_rfl) (by simp) ?_; refine AllReadyIn.cons rfl (fun K hK => ?_) AllReadyIn.nil; go_simp
      refine hK _ _ ?_; clear hK K
      refine wpAnyIn_ready (rs := [3]) (by kernel_rfl) (by simp) ?_; refine AllReadyIn.cons rfl (fun K hK => ?_) AllReadyIn.nil; go_simp
      refine ⟨trivial, ?_⟩
      refine (HOv.out _ K4.out _ _ _ _ G5.out).mono ?_
      rintro e w5 ⟨⟨v, rfl⟩, h5⟩
      have H5 := hidden h5
      clear h5
      refine hK _ _ ?_; clear hK K
      refine wpAnyIn_done (by kernel_rfl) ?_ _
      gi_wp2
      go_end0
      refine ⟨⟨_, rfl⟩, ?_⟩
      rcases H5.out with h | h
      · exact .inl ⟨_, rfl, h⟩
      · exact .inr ⟨_, rfl, h⟩
end Go.Proofs.YtmlibjohhgpniaaGreatDoor
namespace Go.Proofs.YtmlibjohhgpniaaGreatDoor
open Go.RowKit Go.Shelf
set_option linter.unusedVariables false
set_option linter.unusedSimpArgs false
attribute [local go_sem] Oper.semAt_some
attribute [local go_sem] run_store_fn
abbrev KV := ByteArray × ByteArray
/-- Within the bounds: not below the first, and below the second, if that is one. -/
def inR (x y : ByteArray) (p : KV) : Bool := !ltS p.1 x && (y.toList == [] || ltS p.1 y)
def encK (p : KV) : Array Value := #[.string p.1, .string p.2]
/-- What a leaf has within the bounds. -/
def Nd.rg (n : Nd) (x y : ByteArray) : List KV := (n.keys.zip n.vals).filter (inR x y)
theorem rg_step {x y : ByteArray} {l : List KV} {t : Nat} (h : t < l.length) : (l.take (t + 1)).filter (inR x y) = (l.take t).filter (inR x y) ++ (if inR x y l[t] then [l[t]] else []) := by
  rw [List.take_succ_eq_append_getElem h, List.filter_append]
  congr 1
  cases h' : inR x y l[t] <;> simp [h']
theorem rg_pre (x y : ByteArray) (l : List KV) (t : Nat) : (l.take t).filter (inR x y) <+: l.filter (inR x y) := by
  have := List.take_append_drop t l
  refine ⟨(l.drop t).filter (inR x y), ?_⟩
  rw [← List.filter_append, this]
/-- Cells are kept but those that may turn. -/
structure KE (T : Nat → TypeId → Prop) (w w' : World) : Prop where
  size : w.heap.size ≤ w'.heap.size
  cells : ∀ (k : Nat) (cs : Array Value) (t : TypeId) (fz : Nat × Nat), w.heap[k]? = some (.cells cs t fz) → ¬ T k t → w'.heap[k]? = some (.cells cs t fz)
theorem KX.ke {T : Nat → TypeId → Prop} {X : Nat} {a b : World} (h : KX T X a b) : KE T a b := ⟨h.size, h.cells⟩
theorem KE.refl (T : Nat → TypeId → Prop) (w : World) : KE T w w := ⟨Nat.le_refl _, fun _ _ _ _ h _ => h⟩
theorem KE.trans {T : Nat → TypeId → Prop} {a b c : World} (h : KE T a b) (k : KE T b c) : KE T a c := ⟨Nat.le_trans h.size k.size, fun i cs t fz hi ht => k.cells i cs t fz (h.cells i cs t fz hi ht) ht⟩
theorem KE.of {T : Nat → TypeId → Prop} {a b : World} (k : Same a b) : KE T a b := ⟨k.size, fun i cs t fz hi _ => (k.block i (blk_lt hi) (fun h => h)).trans hi⟩
theorem KE.grown {T : Nat → TypeId → Prop} {B : Nat} {a b c : World} {row : Option Nat} (h : KE T a b) (hg : b.grownBy c row) (hr : ∀ r, row = some r → B ≤ r ∧ ∃ o : Obj, b.heap[r]? = some o ∧ o.isCells = false) : KE T a c :=
  ⟨Nat.le_trans h.size hg.size, fun i cs t fz hi ht => by
    have h1 := h.cells i cs t fz hi ht
    exact (hg.block i (blk_lt h1) (fun e => by obtain ⟨_, o, ho, hc⟩ := hr i e.symm; rw [h1] at ho; cases ho; cases hc)).trans h1⟩
/-- What Scan's iterator must find again behind each round. -/
structure ScW (V : World) (B g p : Nat) (x y : ByteArray) (n : Nd) (a1 a2 a3 : Option Addr) (k1 c1 k2 c2 k3 c3 : Nat) : Prop where
  tr : LT V g p n a1 a2 a3 k1 c1 k2 c2 k3 c3
  b0 : V.heap[B]? = some (.cells #[.pointer (some ⟨g, 0, none⟩)] 22 (0, 0))
  b1 : V.heap[B + 1]? = some (.cells #[.string x] 9 (0, 0))
  b2 : V.heap[B + 2]? = some (.cells #[.string y] 9 (0, 0))
theorem ltE {a b : ByteArray} {c : Bool} (h : ltS a b = c) : Op.bytesLess a.toList b.toList = c := less_of h
set_option maxHeartbeats 4000000 in
set_option maxRecDepth 100000 in
theorem scan_leaf (n : Nd) (a1 a2 a3 : Option Addr) (k1 c1 k2 c2 k3 c3 : Nat) (E : Nat → TypeId → Prop) (X : Nat) (W : World) (B g p : Nat) (x y : ByteArray) (hX : X ≤ W.heap.size) (hW : ∀ V, KE E W V → ScW V B g p x y n a1 a2 a3 k1 c1 k2 c2 k3 c3) (hE : ∀ k, W.heap.size ≤ k → ¬ E k 96 ∧ ¬ E k 43) (hl : n.leaf = true) (hv : n.vals.length = n.keys.length) (hb1 : n.keys.length ≤ 17592186044416) (Pp : KV → Prop) (hP : ∀ q ∈ n.keys.zip n.vals, Pp q) :
    SeqAt (α := { q : KV // Pp q }) Fence.wide 7 Tryz.prog 64 #[.pointer (some ⟨B, 0, none⟩), .pointer (some ⟨B + 1, 0, none⟩), .pointer (some ⟨B + 2, 0, none⟩)] (fun q => encK q.1) (KX E X) (fun ys => ys.map (·.1) = n.rg x y) (fun pre => pre.map (·.1) <+: n.rg x y) (n.rg x y).length W := fun lp J Jx hJ hJx hY h0 => by
  have HW := hidden hW
  have HWW := hidden (hW W (KE.refl _ _))
  have HM := hidden (fun W' (k : Same W W') => (callsIn_wide (n := 6)).2 (tmade n a1 a2 a3 k1 c1 k2 c2 k3 c3 W' g p (HWW.out.tr.same k)))
  have HSp := hidden (fun W' => (callsIn_wide (n := 6)).2 (spots_fn (some ⟨g, 0, none⟩) x y W'))
  have K0 := hidden (same_alloc W (.cells #[.func (.yield lp) #[] #[]] 43))
  have c0 : (W.alloc (.cells #[.func (.yield lp) #[] #[]] 43)).cell? ⟨B, 0, none⟩ = some (.pointer (some ⟨g, 0, none⟩)) := blk_cell (blk_alloc HWW.out.b0 _)
  have GL := hidden (blk_new W (.cells #[.func (.yield lp) #[] #[]] 43))
  have HJ := hidden hJ
  have HJx := hidden hJx
  have HY := hidden hY
  have H0 := hidden h0
  have HX := hidden hX
  have HE := hidden hE
  clear hY hJ hJx h0 hX hW hE
  refine callsIn_of_wp_marks Tryz.func64 rfl trivial ?_ rfl
  simp only [Tryz.ntmps64, List.size_toArray, List.length_cons, List.length_nil, Nat.reduceAdd, Nat.reduceSub, Array.replicate_succ, Array.replicate_zero, List.push_toArray, List.append_toArray, List.nil_append, List.cons_append]
  gi_wp2_with (first
    | (refine ⟨trivial, ?_⟩; gi_at_call 49; refine (HM.out _ K0.out).mono ?_; rintro e w1 ⟨rfl, q1⟩; have K1 := hidden (K0.out.trans q1); have L1 := hidden (blk_kept q1 (fun h => h) GL.out); have d0 : w1.cell? ⟨B, 0, none⟩ = some (.pointer (some ⟨g, 0, none⟩)) := blk_cell (blk_kept K1.out (fun h => h) HWW.out.b0); have d1 : w1.cell? ⟨B + 1, 0, none⟩ = some (.string x) := blk_cell (blk_kept K1.out (fun h => h) HWW.out.b1); have d2 : w1.cell? ⟨B + 2, 0, none⟩ = some (.string y) := blk_cell (blk_kept K1.out (fun h => h) HWW.out.b2); clear q1)
    | (refine ⟨trivial, ?_⟩; gi_at_call 59; refine (HSp.out _).mono ?_; rintro e w2 ⟨u, rfl, ⟨B', rfl, hB0, hB1, q2⟩⟩; have K2 := hidden (K1.out.trans q2); have B2 := hidden hB1; have L2 := hidden (blk_kept q2 (fun h => h) L1.out); clear q2 hB1))
  have hsz := K2.out.size
  have KW2 : Hid (KE E W w2) := hidden (KE.of K2.out)
  refine range_own rfl (by decide) (gf := 121) (lb := #[.pointer (some ⟨B', 0, none⟩), .pointer (some ⟨B' + 1, 0, none⟩), .pointer (some ⟨B' + 2, 0, none⟩)]) rfl trivial (enters_of Tryz.func121 (by kernel_rfl) rfl) (T := E)
    (fun W1 kk _ => spots_at n a1 a2 a3 k1 c1 k2 c2 k3 c3 W1 B' g p (KX E (w2.heap.size + 2)) (fun A C k hq hk hc => hq.cells _ _ _ _ hc (HE.out k (Nat.le_trans (Nat.le_trans hsz kk.size) hk)).1) (fun A C ka hq => blk_cell (HW.out C (((KE.of ((K2.out.trans kk).trans ka)).trans hq.ke))).tr.pg.box) (blk_kept kk (fun h => h) B2.out) (HWW.out.tr.same (K2.out.trans kk)) hl hb1) (fun _ => rfl)
    (fun (pre : List Unit) V => (∃ l : List { q : KV // Pp q }, l.map (·.1) = (if pre = [] then [] else n.rg x y) ∧ J l V) ∧ KE E W V ∧ V.heap[W.heap.size]? = some (.cells #[.func (.yield lp) #[] #[]] 43 (0, 0)))
    (fun c _ V => c = .ret ∧ ∃ q : List { q : KV // Pp q }, q.map (·.1) <+: n.rg x y ∧ Jx q V)
    (fun s A C row hs hg hr => ⟨by obtain ⟨l, e1, hj⟩ := hs.1; exact ⟨l, e1, HJ.out _ A C row hj hg (fun r e => ⟨Nat.le_trans hsz (hr r e).1, (hr r e).2⟩)⟩, hs.2.1.grown hg hr, (hg.block _ (blk_lt hs.2.2) (fun e => by obtain ⟨_, o, ho, hc⟩ := hr _ e.symm; rw [hs.2.2] at ho; cases ho; cases hc)).trans hs.2.2⟩)
    (fun c s A C row hs hg hr => ⟨hs.1, by obtain ⟨q, hq, hj⟩ := hs.2; exact ⟨q, hq, HJx.out q A C row hj hg (fun r e => ⟨Nat.le_trans hsz (hr r e).1, (hr r e).2⟩)⟩⟩)
    ⟨⟨[], rfl, HJ.out [] W w2 none H0.out (grown_same K2.out) (fun r e => by cases e)⟩, KW2.out, L2.out⟩
    (fun _ a' V => ∃ Bx, W.heap.size ≤ Bx ∧ a' = { tmps := #[.func (.yield lp) #[] #[], .pointer (some ⟨B, 0, none⟩), .pointer (some ⟨B + 1, 0, none⟩), .pointer (some ⟨B + 2, 0, none⟩), .pointer (some ⟨W.heap.size, 0, none⟩), .pointer (some ⟨Bx, 0, none⟩), .int .i64 0, undef, undef, undef, .pointer (some ⟨g, 0, none⟩), .bool true, .bool false, .pointer (some ⟨g, 0, none⟩), .string x, .string y, .func (.func 121) #[] #[.pointer (some ⟨B', 0, none⟩), .pointer (some ⟨B' + 1, 0, none⟩), .pointer (some ⟨B' + 2, 0, none⟩)], .agg #[.pointer (some ⟨p, 0, none⟩), .string ⟨#[]⟩, .string ⟨#[]⟩, .int .i64 1], .int .i64 0, undef, undef, undef, undef, undef, undef, undef, undef, undef, undef, undef, undef, undef, undef, undef, undef, undef, undef, undef, undef, undef, undef, undef, undef, undef, undef, undef, undef, undef, undef, undef, undef, undef, undef, undef, undef, undef, undef, undef, undef, undef, undef, undef], defers := [] } ∧ V.heap[Bx]? = some (.cells #[.pointer (some ⟨p, 0, none⟩), .string ⟨#[]⟩, .string ⟨#[]⟩, .int .i64 1] 96 (0, 0)))
    (fun _ a' _ A C row hs hg hr => by
      obtain ⟨Bx, hlo, e, hb⟩ := hs
      exact ⟨Bx, hlo, e, (hg.block Bx (blk_lt hb) (fun e' => by obtain ⟨_, o, ho, hc⟩ := hr Bx e'.symm; rw [hb] at ho; cases ho; cases hc)).trans hb⟩) ?assign ?body ?done ?stop
  case assign =>
    intro l pre x' V K hI hK
    have hle := hI.2.1.size
    gi_wp2
    exact hK _ _ (KX.of (same_alloc _ _)) ⟨by obtain ⟨l, e1, hj⟩ := hI.1; exact ⟨l, e1, HJ.out _ _ _ none hj (World.grownBy_alloc _ _ none) (fun r e => by cases e)⟩, hI.2.1.trans (KE.of (same_alloc _ _)), blk_alloc hI.2.2 _⟩ ⟨_, hle, rfl, blk_new _ _⟩
  case body =>
    intro l pre x' a' V hI hA hlt
    obtain ⟨Bx, hlo, rfl, hb⟩ := hA
    have hpre : pre = [] := List.eq_nil_of_length_eq_zero (by omega)
    subst hpre
    have HJ0 : Hid (J [] V) := by
      obtain ⟨l, e1, hj⟩ := hI.1
      have e2 : l = [] := by simpa using e1
      rw [e2] at hj
      exact hj
    have HV := hidden hI.2.1
    have HYb := hidden hI.2.2
    have v0 : V.cell? ⟨Bx, 0, none⟩ = some (.pointer (some ⟨p, 0, none⟩)) := blk_cell hb
    have v4 : V.cell? ⟨p, 4, none⟩ = some (.slice a2 k2 c2) := blk_cell (HW.out V hI.2.1).tr.pg.box
    have HBx := hidden hb
    have ek := HWW.out.tr.pg.r1.tl
    have ev := HWW.out.tr.pg.r2.tl
    have HKK : Hid (k2 = k1) := by rw [Hid]; omega
    have hk2 : k2 ≤ 17592186044416 := by omega
    have HLen : Hid ((n.keys.zip n.vals).length = k2) := by rw [Hid, List.length_zip]; omega
    clear hI hb hlt
    gi_wp2
    gi_loopw [28] (fun i wr => ∃ (t : Nat) (l : List { q : KV // Pp q }), i = .int .i64 t ∧ t ≤ k2 ∧ l.map (·.1) = ((n.keys.zip n.vals).take t).filter (inR x y) ∧ J l wr ∧ KX E X V wr) (fun i _ => k2 - (intOf i).toNat)
    case atStart => exact ⟨0, [], rfl, Nat.zero_le _, rfl, HJ0.out, KX.refl _ _ _⟩
    case round =>
      obtain ⟨t, l, rfl, ht, hlm, hj, hk⟩ := hrel
      have HLM := hidden hlm
      clear hlm
      have HJt := hidden hj
      have HKt := hidden hk
      have SW := hidden (HW.out wr (HV.out.trans hk.ke))
      clear hj hk
      by_cases h1 : t < k2
      · have q1 : (t : Int) < (k2 : Int) := by omega
        have q0 : (0 : Int) ≤ (t : Int) := Int.natCast_nonneg _
        have q2 : (t : Int) < (k1 : Int) := by have := HKK.out; omega
        have hz : t < (n.keys.zip n.vals).length := by rw [HLen.out]; exact h1
        obtain ⟨vb, vo, ha2, hvc⟩ := SW.out.tr.pg.r2.text (j := t) (by omega)
        obtain ⟨kb, ko, ha1, hkc⟩ := SW.out.tr.pg.r1.text (j := t) (by have := HKK.out; omega)
        have ep : (n.keys.zip n.vals)[t] = (n.keys[t]'(by have := HKK.out; omega), n.vals[t]'(by omega)) := List.getElem_zip
        obtain ⟨kx, hkx⟩ : ∃ kx, kx = n.keys[t]'(by have := HKK.out; omega) := ⟨_, rfl⟩
        obtain ⟨vx, hvx⟩ : ∃ vx, vx = n.vals[t]'(by omega) := ⟨_, rfl⟩
        rw [← hkx, ← hvx] at ep
        have hPq : Pp (kx, vx) := by rw [← ep]; exact hP _ (List.getElem_mem hz)
        rw [← hkx] at hkc
        rw [← hvx] at hvc
        have hst := rg_step (x := x) (y := y) hz
        rw [ep] at hst
        have hpr := rg_pre x y (n.keys.zip n.vals) (t + 1)
        have r0 : wr.cell? ⟨Bx, 0, none⟩ = some (.pointer (some ⟨p, 0, none⟩)) := blk_cell (HKt.out.cells _ _ _ _ HBx.out (HE.out Bx hlo).1)
        have r3 : wr.cell? ⟨p, 3, none⟩ = some (.slice a1 k1 c1) := blk_cell SW.out.tr.pg.box
        have r5 : wr.cell? ⟨B + 1, 0, none⟩ = some (.string x) := blk_cell SW.out.b1
        have r6 : wr.cell? ⟨B + 2, 0, none⟩ = some (.string y) := blk_cell SW.out.b2
        have r7 : wr.cell? ⟨W.heap.size, 0, none⟩ = some (.func (.yield lp) #[] #[]) := blk_cell (HKt.out.cells _ _ _ _ HYb.out (HE.out _ (Nat.le_refl _)).2)
        have HST := hidden hst
        have HPR := hidden hpr
        subst ha1 ha2
        clear hkx hvx ep hz hst hpr SW v0 v4 ek ev
        cases hin : inR x y (kx, vx) with
        | false =>
          rw [hin] at HST
          simp only [Bool.false_eq_true, if_false, List.append_nil] at HST
          have hnext : Hid (l.map (·.1) = ((n.keys.zip n.vals).take (t + 1)).filter (inR x y)) := by rw [Hid, HST.out]; exact HLM.out
          unfold inR at hin
          clear HST HPR
          cases e1 : ltS kx x with
          | true =>
            have f1 := ltE e1
            clear hin
            gi_wp2
            refine ⟨fun f h => (by cases h), ?_⟩
            gi_wp2
            go_roundw
            case rel => exact ⟨t + 1, l, by go_num, by omega, hnext.out, HJt.out, HKt.out⟩
            case measure => simp [intOf]; omega
          | false =>
            have f1 := ltE e1
            cases e2 : (y.toList == []) with
            | true => simp [e1, e2] at hin
            | false =>
              have f2 : y.toList.isEmpty = false := by simpa using e2
              have e3 : ltS kx y = false := by simpa [e1, e2] using hin
              have f3 := ltE e3
              clear hin
              gi_wp2
              refine ⟨fun f h => (by cases h), ?_⟩
              gi_wp2
              go_roundw
              case rel => exact ⟨t + 1, l, by go_num, by omega, hnext.out, HJt.out, HKt.out⟩
              case measure => simp [intOf]; omega
        | true =>
          rw [hin] at HST
          simp only [if_true] at HST
          have hlen : l.length < (n.rg x y).length := by
            have h6 := congrArg List.length HLM.out
            rw [List.length_map] at h6
            have h5 := HPR.out.length_le
            rw [HST.out, List.length_append] at h5
            simp at h5
            unfold Nd.rg
            omega
          obtain ⟨fn, tmps, asg, bd, hy, hR⟩ := yield_any 4 (HY.out l ⟨(kx, vx), hPq⟩ wr HJt.out hlen)
          dsimp only [encK] at hy
          unfold inR at hin
          simp only [Bool.and_eq_true, Bool.not_eq_true', Bool.or_eq_true] at hin
          obtain ⟨e1, e2⟩ := hin
          have f1 := ltE e1
          clear hlen
          by_cases e4 : (y.toList == []) = true
          · have f2 : y.toList.isEmpty = true := by simpa using e4
            clear e2
            gi_wp2
            refine hR.mono ?_
            rintro e W3 (⟨rfl, hJ3, hk3⟩ | ⟨rfl, hJx3, hk3⟩)
            · have HJ3 := hidden hJ3
              have HL3 : Hid ((l ++ [(⟨(kx, vx), hPq⟩ : { q : KV // Pp q })]).map (fun q => q.1) = ((n.keys.zip n.vals).take (t + 1)).filter (inR x y)) := by rw [Hid, HST.out, List.map_append, HLM.out]; rfl
              have HK3 := hidden (HKt.out.trans hk3)
              clear hJ3 hk3 hR hy
              gi_wp2
              go_roundw
              case rel => exact ⟨t + 1, _, by go_num, by omega, HL3.out, HJ3.out, HK3.out⟩
              case measure => simp [intOf]; omega
            · have HJx3 := hidden hJx3
              have HK3 := hidden (HKt.out.trans hk3)
              clear hJx3 hk3 hR hy
              gi_wp2
              exact ⟨HK3.out.le (Nat.le_trans HX.out hsz) (fun _ _ h => h), rfl, _, by rw [List.map_append, HLM.out]; have h7 := HPR.out; rw [HST.out] at h7; exact h7, HJx3.out⟩
          · have f2 : y.toList.isEmpty = false := by simpa using e4
            have f3 := ltE (e2.resolve_left e4)
            clear e2
            gi_wp2
            refine hR.mono ?_
            rintro e W3 (⟨rfl, hJ3, hk3⟩ | ⟨rfl, hJx3, hk3⟩)
            · have HJ3 := hidden hJ3
              have HL3 : Hid ((l ++ [(⟨(kx, vx), hPq⟩ : { q : KV // Pp q })]).map (fun q => q.1) = ((n.keys.zip n.vals).take (t + 1)).filter (inR x y)) := by rw [Hid, HST.out, List.map_append, HLM.out]; rfl
              have HK3 := hidden (HKt.out.trans hk3)
              clear hJ3 hk3 hR hy
              gi_wp2
              go_roundw
              case rel => exact ⟨t + 1, _, by go_num, by omega, HL3.out, HJ3.out, HK3.out⟩
              case measure => simp [intOf]; omega
            · have HJx3 := hidden hJx3
              have HK3 := hidden (HKt.out.trans hk3)
              clear hJx3 hk3 hR hy
              gi_wp2
              exact ⟨HK3.out.le (Nat.le_trans HX.out hsz) (fun _ _ h => h), rfl, _, by rw [List.map_append, HLM.out]; have h7 := HPR.out; rw [HST.out] at h7; exact h7, HJx3.out⟩
      · obtain rfl : t = k2 := by omega
        have q1 : ¬ (t : Int) < (t : Int) := by omega
        have hfin : Hid (l.map (·.1) = n.rg x y) := by
          have := HLM.out
          rw [List.take_of_length_le (by rw [HLen.out]; exact Nat.le_refl _)] at this
          exact this
        gi_wp2
        exact ⟨HKt.out.le (Nat.le_trans HX.out hsz) (fun _ _ h => h), ⟨l, hfin.out, HJt.out⟩, HV.out.trans HKt.out.ke, HKt.out.cells _ _ _ _ HYb.out (HE.out _ (Nat.le_refl _)).2⟩
  case done =>
    rintro D ys V hD hS hI hK
    subst hS
    obtain ⟨l, hlm, hjl⟩ := hI.1
    have hlm' : l.map (·.1) = n.rg x y := by simpa using hlm
    have hJd : J l (V.putObj D (.deferred none)) := HJ.out _ V _ (some D) hjl (grownBy_putObj' V D _) (fun r e => by cases e; exact ⟨Nat.le_trans hsz hD, _, hK, rfl⟩)
    have HJD := hidden hJd
    clear hJd hI hjl hlm
    gi_wp2
    refine ⟨by simp, .inl ⟨_, _, rfl, run_takeDeferred hK, ?_⟩⟩
    refine ⟨.tuple #[], ?_, ⟨_, rfl⟩, .inl ⟨_, hlm', HJD.out⟩⟩
    simp [results, Tryz.f64, go_sem]
  case stop =>
    rintro D c pre V hD hS ⟨rfl, q, hq, hj⟩ hK
    have hJd : Jx q (V.putObj D (.deferred none)) := HJx.out _ V _ (some D) hj (grownBy_putObj' V D _) (fun r e => by cases e; exact ⟨Nat.le_trans hsz hD, _, hK, rfl⟩)
    have HJD := hidden hJd
    clear hJd hj
    gi_wp2
    refine ⟨by simp, .inl ⟨_, _, rfl, run_takeDeferred hK, ?_⟩⟩
    refine ⟨.tuple #[], ?_, ⟨_, rfl⟩, .inr ⟨_, hq, HJD.out⟩⟩
    simp [results, Tryz.f64, go_sem]
end Go.Proofs.YtmlibjohhgpniaaGreatDoor
