/- journal: both Writers made; what both calls tell, in a law's walk. -/
import Derived.Test.YtljbmpnpbjnbkaaDoorJ5
import Derived.Test.YtljbmpnpbjnbkaaDoorJKM
import Derived.Test.YtljbmpnpbjnbkaaDoorCTab
import Derived.Test.YtljbmpnpbjnbkaaDoorJB
import Derived.Deep.Slices
import Derived.Test.YtljbmpnpbjnbkaaDoorJD9
import Derived.Test.YtljbmpnpbjnbkaaDoorJ12
import Derived.Test.YtljbmpnpbjnbkaaDoorQuietS
/- journal: slices.Clone of bytes; the program's Fork. (Made by mkjf.py.) -/
namespace Go.Proofs.YtljbmpnpbjnbkaaDoor
open Go.RowKit
set_option linter.unusedVariables false
set_option linter.unusedSimpArgs false
theorem Bt.liesK {w : World} {ao : Option Addr} {n cap : Nat} {l : List UInt8} (h : Bt w (.slice ao n cap) l) : Lies w ao n (l.map U8) := by
  intro h0
  obtain ⟨b, off, rfl, hc⟩ := h.cell (by have := h.len; omega)
  refine ⟨_, rfl, fun j u hu => ?_⟩
  rw [List.getElem?_map, Option.map_eq_some_iff] at hu
  obtain ⟨x, hx, rfl⟩ := hu
  obtain ⟨hj, rfl⟩ := List.getElem?_eq_some_iff.1 hx
  rw [add_none]
  exact hc j hj
theorem U8_all (l : List UInt8) : ∀ u ∈ l.map U8, u.oneCell' = true := by
  intro u hu
  obtain ⟨b, _, rfl⟩ := List.mem_map.1 hu
  exact U8_one b
set_option maxHeartbeats 1000000 in
set_option maxRecDepth 100000 in
theorem cloneB (v : Value) (l : List UInt8) (w : World) (hb : Bt w v l) (hl : l.length ≤ 140737488355328) :
    Calls Tryd.prog 40 #[v] w fun e w' => ∃ u, e = .returned u ∧ w'.ownsRow w.heap.size 5 1 u l.length (l.map U8) ∧ Same w w' := by
  obtain ⟨i0, hi, hz0, hz1, hz2⟩ := info_parts info5
  obtain ⟨ao, cap, rfl, hcap⟩ := hb.form
  cases ao with
  | none =>
    have hl0 : l = [] := by
      rcases Nat.eq_zero_or_pos l.length with h | h
      · exact List.eq_nil_of_length_eq_zero h
      · obtain ⟨b, off, e, _⟩ := hb.cell h
        cases e
    subst hl0
    have hnil : ∀ W : World, (binOp .eql 39 (.slice none 0 cap) (.slice none 0 0)).run Tryd.prog W = .ok (.bool true) W := fun W => by
      first | rfl | simp [binOp, go_sem]
    clear hb hcap
    go_enter Tryd.func40, Tryd.ntmps40
    go_wp2
    go_returns
    exact ⟨_, rfl, World.ownsRow_nil _ _ _ _, Kept.refl _ _⟩
  | some a =>
    have hnil : ∀ W : World, (binOp .eql 39 (.slice (some a) l.length cap) (.slice none 0 0)).run Tryd.prog W = .ok (.bool false) W := fun W => by
      first | rfl | simp [binOp, go_sem]
    have HB := hidden hb
    have m1 : Hid (0 + l.length ≤ maxLen) := by rw [Hid]; unfold maxLen; omega
    have m2 : Hid ((0 + l.length) * 1 ≤ 140737488355328) := by rw [Hid]; omega
    clear hb hcap
    go_enter Tryd.func40, Tryd.ntmps40
    go_wp2_with (refine wpList_append_any rfl _ _ 39 rfl w.heap.size 5 i0 (.int .u8 0) 1 1 Tryd.underlying39 hi hz0 hz1 hz2 rfl (by decide) _ 0 0 [] rfl (World.ownsRow_made w #[] 0 (Nat.le_refl _) (by decide) (by decide)) (some a) l.length cap (l.map U8) rfl (by rw [List.length_map, Nat.mul_one]) ((HB.out.same (same_alloc _ _)).liesK) (U8_all l) m1.out m2.out (by simp) ?_; intro a1 c1 w1 ho1 hg1)
    rw [Nat.zero_add, List.nil_append] at ho1
    go_returns
    exact ⟨_, rfl, by simpa using ho1, ((Kept.refl (fun _ => False) w).alloc _).grown hg1 (fun k hk hl => by simp [Value.ownBlock] at hk; omega)⟩
set_option maxHeartbeats 1000000 in
set_option maxRecDepth 100000 in
theorem j_fork {g : Nat} {s : JSt} {w : World} (h : JW g s w) : Calls Tryd.prog 19 #[.pointer (some ⟨g, 0, none⟩)] w fun e w' => ∃ g', e = .returned (.pointer (some ⟨g', 0, none⟩)) ∧ w.heap.size ≤ g' ∧ JW g' s w' ∧ Same w w' ∧ ∀ k, rowOf w' g' 4 = some k → w.heap.size ≤ k := by
  have A := hidden (j_made h)
  obtain ⟨⟨v, hb, ho⟩, hok⟩ := h
  have c0 : w.cell? ⟨g, 0, none⟩ = some (.int .i64 s.size) := blk_cell hb
  have c1 : w.cell? ⟨g, 1, none⟩ = some (.int .i64 s.sectors) := blk_cell hb
  have c2 : w.cell? ⟨g, 2, none⟩ = some (.int .u64 s.gen) := blk_cell hb
  have c3 : w.cell? ⟨g, 3, none⟩ = some (.int .i64 s.taken) := blk_cell hb
  have c4 : w.cell? ⟨g, 4, none⟩ = some v := blk_cell hb
  have c5 : w.cell? ⟨g, 5, none⟩ = some (.int .i64 s.recs) := blk_cell hb
  obtain ⟨va, vc, rfl⟩ := own_form ho
  have HCl := hidden (fun W (k : Same w W) => cloneB (.slice va s.bs.length vc) s.bs W ((Bt.own ho).same k) (by have := hok.len; omega))
  have Hb := hidden hb
  obtain ⟨X, hX⟩ : ∃ X : Array Value, X = #[.int .i64 s.size, .int .i64 s.sectors, .int .u64 s.gen, .int .i64 s.taken, .slice va s.bs.length vc, .int .i64 s.recs] := ⟨_, rfl⟩
  have d4 : (w.alloc (.cells #[.int .i64 s.size, .int .i64 s.sectors, .int .u64 s.gen, .int .i64 s.taken, .slice va s.bs.length vc, .int .i64 s.recs] 63)).cell? ⟨g, 4, none⟩ = some (.slice va s.bs.length vc) := blk_cell (blk_alloc hb _)
  have HN := hidden (blk_new w (.cells #[.int .i64 s.size, .int .i64 s.sectors, .int .u64 s.gen, .int .i64 s.taken, .slice va s.bs.length vc, .int .i64 s.recs] 63))
  have HS := hidden (same_alloc w (.cells #[.int .i64 s.size, .int .i64 s.sectors, .int .u64 s.gen, .int .i64 s.taken, .slice va s.bs.length vc, .int .i64 s.recs] 63))
  clear hb ho hX X
  go_enter Tryd.func19, Tryd.ntmps19
  go_wp2_with (first
    | (go_at_call 31; refine (A.out).mono ?_; rintro e w1 ⟨rfl, rfl⟩)
    | (go_at_call 40; refine (HCl.out _ HS.out).mono ?_; rintro e w2 ⟨u, rfl, hu, k2⟩; obtain ⟨ua, uc, rfl⟩ := own_form hu; have HU := hidden hu; have b2 := blk_kept k2 (fun h => h) HN.out; have HB2 := hidden b2; have K2 := hidden (HS.out.trans k2); have f2 : w2.frozen? ⟨w.heap.size, 4, none⟩ = false := blk_free b2; have e2 : w2.cell? ⟨w.heap.size, 4, none⟩ = some (.slice va s.bs.length vc) := blk_cell b2; clear hu k2 b2))
  go_returns
  have hkk : Kept (fun k => k = w.heap.size) w2 (w2.setCell ⟨w.heap.size, 4, none⟩ (.slice ua s.bs.length uc)) := (Kept.refl (fun k => k = w.heap.size) w2).setCell (p := ⟨w.heap.size, 4, none⟩) rfl _
  have hbf := blk_set (j := 4) HB2.out (.slice ua s.bs.length uc)
  refine ⟨w.heap.size, rfl, Nat.le_refl _, ⟨⟨_, hbf, own_mono (own_kept HU.out hkk (fun k hk e => own_apart HU.out HB2.out (by decide) (by rw [hk, e]))) (Nat.zero_le _)⟩, hok⟩, K2.out.grown (row := some w.heap.size) ⟨rfl, rfl, rfl, by simp [World.setCell], fun k _ hk => Below.heap_setCell _ _ _ _ (fun e => hk (by rw [e]))⟩ (fun k e hk => by cases e; omega), fun k hk => ?_⟩
  unfold rowOf at hk
  rw [blk_cell hbf] at hk
  have h9 := (HU.out.lt k (by simpa using hk)).1
  have h8 : (w.alloc (.cells #[.int .i64 s.size, .int .i64 s.sectors, .int .u64 s.gen, .int .i64 s.taken, .slice va s.bs.length vc, .int .i64 s.recs] 63)).heap.size = w.heap.size + 1 := by simp
  omega
end Go.Proofs.YtljbmpnpbjnbkaaDoor
/- A slice of deduplaw07's steps among a law's arguments, opened: with the bound of its texts. -/
namespace Go.Proofs.YtljbmpnpbjnbkaaDoor
open Go.ChangeShapes Go.WideShapes Go.ChangeAt Go.RowKit Go.Joins Go.ChangeMaps
set_option linter.unusedVariables false
/-- A slice of steps, by their places. -/
def JOps (w : World) (v : Value) (n : Nat) (f : Nat → Int × ByteArray) : Prop :=
  ∃ a cap, v = .slice a n cap ∧ (0 < n → ∃ b off, a = some ⟨b, off, none⟩ ∧ ∀ i, i < n → (f i).2.size ≤ 140737488351232 ∧ w.cell? ⟨b, off + i * 2, none⟩ = some (.int .i64 (f i).1) ∧ w.cell? ⟨b, off + i * 2 + 1, none⟩ = some (.string (f i).2))
theorem cellsJO : Tryd.prog.cellsOf 33 = 2 := by kernel_rfl
theorem bytesJO : Tryd.prog.bytesOf 33 = 24 := by kernel_rfl
theorem cellsJI : Tryd.prog.cellsOf 3 = 1 := by kernel_rfl
theorem cellsJS : Tryd.prog.cellsOf 9 = 1 := by kernel_rfl
theorem jadd_plain (b off j : Nat) : (⟨b, off, none⟩ : Addr).add j = ⟨b, off + j, none⟩ := by simp [Addr.add]
theorem jsize_list (s : ByteArray) : s.data.toList.length = s.size := by rw [Array.length_toList]; rfl
theorem jweights_all_mem {H : Type} {P : Program} {e : TypeId} {x : DataW H} {n : Nat} (hn : n ∈ x.weights P e) : ∀ ds : List (DataW H), x ∈ ds → n ∈ DataW.weightsAll P e ds
  | [], h => by cases h
  | y :: ys, h => by
    rcases List.mem_cons.1 h with rfl | h
    · simp [DataW.weightsAll, hn]
    · simp [DataW.weightsAll, jweights_all_mem hn ys h]
theorem jop_trod {H : Type} {enc : TypeId × Value → H} {W : World} {base : Nat} {sp : Nat → Bool} {held : Bool} {fuel : Nat} {c0 c1 : Value} {x : DataW H × List MemPlace} (h : DataW.trod enc Tryd.prog W base sp held fuel 33 [c0, c1] = some x) :
    ∃ (kind : Int) (S : ByteArray), c0 = .int .i64 kind ∧ c1 = .string S ∧ S.data.toList.length ∈ x.1.weights Tryd.prog 33 := by
  obtain ⟨xs, n, _, hx, _, hlen, hf⟩ := DataW.trod_struct Tryd.underlying33 h
  have hl : xs.length = 2 := hlen
  match xs, hl with
  | [x0, x1], _ =>
    have h0 : DataW.trod enc Tryd.prog W base sp held n 3 (List.take (Tryd.prog.cellsOf 3) (List.drop 0 [c0, c1])) = some x0 := hf 0 _ rfl
    have h1 : DataW.trod enc Tryd.prog W base sp held n 9 (List.take (Tryd.prog.cellsOf 9) (List.drop 1 [c0, c1])) = some x1 := hf 1 _ rfl
    rw [cellsJI] at h0
    rw [cellsJS] at h1
    obtain ⟨a, q0, _, _⟩ := DataW.trod_int Tryd.underlying3 h0
    obtain ⟨s, q1, hx1, _⟩ := DataW.trod_string Tryd.underlying9 h1
    simp at q0 q1
    refine ⟨a, s, q0, q1, ?_⟩
    rw [hx, hx1]
    simp [DataW.weights, DataW.weightsEach, Tryd.underlying33]
set_option maxRecDepth 100000 in
theorem jops_open {H : Type} {enc : TypeId × Value → H} {W : World} {base : Nat} {v : Value} {d : DataW H} {p : List MemPlace} (hv : Value.okWide Tryd.prog W .any base 23 v) (h : DataW.Trod enc Tryd.prog W 0 (fun _ => true) true 23 v d p)
    (ts : List TypeId) (ds : List (DataW H)) (j : Nat) (hall : (DataW.weightsEach Tryd.prog ts ds).all (· ≤ reachBytes) = true) (hts : ts[j]? = some 23) (hds : ds[j]? = some d) :
    ∃ (n : Nat) (f : Nat → Int × ByteArray), JOps W v n f ∧ n ≤ 140737488351232 := by
  obtain ⟨a1, len1, cap1, rfl⟩ := okWide_slice Tryd.underlying23 hv
  obtain ⟨fuel, hf⟩ := h
  rcases DataW.trod_slice Tryd.underlying23 hf with ⟨hcs, hx⟩ | ⟨a, len, cap, elems, rest, n, _, hcs, hx, _, hl, hm, he, hel, _, _⟩
  · simp [Value.cells] at hcs
    obtain ⟨rfl, rfl, rfl⟩ := hcs
    exact ⟨0, fun _ => (0, ⟨#[]⟩), ⟨none, 0, rfl, fun h => by omega⟩, by omega⟩
  · simp [Value.cells] at hcs
    obtain ⟨rfl, rfl, rfl⟩ := hcs
    rw [cellsJO] at hel
    have hd : d = .slice (elems.map (·.1)) (rest.map (·.1)) := congrArg Prod.fst hx
    rw [hd] at hds
    have key : ∀ i, i < len1 → ∃ q : Int × ByteArray, q.2.size ≤ 140737488351232 ∧ W.cell? (a.add (i * 2)) = some (.int .i64 q.1) ∧ W.cell? ((a.add (i * 2)).add 1) = some (.string q.2) := by
      intro i hi
      have h1 := hel i hi
      have h2 : elems[i]? = some elems[i] := List.getElem?_eq_getElem (by omega)
      rw [h2] at h1
      obtain ⟨cs, hc, ht⟩ := Option.bind_eq_some_iff.1 h1
      obtain ⟨_, hcl, hcc⟩ := World.cells?_some hc
      match cs, hcl with
      | [c0, c1], _ =>
        obtain ⟨kind, S, rfl, rfl, hS⟩ := jop_trod ht
        have z0 := hcc 0 (by decide)
        have hw : S.data.toList.length ∈ DataW.weights Tryd.prog 23 (DataW.slice (elems.map (·.1)) (rest.map (·.1))) := by
          have hm := jweights_all_mem hS (elems.map (·.1)) (List.mem_map.2 ⟨elems[i], List.getElem_mem _, rfl⟩)
          simp only [DataW.weights, Tryd.underlying23]
          exact List.mem_cons_of_mem _ (List.mem_append_left _ hm)
        have hle := of_decide_eq_true (List.all_eq_true.1 hall _ (DataW.weights_mem_each hts hds _ hw))
        unfold reachBytes at hle
        rw [jsize_list] at hle
        exact ⟨(kind, S), by show S.size ≤ _; omega, by simpa [Addr.add] using z0, hcc 1 (by decide)⟩
    obtain ⟨f, hfk⟩ := Go.Deep.choose_lt key
    refine ⟨len1, f, ⟨some a, cap1, rfl, fun hpos => ?_⟩, ?_⟩
    · obtain ⟨b, off, spot⟩ := a
      have hspot : spot = none := by
        obtain ⟨_, h0, _⟩ := hfk 0 hpos
        simpa [Addr.add] using World.cell?_spot h0
      subst hspot
      refine ⟨b, off, rfl, fun i hi => ?_⟩
      obtain ⟨hS, h0, h1⟩ := hfk i hi
      rw [jadd_plain] at h0 h1
      rw [jadd_plain] at h1
      exact ⟨hS, h0, h1⟩
    · have := sized_slice hall (j := j) hts hds Tryd.underlying23
      rw [bytesJO] at this
      simp only [List.length_map, reachBytes] at this
      omega
end Go.Proofs.YtljbmpnpbjnbkaaDoor
/- journal: the law's sameSectors of the program's sectors and the document's. -/
/- journal: both Writers in memory, apart from each other and from all that was there before. -/
namespace Go.Proofs.YtljbmpnpbjnbkaaDoor
open Go.RowKit
set_option linter.unusedVariables false
set_option linter.unusedSimpArgs false
theorem DL.kept {g : Nat} {d : DSt} {w w' : World} {rv : Value} {us : List Value} {S : Nat → Prop} (h : DL g d w rv us) (k : Kept S w w') (hs : ∀ i, dS g rv us i → ¬ S i) : DL g d w' rv us :=
  ⟨blk_kept k (hs g (.inl rfl)) h.box, h.len, own_kept h.row k (fun i e => hs i (.inr (.inl e))), fun i x u hx hu => own_kept (h.rooms i x u hx hu) k (fun j e => hs j (.inr (.inr ⟨i, u, hu, e⟩))), h.apart⟩
theorem DL.lt {g : Nat} {d : DSt} {w : World} {rv : Value} {us : List Value} (h : DL g d w rv us) {k : Nat} (hk : dS g rv us k) : k < w.heap.size := by
  rcases hk with rfl | e | ⟨j, u, hu, e⟩
  · exact blk_lt h.box
  · exact blk_lt (own_bk h.row e).2.choose_spec
  · obtain ⟨x, hx⟩ : ∃ x, d.rooms[j]? = some x := ⟨_, List.getElem?_eq_getElem (by have := (List.getElem?_eq_some_iff.1 hu).1; have := h.len; omega)⟩
    exact blk_lt (own_bk (h.rooms j x u hx hu) e).2.choose_spec
theorem JW.jlt {g : Nat} {s : JSt} {w : World} (h : JW g s w) {k : Nat} (hk : jS g w k) : k < w.heap.size := by
  obtain ⟨⟨v, hb, ho⟩, _⟩ := h
  rcases hk with rfl | e
  · exact blk_lt hb
  · unfold rowOf at e
    rw [blk_cell hb] at e
    exact blk_lt (own_bk ho (by simpa using e)).2.choose_spec
theorem JW.jkept {g : Nat} {s : JSt} {w w' : World} {S : Nat → Prop} (h : JW g s w) (k : Kept S w w') (hs : ¬ S g) (i : Nat) : jS g w' i ↔ jS g w i := by
  have hc : w'.cell? ⟨g, 4, none⟩ = w.cell? ⟨g, 4, none⟩ := World.cell?_of_block (k.block g h.lt hs)
  unfold jS rowOf
  rw [hc]
/-- The program's Writer at gp, the document's at gd: none of their blocks is older than B, none belongs to both. -/
structure JX (B gp gd : Nat) (s : JSt) (d : DSt) (rv : Value) (us : List Value) (w : World) : Prop where
  p : JW gp s w
  pb : ∀ k, jS gp w k → B ≤ k
  d : DL gd d w rv us
  db : ∀ k, dS gd rv us k → B ≤ k ∧ ¬ jS gp w k
theorem JX.low {B gp gd : Nat} {s : JSt} {d : DSt} {rv : Value} {us : List Value} {w : World} (h : JX B gp gd s d rv us w) : B ≤ w.heap.size :=
  Nat.le_trans (h.pb gp (.inl rfl)) (Nat.le_of_lt h.p.lt)
theorem JX.kept {B gp gd : Nat} {s : JSt} {d : DSt} {rv : Value} {us : List Value} {w w' : World} {S : Nat → Prop} (h : JX B gp gd s d rv us w) (k : Kept S w w') (h1 : ∀ i, jS gp w i → ¬ S i) (h2 : ∀ i, dS gd rv us i → ¬ S i) : JX B gp gd s d rv us w' := by
  have hj := h.p.jkept k (h1 gp (.inl rfl))
  exact ⟨h.p.kept k h1, fun i hi => h.pb i ((hj i).1 hi), h.d.kept k h2, fun i hi => ⟨(h.db i hi).1, fun e => (h.db i hi).2 ((hj i).1 e)⟩⟩
theorem JX.same {B gp gd : Nat} {s : JSt} {d : DSt} {rv : Value} {us : List Value} {w w' : World} (h : JX B gp gd s d rv us w) (k : Same w w') : JX B gp gd s d rv us w' := h.kept k (fun _ _ h => h) (fun _ _ h => h)
theorem JX.pstep {B gp gd : Nat} {s s' : JSt} {d : DSt} {rv : Value} {us : List Value} {w w' : World} (h : JX B gp gd s d rv us w) (h' : JW gp s' w') (t : Turns gp w w') : JX B gp gd s' d rv us w' ∧ Kept (fun k => B ≤ k) w w' := by
  have hl := h.low
  have hj : ∀ k, k < w.heap.size → jS gp w' k → jS gp w k := fun k hk hi => by
    rcases hi with e | e
    · exact .inl e
    · exact t.row k hk e
  refine ⟨⟨h', fun k hk => ?_, h.d.kept t.kept (fun i hi => (h.db i hi).2), fun k hk => ⟨(h.db k hk).1, fun e => (h.db k hk).2 (hj k (h.d.lt hk) e)⟩⟩, t.kept.mono (fun k _ hk => h.pb k hk)⟩
  rcases Nat.lt_or_ge k w.heap.size with hlt | hge
  · exact h.pb k (hj k hlt hk)
  · exact Nat.le_trans hl hge
theorem JX.dstep {B gp gd : Nat} {s : JSt} {d d' : DSt} {rv rv' : Value} {us us' : List Value} {w w' : World} (h : JX B gp gd s d rv us w) (hd : DL gd d' w' rv' us') (hf : ∀ k, k < w.heap.size → dS gd rv' us' k → dS gd rv us k) (k : Kept (dS gd rv us) w w') : JX B gp gd s d' rv' us' w' ∧ Kept (fun k => B ≤ k) w w' := by
  have hl := h.low
  have hn : ∀ i, jS gp w i → ¬ dS gd rv us i := fun i hi hd => (h.db i hd).2 hi
  have hj := h.p.jkept k (hn gp (.inl rfl))
  refine ⟨⟨h.p.kept k hn, fun i hi => h.pb i ((hj i).1 hi), hd, fun i hi => ?_⟩, k.mono (fun i _ hi => (h.db i hi).1)⟩
  rcases Nat.lt_or_ge i w.heap.size with hlt | hge
  · have h1 := h.db i (hf i hlt hi)
    exact ⟨h1.1, fun e => h1.2 ((hj i).1 e)⟩
  · exact ⟨Nat.le_trans hl hge, fun e => by have := h.p.jlt ((hj i).1 e); omega⟩
/-- Behind a Fork: two of the program's, and the document's. -/
structure JT2 (B gp gq gd : Nat) (s t : JSt) (d : DSt) (rv : Value) (us : List Value) (w : World) : Prop where
  a : JX B gp gd s d rv us w
  b : JX B gq gd t d rv us w
  n : ∀ k, jS gp w k → ¬ jS gq w k
theorem JT2.step {B gp gq gd : Nat} {s s' t : JSt} {d : DSt} {rv : Value} {us : List Value} {w w' : World} (h : JT2 B gp gq gd s t d rv us w) (h' : JW gp s' w') (k : Turns gp w w') : JT2 B gp gq gd s' t d rv us w' ∧ Kept (fun k => B ≤ k) w w' := by
  obtain ⟨h1, h2⟩ := h.a.pstep h' k
  have hn : ∀ i, jS gq w i → ¬ jS gp w i := fun i hi e => h.n i e hi
  have hj := h.b.p.jkept k.kept (hn gq (.inl rfl))
  refine ⟨⟨h1, h.b.kept k.kept hn (fun i hi => (h.a.db i hi).2), fun i hi e => ?_⟩, h2⟩
  have e1 := (hj i).1 e
  have hlt := h.b.p.jlt e1
  rcases hi with hi | hi
  · exact h.n i (.inl hi) e1
  · exact h.n i (k.row i hlt hi) e1
theorem JX.fork {B gp gq gd : Nat} {s : JSt} {d : DSt} {rv : Value} {us : List Value} {w w' : World} (h : JX B gp gd s d rv us w) (hg : w.heap.size ≤ gq) (hq : JW gq s w') (k : Same w w') (hr : ∀ k, rowOf w' gq 4 = some k → w.heap.size ≤ k) : JT2 B gp gq gd s s d rv us w' := by
  have hl := h.low
  have h1 := h.same k
  have hy : ∀ i, jS gq w' i → w.heap.size ≤ i := fun i hi => by
    rcases hi with rfl | e
    · exact hg
    · exact hr i e
  have hj := h.p.jkept k (fun h => h)
  exact ⟨h1, ⟨hq, fun i hi => Nat.le_trans hl (hy i hi), h1.d, fun i hi => ⟨(h1.db i hi).1, fun e => by have := hy i e; have := h.d.lt hi; omega⟩⟩, fun i hi e => by have := hy i e; have := h.p.jlt ((hj i).1 hi); omega⟩
/-! ### Calls -/
theorem JX.pa {B gp gd : Nat} {s : JSt} {d : DSt} {rv : Value} {us : List Value} {w : World} (h : JX B gp gd s d rv us w) (rec : ByteArray) (hl : rec.size ≤ 140737488351232) :
    Calls Tryd.prog 11 #[.pointer (some ⟨gp, 0, none⟩), .string rec] w fun e w' => e = .returned (.int .i64 (s.appErr rec.size)) ∧ JW gp (s.app rec.data.toList) w' ∧ Turns gp w w' := by
  by_cases he : s.appErr rec.size = 0
  · rw [he]
    exact j_appendYes h.p rec he
  · refine (j_appendNo h.p rec (by omega) he).mono ?_
    rintro e w' ⟨rfl, k⟩
    have hs : s.app rec.data.toList = s := by
      unfold JSt.app
      rw [if_neg (show ¬ s.appErr rec.data.toList.length = 0 by rw [Array.length_toList]; exact he)]
    rw [hs]
    exact ⟨rfl, h.p.same k, Turns.same h.p.lt k⟩
def DSt.appJ (d : DSt) (s : JSt) (rec : ByteArray) : DSt := if s.appErr rec.size = 0 then d.app rec.data.toList else d
theorem Ag.appJ {d : DSt} {s : JSt} (h : Ag d s) (rec : ByteArray) : Ag (d.appJ s rec) (s.app rec.data.toList) := by
  have hl : rec.data.toList.length = rec.size := by rw [Array.length_toList]; rfl
  unfold DSt.appJ
  by_cases he : s.appErr rec.size = 0
  · rw [if_pos he]
    exact h.app _ (by rw [hl]; exact he)
  · rw [if_neg he]
    unfold JSt.app
    rw [if_neg (by rw [hl]; exact he)]
    exact h
theorem JX.da {B gp gd : Nat} {s1 : JSt} {d : DSt} {rv : Value} {us : List Value} {w : World} (h : JX B gp gd s1 d rv us w) {s : JSt} (ag : Ag d s) (rec : ByteArray) (hl : rec.size ≤ 140737488351232) :
    Calls Tryd.prog 12 #[.pointer (some ⟨gd, 0, none⟩), .string rec] w fun e w' => e = .returned (.int .i64 (s.appErr rec.size)) ∧ ∃ rv' us', JX B gp gd s1 (d.appJ s rec) rv' us' w' ∧ Kept (fun k => B ≤ k) w w' := by
  unfold DSt.appJ
  by_cases he : s.appErr rec.size = 0
  · rw [if_pos he, he]
    refine (appendD_yes h.d ag rec he).mono ?_
    rintro e w' ⟨rfl, ⟨rv', us', h1, h2⟩, k⟩
    exact ⟨rfl, rv', us', h.dstep h1 h2 k⟩
  · rw [if_neg he]
    refine (appendD_no h.d.dw ag rec hl he).mono ?_
    rintro e w' ⟨rfl, k⟩
    exact ⟨rfl, rv, us, h.same k, k.mono (fun _ _ h => h.elim)⟩
theorem JX.dt {B gp gd : Nat} {s1 : JSt} {d : DSt} {rv : Value} {us : List Value} {w : World} (h : JX B gp gd s1 d rv us w) {s : JSt} (ag : Ag d s) :
    Calls Tryd.prog 16 #[.pointer (some ⟨gd, 0, none⟩)] w fun e w' => ∃ v, e = .returned v ∧ DSecs w' v s.taken (s.secs s.many) ∧ JX B gp gd s1 d.take rv us w' ∧ Kept (fun k => k = gd) w w' := by
  refine (takeD_any h.d.dw ag).mono ?_
  rintro e w' ⟨v, rfl, h1, h2, hc, k⟩
  refine ⟨v, rfl, h1, ?_, k⟩
  have hk : Kept (dS gd rv us) w w' := k.mono (fun i _ e => .inl e)
  have hD : DL gd d.take w' rv us := by
    obtain ⟨rv', us', h3⟩ := h2.dl
    have hb := h3.box
    have hcc := blk_cell (j := 3) hb
    rw [hc, blk_cell (j := 3) h.d.box] at hcc
    obtain rfl : rv = rv' := by simpa using hcc
    exact ⟨hb, h.d.len, own_kept h.d.row k (fun i e1 e => own_apart h.d.row h.d.box (by decide) (by rw [e1, e])), fun i x u hx hu => own_kept (h.d.rooms i x u hx hu) k (fun j e1 e => own_apart (h.d.rooms i x u hx hu) h.d.box (by decide) (by rw [e1, e])), h.d.apart⟩
  exact (h.dstep hD (fun _ _ h => h) hk).1
end Go.Proofs.YtljbmpnpbjnbkaaDoor
namespace Go.Proofs.YtljbmpnpbjnbkaaDoor
open Go.RowKit
set_option linter.unusedVariables false
set_option linter.unusedSimpArgs false
theorem Secs.d {w : World} {v : Value} {t B : Nat} {ls : List (List UInt8)} (h : Secs w v t ls B) : DSecs w v t ls := by
  obtain ⟨us, h1, h2, h3⟩ := h
  rcases h2.2 with ⟨rfl, h0⟩ | ⟨b, cap, cur, rfl, hB, hbl, _⟩
  · refine ⟨none, 0, by rw [h0], fun i l hl => ?_⟩
    have := (List.getElem?_eq_some_iff.1 hl).1
    omega
  · refine ⟨_, cap, rfl, fun i l hl => ?_⟩
    obtain ⟨hi, rfl⟩ := List.getElem?_eq_some_iff.1 hl
    obtain ⟨u, hu⟩ : ∃ u, us[i]? = some u := ⟨_, List.getElem?_eq_getElem (by omega)⟩
    obtain ⟨hi2, rfl⟩ := List.getElem?_eq_some_iff.1 hu
    obtain ⟨z1, z2⟩ := secCells_at us t i _ hu
    have c1 := h2.cells (g := b) rfl _ _ z1
    have c2 := h2.cells (g := b) rfl _ _ z2
    rw [add_none, Nat.zero_add] at c1 c2
    exact ⟨b, _, rfl, c1, c2, (h3 i hi hi2).bt⟩
set_option maxHeartbeats 1000000 in
set_option maxRecDepth 100000 in
theorem sameS_any (x y : Value) (t : Nat) (ls : List (List UInt8)) (w : World) (hx : DSecs w x t ls) (hy : DSecs w y t ls) (hn : ls.length ≤ 4096) (hl : ∀ l ∈ ls, l.length ≤ 4096) (ht : t ≤ 4096) :
    Calls Tryd.prog 17 #[x, y] w fun e w' => e = .returned (.bool true) ∧ Same w w' := by
  obtain ⟨xa, xc, rfl, hx⟩ := hx
  obtain ⟨ya, yc, rfl, hy⟩ := hy
  have HX := hidden hx
  have HY := hidden hy
  have HL := hidden hl
  clear hx hy hl
  go_enter Tryd.func17, Tryd.ntmps17
  go_wp2
  go_loopw [5] (fun i wr => ∃ k : Nat, k ≤ ls.length ∧ i = .int .i64 k ∧ Same w wr) (fun i wr => ls.length - (intOf i).toNat)
  case atStart => exact ⟨0, Nat.zero_le _, rfl, Kept.refl _ _⟩
  case round =>
    obtain ⟨k, hk, rfl, hK⟩ := hrel
    by_cases h1 : k < ls.length
    · obtain ⟨l, hl⟩ : ∃ l, ls[k]? = some l := ⟨_, List.getElem?_eq_getElem h1⟩
      obtain ⟨b1, u1, rfl, n1, s1, t1⟩ := HX.out k l hl
      obtain ⟨b2, u2, rfl, n2, s2, t2⟩ := HY.out k l hl
      have hll := HL.out l (List.mem_of_getElem? hl)
      have q0 : (0 : Int) ≤ (k : Int) := Int.natCast_nonneg _
      have q1 : (k : Int) < (ls.length : Int) := by omega
      have HS : Hid (∀ W, Same w W → Calls Tryd.prog 25 #[u1, u2] W fun e w' => e = .returned (.bool true) ∧ Same W w') := hidden (fun W kk => by
        have := sameB_any u1 u2 l l W (t1.same kk) (t2.same kk) (by omega) (by omega)
        simpa using this)
      have hKk : ∀ V : Later wr, Same w V.world := fun V => hK.trans V.kept
      have x1 : ∀ V : Later wr, V.world.cell? ⟨b1, k * 2, none⟩ = some (.int .i64 ((t + k : Nat) : Int)) := fun V => by rw [Nat.mul_comm]; exact (hKk V).cell (fun h => h) n1
      have x2 : ∀ V : Later wr, V.world.cell? ⟨b1, k * 2 + 1, none⟩ = some u1 := fun V => by rw [Nat.mul_comm]; exact (hKk V).cell (fun h => h) s1
      have x3 : ∀ V : Later wr, V.world.cell? ⟨b2, k * 2, none⟩ = some (.int .i64 ((t + k : Nat) : Int)) := fun V => by rw [Nat.mul_comm]; exact (hKk V).cell (fun h => h) n2
      have x4 : ∀ V : Later wr, V.world.cell? ⟨b2, k * 2 + 1, none⟩ = some u2 := fun V => by rw [Nat.mul_comm]; exact (hKk V).cell (fun h => h) s2
      have HK := hidden hK
      generalize ((t + k : Nat) : Int) = z at x1 x3
      clear hK n1 s1 t1 n2 s2 t2 hl hll hKk
      go_wp2
      refine region_later (by kernel_rfl) (by kernel_rfl) ?_
      repeat (go_big_quiet_step ((first | (go_at_call 25; exact later_calls _ (HS.out _ (HK.out.trans (Later.kept _)))))))
      refine wpQuiet_nil ?_
      rintro V ⟨LV, hE⟩
      have hV : Hid (Same w V) := hidden (by rw [hE]; exact HK.out.trans LV.kept)
      clear hE LV x1 x2 x3 x4
      go_wp2
      go_roundw
      case rel => exact ⟨k + 1, by omega, by go_num, hV.out⟩
      case measure => simp [intOf]; omega
    · have he : k = ls.length := by omega
      subst he
      have q2 : ¬ (ls.length : Int) < (ls.length : Int) := by omega
      have HK := hidden hK
      clear hK
      go_wp2
      go_returns
      exact ⟨rfl, HK.out⟩
end Go.Proofs.YtljbmpnpbjnbkaaDoor
namespace Go.Proofs.YtljbmpnpbjnbkaaDoor
open Go.RowKit
set_option linter.unusedVariables false
set_option linter.unusedSimpArgs false
set_option maxHeartbeats 1000000 in
set_option maxRecDepth 100000 in
theorem newD_dl (size sectors gen : Nat) (w : World) (h : JMay size sectors) : Calls Tryd.prog 10 #[.int .i64 size, .int .i64 sectors, .int .u64 gen] w fun e w' => e = .returned (.tuple #[.pointer (some ⟨w.heap.size, 0, none⟩), .int .i64 0]) ∧ DL w.heap.size ⟨size, sectors, gen, [], 0, 0⟩ w' (.slice none 0 0) [] ∧ Same w w' := by
  have HP := hidden (fun W => refPower size 512 4096 W (by unfold Pow; omega) (by unfold Pow; omega))
  rw [show decide ((512 : Int) ≤ size ∧ (size : Int) ≤ 4096 ∧ Pow size) = true from decide_eq_true h.1] at HP
  have q1 : ¬ (sectors : Int) < 1 := by have := h.2.1; omega
  have q2 : ¬ (4096 : Int) < (sectors : Int) := by have := h.2.2; omega
  clear h
  go_enter Tryd.func10, Tryd.ntmps10
  go_wp2_with (go_at_call 30; refine (HP.out _).mono ?_; rintro e w1 ⟨rfl, rfl⟩)
  go_returns
  exact ⟨rfl, ⟨blk_new _ _, rfl, World.ownsRow_nil _ _ _ _, fun i x u hx _ => by simp at hx, fun i j u u' k hu => by simp at hu⟩, same_alloc _ _⟩
theorem JX.new {B gp : Nat} {s : JSt} {d : DSt} {w1 w2 : World} (hB : B ≤ gp) (h1 : JW gp s w1) (hr : rowOf w1 gp 4 = none) (k : Same w1 w2) (h2 : DL w1.heap.size d w2 (.slice none 0 0) []) : JX B gp w1.heap.size s d (.slice none 0 0) [] w2 := by
  have hl := h1.lt
  have hj := h1.jkept k (fun h => h)
  have hj' : ∀ i, jS gp w2 i → i = gp := fun i hi => by
    rcases (hj i).1 hi with e | e
    · exact e
    · rw [hr] at e
      cases e
  refine ⟨h1.same k, fun i hi => by rw [hj' i hi]; exact hB, h2, fun i hi => ?_⟩
  have hi' : i = w1.heap.size := by
    rcases hi with e | e | ⟨j, u, hu, e⟩
    · exact e
    · cases e
    · simp at hu
  subst hi'
  exact ⟨by omega, fun e => by have := hj' _ e; omega⟩
/-- The sectors of a Take, as what may be written. -/
def SecW (w : World) (v : Value) (m n0 : Nat) : Prop :=
  ∃ (a : Option Addr) (cap : Nat), v = .slice a m cap ∧ ∀ i, i < m → ∃ (b y len c : Nat) (cs : Array Value), a = some ⟨b, 0, none⟩ ∧ n0 ≤ y ∧ w.cell? ⟨b, i * 2 + 1, none⟩ = some (.slice (some ⟨y, 0, none⟩) len c) ∧ 0 < len  ∧ (∃ bs, w.heap[b]? = some (.cells bs 41 (0, 0))) ∧ w.heap[y]? = some (.cells cs 5 (0, 0)) ∧ 0 < cs.size
theorem Secs.w {w : World} {v : Value} {t B : Nat} {ls : List (List UInt8)} (h : Secs w v t ls B) (hl : ∀ l ∈ ls, 0 < l.length) : SecW w v ls.length B := by
  obtain ⟨us, h1, h2, h3⟩ := h
  rcases h2.2 with ⟨rfl, h0⟩ | ⟨b, cap, cur, rfl, hB, hbl, _⟩
  · exact ⟨none, 0, by rw [h0], fun i hi => by omega⟩
  · refine ⟨_, cap, rfl, fun i hi => ?_⟩
    obtain ⟨u, hu⟩ : ∃ u, us[i]? = some u := ⟨_, List.getElem?_eq_getElem (by omega)⟩
    obtain ⟨hi2, rfl⟩ := List.getElem?_eq_some_iff.1 hu
    obtain ⟨z1, z2⟩ := secCells_at us t i _ hu
    have c2 := h2.cells (g := b) rfl _ _ z2
    rw [add_none, Nat.zero_add] at c2
    obtain ⟨y, hy, e, hby⟩ := h3 i hi hi2
    rw [e] at c2
    have hp := hl _ (List.getElem_mem hi)
    refine ⟨b, y, _, _, _, rfl, hy, by rw [Nat.mul_comm]; exact c2, hp, ⟨_, hbl⟩, hby, by simpa using hp⟩
theorem SecW.same {w w' : World} {v : Value} {m n0 : Nat} (h : SecW w v m n0) (k : Same w w') : SecW w' v m n0 := by
  obtain ⟨a, cap, e, hc⟩ := h
  refine ⟨a, cap, e, fun i hi => ?_⟩
  obtain ⟨b, y, len, c, cs, h1, h2, h3, h4, ⟨bs, h6⟩, h7, h8⟩ := hc i hi
  have h6' := blk_kept k (fun h => h) h6
  exact ⟨b, y, len, c, cs, h1, h2, k.cell (fun h => h) h3, h4, ⟨bs, h6'⟩, blk_kept k (fun h => h) h7, h8⟩
theorem SecW.set {w : World} {v : Value} {m n0 y j : Nat} {cs0 : Array Value} (h : SecW w v m n0) (hy : w.heap[y]? = some (.cells cs0 5 (0, 0))) (u : Value) : SecW (w.setCell ⟨y, j, none⟩ u) v m n0 := by
  obtain ⟨a, cap, e, hc⟩ := h
  have hk : Kept (fun k => k = y) w (w.setCell ⟨y, j, none⟩ u) := (Kept.refl (fun k => k = y) w).setCell (p := ⟨y, j, none⟩) rfl _
  refine ⟨a, cap, e, fun i hi => ?_⟩
  obtain ⟨b, z, len, c, cs, h1, h2, h3, h4, ⟨bs, h6⟩, h7, h8⟩ := hc i hi
  have hby : b ≠ y := fun e => by
    subst e
    rw [h6] at hy
    exact absurd hy (by simp)
  have h6' := blk_kept hk hby h6
  have h3' := hk.cell (p := ⟨b, i * 2 + 1, none⟩) hby h3
  by_cases hz : z = y
  · subst hz
    rw [h7] at hy
    cases hy
    exact ⟨b, z, len, c, cs0.setIfInBounds j u, h1, h2, h3', h4, ⟨bs, h6'⟩, blk_set h7 u, by simpa using h8⟩
  · exact ⟨b, z, len, c, cs, h1, h2, h3', h4, ⟨bs, h6'⟩, blk_kept hk hz h7, h8⟩
end Go.Proofs.YtljbmpnpbjnbkaaDoor
