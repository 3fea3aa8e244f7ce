/- append of whatever, and where the new row lies; what lies in memory while CutPieces goes on. -/
import Derived.Test.YtdmekpokgnieeaaDoorPcO
namespace Go.Proofs.YtdmekpokgnieeaaDoor
open Go.RowKit Go.WideShapes Go.Shelf
set_option linter.unusedVariables false
theorem wpList_append_where {P : Program} {w : World} {ops : Array Oper} {rest : List Oper} {o : Oper} {a : Act} {Q : Exit → Act → World → Prop} (hgd : o.guard = none) (s x : Operand) (t : TypeId)
    (ho : o.op = .call { callee := .builtin .append, args := #[s, x], argTypes := #[t, t] })
    (base : Nat) (e : TypeId) (i : TypeInfo) (z : Value) (size bytes : Nat) (ht : P.underlying t = some (.slice e)) (hi : P.info? e = some i) (hz : i.zero = some z)
    (hsize : i.size = size) (hby : i.bytes = bytes) (hzs : z.cells.size = size) (hsz : 0 < size)
    (a0 : Option Addr) (n c0 : Nat) (xs : List Value) (hs : a.eval s = .slice a0 n c0) (hown : w.ownsRow base e size (.slice a0 n c0) n xs)
    (ao : Option Addr) (m c : Nat) (news : List Value) (hx : a.eval x = .slice ao m c) (hl : news.length = m * size) (hnews : Lies w ao m news) (h1 : ∀ u ∈ news, u.oneCell' = true)
    (h63 : n + m ≤ maxLen) (hbytes : (n + m) * bytes ≤ 140737488355328) (hbase : base ≤ w.heap.size)
    (h : ∀ a' cap w', w'.ownsRow base e size (.slice a' (n + m) cap) (n + m) (xs ++ news) → w.grownBy w' (Value.slice a0 n c0).ownBlock → (∀ g, (Value.slice a' (n + m) cap).ownBlock = some g → (Value.slice a0 n c0).ownBlock = some g ∨ g = w.heap.size) → wpList P ops Q rest (a.put o.dst (.slice a' (n + m) cap)) w') : wpList P ops Q (o :: rest) a w := by
  have key : ∃ a' cap w', (Builtin.append_ #[t, t] o.type #[.slice a0 n c0, .slice ao m c]).run P w = .ok (.slice a' (n + m) cap) w' ∧
      w'.ownsRow base e size (.slice a' (n + m) cap) (n + m) (xs ++ news) ∧ w.grownBy w' (Value.slice a0 n c0).ownBlock ∧ (∀ g, (Value.slice a' (n + m) cap).ownBlock = some g → (Value.slice a0 n c0).ownBlock = some g ∨ g = w.heap.size) := by
    rcases Nat.eq_zero_or_pos m with rfl | hm
    · have hn0 : news = [] := List.length_eq_zero_iff.1 (by simpa using hl)
      subst hn0
      exact ⟨a0, c0, w, run_append_none w t o.type e i ht hi a0 n c0 ao c (own_room hown), by simpa using hown, grownBy_rfl _ _, fun g hg => .inl (by simpa using hg)⟩
    · obtain ⟨ad, rfl, hc⟩ := hnews hm
      obtain ⟨g, cap, w', hr, h2, h3, h4, _⟩ := run_append_lies (P := P) w t o.type base e i z size bytes ht hi hz hsize hby hzs hsz _ n xs hown ad m c news hl hc h1 hm h63 hbytes hbase _ rfl
      exact ⟨_, cap, w', hr, h2, h3, fun g' hg' => by
        have : g = g' := by simpa [Value.ownBlock] using hg'
        subst this
        exact h4⟩
  obtain ⟨a', cap, w', hr, h2, h3, h4⟩ := key
  refine wpList_plain hgd fun K hK => ?_
  unfold Oper.wp execOp
  simp only [ho, resolve, invoke, builtin, Sem.run_bind, Sem.run_pure, Result.andThen_ok, List.map_toArray, List.map_cons, List.map_nil, hs, hx, hr]
  exact hK _ _ (h a' cap w' h2 h3 h4)
theorem Byt.off {w w' : World} {S : Nat → Prop} {p : Option Addr} {n cp : Nat} {l : List UInt8} (h : Byt w (.slice p n cp) l) (k : Kept S w w') (hs : 0 < l.length → ∀ ad, p = some ad → ¬ S ad.block) : Byt w' (.slice p n cp) l := by
  obtain ⟨a, cap, h1, h2, h9, h3⟩ := h
  simp only [Value.slice.injEq] at h1
  obtain ⟨rfl, rfl, rfl⟩ := h1
  refine ⟨p, cp, rfl, h2, h9, fun hp => ?_⟩
  obtain ⟨b, off, rfl, hc⟩ := h3 hp
  exact ⟨b, off, rfl, fun j x hj => k.cell (p := ⟨b, off + j, none⟩) (hs hp ⟨b, off, none⟩ rfl) (hc j x hj)⟩
theorem Byt.blk {w : World} {p : Option Addr} {n cp : Nat} {l : List UInt8} (h : Byt w (.slice p n cp) l) (hp : 0 < l.length) (ad : Addr) (e : p = some ad) : ad.block < w.heap.size := by
  obtain ⟨a, cap, h1, h2, h9, h3⟩ := h
  simp only [Value.slice.injEq] at h1
  obtain ⟨rfl, rfl, rfl⟩ := h1
  obtain ⟨b, off, rfl, hc⟩ := h3 hp
  cases e
  exact World.block_lt_of_cell? w _ (hc 0 _ (List.getElem?_eq_getElem hp))
/-- Both Cutters, what the document's one keeps, the two rows of the law's own: they lie apart. -/
structure Ob (c : Shp) (w : World) (g g2 len h : Nat) (rest : List UInt8) (p : Option Addr) (cp : Nat) (TL : List Nat) (ta : Option Addr) (tc : Nat) (AL : List UInt8) (aa : Option Addr) (ac : Nat) (W : World) : Prop where
  cc : CC c g len h W
  rb : RB c g2 (.slice p rest.length cp) W
  bt : Byt W (.slice p rest.length cp) rest
  ot : W.ownsRow (g2 + 1) 3 1 (.slice ta TL.length tc) TL.length (TL.map fun (n : Nat) => Value.int .i64 (n : Int))
  oa : W.ownsRow (g2 + 1) 5 1 (.slice aa AL.length ac) AL.length (AL.map U8)
  a1 : 0 < rest.length → ∀ k ad, (Value.slice ta TL.length tc).ownBlock = some k → p = some ad → k ≠ ad.block
  a2 : 0 < rest.length → ∀ k ad, (Value.slice aa AL.length ac).ownBlock = some k → p = some ad → k ≠ ad.block
  a3 : 0 < rest.length → ∀ ad, p = some ad → ad.block ≠ g ∧ ad.block < W.heap.size
  lt : w.heap.size ≤ g ∧ g < g2
  sm : Same w W
theorem own_lt {w : World} {b : Nat} {e : TypeId} {size : Nat} {v : Value} {n : Nat} {xs : List Value} (h : w.ownsRow b e size v n xs) (k : Nat) (hk : v.ownBlock = some k) : k < w.heap.size := by
  rcases h.2 with ⟨h1, h2⟩ | ⟨g, cap, cur, h1, h2, hh, _⟩
  · rw [h1] at hk; simp [Value.ownBlock] at hk
  · rw [h1] at hk
    have : g = k := by simpa [Value.ownBlock] using hk
    subst this
    exact blk_lt hh
theorem own_types {w : World} {b b' : Nat} {e e' : TypeId} {size size' : Nat} {v v' : Value} {n n' : Nat} {xs xs' : List Value} (h : w.ownsRow b e size v n xs) (h' : w.ownsRow b' e' size' v' n' xs') (hne : e ≠ e') (k : Nat) (hk : v.ownBlock = some k) : v'.ownBlock ≠ some k := by
  rcases h.2 with ⟨h1, h2⟩ | ⟨g, cap, cur, h1, h2, hh, _⟩
  · rw [h1] at hk; simp [Value.ownBlock] at hk
  · rw [h1] at hk
    have : g = k := by simpa [Value.ownBlock] using hk
    subst this
    rcases h'.2 with ⟨h1', _⟩ | ⟨g', cap', cur', h1', _, hh', _⟩
    · rw [h1']; simp [Value.ownBlock]
    · rw [h1']
      simp only [Value.ownBlock, ne_eq, Option.some.injEq]
      rintro rfl
      rw [hh] at hh'
      simp at hh'
      exact hne hh'.2
section
variable {c : Shp} {w : World} {g g2 len h : Nat} {rest : List UInt8} {p : Option Addr} {cp : Nat} {TL : List Nat} {ta : Option Addr} {tc : Nat} {AL : List UInt8} {aa : Option Addr} {ac : Nat} {W W' : World}
theorem Ob.same (H : Ob c w g g2 len h rest p cp TL ta tc AL aa ac W) (k : Same W W') : Ob c w g g2 len h rest p cp TL ta tc AL aa ac W' :=
  ⟨H.cc.kept k (fun h => h), H.rb.kept k (fun h => h), H.bt.same k, own_kept H.ot k (fun _ _ h => h), own_kept H.oa k (fun _ _ h => h), H.a1, H.a2, fun z ad e => ⟨(H.a3 z ad e).1, Nat.lt_of_lt_of_le (H.a3 z ad e).2 k.size⟩, H.lt, H.sm.trans k⟩
theorem Ob.x (H : Ob c w g g2 len h rest p cp TL ta tc AL aa ac W) {len' h' : Nat} (u : Upd g 4 W W') (hc : CC c g len' h' W') : Ob c w g g2 len' h' rest p cp TL ta tc AL aa ac W' :=
  ⟨hc, H.rb.kept u.kept (fun e => by have : g2 = g := e; have := H.lt; omega), H.bt.off u.kept (fun z ad e hs => (H.a3 z ad e).1 hs),
    own_kept H.ot u.kept (fun k hk hs => by have h1 := own_ge H.ot k hk; have : k = g := hs; have := H.lt; omega),
    own_kept H.oa u.kept (fun k hk hs => by have h1 := own_ge H.oa k hk; have : k = g := hs; have := H.lt; omega), H.a1, H.a2,
    fun z ad e => ⟨(H.a3 z ad e).1, Nat.lt_of_lt_of_le (H.a3 z ad e).2 u.kept.size⟩, H.lt, H.sm.trans' u.kept (fun i hi hs => by have : i = g := hs; have := H.lt; omega)⟩
theorem Ob.y (H : Ob c w g g2 len h rest p cp TL ta tc AL aa ac W) {rest' : List UInt8} {p' : Option Addr} {cp' : Nat} (k : Kept (only g2) W W') (hr : RB c g2 (.slice p' rest'.length cp') W') (hb : Byt W' (.slice p' rest'.length cp') rest') (ha : ∀ ad, p' = some ad → W.heap.size ≤ ad.block) : Ob c w g g2 len h rest' p' cp' TL ta tc AL aa ac W' :=
  ⟨H.cc.kept k (fun e => by have : g = g2 := e; have := H.lt; omega), hr, hb,
    own_kept H.ot k (fun k hk hs => by have h1 := own_ge H.ot k hk; have : k = g2 := hs; omega),
    own_kept H.oa k (fun k hk hs => by have h1 := own_ge H.oa k hk; have : k = g2 := hs; omega),
    fun z k ad hk e => by have h1 := own_lt H.ot k hk; have h2 := ha ad e; omega,
    fun z k ad hk e => by have h1 := own_lt H.oa k hk; have h2 := ha ad e; omega,
    fun z ad e => ⟨by have h2 := ha ad e; have h3 := H.cc.pc.lt; omega, hb.blk z ad e⟩, H.lt, H.sm.trans' k (fun i hi hs => by have : i = g2 := hs; have := H.lt; omega)⟩
theorem Ob.t (H : Ob c w g g2 len h rest p cp TL ta tc AL aa ac W) {TL' : List Nat} {ta' : Option Addr} {tc' : Nat} (hg : W.grownBy W' (Value.slice ta TL.length tc).ownBlock) (ho : W'.ownsRow (g2 + 1) 3 1 (.slice ta' TL'.length tc') TL'.length (TL'.map fun (n : Nat) => Value.int .i64 (n : Int))) (hw : ∀ g, (Value.slice ta' TL'.length tc').ownBlock = some g → (Value.slice ta TL.length tc).ownBlock = some g ∨ g = W.heap.size) : Ob c w g g2 len h rest p cp TL' ta' tc' AL aa ac W' := by
  have k : Kept (fun k => (Value.slice ta TL.length tc).ownBlock = some k) W W' := (Kept.refl _ W).grown hg (fun k e _ => e)
  exact ⟨H.cc.kept k (fun e => by have := own_ge H.ot _ e; have := H.lt; omega), H.rb.kept k (fun e => by have := own_ge H.ot _ e; omega), H.bt.off k (fun z ad e hs => H.a1 z _ ad hs e rfl), ho, own_kept H.oa k (fun k hk hs => own_types H.oa H.ot (by decide) k hk hs),
    fun z k ad hk e => by
      rcases hw k hk with h1 | h1
      · exact H.a1 z k ad h1 e
      · have := (H.a3 z ad e).2; omega,
    H.a2, fun z ad e => ⟨(H.a3 z ad e).1, Nat.lt_of_lt_of_le (H.a3 z ad e).2 k.size⟩, H.lt, H.sm.trans' k (fun i hi hs => by have := own_ge H.ot _ hs; have := H.lt; omega)⟩
theorem Ob.a (H : Ob c w g g2 len h rest p cp TL ta tc AL aa ac W) {AL' : List UInt8} {aa' : Option Addr} {ac' : Nat} (hg : W.grownBy W' (Value.slice aa AL.length ac).ownBlock) (ho : W'.ownsRow (g2 + 1) 5 1 (.slice aa' AL'.length ac') AL'.length (AL'.map U8)) (hw : ∀ g, (Value.slice aa' AL'.length ac').ownBlock = some g → (Value.slice aa AL.length ac).ownBlock = some g ∨ g = W.heap.size) : Ob c w g g2 len h rest p cp TL ta tc AL' aa' ac' W' := by
  have k : Kept (fun k => (Value.slice aa AL.length ac).ownBlock = some k) W W' := (Kept.refl _ W).grown hg (fun k e _ => e)
  exact ⟨H.cc.kept k (fun e => by have := own_ge H.oa _ e; have := H.lt; omega), H.rb.kept k (fun e => by have := own_ge H.oa _ e; omega), H.bt.off k (fun z ad e hs => H.a2 z _ ad hs e rfl), own_kept H.ot k (fun k hk hs => own_types H.ot H.oa (by decide) k hk hs), ho,
    H.a1, fun z k ad hk e => by
      rcases hw k hk with h1 | h1
      · exact H.a2 z k ad h1 e
      · have := (H.a3 z ad e).2; omega,
    fun z ad e => ⟨(H.a3 z ad e).1, Nat.lt_of_lt_of_le (H.a3 z ad e).2 k.size⟩, H.lt, H.sm.trans' k (fun i hi hs => by have := own_ge H.oa _ hs; have := H.lt; omega)⟩
/-- A row that is none of these is written. -/
theorem Ob.o (H : Ob c w g g2 len h rest p cp TL ta tc AL aa ac W) {v : Value} (k : Kept (fun q => v.ownBlock = some q) W W') (ha : ∀ q, v.ownBlock = some q → g2 < q ∧ (0 < rest.length → ∀ ad, p = some ad → q ≠ ad.block) ∧ (Value.slice ta TL.length tc).ownBlock ≠ some q ∧ (Value.slice aa AL.length ac).ownBlock ≠ some q) : Ob c w g g2 len h rest p cp TL ta tc AL aa ac W' := by
  exact ⟨H.cc.kept k (fun e => by have := (ha _ e).1; have := H.lt; omega), H.rb.kept k (fun e => by have := (ha _ e).1; omega), H.bt.off k (fun z ad e hs => (ha _ hs).2.1 z ad e rfl), own_kept H.ot k (fun k hk hs => (ha _ hs).2.2.1 hk), own_kept H.oa k (fun k hk hs => (ha _ hs).2.2.2 hk),
    H.a1, H.a2, fun z ad e => ⟨(H.a3 z ad e).1, Nat.lt_of_lt_of_le (H.a3 z ad e).2 k.size⟩, H.lt, H.sm.trans' k (fun i hi hs => by have := (ha _ hs).1; have := H.lt; omega)⟩
end
theorem Ints.lies {B : Nat} {w : World} {ao : Option Addr} {n cap : Nat} {l : List Nat} (h : Ints B w (.slice ao n cap) l) : Lies w ao n (l.map fun (n : Nat) => Value.int .i64 (n : Int)) := by
  intro hn
  rcases h.2 with ⟨h1, h2⟩ | ⟨g, cap', cur, h1, _⟩
  · simp only [Value.slice.injEq] at h1
    omega
  · simp only [Value.slice.injEq] at h1
    obtain ⟨rfl, rfl, rfl⟩ := h1
    exact ⟨_, rfl, fun j u hj => World.ownsRow.cells h (g := g) rfl j u hj⟩
/-- What the program's Write gives, and the document's. -/
structure WxP (c : Shp) (g : Nat) (S : List Nat) (R : List UInt8) (w : World) (u : Value) (W : World) : Prop where
  out : ∃ x y len h, u = .slice x S.length y ∧ Ints w.heap.size W (.slice x S.length y) S ∧ CC c g len h W ∧ c.grow 0 0 R = (R.length, false, len, h) ∧ Upd g 4 w W
structure WyP (c : Shp) (g : Nat) (S : List Nat) (R : List UInt8) (w : World) (u : Value) (W : World) : Prop where
  out : ∃ x y p cp, u = .slice x S.length y ∧ Ints w.heap.size W (.slice x S.length y) S ∧ RB c g (.slice p R.length cp) W ∧ Byt W (.slice p R.length cp) R ∧ (∀ ad, p = some ad → w.heap.size ≤ ad.block) ∧ Kept (only g) w W
theorem ints_form {B : Nat} {w : World} {u : Value} {l : List Nat} (h : Ints B w u l) : ∃ x y, u = .slice x l.length y := own_form h
theorem wx_any {c : Shp} (hc : c.Ok) {g len h : Nat} {w : World} (H : CC c g len h w) (hT : Tab w) (htg : 1 ≠ g) {rest : List UInt8} (hr : c.grow 0 0 rest = (rest.length, false, len, h)) {v : Value} {l : List UInt8} (hb : Byt w v l) (hl : rest.length + l.length ≤ 1099511627776) {S : List Nat} {R : List UInt8} (hs : c.sure (rest ++ l) = (S, R)) :
    Calls Tryd.prog 13 #[.pointer (some ⟨g, 0, none⟩), v] w fun e w' => ∃ u, e = .returned u ∧ WxP c g S R w u w' := by
  refine (cutWrite_any c hc H hT htg rest hr v l hb hl).mono ?_
  rintro e w' ⟨u, len', h', rfl, h1, h2, h3, h4⟩
  rw [hs] at h1 h3
  obtain ⟨x, y, rfl⟩ := ints_form h1
  exact ⟨_, rfl, ⟨x, y, len', h', rfl, h1, h2, h3, h4⟩⟩
theorem wy_any {c : Shp} (hc : c.Ok) {g : Nat} {w : World} {a1 : Option Addr} {c1 : Nat} {rest : List UInt8} (H : RB c g (.slice a1 rest.length c1) w) (hr : Byt w (.slice a1 rest.length c1) rest) {v : Value} {l : List UInt8} (hb : Byt w v l) (hl : rest.length + l.length ≤ 1099511627776) {S : List Nat} {R : List UInt8} (hs : c.sure (rest ++ l) = (S, R)) :
    Calls Tryd.prog 14 #[.pointer (some ⟨g, 0, none⟩), v] w fun e w' => ∃ u, e = .returned u ∧ WyP c g S R w u w' := by
  refine (refCutWrite_any c hc a1 c1 rest H hr v l hb hl).mono ?_
  rintro e w' ⟨u, a2, c2, rfl, h1, h2, h3, h4, h5⟩
  rw [hs] at h1 h2 h3
  obtain ⟨x, y, rfl⟩ := ints_form h1
  exact ⟨_, rfl, ⟨x, y, a2, c2, rfl, h1, h2, h3, h4, h5⟩⟩
/-- What the program's End gives, and the document's. -/
structure ExP (c : Shp) (g : Nat) (L : List Nat) (w : World) (u : Value) (W : World) : Prop where
  out : ∃ x y h, u = .slice x L.length y ∧ Ints w.heap.size W (.slice x L.length y) L ∧ CC c g 0 h W ∧ Upd g 4 w W
theorem ex_any {c : Shp} (hc : c.Ok) {g len h : Nat} {w : World} (H : CC c g len h w) {rest : List UInt8} (hr : c.grow 0 0 rest = (rest.length, false, len, h)) :
    Calls Tryd.prog 15 #[.pointer (some ⟨g, 0, none⟩)] w fun e w' => ∃ u, e = .returned u ∧ ExP c g (c.lens rest) w u w' := by
  have hl := (lens_rest c hc rest len h hr).1
  rw [hl]
  by_cases h0 : len = 0
  · subst h0
    refine (cutEnd_no c hc H).mono ?_
    rintro e w' ⟨rfl, k⟩
    exact ⟨_, rfl, ⟨none, 0, h, rfl, World.ownsRow_nil _ _ _ _, H.kept k (fun h => h), Upd.same k H.pc.lt⟩⟩
  · rw [if_neg h0]
    refine (cutEnd_yes c hc H h0).mono ?_
    rintro e w' ⟨u, rfl, h1, h2, h3⟩
    obtain ⟨x, y, rfl⟩ := ints_form h1
    exact ⟨_, rfl, ⟨x, y, 0, rfl, h1, h2, h3⟩⟩
structure EyP (g : Nat) (L : List Nat) (w : World) (u : Value) (W : World) : Prop where
  out : ∃ x y, u = .slice x L.length y ∧ Ints w.heap.size W (.slice x L.length y) L ∧ Kept (only g) w W
theorem ey_any {c : Shp} (hc : c.Ok) {g : Nat} {w : World} {a1 : Option Addr} {c1 : Nat} {rest : List UInt8} (H : RB c g (.slice a1 rest.length c1) w) (hr : Byt w (.slice a1 rest.length c1) rest) (hl : rest.length ≤ 1099511627776) :
    Calls Tryd.prog 16 #[.pointer (some ⟨g, 0, none⟩)] w fun e w' => ∃ u, e = .returned u ∧ EyP g (c.lens rest) w u w' := by
  refine (refCutEnd_any c hc a1 c1 rest H hr hl).mono ?_
  rintro e w' ⟨u, rfl, h1, h2⟩
  obtain ⟨x, y, rfl⟩ := ints_form h1
  exact ⟨_, rfl, ⟨x, y, rfl, h1, h2⟩⟩
structure LyP (L : List Nat) (w : World) (u : Value) (W : World) : Prop where
  out : ∃ x y, u = .tuple #[.slice x L.length y, .int .i64 0] ∧ Ints w.heap.size W (.slice x L.length y) L ∧ Same w W
theorem ly_any {c : Shp} (hc : c.Ok) {w : World} {v : Value} {l : List UInt8} (hb : Byt w v l) (hl : l.length ≤ 1099511627776) :
    Calls Tryd.prog 8 #[.agg #[.int .i64 c.mn, .int .i64 c.no, .int .i64 c.mx, .int .u64 c.seed], v] w fun e w' => ∃ u, e = .returned u ∧ LyP (c.lens l) w u w' := by
  refine (refLengths_yes c hc hb hl).mono ?_
  rintro e w' ⟨u, rfl, h1, h2⟩
  obtain ⟨x, y, rfl⟩ := ints_form h1
  exact ⟨_, rfl, ⟨x, y, rfl, h1, h2⟩⟩
end Go.Proofs.YtdmekpokgnieeaaDoor
