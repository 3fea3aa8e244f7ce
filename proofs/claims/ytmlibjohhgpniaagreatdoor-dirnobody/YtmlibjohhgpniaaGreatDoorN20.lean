/- node: Remove of a key that a leaf has. (Made by mkn20.py.) -/
import Derived.Test.YtmlibjohhgpniaaGreatDoorN10
import Derived.Deep.RegionLaw
import Derived.RegionTactic
/- node: the law's spoilt: it writes over the rows that it is handed, and nothing else. -/
/- node: the document's Find, where keys rise. -/
/- node: the document's lengths, shape, Check. -/
/- node: the law's sameTexts and Same, of equal ones. -/
/- the document's Copy of a node, by RegG. (Made by mkn15.py.) -/
/- the document's Copy of a node: a region of sixteen operations that draws its order, by RegG. -/
/- A region that draws its order, all of whose operations but the last only make memory: each is looked at once. Of no program. -/
/- append of whatever, and where the new row lies; node: Remove. -/
/- node: the law's lives. -/
/- node: Encode of a leaf that may be and fits. -/
namespace Go.Proofs.YtmlibjohhgpniaaGreatDoor
open Go.RowKit
set_option linter.unusedVariables false
set_option linter.unusedSimpArgs false
def Nd.encL (n : Nd) (sz : Nat) : List UInt8 :=
  headB 1 n.keys.length (entL n.keys n.vals).length (crc ((headB 1 n.keys.length (entL n.keys n.vals).length 0).take 12 ++ entL n.keys n.vals)) ++ (entL n.keys n.vals ++ List.replicate (sz - (16 + (entL n.keys n.vals).length)) 0)
structure EnP (sz : Nat) (L : List UInt8) (w : World) (u : Value) (W : World) : Prop where
  out : ∃ g, u = .tuple #[.slice (some ⟨g, 0, none⟩) sz sz, .int .i64 0] ∧ W.ownsRow w.heap.size 5 1 (.slice (some ⟨g, 0, none⟩) sz sz) sz (L.map U8) ∧ Same w W
theorem enc_list (H es : List UInt8) (sz : Nat) (h : H.length = 16) (hf : 16 + es.length ≤ sz) (C : Array Value) (hC : ((List.replicate sz (U8 0)).toArray.toList.take 0 ++ H.map U8 ++ (List.replicate sz (U8 0)).toArray.toList.drop (0 + H.length)).toArray = C) :
    ((C.toList.take 16 ++ es.map U8 ++ C.toList.drop (16 + es.length)).toArray.toList.take (sz * 1)) = (H ++ (es ++ List.replicate (sz - (16 + es.length)) 0)).map U8 := by
  have hm : (H.map U8).length = 16 := by rw [List.length_map, h]
  have e : C.toList = H.map U8 ++ List.replicate (sz - 16) (U8 0) := by
    rw [← hC, List.toList_toArray, List.toList_toArray, List.take_zero, List.nil_append, Nat.zero_add, h, List.drop_replicate]
  have e1 : C.toList.take 16 = H.map U8 := by rw [e, List.take_left' hm]
  have e2 : C.toList.drop (16 + es.length) = List.replicate (sz - (16 + es.length)) (U8 0) := by
    rw [e, List.drop_append, List.drop_of_length_le (by omega), List.nil_append, hm, List.drop_replicate]
    congr 1
    omega
  rw [e1, e2, List.toList_toArray, List.take_of_length_le (by simp only [List.length_append, List.length_map, List.length_replicate]; omega)]
  simp [List.map_append]
set_option maxRecDepth 100000 in
theorem slice16 (g n : Nat) (hn : 16 ≤ n) (W : World) (k : Nat) (hk : 16 + k = n) (hk0 : 0 < k) : (Instr.sliceAt 207 (.slice (some ⟨g, 0, none⟩) n n) (some (.int .i64 16)) none none).run Tryz.prog W = .ok (.slice (some ⟨g, 16, none⟩) k k) W := by
  rw [run_sliceAt_slice (h := Tryz.underlying207), run_slice_l (ht := Tryz.underlying207) (h0 := by omega) (h1 := by omega), size_byte]
  have e1 : n - 16 = k := by omega
  have e2 : ¬ n = 16 := by omega
  simp [sliced, e1, e2, add_none]
set_option maxHeartbeats 4000000 in
set_option maxRecDepth 100000 in
theorem encode_leaf (n : Nd) (a1 a2 a3 : Option Addr) (k1 c1 k2 c2 k3 c3 : Nat) (sz : Nat) (w : World) (r1 : Row w (.slice a1 k1 c1) (TS n.keys)) (r2 : Row w (.slice a2 k2 c2) (TS n.vals)) (r3 : Row w (.slice a3 k3 c3) (IS n.kids)) (hl : n.leaf = true) (hb : n.Bd) (hc : n.chk = 0) (hms : ∀ W, Calls Tryz.prog 163 #[.int .i64 (sz : Nat)] W fun e w' => e = .returned (.bool true) ∧ W = w') (hs : sz ≤ 4096) (hs0 : 512 ≤ sz) (hfit : n.size ≤ sz) (hT : Tab w) (hes : (entL n.keys n.vals).length + 16 = n.size) (hke : n.keys.length < 65536) (hka : n.keys.all mayK = true) (hva : n.vals.all mayV = true) :
    Calls Tryz.prog 125 #[.int .i64 (sz : Nat), .agg #[.bool n.leaf, .slice a1 k1 c1, .slice a2 k2 c2, .slice a3 k3 c3]] w fun e w' => ∃ u, e = .returned u ∧ EnP sz (n.encL sz) w u w' := by
  obtain ⟨i0, hi, hz0, hz1, hz2⟩ := info_parts info5
  have hsize : n.size = 16 + (n.keys.map fun k => 2 + k.size).sum + (n.vals.map fun v => v.size).sum := by unfold Nd.size; rw [hl]; rfl
  have HCk := hidden (fun W (k : Same w W) => check_any n a1 a2 a3 k1 c1 k2 c2 k3 c3 W (r1.same k) (r2.same k) (r3.same k) hb)
  have HSz := hidden (fun W (k : Same w W) => size_leaf n a1 a2 a3 k1 c1 k2 c2 k3 c3 W (r1.same k) (r2.same k) (r3.same k) hl hb (by omega))
  have HEn := hidden (fun W (k : Same w W) => entriesOf_leaf n a1 a2 a3 k1 c1 k2 c2 k3 c3 sz W (r1.same k) (r2.same k) (r3.same k) hl hb (Nd.chk_leaf hl hc).1 hka hva hs (by omega) (by omega))
  have HHd := hidden (fun W (k : Same w W) => headOf_leaf n a1 a2 a3 k1 c1 k2 c2 k3 c3 (entL n.keys n.vals) W hl (by rw [← r1.tl]; exact hke) (by omega) (hT.same k))
  have hcl := crc_lt ((headB 1 k1 (entL n.keys n.vals).length 0).take 12 ++ entL n.keys n.vals)
  have HTx := hidden (fun W => text_any 1 k1 (entL n.keys n.vals).length (crc ((headB 1 k1 (entL n.keys n.vals).length 0).take 12 ++ entL n.keys n.vals)) (by decide) (by rw [← r1.tl]; exact hke) (by omega) hcl W)
  have HMs := hidden hms
  have HL : Hid (n.encL sz = headB 1 k1 (entL n.keys n.vals).length (crc ((headB 1 k1 (entL n.keys n.vals).length 0).take 12 ++ entL n.keys n.vals)) ++ (entL n.keys n.vals ++ List.replicate (sz - (16 + (entL n.keys n.vals).length)) 0)) := by rw [Hid, Nd.encL, r1.tl]
  have hH16 := headB_len 1 k1 (entL n.keys n.vals).length (crc ((headB 1 k1 (entL n.keys n.vals).length 0).take 12 ++ entL n.keys n.vals))
  rw [← hsize, ← hes] at HSz
  rw [hc] at HCk
  have hesz : (entL n.keys n.vals).length + 16 ≤ sz := by omega
  have K0 : Hid (Same w (w.alloc (.cells #[.bool true, .slice a1 k1 c1, .slice a2 k2 c2, .slice a3 k3 c3] 100))) := hidden (same_alloc _ _)
  rw [hl] at HCk HSz HEn HHd ⊢
  clear hms hT hes hke hka hva hfit hc hl hb r1 r2 r3 hsize hcl
  generalize crc ((headB 1 k1 (entL n.keys n.vals).length 0).take 12 ++ entL n.keys n.vals) = c at *
  generalize entL n.keys n.vals = es at *
  generalize headB 1 k1 es.length c = H16 at *
  generalize n.encL sz = EL at *
  have HLH := hidden hH16
  have hgt : ¬ (sz : Int) < ((es.length + 16 : Nat) : Int) := by omega
  have hmk0 := fun W => make_bytes sz (by omega) W
  obtain ⟨ZA, hZA⟩ : ∃ ZA, (List.replicate sz (U8 0)).toArray = ZA := ⟨_, rfl⟩
  rw [hZA] at hmk0
  have HZA := hidden hZA
  have hmk := hidden hmk0
  have hsk : 16 + (sz - 16) = sz := by omega
  obtain ⟨s16, hs16⟩ : ∃ s16, sz - 16 = s16 := ⟨_, rfl⟩
  rw [hs16] at hsk
  have hs16' : 0 < s16 ∧ es.length ≤ s16 := by omega
  have HSL := hidden (fun g W => slice16 g sz (by omega) W s16 hsk hs16'.1)
  have hzsz : ZA.size = sz := by rw [← hZA]; simp
  have HZS := hidden hzsz
  clear hmk0 hZA hs16 hzsz
  clear hH16
  go_enter Tryz.func125, Tryz.ntmps125
  go_wp2_with (first
    | (go_at_call 112; refine (HCk.out _ K0.out).mono ?_; rintro e w1 ⟨rfl, q1⟩; have b1 := blk_kept q1 (fun h => h) (blk_new w (.cells #[.bool true, .slice a1 k1 c1, .slice a2 k2 c2, .slice a3 k3 c3] 100)); have x0 : w1.cell? ⟨w.heap.size, 0, none⟩ = some (.bool true) := blk_cell b1; have x1 : w1.cell? ⟨w.heap.size, 1, none⟩ = some (.slice a1 k1 c1) := blk_cell b1; have x2 : w1.cell? ⟨w.heap.size, 2, none⟩ = some (.slice a2 k2 c2) := blk_cell b1; have x3 : w1.cell? ⟨w.heap.size, 3, none⟩ = some (.slice a3 k3 c3) := blk_cell b1; have K1 := hidden (K0.out.trans q1); have B1 := hidden b1; clear q1 b1)
    | (go_at_call 163; refine (HMs.out _).mono ?_; rintro e w1' ⟨rfl, rfl⟩)
    | (go_at_call 127; refine (HSz.out _ K1.out).mono ?_; rintro e w2 ⟨rfl, q2⟩; have b2 := blk_kept q2 (fun h => h) B1.out; have y0 : w2.cell? ⟨w.heap.size, 0, none⟩ = some (.bool true) := blk_cell b2; have y1 : w2.cell? ⟨w.heap.size, 1, none⟩ = some (.slice a1 k1 c1) := blk_cell b2; have y2 : w2.cell? ⟨w.heap.size, 2, none⟩ = some (.slice a2 k2 c2) := blk_cell b2; have y3 : w2.cell? ⟨w.heap.size, 3, none⟩ = some (.slice a3 k3 c3) := blk_cell b2; have K2 := hidden (K1.out.trans q2); have B2 := hidden b2; clear q2 b2)
    | (go_at_call 164; refine (HEn.out _ K2.out).mono ?_; rintro e w3 ⟨rfl, q3⟩; have hmk3 := hmk.out w3; have b3 := blk_alloc (blk_kept q3 (fun h => h) B2.out) (.cells ZA 5); have z0 : (w3.alloc (.cells ZA 5)).cell? ⟨w.heap.size, 0, none⟩ = some (.bool true) := blk_cell b3; have z1 : (w3.alloc (.cells ZA 5)).cell? ⟨w.heap.size, 1, none⟩ = some (.slice a1 k1 c1) := blk_cell b3; have z2 : (w3.alloc (.cells ZA 5)).cell? ⟨w.heap.size, 2, none⟩ = some (.slice a2 k2 c2) := blk_cell b3; have z3 : (w3.alloc (.cells ZA 5)).cell? ⟨w.heap.size, 3, none⟩ = some (.slice a3 k3 c3) := blk_cell b3; have K3 := hidden ((K2.out.trans q3).alloc (.cells ZA 5)); have hw3 : w.heap.size < w3.heap.size := (by have h9 := blk_lt (blk_kept q3 (fun h => h) B2.out); exact h9); clear q3 b3)
    | (go_at_call 165; refine (HHd.out _ K3.out).mono ?_; rintro e w5 ⟨rfl, q5⟩; have g5 := blk_kept q5 (fun h => h) (blk_new w3 (.cells ZA 5)); have G5 := hidden g5; have K5 := hidden (K3.out.trans q5); clear q5 g5)
    | (go_at_call 166; refine (HTx.out _).mono ?_; rintro e w6 ⟨rfl, q6⟩; have g6 := blk_kept q6 (fun h => h) G5.out; obtain ⟨W7, hcp, g7, k7⟩ := copy_str H16 w6 w3.heap.size 0 sz sz ZA 5 g6 (by rw [HLH.out]; omega) (by rw [HLH.out, HZS.out]; omega); obtain ⟨C7, hC7⟩ : ∃ C7, (ZA.toList.take 0 ++ H16.map U8 ++ ZA.toList.drop (0 + H16.length)).toArray = C7 := ⟨_, rfl⟩; rw [hC7] at g7; have hC7s : C7.size = sz := (by rw [← hC7]; simp [HLH.out, HZS.out]; omega); obtain ⟨W8, hcp2, g8, k8⟩ := copy_str es W7 w3.heap.size 16 s16 s16 C7 5 g7 (by omega) (by rw [hC7s]; omega); have hsl := HSL.out w3.heap.size W7; have HC7 := hidden hC7; have HC7S := hidden hC7s; have G8 := hidden g8; have K8 := hidden ((((K5.out.trans q6).trans' k7 (fun i hi hs => by have : i = w3.heap.size := hs; omega))).trans' k8 (fun i hi hs => by have : i = w3.heap.size := hs; omega)); clear q6 g6 g7 k7 g8 k8 hC7 hC7s))
  go_returns
  refine ⟨_, rfl, ⟨w3.heap.size, rfl, ?_, K8.out⟩⟩
  have hz := HZA.out
  have hlen : EL.length = sz := by
    rw [HL.out, List.length_append, List.length_append, List.length_replicate, HLH.out]
    omega
  refine ⟨by rw [List.length_map, hlen, Nat.mul_one], .inr ⟨w3.heap.size, sz, _, rfl, by omega, G8.out, Nat.le_refl _, by unfold maxLen; omega, ?_, ?_⟩⟩
  · simp [HC7S.out]
    omega
  · rw [HL.out]
    have h7 := HC7.out
    rw [← hz] at h7
    exact enc_list H16 es sz HLH.out (by omega) _ h7
end Go.Proofs.YtmlibjohhgpniaaGreatDoor
namespace Go.Proofs.YtmlibjohhgpniaaGreatDoor
open Go.RowKit
set_option linter.unusedVariables false
set_option linter.unusedSimpArgs false
def nd2 : Nd := ⟨true, [⟨#[97]⟩, ⟨#[98, 98]⟩], [⟨#[49]⟩, ⟨#[50, 50]⟩], []⟩
theorem lt_ab : ltS ⟨#[97]⟩ ⟨#[98, 98]⟩ = true := by simp only [ltS, Lib.toList_data]; decide
theorem lt_a_b : ltS ⟨#[97]⟩ ⟨#[98]⟩ = true := by simp only [ltS, Lib.toList_data]; decide
theorem lt_bb_b : ltS ⟨#[98, 98]⟩ ⟨#[98]⟩ = false := by simp only [ltS, Lib.toList_data]; decide
theorem ne_bb_b : ((⟨#[98, 98]⟩ : ByteArray).toList == (⟨#[98]⟩ : ByteArray).toList) = false := by simp only [Lib.toList_data]; decide
theorem nd2_chk : nd2.chk = 0 := by
  simp [Nd.chk, Nd.ents, Nd.shape, Nd.lists, nd2, mayK, mayV, rises, lt_ab, ByteArray.size]
theorem nd2_ka : nd2.keys.all mayK = true := by decide
theorem nd2_va : nd2.vals.all mayV = true := by decide
theorem nd2_size : nd2.size = 26 := by decide
theorem nd2_ent : (entL nd2.keys nd2.vals).length = 10 := by decide +kernel
theorem nd2_cnt : nd2.cnt ⟨#[98]⟩ = 1 := by simp [Nd.cnt, nd2, ahead, lt_a_b, lt_bb_b]
theorem nd2_has : nd2.has ⟨#[98]⟩ = false := by simp [Nd.has, nd2_cnt]; simp [nd2, ne_bb_b]
theorem nd2_bd : nd2.Bd := ⟨by decide, by decide, by decide⟩
structure FnP (a : Nat) (b : Bool) (w : World) (u : Value) (W : World) : Prop where
  out : u = .tuple #[.int .i64 (a : Nat), .bool b] ∧ Same w W
theorem nd2_len : nd2.keys.length = 2 ∧ nd2.vals.length = 2 ∧ nd2.kids.length = 0 := by decide
structure N2P (w : World) (u : Value) (W : World) : Prop where
  out : ∃ a1 a2 a3 c1 c2 c3, u = .agg #[.bool true, .slice a1 2 c1, .slice a2 2 c2, .slice a3 0 c3] ∧ Row W (.slice a1 2 c1) (TS nd2.keys) ∧ Row W (.slice a2 2 c2) (TS nd2.vals) ∧ Row W (.slice a3 0 c3) (IS nd2.kids) ∧ Same w W
end Go.Proofs.YtmlibjohhgpniaaGreatDoor
namespace Go.Proofs.YtmlibjohhgpniaaGreatDoor
open Go.RowKit
set_option linter.unusedVariables false
set_option linter.unusedSimpArgs false
theorem run_append_where {P : Program} (w : World) (t ty : TypeId) (base : Nat) (e : TypeId) (i : TypeInfo) (z : Value) (size bytes : Nat) (ht : P.underlying t = some (.slice e)) (hi : P.info? e = some i) (hz : i.zero = some z)
    (hsize : i.size = size) (hby : i.bytes = bytes) (hzs : z.cells.size = size) (hsz : 0 < size)
    (a0 : Option Addr) (n c0 : Nat) (xs : List Value) (hown : w.ownsRow base e size (.slice a0 n c0) n xs)
    (ao : Option Addr) (m c : Nat) (news : List Value) (hl : news.length = m * size) (hnews : Lies w ao m news) (h1 : ∀ u ∈ news, u.oneCell' = true)
    (h63 : n + m ≤ maxLen) (hbytes : (n + m) * bytes ≤ 140737488355328) (hbase : base ≤ w.heap.size) :
    ∃ a' cap w', (Builtin.append_ #[t, t] ty #[.slice a0 n c0, .slice ao m c]).run P w = .ok (.slice a' (n + m) cap) w' ∧
      w'.ownsRow base e size (.slice a' (n + m) cap) (n + m) (xs ++ news) ∧ w.grownBy w' (Value.slice a0 n c0).ownBlock ∧ (∀ g, (Value.slice a' (n + m) cap).ownBlock = some g → (Value.slice a0 n c0).ownBlock = some g ∨ g = w.heap.size) := by
  rcases Nat.eq_zero_or_pos m with rfl | hm
  · have hn0 : news = [] := List.length_eq_zero_iff.1 (by simpa using hl)
    subst hn0
    exact ⟨a0, c0, w, run_append_none w t ty e i ht hi a0 n c0 ao c (own_room hown), by simpa using hown, grownBy_rfl _ _, fun g hg => .inl (by simpa using hg)⟩
  · obtain ⟨ad, rfl, hc⟩ := hnews hm
    obtain ⟨g, cap, w', hr, h2, h3, h4, _⟩ := run_append_lies (P := P) w t ty base e i z size bytes ht hi hz hsize hby hzs hsz _ n xs hown ad m c news hl hc h1 hm h63 hbytes hbase _ rfl
    exact ⟨_, cap, w', hr, h2, h3, fun g' hg' => by
      have : g = g' := by simpa [Value.ownBlock] using hg'
      subst this
      exact h4⟩
theorem wp_append_where {P : Program} {w : World} {o : Oper} {a : Act} {K : Act → World → Prop} {Q : Exit → Act → World → Prop} (s x : Operand) (t : TypeId)
    (ho : o.op = .call { callee := .builtin .append, args := #[s, x], argTypes := #[t, t] })
    (base : Nat) (e : TypeId) (i : TypeInfo) (z : Value) (size bytes : Nat) (ht : P.underlying t = some (.slice e)) (hi : P.info? e = some i) (hz : i.zero = some z)
    (hsize : i.size = size) (hby : i.bytes = bytes) (hzs : z.cells.size = size) (hsz : 0 < size)
    (a0 : Option Addr) (n c0 : Nat) (xs : List Value) (hs : a.eval s = .slice a0 n c0) (hown : w.ownsRow base e size (.slice a0 n c0) n xs)
    (ao : Option Addr) (m c : Nat) (news : List Value) (hx : a.eval x = .slice ao m c) (hl : news.length = m * size) (hnews : Lies w ao m news) (h1 : ∀ u ∈ news, u.oneCell' = true)
    (h63 : n + m ≤ maxLen) (hbytes : (n + m) * bytes ≤ 140737488355328) (hbase : base ≤ w.heap.size)
    (h : ∀ a' cap w', w'.ownsRow base e size (.slice a' (n + m) cap) (n + m) (xs ++ news) → w.grownBy w' (Value.slice a0 n c0).ownBlock → (∀ g, (Value.slice a' (n + m) cap).ownBlock = some g → (Value.slice a0 n c0).ownBlock = some g ∨ g = w.heap.size) → K (a.put o.dst (.slice a' (n + m) cap)) w') : o.wp P a w K Q := by
  obtain ⟨a', cap, w', hr, h2, h3, h4⟩ := run_append_where (P := P) w t o.type base e i z size bytes ht hi hz hsize hby hzs hsz a0 n c0 xs hown ao m c news hl hnews h1 h63 hbytes hbase
  unfold Oper.wp execOp
  simp only [ho, resolve, invoke, builtin, Sem.run_bind, Sem.run_pure, Result.andThen_ok, List.map_toArray, List.map_cons, List.map_nil, hs, hx, hr]
  exact h a' cap w' h2 h3 h4
theorem wpList_append_where {P : Program} {w : World} {ops : Array Oper} {rest : List Oper} {o : Oper} {a : Act} {Q : Exit → Act → World → Prop} (hgd : o.guard = none) (s x : Operand) (t : TypeId)
    (ho : o.op = .call { callee := .builtin .append, args := #[s, x], argTypes := #[t, t] })
    (base : Nat) (e : TypeId) (i : TypeInfo) (z : Value) (size bytes : Nat) (ht : P.underlying t = some (.slice e)) (hi : P.info? e = some i) (hz : i.zero = some z)
    (hsize : i.size = size) (hby : i.bytes = bytes) (hzs : z.cells.size = size) (hsz : 0 < size)
    (a0 : Option Addr) (n c0 : Nat) (xs : List Value) (hs : a.eval s = .slice a0 n c0) (hown : w.ownsRow base e size (.slice a0 n c0) n xs)
    (ao : Option Addr) (m c : Nat) (news : List Value) (hx : a.eval x = .slice ao m c) (hl : news.length = m * size) (hnews : Lies w ao m news) (h1 : ∀ u ∈ news, u.oneCell' = true)
    (h63 : n + m ≤ maxLen) (hbytes : (n + m) * bytes ≤ 140737488355328) (hbase : base ≤ w.heap.size)
    (h : ∀ a' cap w', w'.ownsRow base e size (.slice a' (n + m) cap) (n + m) (xs ++ news) → w.grownBy w' (Value.slice a0 n c0).ownBlock → (∀ g, (Value.slice a' (n + m) cap).ownBlock = some g → (Value.slice a0 n c0).ownBlock = some g ∨ g = w.heap.size) → wpList P ops Q rest (a.put o.dst (.slice a' (n + m) cap)) w') : wpList P ops Q (o :: rest) a w :=
  wpList_plain hgd fun _ hK => wp_append_where s x t ho base e i z size bytes ht hi hz hsize hby hzs hsz a0 n c0 xs hs hown ao m c news hx hl hnews h1 h63 hbytes hbase fun a' cap w' h2 h3 h4 => hK _ _ (h a' cap w' h2 h3 h4)
theorem step_append_where {P : Program} {w : World} {ops : Array Oper} {o : Oper} {a : Act} {K : Act → World → Prop} {Q : Exit → Act → World → Prop} {E : Prop} (hgd : o.guard = none) (s x : Operand) (t : TypeId)
    (ho : o.op = .call { callee := .builtin .append, args := #[s, x], argTypes := #[t, t] })
    (base : Nat) (e : TypeId) (i : TypeInfo) (z : Value) (size bytes : Nat) (ht : P.underlying t = some (.slice e)) (hi : P.info? e = some i) (hz : i.zero = some z)
    (hsize : i.size = size) (hby : i.bytes = bytes) (hzs : z.cells.size = size) (hsz : 0 < size)
    (a0 : Option Addr) (n c0 : Nat) (xs : List Value) (hs : a.eval s = .slice a0 n c0) (hown : w.ownsRow base e size (.slice a0 n c0) n xs)
    (ao : Option Addr) (m c : Nat) (news : List Value) (hx : a.eval x = .slice ao m c) (hl : news.length = m * size) (hnews : Lies w ao m news) (h1 : ∀ u ∈ news, u.oneCell' = true)
    (h63 : n + m ≤ maxLen) (hbytes : (n + m) * bytes ≤ 140737488355328) (hbase : base ≤ w.heap.size)
    (h : ∀ a' cap w', w'.ownsRow base e size (.slice a' (n + m) cap) (n + m) (xs ++ news) → w.grownBy w' (Value.slice a0 n c0).ownBlock → (∀ g, (Value.slice a' (n + m) cap).ownBlock = some g → (Value.slice a0 n c0).ownBlock = some g ∨ g = w.heap.size) → K (a.put o.dst (.slice a' (n + m) cap)) w') :
    if Region.wanted o (yielded ops a.tmps) = true then Oper.wp P o a w K Q else E := by
  have hw : Region.wanted o (yielded ops a.tmps) = true := by simp [Region.wanted, hgd]
  rw [if_pos hw]
  exact wp_append_where s x t ho base e i z size bytes ht hi hz hsize hby hzs hsz a0 n c0 xs hs hown ao m c news hx hl hnews h1 h63 hbytes hbase h
end Go.Proofs.YtmlibjohhgpniaaGreatDoor
namespace Go.Proofs.YtmlibjohhgpniaaGreatDoor
open Go.RowKit
set_option linter.unusedVariables false
def depB (ops : Array Oper) (i j : Nat) : Bool := match ops[i]? with
  | some o => o.after.any fun e => Region.binds .any e && e.on == j
  | none => false
/-- Each edge leads back, and from each operation but the last one some later one hangs. -/
def okB (ops : Array Oper) (m : Nat) : Bool :=
  decide (ops.size = m + 1) && ((List.range (m + 1)).all fun i => match ops[i]? with
    | some o => o.after.all fun e => !Region.binds .any e || decide (e.on < i)
    | none => false) && ((List.range m).all fun j => (List.range (m + 1)).any fun i => decide (j < i) && depB ops i j)
section
variable {P : Program} {ops : Array Oper} {Q : Exit → Act → World → Prop}
def doneOf (listed : Array Bool) (i : Nat) : Bool := listed.getD i false
theorem ready_iff {listed : Array Bool} (hs : listed.size = ops.size) {i : Nat} : i ∈ Region.ready .any ops listed ↔ i < ops.size ∧ doneOf listed i = false ∧ ∀ j, depB ops i j = true → doneOf listed j = true := by
  unfold Region.ready
  simp only [List.mem_filter, List.mem_range, Bool.and_eq_true, Bool.not_eq_true']
  constructor
  · rintro ⟨h1, h2, h3⟩
    refine ⟨h1, ?_, ?_⟩
    · unfold doneOf
      rw [Array.getD, dif_pos (by omega)] at h2 ⊢
      exact h2
    · intro j hj
      unfold depB at hj
      rw [Array.getElem?_eq_getElem h1] at hj h3
      simp only [Option.map_some, Option.getD_some, Array.all_eq_true', Array.any_eq_true', Bool.and_eq_true, Bool.or_eq_true, Bool.not_eq_true', beq_iff_eq] at hj h3
      obtain ⟨e, he, hb, rfl⟩ := hj
      rcases h3 e he with h4 | h4
      · rw [hb] at h4; cases h4
      · exact h4
  · rintro ⟨h1, h2, h3⟩
    refine ⟨h1, ?_, ?_⟩
    · unfold doneOf at h2
      rw [Array.getD, dif_pos (by omega)] at h2 ⊢
      exact h2
    · rw [Array.getElem?_eq_getElem h1]
      simp only [Option.map_some, Option.getD_some, Array.all_eq_true', Bool.or_eq_true, Bool.not_eq_true']
      intro e he
      by_cases hb : Region.binds .any e = true
      · right
        refine h3 e.on ?_
        unfold depB
        rw [Array.getElem?_eq_getElem h1]
        simp only [Array.any_eq_true', Bool.and_eq_true, beq_iff_eq]
        exact ⟨e, he, hb, rfl⟩
      · left
        simpa using hb
def und (d : Nat → Bool) (n : Nat) : Nat := ((List.range n).map fun i => if d i then 0 else 1).sum
theorem und_succ (d : Nat → Bool) (n : Nat) : und d (n + 1) = und d n + (if d n then 0 else 1) := by
  unfold und
  rw [List.range_succ, List.map_append, List.sum_append]
  simp
theorem und_same {d d' : Nat → Bool} : ∀ (n : Nat), (∀ i, i < n → d i = d' i) → und d n = und d' n
  | 0, _ => rfl
  | n + 1, h => by rw [und_succ, und_succ, und_same n (fun i hi => h i (by omega)), h n (by omega)]
theorem und_set {d d' : Nat → Bool} {i : Nat} (hi : d i = false) (hi' : d' i = true) (he : ∀ j, j ≠ i → d' j = d j) : ∀ (n : Nat), i < n → und d' n + 1 = und d n
  | 0, h => by omega
  | n + 1, h => by
    rw [und_succ, und_succ]
    by_cases hn : i = n
    · subst hn
      rw [und_same i (fun j hj => he j (by omega)), hi, hi']
      simp
    · have := und_set hi hi' he n (by omega)
      rw [he n (fun e => hn e.symm)]
      omega
theorem und_none {d : Nat → Bool} : ∀ (n : Nat), und d n = 0 → ∀ i, i < n → d i = true
  | 0, _, _, h => by omega
  | n + 1, h, i, hi => by
    rw [und_succ] at h
    by_cases hn : i = n
    · subst hn
      by_cases hd : d i = true
      · exact hd
      · rw [if_neg hd] at h; omega
    · exact und_none n (by omega) i (by omega)
theorem done_set {listed : Array Bool} {i : Nat} (hi : i < listed.size) (j : Nat) : doneOf (listed.setIfInBounds i true) j = if j = i then true else doneOf listed j := by
  unfold doneOf
  by_cases h : j = i
  · subst h
    rw [if_pos rfl]
    simp [Array.getD, hi]
  · rw [if_neg h]
    rw [Array.getD_eq_getD_getElem?, Array.getD_eq_getD_getElem?, Array.getElem?_setIfInBounds_ne (Ne.symm h)]
theorem least_below (d : Nat → Bool) : ∀ (m : Nat), (∃ k, k ≤ m ∧ d k = false) → ∃ i, i ≤ m ∧ d i = false ∧ ∀ j, j < i → d j = true
  | 0, ⟨k, hk, hd⟩ => ⟨0, Nat.le_refl _, by obtain rfl : k = 0 := by omega
                                            exact hd, fun j hj => by omega⟩
  | m + 1, hx => by
    by_cases hy : ∃ k, k ≤ m ∧ d k = false
    · obtain ⟨i, h1, h2, h3⟩ := least_below d m hy
      exact ⟨i, by omega, h2, h3⟩
    · obtain ⟨k, hk, hd⟩ := hx
      have hk1 : k = m + 1 := by
        rcases Nat.lt_or_ge k (m + 1) with h | h
        · exact absurd ⟨k, by omega, hd⟩ hy
        · omega
      subst hk1
      refine ⟨m + 1, Nat.le_refl _, hd, fun j hj => ?_⟩
      by_cases hdj : d j = true
      · exact hdj
      · exact absurd ⟨j, by omega, by simpa using hdj⟩ hy
theorem least (d : Nat → Bool) : ∀ (m : Nat), d m = false → ∃ i, i ≤ m ∧ d i = false ∧ ∀ j, j < i → d j = true
  | 0, h => ⟨0, Nat.le_refl _, h, fun j hj => by omega⟩
  | m + 1, h => by
    by_cases hx : ∃ k, k ≤ m ∧ d k = false
    · obtain ⟨k, hk, hd⟩ := hx
      obtain ⟨i, h1, h2, h3⟩ := least_below d m ⟨k, hk, hd⟩
      exact ⟨i, by omega, h2, h3⟩
    · refine ⟨m + 1, Nat.le_refl _, h, fun j hj => ?_⟩
      by_cases hd : d j = true
      · exact hd
      · exact absurd ⟨j, by omega, by simpa using hd⟩ hx
structure OkP (ops : Array Oper) (m : Nat) : Prop where
  size : ops.size = m + 1
  back : ∀ i j, i ≤ m → depB ops i j = true → j < i
  on : ∀ j, j < m → ∃ i, i ≤ m ∧ j < i ∧ depB ops i j = true
theorem okP {m : Nat} (h : okB ops m = true) : OkP ops m := by
  simp only [okB, Bool.and_eq_true, decide_eq_true_eq, List.all_eq_true, List.mem_range, List.any_eq_true] at h
  obtain ⟨⟨h1, h2⟩, h3⟩ := h
  refine ⟨h1, fun i j hi hd => ?_, fun j hj => ?_⟩
  · have := h2 i (by omega)
    unfold depB at hd
    rw [Array.getElem?_eq_getElem (by omega)] at hd this
    simp only [Array.all_eq_true', Array.any_eq_true', Bool.and_eq_true, Bool.or_eq_true, Bool.not_eq_true', beq_iff_eq, decide_eq_true_eq] at hd this
    obtain ⟨e, he, hb, rfl⟩ := hd
    rcases this e he with h4 | h4
    · rw [hb] at h4; cases h4
    · exact h4
  · obtain ⟨i, hi, hd⟩ := h3 j hj
    exact ⟨i, by omega, hd.1, hd.2⟩
theorem all_done {m : Nat} (ok : OkP ops m) {d : Nat → Bool} (hcl : ∀ i j, i ≤ m → d i = true → depB ops i j = true → d j = true) (hm : ∀ j, depB ops m j = true → d j = true) : ∀ (k j : Nat), m - j = k → j < m → d j = true := by
  intro k
  induction k using Nat.strongRecOn with
  | _ k ih =>
    intro j hk hj
    obtain ⟨i, hi, hlt, hd⟩ := ok.on j hj
    by_cases he : i = m
    · subst he
      exact hm j hd
    · exact hcl i j hi (ih (m - i) (by omega) i rfl (by omega)) hd
def upd {α : Type} (x : Nat → α) (i : Nat) (v : α) : Nat → α := fun j => if j = i then v else x j
/-- All operations but the last make memory alone, by an invariant over what has been done; the last one comes behind all others. -/
theorem wpAny_grow {m : Nat} (ok : OkP ops m) {w : World} {F : (Nat → Value) → Act} {I : (Nat → Bool) → (Nat → Value) → World → Prop}
    (hstep : ∀ i, i < m → ∀ d x W, Same w W → d i = false → (∀ j, depB ops i j = true → d j = true) → I d x W → wpOp P ops Q i (fun a' W' => ∃ v, a' = F (upd x i v) ∧ I (upd d i true) (upd x i v) W' ∧ Same w W') (F x) W)
    (hlast : ∀ d x W, Same w W → (∀ j, j < m → d j = true) → I d x W → wpOp P ops Q m (fun a' W' => Q .normal a' W') (F x) W) :
    ∀ (fuel : Nat) (listed : Array Bool) (x : Nat → Value) (W : World), listed.size = ops.size → und (doneOf listed) ops.size ≤ fuel → doneOf listed m = false → (∀ i j, i ≤ m → doneOf listed i = true → depB ops i j = true → doneOf listed j = true) → Same w W → I (doneOf listed) x W → wpAny P .any ops Q fuel listed (F x) W := by
  intro fuel
  induction fuel with
  | zero =>
    intro listed x W hs hu hdm _ _ _
    have := und_none _ (Nat.le_zero.1 hu) m (by have := ok.size; omega)
    rw [hdm] at this
    cases this
  | succ fuel ih =>
    intro listed x W hs hu hdm hcl hsm hr
    refine ⟨fun hn => ?_, fun i hi => ?_⟩
    · obtain ⟨i, h1, h2, h3⟩ := least (doneOf listed) m hdm
      have : i ∈ Region.ready .any ops listed := (ready_iff hs).2 ⟨by have := ok.size; omega, h2, fun j hj => h3 j (ok.back i j h1 hj)⟩
      rw [hn] at this
      cases this
    · obtain ⟨h1, h2, h3⟩ := (ready_iff hs).1 hi
      have hil : i < listed.size := by omega
      by_cases him : i = m
      · subst him
        have hall : ∀ j, j < i → doneOf listed j = true := fun j hj => all_done ok hcl h3 _ j rfl hj
        refine wpOp_mono (fun a' W' hq => ?_) (hlast (doneOf listed) x W hsm hall hr)
        have hnone : Region.ready .any ops (listed.setIfInBounds i true) = [] := by
          rw [List.eq_nil_iff_forall_not_mem]
          intro k hk
          obtain ⟨g1, g2, _⟩ := (ready_iff (by simpa using hs)).1 hk
          rw [done_set hil] at g2
          split at g2
          · cases g2
          · rename_i hne
            rw [hall k (by have := ok.size; omega)] at g2
            cases g2
        cases fuel with
        | zero => exact ⟨hnone, hq⟩
        | succ f => exact ⟨fun _ => hq, fun k hk => by rw [hnone] at hk; cases hk⟩
      · have hlt : i < m := by have := ok.size; omega
        refine wpOp_mono (fun a' W' hq => ?_) (hstep i hlt (doneOf listed) x W hsm h2 h3 hr)
        obtain ⟨v, rfl, hv, hw⟩ := hq
        have hde : doneOf (listed.setIfInBounds i true) = upd (doneOf listed) i true := by
          funext j
          rw [done_set hil]
          rfl
        refine ih _ _ _ (by simpa using hs) ?_ ?_ ?_ hw (by rw [hde]; exact hv)
        · have := und_set (d := doneOf listed) (d' := doneOf (listed.setIfInBounds i true)) h2 (by rw [done_set hil, if_pos rfl]) (fun j hj => by rw [done_set hil, if_neg hj]) ops.size h1
          omega
        · rw [done_set hil, if_neg (fun e => him e.symm)]
          exact hdm
        · intro k j hk hd hdep
          rw [done_set hil] at hd ⊢
          split
          · rfl
          · split at hd
            · rename_i _ hki
              subst hki
              exact h3 j hdep
            · exact hcl k j hk hd hdep
theorem region_grow {id m : Nat} {a : Act} {w : World} (hm : P.follows .mixedOrders = true) (hok : okB ops m = true) {F : (Nat → Value) → Act} {I : (Nat → Bool) → (Nat → Value) → World → Prop} (x0 : Nat → Value) (hF : F x0 = a) (h0 : I (fun _ => false) x0 w.drew)
    (hstep : ∀ i, i < m → ∀ d x W, Same w W → d i = false → (∀ j, depB ops i j = true → d j = true) → I d x W → wpOp P ops Q i (fun a' W' => ∃ v, a' = F (upd x i v) ∧ I (upd d i true) (upd x i v) W' ∧ Same w W') (F x) W)
    (hlast : ∀ d x W, Same w W → (∀ j, j < m → d j = true) → I d x W → wpOp P ops Q m (fun a' W' => Q .normal a' W') (F x) W) : (Code.region id ops true).wp P Q a w := by
  have ok := okP hok
  refine wp_region_any hm ?_
  rw [← hF]
  have hnd : doneOf (Array.replicate ops.size false) = fun _ => false := by
    funext i
    unfold doneOf
    simp only [Array.getD]
    split <;> simp
  refine wpAny_grow ok hstep hlast _ _ _ _ (by simp) ?_ (by rw [hnd]) (fun i j _ h => by rw [hnd] at h; cases h) ⟨rfl, rfl, rfl, Nat.le_refl _, fun _ _ _ => rfl⟩ (by rw [hnd]; exact h0)
  have h2 : ∀ (d : Nat → Bool) (k : Nat), und d k ≤ k := fun d k => by
    induction k with
    | zero => exact Nat.le_refl _
    | succ k ih => rw [und_succ]; split <;> omega
  exact h2 _ _
end
end Go.Proofs.YtmlibjohhgpniaaGreatDoor
namespace Go.Proofs.YtmlibjohhgpniaaGreatDoor
open Go.RowKit
set_option linter.unusedVariables false
set_option linter.unusedSimpArgs false
/-- An empty slice in a block of its own; a row that was appended to one. -/
structure Emp (B : Nat) (e : TypeId) (v : Value) (W : World) : Prop where
  out : ∃ g, v = .slice (some ⟨g, 0, none⟩) 0 0 ∧ B ≤ g ∧ W.heap[g]? = some (.cells #[] e (0, 0))
structure Apd (B : Nat) (e : TypeId) (k : Nat) (L : List Value) (v : Value) (W : World) : Prop where
  out : ∃ a c, v = .slice a k c ∧ W.ownsRow B e 1 (.slice a k c) k L ∧ (k = 0 → c = 0)
theorem Emp.same {B : Nat} {e : TypeId} {v : Value} {W W' : World} (h : Emp B e v W) (k : Same W W') : Emp B e v W' := by
  obtain ⟨g, h1, h2, h3⟩ := h.out
  exact ⟨g, h1, h2, blk_kept k (fun h => h) h3⟩
theorem Apd.same {B : Nat} {e : TypeId} {n : Nat} {L : List Value} {v : Value} {W W' : World} (h : Apd B e n L v W) (k : Same W W') : Apd B e n L v W' := by
  obtain ⟨a, c, h1, h2, h3⟩ := h.out
  exact ⟨a, c, h1, own_kept h2 k (fun _ _ h => h), h3⟩
theorem Emp.own {B : Nat} {e : TypeId} {v : Value} {W : World} (h : Emp B e v W) : W.ownsRow B e 1 v 0 [] := by
  obtain ⟨g, rfl, h2, h3⟩ := h.out
  exact ⟨rfl, .inr ⟨g, 0, #[], rfl, h2, h3, Nat.le_refl _, by decide, rfl, rfl⟩⟩
/-- What an append to an empty slice tells. -/
structure ApW (B : Nat) (e : TypeId) (k : Nat) (L : List Value) (v u : Value) (W W' : World) : Prop where
  apd : Apd B e k L u W'
  same : Same W W'
  new : 0 < k → ∀ g, u.ownBlock = some g → g = W.heap.size
theorem step_emp {P : Program} {W : World} {ops : Array Oper} {o : Oper} {a : Act} {K : Act → World → Prop} {Q : Exit → Act → World → Prop} {E : Prop} (hgd : o.guard = none) (s x : Operand) (t : TypeId)
    (ho : o.op = .call { callee := .builtin .append, args := #[s, x], argTypes := #[t, t] })
    (B : Nat) (e : TypeId) (i : TypeInfo) (z : Value) (bytes : Nat) (ht : P.underlying t = some (.slice e)) (hi : P.info? e = some i) (hz : i.zero = some z)
    (hsize : i.size = 1) (hby : i.bytes = bytes) (hzs : z.cells.size = 1)
    (v : Value) (hs : a.eval s = v) (hv : Emp B e v W)
    (ao : Option Addr) (k c : Nat) (L : List Value) (hx : a.eval x = .slice ao k c) (hr : Row W (.slice ao k c) L) (h1 : ∀ u ∈ L, u.oneCell' = true)
    (h63 : 0 + k ≤ maxLen) (hbytes : (0 + k) * bytes ≤ 140737488355328) (hB : B ≤ W.heap.size)
    (h : ∀ u W', ApW B e k L v u W W' → K (a.put o.dst u) W') :
    if Region.wanted o (yielded ops a.tmps) = true then Oper.wp P o a W K Q else E := by
  have hem := hv
  obtain ⟨g, hve, hg1, hg2⟩ := hv.out
  have hl := hr.len.1
  rcases Nat.eq_zero_or_pos k with hk | hk
  · subst hk
    have hn0 : L = [] := List.length_eq_zero_iff.1 hl.symm
    subst hn0
    subst hve
    have hw : Region.wanted o (yielded ops a.tmps) = true := by simp [Region.wanted, hgd]
    rw [if_pos hw]
    unfold Oper.wp execOp
    simp only [ho, resolve, invoke, builtin, Sem.run_bind, Sem.run_pure, Result.andThen_ok, List.map_toArray, List.map_cons, List.map_nil, hs, hx, run_append_none W t o.type e i ht hi (some ⟨g, 0, none⟩) 0 0 ao c (Nat.le_refl _)]
    exact h _ _ ⟨⟨some ⟨g, 0, none⟩, 0, rfl, hem.own, fun _ => rfl⟩, Kept.refl _ _, fun h => by omega⟩
  · subst hve
    obtain ⟨ad, rfl, hcells⟩ := hr.lies hk
    have hrun := run_append_grow (P := P) W t o.type e i z ht hi hz ⟨g, 0, none⟩ 0 0 [] (by simp) (fun j v hj => by simp at hj) ad k c L (by rw [hsize]; omega) hcells (by omega) (by unfold maxLen at h63; omega) (growslice_fits (by omega) (by rw [hby]; exact hbytes))
    have hge := grownCap_ge W (0 + k) 0 e
    have hle := grownCap_le_maxLen W (0 + k) 0 e h63
    generalize grownCap W (0 + k) 0 e = G at *
    have hw : Region.wanted o (yielded ops a.tmps) = true := by simp [Region.wanted, hgd]
    rw [if_pos hw]
    unfold Oper.wp execOp
    simp only [ho, resolve, invoke, builtin, Sem.run_bind, Sem.run_pure, Result.andThen_ok, List.map_toArray, List.map_cons, List.map_nil, hs, hx, hrun]
    rw [Nat.zero_add] at hge ⊢
    refine h _ _ ⟨⟨some ⟨W.heap.size, 0, none⟩, G, rfl, ⟨by omega, .inr ⟨W.heap.size, G, _, rfl, hB, blk_new W.drew _, hge, hle, ?_, ?_⟩⟩, fun h => by omega⟩, ((Kept.refl _ W).drew).alloc _, fun _ q hq => by simpa [Value.ownBlock] using hq.symm⟩
    · simp [size_zeroCells, hzs]
      omega
    · simp only [Array.toList_append, List.nil_append, Nat.mul_one]
      rw [List.take_append_of_le_length (by omega), List.take_of_length_le (by omega)]
/-- A node in rows of its own; texts and values lie apart where there are values. -/
structure NF' (B : Nat) (w : World) (u : Value) (n : Nd) : Prop where
  out : ∃ a1 a2 a3 c1 c2 c3, u = .agg #[.bool n.leaf, .slice a1 n.keys.length c1, .slice a2 n.vals.length c2, .slice a3 n.kids.length c3] ∧
    w.ownsRow B 9 1 (.slice a1 n.keys.length c1) n.keys.length (TS n.keys) ∧ w.ownsRow B 9 1 (.slice a2 n.vals.length c2) n.vals.length (TS n.vals) ∧ w.ownsRow B 3 1 (.slice a3 n.kids.length c3) n.kids.length (IS n.kids) ∧ (0 < n.vals.length → ∀ k, (Value.slice a1 n.keys.length c1).ownBlock = some k → (Value.slice a2 n.vals.length c2).ownBlock ≠ some k)
end Go.Proofs.YtmlibjohhgpniaaGreatDoor
namespace Go.Proofs.YtmlibjohhgpniaaGreatDoor
open Go.RowKit
set_option linter.unusedVariables false
set_option linter.unusedSimpArgs false
/-- What each operation of Copy's region tells. -/
def cpR (n : Nd) (a1 a2 a3 : Option Addr) (k1 c1 k2 c2 k3 c3 : Nat) (B : Nat) (i : Nat) (v : Value) (W : World) : Prop := match i with
  | 0 => v = .pointer (some ⟨B, 0, none⟩)
  | 1 => v = .bool n.leaf
  | 2 => Emp B 9 v W
  | 3 => v = .pointer (some ⟨B, 1, none⟩)
  | 4 => v = .slice a1 k1 c1
  | 5 => Apd B 9 k1 (TS n.keys) v W
  | 6 => Emp B 9 v W
  | 7 => v = .pointer (some ⟨B, 2, none⟩)
  | 8 => v = .slice a2 k2 c2
  | 9 => Apd B 9 k2 (TS n.vals) v W
  | 10 => Emp B 3 v W
  | 11 => v = .pointer (some ⟨B, 3, none⟩)
  | 12 => v = .slice a3 k3 c3
  | 13 => Apd B 3 k3 (IS n.kids) v W
  | 14 => ∃ u1 u2 u3, v = .agg #[.bool n.leaf, u1, u2, u3] ∧ Apd B 9 k1 (TS n.keys) u1 W ∧ Apd B 9 k2 (TS n.vals) u2 W ∧ Apd B 3 k3 (IS n.kids) u3 W ∧ (0 < k2 → ∀ k, u1.ownBlock = some k → u2.ownBlock ≠ some k)
  | _ => True
theorem cpR_same (n : Nd) (a1 a2 a3 : Option Addr) (k1 c1 k2 c2 k3 c3 : Nat) (B : Nat) (i : Nat) (v : Value) (W W' : World) (h : cpR n a1 a2 a3 k1 c1 k2 c2 k3 c3 B i v W) (k : Same W W') : cpR n a1 a2 a3 k1 c1 k2 c2 k3 c3 B i v W' := by
  match i, h with
  | 0, h => exact h
  | 1, h => exact h
  | 2, h => exact Emp.same h k
  | 3, h => exact h
  | 4, h => exact h
  | 5, h => exact Apd.same h k
  | 6, h => exact Emp.same h k
  | 7, h => exact h
  | 8, h => exact h
  | 9, h => exact Apd.same h k
  | 10, h => exact Emp.same h k
  | 11, h => exact h
  | 12, h => exact h
  | 13, h => exact Apd.same h k
  | 14, h =>
    obtain ⟨u1, u2, u3, h0, h1, h2, h3, h4⟩ := h
    exact ⟨u1, u2, u3, h0, h1.same k, h2.same k, h3.same k, h4⟩
  | n + 15, h => exact trivial
structure CpI (n : Nd) (a1 a2 a3 : Option Addr) (k1 c1 k2 c2 k3 c3 : Nat) (B : Nat) (d : Nat → Bool) (x : Nat → Value) (W : World) : Prop where
  r : ∀ i, d i = true → cpR n a1 a2 a3 k1 c1 k2 c2 k3 c3 B i (x i) W
  ap : d 5 = true → d 9 = true → 0 < k2 → ∀ k, (x 5).ownBlock = some k → (x 9).ownBlock ≠ some k
theorem CpI.step {n : Nd} {a1 a2 a3 : Option Addr} {k1 c1 k2 c2 k3 c3 B : Nat} {d : Nat → Bool} {x : Nat → Value} {W W' : World} (h : CpI n a1 a2 a3 k1 c1 k2 c2 k3 c3 B d x W) {i : Nat} {v : Value} (hv : cpR n a1 a2 a3 k1 c1 k2 c2 k3 c3 B i v W') (k : Same W W') (hap : upd d i true 5 = true → upd d i true 9 = true → 0 < k2 → ∀ k, (upd x i v 5).ownBlock = some k → (upd x i v 9).ownBlock ≠ some k) : CpI n a1 a2 a3 k1 c1 k2 c2 k3 c3 B (upd d i true) (upd x i v) W' := by
  refine ⟨fun j hj => ?_, hap⟩
  unfold upd at hj ⊢
  by_cases he : j = i
  · subst he
    rw [if_pos rfl]
    exact hv
  · rw [if_neg he] at hj ⊢
    exact cpR_same n a1 a2 a3 k1 c1 k2 c2 k3 c3 B j (x j) W W' (h.r j hj) k
def cpF (nv : Value) (B : Nat) (x : Nat → Value) : Act := { tmps := #[nv, .pointer (some ⟨B, 0, none⟩), .pointer (some ⟨B + 1, 0, none⟩), x 0, x 1, x 2, x 3, x 4, x 5, x 6, x 7, x 8, x 9, x 10, x 11, x 12, x 13, x 14], defers := [] }
end Go.Proofs.YtmlibjohhgpniaaGreatDoor
namespace Go.Proofs.YtmlibjohhgpniaaGreatDoor
open Go.RowKit
set_option linter.unusedVariables false
set_option linter.unusedSimpArgs false
end Go.Proofs.YtmlibjohhgpniaaGreatDoor
namespace Go.Proofs.YtmlibjohhgpniaaGreatDoor
open Go.RowKit
set_option linter.unusedVariables false
set_option linter.unusedSimpArgs false
end Go.Proofs.YtmlibjohhgpniaaGreatDoor
namespace Go.Proofs.YtmlibjohhgpniaaGreatDoor
open Go.RowKit
set_option linter.unusedVariables false
set_option linter.unusedSimpArgs false
theorem lt_trans' {a b c : ByteArray} (h1 : ltS a b = true) (h2 : ltS b c = true) : ltS a c = true := by
  simp only [ltS, decide_eq_true_eq] at *
  exact List.lt_trans h1 h2
theorem rises_lt {l : List ByteArray} (h : rises l = true) : ∀ (k i : Nat) (hi : i + (k + 1) < l.length), ltS (l[i]'(by omega)) l[i + (k + 1)] = true
  | 0, i, hi => rises_at.1 h i hi
  | k + 1, i, hi => by
    have h1 := rises_lt h k i (by omega)
    have h2 := rises_at.1 h (i + (k + 1)) (by omega)
    exact lt_trans' h1 h2
theorem ahead_down {l : List ByteArray} (h : rises l = true) (lf : Bool) (key : ByteArray) {i j : Nat} (hij : i < j) (hj : j < l.length) (ha : ahead lf key l[j] = true) : ahead lf key (l[i]'(by omega)) = true := by
  obtain ⟨k, rfl⟩ : ∃ k, j = i + (k + 1) := ⟨j - i - 1, by omega⟩
  have h1 := rises_lt h k i hj
  unfold ahead at ha ⊢
  simp only [Bool.or_eq_true, Bool.and_eq_true] at ha ⊢
  left
  rcases ha with ha | ⟨_, ha⟩
  · exact lt_trans' h1 ha
  · have he : l[i + (k + 1)] = key := bytes_ext (by simpa using ha)
    rw [he] at h1
    exact h1
theorem count_first {l : List ByteArray} (p : ByteArray → Bool) {m : Nat} (hm : m ≤ l.length) (h1 : ∀ i (h : i < m), p (l[i]'(by omega)) = true) (h2 : ∀ i (h : i < l.length), m ≤ i → p l[i] = false) : l.countP p = m := by
  conv => lhs; rw [← List.take_append_drop m l]
  rw [List.countP_append]
  have e1 : (l.take m).countP p = m := by
    rw [List.countP_eq_length.2 (fun a ha => by
      obtain ⟨i, hi, rfl⟩ := List.mem_iff_getElem.1 ha
      rw [List.getElem_take]
      exact h1 i (by rw [List.length_take] at hi; omega)), List.length_take]
    omega
  have e2 : (l.drop m).countP p = 0 := by
    rw [List.countP_eq_zero.2 (fun a ha => by
      obtain ⟨i, hi, rfl⟩ := List.mem_iff_getElem.1 ha
      rw [List.getElem_drop]
      rw [h2 (m + i) (by rw [List.length_drop] at hi; omega) (by omega)]
      simp)]
  omega
theorem cnt_first {n : Nd} (h : rises n.keys = true) (key : ByteArray) {m : Nat} (hm : m ≤ n.keys.length) (h1 : ∀ i (h : i < m), ahead n.leaf key (n.keys[i]'(by omega)) = true) (h2 : ∀ (hl : m < n.keys.length), ahead n.leaf key n.keys[m] = false) : n.cnt key = m := by
  refine count_first _ hm h1 (fun i hi hmi => ?_)
  rcases Nat.eq_or_lt_of_le hmi with rfl | hlt
  · exact h2 hi
  · rw [Bool.eq_false_iff]
    intro ha
    have := ahead_down h n.leaf key hlt hi ha
    rw [h2 (by omega)] at this
    cases this
end Go.Proofs.YtmlibjohhgpniaaGreatDoor
namespace Go.Proofs.YtmlibjohhgpniaaGreatDoor
open Go.RowKit
set_option linter.unusedVariables false
set_option linter.unusedSimpArgs false
theorem own_any {w : World} {B : Nat} {e : TypeId} {v : Value} {n : Nat} {xs : List Value} (h : w.ownsRow B e 1 v n xs) : ∃ ys : List Value, ys.length = n ∧ w.ownsRow B e 1 v n ys := ⟨xs, by have := h.1; omega, h⟩
end Go.Proofs.YtmlibjohhgpniaaGreatDoor
namespace Go.Proofs.YtmlibjohhgpniaaGreatDoor
open Go.RowKit
set_option linter.unusedVariables false
set_option linter.unusedSimpArgs false
theorem erase_step {α : Type} (l : List α) (i : Nat) {j : Nat} (hj : j < l.length) : (l.take (j + 1)).eraseIdx i = (l.take j).eraseIdx i ++ (if j = i then [] else [l[j]]) := by
  rw [List.take_add_one, List.getElem?_eq_getElem hj]
  simp only [Option.toList_some]
  have hlen : (l.take j).length = j := by rw [List.length_take]; omega
  rcases Nat.lt_trichotomy i j with h | h | h
  · rw [List.eraseIdx_append_of_lt_length (by omega), if_neg (by omega)]
  · subst h
    rw [List.eraseIdx_append_of_length_le (by omega), hlen, if_pos rfl, List.eraseIdx_of_length_le (l := l.take i) (by omega)]
    simp
  · rw [List.eraseIdx_of_length_le (by simp [hlen]; omega), List.eraseIdx_of_length_le (l := l.take j) (by omega), if_neg (by omega)]
/-- Where keys rise, a key that is there is at its place alone. -/
theorem has_at {n : Nd} {key : ByteArray} (hl : n.leaf = true) (h : n.has key = true) : ∃ hi : n.cnt key < n.keys.length, n.keys[n.cnt key] = key := by
  have hlt := Nd.has_lt h
  refine ⟨hlt, ?_⟩
  unfold Nd.has at h
  rw [hl, List.getElem?_eq_getElem hlt] at h
  exact bytes_ext (by simpa using h)
theorem only_at {n : Nd} {key : ByteArray} (hr : rises n.keys = true) (hl : n.leaf = true) (h : n.has key = true) {j : Nat} (hj : j < n.keys.length) (hne : j ≠ n.cnt key) : (n.keys[j].toList == key.toList) = false := by
  obtain ⟨hi, he⟩ := has_at hl h
  rcases Nat.lt_or_ge j (n.cnt key) with h1 | h1
  · obtain ⟨k, hk⟩ : ∃ k, n.cnt key = j + (k + 1) := ⟨n.cnt key - j - 1, by omega⟩
    have := rises_lt hr k j (by omega)
    simp only [← hk, he] at this
    exact (lt_yes this).2.2.2
  · obtain ⟨k, hk⟩ : ∃ k, j = n.cnt key + (k + 1) := ⟨j - n.cnt key - 1, by omega⟩
    subst hk
    have := rises_lt hr k (n.cnt key) hj
    rw [he] at this
    exact (lt_yes this).2.2.1
theorem lies_one (W : World) (t : TypeId) (v : Value) : Lies (W.alloc (.cells #[v] t)) (some ⟨W.heap.size, 0, none⟩) 1 [v] := fun _ => ⟨_, rfl, fun j u hj => by
  rw [add_none, Nat.zero_add, cell_of_row _ _ _ _ _ _ (heap_alloc_new W _)]
  simpa using hj⟩
structure RmP (w : World) (n : Nd) (t : Bool) (u : Value) (W : World) : Prop where
  out : ∃ v, u = .tuple #[v, .bool t] ∧ NF w.heap.size W v n ∧ Same w W
set_option maxHeartbeats 4000000 in
set_option maxRecDepth 100000 in
theorem remove_yes (n : Nd) (a1 a2 a3 : Option Addr) (k1 c1 k2 c2 k3 c3 : Nat) (key : ByteArray) (w : World) (r1 : Row w (.slice a1 k1 c1) (TS n.keys)) (r2 : Row w (.slice a2 k2 c2) (TS n.vals)) (r3 : Row w (.slice a3 k3 c3) (IS n.kids)) (hb : n.Bd) (hbig : n.keys.length ≤ 8796093022206) (hl : n.leaf = true) (hls : n.lists = true) (hr : rises n.keys = true) (hh : n.has key = true) :
    Calls Tryz.prog 58 #[.agg #[.bool n.leaf, .slice a1 k1 c1, .slice a2 k2 c2, .slice a3 k3 c3], .string key] w fun e w' => ∃ u, e = .returned u ∧ RmP w ⟨true, n.keys.eraseIdx (n.cnt key), n.vals.eraseIdx (n.cnt key), []⟩ true u w' := by
  obtain ⟨i0, hi, hz0, hz1, hz2⟩ := info_parts infoS
  have hkv : n.vals.length = n.keys.length := by
    unfold Nd.lists at hls
    rw [hl] at hls
    simp at hls
    exact hls.1
  have HLs := hidden (fun W (k : Same w W) => mayLists_any n a1 a2 a3 k1 c1 k2 c2 k3 c3 W (r1.same k) (r2.same k) (r3.same k) hb)
  have HCo := hidden (fun W (k : Same w W) => contains_any key n.keys a1 k1 c1 W (r1.same k) hb.k)
  have hany : n.keys.any (fun x => x.toList == key.toList) = true := by
    obtain ⟨hi, he⟩ := has_at hl hh
    exact List.any_eq_true.2 ⟨n.keys[n.cnt key], List.getElem_mem _, by rw [he]; simp⟩
  have HON := hidden (fun j (hj : j < n.keys.length) (hne : j ≠ n.cnt key) => only_at hr hl hh hj hne)
  have HAT := hidden (has_at hl hh)
  rw [hls] at HLs
  rw [hany] at HCo
  rw [hl] at HLs ⊢
  have E1 := hidden r1.tl
  have E2 := hidden r2.tl
  have R1 := hidden r1
  have R2 := hidden r2
  have HKV := hidden hkv
  have hk12 : k2 = k1 := by rw [← E1.out, ← E2.out]; exact hkv
  have HK12 := hidden hk12
  have hb1 : k1 ≤ 8796093022206 := by rw [← E1.out]; exact hbig
  have K0 : Hid (Same w ((w.alloc (.cells #[.bool true, .slice a1 k1 c1, .slice a2 k2 c2, .slice a3 k3 c3] 100)).alloc (.cells #[.bool false, .slice none 0 0, .slice none 0 0, .slice none 0 0] 100))) := hidden (((Kept.refl _ w).alloc _).alloc _)
  clear r1 r2 r3 hb hbig hls hr hl hany hkv hk12 hh
  generalize n.cnt key = ci at *
  go_enter Tryz.func58, Tryz.ntmps58
  go_wp2_with (first
    | (go_at_call 119; refine (HLs.out _ K0.out).mono ?_; rintro e w1 ⟨rfl, q1⟩; have g0 : w1.heap[w.heap.size]? = some (.cells #[.bool true, .slice a1 k1 c1, .slice a2 k2 c2, .slice a3 k3 c3] 100 (0, 0)) := blk_kept q1 (fun h => h) (box_blk _ _ _); have g1 : w1.heap[w.heap.size + 1]? = some (.cells #[.bool false, .slice none 0 0, .slice none 0 0, .slice none 0 0] 100 (0, 0)) := blk_kept q1 (fun h => h) (zero_blk _ _); have xc0 : w1.cell? ⟨w.heap.size, 0, none⟩ = some (.bool true) := blk_cell g0; have xc1 : w1.cell? ⟨w.heap.size, 1, none⟩ = some (.slice a1 k1 c1) := blk_cell g0; have xc2 : w1.cell? ⟨w.heap.size, 2, none⟩ = some (.slice a2 k2 c2) := blk_cell g0; have xc3 : w1.cell? ⟨w.heap.size, 3, none⟩ = some (.slice a3 k3 c3) := blk_cell g0; have G0 := hidden g0; have G1 := hidden g1; have K1 := hidden (K0.out.trans q1); clear q1 g0 g1)
    | (go_at_call 120; refine (HCo.out _ K1.out).mono ?_; rintro e w2 ⟨rfl, q2⟩; have g0 := blk_kept q2 (fun h => h) G0.out; have g1 := blk_kept q2 (fun h => h) G1.out; have H0 := hidden g0; have H1 := hidden g1; have K2 := hidden (K1.out.trans q2); have yc0 : w2.cell? ⟨w.heap.size, 0, none⟩ = some (.bool true) := blk_cell g0; have yc1 : w2.cell? ⟨w.heap.size, 1, none⟩ = some (.slice a1 k1 c1) := blk_cell g0; have yc2 : w2.cell? ⟨w.heap.size, 2, none⟩ = some (.slice a2 k2 c2) := blk_cell g0; have yc3 : w2.cell? ⟨w.heap.size, 3, none⟩ = some (.slice a3 k3 c3) := blk_cell g0; have y9 : (w2.alloc (.cells #[.bool true, .slice none 0 0, .slice none 0 0, .slice none 0 0] 100)).cell? ⟨w.heap.size, 1, none⟩ = some (.slice a1 k1 c1) := blk_cell (blk_alloc g0 _); clear q2 g0 g1))

  obtain ⟨W3, hW3⟩ : ∃ W3, W3 = w2.alloc (.cells #[.bool true, .slice none 0 0, .slice none 0 0, .slice none 0 0] 100) := ⟨_, rfl⟩
  have j0 := blk_alloc H0.out (.cells #[.bool true, .slice none 0 0, .slice none 0 0, .slice none 0 0] 100)
  have j1 := blk_alloc H1.out (.cells #[.bool true, .slice none 0 0, .slice none 0 0, .slice none 0 0] 100)
  have j2 := blk_new w2 (.cells #[.bool true, .slice none 0 0, .slice none 0 0, .slice none 0 0] 100)
  have jk := K2.out.alloc (.cells #[.bool true, .slice none 0 0, .slice none 0 0, .slice none 0 0] 100)
  rw [← hW3] at j0 j1 j2 jk ⊢
  have hB2 : w.heap.size + 1 < w2.heap.size := blk_lt H1.out
  have hB3 : W3.heap.size = w2.heap.size + 1 := by rw [hW3]; simp
  have J0 := hidden j0
  have J1 := hidden j1
  have J2 := hidden j2
  have JK := hidden jk
  clear hW3 j0 j1 j2 jk y9
  generalize w2.heap.size = B2 at *
  go_loopw [30] (fun iv wr => ∃ (j m : Nat) (ka va : Option Addr) (kc vc : Nat), iv = .int .i64 j ∧ j ≤ k1 ∧ m ≤ j ∧ m = ((n.keys.take j).eraseIdx ci).length ∧ m = ((n.vals.take j).eraseIdx ci).length ∧ wr.ownsRow (B2 + 1) 9 1 (.slice ka m kc) m (TS ((n.keys.take j).eraseIdx ci)) ∧ wr.ownsRow (B2 + 1) 9 1 (.slice va m vc) m (TS ((n.vals.take j).eraseIdx ci)) ∧ (∀ k, (Value.slice ka m kc).ownBlock = some k → (Value.slice va m vc).ownBlock ≠ some k) ∧ wr.heap[B2]? = some (.cells #[.bool true, .slice ka m kc, .slice va m vc, .slice none 0 0] 100 (0, 0)) ∧ wr.heap[w.heap.size]? = some (.cells #[.bool true, .slice a1 k1 c1, .slice a2 k2 c2, .slice a3 k3 c3] 100 (0, 0)) ∧ wr.heap[w.heap.size + 1]? = some (.cells #[.bool false, .slice none 0 0, .slice none 0 0, .slice none 0 0] 100 (0, 0)) ∧ Same w wr ∧ B2 + 1 ≤ wr.heap.size) (fun i _ => k1 - (intOf i).toNat)
  case atStart => exact ⟨0, 0, none, none, 0, 0, rfl, Nat.zero_le _, Nat.le_refl _, rfl, rfl, World.ownsRow_nil _ _ _ _, World.ownsRow_nil _ _ _ _, (fun k h => by cases h), J2.out, J0.out, J1.out, JK.out, by omega⟩
  case round =>
    obtain ⟨j, m, ka, va, kc, vc, rfl, hj, hmj, hm1, hm2, ho1, ho2, hap, hbl, hb0', hb1', hsm, hsz⟩ := hrel
    have HM1 := hidden hm1
    have HM2 := hidden hm2
    have HO1 := hidden ho1
    have HO2 := hidden ho2
    have HAP := hidden hap
    have HBL := hidden hbl
    have HB0 := hidden hb0'
    have HB1 := hidden hb1'
    have HSM := hidden hsm
    clear hm1 hm2 ho1 ho2 hap hbl hb0' hb1' hsm
    by_cases hlt : j < k1
    · have hil : j < n.keys.length := by rw [E1.out]; exact hlt
      have hiv : j < n.vals.length := by rw [HKV.out]; exact hil
      obtain ⟨b, off, hab, hc⟩ := (R1.out.same HSM.out).text hil
      subst hab
      have es1 := erase_step n.keys ci hil
      have es2 := erase_step n.vals ci hiv
      obtain ⟨x, hx⟩ : ∃ x, n.keys[j] = x := ⟨_, rfl⟩
      obtain ⟨y, hy⟩ : ∃ y, n.vals[j] = y := ⟨_, rfl⟩
      have q0 : (0 : Int) ≤ (j : Int) := Int.natCast_nonneg _
      have q1 : (j : Int) < (k1 : Int) := by omega
      by_cases hjc : j = ci
      · rw [if_pos hjc, List.append_nil] at es1 es2
        have hxk : (x.toList == key.toList) = true := by
          obtain ⟨hci, he⟩ := HAT.out
          subst hjc
          rw [← hx, he]
          simp
        have hxk2 : (x.toList != key.toList) = false := by simp [bne, hxk]
        have ES1 := hidden es1
        have ES2 := hidden es2
        rw [hx] at hc
        clear es1 es2 hx hy hjc
        go_wp2
        go_roundw
        case rel => exact ⟨j + 1, m, ka, va, kc, vc, by go_num, by omega, by omega, by rw [ES1.out]; exact HM1.out, by rw [ES2.out]; exact HM2.out, by rw [ES1.out]; exact HO1.out, by rw [ES2.out]; exact HO2.out, HAP.out, HBL.out, HB0.out, HB1.out, HSM.out, hsz⟩
        case measure => simp [intOf]; omega
      · rw [if_neg hjc] at es1 es2
        have hxk : (x.toList == key.toList) = false := by rw [← hx]; exact HON.out j hil hjc
        have hxk2 : (x.toList != key.toList) = true := by simp [bne, hxk]
        rw [hx] at hc es1
        rw [hy] at es2
        have ES1 := hidden es1
        have ES2 := hidden es2
        have HY := hidden hy
        clear es1 es2 hx hjc
        have z1 : wr.cell? ⟨B2, 1, none⟩ = some (.slice ka m kc) := blk_cell HBL.out
        have t1 : True := trivial
        go_wp2_with (have _t := t1; refine wpList_append_where rfl _ _ 84 rfl (B2 + 1) 9 i0 (.string ⟨#[]⟩) 1 16 Tryz.underlying84 hi hz0 hz1 hz2 rfl (by decide) ka m kc _ rfl (HO1.out.alloc _) (some ⟨wr.heap.size, 0, none⟩) 1 1 [.string x] rfl rfl (lies_one _ _ _) (by simp [Value.oneCell']) (by unfold maxLen; omega) (by omega) (by simp; omega) ?_; intro ka' kc' w4 ho hg hw; clear t1; have kg : Kept (fun k => (Value.slice ka m kc).ownBlock = some k) wr w4 := ((Kept.refl _ wr).alloc _).grown hg (fun k e _ => e); have b2 := blk_kept kg (fun e => by have := own_geN HO1.out _ e; omega) HBL.out; have b0' := blk_kept kg (fun e => by have := own_geN HO1.out _ e; omega) HB0.out; have b1' := blk_kept kg (fun e => by have := own_geN HO1.out _ e; omega) HB1.out; have p2 := own_kept HO2.out kg (fun k hk hs => HAP.out k hs hk); have iap : ∀ k, (Value.slice ka' (m + 1) kc').ownBlock = some k → (Value.slice va m vc).ownBlock ≠ some k := (fun k hk h2 => by rcases hw k hk with h3 | h3; (exact HAP.out k h3 h2); (have h4 := own_ltN HO2.out k h2; simp at h3; omega)); have sm := HSM.out.trans' kg (fun i hi hs => by have := own_geN HO1.out _ hs; have := JK.out.size; omega); have wc1 : w4.cell? ⟨B2, 1, none⟩ = some (.slice ka m kc) := blk_cell b2; have wf1 : w4.frozen? ⟨B2, 1, none⟩ = false := blk_free b2; have ks : Kept (only B2) w4 (w4.setCell ⟨B2, 1, none⟩ (.slice ka' (m + 1) kc')) := (Kept.refl (only B2) w4).setCell (p := ⟨B2, 1, none⟩) rfl _; have g2 : (w4.setCell ⟨B2, 1, none⟩ (.slice ka' (m + 1) kc')).heap[B2]? = some (.cells #[.bool true, .slice ka' (m + 1) kc', .slice va m vc, .slice none 0 0] 100 (0, 0)) := blk_set b2 _; have g0 := blk_kept ks (by show ¬ w.heap.size = B2; omega) b0'; have g1 := blk_kept ks (by show ¬ w.heap.size + 1 = B2; omega) b1'; have u1 := own_kept ho ks (fun k hk hs => by have h1 := own_geN ho k hk; have h2 : k = B2 := hs; omega); have u2 := own_kept p2 ks (fun k hk hs => by have h1 := own_geN p2 k hk; have h2 : k = B2 := hs; omega); have sm2 := sm.setNew (p := ⟨B2, 1, none⟩) (by show w.heap.size ≤ B2; omega) (.slice ka' (m + 1) kc'); have hv9 := (R2.out.same sm2).text hiv; have d2 : (w4.setCell ⟨B2, 1, none⟩ (.slice ka' (m + 1) kc')).cell? ⟨B2, 2, none⟩ = some (.slice va m vc) := blk_cell g2; have d3 : (w4.setCell ⟨B2, 1, none⟩ (.slice ka' (m + 1) kc')).cell? ⟨w.heap.size, 2, none⟩ = some (.slice a2 k2 c2) := blk_cell g0; have G2 := hidden g2; have G0' := hidden g0; have G1' := hidden g1; have U1 := hidden u1; have U2 := hidden u2; have SM2 := hidden sm2; have IAP := hidden iap; have hz4 : wr.heap.size ≤ w4.heap.size := kg.size; have HV9 := hidden hv9; clear ho hg hw kg b2 b0' b1' p2 iap sm ks g2 g0 g1 u1 u2 sm2 hv9)
        obtain ⟨bv, offv, hav, hcv⟩ := HV9.out
        subst hav
        rw [HY.out] at hcv
        have hjk2 : (j : Int) < (k2 : Int) := by have := HK12.out; omega
        have U2d := hidden (U2.out.drew)
        obtain ⟨S1, hS1⟩ : ∃ S1, S1 = (w4.setCell ⟨B2, 1, none⟩ (.slice ka' (m + 1) kc')) := ⟨_, rfl⟩
        rw [← hS1] at d2 d3 hcv ⊢
        have G2s := G2.out
        have G0s := G0'.out
        have G1s := G1'.out
        have U1s := U1.out
        have U2s := U2.out
        have SMs := SM2.out
        have hzs : S1.heap.size = w4.heap.size := by rw [hS1]; simp [World.setCell]
        rw [← hS1] at G2s G0s G1s U1s U2s SMs
        have X2 := hidden G2s
        have X0 := hidden G0s
        have X1 := hidden G1s
        have V1 := hidden U1s
        have V2 := hidden U2s
        have VS := hidden SMs
        clear hS1 G2 G0' G1' U1 U2 SM2 G2s G0s G1s U1s U2s SMs U2d HV9
        have d2a : (S1.alloc (.cells #[.string y] 9)).cell? ⟨B2, 2, none⟩ = some (.slice va m vc) := blk_cell (blk_alloc X2.out _)
        go_region_law (refine step_append_where rfl _ _ 84 rfl (B2 + 1) 9 i0 (.string ⟨#[]⟩) 1 16 Tryz.underlying84 hi hz0 hz1 hz2 rfl (by decide) va m vc _ (by simp [Act.eval, Act.put]) ((V2.out.alloc _).drew) (some ⟨S1.heap.size, 0, none⟩) 1 1 [.string y] (by simp [Act.eval, Act.put]) rfl (fun h => lies_one S1 _ _ h) (by simp [Value.oneCell']) (by unfold maxLen; omega) (by omega) (by simp; omega) ?_; intro va' vc' w5 ho hg hw; have kg : Kept (fun k => (Value.slice va m vc).ownBlock = some k) S1 w5 := (((Kept.refl _ S1).alloc _).drew).grown hg (fun k e _ => e); have b2 := blk_kept kg (fun e => by have := own_geN V2.out _ e; omega) X2.out; have e2 : w5.cell? ⟨B2, 2, none⟩ = some (.slice va m vc) := blk_cell b2; have e2f : w5.frozen? ⟨B2, 2, none⟩ = false := blk_free b2; have Y2 := hidden b2; have KG := hidden kg; have HO5 := hidden ho; have HW5 := hidden hw; clear ho hg hw kg b2)
        all_goals
          have kg := KG.out
          have b0' := blk_kept kg (fun e => by have := own_geN V2.out _ e; omega) X0.out
          have b1' := blk_kept kg (fun e => by have := own_geN V2.out _ e; omega) X1.out
          have p1 := own_kept V1.out kg (fun k hk hs => IAP.out k hk hs)
          have jap : ∀ k, (Value.slice ka' (m + 1) kc').ownBlock = some k → (Value.slice va' (m + 1) vc').ownBlock ≠ some k := (fun k hk h2 => by
            rcases HW5.out k h2 with h3 | h3
            · exact IAP.out k hk h3
            · have h4 := own_ltN V1.out k hk
              simp at h3
              omega)
          have sm := VS.out.trans' kg (fun i hi hs => by have := own_geN V2.out _ hs; omega)
          have ks : Kept (only B2) w5 (w5.setCell ⟨B2, 2, none⟩ (.slice va' (m + 1) vc')) := (Kept.refl (only B2) w5).setCell (p := ⟨B2, 2, none⟩) rfl _
          have g2 : (w5.setCell ⟨B2, 2, none⟩ (.slice va' (m + 1) vc')).heap[B2]? = some (.cells #[.bool true, .slice ka' (m + 1) kc', .slice va' (m + 1) vc', .slice none 0 0] 100 (0, 0)) := blk_set Y2.out _
          have g0 := hidden (blk_kept ks (by show ¬ w.heap.size = B2; omega) b0')
          have g1 := hidden (blk_kept ks (by show ¬ w.heap.size + 1 = B2; omega) b1')
          have u1 := hidden (own_kept p1 ks (fun k hk hs => by have h1 := own_geN p1 k hk; have h2 : k = B2 := hs; omega))
          have u2 := hidden (own_kept HO5.out ks (fun k hk hs => by have h1 := own_geN HO5.out k hk; have h2 : k = B2 := hs; omega))
          have sm2 := hidden (sm.setNew (p := ⟨B2, 2, none⟩) (by show w.heap.size ≤ B2; omega) (.slice va' (m + 1) vc'))
          have JAP := hidden jap
          have G2 := hidden g2
          have hz5 : S1.heap.size ≤ w5.heap.size := kg.size
          have hz6 := ks.size
          clear kg b0' b1' p1 jap sm ks g2
          go_wp2
          go_roundw
          case rel =>
            refine ⟨j + 1, m + 1, ka', va', kc', vc', by go_num, by omega, by omega, ?_, ?_, ?_, ?_, JAP.out, G2.out, g0.out, g1.out, sm2.out, by omega⟩
            · rw [ES1.out, List.length_append, ← HM1.out]; rfl
            · rw [ES2.out, List.length_append, ← HM2.out]; rfl
            · have h9 := u1.out
              rw [ES1.out]
              simpa [TS] using h9
            · have h9 := u2.out
              rw [ES2.out]
              simpa [TS] using h9
          case measure => simp [intOf]; omega
    · obtain rfl : j = k1 := by omega
      have q1 : ¬ (j : Int) < (j : Int) := by omega
      have f1 : n.keys.take j = n.keys := by rw [← E1.out, List.take_length]
      have f2 : n.vals.take j = n.vals := by rw [← E1.out, ← HKV.out, List.take_length]
      rw [f1] at HM1 HO1
      rw [f2] at HM2 HO2
      have l0 := HBL.out
      have lc0 : wr.cell? ⟨B2, 0, none⟩ = some (.bool true) := blk_cell l0
      have lc1 : wr.cell? ⟨B2, 1, none⟩ = some (.slice ka m kc) := blk_cell l0
      have lc2 : wr.cell? ⟨B2, 2, none⟩ = some (.slice va m vc) := blk_cell l0
      have lc3 : wr.cell? ⟨B2, 3, none⟩ = some (.slice none 0 0) := blk_cell l0
      have l1 := HB1.out
      have sc0 : wr.cell? ⟨w.heap.size + 1, 0, none⟩ = some (.bool false) := blk_cell l1
      have sf0 : wr.frozen? ⟨w.heap.size + 1, 0, none⟩ = false := blk_free l1
      have sc1 : wr.cell? ⟨w.heap.size + 1, 1, none⟩ = some (.slice none 0 0) := blk_cell l1
      have sf1 : wr.frozen? ⟨w.heap.size + 1, 1, none⟩ = false := blk_free l1
      have sc2 : wr.cell? ⟨w.heap.size + 1, 2, none⟩ = some (.slice none 0 0) := blk_cell l1
      have sf2 : wr.frozen? ⟨w.heap.size + 1, 2, none⟩ = false := blk_free l1
      have sc3 : wr.cell? ⟨w.heap.size + 1, 3, none⟩ = some (.slice none 0 0) := blk_cell l1
      have sf3 : wr.frozen? ⟨w.heap.size + 1, 3, none⟩ = false := blk_free l1
      clear l0 l1 f1 f2
      go_wp2
      have gf := fill4 HB1.out (.bool true) (.slice ka m kc) (.slice va m vc) (.slice none 0 0)
      have kf := kept_fill4 (W := wr) (g := w.heap.size + 1) (.bool true) (.slice ka m kc) (.slice va m vc) (.slice none 0 0)
      have sf := same_fill4 HSM.out (g := w.heap.size + 1) (by omega) (.bool true) (.slice ka m kc) (.slice va m vc) (.slice none 0 0)
      generalize ((((wr.setCell ⟨w.heap.size + 1, 0, none⟩ (.bool true)).setCell ⟨w.heap.size + 1, 1, none⟩ (.slice ka m kc)).setCell ⟨w.heap.size + 1, 2, none⟩ (.slice va m vc)).setCell ⟨w.heap.size + 1, 3, none⟩ (.slice none 0 0)) = WF at gf kf sf ⊢
      have pc0 : WF.cell? ⟨w.heap.size + 1, 0, none⟩ = some (.bool true) := blk_cell gf
      have pc1 : WF.cell? ⟨w.heap.size + 1, 1, none⟩ = some (.slice ka m kc) := blk_cell gf
      have pc2 : WF.cell? ⟨w.heap.size + 1, 2, none⟩ = some (.slice va m vc) := blk_cell gf
      have pc3 : WF.cell? ⟨w.heap.size + 1, 3, none⟩ = some (.slice none 0 0) := blk_cell gf
      refine bodyPost_ret (v := .tuple #[.agg #[.bool true, .slice ka m kc, .slice va m vc, .slice none 0 0], .bool true]) (by simp [results, Tryz.results58, go_sem, pc0, pc1, pc2, pc3]) rfl ⟨_, rfl, ⟨⟨.agg #[.bool true, .slice ka m kc, .slice va m vc, .slice none 0 0], rfl, ⟨ka, va, none, kc, vc, 0, ?_, ?_, ?_, World.ownsRow_nil _ _ _ _, ?_⟩, sf⟩⟩⟩
      · rw [← HM1.out, ← HM2.out]; rfl
      · rw [← HM1.out]; exact own_mono (own_kept HO1.out kf (fun k hk hs => by have h1 := own_geN HO1.out k hk; have h2 : k = w.heap.size + 1 := hs; omega)) (by omega)
      · rw [← HM2.out]; exact own_mono (own_kept HO2.out kf (fun k hk hs => by have h1 := own_geN HO2.out k hk; have h2 : k = w.heap.size + 1 := hs; omega)) (by omega)
      · rw [← HM1.out, ← HM2.out]; exact HAP.out
end Go.Proofs.YtmlibjohhgpniaaGreatDoor
