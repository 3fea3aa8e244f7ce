/- node, pure: a node's bytes; entries read back; which bytes are a node's. -/
import Derived.Test.YtpjgghalnkfdkaaDoorN11
import Derived.Test.YtpjgghalnkfdkaaDoorN40
import Derived.Test.YtpjgghalnkfdkaaDoorBeP
namespace Go.Proofs.YtpjgghalnkfdkaaDoor
open Go.RowKit
set_option linter.unusedVariables false
set_option linter.unusedSimpArgs false
def entI1 (k : ByteArray) (z : Int) : List UInt8 := (be 1 k.size ++ k.data.toList) ++ be 4 z.toNat
def entI (ks : List ByteArray) (zs : List Int) : List UInt8 := (ks.zip zs).flatMap fun p => entI1 p.1 p.2
/-- The entries' bytes. -/
def Nd.body (n : Nd) : List UInt8 := if n.leaf then entL n.keys n.vals else be 4 (n.kids.headD 0).toNat ++ entI n.keys n.kids.tail
def Nd.kd (n : Nd) : Nat := if n.leaf then 1 else 2
def encH (kd ks : Nat) (es : List UInt8) : List UInt8 := headB kd ks es.length (crc ((headB kd ks es.length 0).take 12 ++ es))
def encS (kd ks : Nat) (es : List UInt8) (sz : Nat) : List UInt8 := encH kd ks es ++ (es ++ List.replicate (sz - (16 + es.length)) 0)
/-- A node's bytes in a sector. -/
def Nd.enc (n : Nd) (sz : Nat) : List UInt8 := encS n.kd n.keys.length n.body sz
theorem encH_len (kd ks : Nat) (es : List UInt8) : (encH kd ks es).length = 16 := headB_len _ _ _ _
theorem encS_len (kd ks : Nat) (es : List UInt8) (sz : Nat) (h : 16 + es.length ≤ sz) : (encS kd ks es sz).length = sz := by
  simp only [encS, List.length_append, encH_len, List.length_replicate]; omega
/-- An entry, of a leaf or of an inner node. -/
structure En where
  k : ByteArray
  v : ByteArray
  z : Int
def En.b (leaf : Bool) (e : En) : List UInt8 := if leaf then entB e.k e.v else entI1 e.k e.z
structure En.Ok (leaf : Bool) (e : En) : Prop where
  k : e.k.size < 256
  v : e.v.size < 256
  z0 : 0 ≤ e.z
  z1 : e.z < 4294967296
  lf : leaf = true → e.z = 0
  inn : leaf = false → e.v = ⟨#[]⟩
def b0 (r : List UInt8) : Nat := (r.getD 0 0).toNat
def b1 (r : List UInt8) : Nat := (r.getD 1 0).toNat
/-- The next entry. -/
def p1 (leaf : Bool) (r : List UInt8) : Option (En × List UInt8) :=
  if leaf then (if 2 ≤ r.length ∧ 2 + b0 r + b1 r ≤ r.length then some (⟨⟨((r.drop 2).take (b0 r)).toArray⟩, ⟨((r.drop (2 + b0 r)).take (b1 r)).toArray⟩, 0⟩, r.drop (2 + b0 r + b1 r)) else none)
  else (if 1 ≤ r.length ∧ 1 + b0 r + 4 ≤ r.length then some (⟨⟨((r.drop 1).take (b0 r)).toArray⟩, ⟨#[]⟩, (num ((r.drop (1 + b0 r)).take 4) : Nat)⟩, r.drop (1 + b0 r + 4)) else none)
/-- The next c. -/
def pE (leaf : Bool) : Nat → List UInt8 → Option (List En × List UInt8)
  | 0, s => some ([], s)
  | i + 1, s => match pE leaf i s with
    | none => none
    | some (l, r) => match p1 leaf r with
      | none => none
      | some (e, r') => some (l ++ [e], r')
def mkN (leaf : Bool) (z : Int) (l : List En) : Nd := if leaf then ⟨true, l.map En.k, l.map En.v, []⟩ else ⟨false, l.map En.k, [], z :: l.map En.z⟩
/-- A node of c entries, and what is behind it. -/
def pN (leaf : Bool) (c : Nat) (s : List UInt8) : Option (Nd × List UInt8) :=
  if leaf then (pE true c s).map fun q => (mkN true 0 q.1, q.2)
  else if 4 ≤ s.length then (pE false c (s.drop 4)).map fun q => (mkN false (num (s.take 4) : Nat) q.1, q.2) else none
theorem be1_toNat (x : UInt8) : be 1 x.toNat = [x] := by
  have e : be 1 x.toNat = [UInt8.ofNat (x.toNat / 2 ^ 0)] := rfl
  rw [e]; simp
theorem be1_small (x : Nat) (h : x < 256) : ∃ y : UInt8, be 1 x = [y] ∧ y.toNat = x := by
  refine ⟨UInt8.ofNat x, ?_, ?_⟩
  · have e : be 1 x = [UInt8.ofNat (x / 2 ^ 0)] := rfl
    rw [e]; simp
  · rw [UInt8.toNat_ofNat']; omega
theorem be_numN : ∀ (n : Nat) (l : List UInt8), l.length = n → be n (num l) = l := by
  intro n
  induction n with
  | zero => intro l hl; rw [List.eq_nil_of_length_eq_zero hl]; rfl
  | succ n ih =>
    intro l hl
    obtain ⟨l', b, rfl⟩ : ∃ l' b, l = l' ++ [b] := by
      have hne : l ≠ [] := by rintro rfl; simp at hl
      exact ⟨l.dropLast, l.getLast hne, (List.dropLast_concat_getLast hne).symm⟩
    have hb := b.toNat_lt
    rw [be_succ', num_snoc, show (num l' * 256 + b.toNat) / 256 = num l' by omega, ih l' (by simpa using hl)]
    congr 2
    apply UInt8.toNat_inj.1
    rw [UInt8.toNat_ofNat']
    omega
theorem split2 (r : List UInt8) (h : 2 ≤ r.length) : ∃ x y t, r = x :: y :: t := by
  match r, h with
  | x :: y :: t, _ => exact ⟨x, y, t, rfl⟩
theorem cut3 (t : List UInt8) (a b : Nat) : t = t.take a ++ ((t.drop a).take b ++ t.drop (a + b)) := by
  conv => lhs; rw [← List.take_append_drop a t, ← List.take_append_drop b (t.drop a)]
  rw [List.drop_drop]
theorem p1_sound (leaf : Bool) {r r' : List UInt8} {e : En} (h : p1 leaf r = some (e, r')) : r = e.b leaf ++ r' := by
  cases leaf
  · simp only [p1, Bool.false_eq_true, if_false] at h
    split at h
    · rename_i hc
      simp only [Option.some.injEq, Prod.mk.injEq] at h
      obtain ⟨rfl, rfl⟩ := h
      obtain ⟨x, t, rfl⟩ : ∃ x t, r = x :: t := by
        match r, hc.1 with
        | x :: t, _ => exact ⟨x, t, rfl⟩
      have e0 : b0 (x :: t) = x.toNat := rfl
      rw [e0] at hc ⊢
      simp only [List.length_cons] at hc
      have hl : ((List.drop 1 (x :: t)).take x.toNat).length = x.toNat := by simp; omega
      have hl4 : (((x :: t).drop (1 + x.toNat)).take 4).length = 4 := by simp; omega
      simp only [En.b, Bool.false_eq_true, if_false, entI1]
      rw [ba_size, hl, be1_toNat, Int.toNat_natCast, be_numN 4 _ hl4]
      simp only [List.drop_succ_cons, List.drop_zero, List.singleton_append, List.cons_append, List.append_assoc, List.cons.injEq, true_and, Nat.add_comm 1 x.toNat]
      first | exact cut3 t x.toNat 4 | (rw [List.nil_append]; exact cut3 t x.toNat 4)
    · cases h
  · simp only [p1, if_true] at h
    split at h
    · rename_i hc
      simp only [Option.some.injEq, Prod.mk.injEq] at h
      obtain ⟨rfl, rfl⟩ := h
      obtain ⟨x, y, t, rfl⟩ := split2 r hc.1
      have e0 : b0 (x :: y :: t) = x.toNat := rfl
      have e1 : b1 (x :: y :: t) = y.toNat := rfl
      rw [e0, e1] at hc ⊢
      simp only [List.length_cons] at hc
      have hl : ((List.drop 2 (x :: y :: t)).take x.toNat).length = x.toNat := by simp; omega
      have hl4 : (((x :: y :: t).drop (2 + x.toNat)).take y.toNat).length = y.toNat := by simp; omega
      simp only [En.b, if_true, entB]
      rw [ba_size, ba_size, hl, hl4, be1_toNat, be1_toNat]
      have q1 : (x :: y :: t).drop (2 + x.toNat) = t.drop x.toNat := by rw [Nat.add_comm]; rfl
      have q2 : (x :: y :: t).drop (2 + x.toNat + y.toNat) = (t.drop x.toNat).drop y.toNat := by rw [List.drop_drop, show 2 + x.toNat + y.toNat = (x.toNat + y.toNat) + 2 by omega]; rfl
      rw [q1, q2]
      simp
      exact cut3 t x.toNat y.toNat
    · cases h
theorem p1_full (leaf : Bool) (e : En) (he : e.Ok leaf) (r' : List UInt8) : p1 leaf (e.b leaf ++ r') = some (e, r') := by
  obtain ⟨k, v, z⟩ := e
  obtain ⟨h1, h2, h3, h4, h5, h6⟩ := he
  simp only at h1 h2 h3 h4 h5 h6
  have hk : k.data.toList.length = k.size := size_list k
  have hv : v.data.toList.length = v.size := size_list v
  have bk : (⟨k.data.toList.toArray⟩ : ByteArray) = k := by cases k; simp
  have bv : (⟨v.data.toList.toArray⟩ : ByteArray) = v := by cases v; simp
  obtain ⟨x, ex, hx⟩ := be1_small k.size h1
  obtain ⟨y, ey, hy⟩ := be1_small v.size h2
  cases leaf
  · obtain rfl := h6 rfl
    have hz : ((num (be 4 z.toNat) : Nat) : Int) = z := by rw [num_be']; omega
    simp only [p1, En.b, entI1, Bool.false_eq_true, if_false]
    rw [ex]
    simp only [List.singleton_append, List.cons_append, List.append_assoc, List.nil_append]
    have e0 : b0 (x :: (k.data.toList ++ (be 4 z.toNat ++ r'))) = k.size := hx
    rw [e0, if_pos (by simp [be_length]; omega)]
    have d1 : (x :: (k.data.toList ++ (be 4 z.toNat ++ r'))).drop (1 + k.size) = be 4 z.toNat ++ r' := by
      rw [Nat.add_comm, List.drop_succ_cons, List.drop_left' hk]
    have d2 : (x :: (k.data.toList ++ (be 4 z.toNat ++ r'))).drop (1 + k.size + 4) = r' := by
      rw [← List.drop_drop, d1, List.drop_left' (be_length _ _)]
    rw [d1, d2, List.take_left' (be_length _ _), hz]
    simp only [List.drop_succ_cons, List.drop_zero]
    rw [List.take_left' hk, bk]
  · obtain rfl := h5 rfl
    simp only [p1, En.b, entB, if_true]
    rw [ex, ey]
    simp only [List.singleton_append, List.cons_append, List.append_assoc, List.nil_append]
    have e0 : b0 (x :: y :: (k.data.toList ++ (v.data.toList ++ r'))) = k.size := hx
    have e1 : b1 (x :: y :: (k.data.toList ++ (v.data.toList ++ r'))) = v.size := hy
    rw [e0, e1, if_pos (by simp; omega)]
    have d1 : (x :: y :: (k.data.toList ++ (v.data.toList ++ r'))).drop (2 + k.size) = v.data.toList ++ r' := by
      rw [Nat.add_comm]
      show List.drop k.size _ = _
      rw [List.drop_left' hk]
    have d2 : (x :: y :: (k.data.toList ++ (v.data.toList ++ r'))).drop (2 + k.size + v.size) = r' := by
      rw [← List.drop_drop, d1, List.drop_left' hv]
    have d3 : (x :: y :: (k.data.toList ++ (v.data.toList ++ r'))).drop 2 = k.data.toList ++ (v.data.toList ++ r') := rfl
    rw [d1, d2, d3, List.take_left' hk, List.take_left' hv, bk, bv]
theorem pE_sound (leaf : Bool) : ∀ (i : Nat) {s r : List UInt8} {l : List En}, pE leaf i s = some (l, r) → s = l.flatMap (En.b leaf) ++ r ∧ l.length = i
  | 0, s, r, l, h => by
    simp only [pE, Option.some.injEq, Prod.mk.injEq] at h
    obtain ⟨rfl, rfl⟩ := h
    exact ⟨rfl, rfl⟩
  | i + 1, s, r, l, h => by
    simp only [pE] at h
    cases hp : pE leaf i s with
    | none => rw [hp] at h; cases h
    | some q =>
      obtain ⟨l0, r0⟩ := q
      rw [hp] at h
      simp only at h
      obtain ⟨e1, e2⟩ := pE_sound leaf i hp
      cases hq : p1 leaf r0 with
      | none => rw [hq] at h; cases h
      | some q =>
        obtain ⟨e, r1⟩ := q
        rw [hq] at h
        simp only [Option.some.injEq, Prod.mk.injEq] at h
        obtain ⟨rfl, rfl⟩ := h
        have := p1_sound leaf hq
        refine ⟨?_, by simp [e2]⟩
        rw [e1, this]
        simp
theorem pE_full (leaf : Bool) (l : List En) (hl : ∀ e ∈ l, e.Ok leaf) (r : List UInt8) : ∀ i, i ≤ l.length → pE leaf i (l.flatMap (En.b leaf) ++ r) = some (l.take i, (l.drop i).flatMap (En.b leaf) ++ r)
  | 0, _ => by simp [pE]
  | i + 1, hi => by
    simp only [pE]
    rw [pE_full leaf l hl r i (by omega)]
    simp only
    rw [List.drop_eq_getElem_cons (show i < l.length by omega), List.flatMap_cons, List.append_assoc, p1_full leaf _ (hl _ (List.getElem_mem _))]
    simp only
    rw [List.take_succ_eq_append_getElem (by omega)]
theorem entL_map (l : List En) : entL (l.map En.k) (l.map En.v) = l.flatMap (En.b true) := by
  induction l with
  | nil => rfl
  | cons e l ih =>
    have : entL ((e :: l).map En.k) ((e :: l).map En.v) = entB e.k e.v ++ entL (l.map En.k) (l.map En.v) := by simp [entL]
    rw [this, ih]
    rfl
theorem entI_map (l : List En) : entI (l.map En.k) (l.map En.z) = l.flatMap (En.b false) := by
  induction l with
  | nil => rfl
  | cons e l ih =>
    have : entI ((e :: l).map En.k) ((e :: l).map En.z) = entI1 e.k e.z ++ entI (l.map En.k) (l.map En.z) := by simp [entI]
    rw [this, ih]
    rfl
theorem mkN_leaf (leaf : Bool) (z : Int) (l : List En) : (mkN leaf z l).leaf = leaf := by cases leaf <;> rfl
theorem mkN_keys (leaf : Bool) (z : Int) (l : List En) : (mkN leaf z l).keys = l.map En.k := by cases leaf <;> rfl
theorem pN_sound (leaf : Bool) (c : Nat) {s r : List UInt8} {n : Nd} (h : pN leaf c s = some (n, r)) : n.leaf = leaf ∧ n.keys.length = c ∧ s = n.body ++ r := by
  cases leaf
  · simp only [pN, Bool.false_eq_true, if_false] at h
    split at h
    · rename_i h4
      cases hp : pE false c (s.drop 4) with
      | none => rw [hp] at h; cases h
      | some q =>
        obtain ⟨l, r0⟩ := q
        rw [hp] at h
        simp only [Option.map_some, Option.some.injEq, Prod.mk.injEq] at h
        obtain ⟨rfl, rfl⟩ := h
        obtain ⟨e1, e2⟩ := pE_sound false c hp
        have hl4 : (s.take 4).length = 4 := by simp; omega
        refine ⟨rfl, by rw [mkN_keys, List.length_map, e2], ?_⟩
        have eb : (mkN false (num (s.take 4) : Nat) l).body = be 4 (num (s.take 4)) ++ entI (l.map En.k) (l.map En.z) := rfl
        rw [eb, entI_map, be_numN 4 _ hl4, List.append_assoc, ← e1, List.take_append_drop]
    · cases h
  · simp only [pN, if_true] at h
    cases hp : pE true c s with
    | none => rw [hp] at h; cases h
    | some q =>
      obtain ⟨l, r0⟩ := q
      rw [hp] at h
      simp only [Option.map_some, Option.some.injEq, Prod.mk.injEq] at h
      obtain ⟨rfl, rfl⟩ := h
      obtain ⟨e1, e2⟩ := pE_sound true c hp
      refine ⟨rfl, by rw [mkN_keys, List.length_map, e2], ?_⟩
      have eb : (mkN true 0 l).body = entL (l.map En.k) (l.map En.v) := rfl
      rw [eb, entL_map, ← e1]
theorem fine_kids {n : Nd} (h : n.Fine) : ∀ z ∈ n.kids, 0 ≤ z ∧ z < 4294967296 := by
  intro z hz
  have := h.kid
  rw [List.any_eq_false] at this
  have := this z hz
  simp [noKid] at this
  omega
/-- A node that Check takes is made of its entries. -/
theorem fine_made {n : Nd} (h : n.Fine) : ∃ z l, n = mkN n.leaf z l ∧ (∀ e ∈ l, e.Ok n.leaf) ∧ l.length = n.keys.length ∧ 0 ≤ z ∧ z < 4294967296 := by
  obtain ⟨lf, ks, vs, is⟩ := n
  have hkid := fine_kids h
  have hk0 : ∀ k ∈ ks, k.size < 256 := fun k hk => by
    obtain ⟨i, hi, rfl⟩ := List.getElem_of_mem hk
    have h2 : ks[i].size ≤ 64 := (h.k i hi).2
    omega
  have hv0 : ∀ k ∈ vs, k.size < 256 := fun k hk => by
    obtain ⟨i, hi, rfl⟩ := List.getElem_of_mem hk
    have h2 : vs[i].size ≤ 64 := h.v i hi
    omega
  cases lf
  · obtain ⟨e1, e2⟩ := h.inner rfl
    simp only at e1 e2 hkid
    subst e1
    obtain ⟨z, is', rfl⟩ : ∃ z is', is = z :: is' := by
      cases is with
      | nil => simp at e2
      | cons a b => exact ⟨a, b, rfl⟩
    have hl : is'.length = ks.length := by simpa using e2
    refine ⟨z, (ks.zip is').map fun p => ⟨p.1, ⟨#[]⟩, p.2⟩, ?_, ?_, by simp [hl], (hkid z (by simp)).1, (hkid z (by simp)).2⟩
    · simp only [mkN, Bool.false_eq_true, if_false, List.map_map]
      have q1 : (ks.zip is').map (En.k ∘ fun p => ⟨p.1, ⟨#[]⟩, p.2⟩) = ks := by
        show (ks.zip is').map Prod.fst = ks
        rw [List.map_fst_zip (by omega)]
      have q2 : (ks.zip is').map (En.z ∘ fun p => ⟨p.1, ⟨#[]⟩, p.2⟩) = is' := by
        show (ks.zip is').map Prod.snd = is'
        rw [List.map_snd_zip (by omega)]
      rw [q1, q2]
    · intro e he
      obtain ⟨p, hp, rfl⟩ := List.mem_map.1 he
      have hz := hkid p.2 (by simp [(List.of_mem_zip hp).2])
      exact ⟨hk0 _ (List.of_mem_zip hp).1, by simp [ByteArray.size], hz.1, hz.2, (fun h => by cases h), fun _ => rfl⟩
  · obtain ⟨e1, e2⟩ := h.leaf rfl
    simp only at e1 e2
    subst e2
    refine ⟨0, (ks.zip vs).map fun p => ⟨p.1, p.2, 0⟩, ?_, ?_, by simp [e1], by decide, by decide⟩
    · simp only [mkN, if_true, List.map_map]
      have q1 : (ks.zip vs).map (En.k ∘ fun p => ⟨p.1, p.2, 0⟩) = ks := by
        show (ks.zip vs).map Prod.fst = ks
        rw [List.map_fst_zip (by omega)]
      have q2 : (ks.zip vs).map (En.v ∘ fun p => ⟨p.1, p.2, 0⟩) = vs := by
        show (ks.zip vs).map Prod.snd = vs
        rw [List.map_snd_zip (by omega)]
      rw [q1, q2]
    · intro e he
      obtain ⟨p, hp, rfl⟩ := List.mem_map.1 he
      exact ⟨hk0 _ (List.of_mem_zip hp).1, hv0 _ (List.of_mem_zip hp).2, (by show (0 : Int) ≤ 0; omega), (by show (0 : Int) < 4294967296; omega), fun _ => rfl, fun h => by cases h⟩
theorem pN_full {n : Nd} (h : n.Fine) (r : List UInt8) : pN n.leaf n.keys.length (n.body ++ r) = some (n, r) := by
  obtain ⟨z, l, hn, hl, hlen, hz0, hz1⟩ := fine_made h
  have hf := pE_full n.leaf l hl r n.keys.length (by omega)
  rw [← hlen, List.take_length, List.drop_length] at hf
  rw [← hlen]
  cases hlf : n.leaf
  · rw [hlf] at hf hn
    have eb : n.body = be 4 z.toNat ++ entI (l.map En.k) (l.map En.z) := by rw [hn]; rfl
    rw [eb, entI_map]
    simp only [pN, Bool.false_eq_true, if_false]
    rw [if_pos (by simp only [List.length_append, be_length]; omega), List.append_assoc, List.drop_left' (be_length _ _), List.take_left' (be_length _ _), hf]
    have hzz : ((num (be 4 z.toNat) : Nat) : Int) = z := by rw [num_be']; omega
    simp only [Option.map_some, List.flatMap_nil, List.nil_append, hzz, ← hn]
  · rw [hlf] at hf hn
    obtain rfl : n = mkN true 0 l := by rw [hn]; rfl
    have eb : (mkN true 0 l).body = entL (l.map En.k) (l.map En.v) := rfl
    rw [eb, entL_map]
    simp only [pN, if_true]
    rw [hf]
    rfl
/-- How long the entries are. -/
theorem body_len {n : Nd} (h : n.Fine) : 16 + n.body.length = n.size := by
  cases hlf : n.leaf
  · obtain ⟨e1, e2⟩ := h.inner hlf
    unfold Nd.body Nd.size
    rw [hlf, e1]
    have hs : ∀ (ks : List ByteArray) (zs : List Int), zs.length = ks.length → (entI ks zs).length = (ks.map fun k => 5 + k.size).sum := by
      intro ks
      induction ks with
      | nil => intro zs _; rfl
      | cons k ks ih =>
        intro zs hz
        cases zs with
        | nil => simp at hz
        | cons z zs =>
          have e : entI (k :: ks) (z :: zs) = entI1 k z ++ entI ks zs := by simp [entI]
          rw [e, List.length_append, ih zs (by simpa using hz)]
          simp [entI1, be_length, size_list]
          omega
    simp [be_length, hs n.keys n.kids.tail (by simp; omega)]
    omega
  · obtain ⟨e1, e2⟩ := h.leaf hlf
    unfold Nd.body Nd.size
    rw [hlf]
    have hs : ∀ (ks vs : List ByteArray), vs.length = ks.length → (entL ks vs).length = (ks.map fun k => 2 + k.size).sum + (vs.map fun v => v.size).sum := by
      intro ks
      induction ks with
      | nil => intro vs h; obtain rfl := List.eq_nil_of_length_eq_zero h; rfl
      | cons k ks ih =>
        intro vs hz
        cases vs with
        | nil => simp at hz
        | cons v vs =>
          have e : entL (k :: ks) (v :: vs) = entB k v ++ entL ks vs := by simp [entL]
          rw [e, List.length_append, ih vs (by simpa using hz), entB_len]
          simp
          omega
    simp [hs n.keys n.vals e1]
    omega
end Go.Proofs.YtpjgghalnkfdkaaDoor
