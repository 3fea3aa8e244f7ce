/- seq's branches: rank, without, glued. -/
import Derived.Test.YtelngbkbdihdnaaM7
namespace Go.Proofs.Ytelngbkbdihdnaa
open Go.RowKit
set_option linter.unusedVariables false
def delL (k : ByteArray) (l : List Kv) : List Kv := l.filter (fun a => !eqK a.1 k)
def rkL (k : ByteArray) (l : List Kv) : Nat := (l.filter (fun a => ltS a.1 k)).length
theorem delL_none {k : ByteArray} {l : List Kv} (h : ∀ a ∈ l, eqK a.1 k = false) : delL k l = l := by
  unfold delL
  rw [List.filter_eq_self]
  intro a ha
  rw [h a ha]
  rfl
theorem delL_app (k : ByteArray) (l r : List Kv) : delL k (l ++ r) = delL k l ++ delL k r := List.filter_append _ _
theorem delL_len (k : ByteArray) (l : List Kv) : (delL k l).length ≤ l.length := List.length_filter_le _ _
theorem Srt.del {l : List Kv} (h : Srt l) (k : ByteArray) : Srt (delL k l) := h.sublist List.filter_sublist
theorem delL_left {k bk : ByteArray} {bv : Int} {l r : List Kv} (h : Srt (l ++ (bk, bv) :: r)) (hk : ltS k bk = true) : delL k (l ++ (bk, bv) :: r) = delL k l ++ (bk, bv) :: r := by
  obtain ⟨_, _, _, h4, _⟩ := srt_split h
  rw [delL_app, delL_none (l := (bk, bv) :: r) (fun a ha => by
    rcases List.mem_cons.1 ha with rfl | ha
    · exact eqK_gt hk
    · exact eqK_gt (ordS.lt_lt hk (h4 a ha)))]
theorem delL_right {k bk : ByteArray} {bv : Int} {l r : List Kv} (h : Srt (l ++ (bk, bv) :: r)) (hk : ltS bk k = true) : delL k (l ++ (bk, bv) :: r) = l ++ (bk, bv) :: delL k r := by
  obtain ⟨_, _, h3, _, _⟩ := srt_split h
  rw [delL_app, delL_none (l := l) (fun a ha => eqK_lt (ordS.lt_lt (h3 a ha) hk))]
  unfold delL
  rw [List.filter_cons_of_pos (by rw [eqK_lt hk]; rfl)]
theorem delL_here {k bk : ByteArray} {bv : Int} {l r : List Kv} (h : Srt (l ++ (bk, bv) :: r)) (h1 : ltS k bk = false) (h2 : ltS bk k = false) : delL k (l ++ (bk, bv) :: r) = l ++ r := by
  obtain ⟨_, _, h3, h4, _⟩ := srt_split h
  have e1 : delL k l = l := delL_none (fun a ha => eqK_lt (ordS.lt_le (h3 a ha) h1))
  have e2 : delL k r = r := delL_none (fun a ha => eqK_gt (ordS.le_lt h2 (h4 a ha)))
  have e3 : delL k ((bk, bv) :: r) = delL k r := by
    unfold delL
    rw [List.filter_cons_of_neg (by unfold eqK; rw [h1, h2]; simp)]
  rw [delL_app, e1, e3, e2]
theorem eqK_self (k : ByteArray) : eqK k k = true := by unfold eqK; rw [ordS.rf]; rfl
theorem delL_last {l : List Kv} {a : ByteArray} {y : Int} (h : Srt l) (hl : l[l.length - 1]? = some (a, y)) : delL a l ++ [(a, y)] = l := by
  have hne : 0 < l.length := by
    rcases l with _ | _
    · simp at hl
    · simp
  obtain ⟨t, rfl⟩ : ∃ t, l = t ++ [(a, y)] := by
    refine ⟨l.dropLast, ?_⟩
    have e := List.dropLast_concat_getLast (l := l) (by intro e; rw [e] at hne; simp at hne)
    have e2 : l.getLast (by intro e; rw [e] at hne; simp at hne) = (a, y) := by
      rw [List.getLast_eq_getElem]
      obtain ⟨_, e⟩ := List.getElem?_eq_some_iff.1 hl
      exact e
    rw [e2] at e
    exact e.symm
  obtain ⟨_, _, h3, _, _⟩ := srt_split (r := []) h
  rw [delL_app, delL_none (l := t) (fun b hb => eqK_lt (h3 b hb))]
  unfold delL
  rw [List.filter_cons_of_neg (by rw [eqK_self]; simp)]
  simp
theorem delL_first {l : List Kv} {a : ByteArray} {y : Int} (h : Srt l) (hl : l[0]? = some (a, y)) : (a, y) :: delL a l = l := by
  rcases l with _ | ⟨b, t⟩
  · simp at hl
  · simp only [List.getElem?_cons_zero, Option.some.injEq] at hl
    subst hl
    obtain ⟨h4, _⟩ := List.pairwise_cons.1 h
    unfold delL
    rw [List.filter_cons_of_neg (by rw [eqK_self]; simp)]
    congr 1
    exact delL_none (fun b hb => eqK_gt (h4 b hb))
theorem rk_lt {k bk : ByteArray} {bv : Int} {l r : List Kv} (h : Srt (l ++ (bk, bv) :: r)) (hk : ltS bk k = true) : rkL k (l ++ (bk, bv) :: r) = l.length + 1 + rkL k r := by
  obtain ⟨_, _, h3, _, _⟩ := srt_split h
  unfold rkL
  have e : l.filter (fun a => ltS a.1 k) = l := List.filter_eq_self.2 (fun a ha => ordS.lt_lt (h3 a ha) hk)
  rw [List.filter_append, e, List.filter_cons_of_pos (by exact hk)]
  simp
  omega
theorem rk_ge {k bk : ByteArray} {bv : Int} {l r : List Kv} (h : Srt (l ++ (bk, bv) :: r)) (hk : ltS bk k = false) : rkL k (l ++ (bk, bv) :: r) = rkL k l := by
  obtain ⟨_, _, _, h4, _⟩ := srt_split h
  unfold rkL
  have e : r.filter (fun a => ltS a.1 k) = [] := List.filter_eq_nil_iff.2 (fun a ha => by rw [ordS.tr _ _ _ hk (ordS.as _ _ (h4 a ha))]; simp)
  rw [List.filter_append, List.filter_cons_of_neg (by rw [hk]; simp), e, List.append_nil]
theorem rk_le (k : ByteArray) (l : List Kv) : rkL k l ≤ l.length := List.length_filter_le _ _
set_option maxHeartbeats 4000000 in
set_option maxRecDepth 100000 in
theorem rank_any (k : ByteArray) {t : T} {v : Value} {w : World} (h : BT w v t) (hS : Srt t.list) (hsz : t.size ≤ 1125899906842624) :
    Calls Try.prog 61 #[v, .string k] w fun e w' => e = .returned (.int .i64 (rkL k t.list)) ∧ w = w' := by
  have H := hidden h
  have HS := hidden hS
  have hrk := rk_le k t.list
  rw [T.list_len] at hrk
  obtain ⟨p0, rfl⟩ := h.ptr
  clear h hS
  go_enter Try.func61, Try.ntmps61
  go_wp2
  go_loop [0, 5] (fun b nv => ∃ (t' : T) (m : Nat), BT w b t' ∧ Srt t'.list ∧ nv = .int .i64 m ∧ m + rkL k t'.list = rkL k t.list ∧ m + t'.size ≤ t.size) (fun b nv => sizeAt w b)
  case atStart => exact ⟨t, 0, H.out, HS.out, rfl, by simp, by simp⟩
  case round =>
    obtain ⟨t', m, hb, hs, rfl, hl, hm⟩ := hrel
    cases t' with
    | nil =>
      obtain rfl := (show _ = Value.pointer none from hb)
      have HL : Hid (m = rkL k t.list) := by rw [Hid, ← hl]; simp [T.list, rkL]
      clear hl hb hs hm
      go_wp2
      go_returns
      exact ⟨by rw [← HL.out]; rfl, rfl⟩
    | node bk bv l r =>
      have hsz0 := hb.sizeAt
      obtain ⟨g, lo, hi, rfl, hbk, h1, h2⟩ := hb
      obtain ⟨pl, rfl⟩ := h1.ptr
      obtain ⟨ph, rfl⟩ := h2.ptr
      obtain ⟨c0, c1, c2, c3⟩ := BT.cells hbk
      obtain ⟨s1, s2, _⟩ := srt_split hs
      have SZ : Hid (sizeAt w (.pointer (some ⟨g, 0, none⟩)) = l.size + 1 + r.size) := hsz0
      have hm2 : m + (l.size + 1 + r.size) ≤ t.size := hm
      have HH := hidden (And.intro h1 h2)
      have HLS := hidden hs
      have HLL := hidden hl
      have S12 := hidden (And.intro s1 s2)
      have HZ := hidden (size_any h1)
      have HLT := hidden (fun W => less_str bk k W)
      clear hbk h1 h2 hs hl s1 s2 hsz0 hm
      cases hlt : ltS bk k
      · rw [hlt] at HLT
        go_wp2_with (go_at_call 46; go_must (refine (HLT.out _).mono ?_; rintro e w1 ⟨rfl, rfl⟩))
        go_round
        case rel => exact ⟨l, m, HH.out.1, S12.out.1, rfl, by rw [← HLL.out]; exact congrArg (m + ·) (rk_ge HLS.out hlt).symm, by omega⟩
        case measure => have e1 := HH.out.1.sizeAt; have e2 := SZ.out; simp [e1, e2] <;> omega
      · rw [hlt] at HLT
        go_wp2_with (first
          | (go_at_call 46; go_must (refine (HLT.out _).mono ?_; rintro e w1 ⟨rfl, rfl⟩))
          | (go_at_call 56; go_must (refine (HZ.out).mono ?_; rintro e w1 ⟨rfl, rfl⟩)))
        go_round
        case rel =>
          refine ⟨r, m + (l.size + 1), HH.out.2, S12.out.2, by first | rfl | go_num, ?_, by omega⟩
          have e := rk_lt HLS.out hlt
          rw [T.list_len] at e
          have e2 := HLL.out
          rw [show (T.node bk bv l r).list = l.list ++ (bk, bv) :: r.list from rfl, e] at e2
          omega
        case measure => have e1 := HH.out.2.sizeAt; have e2 := SZ.out; simp [e1, e2] <;> omega
end Go.Proofs.Ytelngbkbdihdnaa
