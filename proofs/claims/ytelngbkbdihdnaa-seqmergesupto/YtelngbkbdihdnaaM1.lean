/- seq's branches in memory: a tree; size, newBranch. -/
import Derived.Test.YtelngbkbdihdnaaQ2
namespace Go.Proofs.Ytelngbkbdihdnaa
open Go.RowKit
set_option linter.unusedVariables false
inductive T where
  | nil : T
  | node (k : ByteArray) (x : Int) (l r : T) : T
def T.size : T → Nat
  | .nil => 0
  | .node _ _ l r => l.size + 1 + r.size
def T.list : T → List (ByteArray × Int)
  | .nil => []
  | .node k x l r => l.list ++ (k, x) :: r.list
theorem T.list_len : ∀ t : T, t.list.length = t.size
  | .nil => rfl
  | .node k x l r => by simp [T.list, T.size, T.list_len l, T.list_len r]; omega
/-- A branch's cells. -/
def BC (k : ByteArray) (x : Int) (lo hi : Value) (n : Nat) : Array Value := #[.string k, .int .i64 x, lo, hi, .int .i64 n]
def BT (w : World) : Value → T → Prop
  | v, .nil => v = .pointer none
  | v, .node k x l r => ∃ g lo hi, v = .pointer (some ⟨g, 0, none⟩) ∧ w.heap[g]? = some (.cells (BC k x lo hi (T.node k x l r).size) 99 (0, 0)) ∧ BT w lo l ∧ BT w hi r
theorem BT.kept {S : Nat → Prop} {w w' : World} (k : Kept S w w') (hS : ∀ i cs, w.heap[i]? = some (.cells cs 99 (0, 0)) → ¬ S i) : ∀ {t : T} {v : Value}, BT w v t → BT w' v t
  | .nil, v, h => h
  | .node _ _ l r, v, ⟨g, lo, hi, e, hb, h1, h2⟩ => ⟨g, lo, hi, e, blk_kept k (hS g _ hb) hb, BT.kept k hS h1, BT.kept k hS h2⟩
theorem BT.same {w w' : World} (k : Same w w') {t : T} {v : Value} (h : BT w v t) : BT w' v t := BT.kept k (fun _ _ _ h => h) h
/-- A pointer to it. -/
theorem BT.ptr {w : World} : ∀ {t : T} {v : Value}, BT w v t → ∃ p, v = .pointer p
  | .nil, v, h => ⟨none, h⟩
  | .node _ _ l r, v, ⟨g, _, _, e, _⟩ => ⟨_, e⟩
set_option maxHeartbeats 1000000 in
set_option maxRecDepth 100000 in
theorem size_any {w : World} {v : Value} {t : T} (h : BT w v t) : Calls Try.prog 56 #[v] w fun e w' => e = .returned (.int .i64 t.size) ∧ w = w' := by
  cases t with
  | nil =>
    obtain rfl : v = .pointer none := h
    go_enter Try.func56, Try.ntmps56
    go_wp2
    go_returns
    exact ⟨rfl, rfl⟩
  | node k x l r =>
    obtain ⟨g, lo, hi, rfl, hb, _, _⟩ := h
    have c4 : w.cell? ⟨g, 4, none⟩ = some (.int .i64 (T.node k x l r).size) := blk_cell hb
    clear hb
    generalize (T.node k x l r).size = n at *
    go_enter Try.func56, Try.ntmps56
    go_wp2
    go_returns
    exact ⟨rfl, rfl⟩
abbrev It (k : ByteArray) (x : Int) : Value := .agg #[.string k, .int .i64 x]
set_option maxHeartbeats 2000000 in
set_option maxRecDepth 100000 in
theorem newB_any {w : World} {lo hi : Value} {l r : T} (k : ByteArray) (x : Int) (h1 : BT w lo l) (h2 : BT w hi r) (hs : l.size + 1 + r.size ≤ 1152921504606846976) :
    Calls Try.prog 79 #[lo, It k x, hi] w fun e w' => ∃ v, e = .returned v ∧ BT w' v (.node k x l r) ∧ Same w w' := by
  obtain ⟨p1, rfl⟩ := h1.ptr
  obtain ⟨p2, rfl⟩ := h2.ptr
  have H1 : Hid (∀ W, Same w W → BT W (.pointer p1) l) := fun W k => h1.same k
  have H2 : Hid (∀ W, Same w W → BT W (.pointer p2) r) := fun W k => h2.same k
  have hw1 : IntKind.i64.wrap ((l.size : Int) + 1) = (l.size : Int) + 1 := by rw [IntKind.wrap_i64]; omega
  have hw2 : IntKind.i64.wrap ((l.size : Int) + 1 + (r.size : Int)) = (l.size : Int) + 1 + (r.size : Int) := by rw [IntKind.wrap_i64]; omega
  have t1 : True := trivial
  have HBX : Hid (∀ cs t, ((w.alloc (.cells cs t)).drew).heap[w.heap.size]? = some (.cells cs t (0, 0))) := fun cs t => heap_alloc_new w _
  have HSZ : Hid ((T.node k x l r).size = l.size + 1 + r.size) := rfl
  clear h1 h2
  go_enter Try.func79, Try.ntmps79
  go_wp2
  go_region_held3 (fun w' => w'.cell? ⟨w.heap.size, 0, none⟩ = some (.string k) ∧ w'.cell? ⟨w.heap.size, 1, none⟩ = some (.int .i64 x))
    (first | go_keep | (go_split_ands; assumption) | assumption)
    ((first
      | (go_at_call 56; have _t := t1; refine (size_any (H1.out _ (same_alloc w _).drew)).mono ?_; rintro e w1 ⟨rfl, rfl⟩; clear t1)
      | (go_at_call 56; refine (size_any (H2.out _ (same_alloc w _).drew)).mono ?_; rintro e w1 ⟨rfl, rfl⟩)))
  go_wp2
  go_returns
  have hcs : (((T.node k x l r).size : Nat) : Int) = (l.size : Int) + 1 + (r.size : Int) := by rw [HSZ.out]; omega
  have kk : Same w (((w.alloc (.cells #[.string k, .int .i64 x] 54)).drew).alloc (.cells #[.string k, .int .i64 x, .pointer p1, .pointer p2, .int .i64 ((l.size : Int) + 1 + (r.size : Int))] 99)) := Kept.trans (same_alloc w _).drew (same_alloc _ _)
  refine ⟨_, rfl, ⟨w.heap.size + 1, .pointer p1, .pointer p2, by first | rfl | simp, ?_, H1.out _ kk, H2.out _ kk⟩, kk⟩
  have z := heap_alloc_new ((w.alloc (.cells #[.string k, .int .i64 x] 54)).drew) (.cells #[.string k, .int .i64 x, .pointer p1, .pointer p2, .int .i64 ((l.size : Int) + 1 + (r.size : Int))] 99)
  have hz : ((w.alloc (.cells #[.string k, .int .i64 x] 54)).drew).heap.size = w.heap.size + 1 := World.size_alloc w _
  rw [hz] at z
  rw [BC, hcs]
  exact z
end Go.Proofs.Ytelngbkbdihdnaa
