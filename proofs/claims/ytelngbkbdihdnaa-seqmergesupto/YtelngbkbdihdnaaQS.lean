/- A slice of texts, a slice of ints, among a law's arguments: opened; pure words for SeqSorts. -/
import Derived.Test.YtelngbkbdihdnaaQ2
import Derived.Test.YtelngbkbdihdnaaPTab
import Derived.Deep.Slices
import Derived.Deep.Strs
import Derived.Carry
namespace Go.Proofs.Ytelngbkbdihdnaa
open Go.ChangeShapes Go.WideShapes Go.ChangeAt Go.RowKit Go.Joins Go.ChangeMaps
set_option linter.unusedVariables false
theorem cellsI1 : Try.prog.cellsOf 3 = 1 := by kernel_rfl
theorem cellsS1 : Try.prog.cellsOf 9 = 1 := by kernel_rfl
theorem bytesI : Try.prog.bytesOf 3 = 8 := by kernel_rfl
theorem bytesS : Try.prog.bytesOf 9 = 16 := by kernel_rfl
theorem add_block (a : Addr) (j : Nat) : (a.add j).block = a.block := by unfold Addr.add; split <;> rfl
def Ints (w : World) (v : Value) (l : List Int) : Prop :=
  v = .slice none 0 0 ∧ l = [] ∨ ∃ a cap, v = .slice (some a) l.length cap ∧ ∀ j (hj : j < l.length), w.cell? (a.add j) = some (.int .i64 l[j])
def Strs (w : World) (v : Value) (l : List ByteArray) : Prop :=
  v = .slice none 0 0 ∧ l = [] ∨ ∃ a cap, v = .slice (some a) l.length cap ∧ ∀ j (hj : j < l.length), w.cell? (a.add j) = some (.string l[j])
theorem Ints.form {w : World} {v : Value} {l : List Int} (h : Ints w v l) : ∃ a cap, v = .slice a l.length cap := by
  rcases h with ⟨rfl, rfl⟩ | ⟨a, cap, rfl, _⟩
  · exact ⟨none, 0, rfl⟩
  · exact ⟨_, _, rfl⟩
theorem Strs.form {w : World} {v : Value} {l : List ByteArray} (h : Strs w v l) : ∃ a cap, v = .slice a l.length cap := by
  rcases h with ⟨rfl, rfl⟩ | ⟨a, cap, rfl, _⟩
  · exact ⟨none, 0, rfl⟩
  · exact ⟨_, _, rfl⟩
theorem Ints.same {w w' : World} {v : Value} {l : List Int} (h : Ints w v l) (k : Same w w') : Ints w' v l := by
  rcases h with h | ⟨a, cap, e, hc⟩
  · exact Or.inl h
  · exact Or.inr ⟨a, cap, e, fun j hj => Kept.cell k (fun h => h) (hc j hj)⟩
theorem Strs.same {w w' : World} {v : Value} {l : List ByteArray} (h : Strs w v l) (k : Same w w') : Strs w' v l := by
  rcases h with h | ⟨a, cap, e, hc⟩
  · exact Or.inl h
  · exact Or.inr ⟨a, cap, e, fun j hj => Kept.cell k (fun h => h) (hc j hj)⟩
set_option maxRecDepth 100000 in
theorem strs_open {H : Type} {enc : TypeId × Value → H} {W : World} {base : Nat} {v : Value} {d : DataW H} {p : List MemPlace} (hv : Value.okWide Try.prog W .any base 32 v) (h : DataW.Trod enc Try.prog W 0 (fun _ => true) true 32 v d p)
    (ts : List TypeId) (ds : List (DataW H)) (j : Nat) (hall : (DataW.weightsEach Try.prog ts ds).all (· ≤ reachBytes) = true) (hts : ts[j]? = some 32) (hds : ds[j]? = some d) :
    ∃ l : List ByteArray, Strs W v l ∧ l.length * 16 ≤ 140737488351232 := by
  obtain ⟨a1, len1, cap1, rfl⟩ := okWide_slice Try.underlying32 hv
  obtain ⟨fuel, hf⟩ := h
  rcases Go.Deep.open_strs Try.underlying32 Try.underlying9 cellsS1 hf with ⟨hcs, hx⟩ | ⟨a, len, cap, m, Sx, hcs, _, hl, hm, hmm, hx, hcell⟩
  · simp [Value.cells] at hcs
    obtain ⟨rfl, rfl, rfl⟩ := hcs
    exact ⟨[], Or.inl ⟨rfl, rfl⟩, by simp⟩
  · simp [Value.cells] at hcs
    obtain ⟨rfl, rfl, rfl⟩ := hcs
    simp only [if_pos] at hmm
    refine ⟨(List.range len1).map Sx, Or.inr ⟨a, cap1, by simp, fun j hj => ?_⟩, ?_⟩
    · simp at hj
      rw [(hcell j (by omega)).1]
      simp
    · have hd := congrArg Prod.fst hx
      simp only at hd
      rw [hd] at hds
      have := sized_slice hall (j := j) hts hds Try.underlying32
      rw [bytesS] at this
      simp only [List.length_map, List.length_range, reachBytes] at this
      simp
      omega
theorem infoInt : (Try.prog.info? 3).map (fun i => (i.zero, i.size, i.bytes)) = some (some (.int .i64 0), 1, 8) := by kernel_rfl
theorem make_ints (n : Nat) (hn : n ≤ 35184372088832) (W : World) :
    (Instr.makeSlice 22 (.int .i64 (n : Int)) (.int .i64 (n : Int))).run Try.prog W = .ok (.slice (some ⟨W.heap.size, 0, none⟩) n n) (W.alloc (.cells (List.replicate n (Value.int .i64 0)).toArray 3)) := by
  obtain ⟨i0, hi, hz0, hz1, hz2⟩ := info_parts infoInt
  have h := run_make (P := Try.prog) W 22 3 i0 (.int .i64 0) Try.underlying22 hi hz0 .i64 .i64 (n : Int) (n : Int) (by omega) (by omega) (by rw [hz2]; omega) (by omega)
  have hM : madeCells (Value.int .i64 0).cells (n * i0.size) = (List.replicate n (Value.int .i64 0)).toArray := by
    rw [hz1, Nat.mul_one]
    apply Array.ext'
    rw [List.toList_toArray]
    exact toList_madeCells_one _ _
  rw [Int.toNat_natCast, hM] at h
  exact h
theorem bytes_ext {a b : ByteArray} (h : a.toList = b.toList) : a = b := by
  rw [Lib.toList_data, Lib.toList_data] at h
  cases a; cases b
  simp only at h
  congr 1
  exact Array.toList_inj.1 h
/-- Those that are not used up. -/
def un : List Int → List ByteArray → List ByteArray
  | c :: cs, a :: t => if c = 0 then a :: un cs t else un cs t
  | _, _ => []
theorem un_zero : ∀ l : List ByteArray, un (List.replicate l.length 0) l = l
  | [] => rfl
  | a :: t => by simp [un, List.replicate_succ, un_zero t]
theorem un_set : ∀ (cs : List Int) (l : List ByteArray) (j : Nat) (hj : j < l.length) (hc : cs.length = l.length) (h0 : cs[j]'(by omega) = 0), (un cs l).Perm (l[j] :: un (cs.set j 1) l)
  | c :: cs, a :: t, 0, _, hc, h0 => by
    simp only [List.getElem_cons_zero] at h0
    subst h0
    simp [un]
  | c :: cs, a :: t, j + 1, hj, hc, h0 => by
    simp only [List.getElem_cons_succ] at h0
    have ih := un_set cs t j (by simpa using hj) (by simpa using hc) h0
    simp only [un, List.set_cons_succ, List.getElem_cons_succ]
    split
    · exact (List.Perm.cons a ih).trans (List.Perm.swap _ _ _)
    · exact ih
  | [], a :: t, j, hj, hc, h0 => by simp at hc
theorem un_mem : ∀ (cs : List Int) (l : List ByteArray) (s : ByteArray), cs.length = l.length → s ∈ un cs l → ∃ (j : Nat) (hj : j < l.length) (hj2 : j < cs.length), l[j] = s ∧ cs[j] = 0
  | c :: cs, a :: t, s, hc, h => by
    simp only [un] at h
    have rc : s ∈ un cs t → ∃ (j : Nat) (hj : j < (a :: t).length) (hj2 : j < (c :: cs).length), (a :: t)[j] = s ∧ (c :: cs)[j] = 0 := fun h => by
      obtain ⟨j, h1, h2, h3, h4⟩ := un_mem cs t s (by simpa using hc) h
      exact ⟨j + 1, by simpa using h1, by simpa using h2, by simpa using h3, by simpa using h4⟩
    split at h
    · rename_i h0
      rcases List.mem_cons.1 h with rfl | h
      · exact ⟨0, by simp, by simp, rfl, h0⟩
      · exact rc h
    · exact rc h
  | [], l, s, hc, h => by cases l <;> simp [un] at h
  | c :: cs, [], s, hc, h => by simp at hc
end Go.Proofs.Ytelngbkbdihdnaa
