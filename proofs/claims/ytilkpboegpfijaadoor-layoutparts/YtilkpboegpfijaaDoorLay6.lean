/- layout's DecodeSuper, walked. -/
import Derived.Test.YtilkpboegpfijaaDoorLayQ
namespace Go.Proofs.YtilkpboegpfijaaDoor
open Go.RowKit
set_option linter.unusedVariables false

/-- Bytes among what was there. -/
def Byt (w : World) (v : Value) (l : List UInt8) : Prop :=
  v = .slice none 0 0 ∧ l = [] ∨ ∃ a cap, v = .slice (some a) l.length cap ∧ ∀ j (hj : j < l.length), w.cell? (a.add j) = some (U8 l[j])
theorem Byt.same {w w' : World} {v : Value} {l : List UInt8} (h : Byt w v l) (k : Same w w') : Byt w' v l := by
  rcases h with h | ⟨a, cap, e, hc⟩
  · exact Or.inl h
  · exact Or.inr ⟨a, cap, e, fun j hj => Kept.cell k (fun h => h) (hc j hj)⟩
theorem Byt.text {w : World} {v : Value} {l : List UInt8} (h : Byt w v l) : (convert 51 9 v).run Tryd.prog w = .ok (.string ⟨l.toArray⟩) w := by
  rcases h with ⟨rfl, rfl⟩ | ⟨a, cap, rfl, hc⟩
  · exact run_convert_bytes_nil w 51 5 Tryd.underlying51 Tryd.underlying5 0 0 9 Tryd.underlying9
  · exact run_convert_bytes_back w 51 9 5 a cap l Tryd.underlying51 Tryd.underlying5 Tryd.underlying9 fun j hj => hc j hj
theorem Byt.form {w : World} {v : Value} {l : List UInt8} (h : Byt w v l) : ∃ a cap, v = .slice a l.length cap := by
  rcases h with ⟨rfl, rfl⟩ | ⟨a, cap, rfl, _⟩
  · exact ⟨none, 0, rfl⟩
  · exact ⟨_, _, rfl⟩
theorem Own.byt {w : World} {v : Value} {l : List UInt8} {B : Nat} (h : Own w v l B) : Byt w v l := by
  obtain ⟨g, _, rfl, hb⟩ := h
  refine Or.inr ⟨_, _, rfl, fun j hj => ?_⟩
  have hadd : (⟨g, 0, none⟩ : Addr).add j = ⟨g, j, none⟩ := by unfold Addr.add; split <;> simp_all
  rw [hadd, blk_cell hb]
  simp [hj]
/-- A call that tells no superblock. -/
def NoSuper (w : World) (e : Ending) (w' : World) : Prop := e = .returned (.tuple #[.agg #[.int .u64 0, .int .i64 0, .int .i64 0, .int .i64 0, .int .i64 0, .int .i64 0, .int .i64 0, .int .i64 0, .int .i64 0, .int .u64 0, .int .i64 0, .bool false], .int .i64 40]) ∧ Same w w'
theorem rdone_51 (s : ByteArray) (h : s.size = 51) : rdone (rst s 51) = 0 := by
  unfold rst
  rw [if_pos (by omega)]
  unfold rdone
  rw [if_pos rfl, if_neg (by simp; omega)]
theorem rdone_not (s : ByteArray) (h : s.size ≠ 51) : rdone (rst s 51) ≠ 0 := by
  unfold rst
  by_cases h1 : 51 ≤ s.size
  · rw [if_pos h1]
    unfold rdone
    rw [if_pos rfl, if_pos (by simp; omega)]
    decide
  · rw [if_neg h1]
    decide
set_option maxHeartbeats 4000000 in
set_option maxRecDepth 100000 in
theorem enc_no (gen : Nat) (root : Int) (sector sectors journal pack cmin cnorm cmax : Int) (seed : Nat) (nbits : Int) (dd : Bool) (w : World) (e : Int) (h : supErr sectors journal root (Shp sector sectors journal pack cmin cnorm cmax nbits) = e) (he : e ≠ 0) :
    Calls Tryd.prog 50 #[.agg #[.int .u64 gen, .int .i64 root, .int .i64 sector, .int .i64 sectors, .int .i64 journal, .int .i64 pack, .int .i64 cmin, .int .i64 cnorm, .int .i64 cmax, .int .u64 seed, .int .i64 nbits, .bool dd]] w fun x w' => x = .returned (.tuple #[.slice none 0 0, .int .i64 e]) ∧ Same w w' := by
  have hc := fun w => csup_any gen root sector sectors journal pack cmin cnorm cmax seed nbits dd w
  rw [h] at hc
  have HC := hidden hc
  have heb : (e != 0) = true := by simpa using he
  clear hc h he
  go_enter Tryd.func50, Tryd.ntmps50
  go_wp2_with (go_at_call 67; refine (HC.out _).mono ?_; rintro e w1 ⟨rfl, k1⟩)
  go_returns
  exact ⟨rfl, Kept.trans (same_alloc _ _) k1⟩
set_option maxHeartbeats 4000000 in
set_option maxRecDepth 100000 in
theorem dec_unf (v : Value) (l : List UInt8) (w : World) (hb : Byt w v l) (hT : Tab w) (hl : l.length ≤ 281474976710656) (hu : (unf ⟨l.toArray⟩).2.2.2 ≠ 0) :
    Calls Tryd.prog 52 #[v] w (NoSuper w) := by
  have ht := fun o => (hb.same (same_alloc w o)).text
  have hf := fun w h => unframe_any ⟨l.toArray⟩ w (by rw [ba_size]; exact hl) h
  have hub : ((unf ⟨l.toArray⟩).2.2.2 != 0) = true := by simpa using hu
  generalize unf ⟨l.toArray⟩ = U at *
  obtain ⟨u0, u1, u2, u3⟩ := U
  have HF := hidden hf
  have HT := hidden hT
  simp only [UnfEnd] at hub HF
  clear hf hT hu hb
  go_enter Tryd.func52, Tryd.ntmps52
  go_wp2_with (go_at_call 24; refine (HF.out _ (HT.out.same (same_alloc _ _))).mono ?_; rintro e w1 ⟨rfl, k1⟩; have rb := blk_kept k1 (fun h => h) (blk_new w _); have z0 : w1.cell? ⟨w.heap.size, 0, none⟩ = some (.int .u64 0) := blk_cell rb; have z1 : w1.cell? ⟨w.heap.size, 1, none⟩ = some (.int .i64 0) := blk_cell rb; have z2 : w1.cell? ⟨w.heap.size, 2, none⟩ = some (.int .i64 0) := blk_cell rb; have z3 : w1.cell? ⟨w.heap.size, 3, none⟩ = some (.int .i64 0) := blk_cell rb; have z4 : w1.cell? ⟨w.heap.size, 4, none⟩ = some (.int .i64 0) := blk_cell rb; have z5 : w1.cell? ⟨w.heap.size, 5, none⟩ = some (.int .i64 0) := blk_cell rb; have z6 : w1.cell? ⟨w.heap.size, 6, none⟩ = some (.int .i64 0) := blk_cell rb; have z7 : w1.cell? ⟨w.heap.size, 7, none⟩ = some (.int .i64 0) := blk_cell rb; have z8 : w1.cell? ⟨w.heap.size, 8, none⟩ = some (.int .i64 0) := blk_cell rb; have z9 : w1.cell? ⟨w.heap.size, 9, none⟩ = some (.int .u64 0) := blk_cell rb; have z10 : w1.cell? ⟨w.heap.size, 10, none⟩ = some (.int .i64 0) := blk_cell rb; have z11 : w1.cell? ⟨w.heap.size, 11, none⟩ = some (.bool false) := blk_cell rb; have y0 : w1.frozen? ⟨w.heap.size, 0, none⟩ = false := blk_free rb; have y1 : w1.frozen? ⟨w.heap.size, 1, none⟩ = false := blk_free rb; have y2 : w1.frozen? ⟨w.heap.size, 2, none⟩ = false := blk_free rb; have y3 : w1.frozen? ⟨w.heap.size, 3, none⟩ = false := blk_free rb; have y4 : w1.frozen? ⟨w.heap.size, 4, none⟩ = false := blk_free rb; have y5 : w1.frozen? ⟨w.heap.size, 5, none⟩ = false := blk_free rb; have y6 : w1.frozen? ⟨w.heap.size, 6, none⟩ = false := blk_free rb; have y7 : w1.frozen? ⟨w.heap.size, 7, none⟩ = false := blk_free rb; have y8 : w1.frozen? ⟨w.heap.size, 8, none⟩ = false := blk_free rb; have y9 : w1.frozen? ⟨w.heap.size, 9, none⟩ = false := blk_free rb; have y10 : w1.frozen? ⟨w.heap.size, 10, none⟩ = false := blk_free rb; have y11 : w1.frozen? ⟨w.heap.size, 11, none⟩ = false := blk_free rb; have RB := hidden rb; clear rb)
  have K1 : Same w w1 := Kept.trans (same_alloc _ _) k1
  have xf := fill12 RB.out (.int .u64 0) (.int .i64 0) (.int .i64 0) (.int .i64 0) (.int .i64 0) (.int .i64 0) (.int .i64 0) (.int .i64 0) (.int .i64 0) (.int .u64 0) (.int .i64 0) (.bool false)
  have Kf := same12 K1 (Nat.le_refl _) (.int .u64 0) (.int .i64 0) (.int .i64 0) (.int .i64 0) (.int .i64 0) (.int .i64 0) (.int .i64 0) (.int .i64 0) (.int .i64 0) (.int .u64 0) (.int .i64 0) (.bool false)
  generalize (World.setCell (World.setCell (World.setCell (World.setCell (World.setCell (World.setCell (World.setCell (World.setCell (World.setCell (World.setCell (World.setCell (World.setCell w1 ⟨w.heap.size, 0, none⟩ (.int .u64 0)) ⟨w.heap.size, 1, none⟩ (.int .i64 0)) ⟨w.heap.size, 2, none⟩ (.int .i64 0)) ⟨w.heap.size, 3, none⟩ (.int .i64 0)) ⟨w.heap.size, 4, none⟩ (.int .i64 0)) ⟨w.heap.size, 5, none⟩ (.int .i64 0)) ⟨w.heap.size, 6, none⟩ (.int .i64 0)) ⟨w.heap.size, 7, none⟩ (.int .i64 0)) ⟨w.heap.size, 8, none⟩ (.int .i64 0)) ⟨w.heap.size, 9, none⟩ (.int .u64 0)) ⟨w.heap.size, 10, none⟩ (.int .i64 0)) ⟨w.heap.size, 11, none⟩ (.bool false)) = V at xf Kf ⊢
  have u0 : V.cell? ⟨w.heap.size, 0, none⟩ = some (.int .u64 0) := blk_cell xf
  have u1 : V.cell? ⟨w.heap.size, 1, none⟩ = some (.int .i64 0) := blk_cell xf
  have u2 : V.cell? ⟨w.heap.size, 2, none⟩ = some (.int .i64 0) := blk_cell xf
  have u3 : V.cell? ⟨w.heap.size, 3, none⟩ = some (.int .i64 0) := blk_cell xf
  have u4 : V.cell? ⟨w.heap.size, 4, none⟩ = some (.int .i64 0) := blk_cell xf
  have u5 : V.cell? ⟨w.heap.size, 5, none⟩ = some (.int .i64 0) := blk_cell xf
  have u6 : V.cell? ⟨w.heap.size, 6, none⟩ = some (.int .i64 0) := blk_cell xf
  have u7 : V.cell? ⟨w.heap.size, 7, none⟩ = some (.int .i64 0) := blk_cell xf
  have u8 : V.cell? ⟨w.heap.size, 8, none⟩ = some (.int .i64 0) := blk_cell xf
  have u9 : V.cell? ⟨w.heap.size, 9, none⟩ = some (.int .u64 0) := blk_cell xf
  have u10 : V.cell? ⟨w.heap.size, 10, none⟩ = some (.int .i64 0) := blk_cell xf
  have u11 : V.cell? ⟨w.heap.size, 11, none⟩ = some (.bool false) := blk_cell xf
  exact bodyPost_ret (v := .tuple #[.agg #[.int .u64 0, .int .i64 0, .int .i64 0, .int .i64 0, .int .i64 0, .int .i64 0, .int .i64 0, .int .i64 0, .int .i64 0, .int .u64 0, .int .i64 0, .bool false], .int .i64 40]) (by simp [results, Tryd.results52, go_sem, u0, u1, u2, u3, u4, u5, u6, u7, u8, u9, u10, u11]) rfl ⟨rfl, Kf⟩
theorem unf_body_le (s : ByteArray) : (unf s).2.1.size ≤ s.size := by
  unfold unf
  split
  · exact Nat.zero_le _
  · split
    · exact Nat.zero_le _
    · split
      · exact Nat.zero_le _
      · split
        · exact Nat.zero_le _
        · simp
          omega
set_option maxHeartbeats 4000000 in
set_option maxRecDepth 100000 in
theorem dec_short (v : Value) (l : List UInt8) (w : World) (hb : Byt w v l) (hT : Tab w) (hl : l.length ≤ 281474976710656) (u0 u2 : Nat) (body : ByteArray) (hu : unf ⟨l.toArray⟩ = (u0, body, u2, 0)) (hd : rdone (rst body 51) ≠ 0) :
    Calls Tryd.prog 52 #[v] w (NoSuper w) := by
  have ht := fun o => (hb.same (same_alloc w o)).text
  have hf := fun w h => unframe_any ⟨l.toArray⟩ w (by rw [ba_size]; exact hl) h
  have hbl := unf_body_le ⟨l.toArray⟩
  rw [ba_size] at hbl
  rw [hu] at hf hbl
  have hs := fun w => superOf_any body w (Nat.le_trans hbl hl)
  have hdb : (rdone (rst body 51) != 0) = true := by simpa using hd
  generalize rdone (rst body 51) = D at *
  generalize fld body 0 8 = gen at *
  generalize fld body 8 4 = root at *
  generalize fld body 12 4 = sector at *
  generalize fld body 16 4 = sectors at *
  generalize fld body 20 4 = journal at *
  generalize fld body 24 4 = pack at *
  generalize fld body 28 4 = cmin at *
  generalize fld body 32 4 = cnorm at *
  generalize fld body 36 4 = cmax at *
  generalize fld body 40 8 = seed at *
  generalize fld body 48 2 = nbits at *
  generalize ((fld body 50 1 : Int) == 1) = dd at *
  have HF := hidden hf
  have HS := hidden hs
  have HT := hidden hT
  simp only [UnfEnd] at HF
  clear hf hT hu hb hs hbl hd
  go_enter Tryd.func52, Tryd.ntmps52
  go_wp2_with (first
    | (go_at_call 24; refine (HF.out _ (HT.out.same (same_alloc _ _))).mono ?_; rintro e w1 ⟨rfl, k1⟩)
    | (go_at_call 69; refine (HS.out _).mono ?_; rintro e w2 ⟨rfl, k2⟩; have rb := blk_kept (Kept.trans k1 k2) (fun h => h) (blk_new w _); have z0 : ∀ o, (w2.alloc o).cell? ⟨w.heap.size, 0, none⟩ = some (.int .u64 0) := (fun o => blk_cell (blk_alloc rb o)); have z1 : ∀ o, (w2.alloc o).cell? ⟨w.heap.size, 1, none⟩ = some (.int .i64 0) := (fun o => blk_cell (blk_alloc rb o)); have z2 : ∀ o, (w2.alloc o).cell? ⟨w.heap.size, 2, none⟩ = some (.int .i64 0) := (fun o => blk_cell (blk_alloc rb o)); have z3 : ∀ o, (w2.alloc o).cell? ⟨w.heap.size, 3, none⟩ = some (.int .i64 0) := (fun o => blk_cell (blk_alloc rb o)); have z4 : ∀ o, (w2.alloc o).cell? ⟨w.heap.size, 4, none⟩ = some (.int .i64 0) := (fun o => blk_cell (blk_alloc rb o)); have z5 : ∀ o, (w2.alloc o).cell? ⟨w.heap.size, 5, none⟩ = some (.int .i64 0) := (fun o => blk_cell (blk_alloc rb o)); have z6 : ∀ o, (w2.alloc o).cell? ⟨w.heap.size, 6, none⟩ = some (.int .i64 0) := (fun o => blk_cell (blk_alloc rb o)); have z7 : ∀ o, (w2.alloc o).cell? ⟨w.heap.size, 7, none⟩ = some (.int .i64 0) := (fun o => blk_cell (blk_alloc rb o)); have z8 : ∀ o, (w2.alloc o).cell? ⟨w.heap.size, 8, none⟩ = some (.int .i64 0) := (fun o => blk_cell (blk_alloc rb o)); have z9 : ∀ o, (w2.alloc o).cell? ⟨w.heap.size, 9, none⟩ = some (.int .u64 0) := (fun o => blk_cell (blk_alloc rb o)); have z10 : ∀ o, (w2.alloc o).cell? ⟨w.heap.size, 10, none⟩ = some (.int .i64 0) := (fun o => blk_cell (blk_alloc rb o)); have z11 : ∀ o, (w2.alloc o).cell? ⟨w.heap.size, 11, none⟩ = some (.bool false) := (fun o => blk_cell (blk_alloc rb o)); have y0 : ∀ o, (w2.alloc o).frozen? ⟨w.heap.size, 0, none⟩ = false := (fun o => blk_free (blk_alloc rb o)); have y1 : ∀ o, (w2.alloc o).frozen? ⟨w.heap.size, 1, none⟩ = false := (fun o => blk_free (blk_alloc rb o)); have y2 : ∀ o, (w2.alloc o).frozen? ⟨w.heap.size, 2, none⟩ = false := (fun o => blk_free (blk_alloc rb o)); have y3 : ∀ o, (w2.alloc o).frozen? ⟨w.heap.size, 3, none⟩ = false := (fun o => blk_free (blk_alloc rb o)); have y4 : ∀ o, (w2.alloc o).frozen? ⟨w.heap.size, 4, none⟩ = false := (fun o => blk_free (blk_alloc rb o)); have y5 : ∀ o, (w2.alloc o).frozen? ⟨w.heap.size, 5, none⟩ = false := (fun o => blk_free (blk_alloc rb o)); have y6 : ∀ o, (w2.alloc o).frozen? ⟨w.heap.size, 6, none⟩ = false := (fun o => blk_free (blk_alloc rb o)); have y7 : ∀ o, (w2.alloc o).frozen? ⟨w.heap.size, 7, none⟩ = false := (fun o => blk_free (blk_alloc rb o)); have y8 : ∀ o, (w2.alloc o).frozen? ⟨w.heap.size, 8, none⟩ = false := (fun o => blk_free (blk_alloc rb o)); have y9 : ∀ o, (w2.alloc o).frozen? ⟨w.heap.size, 9, none⟩ = false := (fun o => blk_free (blk_alloc rb o)); have y10 : ∀ o, (w2.alloc o).frozen? ⟨w.heap.size, 10, none⟩ = false := (fun o => blk_free (blk_alloc rb o)); have y11 : ∀ o, (w2.alloc o).frozen? ⟨w.heap.size, 11, none⟩ = false := (fun o => blk_free (blk_alloc rb o)); have RB := hidden rb; clear rb))
  have K1 : Same w (w2.alloc (.cells #[.int .u64 gen, .int .i64 root, .int .i64 sector, .int .i64 sectors, .int .i64 journal, .int .i64 pack, .int .i64 cmin, .int .i64 cnorm, .int .i64 cmax, .int .u64 seed, .int .i64 nbits, .bool dd] 89)) := Kept.alloc (Kept.trans (Kept.trans (same_alloc _ _) k1) k2) _
  have XB := blk_alloc RB.out (.cells #[.int .u64 gen, .int .i64 root, .int .i64 sector, .int .i64 sectors, .int .i64 journal, .int .i64 pack, .int .i64 cmin, .int .i64 cnorm, .int .i64 cmax, .int .u64 seed, .int .i64 nbits, .bool dd] 89)
  generalize (w2.alloc (.cells #[.int .u64 gen, .int .i64 root, .int .i64 sector, .int .i64 sectors, .int .i64 journal, .int .i64 pack, .int .i64 cmin, .int .i64 cnorm, .int .i64 cmax, .int .u64 seed, .int .i64 nbits, .bool dd] 89)) = A at K1 XB ⊢
  have xf := fill12 XB (.int .u64 0) (.int .i64 0) (.int .i64 0) (.int .i64 0) (.int .i64 0) (.int .i64 0) (.int .i64 0) (.int .i64 0) (.int .i64 0) (.int .u64 0) (.int .i64 0) (.bool false)
  have Kf := same12 K1 (Nat.le_refl _) (.int .u64 0) (.int .i64 0) (.int .i64 0) (.int .i64 0) (.int .i64 0) (.int .i64 0) (.int .i64 0) (.int .i64 0) (.int .i64 0) (.int .u64 0) (.int .i64 0) (.bool false)
  generalize (World.setCell (World.setCell (World.setCell (World.setCell (World.setCell (World.setCell (World.setCell (World.setCell (World.setCell (World.setCell (World.setCell (World.setCell A ⟨w.heap.size, 0, none⟩ (.int .u64 0)) ⟨w.heap.size, 1, none⟩ (.int .i64 0)) ⟨w.heap.size, 2, none⟩ (.int .i64 0)) ⟨w.heap.size, 3, none⟩ (.int .i64 0)) ⟨w.heap.size, 4, none⟩ (.int .i64 0)) ⟨w.heap.size, 5, none⟩ (.int .i64 0)) ⟨w.heap.size, 6, none⟩ (.int .i64 0)) ⟨w.heap.size, 7, none⟩ (.int .i64 0)) ⟨w.heap.size, 8, none⟩ (.int .i64 0)) ⟨w.heap.size, 9, none⟩ (.int .u64 0)) ⟨w.heap.size, 10, none⟩ (.int .i64 0)) ⟨w.heap.size, 11, none⟩ (.bool false)) = V at xf Kf ⊢
  have u0 : V.cell? ⟨w.heap.size, 0, none⟩ = some (.int .u64 0) := blk_cell xf
  have u1 : V.cell? ⟨w.heap.size, 1, none⟩ = some (.int .i64 0) := blk_cell xf
  have u2 : V.cell? ⟨w.heap.size, 2, none⟩ = some (.int .i64 0) := blk_cell xf
  have u3 : V.cell? ⟨w.heap.size, 3, none⟩ = some (.int .i64 0) := blk_cell xf
  have u4 : V.cell? ⟨w.heap.size, 4, none⟩ = some (.int .i64 0) := blk_cell xf
  have u5 : V.cell? ⟨w.heap.size, 5, none⟩ = some (.int .i64 0) := blk_cell xf
  have u6 : V.cell? ⟨w.heap.size, 6, none⟩ = some (.int .i64 0) := blk_cell xf
  have u7 : V.cell? ⟨w.heap.size, 7, none⟩ = some (.int .i64 0) := blk_cell xf
  have u8 : V.cell? ⟨w.heap.size, 8, none⟩ = some (.int .i64 0) := blk_cell xf
  have u9 : V.cell? ⟨w.heap.size, 9, none⟩ = some (.int .u64 0) := blk_cell xf
  have u10 : V.cell? ⟨w.heap.size, 10, none⟩ = some (.int .i64 0) := blk_cell xf
  have u11 : V.cell? ⟨w.heap.size, 11, none⟩ = some (.bool false) := blk_cell xf
  exact bodyPost_ret (v := .tuple #[.agg #[.int .u64 0, .int .i64 0, .int .i64 0, .int .i64 0, .int .i64 0, .int .i64 0, .int .i64 0, .int .i64 0, .int .i64 0, .int .u64 0, .int .i64 0, .bool false], .int .i64 40]) (by simp [results, Tryd.results52, go_sem, u0, u1, u2, u3, u4, u5, u6, u7, u8, u9, u10, u11]) rfl ⟨rfl, Kf⟩
set_option maxHeartbeats 4000000 in
set_option maxRecDepth 100000 in
theorem dec_refused (v : Value) (l : List UInt8) (w : World) (hb : Byt w v l) (hT : Tab w) (hl : l.length ≤ 281474976710656) (u0 u2 : Nat) (body : ByteArray) (hu : unf ⟨l.toArray⟩ = (u0, body, u2, 0)) (hd : rdone (rst body 51) = 0)
    (gen root sector sectors journal pack cmin cnorm cmax seed nbits : Nat) (dd : Bool) (hfs : ∀ w, Calls Tryd.prog 69 #[.string body] w fun e w' => e = .returned (.tuple #[.agg #[.int .u64 gen, .int .i64 root, .int .i64 sector, .int .i64 sectors, .int .i64 journal, .int .i64 pack, .int .i64 cmin, .int .i64 cnorm, .int .i64 cmax, .int .u64 seed, .int .i64 nbits, .bool dd], .int .i64 0]) ∧ Same w w')
    (e : Int) (h : supErr sectors journal root (Shp sector sectors journal pack cmin cnorm cmax nbits) = e) (he : e ≠ 0) :
    Calls Tryd.prog 52 #[v] w (NoSuper w) := by
  have ht := fun o => (hb.same (same_alloc w o)).text
  have hf := fun w h => unframe_any ⟨l.toArray⟩ w (by rw [ba_size]; exact hl) h
  rw [hu] at hf
  have hen := fun w => enc_no gen root sector sectors journal pack cmin cnorm cmax seed nbits dd w e h he
  have heb : (e != 0) = true := by simpa using he
  have HF := hidden hf
  have HS := hidden hfs
  have HE := hidden hen
  have HT := hidden hT
  simp only [UnfEnd] at HF
  clear hf hT hu hb hfs hd hen h he
  go_enter Tryd.func52, Tryd.ntmps52
  go_wp2_with (first
    | (go_at_call 24; refine (HF.out _ (HT.out.same (same_alloc _ _))).mono ?_; rintro e w1 ⟨rfl, k1⟩)
    | (go_at_call 69; refine (HS.out _).mono ?_; rintro e w2 ⟨rfl, k2⟩)
    | (go_at_call 50; refine (HE.out _).mono ?_; rintro e w3 ⟨rfl, k3⟩; have rb := blk_kept k3 (fun h => h) (blk_alloc (blk_kept (Kept.trans k1 k2) (fun h => h) (blk_new w _)) _); have z0 : w3.cell? ⟨w.heap.size, 0, none⟩ = some (.int .u64 0) := blk_cell rb; have z1 : w3.cell? ⟨w.heap.size, 1, none⟩ = some (.int .i64 0) := blk_cell rb; have z2 : w3.cell? ⟨w.heap.size, 2, none⟩ = some (.int .i64 0) := blk_cell rb; have z3 : w3.cell? ⟨w.heap.size, 3, none⟩ = some (.int .i64 0) := blk_cell rb; have z4 : w3.cell? ⟨w.heap.size, 4, none⟩ = some (.int .i64 0) := blk_cell rb; have z5 : w3.cell? ⟨w.heap.size, 5, none⟩ = some (.int .i64 0) := blk_cell rb; have z6 : w3.cell? ⟨w.heap.size, 6, none⟩ = some (.int .i64 0) := blk_cell rb; have z7 : w3.cell? ⟨w.heap.size, 7, none⟩ = some (.int .i64 0) := blk_cell rb; have z8 : w3.cell? ⟨w.heap.size, 8, none⟩ = some (.int .i64 0) := blk_cell rb; have z9 : w3.cell? ⟨w.heap.size, 9, none⟩ = some (.int .u64 0) := blk_cell rb; have z10 : w3.cell? ⟨w.heap.size, 10, none⟩ = some (.int .i64 0) := blk_cell rb; have z11 : w3.cell? ⟨w.heap.size, 11, none⟩ = some (.bool false) := blk_cell rb; have y0 : w3.frozen? ⟨w.heap.size, 0, none⟩ = false := blk_free rb; have y1 : w3.frozen? ⟨w.heap.size, 1, none⟩ = false := blk_free rb; have y2 : w3.frozen? ⟨w.heap.size, 2, none⟩ = false := blk_free rb; have y3 : w3.frozen? ⟨w.heap.size, 3, none⟩ = false := blk_free rb; have y4 : w3.frozen? ⟨w.heap.size, 4, none⟩ = false := blk_free rb; have y5 : w3.frozen? ⟨w.heap.size, 5, none⟩ = false := blk_free rb; have y6 : w3.frozen? ⟨w.heap.size, 6, none⟩ = false := blk_free rb; have y7 : w3.frozen? ⟨w.heap.size, 7, none⟩ = false := blk_free rb; have y8 : w3.frozen? ⟨w.heap.size, 8, none⟩ = false := blk_free rb; have y9 : w3.frozen? ⟨w.heap.size, 9, none⟩ = false := blk_free rb; have y10 : w3.frozen? ⟨w.heap.size, 10, none⟩ = false := blk_free rb; have y11 : w3.frozen? ⟨w.heap.size, 11, none⟩ = false := blk_free rb; have RB := hidden rb; clear rb))
  have K1 : Same w w3 := Kept.trans (Kept.alloc (Kept.trans (Kept.trans (same_alloc _ _) k1) k2) _) k3
  have xf := fill12 RB.out (.int .u64 0) (.int .i64 0) (.int .i64 0) (.int .i64 0) (.int .i64 0) (.int .i64 0) (.int .i64 0) (.int .i64 0) (.int .i64 0) (.int .u64 0) (.int .i64 0) (.bool false)
  have Kf := same12 K1 (Nat.le_refl _) (.int .u64 0) (.int .i64 0) (.int .i64 0) (.int .i64 0) (.int .i64 0) (.int .i64 0) (.int .i64 0) (.int .i64 0) (.int .i64 0) (.int .u64 0) (.int .i64 0) (.bool false)
  generalize (World.setCell (World.setCell (World.setCell (World.setCell (World.setCell (World.setCell (World.setCell (World.setCell (World.setCell (World.setCell (World.setCell (World.setCell w3 ⟨w.heap.size, 0, none⟩ (.int .u64 0)) ⟨w.heap.size, 1, none⟩ (.int .i64 0)) ⟨w.heap.size, 2, none⟩ (.int .i64 0)) ⟨w.heap.size, 3, none⟩ (.int .i64 0)) ⟨w.heap.size, 4, none⟩ (.int .i64 0)) ⟨w.heap.size, 5, none⟩ (.int .i64 0)) ⟨w.heap.size, 6, none⟩ (.int .i64 0)) ⟨w.heap.size, 7, none⟩ (.int .i64 0)) ⟨w.heap.size, 8, none⟩ (.int .i64 0)) ⟨w.heap.size, 9, none⟩ (.int .u64 0)) ⟨w.heap.size, 10, none⟩ (.int .i64 0)) ⟨w.heap.size, 11, none⟩ (.bool false)) = V at xf Kf ⊢
  have u0 : V.cell? ⟨w.heap.size, 0, none⟩ = some (.int .u64 0) := blk_cell xf
  have u1 : V.cell? ⟨w.heap.size, 1, none⟩ = some (.int .i64 0) := blk_cell xf
  have u2 : V.cell? ⟨w.heap.size, 2, none⟩ = some (.int .i64 0) := blk_cell xf
  have u3 : V.cell? ⟨w.heap.size, 3, none⟩ = some (.int .i64 0) := blk_cell xf
  have u4 : V.cell? ⟨w.heap.size, 4, none⟩ = some (.int .i64 0) := blk_cell xf
  have u5 : V.cell? ⟨w.heap.size, 5, none⟩ = some (.int .i64 0) := blk_cell xf
  have u6 : V.cell? ⟨w.heap.size, 6, none⟩ = some (.int .i64 0) := blk_cell xf
  have u7 : V.cell? ⟨w.heap.size, 7, none⟩ = some (.int .i64 0) := blk_cell xf
  have u8 : V.cell? ⟨w.heap.size, 8, none⟩ = some (.int .i64 0) := blk_cell xf
  have u9 : V.cell? ⟨w.heap.size, 9, none⟩ = some (.int .u64 0) := blk_cell xf
  have u10 : V.cell? ⟨w.heap.size, 10, none⟩ = some (.int .i64 0) := blk_cell xf
  have u11 : V.cell? ⟨w.heap.size, 11, none⟩ = some (.bool false) := blk_cell xf
  exact bodyPost_ret (v := .tuple #[.agg #[.int .u64 0, .int .i64 0, .int .i64 0, .int .i64 0, .int .i64 0, .int .i64 0, .int .i64 0, .int .i64 0, .int .i64 0, .int .u64 0, .int .i64 0, .bool false], .int .i64 40]) (by simp [results, Tryd.results52, go_sem, u0, u1, u2, u3, u4, u5, u6, u7, u8, u9, u10, u11]) rfl ⟨rfl, Kf⟩
set_option maxHeartbeats 4000000 in
set_option maxRecDepth 100000 in
theorem dec_other (v : Value) (l : List UInt8) (w : World) (hb : Byt w v l) (hT : Tab w) (hl : l.length ≤ 281474976710656) (u0 u2 : Nat) (body : ByteArray) (hu : unf ⟨l.toArray⟩ = (u0, body, u2, 0)) (hd : rdone (rst body 51) = 0)
    (gen root sector sectors journal pack cmin cnorm cmax seed nbits : Nat) (dd : Bool) (hfs : ∀ w, Calls Tryd.prog 69 #[.string body] w fun e w' => e = .returned (.tuple #[.agg #[.int .u64 gen, .int .i64 root, .int .i64 sector, .int .i64 sectors, .int .i64 journal, .int .i64 pack, .int .i64 cmin, .int .i64 cnorm, .int .i64 cmax, .int .u64 seed, .int .i64 nbits, .bool dd], .int .i64 0]) ∧ Same w w')
    (h : Sup gen root sector sectors journal pack cmin cnorm cmax seed nbits dd) (hne : superL gen root sector sectors journal pack cmin cnorm cmax seed nbits dd ≠ l) :
    Calls Tryd.prog 52 #[v] w (NoSuper w) := by
  have ht := fun o => (hb.same (same_alloc w o)).text
  have hf := fun w h => unframe_any ⟨l.toArray⟩ w (by rw [ba_size]; exact hl) h
  rw [hu] at hf
  have hen := fun w ht => enc_yes gen root sector sectors journal pack cmin cnorm cmax seed nbits dd w ht h.g h.s h.shp h.ok (by have := h.root; omega)
  have hne' : (superL gen root sector sectors journal pack cmin cnorm cmax seed nbits dd == l) = false := by simpa using hne
  generalize superL gen root sector sectors journal pack cmin cnorm cmax seed nbits dd = SL at *
  have HF := hidden hf
  have HS := hidden hfs
  have HE := hidden hen
  have HT := hidden hT
  have HB := hidden hb
  simp only [UnfEnd] at HF
  clear hf hT hu hb hfs hd hen h hne
  go_enter Tryd.func52, Tryd.ntmps52
  go_wp2_with (first
    | (go_at_call 24; refine (HF.out _ (HT.out.same (same_alloc _ _))).mono ?_; rintro e w1 ⟨rfl, k1⟩)
    | (go_at_call 69; refine (HS.out _).mono ?_; rintro e w2 ⟨rfl, k2⟩; have K2 := Kept.trans (Kept.trans (same_alloc _ _) k1) k2)
    | (go_at_call 50; refine (HE.out _ (HT.out.same (Kept.alloc K2 _))).mono ?_; rintro e w3 ⟨v3, rfl, o3, k3⟩; have K3 : Same w w3 := Kept.trans (Kept.alloc K2 _) k3; have t3 := o3.text; have t4 := (HB.out.same K3).text; have rb := blk_kept k3 (fun h => h) (blk_alloc (blk_kept (Kept.trans k1 k2) (fun h => h) (blk_new w _)) _); have z0 : w3.cell? ⟨w.heap.size, 0, none⟩ = some (.int .u64 0) := blk_cell rb; have z1 : w3.cell? ⟨w.heap.size, 1, none⟩ = some (.int .i64 0) := blk_cell rb; have z2 : w3.cell? ⟨w.heap.size, 2, none⟩ = some (.int .i64 0) := blk_cell rb; have z3 : w3.cell? ⟨w.heap.size, 3, none⟩ = some (.int .i64 0) := blk_cell rb; have z4 : w3.cell? ⟨w.heap.size, 4, none⟩ = some (.int .i64 0) := blk_cell rb; have z5 : w3.cell? ⟨w.heap.size, 5, none⟩ = some (.int .i64 0) := blk_cell rb; have z6 : w3.cell? ⟨w.heap.size, 6, none⟩ = some (.int .i64 0) := blk_cell rb; have z7 : w3.cell? ⟨w.heap.size, 7, none⟩ = some (.int .i64 0) := blk_cell rb; have z8 : w3.cell? ⟨w.heap.size, 8, none⟩ = some (.int .i64 0) := blk_cell rb; have z9 : w3.cell? ⟨w.heap.size, 9, none⟩ = some (.int .u64 0) := blk_cell rb; have z10 : w3.cell? ⟨w.heap.size, 10, none⟩ = some (.int .i64 0) := blk_cell rb; have z11 : w3.cell? ⟨w.heap.size, 11, none⟩ = some (.bool false) := blk_cell rb; have y0 : w3.frozen? ⟨w.heap.size, 0, none⟩ = false := blk_free rb; have y1 : w3.frozen? ⟨w.heap.size, 1, none⟩ = false := blk_free rb; have y2 : w3.frozen? ⟨w.heap.size, 2, none⟩ = false := blk_free rb; have y3 : w3.frozen? ⟨w.heap.size, 3, none⟩ = false := blk_free rb; have y4 : w3.frozen? ⟨w.heap.size, 4, none⟩ = false := blk_free rb; have y5 : w3.frozen? ⟨w.heap.size, 5, none⟩ = false := blk_free rb; have y6 : w3.frozen? ⟨w.heap.size, 6, none⟩ = false := blk_free rb; have y7 : w3.frozen? ⟨w.heap.size, 7, none⟩ = false := blk_free rb; have y8 : w3.frozen? ⟨w.heap.size, 8, none⟩ = false := blk_free rb; have y9 : w3.frozen? ⟨w.heap.size, 9, none⟩ = false := blk_free rb; have y10 : w3.frozen? ⟨w.heap.size, 10, none⟩ = false := blk_free rb; have y11 : w3.frozen? ⟨w.heap.size, 11, none⟩ = false := blk_free rb; have RB := hidden rb; clear rb))
  have xf := fill12 RB.out (.int .u64 0) (.int .i64 0) (.int .i64 0) (.int .i64 0) (.int .i64 0) (.int .i64 0) (.int .i64 0) (.int .i64 0) (.int .i64 0) (.int .u64 0) (.int .i64 0) (.bool false)
  have Kf := same12 K3 (Nat.le_refl _) (.int .u64 0) (.int .i64 0) (.int .i64 0) (.int .i64 0) (.int .i64 0) (.int .i64 0) (.int .i64 0) (.int .i64 0) (.int .i64 0) (.int .u64 0) (.int .i64 0) (.bool false)
  generalize (World.setCell (World.setCell (World.setCell (World.setCell (World.setCell (World.setCell (World.setCell (World.setCell (World.setCell (World.setCell (World.setCell (World.setCell w3 ⟨w.heap.size, 0, none⟩ (.int .u64 0)) ⟨w.heap.size, 1, none⟩ (.int .i64 0)) ⟨w.heap.size, 2, none⟩ (.int .i64 0)) ⟨w.heap.size, 3, none⟩ (.int .i64 0)) ⟨w.heap.size, 4, none⟩ (.int .i64 0)) ⟨w.heap.size, 5, none⟩ (.int .i64 0)) ⟨w.heap.size, 6, none⟩ (.int .i64 0)) ⟨w.heap.size, 7, none⟩ (.int .i64 0)) ⟨w.heap.size, 8, none⟩ (.int .i64 0)) ⟨w.heap.size, 9, none⟩ (.int .u64 0)) ⟨w.heap.size, 10, none⟩ (.int .i64 0)) ⟨w.heap.size, 11, none⟩ (.bool false)) = V at xf Kf ⊢
  have u0 : V.cell? ⟨w.heap.size, 0, none⟩ = some (.int .u64 0) := blk_cell xf
  have u1 : V.cell? ⟨w.heap.size, 1, none⟩ = some (.int .i64 0) := blk_cell xf
  have u2 : V.cell? ⟨w.heap.size, 2, none⟩ = some (.int .i64 0) := blk_cell xf
  have u3 : V.cell? ⟨w.heap.size, 3, none⟩ = some (.int .i64 0) := blk_cell xf
  have u4 : V.cell? ⟨w.heap.size, 4, none⟩ = some (.int .i64 0) := blk_cell xf
  have u5 : V.cell? ⟨w.heap.size, 5, none⟩ = some (.int .i64 0) := blk_cell xf
  have u6 : V.cell? ⟨w.heap.size, 6, none⟩ = some (.int .i64 0) := blk_cell xf
  have u7 : V.cell? ⟨w.heap.size, 7, none⟩ = some (.int .i64 0) := blk_cell xf
  have u8 : V.cell? ⟨w.heap.size, 8, none⟩ = some (.int .i64 0) := blk_cell xf
  have u9 : V.cell? ⟨w.heap.size, 9, none⟩ = some (.int .u64 0) := blk_cell xf
  have u10 : V.cell? ⟨w.heap.size, 10, none⟩ = some (.int .i64 0) := blk_cell xf
  have u11 : V.cell? ⟨w.heap.size, 11, none⟩ = some (.bool false) := blk_cell xf
  exact bodyPost_ret (v := .tuple #[.agg #[.int .u64 0, .int .i64 0, .int .i64 0, .int .i64 0, .int .i64 0, .int .i64 0, .int .i64 0, .int .i64 0, .int .i64 0, .int .u64 0, .int .i64 0, .bool false], .int .i64 40]) (by simp [results, Tryd.results52, go_sem, u0, u1, u2, u3, u4, u5, u6, u7, u8, u9, u10, u11]) rfl ⟨rfl, Kf⟩
set_option maxHeartbeats 4000000 in
set_option maxRecDepth 100000 in
theorem dec_this (v : Value) (l : List UInt8) (w : World) (hb : Byt w v l) (hT : Tab w) (hl : l.length ≤ 281474976710656) (u0 u2 : Nat) (body : ByteArray) (hu : unf ⟨l.toArray⟩ = (u0, body, u2, 0)) (hd : rdone (rst body 51) = 0)
    (gen root sector sectors journal pack cmin cnorm cmax seed nbits : Nat) (dd : Bool) (hfs : ∀ w, Calls Tryd.prog 69 #[.string body] w fun e w' => e = .returned (.tuple #[.agg #[.int .u64 gen, .int .i64 root, .int .i64 sector, .int .i64 sectors, .int .i64 journal, .int .i64 pack, .int .i64 cmin, .int .i64 cnorm, .int .i64 cmax, .int .u64 seed, .int .i64 nbits, .bool dd], .int .i64 0]) ∧ Same w w')
    (h : Sup gen root sector sectors journal pack cmin cnorm cmax seed nbits dd) (hne : superL gen root sector sectors journal pack cmin cnorm cmax seed nbits dd = l) :
    Calls Tryd.prog 52 #[v] w (fun e w' => e = .returned (.tuple #[.agg #[.int .u64 gen, .int .i64 root, .int .i64 sector, .int .i64 sectors, .int .i64 journal, .int .i64 pack, .int .i64 cmin, .int .i64 cnorm, .int .i64 cmax, .int .u64 seed, .int .i64 nbits, .bool dd], .int .i64 0]) ∧ Same w w') := by
  have ht := fun o => (hb.same (same_alloc w o)).text
  have hf := fun w h => unframe_any ⟨l.toArray⟩ w (by rw [ba_size]; exact hl) h
  rw [hu] at hf
  have hen := fun w ht => enc_yes gen root sector sectors journal pack cmin cnorm cmax seed nbits dd w ht h.g h.s h.shp h.ok (by have := h.root; omega)
  have hne' : (superL gen root sector sectors journal pack cmin cnorm cmax seed nbits dd == l) = true := by simpa using hne
  generalize superL gen root sector sectors journal pack cmin cnorm cmax seed nbits dd = SL at *
  have HF := hidden hf
  have HS := hidden hfs
  have HE := hidden hen
  have HT := hidden hT
  have HB := hidden hb
  simp only [UnfEnd] at HF
  clear hf hT hu hb hfs hd hen h hne
  go_enter Tryd.func52, Tryd.ntmps52
  go_wp2_with (first
    | (go_at_call 24; refine (HF.out _ (HT.out.same (same_alloc _ _))).mono ?_; rintro e w1 ⟨rfl, k1⟩)
    | (go_at_call 69; refine (HS.out _).mono ?_; rintro e w2 ⟨rfl, k2⟩; have K2 := Kept.trans (Kept.trans (same_alloc _ _) k1) k2)
    | (go_at_call 50; refine (HE.out _ (HT.out.same (Kept.alloc K2 _))).mono ?_; rintro e w3 ⟨v3, rfl, o3, k3⟩; have K3 : Same w w3 := Kept.trans (Kept.alloc K2 _) k3; have t3 := o3.text; have t4 := (HB.out.same K3).text; have rb := blk_kept k3 (fun h => h) (blk_alloc (blk_kept (Kept.trans k1 k2) (fun h => h) (blk_new w _)) _); have z0 : w3.cell? ⟨w.heap.size, 0, none⟩ = some (.int .u64 0) := blk_cell rb; have z1 : w3.cell? ⟨w.heap.size, 1, none⟩ = some (.int .i64 0) := blk_cell rb; have z2 : w3.cell? ⟨w.heap.size, 2, none⟩ = some (.int .i64 0) := blk_cell rb; have z3 : w3.cell? ⟨w.heap.size, 3, none⟩ = some (.int .i64 0) := blk_cell rb; have z4 : w3.cell? ⟨w.heap.size, 4, none⟩ = some (.int .i64 0) := blk_cell rb; have z5 : w3.cell? ⟨w.heap.size, 5, none⟩ = some (.int .i64 0) := blk_cell rb; have z6 : w3.cell? ⟨w.heap.size, 6, none⟩ = some (.int .i64 0) := blk_cell rb; have z7 : w3.cell? ⟨w.heap.size, 7, none⟩ = some (.int .i64 0) := blk_cell rb; have z8 : w3.cell? ⟨w.heap.size, 8, none⟩ = some (.int .i64 0) := blk_cell rb; have z9 : w3.cell? ⟨w.heap.size, 9, none⟩ = some (.int .u64 0) := blk_cell rb; have z10 : w3.cell? ⟨w.heap.size, 10, none⟩ = some (.int .i64 0) := blk_cell rb; have z11 : w3.cell? ⟨w.heap.size, 11, none⟩ = some (.bool false) := blk_cell rb; have y0 : w3.frozen? ⟨w.heap.size, 0, none⟩ = false := blk_free rb; have y1 : w3.frozen? ⟨w.heap.size, 1, none⟩ = false := blk_free rb; have y2 : w3.frozen? ⟨w.heap.size, 2, none⟩ = false := blk_free rb; have y3 : w3.frozen? ⟨w.heap.size, 3, none⟩ = false := blk_free rb; have y4 : w3.frozen? ⟨w.heap.size, 4, none⟩ = false := blk_free rb; have y5 : w3.frozen? ⟨w.heap.size, 5, none⟩ = false := blk_free rb; have y6 : w3.frozen? ⟨w.heap.size, 6, none⟩ = false := blk_free rb; have y7 : w3.frozen? ⟨w.heap.size, 7, none⟩ = false := blk_free rb; have y8 : w3.frozen? ⟨w.heap.size, 8, none⟩ = false := blk_free rb; have y9 : w3.frozen? ⟨w.heap.size, 9, none⟩ = false := blk_free rb; have y10 : w3.frozen? ⟨w.heap.size, 10, none⟩ = false := blk_free rb; have y11 : w3.frozen? ⟨w.heap.size, 11, none⟩ = false := blk_free rb; have xb := blk_kept k3 (fun h => h) (blk_new w2 _); have a0 : w3.cell? ⟨w2.heap.size, 0, none⟩ = some (.int .u64 gen) := blk_cell xb; have a1 : w3.cell? ⟨w2.heap.size, 1, none⟩ = some (.int .i64 root) := blk_cell xb; have a2 : w3.cell? ⟨w2.heap.size, 2, none⟩ = some (.int .i64 sector) := blk_cell xb; have a3 : w3.cell? ⟨w2.heap.size, 3, none⟩ = some (.int .i64 sectors) := blk_cell xb; have a4 : w3.cell? ⟨w2.heap.size, 4, none⟩ = some (.int .i64 journal) := blk_cell xb; have a5 : w3.cell? ⟨w2.heap.size, 5, none⟩ = some (.int .i64 pack) := blk_cell xb; have a6 : w3.cell? ⟨w2.heap.size, 6, none⟩ = some (.int .i64 cmin) := blk_cell xb; have a7 : w3.cell? ⟨w2.heap.size, 7, none⟩ = some (.int .i64 cnorm) := blk_cell xb; have a8 : w3.cell? ⟨w2.heap.size, 8, none⟩ = some (.int .i64 cmax) := blk_cell xb; have a9 : w3.cell? ⟨w2.heap.size, 9, none⟩ = some (.int .u64 seed) := blk_cell xb; have a10 : w3.cell? ⟨w2.heap.size, 10, none⟩ = some (.int .i64 nbits) := blk_cell xb; have a11 : w3.cell? ⟨w2.heap.size, 11, none⟩ = some (.bool dd) := blk_cell xb; have RB := hidden rb; clear rb))
  have xf := fill12 RB.out (.int .u64 gen) (.int .i64 root) (.int .i64 sector) (.int .i64 sectors) (.int .i64 journal) (.int .i64 pack) (.int .i64 cmin) (.int .i64 cnorm) (.int .i64 cmax) (.int .u64 seed) (.int .i64 nbits) (.bool dd)
  have Kf := same12 K3 (Nat.le_refl _) (.int .u64 gen) (.int .i64 root) (.int .i64 sector) (.int .i64 sectors) (.int .i64 journal) (.int .i64 pack) (.int .i64 cmin) (.int .i64 cnorm) (.int .i64 cmax) (.int .u64 seed) (.int .i64 nbits) (.bool dd)
  generalize (World.setCell (World.setCell (World.setCell (World.setCell (World.setCell (World.setCell (World.setCell (World.setCell (World.setCell (World.setCell (World.setCell (World.setCell w3 ⟨w.heap.size, 0, none⟩ (.int .u64 gen)) ⟨w.heap.size, 1, none⟩ (.int .i64 root)) ⟨w.heap.size, 2, none⟩ (.int .i64 sector)) ⟨w.heap.size, 3, none⟩ (.int .i64 sectors)) ⟨w.heap.size, 4, none⟩ (.int .i64 journal)) ⟨w.heap.size, 5, none⟩ (.int .i64 pack)) ⟨w.heap.size, 6, none⟩ (.int .i64 cmin)) ⟨w.heap.size, 7, none⟩ (.int .i64 cnorm)) ⟨w.heap.size, 8, none⟩ (.int .i64 cmax)) ⟨w.heap.size, 9, none⟩ (.int .u64 seed)) ⟨w.heap.size, 10, none⟩ (.int .i64 nbits)) ⟨w.heap.size, 11, none⟩ (.bool dd)) = V at xf Kf ⊢
  have u0 : V.cell? ⟨w.heap.size, 0, none⟩ = some (.int .u64 gen) := blk_cell xf
  have u1 : V.cell? ⟨w.heap.size, 1, none⟩ = some (.int .i64 root) := blk_cell xf
  have u2 : V.cell? ⟨w.heap.size, 2, none⟩ = some (.int .i64 sector) := blk_cell xf
  have u3 : V.cell? ⟨w.heap.size, 3, none⟩ = some (.int .i64 sectors) := blk_cell xf
  have u4 : V.cell? ⟨w.heap.size, 4, none⟩ = some (.int .i64 journal) := blk_cell xf
  have u5 : V.cell? ⟨w.heap.size, 5, none⟩ = some (.int .i64 pack) := blk_cell xf
  have u6 : V.cell? ⟨w.heap.size, 6, none⟩ = some (.int .i64 cmin) := blk_cell xf
  have u7 : V.cell? ⟨w.heap.size, 7, none⟩ = some (.int .i64 cnorm) := blk_cell xf
  have u8 : V.cell? ⟨w.heap.size, 8, none⟩ = some (.int .i64 cmax) := blk_cell xf
  have u9 : V.cell? ⟨w.heap.size, 9, none⟩ = some (.int .u64 seed) := blk_cell xf
  have u10 : V.cell? ⟨w.heap.size, 10, none⟩ = some (.int .i64 nbits) := blk_cell xf
  have u11 : V.cell? ⟨w.heap.size, 11, none⟩ = some (.bool dd) := blk_cell xf
  exact bodyPost_ret (v := .tuple #[.agg #[.int .u64 gen, .int .i64 root, .int .i64 sector, .int .i64 sectors, .int .i64 journal, .int .i64 pack, .int .i64 cmin, .int .i64 cnorm, .int .i64 cmax, .int .u64 seed, .int .i64 nbits, .bool dd], .int .i64 0]) (by simp [results, Tryd.results52, go_sem, u0, u1, u2, u3, u4, u5, u6, u7, u8, u9, u10, u11]) rfl ⟨rfl, Kf⟩
theorem dec_no (v : Value) (l : List UInt8) (w : World) (hb : Byt w v l) (hT : Tab w) (hl : l.length ≤ 281474976710656)
    (hno : ∀ (gen root sector sectors journal pack cmin cnorm cmax seed nbits : Nat) (dd : Bool), Sup gen root sector sectors journal pack cmin cnorm cmax seed nbits dd → superL gen root sector sectors journal pack cmin cnorm cmax seed nbits dd ≠ l) :
    Calls Tryd.prog 52 #[v] w (NoSuper w) := by
  by_cases he : (unf ⟨l.toArray⟩).2.2.2 = 0
  · obtain ⟨u0, body, u2, u3, hu⟩ : ∃ u0 body u2 u3, unf ⟨l.toArray⟩ = (u0, body, u2, u3) := ⟨_, _, _, _, rfl⟩
    rw [hu] at he
    obtain rfl : u3 = 0 := he
    have hbl := unf_body_le ⟨l.toArray⟩
    rw [ba_size, hu] at hbl
    by_cases hd : rdone (rst body 51) = 0
    · have hs := fun w => superOf_any body w (Nat.le_trans hbl hl)
      rw [hd] at hs
      have hg := fld_lt body 0 8
      have hse := fld_lt body 40 8
      generalize fld body 0 8 = gen at *
      generalize fld body 8 4 = root at *
      generalize fld body 12 4 = sector at *
      generalize fld body 16 4 = sectors at *
      generalize fld body 20 4 = journal at *
      generalize fld body 24 4 = pack at *
      generalize fld body 28 4 = cmin at *
      generalize fld body 32 4 = cnorm at *
      generalize fld body 36 4 = cmax at *
      generalize fld body 40 8 = seed at *
      generalize fld body 48 2 = nbits at *
      generalize ((fld body 50 1 : Int) == 1) = dd at *
      by_cases hk : supErr sectors journal root (Shp sector sectors journal pack cmin cnorm cmax nbits) = 0
      · have hshp : Shp sector sectors journal pack cmin cnorm cmax nbits := by
          apply Classical.byContradiction
          intro hn
          unfold supErr at hk
          rw [if_neg hn] at hk
          cases hk
        have hS : Sup gen root sector sectors journal pack cmin cnorm cmax seed nbits dd := ⟨hg, hse, hshp, hk⟩
        exact dec_other v l w hb hT hl u0 u2 body hu hd gen root sector sectors journal pack cmin cnorm cmax seed nbits dd hs hS (hno _ _ _ _ _ _ _ _ _ _ _ _ hS)
      · exact dec_refused v l w hb hT hl u0 u2 body hu hd gen root sector sectors journal pack cmin cnorm cmax seed nbits dd hs _ rfl hk
    · exact dec_short v l w hb hT hl u0 u2 body hu hd
  · exact dec_unf v l w hb hT hl he
theorem dec_yes (v : Value) (gen root sector sectors journal pack cmin cnorm cmax seed nbits : Nat) (dd : Bool) (w : World) (hb : Byt w v (superL gen root sector sectors journal pack cmin cnorm cmax seed nbits dd)) (hT : Tab w) (h : Sup gen root sector sectors journal pack cmin cnorm cmax seed nbits dd) :
    Calls Tryd.prog 52 #[v] w fun e w' => e = .returned (.tuple #[.agg #[.int .u64 gen, .int .i64 root, .int .i64 sector, .int .i64 sectors, .int .i64 journal, .int .i64 pack, .int .i64 cmin, .int .i64 cnorm, .int .i64 cmax, .int .u64 seed, .int .i64 nbits, .bool dd], .int .i64 0]) ∧ Same w w' := by
  have hsz : (⟨(bodyL gen root sector sectors journal pack cmin cnorm cmax seed nbits dd).toArray⟩ : ByteArray).size = 51 := by rw [ba_size, bodyL_len]
  have hs := fun w => superOf_any ⟨(bodyL gen root sector sectors journal pack cmin cnorm cmax seed nbits dd).toArray⟩ w (by rw [hsz]; decide)
  have hsp := h.shp
  have hr := h.root
  rw [rdone_51 _ hsz, body_0 gen root sector sectors journal pack cmin cnorm cmax seed nbits dd h.g, body_1 gen root sector sectors journal pack cmin cnorm cmax seed nbits dd (by omega), body_2 gen root sector sectors journal pack cmin cnorm cmax seed nbits dd (by have := hsp.1; omega), body_3 gen root sector sectors journal pack cmin cnorm cmax seed nbits dd (by have := hsp.2.1; omega), body_4 gen root sector sectors journal pack cmin cnorm cmax seed nbits dd (by have := hsp.2.1; have := hsp.2.2.1; omega), body_5 gen root sector sectors journal pack cmin cnorm cmax seed nbits dd (by have := hsp.2.2.2.1; omega), body_6 gen root sector sectors journal pack cmin cnorm cmax seed nbits dd (by have := hsp.2.2.2.2.1.1; have := hsp.2.2.2.2.1.2.1; omega), body_7 gen root sector sectors journal pack cmin cnorm cmax seed nbits dd (by have := hsp.2.2.2.2.1.1; omega), body_8 gen root sector sectors journal pack cmin cnorm cmax seed nbits dd (by have := hsp.2.2.2.2.1.1; have := hsp.2.2.2.2.1.2.2.1; omega), body_9 gen root sector sectors journal pack cmin cnorm cmax seed nbits dd h.s, body_10 gen root sector sectors journal pack cmin cnorm cmax seed nbits dd (by have := hsp.2.2.2.2.2; omega), body_11 gen root sector sectors journal pack cmin cnorm cmax seed nbits dd (flagN_lt dd)] at hs
  have hdd : ((flagN dd : Int) == 1) = dd := by cases dd <;> rfl
  rw [hdd] at hs
  refine dec_this v _ w hb hT ?_ 83 63 _ (unf_super gen root sector sectors journal pack cmin cnorm cmax seed nbits dd) (rdone_51 _ hsz) gen root sector sectors journal pack cmin cnorm cmax seed nbits dd hs h rfl
  rw [superL_len h]
  have := hsp.1
  omega
end Go.Proofs.YtilkpboegpfijaaDoor
