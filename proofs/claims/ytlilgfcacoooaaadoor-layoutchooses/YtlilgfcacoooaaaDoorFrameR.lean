/- The document's Frame, walked. -/
import Derived.Test.YtlilgfcacoooaaaDoorFrameP
import Derived.Deep.RegionHeld3
import Derived.Deep.RegionLaw
import Derived.Deep.RegionWith
import Derived.Deep.DrawnRows
namespace Go.Proofs.YtlilgfcacoooaaaDoor
open Go.RowKit
set_option linter.unusedVariables false
attribute [local go_sem ↓] Go.wp_at_zero Go.wp_at_succ

set_option maxHeartbeats 400000 in
theorem refFrame_long (kind : Nat) (body : ByteArray) (w : World) (h : 1048576 < body.size) (hs : body.size ≤ 140737488355328) :
    Calls Tryd.prog 62 #[.int .u8 kind, .string body] w fun e w' => e = .returned (.tuple #[.string ⟨#[]⟩, .int .i64 3]) ∧ Same w w' := by
  go_enter Tryd.func62, Tryd.ntmps62
  go_wp2
  go_returns
  exact ⟨rfl, Kept.refl _ _⟩
/-- Two bytes out of a block as a text. -/
theorem two_string (kind : Nat) (hk : kind < 256) (W : World) (g : Nat) (h0 : W.cell? ⟨g, 0, none⟩ = some (.int .u8 (kind : Int))) (h1 : W.cell? ⟨g, 1, none⟩ = some (.int .u8 0)) :
    (convert 39 9 (.slice (some ⟨g, 0, none⟩) 2 2)).run Tryd.prog W = .ok (.string ⟨#[UInt8.ofNat kind, 0]⟩) W := by
  refine run_convert_bytes_back W 39 9 5 ⟨g, 0, none⟩ 2 [UInt8.ofNat kind, 0] Tryd.underlying39 Tryd.underlying5 Tryd.underlying9 ?_
  intro j hj
  have hadd : (⟨g, 0, none⟩ : Addr).add j = ⟨g, j, none⟩ := by unfold Addr.add; split <;> simp_all
  rw [hadd]
  match j, hj with
  | 0, _ =>
    rw [h0]
    have := byte_wrap kind
    have e : IntKind.u8.wrap (kind : Int) = (kind : Int) := by rw [IntKind.wrap_u8']; omega
    rw [e] at this
    rw [this]
    rfl
  | 1, _ => rw [h1]; rfl
theorem fr_app (a b : ByteArray) : (a ++ b).data.toList = a.data.toList ++ b.data.toList := by simp
theorem fr_size (l : List UInt8) : (⟨l.toArray⟩ : ByteArray).size = l.length := ba_size l
set_option maxHeartbeats 400000 in
set_option maxRecDepth 100000 in
theorem refFrame_in (kind : Nat) (body : ByteArray) (w : World) (hk : kind < 256) (h : body.size ≤ 1048576) :
    Calls Tryd.prog 62 #[.int .u8 kind, .string body] w fun e w' => e = .returned (.tuple #[.string ⟨(frameL kind body).toArray⟩, .int .i64 0]) ∧ Same w w' := by
  have hnum := fun w => refNumber body.size 4 w (by omega) (by decide)
  have c1 : ∀ W : World, (convert 39 9 (.slice (some ⟨W.heap.size, 0, none⟩) 2 2)).run Tryd.prog (W.alloc (.cells #[.int .u8 (kind : Int), .int .u8 0] 5)) = .ok (.string ⟨#[UInt8.ofNat kind, 0]⟩) (W.alloc (.cells #[.int .u8 (kind : Int), .int .u8 0] 5)) := fun W => two_string kind hk _ _ (blk_cell (blk_new W _)) (blk_cell (blk_new W _))
  have c2 : ∀ W : World, (convert 39 9 (.slice (some ⟨W.heap.size, 0, none⟩) 2 2)).run Tryd.prog (W.alloc (.cells #[.int .u8 (kind : Int), .int .u8 0] 5)).drew = .ok (.string ⟨#[UInt8.ofNat kind, 0]⟩) (W.alloc (.cells #[.int .u8 (kind : Int), .int .u8 0] 5)).drew := fun W => two_string kind hk _ _ (blk_cell (blk_new W _)) (blk_cell (blk_new W _))
  have z1 : (⟨#[68, 70]⟩ ++ (⟨#[UInt8.ofNat kind, 0]⟩ : ByteArray) : ByteArray).data.toList = [68, 70] ++ be 1 kind ++ be 1 0 := by
    rw [fr_app]
    have e1 : be 1 kind = [UInt8.ofNat kind] := by simp [be]
    have e2 : be 1 0 = [0] := by decide
    rw [e1, e2]
    rfl
  have a1 : ∀ W : World, (Op.stringOp .add ⟨#[68, 70]⟩ ⟨#[UInt8.ofNat kind, 0]⟩).run Tryd.prog W = .ok (.string (⟨#[68, 70]⟩ ++ ⟨#[UInt8.ofNat kind, 0]⟩)) W := fun W => run_string_add_sum W _ _ (by rw [show (⟨#[68, 70]⟩ : ByteArray).size = 2 from rfl, show (⟨#[UInt8.ofNat kind, 0]⟩ : ByteArray).size = 2 from rfl]; decide)
  have c3 : ∀ w1 : World, Same (w.alloc (.cells #[.int .u8 (kind : Int), .int .u8 0] 5)).drew w1 → (convert 39 9 (.slice (some ⟨w.heap.size, 0, none⟩) 2 2)).run Tryd.prog w1 = .ok (.string ⟨#[UInt8.ofNat kind, 0]⟩) w1 := fun w1 k1 => two_string kind hk _ _ (Kept.cell k1 (fun h => h) (blk_cell (blk_new w _))) (Kept.cell k1 (fun h => h) (blk_cell (blk_new w _)))
  generalize (⟨#[UInt8.ofNat kind, 0]⟩ : ByteArray) = X at c1 c2 c3 z1 a1
  have C3 := hidden c3
  clear c3
  have s1 : ((⟨#[68, 70]⟩ : ByteArray) ++ X).size = 4 := by rw [← size_list, z1]; simp [be_length]
  generalize ((⟨#[68, 70]⟩ : ByteArray) ++ X) = Z1 at z1 a1 s1
  have sN : (⟨(be 4 body.size).toArray⟩ : ByteArray).size = 4 := by rw [fr_size, be_length]
  have lN := ba_list (be 4 body.size)
  generalize (⟨(be 4 body.size).toArray⟩ : ByteArray) = N4 at hnum sN lN
  have a2 : ∀ W : World, (Op.stringOp .add Z1 N4).run Tryd.prog W = .ok (.string (Z1 ++ N4)) W := fun W => run_string_add_sum W _ _ (by omega)
  have z2 : (Z1 ++ N4).data.toList = [68, 70] ++ be 1 kind ++ be 1 0 ++ be 4 body.size := by rw [fr_app, z1, lN]
  have s2 : (Z1 ++ N4).size = 8 := by rw [← size_list, z2]; simp [be_length]
  generalize Z1 ++ N4 = Z2 at a2 z2 s2
  have a3 : ∀ W : World, (Op.stringOp .add Z2 body).run Tryd.prog W = .ok (.string (Z2 ++ body)) W := fun W => run_string_add_sum W _ _ (by omega)
  have z3 : (Z2 ++ body).data.toList = fhead kind body := by rw [fr_app, z2]; rfl
  have s3 : (Z2 ++ body).size = 8 + body.size := by rw [← size_list, z3, fhead_len]
  generalize Z2 ++ body = Z3 at a3 z3 s3
  have hcrc := fun w => refCrc_any Z3 w (by omega)
  rw [z3] at hcrc
  have hc4 := crc_lt (fhead kind body)
  have hn2 := fun w => refNumber (crc (fhead kind body)) 4 w (by omega) (by decide)
  have sM : (⟨(be 4 (crc (fhead kind body))).toArray⟩ : ByteArray).size = 4 := by rw [fr_size, be_length]
  have lM := ba_list (be 4 (crc (fhead kind body)))
  generalize (⟨(be 4 (crc (fhead kind body))).toArray⟩ : ByteArray) = M4 at hn2 sM lM
  have a4 : ∀ W : World, (Op.stringOp .add Z3 M4).run Tryd.prog W = .ok (.string (Z3 ++ M4)) W := fun W => run_string_add_sum W _ _ (by omega)
  have z4 : Z3 ++ M4 = ⟨(frameL kind body).toArray⟩ := by
    apply ba_ext
    rw [fr_app, z3, lM, ba_list]
    rfl
  have HZ := hidden z4
  generalize Z3 ++ M4 = Z4 at a4 HZ
  generalize crc (fhead kind body) = c at *
  have HN := hidden hnum
  have HM := hidden hn2
  have HC := hidden hcrc
  have hcw : IntKind.u64.wrap (c : Int) = (c : Int) := by rw [IntKind.wrap_u64]; omega
  have hbw : IntKind.u64.wrap (body.size : Int) = (body.size : Int) := by rw [IntKind.wrap_u64]; omega
  clear hnum hn2 hcrc z1 z2 z3 z4 s1 s2 s3 sN sM lN lM
  go_enter Tryd.func62, Tryd.ntmps62
  go_wp2
  go_region_with (go_at_call 61; refine (HN.out _).mono ?_; rintro e w1 ⟨rfl, k1⟩; try (have hcv := C3.out _ k1))
  all_goals
    go_wp2_with (first
      | (go_at_call 89; refine (HC.out _).mono ?_; rintro e w2 ⟨rfl, rfl⟩)
      | (go_at_call 61; refine (HM.out _).mono ?_; rintro e w3 ⟨rfl, k3⟩))
    go_returns
    rw [← HZ.out]
    refine ⟨rfl, ?_⟩
    first
      | exact Kept.trans (Kept.trans (((Kept.refl (fun _ => False) w).alloc _).drew) k1) k3
      | exact Kept.trans (Kept.alloc (Kept.trans ((Kept.refl (fun _ => False) w).drew) k1) _) k3
      | exact Kept.trans (Kept.drew (Kept.alloc (Kept.trans (Kept.refl (fun _ => False) w) k1) _)) k3
end Go.Proofs.YtlilgfcacoooaaaDoor
