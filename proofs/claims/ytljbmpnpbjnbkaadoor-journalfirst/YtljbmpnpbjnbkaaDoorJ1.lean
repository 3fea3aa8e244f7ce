/- journal's sectorOf, walked. -/
import Derived.Test.YtljbmpnpbjnbkaaDoorJB
namespace Go.Proofs.YtljbmpnpbjnbkaaDoor
open Go.RowKit
set_option linter.unusedVariables false

set_option maxHeartbeats 4000000 in
set_option maxRecDepth 100000 in
theorem sectorOf_any (n gen place : Nat) (v : Value) (us : List UInt8) (w : World) (hT : Tab w) (hb : Byt w v us) (h1 : 512 ≤ n) (h2 : n ≤ 4096) (hg : gen < 18446744073709551616) (hp : place < 4294967296) (hu : us.length + 24 ≤ n) :
    Calls Tryd.prog 39 #[.int .i64 n, .int .u64 gen, .int .i64 place, v] w fun e w' => ∃ u, e = .returned u ∧ Own w' u (jsec n gen place us) w.heap.size ∧ Same w w' := by
  have l4 := jhead_len gen place us.length
  have f12 : ([68, 74, 82, 78] ++ be 8 gen : List UInt8).length = 12 := by rw [List.length_append, be_length]; rfl
  have f16 : ([68, 74, 82, 78] ++ be 8 gen ++ be 4 place : List UInt8).length = 16 := by rw [List.length_append, f12, be_length]
  have g1 : ∀ B g w, WS B g 24 ([], false) w → Calls Tryd.prog 49 #[.pointer (some ⟨g, 0, none⟩), .string ⟨#[68, 74, 82, 78]⟩] w fun e w' => e = .returned (.tuple #[]) ∧ WS B g 24 ([68, 74, 82, 78], false) w' ∧ Kept (wrS B g) w w' := fun B g w h => fitRaw h ⟨#[68, 74, 82, 78]⟩ (by decide) (by decide)
  have g2 : ∀ B g w, WS B g 24 ([68, 74, 82, 78], false) w → _ := fun B g w h => fitU64 h gen hg (by decide) (by decide)
  have g3 : ∀ B g w, WS B g 24 ([68, 74, 82, 78] ++ be 8 gen, false) w → _ := fun B g w h => fitU32 h place hp (by rw [f12]; decide) (by rw [f12]; decide)
  have g4 : ∀ B g w, WS B g 24 ([68, 74, 82, 78] ++ be 8 gen ++ be 4 place, false) w → Calls Tryd.prog 34 #[.pointer (some ⟨g, 0, none⟩), .int .u32 (us.length : Nat)] w fun e w' => e = .returned (.tuple #[]) ∧ WS B g 24 (jhead gen place us.length, false) w' ∧ Kept (wrS B g) w w' := fun B g w h => fitU32 h us.length (by omega) (by rw [f16]; decide) (by rw [f16]; decide)
  have lb := jbody_len n us hu
  have hadd : ∀ W : World, (Op.stringOp .add ⟨(jhead gen place us.length).toArray⟩ ⟨(jbody n us).toArray⟩).run Tryd.prog W = .ok (.string ⟨(jhead gen place us.length ++ jbody n us).toArray⟩) W := fun W => by
    rw [run_string_add_sum W _ _ (by rw [ba_size, ba_size, l4, lb]; omega)]
    first | rfl | (congr 2; apply ByteArray.ext; simp)
  have g6 := fun w h => crc_any ⟨(jhead gen place us.length ++ jbody n us).toArray⟩ w (by rw [ba_size, List.length_append, l4, lb]; omega) h
  rw [ba_list] at g6
  have hc4 := crc_lt (jhead gen place us.length ++ jbody n us)
  have g7 : ∀ B g w, WS B g 24 (jhead gen place us.length, false) w → Calls Tryd.prog 34 #[.pointer (some ⟨g, 0, none⟩), .int .u32 (crc (jhead gen place us.length ++ jbody n us) : Nat)] w fun e w' => e = .returned (.tuple #[]) ∧ WS B g 24 (jhead2 n gen place us, false) w' ∧ Kept (wrS B g) w w' := fun B g w h => fitU32 h _ hc4 (by rw [l4]; decide) (by rw [l4]; decide)
  have hmk := make_bytes n (by omega)
  have hcp := fun (W : World) (hb : Byt W v us) (hg : W.heap[w.heap.size]? = some (.cells (List.replicate n (U8 0)).toArray 5 (0, 0))) => copy_used n v us W hb hu w.heap.size hg
  have hcv := fun (W : World) (hg : W.heap[w.heap.size]? = some (.cells ((List.replicate 24 0 ++ jbody n us).map U8).toArray 5 (0, 0))) => (byt_tail n w.heap.size us W hu hg).text
  have hch := fun (W : World) (hg : W.heap[w.heap.size]? = some (.cells ((List.replicate 24 0 ++ jbody n us).map U8).toArray 5 (0, 0))) => copy_head n w.heap.size (jhead2 n gen place us) (jbody n us) W (jhead2_len n gen place us) lb (by omega) hg
  have hfin : jsec n gen place us = jhead2 n gen place us ++ jbody n us := rfl
  have hlen := jsec_len n gen place us hu
  obtain ⟨va, vc, rfl⟩ := hb.form
  have hul : us.length ≤ 4096 := by omega
  clear l4 f12 f16 lb hc4
  have hfin2 : (((jhead2 n gen place us ++ jbody n us).map U8).toArray : Array Value) = ((jsec n gen place us).map U8).toArray := rfl
  rw [hfin2] at hch
  clear hfin hfin2
  generalize jsec n gen place us = JS at *
  generalize (((List.replicate 24 0 ++ jbody n us).map U8).toArray : Array Value) = R1 at *
  generalize jhead2 n gen place us = J2 at *
  generalize crc (jhead gen place us.length ++ jbody n us) = c at *
  generalize jhead gen place us.length ++ jbody n us = HB at *
  generalize jbody n us = JB at *
  generalize jhead gen place us.length = JH at *
  generalize ([68, 74, 82, 78] ++ be 8 gen ++ be 4 place : List UInt8) = L16 at *
  generalize ([68, 74, 82, 78] ++ be 8 gen : List UInt8) = L12 at *
  generalize (List.replicate n (U8 0)).toArray = Z at hmk hcp
  have HT := hidden hT
  have HB0 := hidden hb
  have G1 := hidden g1
  have G2 := hidden g2
  have G3 := hidden g3
  have G4 := hidden g4
  have G6 := hidden g6
  have G7 := hidden g7
  have HCV := hidden hcv
  have HCH := hidden hch
  have HL := hidden hlen
  have hcp1 := hcp (w.alloc (.cells Z 5)) (hb.same (same_alloc _ _)) (heap_alloc_new w _)
  have B1 : ((w.alloc (.cells Z 5)).setRow w.heap.size R1).heap[w.heap.size]? = some (.cells R1 5 (0, 0)) := setRow_heap _ _ _ _ _ _ (heap_alloc_new w _)
  have K1 : Same w ((w.alloc (.cells Z 5)).setRow w.heap.size R1) := same_setRow (same_alloc _ _) (Nat.le_refl _) _
  generalize hW : (w.alloc (.cells Z 5)).setRow w.heap.size R1 = W1 at hcp1 B1 K1
  have HK := hidden K1
  have HB1 := hidden B1
  clear g1 g2 g3 g4 g6 g7 hT hb hcv hch hlen hcp hW K1 B1
  have hpw : IntKind.u32.wrap (place : Int) = (place : Int) := by rw [IntKind.wrap_u32']; omega
  have hlw : IntKind.u32.wrap (us.length : Int) = (us.length : Int) := by rw [IntKind.wrap_u32']; omega
  go_enter Tryd.func39, Tryd.ntmps39
  go_wp2_with (first
    | (go_at_call 33; refine (newW 24 _ (by omega) (by omega)).mono ?_; rintro e w1 ⟨rfl, s1, k1, z1⟩; clear z1)
    | (go_at_call 49; refine (G1.out _ _ _ s1).mono ?_; rintro e w2 ⟨rfl, s2, k2⟩; clear s1)
    | (go_at_call 50; refine (G2.out _ _ _ s2).mono ?_; rintro e w3 ⟨rfl, s3, k3⟩; clear s2)
    | (go_at_call 34; refine (G3.out _ _ _ s3).mono ?_; rintro e w4 ⟨rfl, s4, k4⟩; clear s3)
    | (go_at_call 34; refine (G4.out _ _ _ s4).mono ?_; rintro e w5 ⟨rfl, s5, k5⟩; have tok : True := trivial; clear s4; have K5 := Same.wr (Same.wr (Same.wr (Same.wr k1 k2 (Nat.le_refl _) (Nat.le_refl _)) k3 (Nat.le_refl _) (Nat.le_refl _)) k4 (Nat.le_refl _) (Nat.le_refl _)) k5 (Nat.le_refl _) (Nat.le_refl _); clear k1 k2 k3 k4 k5; have b5 := blk_kept K5 (fun h => h) HB1.out; have hcv5 := HCV.out _ b5)
    | (go_at_call 35; have _t := tok; refine (fitDone s5).mono ?_; rintro e w6 ⟨rfl, rfl⟩; clear tok)
    | (go_at_call 51; refine (G6.out _ (HT.out.same (Kept.trans HK.out K5))).mono ?_; rintro e w7 ⟨rfl, rfl⟩)
    | (go_at_call 34; refine (G7.out _ _ _ s5).mono ?_; rintro e w7 ⟨rfl, s7, k7⟩; clear s5; have K7 := Same.wr K5 k7 (Nat.le_refl _) (Nat.le_refl _); have b7 := blk_kept K7 (fun h => h) HB1.out; have hch7 := HCH.out _ b7)
    | (go_at_call 35; refine (fitDone s7).mono ?_; rintro e w8 ⟨rfl, rfl⟩))
  go_returns
  exact ⟨_, rfl, ⟨w.heap.size, Nat.le_refl _, by rw [HL.out]; rfl, setRow_heap _ _ _ _ _ _ b7⟩, same_setRow (Kept.trans HK.out K7) (Nat.le_refl _) _⟩
end Go.Proofs.YtljbmpnpbjnbkaaDoor
