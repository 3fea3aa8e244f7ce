/- tree, of one leaf: look, Get, fits, fitting, settled. -/
import Derived.Test.YtmlibjohhgpniaaGreatDoorTr1
import Derived.Test.YtmlibjohhgpniaaGreatDoorQuietS
import Derived.BigFrame
namespace Go.Proofs.YtmlibjohhgpniaaGreatDoor
open Go.RowKit
set_option linter.unusedVariables false
set_option maxHeartbeats 1000000 in
set_option maxRecDepth 100000 in
theorem tlook (n : Nd) (a1 a2 a3 : Option Addr) (k1 c1 k2 c2 k3 c3 : Nat) (w : World) (g p : Nat) (h : LT w g p n a1 a2 a3 k1 c1 k2 c2 k3 c3) (hl : n.leaf = true) (hb1 : n.keys.length ≤ 17592186044416) : Calls Tryz.prog 51 #[.pointer (some ⟨g, 0, none⟩), .agg #[.pointer (some ⟨p, 0, none⟩), .string ⟨#[]⟩, .string ⟨#[]⟩, .int .i64 1]] w fun e w' => e = .returned (.int .i64 0) ∧ Same w w' := by
  have HB := hidden (fun W (k : Same w W) => tbounds n a1 a2 a3 k1 c1 k2 c2 k3 c3 p W (h.pg.r1.same k) (h.pg.r2.same k) (h.pg.r3.same k) hl hb1)
  have kA := (Kept.refl (fun _ => False) w).alloc (.cells #[.pointer (some ⟨p, 0, none⟩), .string ⟨#[]⟩, .string ⟨#[]⟩, .int .i64 1] 96)
  have gP := blk_kept kA (fun h => h) h.pg.box
  have gS := blk_new w (.cells #[.pointer (some ⟨p, 0, none⟩), .string ⟨#[]⟩, .string ⟨#[]⟩, .int .i64 1] 96)
  have KA := hidden kA
  rw [hl] at gP HB
  have x1 : (w.alloc (.cells #[.pointer (some ⟨p, 0, none⟩), .string ⟨#[]⟩, .string ⟨#[]⟩, .int .i64 1] 96)).cell? ⟨p, 1, none⟩ = some (.bool true) := blk_cell gP
  clear h kA
  have GP := hidden gP
  have GS := hidden gS
  clear gP gS
  go_enter Tryz.func51, Tryz.ntmps51
  go_wp2
  generalize (w.alloc (.cells #[.pointer (some ⟨p, 0, none⟩), .string ⟨#[]⟩, .string ⟨#[]⟩, .int .i64 1] 96)) = W at KA GP GS x1 ⊢
  have l0 : ∀ V : Later W, V.world.cell? ⟨w.heap.size, 0, none⟩ = some (.pointer (some ⟨p, 0, none⟩)) := fun V => blk_cell (blk_kept V.kept (fun h => h) GS.out)
  have l1 : ∀ V : Later W, V.world.cell? ⟨w.heap.size, 1, none⟩ = some (.string ⟨#[]⟩) := fun V => blk_cell (blk_kept V.kept (fun h => h) GS.out)
  have l2 : ∀ V : Later W, V.world.cell? ⟨w.heap.size, 2, none⟩ = some (.string ⟨#[]⟩) := fun V => blk_cell (blk_kept V.kept (fun h => h) GS.out)
  have l3 : ∀ V : Later W, V.world.cell? ⟨w.heap.size, 3, none⟩ = some (.int .i64 1) := fun V => blk_cell (blk_kept V.kept (fun h => h) GS.out)
  have m0 : ∀ V : Later W, V.world.cell? ⟨p, 2, none⟩ = some (.bool true) := fun V => blk_cell (blk_kept V.kept (fun h => h) GP.out)
  have m1 : ∀ V : Later W, V.world.cell? ⟨p, 3, none⟩ = some (.slice a1 k1 c1) := fun V => blk_cell (blk_kept V.kept (fun h => h) GP.out)
  have m2 : ∀ V : Later W, V.world.cell? ⟨p, 4, none⟩ = some (.slice a2 k2 c2) := fun V => blk_cell (blk_kept V.kept (fun h => h) GP.out)
  have m3 : ∀ V : Later W, V.world.cell? ⟨p, 5, none⟩ = some (.slice a3 k3 c3) := fun V => blk_cell (blk_kept V.kept (fun h => h) GP.out)
  refine region_later (by kernel_rfl) (by kernel_rfl) ?_
  repeat (go_big_quiet_step ((first | (go_at_call 111; exact later_calls _ (HB.out _ (KA.out.trans (Later.kept _)))))))
  refine wpQuiet_nil ?_
  rintro V ⟨L, hE⟩
  have hV : Same W V := by rw [hE]; exact L.kept
  clear hE L l0 l1 l2 l3 m0 m1 m2 m3 x1
  have KV := hidden (KA.out.trans hV)
  clear hV
  go_wp2
  go_returns
  exact ⟨rfl, KV.out⟩
set_option maxHeartbeats 1000000 in
set_option maxRecDepth 100000 in
theorem tfits (n : Nd) (a1 a2 a3 : Option Addr) (k1 c1 k2 c2 k3 c3 : Nat) (w : World) (g q : Nat) (r : Value) (ht : w.heap[g]? = some (.cells #[.int .i64 512, .nilIface, r] 120 (0, 0))) (h : LP w q n a1 a2 a3 k1 c1 k2 c2 k3 c3) (hl : n.leaf = true) (hb : n.Bd) (hs : 16 + (n.keys.map fun k => 2 + k.size).sum + (n.vals.map fun v => v.size).sum ≤ 512) :
    Calls Tryz.prog 194 #[.pointer (some ⟨g, 0, none⟩), .pointer (some ⟨q, 0, none⟩)] w fun e w' => e = .returned (.bool true) ∧ Same w w' := by
  have HS := hidden (fun W (k : Same w W) => size_leaf n a1 a2 a3 k1 c1 k2 c2 k3 c3 W (h.r1.same k) (h.r2.same k) (h.r3.same k) hl hb (by omega))
  have GP := hidden h.box
  have GT := hidden ht
  rw [hl] at GP HS
  generalize 16 + (n.keys.map fun k => 2 + k.size).sum + (n.vals.map fun v => v.size).sum = S at HS hs
  have hd : (S : Int) ≤ 512 := by omega
  clear h ht
  have m0 : ∀ V : Later w, V.world.cell? ⟨q, 2, none⟩ = some (.bool true) := fun V => blk_cell (blk_kept V.kept (fun h => h) GP.out)
  have m1 : ∀ V : Later w, V.world.cell? ⟨q, 3, none⟩ = some (.slice a1 k1 c1) := fun V => blk_cell (blk_kept V.kept (fun h => h) GP.out)
  have m2 : ∀ V : Later w, V.world.cell? ⟨q, 4, none⟩ = some (.slice a2 k2 c2) := fun V => blk_cell (blk_kept V.kept (fun h => h) GP.out)
  have m3 : ∀ V : Later w, V.world.cell? ⟨q, 5, none⟩ = some (.slice a3 k3 c3) := fun V => blk_cell (blk_kept V.kept (fun h => h) GP.out)
  have m4 : ∀ V : Later w, V.world.cell? ⟨g, 0, none⟩ = some (.int .i64 512) := fun V => blk_cell (blk_kept V.kept (fun h => h) GT.out)
  go_enter Tryz.func194, Tryz.ntmps194
  go_wp2
  refine region_later (by kernel_rfl) (by kernel_rfl) ?_
  repeat (go_big_quiet_step ((first | (go_at_call 127; exact later_calls _ (HS.out _ (Later.kept _))))))
  refine wpQuiet_nil ?_
  rintro V ⟨L, hE⟩
  have hV : Hid (Same w V) := by rw [Hid, hE]; exact L.kept
  clear hE L m0 m1 m2 m3 m4
  go_wp2
  go_returns
  exact ⟨rfl, hV.out⟩
theorem fill2 {W : World} {g : Nat} {t : TypeId} {z0 z1 : Value} (h : W.heap[g]? = some (.cells #[z0, z1] t (0, 0))) (v0 v1 : Value) : ((W.setCell ⟨g, 0, none⟩ v0).setCell ⟨g, 1, none⟩ v1).heap[g]? = some (.cells #[v0, v1] t (0, 0)) := by
  have h1 : (W.setCell ⟨g, 0, none⟩ v0).heap[g]? = some (.cells #[v0, z1] t (0, 0)) := blk_set h v0
  exact blk_set h1 v1
structure FtP (w : World) (q : Nat) (u : Value) (W : World) : Prop where
  out : ∃ b, u = .agg #[.slice none 0 0, .slice (some ⟨b, 0, none⟩) 1 1] ∧ Same w W
set_option maxHeartbeats 1000000 in
set_option maxRecDepth 100000 in
theorem tfitting (n : Nd) (a1 a2 a3 : Option Addr) (k1 c1 k2 c2 k3 c3 : Nat) (w : World) (g q : Nat) (r : Value) (ht : w.heap[g]? = some (.cells #[.int .i64 512, .nilIface, r] 120 (0, 0))) (h : LP w q n a1 a2 a3 k1 c1 k2 c2 k3 c3) (hl : n.leaf = true) (hb : n.Bd) (hs : 16 + (n.keys.map fun k => 2 + k.size).sum + (n.vals.map fun v => v.size).sum ≤ 512) :
    Calls Tryz.prog 160 #[.pointer (some ⟨g, 0, none⟩), .pointer (some ⟨q, 0, none⟩)] w fun e w' => ∃ u, e = .returned u ∧ FtP w q u w' := by
  have HF := hidden (fun W (k : Same w W) => tfits n a1 a2 a3 k1 c1 k2 c2 k3 c3 W g q r (blk_kept k (fun h => h) ht) (h.same k) hl hb hs)
  have kA := (Kept.refl (fun _ => False) w).alloc (.cells #[.slice none 0 0, .slice none 0 0] 245)
  have KA := hidden kA
  have GA := hidden (blk_new w (.cells #[.slice none 0 0, .slice none 0 0] 245))
  clear kA h ht
  go_enter Tryz.func160, Tryz.ntmps160
  go_wp2_with (go_at_call 194; refine (HF.out _ KA.out).mono ?_; rintro e w1 ⟨rfl, q1⟩; have GB := hidden (blk_kept q1 (fun h => h) GA.out); have KB := hidden (KA.out.trans q1); have y0 : (w1.alloc (.cells #[.pointer (some ⟨q, 0, none⟩)] 94)).cell? ⟨w.heap.size, 0, none⟩ = some (.slice none 0 0) := blk_cell (blk_alloc GB.out _); have y1 : (w1.alloc (.cells #[.pointer (some ⟨q, 0, none⟩)] 94)).cell? ⟨w.heap.size, 1, none⟩ = some (.slice none 0 0) := blk_cell (blk_alloc GB.out _); have f0 : (w1.alloc (.cells #[.pointer (some ⟨q, 0, none⟩)] 94)).frozen? ⟨w.heap.size, 0, none⟩ = false := blk_free (blk_alloc GB.out _); have f1 : (w1.alloc (.cells #[.pointer (some ⟨q, 0, none⟩)] 94)).frozen? ⟨w.heap.size, 1, none⟩ = false := blk_free (blk_alloc GB.out _); clear q1)
  have gf := fill2 (blk_alloc GB.out (.cells #[.pointer (some ⟨q, 0, none⟩)] 94)) (.slice none 0 0) (.slice (some ⟨w1.heap.size, 0, none⟩) 1 1)
  have sf : Same w (((w1.alloc (.cells #[.pointer (some ⟨q, 0, none⟩)] 94)).setCell ⟨w.heap.size, 0, none⟩ (.slice none 0 0)).setCell ⟨w.heap.size, 1, none⟩ (.slice (some ⟨w1.heap.size, 0, none⟩) 1 1)) := ((KB.out.alloc _).setNew (p := ⟨w.heap.size, 0, none⟩) (Nat.le_refl _) _).setNew (p := ⟨w.heap.size, 1, none⟩) (Nat.le_refl _) _
  generalize (((w1.alloc (.cells #[.pointer (some ⟨q, 0, none⟩)] 94)).setCell ⟨w.heap.size, 0, none⟩ (.slice none 0 0)).setCell ⟨w.heap.size, 1, none⟩ (.slice (some ⟨w1.heap.size, 0, none⟩) 1 1)) = WF at gf sf ⊢
  have q0 : WF.cell? ⟨w.heap.size, 0, none⟩ = some (.slice none 0 0) := blk_cell gf
  have q1 : WF.cell? ⟨w.heap.size, 1, none⟩ = some (.slice (some ⟨w1.heap.size, 0, none⟩) 1 1) := blk_cell gf
  refine bodyPost_ret (v := .agg #[.slice none 0 0, .slice (some ⟨w1.heap.size, 0, none⟩) 1 1]) (by simp [results, Tryz.results160, go_sem, q0, q1]) rfl ⟨_, rfl, ⟨⟨_, rfl, sf⟩⟩⟩
set_option maxHeartbeats 1000000 in
set_option maxRecDepth 100000 in
theorem tsettled (n : Nd) (a1 a2 a3 : Option Addr) (k1 c1 k2 c2 k3 c3 : Nat) (w : World) (g q : Nat) (r : Value) (ht : w.heap[g]? = some (.cells #[.int .i64 512, .nilIface, r] 120 (0, 0))) (h : LP w q n a1 a2 a3 k1 c1 k2 c2 k3 c3) (hl : n.leaf = true) (hb : n.Bd) (hs : 16 + (n.keys.map fun k => 2 + k.size).sum + (n.vals.map fun v => v.size).sum ≤ 512) :
    Calls Tryz.prog 118 #[.pointer (some ⟨g, 0, none⟩), .pointer (some ⟨q, 0, none⟩)] w fun e w' => e = .returned (.pointer (some ⟨q, 0, none⟩)) ∧ Same w w' := by
  have HF := hidden (tfitting n a1 a2 a3 k1 c1 k2 c2 k3 c3 w g q r ht h hl hb hs)
  have GP := hidden h.box
  clear h ht
  go_enter Tryz.func118, Tryz.ntmps118
  go_wp2_with (go_at_call 160; refine HF.out.mono ?_; rintro e w1 ⟨u, rfl, ⟨b, rfl, q1⟩⟩; have KB := hidden q1; have x6 : (w1.alloc (.cells #[.slice none 0 0, .slice (some ⟨b, 0, none⟩) 1 1] 245)).cell? ⟨q, 6, none⟩ = some (.slice none 0 0) := blk_cell (blk_alloc (blk_kept q1 (fun h => h) GP.out) _); clear q1)
  go_returns
  exact ⟨rfl, KB.out.alloc _⟩
set_option maxHeartbeats 1000000 in
set_option maxRecDepth 100000 in
theorem tget_has (n : Nd) (a1 a2 a3 : Option Addr) (k1 c1 k2 c2 k3 c3 : Nat) (w : World) (g p : Nat) (h : LT w g p n a1 a2 a3 k1 c1 k2 c2 k3 c3) (hl : n.leaf = true) (hb : n.Bd) (key : ByteArray) (hh : n.has key = true) (hv : n.vals.length = n.keys.length) (x : ByteArray) (hx : n.vals[n.cnt key]? = some x) :
    Calls Tryz.prog 8 #[.pointer (some ⟨g, 0, none⟩), .string key] w fun e w' => e = .returned (.tuple #[.string x, .bool true, .int .i64 0]) ∧ Same w w' := by
  have HM := hidden (tmade n a1 a2 a3 k1 c1 k2 c2 k3 c3 w g p h)
  have HTp := hidden (fun W (k : Same w W) => ttop n a1 a2 a3 k1 c1 k2 c2 k3 c3 W g p (h.same k))
  have HLk := hidden (fun W (k : Same w W) => tlook n a1 a2 a3 k1 c1 k2 c2 k3 c3 W g p (h.same k) hl hb.k)
  have HFi := hidden (fun W (k : Same w W) => find_any n a1 a2 a3 k1 c1 k2 c2 k3 c3 key W (h.pg.r1.same k) (h.pg.r2.same k) (h.pg.r3.same k) hb)
  have HL := hidden h
  have hlt : n.cnt key < n.vals.length := (List.getElem?_eq_some_iff.1 hx).1
  have hx' : n.vals[n.cnt key] = x := (List.getElem?_eq_some_iff.1 hx).2
  obtain ⟨vb, vo, ha, hc⟩ := h.pg.r2.text hlt
  rw [hx'] at hc
  have e2 := h.pg.r2.tl
  rw [hh] at HFi
  obtain ⟨c, hce⟩ : ∃ c, c = n.cnt key := ⟨_, rfl⟩
  rw [← hce] at HFi hc hlt
  have t0 : (0 : Int) ≤ (c : Int) := Int.natCast_nonneg _
  have t1 : (c : Int) < (k2 : Int) := by omega
  subst ha
  have HC := hidden hc
  rw [hl] at HFi
  clear hx hx' hce h hlt hh hv e2 hc
  go_enter Tryz.func8, Tryz.ntmps8
  go_wp2_with (first
    | (go_at_call 49; refine HM.out.mono ?_; rintro e w1 ⟨rfl, q1⟩; have K1 := hidden q1; clear q1)
    | (go_at_call 50; refine (HTp.out _ K1.out).mono ?_; rintro e w2 ⟨rfl, q2⟩; have K2 := hidden (K1.out.trans q2); clear q2))
  have gS := blk_new w2 (.cells #[.pointer (some ⟨p, 0, none⟩), .string ⟨#[]⟩, .string ⟨#[]⟩, .int .i64 1] 96)
  have GS := hidden gS
  have K3 := hidden (K2.out.alloc (.cells #[.pointer (some ⟨p, 0, none⟩), .string ⟨#[]⟩, .string ⟨#[]⟩, .int .i64 1] 96))
  have z0 := blk_cell (j := 0) gS
  have z1 := blk_cell (j := 1) gS
  have z2 := blk_cell (j := 2) gS
  have z3 := blk_cell (j := 3) gS
  generalize w2.alloc (.cells #[.pointer (some ⟨p, 0, none⟩), .string ⟨#[]⟩, .string ⟨#[]⟩, .int .i64 1] 96) = W3 at GS K3 z0 z1 z2 z3 ⊢
  clear gS
  refine wp_loop_once ?_
  go_wp2_with (first
    | (go_at_call 51; refine (HLk.out _ K3.out).mono ?_; rintro e w4 ⟨rfl, q4⟩
       have K4 := hidden (K3.out.trans q4)
       have gP := (HL.out.same K4.out).pg.box
       rw [hl] at gP
       have y0 : w4.cell? ⟨w2.heap.size, 0, none⟩ = some (.pointer (some ⟨p, 0, none⟩)) := blk_cell (blk_kept q4 (fun h => h) GS.out)
       have m0 := blk_cell (j := 2) gP
       have m1 := blk_cell (j := 3) gP
       have m2 := blk_cell (j := 4) gP
       have m3 := blk_cell (j := 5) gP
       clear q4 gP)
    | (go_at_call 52; refine (HFi.out _ (K4.out.alloc _)).mono ?_; rintro e w5 ⟨rfl, q5⟩
       have K5 := hidden ((K4.out.alloc _).trans q5)
       have gN := blk_kept q5 (fun h => h) (blk_new w4 (.cells #[.bool true, .slice a1 k1 c1, .slice (some ⟨vb, vo, none⟩) k2 c2, .slice a3 k3 c3] 100))
       have n0 := blk_cell (j := 0) gN
       have n2 := blk_cell (j := 2) gN
       have n3 : w5.cell? ⟨vb, vo + c, none⟩ = some (.string x) := K5.out.cell (fun h => h) HC.out
       clear q5 gN))
  go_returns
  exact ⟨rfl, K5.out⟩
set_option maxHeartbeats 1000000 in
set_option maxRecDepth 100000 in
theorem tget_no (n : Nd) (a1 a2 a3 : Option Addr) (k1 c1 k2 c2 k3 c3 : Nat) (w : World) (g p : Nat) (h : LT w g p n a1 a2 a3 k1 c1 k2 c2 k3 c3) (hl : n.leaf = true) (hb : n.Bd) (key : ByteArray) (hh : n.has key = false) :
    Calls Tryz.prog 8 #[.pointer (some ⟨g, 0, none⟩), .string key] w fun e w' => e = .returned (.tuple #[.string ⟨#[]⟩, .bool false, .int .i64 0]) ∧ Same w w' := by
  have HM := hidden (tmade n a1 a2 a3 k1 c1 k2 c2 k3 c3 w g p h)
  have HTp := hidden (fun W (k : Same w W) => ttop n a1 a2 a3 k1 c1 k2 c2 k3 c3 W g p (h.same k))
  have HLk := hidden (fun W (k : Same w W) => tlook n a1 a2 a3 k1 c1 k2 c2 k3 c3 W g p (h.same k) hl hb.k)
  have HFi := hidden (fun W (k : Same w W) => find_any n a1 a2 a3 k1 c1 k2 c2 k3 c3 key W (h.pg.r1.same k) (h.pg.r2.same k) (h.pg.r3.same k) hb)
  have HL := hidden h
  rw [hh, hl] at HFi
  generalize n.cnt key = c at HFi
  clear h hh
  go_enter Tryz.func8, Tryz.ntmps8
  go_wp2_with (first
    | (go_at_call 49; refine HM.out.mono ?_; rintro e w1 ⟨rfl, q1⟩; have K1 := hidden q1; clear q1)
    | (go_at_call 50; refine (HTp.out _ K1.out).mono ?_; rintro e w2 ⟨rfl, q2⟩; have K2 := hidden (K1.out.trans q2); clear q2))
  have gS := blk_new w2 (.cells #[.pointer (some ⟨p, 0, none⟩), .string ⟨#[]⟩, .string ⟨#[]⟩, .int .i64 1] 96)
  have GS := hidden gS
  have K3 := hidden (K2.out.alloc (.cells #[.pointer (some ⟨p, 0, none⟩), .string ⟨#[]⟩, .string ⟨#[]⟩, .int .i64 1] 96))
  have z0 := blk_cell (j := 0) gS
  have z1 := blk_cell (j := 1) gS
  have z2 := blk_cell (j := 2) gS
  have z3 := blk_cell (j := 3) gS
  generalize w2.alloc (.cells #[.pointer (some ⟨p, 0, none⟩), .string ⟨#[]⟩, .string ⟨#[]⟩, .int .i64 1] 96) = W3 at GS K3 z0 z1 z2 z3 ⊢
  clear gS
  refine wp_loop_once ?_
  go_wp2_with (first
    | (go_at_call 51; refine (HLk.out _ K3.out).mono ?_; rintro e w4 ⟨rfl, q4⟩
       have K4 := hidden (K3.out.trans q4)
       have gP := (HL.out.same K4.out).pg.box
       rw [hl] at gP
       have y0 : w4.cell? ⟨w2.heap.size, 0, none⟩ = some (.pointer (some ⟨p, 0, none⟩)) := blk_cell (blk_kept q4 (fun h => h) GS.out)
       have m0 := blk_cell (j := 2) gP
       have m1 := blk_cell (j := 3) gP
       have m2 := blk_cell (j := 4) gP
       have m3 := blk_cell (j := 5) gP
       clear q4 gP)
    | (go_at_call 52; refine (HFi.out _ (K4.out.alloc _)).mono ?_; rintro e w5 ⟨rfl, q5⟩
       have K5 := hidden ((K4.out.alloc _).trans q5)
       have gN := blk_kept q5 (fun h => h) (blk_new w4 (.cells #[.bool true, .slice a1 k1 c1, .slice a2 k2 c2, .slice a3 k3 c3] 100))
       have n0 := blk_cell (j := 0) gN
       have n2 := blk_cell (j := 2) gN
       clear q5 gN))
  go_returns
  exact ⟨rfl, K5.out⟩
end Go.Proofs.YtmlibjohhgpniaaGreatDoor
