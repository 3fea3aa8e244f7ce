/- SpaceAdds walked. (Made by mkspy.py.) -/
import Derived.Test.YtbmbdidmbdanmaaDoorSpY1
namespace Go.Proofs.YtbmbdidmbdanmaaDoor
open Go.RowKit Go.Shelf
set_option linter.unusedVariables false
set_option linter.unusedSimpArgs false
attribute [local go_sem] Oper.semAt_some
def mkD (D : Nat) : Deferred := { target := .collected D, args := #[] }
theorem leaves_all {F : Fence} {m : Nat} {P : Program} {fn : Func} {tmps : Array Value} {R : Ending → World → Prop} : ∀ (Ds : List Nat) (W : World), (∀ D ∈ Ds, W.heap[D]? = some (.deferred (some []))) → Ds.Nodup → (∀ W', Kept (fun k => k ∈ Ds) W W' → LeavesIn F m P fn tmps R [] .returning W') → LeavesInM F m P fn tmps R (Ds.map mkD) .returning W
  | [], W, _, _, h => h W (Kept.refl _ _)
  | D :: Ds, W, hd, nd, h => by
    obtain ⟨n1, n2⟩ := List.nodup_cons.1 nd
    refine ⟨by simp, .inl ⟨D, _, rfl, run_takeDeferred (hd D (by simp)), leaves_all Ds _ (fun E hE => ?_) n2 (fun W' k => h W' ?_)⟩⟩
    · exact blk_kept (kept_putObj (S := fun k => k = D) W D _ rfl) (fun e => n1 (e ▸ hE)) (hd E (by simp [hE]))
    · exact (kept_putObj (S := fun k => k ∈ D :: Ds) W D _ (by simp)).trans (k.mono (fun i _ hi => by simp [hi]))
def adF (w : World) (g q first count : Nat) (a : Option Addr) (n c : Nat) (i rsv : Int) (j : Nat → Value) (df : List Deferred) : Act := { tmps := #[.agg #[.int .i64 first, .int .i64 count, .slice a n c], .pointer (some ⟨w.heap.size, 0, none⟩), .pointer (some ⟨w.heap.size + 1, 0, none⟩), .pointer (some ⟨g, 0, none⟩), .pointer (some ⟨q, 0, none⟩), .bool true, .int .i64 rsv, undef, j 8, j 9, j 10, .tuple #[.pointer (some ⟨g, 0, none⟩), .pointer (some ⟨q, 0, none⟩), .bool true], .agg #[.int .i64 first, .int .i64 count, .slice a n c], .tuple #[.pointer (some ⟨g, 0, none⟩), .pointer (some ⟨q, 0, none⟩), .bool true], .pointer (some ⟨g, 0, none⟩), .pointer (some ⟨q, 0, none⟩), .bool true, .bool true, .bool false, .bool false, .pointer (some ⟨q, 0, none⟩), .bool false, .bool false, undef, .pointer (some ⟨w.heap.size, 2, none⟩), .slice a n c, .int .i64 (n : Int), .int .i64 i, j 28, j 29, j 30, j 31, j 32, j 33, j 34, j 35, j 36, j 37, j 38, j 39, j 40, j 41, j 42, j 43, j 44, j 45, j 46, j 47, j 48, j 49, j 50, j 51, j 52, j 53, j 54, j 55, j 56, j 57, j 58, j 59, j 60, j 61, j 62, j 63, j 64, j 65, j 66, j 67, j 68, j 69, j 70, j 71, j 72, j 73, j 74, j 75, j 76, j 77, j 78, j 79, j 80, j 81, j 82, j 83, j 84, j 85, j 86, j 87, j 88, j 89, j 90, j 91, j 92, j 93, j 94, j 95, j 96, j 97, j 98, j 99, j 100, j 101, j 102, j 103, j 104, j 105, j 106, j 107, j 108, j 109, j 110, j 111, j 112, j 113, j 114, j 115, j 116, j 117, j 118, j 119, j 120], defers := df }
/-- What stands ahead of a round. -/
structure AD (w : World) (g first count : Nat) (a : Option Addr) (n c : Nat) (u v : Nat → Bool) (res : Nat) (Ds : List Nat) (W : World) : Prop where
  sp : SpAt g first count u v res W
  tab : Tab W
  ai : AI first count u v res
  box : W.heap[w.heap.size]? = some (.cells #[.int .i64 first, .int .i64 count, .slice a n c] 24 (0, 0))
  rb : W.heap[w.heap.size + 1]? = some (.cells #[.bool false] 4 (0, 0))
  same : Same w W
  ds : ∀ D ∈ Ds, W.heap[D]? = some (.deferred (some []))
  nd : Ds.Nodup
  lo : ∀ D ∈ Ds, w.heap.size ≤ D
theorem AD.far {w : World} {g first count : Nat} {a : Option Addr} {n c : Nat} {u v : Nat → Bool} {res : Nat} {Ds : List Nat} {W X : World} (h : AD w g first count a n c u v res Ds W) (k : Kept (fun j => W.heap.size ≤ j) W X) : AD w g first count a n c u v res Ds X := by
  have lg : g < W.heap.size := by obtain ⟨cs, hb, _⟩ := h.sp.box; exact blk_lt hb
  have z := h.same.size
  exact ⟨h.sp.kept k (by omega), h.tab.kept k (by have := h.tab.lt; omega), h.ai, blk_kept k (by have := blk_lt h.box; omega) h.box, blk_kept k (by have := blk_lt h.rb; omega) h.rb, Kept.trans' h.same k (fun i hi e => by omega), fun D hD => blk_kept k (by have := blk_lt (h.ds D hD); omega) (h.ds D hD), h.nd, h.lo⟩
theorem AD.keep {w : World} {g first count : Nat} {a : Option Addr} {n c : Nat} {u v : Nat → Bool} {res : Nat} {Ds : List Nat} {W X : World} (h : AD w g first count a n c u v res Ds W) (k : Same W X) : AD w g first count a n c u v res Ds X := h.far (k.mono (fun _ _ h => h.elim))
theorem AD.next {w : World} {g first count : Nat} {a : Option Addr} {n c : Nat} {u v u' v' : Nat → Bool} {res res' : Nat} {Ds : List Nat} {W X : World} (h : AD w g first count a n c u v res Ds W) (lT : 0 < w.heap.size) (lg : w.heap.size + 2 ≤ g) (s : SpAt g first count u' v' res' X) (k : Kept (fun b => b = g) W X) (hai : AI first count u' v' res') : AD w g first count a n c u' v' res' Ds X := by
  refine ⟨s, h.tab.kept k (by omega), hai, blk_kept k (by omega) h.box, blk_kept k (by omega) h.rb, Kept.trans' h.same k (fun i hi e => by omega), fun D hD => blk_kept k (fun e => ?_) (h.ds D hD), h.nd, h.lo⟩
  obtain ⟨cs, hb, _⟩ := h.sp.box
  have h1 := h.ds D hD
  rw [e, hb] at h1
  cases h1
theorem AD.more {w : World} {g first count : Nat} {a : Option Addr} {n c : Nat} {u v : Nat → Bool} {res : Nat} {Ds : List Nat} {W : World} (h : AD w g first count a n c u v res Ds W) {D : Nat} (hD : W.heap[D]? = some (.deferred (some []))) (hn : D ∉ Ds) (hlo : w.heap.size ≤ D) : AD w g first count a n c u v res (D :: Ds) W :=
  ⟨h.sp, h.tab, h.ai, h.box, h.rb, h.same, fun E hE => by rcases List.mem_cons.1 hE with rfl | hE; exact hD; exact h.ds E hE, List.nodup_cons.2 ⟨hn, h.nd⟩, fun E hE => by rcases List.mem_cons.1 hE with rfl | hE; exact hlo; exact h.lo E hE⟩
/-- What stands in a round over the runs. -/
structure AG {count : Nat} (W4 : World) (bF : Nat) (N0 : Nat) (pre : List (Rn count)) (X : World) : Prop where
  kept : Kept (fun j => j = bF ∨ N0 ≤ j) W4 X
  fb : X.heap[bF]? = some (.cells #[.int .i64 (fs pre : Nat)] 3 (0, 0))
  big : N0 ≤ X.heap.size
theorem AG.own {count : Nat} {W4 : World} {bF : Nat} {N0 : Nat} (h : bF < N0) : OwnFrom N0 (AG (count := count) W4 bF N0) := fun pre A B row hs hg hr =>
  ⟨hs.kept.grown hg (fun k e _ => Or.inr (hr k e).1), (hg.block bF (blk_lt hs.fb) (fun e => by have := (hr bF e.symm).1; omega)).trans hs.fb, Nat.le_trans hs.big hg.size⟩
theorem AG.same {count : Nat} {W4 : World} {bF : Nat} {N0 : Nat} {pre : List (Rn count)} {X X' : World} (h : AG W4 bF N0 pre X) (k : Same X X') : AG W4 bF N0 pre X' :=
  ⟨h.kept.trans (k.mono (fun _ _ h => h.elim)), blk_kept k (fun h => h) h.fb, Nat.le_trans h.big k.size⟩
/-- The loop's invariant. -/
def AdI (w : World) (g q first count : Nat) (a : Option Addr) (n c : Nat) (A : Act) (W : World) : Prop :=
  ∃ (i : Nat) (u v : Nat → Bool) (res : Nat) (Ds : List Nat), i ≤ n ∧ A = adF w g q first count a n c i res (fun k => A.tmps.getD k undef) (Ds.map mkD) ∧ AD w g first count a n c u v res Ds W
theorem adF_27 (w : World) (g q first count : Nat) (a : Option Addr) (n c : Nat) (i rsv : Int) (j : Nat → Value) (df : List Deferred) : (adF w g q first count a n c i rsv j df).tmps.getD 27 undef = .int .i64 i := rfl
set_option maxHeartbeats 8000000 in
set_option maxRecDepth 100000 in
theorem adds_yes (first count : Nat) (a : Option Addr) (n c : Nat) (f : Nat → Op4) (w : World) (ho : SOps w a n f) (hn : n * 32 ≤ 140737488351232) (hT : Tab w) (h1 : 1 ≤ count) (h2 : first + count ≤ 4096) :
    Calls Tryd.prog 7 #[.agg #[.int .i64 first, .int .i64 count, .slice a n c]] w fun e w' => e = .returned (.bool true) ∧ Same w w' := by
  have HB := hidden (fun W (k : Same w W) => (callsIn_wide (n := 5)).2 (begin_ok first count (.slice a n c) ⟨a, n, c, rfl⟩ W (hT.same k) h1 h2))
  have CP := hidden (fun x W => (callsIn_wide (n := 5)).2 (runs_fn x W))
  have HO := hidden ho
  have HT := hidden hT
  have lT := hT.lt
  clear hT ho
  refine (callsIn_wide (n := 6)).1 ?_
  refine callsIn_of_wp_marks Tryd.func7 rfl trivial ?_ rfl
  simp only [Tryd.ntmps7, List.size_toArray, List.length_cons, List.length_nil, Nat.reduceAdd, Nat.reduceSub, Array.replicate_succ, Array.replicate_zero, List.push_toArray, List.append_toArray, List.nil_append, List.cons_append]
  gi_wp2_with (refine ⟨trivial, ?_⟩; gi_at_call 10; refine (HB.out _ (((Kept.refl _ w).alloc _).alloc _)).mono ?_; rintro e w1 ⟨g, q, s, rfl, hb⟩; have x2 : w1.cell? ⟨w.heap.size, 2, none⟩ = some (.slice a n c) := blk_cell (blk_kept hb.same (fun h => h) (blk_alloc (blk_new w (.cells #[.int .i64 first, .int .i64 count, .slice a n c] 24)) _)); have HBg := hidden hb; clear hb)
  have lg : w.heap.size + 2 ≤ g := by have := HBg.out.g0; simp at this; omega
  have S0 : Hid (AD w g first count a n c (fun _ => false) (fun _ => false) 0 [] w1) := by
    have kw : Same w w1 := (((Kept.refl _ w).alloc _).alloc _).trans HBg.out.same
    refine ⟨HBg.out.sp, HT.out.same kw, ⟨Pl.start h1 h2, ?_⟩, blk_kept HBg.out.same (fun h => h) (blk_alloc (blk_new w _) _), blk_kept HBg.out.same (fun h => h) ?_, kw, fun D hD => (by cases hD), List.nodup_nil, fun D hD => (by cases hD)⟩
    · unfold leftZ
      rw [cnt_none _ _ (fun _ _ => rfl)]
      omega
    · have z := blk_new (w.alloc (.cells #[.int .i64 first, .int .i64 count, .slice a n c] 24)) (.cells #[.bool false] 4)
      rw [World.size_alloc] at z
      exact z
  clear HB HBg x2 HT
  refine wpIn_loop (fun A W => AdI w g q first count a n c A W) (fun A _ => n - (intOf (A.tmps.getD 27 undef)).toNat) ⟨0, _, _, 0, [], Nat.zero_le _, rfl, S0.out⟩ ?_
  clear S0
  intro A W hI
  obtain ⟨i, u, v, res, Ds, hi, hAe, hAD⟩ := hI
  have hmu : (intOf (A.tmps.getD 27 undef)).toNat = i := by rw [hAe, adF_27]; simp [intOf]
  rw [hmu]
  generalize (fun k => A.tmps.getD k undef) = j at hAe
  subst hAe
  have HA := hidden hAD
  have hgl : g < W.heap.size := by obtain ⟨cs, hb, _⟩ := hAD.sp.box; exact blk_lt hb
  clear hAD hmu
  by_cases hin : i < n
  · obtain ⟨ob, oo, rfl, hcs⟩ := HO.out (by omega)
    obtain ⟨p, hp⟩ : ∃ p, f i = p := ⟨_, rfl⟩
    have z := hcs i hin
    rw [hp] at z
    obtain ⟨kd, nn, af, ac⟩ := p
    obtain ⟨hok, z0, z1, z2, z3⟩ := z
    have e0 := HA.out.same.cell (fun h => h) z0
    have e1 := HA.out.same.cell (fun h => h) z1
    have e2 := HA.out.same.cell (fun h => h) z2
    have e3 := HA.out.same.cell (fun h => h) z3
    dsimp only at e0 e1 e2 e3
    have haf : I64 af := hok.af
    have hnn : I64 nn := hok.N
    clear hcs z0 z1 z2 z3 hp hok
    have t1 : (i : Int) < (n : Int) := by omega
    have t0 : (0 : Int) ≤ (i : Int) := Int.natCast_nonneg _
    unfold adF
    by_cases k5 : kd = 5
    · subst k5
      obtain ⟨e, res', hC, hai, hre⟩ := ao_res (g := g) HA.out.ai nn
      have HC := hidden hC
      clear hC
      rcases hre with ⟨rfl, hre⟩ | ⟨hne, rfl⟩
      · have hf1 := hai.pl.fits
        have mr : IntKind.i64.wrap ((res : Int) + nn) = (res' : Int) := by rw [IntKind.wrap_i64]; omega
        clear hre hf1
        gi_wp2_with (first
          | (refine ⟨trivial, ?_⟩; gi_at_call 19; refine ((callsIn_wide (n := 5)).2 (HC.out _ (HA.out.keep (same_alloc _ _)).sp)).mono ?_; rintro e w3 ⟨rfl, s3, k3⟩; have d0 : w3.cell? ⟨W.heap.size, 1, none⟩ = some (.int .i64 nn) := blk_cell (blk_kept k3 (by omega) (blk_new W (.cells #[.int .i64 5, .int .i64 nn, .int .i64 af, .int .i64 ac] 32))); have D3 := hidden ((HA.out.keep (same_alloc W _)).next lT lg s3 k3 hai); clear s3 k3)
          | (refine ⟨trivial, ?_⟩; gi_at_call 22; refine (CP.out _ _).mono ?_; rintro e w4 ⟨rfl, hw4⟩; have HW4 := hidden hw4; clear hw4))

        obtain ⟨U, hU⟩ : ∃ U, U = cnt u 4096 := ⟨_, rfl⟩
        obtain ⟨V, hV⟩ : ∃ V, V = cnt v 4096 := ⟨_, rfl⟩
        obtain ⟨Lz, hLz⟩ : ∃ Lz, Lz = leftZ count u v res' := ⟨_, rfl⟩
        obtain ⟨L, hL⟩ : ∃ L, L = lf count (rp (fun i => u i || v i) count) := ⟨_, rfl⟩
        have hcut := D3.out.ai.cut hL
        have hge := D3.out.ai.ge
        have hres := D3.out.ai.pl.fits
        rw [← hU, ← hV, ← hLz] at hcut
        rw [← hLz] at hge
        have HL := hidden hL
        obtain ⟨Fz, hFz⟩ : ∃ Fz, Fz = fs L := ⟨_, rfl⟩
        rw [← hFz] at hcut
        have HFz := hidden hFz
        have k34 : Same w3 w4 := by rw [← HW4.out]; exact ((Kept.refl _ w3).alloc _).alloc _
        have hs4 : w4.heap.size = w3.heap.size + 2 := by rw [← HW4.out]; simp
        have fB : w4.heap[w3.heap.size]? = some (.cells #[.int .i64 0] 3 (0, 0)) := by rw [← HW4.out]; exact blk_alloc (blk_new w3 _) _
        have fA : w4.heap[w3.heap.size + 1]? = some (.cells #[.pointer (some ⟨g, 0, none⟩)] 25 (0, 0)) := by
          rw [← HW4.out]
          have z := blk_new (w3.alloc (.cells #[.int .i64 0] 3)) (.cells #[.pointer (some ⟨g, 0, none⟩)] 25)
          rw [World.size_alloc] at z
          exact z
        have D4 := hidden (D3.out.keep k34)
        have lg3 : g < w3.heap.size := by obtain ⟨cs, hb, _⟩ := D3.out.sp.box; exact blk_lt hb
        have lT3 := D3.out.tab.lt
        have hrun := runs_stops (fun b => b = w3.heap.size) w4 (w3.heap.size + 1) g first count u v res' fA D4.out.sp (TabB.of D4.out.tab) (by omega) (by omega) (by omega) (fun b hb => by omega)
        rw [← hL] at hrun
        obtain ⟨bF, hbF⟩ : ∃ b, b = w3.heap.size := ⟨_, rfl⟩
        obtain ⟨bA, hbA⟩ : ∃ b, b = w3.heap.size + 1 := ⟨_, rfl⟩
        rw [← hbA] at hrun ⊢
        rw [← hbF] at hrun fB ⊢
        have G4 : Hid (AG (count := count) w4 bF w4.heap.size [] w4) := ⟨Kept.refl _ _, fB, Nat.le_refl _⟩
        have hbF4 : bF < w4.heap.size := by omega
        have lr4 := blk_lt D4.out.rb
        have K34 : Hid (∀ X, Kept (fun b => b = bF ∨ w4.heap.size ≤ b) w4 X → Kept (fun b => w3.heap.size ≤ b) w3 X) := fun X k => (k34.mono (fun _ _ h => h.elim)).trans (k.mono (fun b _ h => by omega))
        have hLl : L.length ≤ 4096 := by rw [hL]; have := lf_len (count := count) (fun i => u i || v i); omega
        have HLP : Hid (∀ x ∈ L, 1 ≤ x.1.2) := fun x hx => lf_pos (by rw [← hL]; exact hx)
        have hrF : w.heap.size + 1 ≠ bF := by have := blk_lt D3.out.rb; omega
        have hsz34 : w3.heap.size ≤ w4.heap.size := by omega
        clear hL hFz fB fA HW4 k34 hs4 hbF hbA CP lg3 lT3
        refine range_areas (first := first) (count := count) 85 10 rfl (by decide) (gf := 51) (lb := #[.pointer (some ⟨bA, 0, none⟩)]) rfl trivial (enters_of (Tryd.func51) (by kernel_rfl) rfl)
          hrun (fun h k => h.trans k) (fun W l o o' _ hl ho _ => KC.putObj _ W l o o' hl ho) (Below.refl _ _) rfl
          (AG w4 bF w4.heap.size) (fun _ pre _ => ¬ pre <+: L)
          (AG.own hbF4) (fun _ _ _ _ _ hs _ _ => hs) G4.out
          ?assign ?body ?done ?stop
        case assign =>
          intro lp pre x W K hi hK
          gi_wp2
          have hbg : w4.heap.size ≤ W.heap.size := hi.big
          have nb := blk_new W (.cells #[.int .i64 ((first : Int) + (x.1.1 : Int)), .int .i64 (x.1.2 : Int)] 30)
          have kk : Same W (W.alloc (.cells #[.int .i64 ((first : Int) + (x.1.1 : Int)), .int .i64 (x.1.2 : Int)] 30)) := same_alloc _ _
          have ko := (KeepsOthers.alloc W (.cells #[.int .i64 ((first : Int) + (x.1.1 : Int)), .int .i64 (x.1.2 : Int)] 30)).from w4.heap.size
          generalize W.heap.size = Bx at *
          exact hK _ _ ko (KC.of kk (fun _ h => h.elim)) (hi.same kk) ⟨Bx, hbg, nb, by simp⟩
        case body =>
          intro lp pre x Bx W hG hBx hbx hlt
          simp only [List.setIfInBounds_toArray, List.set_cons_succ, List.set_cons_zero]
          obtain ⟨⟨xa, xn⟩, hx⟩ := x
          dsimp only at hbx
          have x1 : W.cell? ⟨Bx, 1, none⟩ = some (.int .i64 (xn : Int)) := blk_cell hbx
          have HG := hidden hG
          have dz := hidden (D3.out.far (K34.out _ hG.kept))
          have hfp : fs pre ≤ 4096 * 4096 := by have h1 := fs_le (by omega : count ≤ 4096) pre; have h2 : pre.length ≤ 4096 := (by omega); have h3 := Nat.mul_le_mul_right 4096 h2; omega
          have hxn : xa + xn ≤ count := hx
          by_cases h0 : xn = 0
          · have NPF : Hid (¬ (pre ++ [⟨(xa, xn), hx⟩]) <+: L) := fun h => by
              have := HLP.out ⟨(xa, xn), hx⟩ (h.subset (by simp))
              dsimp only at this
              omega
            have t0 : (xn : Int) < 1 := by omega
            have z2 : W.cell? ⟨w.heap.size + 1, 0, none⟩ = some (.bool false) := blk_cell dz.out.rb
            have z3 : W.frozen? ⟨w.heap.size + 1, 0, none⟩ = false := blk_free dz.out.rb
            clear hG hbx hlt
            gi_wp2
            exact ⟨keepsFrom_one ((Kept.refl (fun k => k = w.heap.size + 1) W).setCell (p := ⟨w.heap.size + 1, 0, none⟩) rfl _) (by omega), NPF.out⟩
          · have t0 : ¬ (xn : Int) < 1 := by omega
            obtain ⟨fp, hfpe⟩ : ∃ fp, fp = fs pre := ⟨_, rfl⟩
            have z4 : W.cell? ⟨bF, 0, none⟩ = some (.int .i64 (fp : Int)) := by rw [hfpe]; exact blk_cell hG.fb
            have z5 : W.frozen? ⟨bF, 0, none⟩ = false := blk_free hG.fb
            have m1 : IntKind.i64.wrap ((fp : Int) + (xn : Int)) = (fp : Int) + (xn : Int) := by rw [IntKind.wrap_i64]; omega
            have HFP := hidden hfpe
            clear hG hbx hlt hfpe
            gi_wp2
            have KI : Kept (fun j => j = bF) W (W.setCell ⟨bF, 0, none⟩ (.int .i64 ((fp : Int) + (xn : Int)))) := (Kept.refl (fun k => k = bF) W).setCell (p := ⟨bF, 0, none⟩) rfl _
            refine ⟨keepsFrom_one KI (by omega), KC.of KI (fun _ h => h), HG.out.kept.trans (KI.mono (fun _ _ h => Or.inl h)), ?_, Nat.le_trans HG.out.big KI.size⟩
            have := blk_set (j := 0) HG.out.fb (.int .i64 ((fp : Int) + (xn : Int)))
            rw [fs_add, show ((fs pre + (⟨(xa, xn), hx⟩ : Rn count).1.2 : Nat) : Int) = (fp : Int) + (xn : Int) by rw [HFP.out]; simp]
            exact this
        case done =>
          rintro D ys X hDl hys hG hD
          rw [hys] at hG
          have dX := D3.out.far (K34.out _ hG.kept)
          have DX := hidden dX
          have D5 := hidden (dX.more hD (fun hm => by have := blk_lt (D3.out.ds D hm); omega) (by have := D4.out.same.size; omega))
          have zF : X.cell? ⟨bF, 0, none⟩ = some (.int .i64 (Fz : Int)) := by rw [HFz.out]; exact blk_cell hG.fb
          have zB : X.cell? ⟨w.heap.size, 1, none⟩ = some (.int .i64 (count : Int)) := blk_cell dX.box
          have KD := hidden (fun nn => (Kept.refl (fun _ => False) X).drewN nn)
          have CU : Hid (∀ nn, CallsIn Fence.wide 5 Tryd.prog 23 #[.pointer (some ⟨g, 0, none⟩)] (X.drewN nn) fun e w' => e = .returned (.int .i64 (U : Nat)) ∧ w' = X.drewN nn) := fun nn => (callsIn_wide (n := 5)).2 ((sp_used g first count u v res' (X.drewN nn) (DX.out.keep (KD.out nn)).sp).mono fun r w' h => ⟨by rw [hU]; exact h.1, h.2.symm⟩)
          have CV : Hid (∀ nn, CallsIn Fence.wide 5 Tryd.prog 24 #[.pointer (some ⟨g, 0, none⟩)] (X.drewN nn) fun e w' => e = .returned (.int .i64 (V : Nat)) ∧ w' = X.drewN nn) := fun nn => (callsIn_wide (n := 5)).2 ((sp_waiting g first count u v res' (X.drewN nn) (DX.out.keep (KD.out nn)).sp).mono fun r w' h => ⟨by rw [hV]; exact h.1, h.2.symm⟩)
          have CL := hidden (fun nn => (callsIn_wide (n := 5)).2 (sp_leftN g first count u v res' (X.drewN nn) (DX.out.keep (KD.out nn)).sp))
          rw [← hLz] at CL
          obtain ⟨UV, hUV⟩ : ∃ UV : Int, UV = (U : Int) + (V : Int) := ⟨_, rfl⟩
          have m1 : IntKind.i64.wrap ((U : Int) + (V : Int)) = UV := by rw [IntKind.wrap_i64]; omega
          have m2 : IntKind.i64.wrap (UV + (Fz : Int)) = (count : Int) := by rw [IntKind.wrap_i64]; omega
          have m3 : IntKind.i64.wrap ((Fz : Int) - (res' : Int)) = Lz := by rw [IntKind.wrap_i64]; omega
          have d1 : decide (Lz < 0) = false := by simp; omega
          have d2 : ¬ Lz < 0 := by omega
          have d3 : decide ((res' : Int) < 0) = false := by simp
          have d4 : ¬ (res' : Int) < 0 := by omega
          have m4 : IntKind.i64.wrap ((i : Int) + 1) = (i : Int) + 1 := by rw [IntKind.wrap_i64]; omega
          clear hG hD hys dX hU hV hLz hUV hcut hge hres hrun
          gi_wp2
          refine wpIn_region_quiet_lit rfl (by kernel_rfl) (by kernel_rfl) ?_
          repeat (refine wpQuietIn_step (by first | (go_simp; done) | (go_simp; intros; trivial) | (intros; trivial)) (fun K hK => ?_); go_simp; first | (refine hK _ ?_; clear hK K) | (apply Exists.intro; refine ⟨fun _ => ?_, hK _ ?_⟩; (first | (gi_at_call 23; exact CallsIn.quiet_of_same (CU.out _)) | (gi_at_call 24; exact CallsIn.quiet_of_same (CV.out _)) | (gi_at_call 25; exact CallsIn.quiet_of (CL.out _))); clear hK K))
          refine wpQuietIn_nil ?_
          intro _ hw'
          obtain ⟨nq, hw''⟩ := hw'
          subst hw''
          gi_wp2
          refine ⟨⟨i + 1, u, v, res', D :: Ds, by omega, rfl, D5.out.keep (KD.out nq)⟩, ?_⟩
          show n - (intOf (.int .i64 ((i : Int) + 1))).toNat < n - i
          simp [intOf]
          omega
        case stop =>
          rintro D cc pre X _ hp h _
          exact absurd hp h
      · skip
        gi_wp2_with (first
          | (refine ⟨trivial, ?_⟩; gi_at_call 19; refine ((callsIn_wide (n := 5)).2 (HC.out _ (HA.out.keep (same_alloc _ _)).sp)).mono ?_; rintro e w3 ⟨rfl, s3, k3⟩; have d0 : w3.cell? ⟨W.heap.size, 1, none⟩ = some (.int .i64 nn) := blk_cell (blk_kept k3 (by omega) (blk_new W (.cells #[.int .i64 5, .int .i64 nn, .int .i64 af, .int .i64 ac] 32))); have D3 := hidden ((HA.out.keep (same_alloc W _)).next lT lg s3 k3 hai); clear s3 k3)
          | (refine ⟨trivial, ?_⟩; gi_at_call 22; refine (CP.out _ _).mono ?_; rintro e w4 ⟨rfl, hw4⟩; have HW4 := hidden hw4; clear hw4))

        obtain ⟨U, hU⟩ : ∃ U, U = cnt u 4096 := ⟨_, rfl⟩
        obtain ⟨V, hV⟩ : ∃ V, V = cnt v 4096 := ⟨_, rfl⟩
        obtain ⟨Lz, hLz⟩ : ∃ Lz, Lz = leftZ count u v res' := ⟨_, rfl⟩
        obtain ⟨L, hL⟩ : ∃ L, L = lf count (rp (fun i => u i || v i) count) := ⟨_, rfl⟩
        have hcut := D3.out.ai.cut hL
        have hge := D3.out.ai.ge
        have hres := D3.out.ai.pl.fits
        rw [← hU, ← hV, ← hLz] at hcut
        rw [← hLz] at hge
        have HL := hidden hL
        obtain ⟨Fz, hFz⟩ : ∃ Fz, Fz = fs L := ⟨_, rfl⟩
        rw [← hFz] at hcut
        have HFz := hidden hFz
        have k34 : Same w3 w4 := by rw [← HW4.out]; exact ((Kept.refl _ w3).alloc _).alloc _
        have hs4 : w4.heap.size = w3.heap.size + 2 := by rw [← HW4.out]; simp
        have fB : w4.heap[w3.heap.size]? = some (.cells #[.int .i64 0] 3 (0, 0)) := by rw [← HW4.out]; exact blk_alloc (blk_new w3 _) _
        have fA : w4.heap[w3.heap.size + 1]? = some (.cells #[.pointer (some ⟨g, 0, none⟩)] 25 (0, 0)) := by
          rw [← HW4.out]
          have z := blk_new (w3.alloc (.cells #[.int .i64 0] 3)) (.cells #[.pointer (some ⟨g, 0, none⟩)] 25)
          rw [World.size_alloc] at z
          exact z
        have D4 := hidden (D3.out.keep k34)
        have lg3 : g < w3.heap.size := by obtain ⟨cs, hb, _⟩ := D3.out.sp.box; exact blk_lt hb
        have lT3 := D3.out.tab.lt
        have hrun := runs_stops (fun b => b = w3.heap.size) w4 (w3.heap.size + 1) g first count u v res' fA D4.out.sp (TabB.of D4.out.tab) (by omega) (by omega) (by omega) (fun b hb => by omega)
        rw [← hL] at hrun
        obtain ⟨bF, hbF⟩ : ∃ b, b = w3.heap.size := ⟨_, rfl⟩
        obtain ⟨bA, hbA⟩ : ∃ b, b = w3.heap.size + 1 := ⟨_, rfl⟩
        rw [← hbA] at hrun ⊢
        rw [← hbF] at hrun fB ⊢
        have G4 : Hid (AG (count := count) w4 bF w4.heap.size [] w4) := ⟨Kept.refl _ _, fB, Nat.le_refl _⟩
        have hbF4 : bF < w4.heap.size := by omega
        have lr4 := blk_lt D4.out.rb
        have K34 : Hid (∀ X, Kept (fun b => b = bF ∨ w4.heap.size ≤ b) w4 X → Kept (fun b => w3.heap.size ≤ b) w3 X) := fun X k => (k34.mono (fun _ _ h => h.elim)).trans (k.mono (fun b _ h => by omega))
        have hLl : L.length ≤ 4096 := by rw [hL]; have := lf_len (count := count) (fun i => u i || v i); omega
        have HLP : Hid (∀ x ∈ L, 1 ≤ x.1.2) := fun x hx => lf_pos (by rw [← hL]; exact hx)
        have hrF : w.heap.size + 1 ≠ bF := by have := blk_lt D3.out.rb; omega
        have hsz34 : w3.heap.size ≤ w4.heap.size := by omega
        clear hL hFz fB fA HW4 k34 hs4 hbF hbA CP lg3 lT3
        refine range_areas (first := first) (count := count) 85 10 rfl (by decide) (gf := 51) (lb := #[.pointer (some ⟨bA, 0, none⟩)]) rfl trivial (enters_of (Tryd.func51) (by kernel_rfl) rfl)
          hrun (fun h k => h.trans k) (fun W l o o' _ hl ho _ => KC.putObj _ W l o o' hl ho) (Below.refl _ _) rfl
          (AG w4 bF w4.heap.size) (fun _ pre _ => ¬ pre <+: L)
          (AG.own hbF4) (fun _ _ _ _ _ hs _ _ => hs) G4.out
          ?assign ?body ?done ?stop
        case assign =>
          intro lp pre x W K hi hK
          gi_wp2
          have hbg : w4.heap.size ≤ W.heap.size := hi.big
          have nb := blk_new W (.cells #[.int .i64 ((first : Int) + (x.1.1 : Int)), .int .i64 (x.1.2 : Int)] 30)
          have kk : Same W (W.alloc (.cells #[.int .i64 ((first : Int) + (x.1.1 : Int)), .int .i64 (x.1.2 : Int)] 30)) := same_alloc _ _
          have ko := (KeepsOthers.alloc W (.cells #[.int .i64 ((first : Int) + (x.1.1 : Int)), .int .i64 (x.1.2 : Int)] 30)).from w4.heap.size
          generalize W.heap.size = Bx at *
          exact hK _ _ ko (KC.of kk (fun _ h => h.elim)) (hi.same kk) ⟨Bx, hbg, nb, by simp⟩
        case body =>
          intro lp pre x Bx W hG hBx hbx hlt
          simp only [List.setIfInBounds_toArray, List.set_cons_succ, List.set_cons_zero]
          obtain ⟨⟨xa, xn⟩, hx⟩ := x
          dsimp only at hbx
          have x1 : W.cell? ⟨Bx, 1, none⟩ = some (.int .i64 (xn : Int)) := blk_cell hbx
          have HG := hidden hG
          have dz := hidden (D3.out.far (K34.out _ hG.kept))
          have hfp : fs pre ≤ 4096 * 4096 := by have h1 := fs_le (by omega : count ≤ 4096) pre; have h2 : pre.length ≤ 4096 := (by omega); have h3 := Nat.mul_le_mul_right 4096 h2; omega
          have hxn : xa + xn ≤ count := hx
          by_cases h0 : xn = 0
          · have NPF : Hid (¬ (pre ++ [⟨(xa, xn), hx⟩]) <+: L) := fun h => by
              have := HLP.out ⟨(xa, xn), hx⟩ (h.subset (by simp))
              dsimp only at this
              omega
            have t0 : (xn : Int) < 1 := by omega
            have z2 : W.cell? ⟨w.heap.size + 1, 0, none⟩ = some (.bool false) := blk_cell dz.out.rb
            have z3 : W.frozen? ⟨w.heap.size + 1, 0, none⟩ = false := blk_free dz.out.rb
            clear hG hbx hlt
            gi_wp2
            exact ⟨keepsFrom_one ((Kept.refl (fun k => k = w.heap.size + 1) W).setCell (p := ⟨w.heap.size + 1, 0, none⟩) rfl _) (by omega), NPF.out⟩
          · have t0 : ¬ (xn : Int) < 1 := by omega
            obtain ⟨fp, hfpe⟩ : ∃ fp, fp = fs pre := ⟨_, rfl⟩
            have z4 : W.cell? ⟨bF, 0, none⟩ = some (.int .i64 (fp : Int)) := by rw [hfpe]; exact blk_cell hG.fb
            have z5 : W.frozen? ⟨bF, 0, none⟩ = false := blk_free hG.fb
            have m1 : IntKind.i64.wrap ((fp : Int) + (xn : Int)) = (fp : Int) + (xn : Int) := by rw [IntKind.wrap_i64]; omega
            have HFP := hidden hfpe
            clear hG hbx hlt hfpe
            gi_wp2
            have KI : Kept (fun j => j = bF) W (W.setCell ⟨bF, 0, none⟩ (.int .i64 ((fp : Int) + (xn : Int)))) := (Kept.refl (fun k => k = bF) W).setCell (p := ⟨bF, 0, none⟩) rfl _
            refine ⟨keepsFrom_one KI (by omega), KC.of KI (fun _ h => h), HG.out.kept.trans (KI.mono (fun _ _ h => Or.inl h)), ?_, Nat.le_trans HG.out.big KI.size⟩
            have := blk_set (j := 0) HG.out.fb (.int .i64 ((fp : Int) + (xn : Int)))
            rw [fs_add, show ((fs pre + (⟨(xa, xn), hx⟩ : Rn count).1.2 : Nat) : Int) = (fp : Int) + (xn : Int) by rw [HFP.out]; simp]
            exact this
        case done =>
          rintro D ys X hDl hys hG hD
          rw [hys] at hG
          have dX := D3.out.far (K34.out _ hG.kept)
          have DX := hidden dX
          have D5 := hidden (dX.more hD (fun hm => by have := blk_lt (D3.out.ds D hm); omega) (by have := D4.out.same.size; omega))
          have zF : X.cell? ⟨bF, 0, none⟩ = some (.int .i64 (Fz : Int)) := by rw [HFz.out]; exact blk_cell hG.fb
          have zB : X.cell? ⟨w.heap.size, 1, none⟩ = some (.int .i64 (count : Int)) := blk_cell dX.box
          have KD := hidden (fun nn => (Kept.refl (fun _ => False) X).drewN nn)
          have CU : Hid (∀ nn, CallsIn Fence.wide 5 Tryd.prog 23 #[.pointer (some ⟨g, 0, none⟩)] (X.drewN nn) fun e w' => e = .returned (.int .i64 (U : Nat)) ∧ w' = X.drewN nn) := fun nn => (callsIn_wide (n := 5)).2 ((sp_used g first count u v res' (X.drewN nn) (DX.out.keep (KD.out nn)).sp).mono fun r w' h => ⟨by rw [hU]; exact h.1, h.2.symm⟩)
          have CV : Hid (∀ nn, CallsIn Fence.wide 5 Tryd.prog 24 #[.pointer (some ⟨g, 0, none⟩)] (X.drewN nn) fun e w' => e = .returned (.int .i64 (V : Nat)) ∧ w' = X.drewN nn) := fun nn => (callsIn_wide (n := 5)).2 ((sp_waiting g first count u v res' (X.drewN nn) (DX.out.keep (KD.out nn)).sp).mono fun r w' h => ⟨by rw [hV]; exact h.1, h.2.symm⟩)
          have CL := hidden (fun nn => (callsIn_wide (n := 5)).2 (sp_leftN g first count u v res' (X.drewN nn) (DX.out.keep (KD.out nn)).sp))
          rw [← hLz] at CL
          obtain ⟨UV, hUV⟩ : ∃ UV : Int, UV = (U : Int) + (V : Int) := ⟨_, rfl⟩
          have m1 : IntKind.i64.wrap ((U : Int) + (V : Int)) = UV := by rw [IntKind.wrap_i64]; omega
          have m2 : IntKind.i64.wrap (UV + (Fz : Int)) = (count : Int) := by rw [IntKind.wrap_i64]; omega
          have m3 : IntKind.i64.wrap ((Fz : Int) - (res' : Int)) = Lz := by rw [IntKind.wrap_i64]; omega
          have d1 : decide (Lz < 0) = false := by simp; omega
          have d2 : ¬ Lz < 0 := by omega
          have d3 : decide ((res' : Int) < 0) = false := by simp
          have d4 : ¬ (res' : Int) < 0 := by omega
          have m4 : IntKind.i64.wrap ((i : Int) + 1) = (i : Int) + 1 := by rw [IntKind.wrap_i64]; omega
          clear hG hD hys dX hU hV hLz hUV hcut hge hres hrun
          gi_wp2
          refine wpIn_region_quiet_lit rfl (by kernel_rfl) (by kernel_rfl) ?_
          repeat (refine wpQuietIn_step (by first | (go_simp; done) | (go_simp; intros; trivial) | (intros; trivial)) (fun K hK => ?_); go_simp; first | (refine hK _ ?_; clear hK K) | (apply Exists.intro; refine ⟨fun _ => ?_, hK _ ?_⟩; (first | (gi_at_call 23; exact CallsIn.quiet_of_same (CU.out _)) | (gi_at_call 24; exact CallsIn.quiet_of_same (CV.out _)) | (gi_at_call 25; exact CallsIn.quiet_of (CL.out _))); clear hK K))
          refine wpQuietIn_nil ?_
          intro _ hw'
          obtain ⟨nq, hw''⟩ := hw'
          subst hw''
          gi_wp2
          refine ⟨⟨i + 1, u, v, res', D :: Ds, by omega, rfl, D5.out.keep (KD.out nq)⟩, ?_⟩
          show n - (intOf (.int .i64 ((i : Int) + 1))).toNat < n - i
          simp [intOf]
          omega
        case stop =>
          rintro D cc pre X _ hp h _
          exact absurd hp h
    by_cases k6 : kd = 6
    · subst k6
      obtain ⟨e, res', hC, hai, hre⟩ := ao_rel (g := g) HA.out.ai nn
      have HC := hidden hC
      clear hC
      rcases hre with ⟨rfl, hre⟩ | ⟨hne, rfl⟩
      · have hf1 := hai.pl.fits
        have mr : IntKind.i64.wrap ((res : Int) - nn) = (res' : Int) := by rw [IntKind.wrap_i64]; omega
        clear hre hf1
        gi_wp2_with (first
          | (refine ⟨trivial, ?_⟩; gi_at_call 20; refine ((callsIn_wide (n := 5)).2 (HC.out _ (HA.out.keep (same_alloc _ _)).sp)).mono ?_; rintro e w3 ⟨rfl, s3, k3⟩; have d0 : w3.cell? ⟨W.heap.size, 1, none⟩ = some (.int .i64 nn) := blk_cell (blk_kept k3 (by omega) (blk_new W (.cells #[.int .i64 6, .int .i64 nn, .int .i64 af, .int .i64 ac] 32))); have D3 := hidden ((HA.out.keep (same_alloc W _)).next lT lg s3 k3 hai); clear s3 k3)
          | (refine ⟨trivial, ?_⟩; gi_at_call 22; refine (CP.out _ _).mono ?_; rintro e w4 ⟨rfl, hw4⟩; have HW4 := hidden hw4; clear hw4))

        obtain ⟨U, hU⟩ : ∃ U, U = cnt u 4096 := ⟨_, rfl⟩
        obtain ⟨V, hV⟩ : ∃ V, V = cnt v 4096 := ⟨_, rfl⟩
        obtain ⟨Lz, hLz⟩ : ∃ Lz, Lz = leftZ count u v res' := ⟨_, rfl⟩
        obtain ⟨L, hL⟩ : ∃ L, L = lf count (rp (fun i => u i || v i) count) := ⟨_, rfl⟩
        have hcut := D3.out.ai.cut hL
        have hge := D3.out.ai.ge
        have hres := D3.out.ai.pl.fits
        rw [← hU, ← hV, ← hLz] at hcut
        rw [← hLz] at hge
        have HL := hidden hL
        obtain ⟨Fz, hFz⟩ : ∃ Fz, Fz = fs L := ⟨_, rfl⟩
        rw [← hFz] at hcut
        have HFz := hidden hFz
        have k34 : Same w3 w4 := by rw [← HW4.out]; exact ((Kept.refl _ w3).alloc _).alloc _
        have hs4 : w4.heap.size = w3.heap.size + 2 := by rw [← HW4.out]; simp
        have fB : w4.heap[w3.heap.size]? = some (.cells #[.int .i64 0] 3 (0, 0)) := by rw [← HW4.out]; exact blk_alloc (blk_new w3 _) _
        have fA : w4.heap[w3.heap.size + 1]? = some (.cells #[.pointer (some ⟨g, 0, none⟩)] 25 (0, 0)) := by
          rw [← HW4.out]
          have z := blk_new (w3.alloc (.cells #[.int .i64 0] 3)) (.cells #[.pointer (some ⟨g, 0, none⟩)] 25)
          rw [World.size_alloc] at z
          exact z
        have D4 := hidden (D3.out.keep k34)
        have lg3 : g < w3.heap.size := by obtain ⟨cs, hb, _⟩ := D3.out.sp.box; exact blk_lt hb
        have lT3 := D3.out.tab.lt
        have hrun := runs_stops (fun b => b = w3.heap.size) w4 (w3.heap.size + 1) g first count u v res' fA D4.out.sp (TabB.of D4.out.tab) (by omega) (by omega) (by omega) (fun b hb => by omega)
        rw [← hL] at hrun
        obtain ⟨bF, hbF⟩ : ∃ b, b = w3.heap.size := ⟨_, rfl⟩
        obtain ⟨bA, hbA⟩ : ∃ b, b = w3.heap.size + 1 := ⟨_, rfl⟩
        rw [← hbA] at hrun ⊢
        rw [← hbF] at hrun fB ⊢
        have G4 : Hid (AG (count := count) w4 bF w4.heap.size [] w4) := ⟨Kept.refl _ _, fB, Nat.le_refl _⟩
        have hbF4 : bF < w4.heap.size := by omega
        have lr4 := blk_lt D4.out.rb
        have K34 : Hid (∀ X, Kept (fun b => b = bF ∨ w4.heap.size ≤ b) w4 X → Kept (fun b => w3.heap.size ≤ b) w3 X) := fun X k => (k34.mono (fun _ _ h => h.elim)).trans (k.mono (fun b _ h => by omega))
        have hLl : L.length ≤ 4096 := by rw [hL]; have := lf_len (count := count) (fun i => u i || v i); omega
        have HLP : Hid (∀ x ∈ L, 1 ≤ x.1.2) := fun x hx => lf_pos (by rw [← hL]; exact hx)
        have hrF : w.heap.size + 1 ≠ bF := by have := blk_lt D3.out.rb; omega
        have hsz34 : w3.heap.size ≤ w4.heap.size := by omega
        clear hL hFz fB fA HW4 k34 hs4 hbF hbA CP lg3 lT3
        refine range_areas (first := first) (count := count) 85 10 rfl (by decide) (gf := 51) (lb := #[.pointer (some ⟨bA, 0, none⟩)]) rfl trivial (enters_of (Tryd.func51) (by kernel_rfl) rfl)
          hrun (fun h k => h.trans k) (fun W l o o' _ hl ho _ => KC.putObj _ W l o o' hl ho) (Below.refl _ _) rfl
          (AG w4 bF w4.heap.size) (fun _ pre _ => ¬ pre <+: L)
          (AG.own hbF4) (fun _ _ _ _ _ hs _ _ => hs) G4.out
          ?assign ?body ?done ?stop
        case assign =>
          intro lp pre x W K hi hK
          gi_wp2
          have hbg : w4.heap.size ≤ W.heap.size := hi.big
          have nb := blk_new W (.cells #[.int .i64 ((first : Int) + (x.1.1 : Int)), .int .i64 (x.1.2 : Int)] 30)
          have kk : Same W (W.alloc (.cells #[.int .i64 ((first : Int) + (x.1.1 : Int)), .int .i64 (x.1.2 : Int)] 30)) := same_alloc _ _
          have ko := (KeepsOthers.alloc W (.cells #[.int .i64 ((first : Int) + (x.1.1 : Int)), .int .i64 (x.1.2 : Int)] 30)).from w4.heap.size
          generalize W.heap.size = Bx at *
          exact hK _ _ ko (KC.of kk (fun _ h => h.elim)) (hi.same kk) ⟨Bx, hbg, nb, by simp⟩
        case body =>
          intro lp pre x Bx W hG hBx hbx hlt
          simp only [List.setIfInBounds_toArray, List.set_cons_succ, List.set_cons_zero]
          obtain ⟨⟨xa, xn⟩, hx⟩ := x
          dsimp only at hbx
          have x1 : W.cell? ⟨Bx, 1, none⟩ = some (.int .i64 (xn : Int)) := blk_cell hbx
          have HG := hidden hG
          have dz := hidden (D3.out.far (K34.out _ hG.kept))
          have hfp : fs pre ≤ 4096 * 4096 := by have h1 := fs_le (by omega : count ≤ 4096) pre; have h2 : pre.length ≤ 4096 := (by omega); have h3 := Nat.mul_le_mul_right 4096 h2; omega
          have hxn : xa + xn ≤ count := hx
          by_cases h0 : xn = 0
          · have NPF : Hid (¬ (pre ++ [⟨(xa, xn), hx⟩]) <+: L) := fun h => by
              have := HLP.out ⟨(xa, xn), hx⟩ (h.subset (by simp))
              dsimp only at this
              omega
            have t0 : (xn : Int) < 1 := by omega
            have z2 : W.cell? ⟨w.heap.size + 1, 0, none⟩ = some (.bool false) := blk_cell dz.out.rb
            have z3 : W.frozen? ⟨w.heap.size + 1, 0, none⟩ = false := blk_free dz.out.rb
            clear hG hbx hlt
            gi_wp2
            exact ⟨keepsFrom_one ((Kept.refl (fun k => k = w.heap.size + 1) W).setCell (p := ⟨w.heap.size + 1, 0, none⟩) rfl _) (by omega), NPF.out⟩
          · have t0 : ¬ (xn : Int) < 1 := by omega
            obtain ⟨fp, hfpe⟩ : ∃ fp, fp = fs pre := ⟨_, rfl⟩
            have z4 : W.cell? ⟨bF, 0, none⟩ = some (.int .i64 (fp : Int)) := by rw [hfpe]; exact blk_cell hG.fb
            have z5 : W.frozen? ⟨bF, 0, none⟩ = false := blk_free hG.fb
            have m1 : IntKind.i64.wrap ((fp : Int) + (xn : Int)) = (fp : Int) + (xn : Int) := by rw [IntKind.wrap_i64]; omega
            have HFP := hidden hfpe
            clear hG hbx hlt hfpe
            gi_wp2
            have KI : Kept (fun j => j = bF) W (W.setCell ⟨bF, 0, none⟩ (.int .i64 ((fp : Int) + (xn : Int)))) := (Kept.refl (fun k => k = bF) W).setCell (p := ⟨bF, 0, none⟩) rfl _
            refine ⟨keepsFrom_one KI (by omega), KC.of KI (fun _ h => h), HG.out.kept.trans (KI.mono (fun _ _ h => Or.inl h)), ?_, Nat.le_trans HG.out.big KI.size⟩
            have := blk_set (j := 0) HG.out.fb (.int .i64 ((fp : Int) + (xn : Int)))
            rw [fs_add, show ((fs pre + (⟨(xa, xn), hx⟩ : Rn count).1.2 : Nat) : Int) = (fp : Int) + (xn : Int) by rw [HFP.out]; simp]
            exact this
        case done =>
          rintro D ys X hDl hys hG hD
          rw [hys] at hG
          have dX := D3.out.far (K34.out _ hG.kept)
          have DX := hidden dX
          have D5 := hidden (dX.more hD (fun hm => by have := blk_lt (D3.out.ds D hm); omega) (by have := D4.out.same.size; omega))
          have zF : X.cell? ⟨bF, 0, none⟩ = some (.int .i64 (Fz : Int)) := by rw [HFz.out]; exact blk_cell hG.fb
          have zB : X.cell? ⟨w.heap.size, 1, none⟩ = some (.int .i64 (count : Int)) := blk_cell dX.box
          have KD := hidden (fun nn => (Kept.refl (fun _ => False) X).drewN nn)
          have CU : Hid (∀ nn, CallsIn Fence.wide 5 Tryd.prog 23 #[.pointer (some ⟨g, 0, none⟩)] (X.drewN nn) fun e w' => e = .returned (.int .i64 (U : Nat)) ∧ w' = X.drewN nn) := fun nn => (callsIn_wide (n := 5)).2 ((sp_used g first count u v res' (X.drewN nn) (DX.out.keep (KD.out nn)).sp).mono fun r w' h => ⟨by rw [hU]; exact h.1, h.2.symm⟩)
          have CV : Hid (∀ nn, CallsIn Fence.wide 5 Tryd.prog 24 #[.pointer (some ⟨g, 0, none⟩)] (X.drewN nn) fun e w' => e = .returned (.int .i64 (V : Nat)) ∧ w' = X.drewN nn) := fun nn => (callsIn_wide (n := 5)).2 ((sp_waiting g first count u v res' (X.drewN nn) (DX.out.keep (KD.out nn)).sp).mono fun r w' h => ⟨by rw [hV]; exact h.1, h.2.symm⟩)
          have CL := hidden (fun nn => (callsIn_wide (n := 5)).2 (sp_leftN g first count u v res' (X.drewN nn) (DX.out.keep (KD.out nn)).sp))
          rw [← hLz] at CL
          obtain ⟨UV, hUV⟩ : ∃ UV : Int, UV = (U : Int) + (V : Int) := ⟨_, rfl⟩
          have m1 : IntKind.i64.wrap ((U : Int) + (V : Int)) = UV := by rw [IntKind.wrap_i64]; omega
          have m2 : IntKind.i64.wrap (UV + (Fz : Int)) = (count : Int) := by rw [IntKind.wrap_i64]; omega
          have m3 : IntKind.i64.wrap ((Fz : Int) - (res' : Int)) = Lz := by rw [IntKind.wrap_i64]; omega
          have d1 : decide (Lz < 0) = false := by simp; omega
          have d2 : ¬ Lz < 0 := by omega
          have d3 : decide ((res' : Int) < 0) = false := by simp
          have d4 : ¬ (res' : Int) < 0 := by omega
          have m4 : IntKind.i64.wrap ((i : Int) + 1) = (i : Int) + 1 := by rw [IntKind.wrap_i64]; omega
          clear hG hD hys dX hU hV hLz hUV hcut hge hres hrun
          gi_wp2
          refine wpIn_region_quiet_lit rfl (by kernel_rfl) (by kernel_rfl) ?_
          repeat (refine wpQuietIn_step (by first | (go_simp; done) | (go_simp; intros; trivial) | (intros; trivial)) (fun K hK => ?_); go_simp; first | (refine hK _ ?_; clear hK K) | (apply Exists.intro; refine ⟨fun _ => ?_, hK _ ?_⟩; (first | (gi_at_call 23; exact CallsIn.quiet_of_same (CU.out _)) | (gi_at_call 24; exact CallsIn.quiet_of_same (CV.out _)) | (gi_at_call 25; exact CallsIn.quiet_of (CL.out _))); clear hK K))
          refine wpQuietIn_nil ?_
          intro _ hw'
          obtain ⟨nq, hw''⟩ := hw'
          subst hw''
          gi_wp2
          refine ⟨⟨i + 1, u, v, res', D :: Ds, by omega, rfl, D5.out.keep (KD.out nq)⟩, ?_⟩
          show n - (intOf (.int .i64 ((i : Int) + 1))).toNat < n - i
          simp [intOf]
          omega
        case stop =>
          rintro D cc pre X _ hp h _
          exact absurd hp h
      · skip
        gi_wp2_with (first
          | (refine ⟨trivial, ?_⟩; gi_at_call 20; refine ((callsIn_wide (n := 5)).2 (HC.out _ (HA.out.keep (same_alloc _ _)).sp)).mono ?_; rintro e w3 ⟨rfl, s3, k3⟩; have d0 : w3.cell? ⟨W.heap.size, 1, none⟩ = some (.int .i64 nn) := blk_cell (blk_kept k3 (by omega) (blk_new W (.cells #[.int .i64 6, .int .i64 nn, .int .i64 af, .int .i64 ac] 32))); have D3 := hidden ((HA.out.keep (same_alloc W _)).next lT lg s3 k3 hai); clear s3 k3)
          | (refine ⟨trivial, ?_⟩; gi_at_call 22; refine (CP.out _ _).mono ?_; rintro e w4 ⟨rfl, hw4⟩; have HW4 := hidden hw4; clear hw4))

        obtain ⟨U, hU⟩ : ∃ U, U = cnt u 4096 := ⟨_, rfl⟩
        obtain ⟨V, hV⟩ : ∃ V, V = cnt v 4096 := ⟨_, rfl⟩
        obtain ⟨Lz, hLz⟩ : ∃ Lz, Lz = leftZ count u v res' := ⟨_, rfl⟩
        obtain ⟨L, hL⟩ : ∃ L, L = lf count (rp (fun i => u i || v i) count) := ⟨_, rfl⟩
        have hcut := D3.out.ai.cut hL
        have hge := D3.out.ai.ge
        have hres := D3.out.ai.pl.fits
        rw [← hU, ← hV, ← hLz] at hcut
        rw [← hLz] at hge
        have HL := hidden hL
        obtain ⟨Fz, hFz⟩ : ∃ Fz, Fz = fs L := ⟨_, rfl⟩
        rw [← hFz] at hcut
        have HFz := hidden hFz
        have k34 : Same w3 w4 := by rw [← HW4.out]; exact ((Kept.refl _ w3).alloc _).alloc _
        have hs4 : w4.heap.size = w3.heap.size + 2 := by rw [← HW4.out]; simp
        have fB : w4.heap[w3.heap.size]? = some (.cells #[.int .i64 0] 3 (0, 0)) := by rw [← HW4.out]; exact blk_alloc (blk_new w3 _) _
        have fA : w4.heap[w3.heap.size + 1]? = some (.cells #[.pointer (some ⟨g, 0, none⟩)] 25 (0, 0)) := by
          rw [← HW4.out]
          have z := blk_new (w3.alloc (.cells #[.int .i64 0] 3)) (.cells #[.pointer (some ⟨g, 0, none⟩)] 25)
          rw [World.size_alloc] at z
          exact z
        have D4 := hidden (D3.out.keep k34)
        have lg3 : g < w3.heap.size := by obtain ⟨cs, hb, _⟩ := D3.out.sp.box; exact blk_lt hb
        have lT3 := D3.out.tab.lt
        have hrun := runs_stops (fun b => b = w3.heap.size) w4 (w3.heap.size + 1) g first count u v res' fA D4.out.sp (TabB.of D4.out.tab) (by omega) (by omega) (by omega) (fun b hb => by omega)
        rw [← hL] at hrun
        obtain ⟨bF, hbF⟩ : ∃ b, b = w3.heap.size := ⟨_, rfl⟩
        obtain ⟨bA, hbA⟩ : ∃ b, b = w3.heap.size + 1 := ⟨_, rfl⟩
        rw [← hbA] at hrun ⊢
        rw [← hbF] at hrun fB ⊢
        have G4 : Hid (AG (count := count) w4 bF w4.heap.size [] w4) := ⟨Kept.refl _ _, fB, Nat.le_refl _⟩
        have hbF4 : bF < w4.heap.size := by omega
        have lr4 := blk_lt D4.out.rb
        have K34 : Hid (∀ X, Kept (fun b => b = bF ∨ w4.heap.size ≤ b) w4 X → Kept (fun b => w3.heap.size ≤ b) w3 X) := fun X k => (k34.mono (fun _ _ h => h.elim)).trans (k.mono (fun b _ h => by omega))
        have hLl : L.length ≤ 4096 := by rw [hL]; have := lf_len (count := count) (fun i => u i || v i); omega
        have HLP : Hid (∀ x ∈ L, 1 ≤ x.1.2) := fun x hx => lf_pos (by rw [← hL]; exact hx)
        have hrF : w.heap.size + 1 ≠ bF := by have := blk_lt D3.out.rb; omega
        have hsz34 : w3.heap.size ≤ w4.heap.size := by omega
        clear hL hFz fB fA HW4 k34 hs4 hbF hbA CP lg3 lT3
        refine range_areas (first := first) (count := count) 85 10 rfl (by decide) (gf := 51) (lb := #[.pointer (some ⟨bA, 0, none⟩)]) rfl trivial (enters_of (Tryd.func51) (by kernel_rfl) rfl)
          hrun (fun h k => h.trans k) (fun W l o o' _ hl ho _ => KC.putObj _ W l o o' hl ho) (Below.refl _ _) rfl
          (AG w4 bF w4.heap.size) (fun _ pre _ => ¬ pre <+: L)
          (AG.own hbF4) (fun _ _ _ _ _ hs _ _ => hs) G4.out
          ?assign ?body ?done ?stop
        case assign =>
          intro lp pre x W K hi hK
          gi_wp2
          have hbg : w4.heap.size ≤ W.heap.size := hi.big
          have nb := blk_new W (.cells #[.int .i64 ((first : Int) + (x.1.1 : Int)), .int .i64 (x.1.2 : Int)] 30)
          have kk : Same W (W.alloc (.cells #[.int .i64 ((first : Int) + (x.1.1 : Int)), .int .i64 (x.1.2 : Int)] 30)) := same_alloc _ _
          have ko := (KeepsOthers.alloc W (.cells #[.int .i64 ((first : Int) + (x.1.1 : Int)), .int .i64 (x.1.2 : Int)] 30)).from w4.heap.size
          generalize W.heap.size = Bx at *
          exact hK _ _ ko (KC.of kk (fun _ h => h.elim)) (hi.same kk) ⟨Bx, hbg, nb, by simp⟩
        case body =>
          intro lp pre x Bx W hG hBx hbx hlt
          simp only [List.setIfInBounds_toArray, List.set_cons_succ, List.set_cons_zero]
          obtain ⟨⟨xa, xn⟩, hx⟩ := x
          dsimp only at hbx
          have x1 : W.cell? ⟨Bx, 1, none⟩ = some (.int .i64 (xn : Int)) := blk_cell hbx
          have HG := hidden hG
          have dz := hidden (D3.out.far (K34.out _ hG.kept))
          have hfp : fs pre ≤ 4096 * 4096 := by have h1 := fs_le (by omega : count ≤ 4096) pre; have h2 : pre.length ≤ 4096 := (by omega); have h3 := Nat.mul_le_mul_right 4096 h2; omega
          have hxn : xa + xn ≤ count := hx
          by_cases h0 : xn = 0
          · have NPF : Hid (¬ (pre ++ [⟨(xa, xn), hx⟩]) <+: L) := fun h => by
              have := HLP.out ⟨(xa, xn), hx⟩ (h.subset (by simp))
              dsimp only at this
              omega
            have t0 : (xn : Int) < 1 := by omega
            have z2 : W.cell? ⟨w.heap.size + 1, 0, none⟩ = some (.bool false) := blk_cell dz.out.rb
            have z3 : W.frozen? ⟨w.heap.size + 1, 0, none⟩ = false := blk_free dz.out.rb
            clear hG hbx hlt
            gi_wp2
            exact ⟨keepsFrom_one ((Kept.refl (fun k => k = w.heap.size + 1) W).setCell (p := ⟨w.heap.size + 1, 0, none⟩) rfl _) (by omega), NPF.out⟩
          · have t0 : ¬ (xn : Int) < 1 := by omega
            obtain ⟨fp, hfpe⟩ : ∃ fp, fp = fs pre := ⟨_, rfl⟩
            have z4 : W.cell? ⟨bF, 0, none⟩ = some (.int .i64 (fp : Int)) := by rw [hfpe]; exact blk_cell hG.fb
            have z5 : W.frozen? ⟨bF, 0, none⟩ = false := blk_free hG.fb
            have m1 : IntKind.i64.wrap ((fp : Int) + (xn : Int)) = (fp : Int) + (xn : Int) := by rw [IntKind.wrap_i64]; omega
            have HFP := hidden hfpe
            clear hG hbx hlt hfpe
            gi_wp2
            have KI : Kept (fun j => j = bF) W (W.setCell ⟨bF, 0, none⟩ (.int .i64 ((fp : Int) + (xn : Int)))) := (Kept.refl (fun k => k = bF) W).setCell (p := ⟨bF, 0, none⟩) rfl _
            refine ⟨keepsFrom_one KI (by omega), KC.of KI (fun _ h => h), HG.out.kept.trans (KI.mono (fun _ _ h => Or.inl h)), ?_, Nat.le_trans HG.out.big KI.size⟩
            have := blk_set (j := 0) HG.out.fb (.int .i64 ((fp : Int) + (xn : Int)))
            rw [fs_add, show ((fs pre + (⟨(xa, xn), hx⟩ : Rn count).1.2 : Nat) : Int) = (fp : Int) + (xn : Int) by rw [HFP.out]; simp]
            exact this
        case done =>
          rintro D ys X hDl hys hG hD
          rw [hys] at hG
          have dX := D3.out.far (K34.out _ hG.kept)
          have DX := hidden dX
          have D5 := hidden (dX.more hD (fun hm => by have := blk_lt (D3.out.ds D hm); omega) (by have := D4.out.same.size; omega))
          have zF : X.cell? ⟨bF, 0, none⟩ = some (.int .i64 (Fz : Int)) := by rw [HFz.out]; exact blk_cell hG.fb
          have zB : X.cell? ⟨w.heap.size, 1, none⟩ = some (.int .i64 (count : Int)) := blk_cell dX.box
          have KD := hidden (fun nn => (Kept.refl (fun _ => False) X).drewN nn)
          have CU : Hid (∀ nn, CallsIn Fence.wide 5 Tryd.prog 23 #[.pointer (some ⟨g, 0, none⟩)] (X.drewN nn) fun e w' => e = .returned (.int .i64 (U : Nat)) ∧ w' = X.drewN nn) := fun nn => (callsIn_wide (n := 5)).2 ((sp_used g first count u v res' (X.drewN nn) (DX.out.keep (KD.out nn)).sp).mono fun r w' h => ⟨by rw [hU]; exact h.1, h.2.symm⟩)
          have CV : Hid (∀ nn, CallsIn Fence.wide 5 Tryd.prog 24 #[.pointer (some ⟨g, 0, none⟩)] (X.drewN nn) fun e w' => e = .returned (.int .i64 (V : Nat)) ∧ w' = X.drewN nn) := fun nn => (callsIn_wide (n := 5)).2 ((sp_waiting g first count u v res' (X.drewN nn) (DX.out.keep (KD.out nn)).sp).mono fun r w' h => ⟨by rw [hV]; exact h.1, h.2.symm⟩)
          have CL := hidden (fun nn => (callsIn_wide (n := 5)).2 (sp_leftN g first count u v res' (X.drewN nn) (DX.out.keep (KD.out nn)).sp))
          rw [← hLz] at CL
          obtain ⟨UV, hUV⟩ : ∃ UV : Int, UV = (U : Int) + (V : Int) := ⟨_, rfl⟩
          have m1 : IntKind.i64.wrap ((U : Int) + (V : Int)) = UV := by rw [IntKind.wrap_i64]; omega
          have m2 : IntKind.i64.wrap (UV + (Fz : Int)) = (count : Int) := by rw [IntKind.wrap_i64]; omega
          have m3 : IntKind.i64.wrap ((Fz : Int) - (res' : Int)) = Lz := by rw [IntKind.wrap_i64]; omega
          have d1 : decide (Lz < 0) = false := by simp; omega
          have d2 : ¬ Lz < 0 := by omega
          have d3 : decide ((res' : Int) < 0) = false := by simp
          have d4 : ¬ (res' : Int) < 0 := by omega
          have m4 : IntKind.i64.wrap ((i : Int) + 1) = (i : Int) + 1 := by rw [IntKind.wrap_i64]; omega
          clear hG hD hys dX hU hV hLz hUV hcut hge hres hrun
          gi_wp2
          refine wpIn_region_quiet_lit rfl (by kernel_rfl) (by kernel_rfl) ?_
          repeat (refine wpQuietIn_step (by first | (go_simp; done) | (go_simp; intros; trivial) | (intros; trivial)) (fun K hK => ?_); go_simp; first | (refine hK _ ?_; clear hK K) | (apply Exists.intro; refine ⟨fun _ => ?_, hK _ ?_⟩; (first | (gi_at_call 23; exact CallsIn.quiet_of_same (CU.out _)) | (gi_at_call 24; exact CallsIn.quiet_of_same (CV.out _)) | (gi_at_call 25; exact CallsIn.quiet_of (CL.out _))); clear hK K))
          refine wpQuietIn_nil ?_
          intro _ hw'
          obtain ⟨nq, hw''⟩ := hw'
          subst hw''
          gi_wp2
          refine ⟨⟨i + 1, u, v, res', D :: Ds, by omega, rfl, D5.out.keep (KD.out nq)⟩, ?_⟩
          show n - (intOf (.int .i64 ((i : Int) + 1))).toNat < n - i
          simp [intOf]
          omega
        case stop =>
          rintro D cc pre X _ hp h _
          exact absurd hp h
    by_cases k0 : kd = 0
    · subst k0
      obtain ⟨y, u', v', res', hC, hai, hre⟩ := (ao_take (g := g) HA.out.ai nn).ex
      subst hre
      have HC := hidden hC
      clear hC

      gi_wp2_with (first
        | (refine ⟨trivial, ?_⟩; gi_at_call 15; refine ((callsIn_wide (n := 5)).2 (HC.out _ (HA.out.keep (same_alloc _ _)).sp (HA.out.keep (same_alloc _ _)).tab)).mono ?_; rintro e w3 ⟨rfl, s3, k3⟩; have D3 := hidden ((HA.out.keep (same_alloc W _)).next lT lg s3 k3 hai); clear s3 k3)
        | (refine ⟨trivial, ?_⟩; gi_at_call 22; refine (CP.out _ _).mono ?_; rintro e w4 ⟨rfl, hw4⟩; have HW4 := hidden hw4; clear hw4))

      obtain ⟨U, hU⟩ : ∃ U, U = cnt u' 4096 := ⟨_, rfl⟩
      obtain ⟨V, hV⟩ : ∃ V, V = cnt v' 4096 := ⟨_, rfl⟩
      obtain ⟨Lz, hLz⟩ : ∃ Lz, Lz = leftZ count u' v' res' := ⟨_, rfl⟩
      obtain ⟨L, hL⟩ : ∃ L, L = lf count (rp (fun i => u' i || v' i) count) := ⟨_, rfl⟩
      have hcut := D3.out.ai.cut hL
      have hge := D3.out.ai.ge
      have hres := D3.out.ai.pl.fits
      rw [← hU, ← hV, ← hLz] at hcut
      rw [← hLz] at hge
      have HL := hidden hL
      obtain ⟨Fz, hFz⟩ : ∃ Fz, Fz = fs L := ⟨_, rfl⟩
      rw [← hFz] at hcut
      have HFz := hidden hFz
      have k34 : Same w3 w4 := by rw [← HW4.out]; exact ((Kept.refl _ w3).alloc _).alloc _
      have hs4 : w4.heap.size = w3.heap.size + 2 := by rw [← HW4.out]; simp
      have fB : w4.heap[w3.heap.size]? = some (.cells #[.int .i64 0] 3 (0, 0)) := by rw [← HW4.out]; exact blk_alloc (blk_new w3 _) _
      have fA : w4.heap[w3.heap.size + 1]? = some (.cells #[.pointer (some ⟨g, 0, none⟩)] 25 (0, 0)) := by
        rw [← HW4.out]
        have z := blk_new (w3.alloc (.cells #[.int .i64 0] 3)) (.cells #[.pointer (some ⟨g, 0, none⟩)] 25)
        rw [World.size_alloc] at z
        exact z
      have D4 := hidden (D3.out.keep k34)
      have lg3 : g < w3.heap.size := by obtain ⟨cs, hb, _⟩ := D3.out.sp.box; exact blk_lt hb
      have lT3 := D3.out.tab.lt
      have hrun := runs_stops (fun b => b = w3.heap.size) w4 (w3.heap.size + 1) g first count u' v' res' fA D4.out.sp (TabB.of D4.out.tab) (by omega) (by omega) (by omega) (fun b hb => by omega)
      rw [← hL] at hrun
      obtain ⟨bF, hbF⟩ : ∃ b, b = w3.heap.size := ⟨_, rfl⟩
      obtain ⟨bA, hbA⟩ : ∃ b, b = w3.heap.size + 1 := ⟨_, rfl⟩
      rw [← hbA] at hrun ⊢
      rw [← hbF] at hrun fB ⊢
      have G4 : Hid (AG (count := count) w4 bF w4.heap.size [] w4) := ⟨Kept.refl _ _, fB, Nat.le_refl _⟩
      have hbF4 : bF < w4.heap.size := by omega
      have lr4 := blk_lt D4.out.rb
      have K34 : Hid (∀ X, Kept (fun b => b = bF ∨ w4.heap.size ≤ b) w4 X → Kept (fun b => w3.heap.size ≤ b) w3 X) := fun X k => (k34.mono (fun _ _ h => h.elim)).trans (k.mono (fun b _ h => by omega))
      have hLl : L.length ≤ 4096 := by rw [hL]; have := lf_len (count := count) (fun i => u' i || v' i); omega
      have HLP : Hid (∀ x ∈ L, 1 ≤ x.1.2) := fun x hx => lf_pos (by rw [← hL]; exact hx)
      have hrF : w.heap.size + 1 ≠ bF := by have := blk_lt D3.out.rb; omega
      have hsz34 : w3.heap.size ≤ w4.heap.size := by omega
      clear hL hFz fB fA HW4 k34 hs4 hbF hbA CP lg3 lT3
      refine range_areas (first := first) (count := count) 85 10 rfl (by decide) (gf := 51) (lb := #[.pointer (some ⟨bA, 0, none⟩)]) rfl trivial (enters_of (Tryd.func51) (by kernel_rfl) rfl)
        hrun (fun h k => h.trans k) (fun W l o o' _ hl ho _ => KC.putObj _ W l o o' hl ho) (Below.refl _ _) rfl
        (AG w4 bF w4.heap.size) (fun _ pre _ => ¬ pre <+: L)
        (AG.own hbF4) (fun _ _ _ _ _ hs _ _ => hs) G4.out
        ?assign ?body ?done ?stop
      case assign =>
        intro lp pre x W K hi hK
        gi_wp2
        have hbg : w4.heap.size ≤ W.heap.size := hi.big
        have nb := blk_new W (.cells #[.int .i64 ((first : Int) + (x.1.1 : Int)), .int .i64 (x.1.2 : Int)] 30)
        have kk : Same W (W.alloc (.cells #[.int .i64 ((first : Int) + (x.1.1 : Int)), .int .i64 (x.1.2 : Int)] 30)) := same_alloc _ _
        have ko := (KeepsOthers.alloc W (.cells #[.int .i64 ((first : Int) + (x.1.1 : Int)), .int .i64 (x.1.2 : Int)] 30)).from w4.heap.size
        generalize W.heap.size = Bx at *
        exact hK _ _ ko (KC.of kk (fun _ h => h.elim)) (hi.same kk) ⟨Bx, hbg, nb, by simp⟩
      case body =>
        intro lp pre x Bx W hG hBx hbx hlt
        simp only [List.setIfInBounds_toArray, List.set_cons_succ, List.set_cons_zero]
        obtain ⟨⟨xa, xn⟩, hx⟩ := x
        dsimp only at hbx
        have x1 : W.cell? ⟨Bx, 1, none⟩ = some (.int .i64 (xn : Int)) := blk_cell hbx
        have HG := hidden hG
        have dz := hidden (D3.out.far (K34.out _ hG.kept))
        have hfp : fs pre ≤ 4096 * 4096 := by have h1 := fs_le (by omega : count ≤ 4096) pre; have h2 : pre.length ≤ 4096 := (by omega); have h3 := Nat.mul_le_mul_right 4096 h2; omega
        have hxn : xa + xn ≤ count := hx
        by_cases h0 : xn = 0
        · have NPF : Hid (¬ (pre ++ [⟨(xa, xn), hx⟩]) <+: L) := fun h => by
            have := HLP.out ⟨(xa, xn), hx⟩ (h.subset (by simp))
            dsimp only at this
            omega
          have t0 : (xn : Int) < 1 := by omega
          have z2 : W.cell? ⟨w.heap.size + 1, 0, none⟩ = some (.bool false) := blk_cell dz.out.rb
          have z3 : W.frozen? ⟨w.heap.size + 1, 0, none⟩ = false := blk_free dz.out.rb
          clear hG hbx hlt
          gi_wp2
          exact ⟨keepsFrom_one ((Kept.refl (fun k => k = w.heap.size + 1) W).setCell (p := ⟨w.heap.size + 1, 0, none⟩) rfl _) (by omega), NPF.out⟩
        · have t0 : ¬ (xn : Int) < 1 := by omega
          obtain ⟨fp, hfpe⟩ : ∃ fp, fp = fs pre := ⟨_, rfl⟩
          have z4 : W.cell? ⟨bF, 0, none⟩ = some (.int .i64 (fp : Int)) := by rw [hfpe]; exact blk_cell hG.fb
          have z5 : W.frozen? ⟨bF, 0, none⟩ = false := blk_free hG.fb
          have m1 : IntKind.i64.wrap ((fp : Int) + (xn : Int)) = (fp : Int) + (xn : Int) := by rw [IntKind.wrap_i64]; omega
          have HFP := hidden hfpe
          clear hG hbx hlt hfpe
          gi_wp2
          have KI : Kept (fun j => j = bF) W (W.setCell ⟨bF, 0, none⟩ (.int .i64 ((fp : Int) + (xn : Int)))) := (Kept.refl (fun k => k = bF) W).setCell (p := ⟨bF, 0, none⟩) rfl _
          refine ⟨keepsFrom_one KI (by omega), KC.of KI (fun _ h => h), HG.out.kept.trans (KI.mono (fun _ _ h => Or.inl h)), ?_, Nat.le_trans HG.out.big KI.size⟩
          have := blk_set (j := 0) HG.out.fb (.int .i64 ((fp : Int) + (xn : Int)))
          rw [fs_add, show ((fs pre + (⟨(xa, xn), hx⟩ : Rn count).1.2 : Nat) : Int) = (fp : Int) + (xn : Int) by rw [HFP.out]; simp]
          exact this
      case done =>
        rintro D ys X hDl hys hG hD
        rw [hys] at hG
        have dX := D3.out.far (K34.out _ hG.kept)
        have DX := hidden dX
        have D5 := hidden (dX.more hD (fun hm => by have := blk_lt (D3.out.ds D hm); omega) (by have := D4.out.same.size; omega))
        have zF : X.cell? ⟨bF, 0, none⟩ = some (.int .i64 (Fz : Int)) := by rw [HFz.out]; exact blk_cell hG.fb
        have zB : X.cell? ⟨w.heap.size, 1, none⟩ = some (.int .i64 (count : Int)) := blk_cell dX.box
        have KD := hidden (fun nn => (Kept.refl (fun _ => False) X).drewN nn)
        have CU : Hid (∀ nn, CallsIn Fence.wide 5 Tryd.prog 23 #[.pointer (some ⟨g, 0, none⟩)] (X.drewN nn) fun e w' => e = .returned (.int .i64 (U : Nat)) ∧ w' = X.drewN nn) := fun nn => (callsIn_wide (n := 5)).2 ((sp_used g first count u' v' res' (X.drewN nn) (DX.out.keep (KD.out nn)).sp).mono fun r w' h => ⟨by rw [hU]; exact h.1, h.2.symm⟩)
        have CV : Hid (∀ nn, CallsIn Fence.wide 5 Tryd.prog 24 #[.pointer (some ⟨g, 0, none⟩)] (X.drewN nn) fun e w' => e = .returned (.int .i64 (V : Nat)) ∧ w' = X.drewN nn) := fun nn => (callsIn_wide (n := 5)).2 ((sp_waiting g first count u' v' res' (X.drewN nn) (DX.out.keep (KD.out nn)).sp).mono fun r w' h => ⟨by rw [hV]; exact h.1, h.2.symm⟩)
        have CL := hidden (fun nn => (callsIn_wide (n := 5)).2 (sp_leftN g first count u' v' res' (X.drewN nn) (DX.out.keep (KD.out nn)).sp))
        rw [← hLz] at CL
        obtain ⟨UV, hUV⟩ : ∃ UV : Int, UV = (U : Int) + (V : Int) := ⟨_, rfl⟩
        have m1 : IntKind.i64.wrap ((U : Int) + (V : Int)) = UV := by rw [IntKind.wrap_i64]; omega
        have m2 : IntKind.i64.wrap (UV + (Fz : Int)) = (count : Int) := by rw [IntKind.wrap_i64]; omega
        have m3 : IntKind.i64.wrap ((Fz : Int) - (res' : Int)) = Lz := by rw [IntKind.wrap_i64]; omega
        have d1 : decide (Lz < 0) = false := by simp; omega
        have d2 : ¬ Lz < 0 := by omega
        have d3 : decide ((res' : Int) < 0) = false := by simp
        have d4 : ¬ (res' : Int) < 0 := by omega
        have m4 : IntKind.i64.wrap ((i : Int) + 1) = (i : Int) + 1 := by rw [IntKind.wrap_i64]; omega
        clear hG hD hys dX hU hV hLz hUV hcut hge hres hrun
        gi_wp2
        refine wpIn_region_quiet_lit rfl (by kernel_rfl) (by kernel_rfl) ?_
        repeat (refine wpQuietIn_step (by first | (go_simp; done) | (go_simp; intros; trivial) | (intros; trivial)) (fun K hK => ?_); go_simp; first | (refine hK _ ?_; clear hK K) | (apply Exists.intro; refine ⟨fun _ => ?_, hK _ ?_⟩; (first | (gi_at_call 23; exact CallsIn.quiet_of_same (CU.out _)) | (gi_at_call 24; exact CallsIn.quiet_of_same (CV.out _)) | (gi_at_call 25; exact CallsIn.quiet_of (CL.out _))); clear hK K))
        refine wpQuietIn_nil ?_
        intro _ hw'
        obtain ⟨nq, hw''⟩ := hw'
        subst hw''
        gi_wp2
        refine ⟨⟨i + 1, u', v', res', D :: Ds, by omega, rfl, D5.out.keep (KD.out nq)⟩, ?_⟩
        show n - (intOf (.int .i64 ((i : Int) + 1))).toNat < n - i
        simp [intOf]
        omega
      case stop =>
        rintro D cc pre X _ hp h _
        exact absurd hp h
    by_cases k1 : kd = 1
    · subst k1
      obtain ⟨y, u', v', res', hC, hai, hre⟩ := (ao_mark (g := g) HA.out.ai af ac haf).ex
      subst hre
      have HC := hidden hC
      clear hC

      gi_wp2_with (first
        | (refine ⟨trivial, ?_⟩; gi_at_call 21; refine ((callsIn_wide (n := 5)).2 (HC.out _ (HA.out.keep (same_alloc _ _)).sp (HA.out.keep (same_alloc _ _)).tab)).mono ?_; rintro e w3 ⟨rfl, s3, k3⟩; have D3 := hidden ((HA.out.keep (same_alloc W _)).next lT lg s3 k3 hai); clear s3 k3)
        | (refine ⟨trivial, ?_⟩; gi_at_call 22; refine (CP.out _ _).mono ?_; rintro e w4 ⟨rfl, hw4⟩; have HW4 := hidden hw4; clear hw4))

      obtain ⟨U, hU⟩ : ∃ U, U = cnt u' 4096 := ⟨_, rfl⟩
      obtain ⟨V, hV⟩ : ∃ V, V = cnt v' 4096 := ⟨_, rfl⟩
      obtain ⟨Lz, hLz⟩ : ∃ Lz, Lz = leftZ count u' v' res' := ⟨_, rfl⟩
      obtain ⟨L, hL⟩ : ∃ L, L = lf count (rp (fun i => u' i || v' i) count) := ⟨_, rfl⟩
      have hcut := D3.out.ai.cut hL
      have hge := D3.out.ai.ge
      have hres := D3.out.ai.pl.fits
      rw [← hU, ← hV, ← hLz] at hcut
      rw [← hLz] at hge
      have HL := hidden hL
      obtain ⟨Fz, hFz⟩ : ∃ Fz, Fz = fs L := ⟨_, rfl⟩
      rw [← hFz] at hcut
      have HFz := hidden hFz
      have k34 : Same w3 w4 := by rw [← HW4.out]; exact ((Kept.refl _ w3).alloc _).alloc _
      have hs4 : w4.heap.size = w3.heap.size + 2 := by rw [← HW4.out]; simp
      have fB : w4.heap[w3.heap.size]? = some (.cells #[.int .i64 0] 3 (0, 0)) := by rw [← HW4.out]; exact blk_alloc (blk_new w3 _) _
      have fA : w4.heap[w3.heap.size + 1]? = some (.cells #[.pointer (some ⟨g, 0, none⟩)] 25 (0, 0)) := by
        rw [← HW4.out]
        have z := blk_new (w3.alloc (.cells #[.int .i64 0] 3)) (.cells #[.pointer (some ⟨g, 0, none⟩)] 25)
        rw [World.size_alloc] at z
        exact z
      have D4 := hidden (D3.out.keep k34)
      have lg3 : g < w3.heap.size := by obtain ⟨cs, hb, _⟩ := D3.out.sp.box; exact blk_lt hb
      have lT3 := D3.out.tab.lt
      have hrun := runs_stops (fun b => b = w3.heap.size) w4 (w3.heap.size + 1) g first count u' v' res' fA D4.out.sp (TabB.of D4.out.tab) (by omega) (by omega) (by omega) (fun b hb => by omega)
      rw [← hL] at hrun
      obtain ⟨bF, hbF⟩ : ∃ b, b = w3.heap.size := ⟨_, rfl⟩
      obtain ⟨bA, hbA⟩ : ∃ b, b = w3.heap.size + 1 := ⟨_, rfl⟩
      rw [← hbA] at hrun ⊢
      rw [← hbF] at hrun fB ⊢
      have G4 : Hid (AG (count := count) w4 bF w4.heap.size [] w4) := ⟨Kept.refl _ _, fB, Nat.le_refl _⟩
      have hbF4 : bF < w4.heap.size := by omega
      have lr4 := blk_lt D4.out.rb
      have K34 : Hid (∀ X, Kept (fun b => b = bF ∨ w4.heap.size ≤ b) w4 X → Kept (fun b => w3.heap.size ≤ b) w3 X) := fun X k => (k34.mono (fun _ _ h => h.elim)).trans (k.mono (fun b _ h => by omega))
      have hLl : L.length ≤ 4096 := by rw [hL]; have := lf_len (count := count) (fun i => u' i || v' i); omega
      have HLP : Hid (∀ x ∈ L, 1 ≤ x.1.2) := fun x hx => lf_pos (by rw [← hL]; exact hx)
      have hrF : w.heap.size + 1 ≠ bF := by have := blk_lt D3.out.rb; omega
      have hsz34 : w3.heap.size ≤ w4.heap.size := by omega
      clear hL hFz fB fA HW4 k34 hs4 hbF hbA CP lg3 lT3
      refine range_areas (first := first) (count := count) 85 10 rfl (by decide) (gf := 51) (lb := #[.pointer (some ⟨bA, 0, none⟩)]) rfl trivial (enters_of (Tryd.func51) (by kernel_rfl) rfl)
        hrun (fun h k => h.trans k) (fun W l o o' _ hl ho _ => KC.putObj _ W l o o' hl ho) (Below.refl _ _) rfl
        (AG w4 bF w4.heap.size) (fun _ pre _ => ¬ pre <+: L)
        (AG.own hbF4) (fun _ _ _ _ _ hs _ _ => hs) G4.out
        ?assign ?body ?done ?stop
      case assign =>
        intro lp pre x W K hi hK
        gi_wp2
        have hbg : w4.heap.size ≤ W.heap.size := hi.big
        have nb := blk_new W (.cells #[.int .i64 ((first : Int) + (x.1.1 : Int)), .int .i64 (x.1.2 : Int)] 30)
        have kk : Same W (W.alloc (.cells #[.int .i64 ((first : Int) + (x.1.1 : Int)), .int .i64 (x.1.2 : Int)] 30)) := same_alloc _ _
        have ko := (KeepsOthers.alloc W (.cells #[.int .i64 ((first : Int) + (x.1.1 : Int)), .int .i64 (x.1.2 : Int)] 30)).from w4.heap.size
        generalize W.heap.size = Bx at *
        exact hK _ _ ko (KC.of kk (fun _ h => h.elim)) (hi.same kk) ⟨Bx, hbg, nb, by simp⟩
      case body =>
        intro lp pre x Bx W hG hBx hbx hlt
        simp only [List.setIfInBounds_toArray, List.set_cons_succ, List.set_cons_zero]
        obtain ⟨⟨xa, xn⟩, hx⟩ := x
        dsimp only at hbx
        have x1 : W.cell? ⟨Bx, 1, none⟩ = some (.int .i64 (xn : Int)) := blk_cell hbx
        have HG := hidden hG
        have dz := hidden (D3.out.far (K34.out _ hG.kept))
        have hfp : fs pre ≤ 4096 * 4096 := by have h1 := fs_le (by omega : count ≤ 4096) pre; have h2 : pre.length ≤ 4096 := (by omega); have h3 := Nat.mul_le_mul_right 4096 h2; omega
        have hxn : xa + xn ≤ count := hx
        by_cases h0 : xn = 0
        · have NPF : Hid (¬ (pre ++ [⟨(xa, xn), hx⟩]) <+: L) := fun h => by
            have := HLP.out ⟨(xa, xn), hx⟩ (h.subset (by simp))
            dsimp only at this
            omega
          have t0 : (xn : Int) < 1 := by omega
          have z2 : W.cell? ⟨w.heap.size + 1, 0, none⟩ = some (.bool false) := blk_cell dz.out.rb
          have z3 : W.frozen? ⟨w.heap.size + 1, 0, none⟩ = false := blk_free dz.out.rb
          clear hG hbx hlt
          gi_wp2
          exact ⟨keepsFrom_one ((Kept.refl (fun k => k = w.heap.size + 1) W).setCell (p := ⟨w.heap.size + 1, 0, none⟩) rfl _) (by omega), NPF.out⟩
        · have t0 : ¬ (xn : Int) < 1 := by omega
          obtain ⟨fp, hfpe⟩ : ∃ fp, fp = fs pre := ⟨_, rfl⟩
          have z4 : W.cell? ⟨bF, 0, none⟩ = some (.int .i64 (fp : Int)) := by rw [hfpe]; exact blk_cell hG.fb
          have z5 : W.frozen? ⟨bF, 0, none⟩ = false := blk_free hG.fb
          have m1 : IntKind.i64.wrap ((fp : Int) + (xn : Int)) = (fp : Int) + (xn : Int) := by rw [IntKind.wrap_i64]; omega
          have HFP := hidden hfpe
          clear hG hbx hlt hfpe
          gi_wp2
          have KI : Kept (fun j => j = bF) W (W.setCell ⟨bF, 0, none⟩ (.int .i64 ((fp : Int) + (xn : Int)))) := (Kept.refl (fun k => k = bF) W).setCell (p := ⟨bF, 0, none⟩) rfl _
          refine ⟨keepsFrom_one KI (by omega), KC.of KI (fun _ h => h), HG.out.kept.trans (KI.mono (fun _ _ h => Or.inl h)), ?_, Nat.le_trans HG.out.big KI.size⟩
          have := blk_set (j := 0) HG.out.fb (.int .i64 ((fp : Int) + (xn : Int)))
          rw [fs_add, show ((fs pre + (⟨(xa, xn), hx⟩ : Rn count).1.2 : Nat) : Int) = (fp : Int) + (xn : Int) by rw [HFP.out]; simp]
          exact this
      case done =>
        rintro D ys X hDl hys hG hD
        rw [hys] at hG
        have dX := D3.out.far (K34.out _ hG.kept)
        have DX := hidden dX
        have D5 := hidden (dX.more hD (fun hm => by have := blk_lt (D3.out.ds D hm); omega) (by have := D4.out.same.size; omega))
        have zF : X.cell? ⟨bF, 0, none⟩ = some (.int .i64 (Fz : Int)) := by rw [HFz.out]; exact blk_cell hG.fb
        have zB : X.cell? ⟨w.heap.size, 1, none⟩ = some (.int .i64 (count : Int)) := blk_cell dX.box
        have KD := hidden (fun nn => (Kept.refl (fun _ => False) X).drewN nn)
        have CU : Hid (∀ nn, CallsIn Fence.wide 5 Tryd.prog 23 #[.pointer (some ⟨g, 0, none⟩)] (X.drewN nn) fun e w' => e = .returned (.int .i64 (U : Nat)) ∧ w' = X.drewN nn) := fun nn => (callsIn_wide (n := 5)).2 ((sp_used g first count u' v' res' (X.drewN nn) (DX.out.keep (KD.out nn)).sp).mono fun r w' h => ⟨by rw [hU]; exact h.1, h.2.symm⟩)
        have CV : Hid (∀ nn, CallsIn Fence.wide 5 Tryd.prog 24 #[.pointer (some ⟨g, 0, none⟩)] (X.drewN nn) fun e w' => e = .returned (.int .i64 (V : Nat)) ∧ w' = X.drewN nn) := fun nn => (callsIn_wide (n := 5)).2 ((sp_waiting g first count u' v' res' (X.drewN nn) (DX.out.keep (KD.out nn)).sp).mono fun r w' h => ⟨by rw [hV]; exact h.1, h.2.symm⟩)
        have CL := hidden (fun nn => (callsIn_wide (n := 5)).2 (sp_leftN g first count u' v' res' (X.drewN nn) (DX.out.keep (KD.out nn)).sp))
        rw [← hLz] at CL
        obtain ⟨UV, hUV⟩ : ∃ UV : Int, UV = (U : Int) + (V : Int) := ⟨_, rfl⟩
        have m1 : IntKind.i64.wrap ((U : Int) + (V : Int)) = UV := by rw [IntKind.wrap_i64]; omega
        have m2 : IntKind.i64.wrap (UV + (Fz : Int)) = (count : Int) := by rw [IntKind.wrap_i64]; omega
        have m3 : IntKind.i64.wrap ((Fz : Int) - (res' : Int)) = Lz := by rw [IntKind.wrap_i64]; omega
        have d1 : decide (Lz < 0) = false := by simp; omega
        have d2 : ¬ Lz < 0 := by omega
        have d3 : decide ((res' : Int) < 0) = false := by simp
        have d4 : ¬ (res' : Int) < 0 := by omega
        have m4 : IntKind.i64.wrap ((i : Int) + 1) = (i : Int) + 1 := by rw [IntKind.wrap_i64]; omega
        clear hG hD hys dX hU hV hLz hUV hcut hge hres hrun
        gi_wp2
        refine wpIn_region_quiet_lit rfl (by kernel_rfl) (by kernel_rfl) ?_
        repeat (refine wpQuietIn_step (by first | (go_simp; done) | (go_simp; intros; trivial) | (intros; trivial)) (fun K hK => ?_); go_simp; first | (refine hK _ ?_; clear hK K) | (apply Exists.intro; refine ⟨fun _ => ?_, hK _ ?_⟩; (first | (gi_at_call 23; exact CallsIn.quiet_of_same (CU.out _)) | (gi_at_call 24; exact CallsIn.quiet_of_same (CV.out _)) | (gi_at_call 25; exact CallsIn.quiet_of (CL.out _))); clear hK K))
        refine wpQuietIn_nil ?_
        intro _ hw'
        obtain ⟨nq, hw''⟩ := hw'
        subst hw''
        gi_wp2
        refine ⟨⟨i + 1, u', v', res', D :: Ds, by omega, rfl, D5.out.keep (KD.out nq)⟩, ?_⟩
        show n - (intOf (.int .i64 ((i : Int) + 1))).toNat < n - i
        simp [intOf]
        omega
      case stop =>
        rintro D cc pre X _ hp h _
        exact absurd hp h
    by_cases k2 : kd = 2
    · subst k2
      obtain ⟨y, u', v', res', hC, hai, hre⟩ := (ao_free (g := g) HA.out.ai af ac haf).ex
      subst hre
      have HC := hidden hC
      clear hC

      gi_wp2_with (first
        | (refine ⟨trivial, ?_⟩; gi_at_call 16; refine ((callsIn_wide (n := 5)).2 (HC.out _ (HA.out.keep (same_alloc _ _)).sp (HA.out.keep (same_alloc _ _)).tab)).mono ?_; rintro e w3 ⟨rfl, s3, k3⟩; have D3 := hidden ((HA.out.keep (same_alloc W _)).next lT lg s3 k3 hai); clear s3 k3)
        | (refine ⟨trivial, ?_⟩; gi_at_call 22; refine (CP.out _ _).mono ?_; rintro e w4 ⟨rfl, hw4⟩; have HW4 := hidden hw4; clear hw4))

      obtain ⟨U, hU⟩ : ∃ U, U = cnt u' 4096 := ⟨_, rfl⟩
      obtain ⟨V, hV⟩ : ∃ V, V = cnt v' 4096 := ⟨_, rfl⟩
      obtain ⟨Lz, hLz⟩ : ∃ Lz, Lz = leftZ count u' v' res' := ⟨_, rfl⟩
      obtain ⟨L, hL⟩ : ∃ L, L = lf count (rp (fun i => u' i || v' i) count) := ⟨_, rfl⟩
      have hcut := D3.out.ai.cut hL
      have hge := D3.out.ai.ge
      have hres := D3.out.ai.pl.fits
      rw [← hU, ← hV, ← hLz] at hcut
      rw [← hLz] at hge
      have HL := hidden hL
      obtain ⟨Fz, hFz⟩ : ∃ Fz, Fz = fs L := ⟨_, rfl⟩
      rw [← hFz] at hcut
      have HFz := hidden hFz
      have k34 : Same w3 w4 := by rw [← HW4.out]; exact ((Kept.refl _ w3).alloc _).alloc _
      have hs4 : w4.heap.size = w3.heap.size + 2 := by rw [← HW4.out]; simp
      have fB : w4.heap[w3.heap.size]? = some (.cells #[.int .i64 0] 3 (0, 0)) := by rw [← HW4.out]; exact blk_alloc (blk_new w3 _) _
      have fA : w4.heap[w3.heap.size + 1]? = some (.cells #[.pointer (some ⟨g, 0, none⟩)] 25 (0, 0)) := by
        rw [← HW4.out]
        have z := blk_new (w3.alloc (.cells #[.int .i64 0] 3)) (.cells #[.pointer (some ⟨g, 0, none⟩)] 25)
        rw [World.size_alloc] at z
        exact z
      have D4 := hidden (D3.out.keep k34)
      have lg3 : g < w3.heap.size := by obtain ⟨cs, hb, _⟩ := D3.out.sp.box; exact blk_lt hb
      have lT3 := D3.out.tab.lt
      have hrun := runs_stops (fun b => b = w3.heap.size) w4 (w3.heap.size + 1) g first count u' v' res' fA D4.out.sp (TabB.of D4.out.tab) (by omega) (by omega) (by omega) (fun b hb => by omega)
      rw [← hL] at hrun
      obtain ⟨bF, hbF⟩ : ∃ b, b = w3.heap.size := ⟨_, rfl⟩
      obtain ⟨bA, hbA⟩ : ∃ b, b = w3.heap.size + 1 := ⟨_, rfl⟩
      rw [← hbA] at hrun ⊢
      rw [← hbF] at hrun fB ⊢
      have G4 : Hid (AG (count := count) w4 bF w4.heap.size [] w4) := ⟨Kept.refl _ _, fB, Nat.le_refl _⟩
      have hbF4 : bF < w4.heap.size := by omega
      have lr4 := blk_lt D4.out.rb
      have K34 : Hid (∀ X, Kept (fun b => b = bF ∨ w4.heap.size ≤ b) w4 X → Kept (fun b => w3.heap.size ≤ b) w3 X) := fun X k => (k34.mono (fun _ _ h => h.elim)).trans (k.mono (fun b _ h => by omega))
      have hLl : L.length ≤ 4096 := by rw [hL]; have := lf_len (count := count) (fun i => u' i || v' i); omega
      have HLP : Hid (∀ x ∈ L, 1 ≤ x.1.2) := fun x hx => lf_pos (by rw [← hL]; exact hx)
      have hrF : w.heap.size + 1 ≠ bF := by have := blk_lt D3.out.rb; omega
      have hsz34 : w3.heap.size ≤ w4.heap.size := by omega
      clear hL hFz fB fA HW4 k34 hs4 hbF hbA CP lg3 lT3
      refine range_areas (first := first) (count := count) 85 10 rfl (by decide) (gf := 51) (lb := #[.pointer (some ⟨bA, 0, none⟩)]) rfl trivial (enters_of (Tryd.func51) (by kernel_rfl) rfl)
        hrun (fun h k => h.trans k) (fun W l o o' _ hl ho _ => KC.putObj _ W l o o' hl ho) (Below.refl _ _) rfl
        (AG w4 bF w4.heap.size) (fun _ pre _ => ¬ pre <+: L)
        (AG.own hbF4) (fun _ _ _ _ _ hs _ _ => hs) G4.out
        ?assign ?body ?done ?stop
      case assign =>
        intro lp pre x W K hi hK
        gi_wp2
        have hbg : w4.heap.size ≤ W.heap.size := hi.big
        have nb := blk_new W (.cells #[.int .i64 ((first : Int) + (x.1.1 : Int)), .int .i64 (x.1.2 : Int)] 30)
        have kk : Same W (W.alloc (.cells #[.int .i64 ((first : Int) + (x.1.1 : Int)), .int .i64 (x.1.2 : Int)] 30)) := same_alloc _ _
        have ko := (KeepsOthers.alloc W (.cells #[.int .i64 ((first : Int) + (x.1.1 : Int)), .int .i64 (x.1.2 : Int)] 30)).from w4.heap.size
        generalize W.heap.size = Bx at *
        exact hK _ _ ko (KC.of kk (fun _ h => h.elim)) (hi.same kk) ⟨Bx, hbg, nb, by simp⟩
      case body =>
        intro lp pre x Bx W hG hBx hbx hlt
        simp only [List.setIfInBounds_toArray, List.set_cons_succ, List.set_cons_zero]
        obtain ⟨⟨xa, xn⟩, hx⟩ := x
        dsimp only at hbx
        have x1 : W.cell? ⟨Bx, 1, none⟩ = some (.int .i64 (xn : Int)) := blk_cell hbx
        have HG := hidden hG
        have dz := hidden (D3.out.far (K34.out _ hG.kept))
        have hfp : fs pre ≤ 4096 * 4096 := by have h1 := fs_le (by omega : count ≤ 4096) pre; have h2 : pre.length ≤ 4096 := (by omega); have h3 := Nat.mul_le_mul_right 4096 h2; omega
        have hxn : xa + xn ≤ count := hx
        by_cases h0 : xn = 0
        · have NPF : Hid (¬ (pre ++ [⟨(xa, xn), hx⟩]) <+: L) := fun h => by
            have := HLP.out ⟨(xa, xn), hx⟩ (h.subset (by simp))
            dsimp only at this
            omega
          have t0 : (xn : Int) < 1 := by omega
          have z2 : W.cell? ⟨w.heap.size + 1, 0, none⟩ = some (.bool false) := blk_cell dz.out.rb
          have z3 : W.frozen? ⟨w.heap.size + 1, 0, none⟩ = false := blk_free dz.out.rb
          clear hG hbx hlt
          gi_wp2
          exact ⟨keepsFrom_one ((Kept.refl (fun k => k = w.heap.size + 1) W).setCell (p := ⟨w.heap.size + 1, 0, none⟩) rfl _) (by omega), NPF.out⟩
        · have t0 : ¬ (xn : Int) < 1 := by omega
          obtain ⟨fp, hfpe⟩ : ∃ fp, fp = fs pre := ⟨_, rfl⟩
          have z4 : W.cell? ⟨bF, 0, none⟩ = some (.int .i64 (fp : Int)) := by rw [hfpe]; exact blk_cell hG.fb
          have z5 : W.frozen? ⟨bF, 0, none⟩ = false := blk_free hG.fb
          have m1 : IntKind.i64.wrap ((fp : Int) + (xn : Int)) = (fp : Int) + (xn : Int) := by rw [IntKind.wrap_i64]; omega
          have HFP := hidden hfpe
          clear hG hbx hlt hfpe
          gi_wp2
          have KI : Kept (fun j => j = bF) W (W.setCell ⟨bF, 0, none⟩ (.int .i64 ((fp : Int) + (xn : Int)))) := (Kept.refl (fun k => k = bF) W).setCell (p := ⟨bF, 0, none⟩) rfl _
          refine ⟨keepsFrom_one KI (by omega), KC.of KI (fun _ h => h), HG.out.kept.trans (KI.mono (fun _ _ h => Or.inl h)), ?_, Nat.le_trans HG.out.big KI.size⟩
          have := blk_set (j := 0) HG.out.fb (.int .i64 ((fp : Int) + (xn : Int)))
          rw [fs_add, show ((fs pre + (⟨(xa, xn), hx⟩ : Rn count).1.2 : Nat) : Int) = (fp : Int) + (xn : Int) by rw [HFP.out]; simp]
          exact this
      case done =>
        rintro D ys X hDl hys hG hD
        rw [hys] at hG
        have dX := D3.out.far (K34.out _ hG.kept)
        have DX := hidden dX
        have D5 := hidden (dX.more hD (fun hm => by have := blk_lt (D3.out.ds D hm); omega) (by have := D4.out.same.size; omega))
        have zF : X.cell? ⟨bF, 0, none⟩ = some (.int .i64 (Fz : Int)) := by rw [HFz.out]; exact blk_cell hG.fb
        have zB : X.cell? ⟨w.heap.size, 1, none⟩ = some (.int .i64 (count : Int)) := blk_cell dX.box
        have KD := hidden (fun nn => (Kept.refl (fun _ => False) X).drewN nn)
        have CU : Hid (∀ nn, CallsIn Fence.wide 5 Tryd.prog 23 #[.pointer (some ⟨g, 0, none⟩)] (X.drewN nn) fun e w' => e = .returned (.int .i64 (U : Nat)) ∧ w' = X.drewN nn) := fun nn => (callsIn_wide (n := 5)).2 ((sp_used g first count u' v' res' (X.drewN nn) (DX.out.keep (KD.out nn)).sp).mono fun r w' h => ⟨by rw [hU]; exact h.1, h.2.symm⟩)
        have CV : Hid (∀ nn, CallsIn Fence.wide 5 Tryd.prog 24 #[.pointer (some ⟨g, 0, none⟩)] (X.drewN nn) fun e w' => e = .returned (.int .i64 (V : Nat)) ∧ w' = X.drewN nn) := fun nn => (callsIn_wide (n := 5)).2 ((sp_waiting g first count u' v' res' (X.drewN nn) (DX.out.keep (KD.out nn)).sp).mono fun r w' h => ⟨by rw [hV]; exact h.1, h.2.symm⟩)
        have CL := hidden (fun nn => (callsIn_wide (n := 5)).2 (sp_leftN g first count u' v' res' (X.drewN nn) (DX.out.keep (KD.out nn)).sp))
        rw [← hLz] at CL
        obtain ⟨UV, hUV⟩ : ∃ UV : Int, UV = (U : Int) + (V : Int) := ⟨_, rfl⟩
        have m1 : IntKind.i64.wrap ((U : Int) + (V : Int)) = UV := by rw [IntKind.wrap_i64]; omega
        have m2 : IntKind.i64.wrap (UV + (Fz : Int)) = (count : Int) := by rw [IntKind.wrap_i64]; omega
        have m3 : IntKind.i64.wrap ((Fz : Int) - (res' : Int)) = Lz := by rw [IntKind.wrap_i64]; omega
        have d1 : decide (Lz < 0) = false := by simp; omega
        have d2 : ¬ Lz < 0 := by omega
        have d3 : decide ((res' : Int) < 0) = false := by simp
        have d4 : ¬ (res' : Int) < 0 := by omega
        have m4 : IntKind.i64.wrap ((i : Int) + 1) = (i : Int) + 1 := by rw [IntKind.wrap_i64]; omega
        clear hG hD hys dX hU hV hLz hUV hcut hge hres hrun
        gi_wp2
        refine wpIn_region_quiet_lit rfl (by kernel_rfl) (by kernel_rfl) ?_
        repeat (refine wpQuietIn_step (by first | (go_simp; done) | (go_simp; intros; trivial) | (intros; trivial)) (fun K hK => ?_); go_simp; first | (refine hK _ ?_; clear hK K) | (apply Exists.intro; refine ⟨fun _ => ?_, hK _ ?_⟩; (first | (gi_at_call 23; exact CallsIn.quiet_of_same (CU.out _)) | (gi_at_call 24; exact CallsIn.quiet_of_same (CV.out _)) | (gi_at_call 25; exact CallsIn.quiet_of (CL.out _))); clear hK K))
        refine wpQuietIn_nil ?_
        intro _ hw'
        obtain ⟨nq, hw''⟩ := hw'
        subst hw''
        gi_wp2
        refine ⟨⟨i + 1, u', v', res', D :: Ds, by omega, rfl, D5.out.keep (KD.out nq)⟩, ?_⟩
        show n - (intOf (.int .i64 ((i : Int) + 1))).toNat < n - i
        simp [intOf]
        omega
      case stop =>
        rintro D cc pre X _ hp h _
        exact absurd hp h
    by_cases k3 : kd = 3
    · subst k3
      obtain ⟨y, u', v', res', hC, hai, hre⟩ := (ao_later (g := g) HA.out.ai af ac haf).ex
      subst hre
      have HC := hidden hC
      clear hC

      gi_wp2_with (first
        | (refine ⟨trivial, ?_⟩; gi_at_call 17; refine ((callsIn_wide (n := 5)).2 (HC.out _ (HA.out.keep (same_alloc _ _)).sp (HA.out.keep (same_alloc _ _)).tab)).mono ?_; rintro e w3 ⟨rfl, s3, k3⟩; have D3 := hidden ((HA.out.keep (same_alloc W _)).next lT lg s3 k3 hai); clear s3 k3)
        | (refine ⟨trivial, ?_⟩; gi_at_call 22; refine (CP.out _ _).mono ?_; rintro e w4 ⟨rfl, hw4⟩; have HW4 := hidden hw4; clear hw4))

      obtain ⟨U, hU⟩ : ∃ U, U = cnt u' 4096 := ⟨_, rfl⟩
      obtain ⟨V, hV⟩ : ∃ V, V = cnt v' 4096 := ⟨_, rfl⟩
      obtain ⟨Lz, hLz⟩ : ∃ Lz, Lz = leftZ count u' v' res' := ⟨_, rfl⟩
      obtain ⟨L, hL⟩ : ∃ L, L = lf count (rp (fun i => u' i || v' i) count) := ⟨_, rfl⟩
      have hcut := D3.out.ai.cut hL
      have hge := D3.out.ai.ge
      have hres := D3.out.ai.pl.fits
      rw [← hU, ← hV, ← hLz] at hcut
      rw [← hLz] at hge
      have HL := hidden hL
      obtain ⟨Fz, hFz⟩ : ∃ Fz, Fz = fs L := ⟨_, rfl⟩
      rw [← hFz] at hcut
      have HFz := hidden hFz
      have k34 : Same w3 w4 := by rw [← HW4.out]; exact ((Kept.refl _ w3).alloc _).alloc _
      have hs4 : w4.heap.size = w3.heap.size + 2 := by rw [← HW4.out]; simp
      have fB : w4.heap[w3.heap.size]? = some (.cells #[.int .i64 0] 3 (0, 0)) := by rw [← HW4.out]; exact blk_alloc (blk_new w3 _) _
      have fA : w4.heap[w3.heap.size + 1]? = some (.cells #[.pointer (some ⟨g, 0, none⟩)] 25 (0, 0)) := by
        rw [← HW4.out]
        have z := blk_new (w3.alloc (.cells #[.int .i64 0] 3)) (.cells #[.pointer (some ⟨g, 0, none⟩)] 25)
        rw [World.size_alloc] at z
        exact z
      have D4 := hidden (D3.out.keep k34)
      have lg3 : g < w3.heap.size := by obtain ⟨cs, hb, _⟩ := D3.out.sp.box; exact blk_lt hb
      have lT3 := D3.out.tab.lt
      have hrun := runs_stops (fun b => b = w3.heap.size) w4 (w3.heap.size + 1) g first count u' v' res' fA D4.out.sp (TabB.of D4.out.tab) (by omega) (by omega) (by omega) (fun b hb => by omega)
      rw [← hL] at hrun
      obtain ⟨bF, hbF⟩ : ∃ b, b = w3.heap.size := ⟨_, rfl⟩
      obtain ⟨bA, hbA⟩ : ∃ b, b = w3.heap.size + 1 := ⟨_, rfl⟩
      rw [← hbA] at hrun ⊢
      rw [← hbF] at hrun fB ⊢
      have G4 : Hid (AG (count := count) w4 bF w4.heap.size [] w4) := ⟨Kept.refl _ _, fB, Nat.le_refl _⟩
      have hbF4 : bF < w4.heap.size := by omega
      have lr4 := blk_lt D4.out.rb
      have K34 : Hid (∀ X, Kept (fun b => b = bF ∨ w4.heap.size ≤ b) w4 X → Kept (fun b => w3.heap.size ≤ b) w3 X) := fun X k => (k34.mono (fun _ _ h => h.elim)).trans (k.mono (fun b _ h => by omega))
      have hLl : L.length ≤ 4096 := by rw [hL]; have := lf_len (count := count) (fun i => u' i || v' i); omega
      have HLP : Hid (∀ x ∈ L, 1 ≤ x.1.2) := fun x hx => lf_pos (by rw [← hL]; exact hx)
      have hrF : w.heap.size + 1 ≠ bF := by have := blk_lt D3.out.rb; omega
      have hsz34 : w3.heap.size ≤ w4.heap.size := by omega
      clear hL hFz fB fA HW4 k34 hs4 hbF hbA CP lg3 lT3
      refine range_areas (first := first) (count := count) 85 10 rfl (by decide) (gf := 51) (lb := #[.pointer (some ⟨bA, 0, none⟩)]) rfl trivial (enters_of (Tryd.func51) (by kernel_rfl) rfl)
        hrun (fun h k => h.trans k) (fun W l o o' _ hl ho _ => KC.putObj _ W l o o' hl ho) (Below.refl _ _) rfl
        (AG w4 bF w4.heap.size) (fun _ pre _ => ¬ pre <+: L)
        (AG.own hbF4) (fun _ _ _ _ _ hs _ _ => hs) G4.out
        ?assign ?body ?done ?stop
      case assign =>
        intro lp pre x W K hi hK
        gi_wp2
        have hbg : w4.heap.size ≤ W.heap.size := hi.big
        have nb := blk_new W (.cells #[.int .i64 ((first : Int) + (x.1.1 : Int)), .int .i64 (x.1.2 : Int)] 30)
        have kk : Same W (W.alloc (.cells #[.int .i64 ((first : Int) + (x.1.1 : Int)), .int .i64 (x.1.2 : Int)] 30)) := same_alloc _ _
        have ko := (KeepsOthers.alloc W (.cells #[.int .i64 ((first : Int) + (x.1.1 : Int)), .int .i64 (x.1.2 : Int)] 30)).from w4.heap.size
        generalize W.heap.size = Bx at *
        exact hK _ _ ko (KC.of kk (fun _ h => h.elim)) (hi.same kk) ⟨Bx, hbg, nb, by simp⟩
      case body =>
        intro lp pre x Bx W hG hBx hbx hlt
        simp only [List.setIfInBounds_toArray, List.set_cons_succ, List.set_cons_zero]
        obtain ⟨⟨xa, xn⟩, hx⟩ := x
        dsimp only at hbx
        have x1 : W.cell? ⟨Bx, 1, none⟩ = some (.int .i64 (xn : Int)) := blk_cell hbx
        have HG := hidden hG
        have dz := hidden (D3.out.far (K34.out _ hG.kept))
        have hfp : fs pre ≤ 4096 * 4096 := by have h1 := fs_le (by omega : count ≤ 4096) pre; have h2 : pre.length ≤ 4096 := (by omega); have h3 := Nat.mul_le_mul_right 4096 h2; omega
        have hxn : xa + xn ≤ count := hx
        by_cases h0 : xn = 0
        · have NPF : Hid (¬ (pre ++ [⟨(xa, xn), hx⟩]) <+: L) := fun h => by
            have := HLP.out ⟨(xa, xn), hx⟩ (h.subset (by simp))
            dsimp only at this
            omega
          have t0 : (xn : Int) < 1 := by omega
          have z2 : W.cell? ⟨w.heap.size + 1, 0, none⟩ = some (.bool false) := blk_cell dz.out.rb
          have z3 : W.frozen? ⟨w.heap.size + 1, 0, none⟩ = false := blk_free dz.out.rb
          clear hG hbx hlt
          gi_wp2
          exact ⟨keepsFrom_one ((Kept.refl (fun k => k = w.heap.size + 1) W).setCell (p := ⟨w.heap.size + 1, 0, none⟩) rfl _) (by omega), NPF.out⟩
        · have t0 : ¬ (xn : Int) < 1 := by omega
          obtain ⟨fp, hfpe⟩ : ∃ fp, fp = fs pre := ⟨_, rfl⟩
          have z4 : W.cell? ⟨bF, 0, none⟩ = some (.int .i64 (fp : Int)) := by rw [hfpe]; exact blk_cell hG.fb
          have z5 : W.frozen? ⟨bF, 0, none⟩ = false := blk_free hG.fb
          have m1 : IntKind.i64.wrap ((fp : Int) + (xn : Int)) = (fp : Int) + (xn : Int) := by rw [IntKind.wrap_i64]; omega
          have HFP := hidden hfpe
          clear hG hbx hlt hfpe
          gi_wp2
          have KI : Kept (fun j => j = bF) W (W.setCell ⟨bF, 0, none⟩ (.int .i64 ((fp : Int) + (xn : Int)))) := (Kept.refl (fun k => k = bF) W).setCell (p := ⟨bF, 0, none⟩) rfl _
          refine ⟨keepsFrom_one KI (by omega), KC.of KI (fun _ h => h), HG.out.kept.trans (KI.mono (fun _ _ h => Or.inl h)), ?_, Nat.le_trans HG.out.big KI.size⟩
          have := blk_set (j := 0) HG.out.fb (.int .i64 ((fp : Int) + (xn : Int)))
          rw [fs_add, show ((fs pre + (⟨(xa, xn), hx⟩ : Rn count).1.2 : Nat) : Int) = (fp : Int) + (xn : Int) by rw [HFP.out]; simp]
          exact this
      case done =>
        rintro D ys X hDl hys hG hD
        rw [hys] at hG
        have dX := D3.out.far (K34.out _ hG.kept)
        have DX := hidden dX
        have D5 := hidden (dX.more hD (fun hm => by have := blk_lt (D3.out.ds D hm); omega) (by have := D4.out.same.size; omega))
        have zF : X.cell? ⟨bF, 0, none⟩ = some (.int .i64 (Fz : Int)) := by rw [HFz.out]; exact blk_cell hG.fb
        have zB : X.cell? ⟨w.heap.size, 1, none⟩ = some (.int .i64 (count : Int)) := blk_cell dX.box
        have KD := hidden (fun nn => (Kept.refl (fun _ => False) X).drewN nn)
        have CU : Hid (∀ nn, CallsIn Fence.wide 5 Tryd.prog 23 #[.pointer (some ⟨g, 0, none⟩)] (X.drewN nn) fun e w' => e = .returned (.int .i64 (U : Nat)) ∧ w' = X.drewN nn) := fun nn => (callsIn_wide (n := 5)).2 ((sp_used g first count u' v' res' (X.drewN nn) (DX.out.keep (KD.out nn)).sp).mono fun r w' h => ⟨by rw [hU]; exact h.1, h.2.symm⟩)
        have CV : Hid (∀ nn, CallsIn Fence.wide 5 Tryd.prog 24 #[.pointer (some ⟨g, 0, none⟩)] (X.drewN nn) fun e w' => e = .returned (.int .i64 (V : Nat)) ∧ w' = X.drewN nn) := fun nn => (callsIn_wide (n := 5)).2 ((sp_waiting g first count u' v' res' (X.drewN nn) (DX.out.keep (KD.out nn)).sp).mono fun r w' h => ⟨by rw [hV]; exact h.1, h.2.symm⟩)
        have CL := hidden (fun nn => (callsIn_wide (n := 5)).2 (sp_leftN g first count u' v' res' (X.drewN nn) (DX.out.keep (KD.out nn)).sp))
        rw [← hLz] at CL
        obtain ⟨UV, hUV⟩ : ∃ UV : Int, UV = (U : Int) + (V : Int) := ⟨_, rfl⟩
        have m1 : IntKind.i64.wrap ((U : Int) + (V : Int)) = UV := by rw [IntKind.wrap_i64]; omega
        have m2 : IntKind.i64.wrap (UV + (Fz : Int)) = (count : Int) := by rw [IntKind.wrap_i64]; omega
        have m3 : IntKind.i64.wrap ((Fz : Int) - (res' : Int)) = Lz := by rw [IntKind.wrap_i64]; omega
        have d1 : decide (Lz < 0) = false := by simp; omega
        have d2 : ¬ Lz < 0 := by omega
        have d3 : decide ((res' : Int) < 0) = false := by simp
        have d4 : ¬ (res' : Int) < 0 := by omega
        have m4 : IntKind.i64.wrap ((i : Int) + 1) = (i : Int) + 1 := by rw [IntKind.wrap_i64]; omega
        clear hG hD hys dX hU hV hLz hUV hcut hge hres hrun
        gi_wp2
        refine wpIn_region_quiet_lit rfl (by kernel_rfl) (by kernel_rfl) ?_
        repeat (refine wpQuietIn_step (by first | (go_simp; done) | (go_simp; intros; trivial) | (intros; trivial)) (fun K hK => ?_); go_simp; first | (refine hK _ ?_; clear hK K) | (apply Exists.intro; refine ⟨fun _ => ?_, hK _ ?_⟩; (first | (gi_at_call 23; exact CallsIn.quiet_of_same (CU.out _)) | (gi_at_call 24; exact CallsIn.quiet_of_same (CV.out _)) | (gi_at_call 25; exact CallsIn.quiet_of (CL.out _))); clear hK K))
        refine wpQuietIn_nil ?_
        intro _ hw'
        obtain ⟨nq, hw''⟩ := hw'
        subst hw''
        gi_wp2
        refine ⟨⟨i + 1, u', v', res', D :: Ds, by omega, rfl, D5.out.keep (KD.out nq)⟩, ?_⟩
        show n - (intOf (.int .i64 ((i : Int) + 1))).toNat < n - i
        simp [intOf]
        omega
      case stop =>
        rintro D cc pre X _ hp h _
        exact absurd hp h
    by_cases k4 : kd = 4
    · subst k4
      obtain ⟨y, u', v', res', hC, hai, hre⟩ := (ao_settle (g := g) HA.out.ai).ex
      subst hre
      have HC := hidden hC
      clear hC

      gi_wp2_with (first
        | (refine ⟨trivial, ?_⟩; gi_at_call 18; refine ((callsIn_wide (n := 5)).2 (HC.out _ (HA.out.keep (same_alloc _ _)).sp (HA.out.keep (same_alloc _ _)).tab)).mono ?_; rintro e w3 ⟨rfl, s3, k3⟩; have D3 := hidden ((HA.out.keep (same_alloc W _)).next lT lg s3 k3 hai); clear s3 k3)
        | (refine ⟨trivial, ?_⟩; gi_at_call 22; refine (CP.out _ _).mono ?_; rintro e w4 ⟨rfl, hw4⟩; have HW4 := hidden hw4; clear hw4))

      obtain ⟨U, hU⟩ : ∃ U, U = cnt u' 4096 := ⟨_, rfl⟩
      obtain ⟨V, hV⟩ : ∃ V, V = cnt v' 4096 := ⟨_, rfl⟩
      obtain ⟨Lz, hLz⟩ : ∃ Lz, Lz = leftZ count u' v' res' := ⟨_, rfl⟩
      obtain ⟨L, hL⟩ : ∃ L, L = lf count (rp (fun i => u' i || v' i) count) := ⟨_, rfl⟩
      have hcut := D3.out.ai.cut hL
      have hge := D3.out.ai.ge
      have hres := D3.out.ai.pl.fits
      rw [← hU, ← hV, ← hLz] at hcut
      rw [← hLz] at hge
      have HL := hidden hL
      obtain ⟨Fz, hFz⟩ : ∃ Fz, Fz = fs L := ⟨_, rfl⟩
      rw [← hFz] at hcut
      have HFz := hidden hFz
      have k34 : Same w3 w4 := by rw [← HW4.out]; exact ((Kept.refl _ w3).alloc _).alloc _
      have hs4 : w4.heap.size = w3.heap.size + 2 := by rw [← HW4.out]; simp
      have fB : w4.heap[w3.heap.size]? = some (.cells #[.int .i64 0] 3 (0, 0)) := by rw [← HW4.out]; exact blk_alloc (blk_new w3 _) _
      have fA : w4.heap[w3.heap.size + 1]? = some (.cells #[.pointer (some ⟨g, 0, none⟩)] 25 (0, 0)) := by
        rw [← HW4.out]
        have z := blk_new (w3.alloc (.cells #[.int .i64 0] 3)) (.cells #[.pointer (some ⟨g, 0, none⟩)] 25)
        rw [World.size_alloc] at z
        exact z
      have D4 := hidden (D3.out.keep k34)
      have lg3 : g < w3.heap.size := by obtain ⟨cs, hb, _⟩ := D3.out.sp.box; exact blk_lt hb
      have lT3 := D3.out.tab.lt
      have hrun := runs_stops (fun b => b = w3.heap.size) w4 (w3.heap.size + 1) g first count u' v' res' fA D4.out.sp (TabB.of D4.out.tab) (by omega) (by omega) (by omega) (fun b hb => by omega)
      rw [← hL] at hrun
      obtain ⟨bF, hbF⟩ : ∃ b, b = w3.heap.size := ⟨_, rfl⟩
      obtain ⟨bA, hbA⟩ : ∃ b, b = w3.heap.size + 1 := ⟨_, rfl⟩
      rw [← hbA] at hrun ⊢
      rw [← hbF] at hrun fB ⊢
      have G4 : Hid (AG (count := count) w4 bF w4.heap.size [] w4) := ⟨Kept.refl _ _, fB, Nat.le_refl _⟩
      have hbF4 : bF < w4.heap.size := by omega
      have lr4 := blk_lt D4.out.rb
      have K34 : Hid (∀ X, Kept (fun b => b = bF ∨ w4.heap.size ≤ b) w4 X → Kept (fun b => w3.heap.size ≤ b) w3 X) := fun X k => (k34.mono (fun _ _ h => h.elim)).trans (k.mono (fun b _ h => by omega))
      have hLl : L.length ≤ 4096 := by rw [hL]; have := lf_len (count := count) (fun i => u' i || v' i); omega
      have HLP : Hid (∀ x ∈ L, 1 ≤ x.1.2) := fun x hx => lf_pos (by rw [← hL]; exact hx)
      have hrF : w.heap.size + 1 ≠ bF := by have := blk_lt D3.out.rb; omega
      have hsz34 : w3.heap.size ≤ w4.heap.size := by omega
      clear hL hFz fB fA HW4 k34 hs4 hbF hbA CP lg3 lT3
      refine range_areas (first := first) (count := count) 85 10 rfl (by decide) (gf := 51) (lb := #[.pointer (some ⟨bA, 0, none⟩)]) rfl trivial (enters_of (Tryd.func51) (by kernel_rfl) rfl)
        hrun (fun h k => h.trans k) (fun W l o o' _ hl ho _ => KC.putObj _ W l o o' hl ho) (Below.refl _ _) rfl
        (AG w4 bF w4.heap.size) (fun _ pre _ => ¬ pre <+: L)
        (AG.own hbF4) (fun _ _ _ _ _ hs _ _ => hs) G4.out
        ?assign ?body ?done ?stop
      case assign =>
        intro lp pre x W K hi hK
        gi_wp2
        have hbg : w4.heap.size ≤ W.heap.size := hi.big
        have nb := blk_new W (.cells #[.int .i64 ((first : Int) + (x.1.1 : Int)), .int .i64 (x.1.2 : Int)] 30)
        have kk : Same W (W.alloc (.cells #[.int .i64 ((first : Int) + (x.1.1 : Int)), .int .i64 (x.1.2 : Int)] 30)) := same_alloc _ _
        have ko := (KeepsOthers.alloc W (.cells #[.int .i64 ((first : Int) + (x.1.1 : Int)), .int .i64 (x.1.2 : Int)] 30)).from w4.heap.size
        generalize W.heap.size = Bx at *
        exact hK _ _ ko (KC.of kk (fun _ h => h.elim)) (hi.same kk) ⟨Bx, hbg, nb, by simp⟩
      case body =>
        intro lp pre x Bx W hG hBx hbx hlt
        simp only [List.setIfInBounds_toArray, List.set_cons_succ, List.set_cons_zero]
        obtain ⟨⟨xa, xn⟩, hx⟩ := x
        dsimp only at hbx
        have x1 : W.cell? ⟨Bx, 1, none⟩ = some (.int .i64 (xn : Int)) := blk_cell hbx
        have HG := hidden hG
        have dz := hidden (D3.out.far (K34.out _ hG.kept))
        have hfp : fs pre ≤ 4096 * 4096 := by have h1 := fs_le (by omega : count ≤ 4096) pre; have h2 : pre.length ≤ 4096 := (by omega); have h3 := Nat.mul_le_mul_right 4096 h2; omega
        have hxn : xa + xn ≤ count := hx
        by_cases h0 : xn = 0
        · have NPF : Hid (¬ (pre ++ [⟨(xa, xn), hx⟩]) <+: L) := fun h => by
            have := HLP.out ⟨(xa, xn), hx⟩ (h.subset (by simp))
            dsimp only at this
            omega
          have t0 : (xn : Int) < 1 := by omega
          have z2 : W.cell? ⟨w.heap.size + 1, 0, none⟩ = some (.bool false) := blk_cell dz.out.rb
          have z3 : W.frozen? ⟨w.heap.size + 1, 0, none⟩ = false := blk_free dz.out.rb
          clear hG hbx hlt
          gi_wp2
          exact ⟨keepsFrom_one ((Kept.refl (fun k => k = w.heap.size + 1) W).setCell (p := ⟨w.heap.size + 1, 0, none⟩) rfl _) (by omega), NPF.out⟩
        · have t0 : ¬ (xn : Int) < 1 := by omega
          obtain ⟨fp, hfpe⟩ : ∃ fp, fp = fs pre := ⟨_, rfl⟩
          have z4 : W.cell? ⟨bF, 0, none⟩ = some (.int .i64 (fp : Int)) := by rw [hfpe]; exact blk_cell hG.fb
          have z5 : W.frozen? ⟨bF, 0, none⟩ = false := blk_free hG.fb
          have m1 : IntKind.i64.wrap ((fp : Int) + (xn : Int)) = (fp : Int) + (xn : Int) := by rw [IntKind.wrap_i64]; omega
          have HFP := hidden hfpe
          clear hG hbx hlt hfpe
          gi_wp2
          have KI : Kept (fun j => j = bF) W (W.setCell ⟨bF, 0, none⟩ (.int .i64 ((fp : Int) + (xn : Int)))) := (Kept.refl (fun k => k = bF) W).setCell (p := ⟨bF, 0, none⟩) rfl _
          refine ⟨keepsFrom_one KI (by omega), KC.of KI (fun _ h => h), HG.out.kept.trans (KI.mono (fun _ _ h => Or.inl h)), ?_, Nat.le_trans HG.out.big KI.size⟩
          have := blk_set (j := 0) HG.out.fb (.int .i64 ((fp : Int) + (xn : Int)))
          rw [fs_add, show ((fs pre + (⟨(xa, xn), hx⟩ : Rn count).1.2 : Nat) : Int) = (fp : Int) + (xn : Int) by rw [HFP.out]; simp]
          exact this
      case done =>
        rintro D ys X hDl hys hG hD
        rw [hys] at hG
        have dX := D3.out.far (K34.out _ hG.kept)
        have DX := hidden dX
        have D5 := hidden (dX.more hD (fun hm => by have := blk_lt (D3.out.ds D hm); omega) (by have := D4.out.same.size; omega))
        have zF : X.cell? ⟨bF, 0, none⟩ = some (.int .i64 (Fz : Int)) := by rw [HFz.out]; exact blk_cell hG.fb
        have zB : X.cell? ⟨w.heap.size, 1, none⟩ = some (.int .i64 (count : Int)) := blk_cell dX.box
        have KD := hidden (fun nn => (Kept.refl (fun _ => False) X).drewN nn)
        have CU : Hid (∀ nn, CallsIn Fence.wide 5 Tryd.prog 23 #[.pointer (some ⟨g, 0, none⟩)] (X.drewN nn) fun e w' => e = .returned (.int .i64 (U : Nat)) ∧ w' = X.drewN nn) := fun nn => (callsIn_wide (n := 5)).2 ((sp_used g first count u' v' res' (X.drewN nn) (DX.out.keep (KD.out nn)).sp).mono fun r w' h => ⟨by rw [hU]; exact h.1, h.2.symm⟩)
        have CV : Hid (∀ nn, CallsIn Fence.wide 5 Tryd.prog 24 #[.pointer (some ⟨g, 0, none⟩)] (X.drewN nn) fun e w' => e = .returned (.int .i64 (V : Nat)) ∧ w' = X.drewN nn) := fun nn => (callsIn_wide (n := 5)).2 ((sp_waiting g first count u' v' res' (X.drewN nn) (DX.out.keep (KD.out nn)).sp).mono fun r w' h => ⟨by rw [hV]; exact h.1, h.2.symm⟩)
        have CL := hidden (fun nn => (callsIn_wide (n := 5)).2 (sp_leftN g first count u' v' res' (X.drewN nn) (DX.out.keep (KD.out nn)).sp))
        rw [← hLz] at CL
        obtain ⟨UV, hUV⟩ : ∃ UV : Int, UV = (U : Int) + (V : Int) := ⟨_, rfl⟩
        have m1 : IntKind.i64.wrap ((U : Int) + (V : Int)) = UV := by rw [IntKind.wrap_i64]; omega
        have m2 : IntKind.i64.wrap (UV + (Fz : Int)) = (count : Int) := by rw [IntKind.wrap_i64]; omega
        have m3 : IntKind.i64.wrap ((Fz : Int) - (res' : Int)) = Lz := by rw [IntKind.wrap_i64]; omega
        have d1 : decide (Lz < 0) = false := by simp; omega
        have d2 : ¬ Lz < 0 := by omega
        have d3 : decide ((res' : Int) < 0) = false := by simp
        have d4 : ¬ (res' : Int) < 0 := by omega
        have m4 : IntKind.i64.wrap ((i : Int) + 1) = (i : Int) + 1 := by rw [IntKind.wrap_i64]; omega
        clear hG hD hys dX hU hV hLz hUV hcut hge hres hrun
        gi_wp2
        refine wpIn_region_quiet_lit rfl (by kernel_rfl) (by kernel_rfl) ?_
        repeat (refine wpQuietIn_step (by first | (go_simp; done) | (go_simp; intros; trivial) | (intros; trivial)) (fun K hK => ?_); go_simp; first | (refine hK _ ?_; clear hK K) | (apply Exists.intro; refine ⟨fun _ => ?_, hK _ ?_⟩; (first | (gi_at_call 23; exact CallsIn.quiet_of_same (CU.out _)) | (gi_at_call 24; exact CallsIn.quiet_of_same (CV.out _)) | (gi_at_call 25; exact CallsIn.quiet_of (CL.out _))); clear hK K))
        refine wpQuietIn_nil ?_
        intro _ hw'
        obtain ⟨nq, hw''⟩ := hw'
        subst hw''
        gi_wp2
        refine ⟨⟨i + 1, u', v', res', D :: Ds, by omega, rfl, D5.out.keep (KD.out nq)⟩, ?_⟩
        show n - (intOf (.int .i64 ((i : Int) + 1))).toNat < n - i
        simp [intOf]
        omega
      case stop =>
        rintro D cc pre X _ hp h _
        exact absurd hp h
    obtain ⟨w3, hw3⟩ : ∃ X, X = W.alloc (.cells #[.int .i64 kd, .int .i64 nn, .int .i64 af, .int .i64 ac] 32) := ⟨_, rfl⟩
    have D3 : Hid (AD w g first count (some ⟨ob, oo, none⟩) n c u v res Ds w3) := by rw [hw3]; exact HA.out.keep (same_alloc _ _)
    have E3 := hidden hw3
    clear hw3
    gi_wp2_with (refine ⟨trivial, ?_⟩; gi_at_call 22; refine (CP.out _ _).mono ?_; rintro e w4 ⟨rfl, hw4⟩; have HW4 := hidden hw4; clear hw4)
    rw [← E3.out] at HW4
    have hz3 : W.heap.size + 1 = w3.heap.size := by rw [E3.out]; simp
    rw [hz3]

    obtain ⟨U, hU⟩ : ∃ U, U = cnt u 4096 := ⟨_, rfl⟩
    obtain ⟨V, hV⟩ : ∃ V, V = cnt v 4096 := ⟨_, rfl⟩
    obtain ⟨Lz, hLz⟩ : ∃ Lz, Lz = leftZ count u v res := ⟨_, rfl⟩
    obtain ⟨L, hL⟩ : ∃ L, L = lf count (rp (fun i => u i || v i) count) := ⟨_, rfl⟩
    have hcut := D3.out.ai.cut hL
    have hge := D3.out.ai.ge
    have hres := D3.out.ai.pl.fits
    rw [← hU, ← hV, ← hLz] at hcut
    rw [← hLz] at hge
    have HL := hidden hL
    obtain ⟨Fz, hFz⟩ : ∃ Fz, Fz = fs L := ⟨_, rfl⟩
    rw [← hFz] at hcut
    have HFz := hidden hFz
    have k34 : Same w3 w4 := by rw [← HW4.out]; exact ((Kept.refl _ w3).alloc _).alloc _
    have hs4 : w4.heap.size = w3.heap.size + 2 := by rw [← HW4.out]; simp
    have fB : w4.heap[w3.heap.size]? = some (.cells #[.int .i64 0] 3 (0, 0)) := by rw [← HW4.out]; exact blk_alloc (blk_new w3 _) _
    have fA : w4.heap[w3.heap.size + 1]? = some (.cells #[.pointer (some ⟨g, 0, none⟩)] 25 (0, 0)) := by
      rw [← HW4.out]
      have z := blk_new (w3.alloc (.cells #[.int .i64 0] 3)) (.cells #[.pointer (some ⟨g, 0, none⟩)] 25)
      rw [World.size_alloc] at z
      exact z
    have D4 := hidden (D3.out.keep k34)
    have lg3 : g < w3.heap.size := by obtain ⟨cs, hb, _⟩ := D3.out.sp.box; exact blk_lt hb
    have lT3 := D3.out.tab.lt
    have hrun := runs_stops (fun b => b = w3.heap.size) w4 (w3.heap.size + 1) g first count u v res fA D4.out.sp (TabB.of D4.out.tab) (by omega) (by omega) (by omega) (fun b hb => by omega)
    rw [← hL] at hrun
    obtain ⟨bF, hbF⟩ : ∃ b, b = w3.heap.size := ⟨_, rfl⟩
    obtain ⟨bA, hbA⟩ : ∃ b, b = w3.heap.size + 1 := ⟨_, rfl⟩
    rw [← hbA] at hrun ⊢
    rw [← hbF] at hrun fB ⊢
    have G4 : Hid (AG (count := count) w4 bF w4.heap.size [] w4) := ⟨Kept.refl _ _, fB, Nat.le_refl _⟩
    have hbF4 : bF < w4.heap.size := by omega
    have lr4 := blk_lt D4.out.rb
    have K34 : Hid (∀ X, Kept (fun b => b = bF ∨ w4.heap.size ≤ b) w4 X → Kept (fun b => w3.heap.size ≤ b) w3 X) := fun X k => (k34.mono (fun _ _ h => h.elim)).trans (k.mono (fun b _ h => by omega))
    have hLl : L.length ≤ 4096 := by rw [hL]; have := lf_len (count := count) (fun i => u i || v i); omega
    have HLP : Hid (∀ x ∈ L, 1 ≤ x.1.2) := fun x hx => lf_pos (by rw [← hL]; exact hx)
    have hrF : w.heap.size + 1 ≠ bF := by have := blk_lt D3.out.rb; omega
    have hsz34 : w3.heap.size ≤ w4.heap.size := by omega
    clear hL hFz fB fA HW4 k34 hs4 hbF hbA CP lg3 lT3
    refine range_areas (first := first) (count := count) 85 10 rfl (by decide) (gf := 51) (lb := #[.pointer (some ⟨bA, 0, none⟩)]) rfl trivial (enters_of (Tryd.func51) (by kernel_rfl) rfl)
      hrun (fun h k => h.trans k) (fun W l o o' _ hl ho _ => KC.putObj _ W l o o' hl ho) (Below.refl _ _) rfl
      (AG w4 bF w4.heap.size) (fun _ pre _ => ¬ pre <+: L)
      (AG.own hbF4) (fun _ _ _ _ _ hs _ _ => hs) G4.out
      ?assign ?body ?done ?stop
    case assign =>
      intro lp pre x W K hi hK
      gi_wp2
      have hbg : w4.heap.size ≤ W.heap.size := hi.big
      have nb := blk_new W (.cells #[.int .i64 ((first : Int) + (x.1.1 : Int)), .int .i64 (x.1.2 : Int)] 30)
      have kk : Same W (W.alloc (.cells #[.int .i64 ((first : Int) + (x.1.1 : Int)), .int .i64 (x.1.2 : Int)] 30)) := same_alloc _ _
      have ko := (KeepsOthers.alloc W (.cells #[.int .i64 ((first : Int) + (x.1.1 : Int)), .int .i64 (x.1.2 : Int)] 30)).from w4.heap.size
      generalize W.heap.size = Bx at *
      exact hK _ _ ko (KC.of kk (fun _ h => h.elim)) (hi.same kk) ⟨Bx, hbg, nb, by simp⟩
    case body =>
      intro lp pre x Bx W hG hBx hbx hlt
      simp only [List.setIfInBounds_toArray, List.set_cons_succ, List.set_cons_zero]
      obtain ⟨⟨xa, xn⟩, hx⟩ := x
      dsimp only at hbx
      have x1 : W.cell? ⟨Bx, 1, none⟩ = some (.int .i64 (xn : Int)) := blk_cell hbx
      have HG := hidden hG
      have dz := hidden (D3.out.far (K34.out _ hG.kept))
      have hfp : fs pre ≤ 4096 * 4096 := by have h1 := fs_le (by omega : count ≤ 4096) pre; have h2 : pre.length ≤ 4096 := (by omega); have h3 := Nat.mul_le_mul_right 4096 h2; omega
      have hxn : xa + xn ≤ count := hx
      by_cases h0 : xn = 0
      · have NPF : Hid (¬ (pre ++ [⟨(xa, xn), hx⟩]) <+: L) := fun h => by
          have := HLP.out ⟨(xa, xn), hx⟩ (h.subset (by simp))
          dsimp only at this
          omega
        have t0 : (xn : Int) < 1 := by omega
        have z2 : W.cell? ⟨w.heap.size + 1, 0, none⟩ = some (.bool false) := blk_cell dz.out.rb
        have z3 : W.frozen? ⟨w.heap.size + 1, 0, none⟩ = false := blk_free dz.out.rb
        clear hG hbx hlt
        gi_wp2
        exact ⟨keepsFrom_one ((Kept.refl (fun k => k = w.heap.size + 1) W).setCell (p := ⟨w.heap.size + 1, 0, none⟩) rfl _) (by omega), NPF.out⟩
      · have t0 : ¬ (xn : Int) < 1 := by omega
        obtain ⟨fp, hfpe⟩ : ∃ fp, fp = fs pre := ⟨_, rfl⟩
        have z4 : W.cell? ⟨bF, 0, none⟩ = some (.int .i64 (fp : Int)) := by rw [hfpe]; exact blk_cell hG.fb
        have z5 : W.frozen? ⟨bF, 0, none⟩ = false := blk_free hG.fb
        have m1 : IntKind.i64.wrap ((fp : Int) + (xn : Int)) = (fp : Int) + (xn : Int) := by rw [IntKind.wrap_i64]; omega
        have HFP := hidden hfpe
        clear hG hbx hlt hfpe
        gi_wp2
        have KI : Kept (fun j => j = bF) W (W.setCell ⟨bF, 0, none⟩ (.int .i64 ((fp : Int) + (xn : Int)))) := (Kept.refl (fun k => k = bF) W).setCell (p := ⟨bF, 0, none⟩) rfl _
        refine ⟨keepsFrom_one KI (by omega), KC.of KI (fun _ h => h), HG.out.kept.trans (KI.mono (fun _ _ h => Or.inl h)), ?_, Nat.le_trans HG.out.big KI.size⟩
        have := blk_set (j := 0) HG.out.fb (.int .i64 ((fp : Int) + (xn : Int)))
        rw [fs_add, show ((fs pre + (⟨(xa, xn), hx⟩ : Rn count).1.2 : Nat) : Int) = (fp : Int) + (xn : Int) by rw [HFP.out]; simp]
        exact this
    case done =>
      rintro D ys X hDl hys hG hD
      rw [hys] at hG
      have dX := D3.out.far (K34.out _ hG.kept)
      have DX := hidden dX
      have D5 := hidden (dX.more hD (fun hm => by have := blk_lt (D3.out.ds D hm); omega) (by have := D4.out.same.size; omega))
      have zF : X.cell? ⟨bF, 0, none⟩ = some (.int .i64 (Fz : Int)) := by rw [HFz.out]; exact blk_cell hG.fb
      have zB : X.cell? ⟨w.heap.size, 1, none⟩ = some (.int .i64 (count : Int)) := blk_cell dX.box
      have KD := hidden (fun nn => (Kept.refl (fun _ => False) X).drewN nn)
      have CU : Hid (∀ nn, CallsIn Fence.wide 5 Tryd.prog 23 #[.pointer (some ⟨g, 0, none⟩)] (X.drewN nn) fun e w' => e = .returned (.int .i64 (U : Nat)) ∧ w' = X.drewN nn) := fun nn => (callsIn_wide (n := 5)).2 ((sp_used g first count u v res (X.drewN nn) (DX.out.keep (KD.out nn)).sp).mono fun r w' h => ⟨by rw [hU]; exact h.1, h.2.symm⟩)
      have CV : Hid (∀ nn, CallsIn Fence.wide 5 Tryd.prog 24 #[.pointer (some ⟨g, 0, none⟩)] (X.drewN nn) fun e w' => e = .returned (.int .i64 (V : Nat)) ∧ w' = X.drewN nn) := fun nn => (callsIn_wide (n := 5)).2 ((sp_waiting g first count u v res (X.drewN nn) (DX.out.keep (KD.out nn)).sp).mono fun r w' h => ⟨by rw [hV]; exact h.1, h.2.symm⟩)
      have CL := hidden (fun nn => (callsIn_wide (n := 5)).2 (sp_leftN g first count u v res (X.drewN nn) (DX.out.keep (KD.out nn)).sp))
      rw [← hLz] at CL
      obtain ⟨UV, hUV⟩ : ∃ UV : Int, UV = (U : Int) + (V : Int) := ⟨_, rfl⟩
      have m1 : IntKind.i64.wrap ((U : Int) + (V : Int)) = UV := by rw [IntKind.wrap_i64]; omega
      have m2 : IntKind.i64.wrap (UV + (Fz : Int)) = (count : Int) := by rw [IntKind.wrap_i64]; omega
      have m3 : IntKind.i64.wrap ((Fz : Int) - (res : Int)) = Lz := by rw [IntKind.wrap_i64]; omega
      have d1 : decide (Lz < 0) = false := by simp; omega
      have d2 : ¬ Lz < 0 := by omega
      have d3 : decide ((res : Int) < 0) = false := by simp
      have d4 : ¬ (res : Int) < 0 := by omega
      have m4 : IntKind.i64.wrap ((i : Int) + 1) = (i : Int) + 1 := by rw [IntKind.wrap_i64]; omega
      clear hG hD hys dX hU hV hLz hUV hcut hge hres hrun
      gi_wp2
      refine wpIn_region_quiet_lit rfl (by kernel_rfl) (by kernel_rfl) ?_
      repeat (refine wpQuietIn_step (by first | (go_simp; done) | (go_simp; intros; trivial) | (intros; trivial)) (fun K hK => ?_); go_simp; first | (refine hK _ ?_; clear hK K) | (apply Exists.intro; refine ⟨fun _ => ?_, hK _ ?_⟩; (first | (gi_at_call 23; exact CallsIn.quiet_of_same (CU.out _)) | (gi_at_call 24; exact CallsIn.quiet_of_same (CV.out _)) | (gi_at_call 25; exact CallsIn.quiet_of (CL.out _))); clear hK K))
      refine wpQuietIn_nil ?_
      intro _ hw'
      obtain ⟨nq, hw''⟩ := hw'
      subst hw''
      gi_wp2
      refine ⟨⟨i + 1, u, v, res, D :: Ds, by omega, rfl, D5.out.keep (KD.out nq)⟩, ?_⟩
      show n - (intOf (.int .i64 ((i : Int) + 1))).toNat < n - i
      simp [intOf]
      omega
    case stop =>
      rintro D cc pre X _ hp h _
      exact absurd hp h
  · have he : i = n := by omega
    subst he
    have y5 : ¬ (i : Int) < (i : Int) := by omega
    have z2 : W.cell? ⟨w.heap.size + 1, 0, none⟩ = some (.bool false) := blk_cell HA.out.rb
    have z3 : W.frozen? ⟨w.heap.size + 1, 0, none⟩ = false := blk_free HA.out.rb
    unfold adF
    gi_wp2
    have kS : Kept (fun k => k = w.heap.size + 1) W (W.setCell ⟨w.heap.size + 1, 0, none⟩ (.bool true)) := (Kept.refl (fun k => k = w.heap.size + 1) W).setCell (p := ⟨w.heap.size + 1, 0, none⟩) rfl _
    have hnD : ∀ D ∈ Ds, D ≠ w.heap.size + 1 := fun D hD e => by
      have h1 := HA.out.ds D hD
      rw [e, HA.out.rb] at h1
      cases h1
    refine leaves_all Ds _ (fun D hD => blk_kept kS (hnD D hD) (HA.out.ds D hD)) HA.out.nd (fun W' k => ?_)
    have c4 : W'.cell? ⟨w.heap.size + 1, 0, none⟩ = some (.bool true) := k.cell (p := ⟨w.heap.size + 1, 0, none⟩) (fun hm => hnD _ hm rfl) (World.cell?_setCell_same' _ _ _ (by rw [z2]; rfl))
    refine ⟨_, by simp [results, Tryd.results7, go_sem, c4], rfl, ?_⟩
    refine Kept.trans' (Kept.trans' HA.out.same kS (fun k hk h => by omega)) k (fun b hb hm => by have := HA.out.lo b hm; omega)
set_option maxHeartbeats 4000000 in
set_option maxRecDepth 100000 in
theorem adds_no (first count : Int) (a : Option Addr) (n c : Nat) (w : World) (hf : I64 first) (hc : I64 count) (hT : Tab w) (h : ¬ (0 ≤ first ∧ 1 ≤ count ∧ first + count ≤ 4096)) :
    Calls Tryd.prog 7 #[.agg #[.int .i64 first, .int .i64 count, .slice a n c]] w fun e w' => e = .returned (.bool true) ∧ Same w w' := by
  have HB := hidden (fun W (k : Same w W) => (callsIn_wide (n := 5)).2 (begin_no first count (.slice a n c) ⟨a, n, c, rfl⟩ W hf hc (hT.same k) h))
  clear h hT hf hc
  refine (callsIn_wide (n := 6)).1 ?_
  refine callsIn_of_wp_marks Tryd.func7 rfl trivial ?_ rfl
  simp only [Tryd.ntmps7, List.size_toArray, List.length_cons, List.length_nil, Nat.reduceAdd, Nat.reduceSub, Array.replicate_succ, Array.replicate_zero, List.push_toArray, List.append_toArray, List.nil_append, List.cons_append]
  gi_wp2_with (refine ⟨trivial, ?_⟩; gi_at_call 10; refine (HB.out _ (((Kept.refl _ w).alloc _).alloc _)).mono ?_; rintro e w1 ⟨rfl, k1⟩; have K1 := hidden k1; have b2 : w1.heap[w.heap.size + 1]? = some (.cells #[.bool false] 4 (0, 0)) := (by have z := blk_new (w.alloc (.cells #[.int .i64 first, .int .i64 count, .slice a n c] 24)) (.cells #[.bool false] 4); rw [World.size_alloc] at z; exact blk_kept k1 (fun h => h) z); have z2 : w1.cell? ⟨w.heap.size + 1, 0, none⟩ = some (.bool false) := blk_cell b2; have z3 : w1.frozen? ⟨w.heap.size + 1, 0, none⟩ = false := blk_free b2; clear k1 b2)
  have c4 : (w1.setCell ⟨w.heap.size + 1, 0, none⟩ (.bool true)).cell? ⟨w.heap.size + 1, 0, none⟩ = some (.bool true) := World.cell?_setCell_same' _ _ _ (by rw [z2]; rfl)
  refine ⟨_, by simp [results, Tryd.results7, go_sem, c4], rfl, ?_⟩
  exact Kept.trans' ((((Kept.refl _ w).alloc _).alloc _).trans K1.out) ((Kept.refl (fun k => k = w.heap.size + 1) w1).setCell (p := ⟨w.heap.size + 1, 0, none⟩) rfl _) (fun k hk h => by omega)
end Go.Proofs.YtbmbdidmbdanmaaDoor
