/- journal: the law's sameSectors of the program's sectors and the document's. -/
import Derived.Test.YtljbmpnpbjnbkaaDoorJE1
import Derived.Test.YtljbmpnpbjnbkaaDoorJ12
import Derived.Test.YtljbmpnpbjnbkaaDoorQuietS
namespace Go.Proofs.YtljbmpnpbjnbkaaDoor
open Go.RowKit
set_option linter.unusedVariables false
set_option linter.unusedSimpArgs false
theorem Secs.d {w : World} {v : Value} {t B : Nat} {ls : List (List UInt8)} (h : Secs w v t ls B) : DSecs w v t ls := by
  obtain ⟨us, h1, h2, h3⟩ := h
  rcases h2.2 with ⟨rfl, h0⟩ | ⟨b, cap, cur, rfl, hB, hbl, _⟩
  · refine ⟨none, 0, by rw [h0], fun i l hl => ?_⟩
    have := (List.getElem?_eq_some_iff.1 hl).1
    omega
  · refine ⟨_, cap, rfl, fun i l hl => ?_⟩
    obtain ⟨hi, rfl⟩ := List.getElem?_eq_some_iff.1 hl
    obtain ⟨u, hu⟩ : ∃ u, us[i]? = some u := ⟨_, List.getElem?_eq_getElem (by omega)⟩
    obtain ⟨hi2, rfl⟩ := List.getElem?_eq_some_iff.1 hu
    obtain ⟨z1, z2⟩ := secCells_at us t i _ hu
    have c1 := h2.cells (g := b) rfl _ _ z1
    have c2 := h2.cells (g := b) rfl _ _ z2
    rw [add_none, Nat.zero_add] at c1 c2
    exact ⟨b, _, rfl, c1, c2, (h3 i hi hi2).bt⟩
set_option maxHeartbeats 1000000 in
set_option maxRecDepth 100000 in
theorem sameS_any (x y : Value) (t : Nat) (ls : List (List UInt8)) (w : World) (hx : DSecs w x t ls) (hy : DSecs w y t ls) (hn : ls.length ≤ 4096) (hl : ∀ l ∈ ls, l.length ≤ 4096) (ht : t ≤ 4096) :
    Calls Tryd.prog 17 #[x, y] w fun e w' => e = .returned (.bool true) ∧ Same w w' := by
  obtain ⟨xa, xc, rfl, hx⟩ := hx
  obtain ⟨ya, yc, rfl, hy⟩ := hy
  have HX := hidden hx
  have HY := hidden hy
  have HL := hidden hl
  clear hx hy hl
  go_enter Tryd.func17, Tryd.ntmps17
  go_wp2
  go_loopw [5] (fun i wr => ∃ k : Nat, k ≤ ls.length ∧ i = .int .i64 k ∧ Same w wr) (fun i wr => ls.length - (intOf i).toNat)
  case atStart => exact ⟨0, Nat.zero_le _, rfl, Kept.refl _ _⟩
  case round =>
    obtain ⟨k, hk, rfl, hK⟩ := hrel
    by_cases h1 : k < ls.length
    · obtain ⟨l, hl⟩ : ∃ l, ls[k]? = some l := ⟨_, List.getElem?_eq_getElem h1⟩
      obtain ⟨b1, u1, rfl, n1, s1, t1⟩ := HX.out k l hl
      obtain ⟨b2, u2, rfl, n2, s2, t2⟩ := HY.out k l hl
      have hll := HL.out l (List.mem_of_getElem? hl)
      have q0 : (0 : Int) ≤ (k : Int) := Int.natCast_nonneg _
      have q1 : (k : Int) < (ls.length : Int) := by omega
      have HS : Hid (∀ W, Same w W → Calls Tryd.prog 25 #[u1, u2] W fun e w' => e = .returned (.bool true) ∧ Same W w') := hidden (fun W kk => by
        have := sameB_any u1 u2 l l W (t1.same kk) (t2.same kk) (by omega) (by omega)
        simpa using this)
      have hKk : ∀ V : Later wr, Same w V.world := fun V => hK.trans V.kept
      have x1 : ∀ V : Later wr, V.world.cell? ⟨b1, k * 2, none⟩ = some (.int .i64 ((t + k : Nat) : Int)) := fun V => by rw [Nat.mul_comm]; exact (hKk V).cell (fun h => h) n1
      have x2 : ∀ V : Later wr, V.world.cell? ⟨b1, k * 2 + 1, none⟩ = some u1 := fun V => by rw [Nat.mul_comm]; exact (hKk V).cell (fun h => h) s1
      have x3 : ∀ V : Later wr, V.world.cell? ⟨b2, k * 2, none⟩ = some (.int .i64 ((t + k : Nat) : Int)) := fun V => by rw [Nat.mul_comm]; exact (hKk V).cell (fun h => h) n2
      have x4 : ∀ V : Later wr, V.world.cell? ⟨b2, k * 2 + 1, none⟩ = some u2 := fun V => by rw [Nat.mul_comm]; exact (hKk V).cell (fun h => h) s2
      have HK := hidden hK
      generalize ((t + k : Nat) : Int) = z at x1 x3
      clear hK n1 s1 t1 n2 s2 t2 hl hll hKk
      go_wp2
      refine region_later (by kernel_rfl) (by kernel_rfl) ?_
      repeat (go_big_quiet_step ((first | (go_at_call 25; exact later_calls _ (HS.out _ (HK.out.trans (Later.kept _)))))))
      refine wpQuiet_nil ?_
      rintro V ⟨LV, hE⟩
      have hV : Hid (Same w V) := hidden (by rw [hE]; exact HK.out.trans LV.kept)
      clear hE LV x1 x2 x3 x4
      go_wp2
      go_roundw
      case rel => exact ⟨k + 1, by omega, by go_num, hV.out⟩
      case measure => simp [intOf]; omega
    · have he : k = ls.length := by omega
      subst he
      have q2 : ¬ (ls.length : Int) < (ls.length : Int) := by omega
      have HK := hidden hK
      clear hK
      go_wp2
      go_returns
      exact ⟨rfl, HK.out⟩
end Go.Proofs.YtljbmpnpbjnbkaaDoor
