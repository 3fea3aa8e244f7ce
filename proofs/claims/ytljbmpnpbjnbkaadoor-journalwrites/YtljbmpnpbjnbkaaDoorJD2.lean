/- journal: the document's Writer in memory; New, free, Left. -/
import Derived.Test.YtljbmpnpbjnbkaaDoorJD1
namespace Go.Proofs.YtljbmpnpbjnbkaaDoor
open Go.RowKit
set_option linter.unusedVariables false
set_option linter.unusedSimpArgs false
/-- The document's Writer lies at a block: its rooms' row, each room a row of its own. -/
structure DW (g : Nat) (d : DSt) (w : World) : Prop where
  lies : ∃ rv us, w.heap[g]? = some (.cells #[.int .i64 d.size, .int .i64 d.sectors, .int .u64 d.gen, rv, .int .i64 d.taken, .int .i64 d.count] 44 (0, 0)) ∧ us.length = d.rooms.length ∧ w.ownsRow 0 39 1 rv d.rooms.length us ∧
    (∀ (i : Nat) (x : List UInt8) (u : Value), d.rooms[i]? = some x → us[i]? = some u → w.ownsRow 0 5 1 u x.length (x.map U8)) ∧
    (∀ (i j : Nat) (u u' : Value) (k : Nat), us[i]? = some u → us[j]? = some u' → u.ownBlock = some k → u'.ownBlock = some k → i = j)
/-- A cell of an own row of one-cell values. -/
theorem own_at {w : World} {B n i : Nat} {e : TypeId} {v u : Value} {xs : List Value} (h : w.ownsRow B e 1 v n xs) (hu : xs[i]? = some u) : ∃ b cap, v = .slice (some ⟨b, 0, none⟩) n cap ∧ w.cell? ⟨b, i, none⟩ = some u := by
  have hl := h.1
  have hi := (List.getElem?_eq_some_iff.1 hu).1
  rcases h.2 with ⟨rfl, h0⟩ | ⟨b, cap, cur, rfl, h1, h2, h3, h4, h5, h6⟩
  · omega
  · refine ⟨b, cap, rfl, ?_⟩
    rw [blk_cell h2, ← hu, ← h6, List.getElem?_take, if_pos (by omega), Array.getElem?_toList]
theorem DW.room {g : Nat} {d : DSt} {w : World} (h : DW g d w) : ∃ rv, w.heap[g]? = some (.cells #[.int .i64 d.size, .int .i64 d.sectors, .int .u64 d.gen, rv, .int .i64 d.taken, .int .i64 d.count] 44 (0, 0)) ∧ (∃ ao cap, rv = .slice ao d.rooms.length cap) ∧
    ∀ i x, d.rooms[i]? = some x → ∃ b cap ao' cap', rv = .slice (some ⟨b, 0, none⟩) d.rooms.length cap ∧ w.cell? ⟨b, i, none⟩ = some (.slice ao' x.length cap') := by
  obtain ⟨rv, us, h1, h2, h3, h4, h5⟩ := h.lies
  refine ⟨rv, h1, ?_, fun i x hx => ?_⟩
  · rcases h3.2 with ⟨rfl, h0⟩ | ⟨b, cap, cur, rfl, _⟩
    · exact ⟨none, 0, by rw [h0]⟩
    · exact ⟨_, _, rfl⟩
  · have hi := (List.getElem?_eq_some_iff.1 hx).1
    obtain ⟨u, hu⟩ : ∃ u, us[i]? = some u := ⟨_, List.getElem?_eq_getElem (by omega)⟩
    obtain ⟨b, cap, e, hc⟩ := own_at h3 hu
    obtain ⟨a', c', rfl⟩ := own_form (h4 i x u hx hu)
    exact ⟨b, cap, a', c', e, hc⟩
theorem drop_at {R : List (List UInt8)} {i : Nat} {x : List UInt8} (h : R[i]? = some x) : (R.drop i).flatten.length = x.length + (R.drop (i + 1)).flatten.length := by
  obtain ⟨hi, rfl⟩ := List.getElem?_eq_some_iff.1 h
  rw [List.drop_eq_getElem_cons hi, List.flatten_cons, List.length_append]
set_option maxHeartbeats 1000000 in
set_option maxRecDepth 100000 in
theorem freeD_any {g : Nat} {d : DSt} {w : World} (h : DW g d w) {s : JSt} (ag : Ag d s) : Calls Tryd.prog 36 #[.pointer (some ⟨g, 0, none⟩)] w fun e w' => e = .returned (.int .i64 (s.free : Nat)) ∧ Same w w' := by
  obtain ⟨rv, hb, ⟨ao, cap, rfl⟩, hr⟩ := h.room
  have c0 : w.cell? ⟨g, 0, none⟩ = some (.int .i64 d.size) := blk_cell hb
  have c1 : w.cell? ⟨g, 1, none⟩ = some (.int .i64 d.sectors) := blk_cell hb
  have c3 : w.cell? ⟨g, 3, none⟩ = some (.slice ao d.rooms.length cap) := blk_cell hb
  have c4 : w.cell? ⟨g, 4, none⟩ = some (.int .i64 d.taken) := blk_cell hb
  have hf := ag.free
  have hro := ag.ok.rooms
  have hbl := ag.ok.b
  rw [← ag.sectors, ← ag.taken, ← ag.size] at hro hbl
  rw [← ag.flat] at hbl
  have hle := ag.le
  have h0 := ag.ok.s0
  have h1 := ag.ok.s1
  have h2 := ag.ok.n1
  have h3 := ag.ok.t
  rw [← ag.size] at h0 h1
  rw [← ag.sectors] at h2
  rw [← ag.taken, ← ag.sectors] at h3
  have hln := ag.len
  have hmn := ag.ok.many
  rw [← ag.sectors] at hmn
  unfold DSt.free at hf
  unfold DSt.cur at hf hbl
  obtain ⟨fr, hfr⟩ : ∃ fr, fr = s.free := ⟨_, rfl⟩
  rw [← hfr] at hf ⊢
  generalize d.rooms = R at *
  generalize d.size = S at *
  generalize d.sectors = C at *
  generalize d.taken = T at *
  obtain ⟨r, hrS⟩ : ∃ r, r = S - 24 := ⟨_, rfl⟩
  obtain ⟨m, hmC⟩ : ∃ m, m = C - T := ⟨_, rfl⟩
  rw [← hrS, ← hmC] at hf hro hbl
  obtain ⟨tot, htot⟩ : ∃ tot, tot = m * r := ⟨_, rfl⟩
  rw [← htot] at hf hro hbl
  have a1 : IntKind.i64.wrap ((S : Int) - 24) = (r : Int) := by rw [IntKind.wrap_i64]; omega
  have a2 : IntKind.i64.wrap ((C : Int) - (T : Int)) = (m : Int) := by rw [IntKind.wrap_i64]; omega
  have e3 : (m : Int) * (r : Int) = (tot : Int) := by rw [htot]; push_cast; rfl
  have a3 : IntKind.i64.wrap ((m : Int) * (r : Int)) = (tot : Int) := by rw [e3, IntKind.wrap_i64]; omega
  have HT := hidden (show tot = fr + (R.drop T).flatten.length by omega)
  have HR := hidden hr
  have hLb : R.length ≤ 4096 := by omega
  have HLe := hidden hle
  have htb : tot ≤ 16777216 := hro
  clear hb hr hf hro hbl hfr hrS hmC htot e3 hln hmn h0 h1 h2 h3 hle
  go_enter Tryd.func36, Tryd.ntmps36
  go_wp2
  go_quiet (fail)
  go_wp2
  go_loopw [4, 5] (fun u v wr => ∃ i : Nat, v = .int .i64 i ∧ T ≤ i ∧ i ≤ R.length ∧ u = .int .i64 ((fr + (R.drop i).flatten.length : Nat) : Int) ∧ fr + (R.drop i).flatten.length ≤ 16777216 ∧ Same w wr) (fun _ v _ => R.length - (intOf v).toNat)
  case atStart => exact ⟨T, rfl, Nat.le_refl _, HLe.out, by rw [← HT.out], by rw [← HT.out]; exact htb, (Kept.refl _ _).drewN _⟩
  case round =>
    obtain ⟨i, rfl, hi, hil, rfl, hub, hS⟩ := hrel
    have HS := hidden hS
    have d3 := hS.cell (fun h => h) c3
    clear hS
    by_cases g1 : i < R.length
    · have q0 : (0 : Int) ≤ (i : Int) := Int.natCast_nonneg _
      have q1 : (i : Int) < (R.length : Int) := by omega
      obtain ⟨x, hx⟩ : ∃ x, R[i]? = some x := ⟨_, List.getElem?_eq_getElem g1⟩
      obtain ⟨b, cp, a', c', e, hc⟩ := HR.out i x hx
      cases e
      have hc' := HS.out.cell (fun h => h) hc
      have hda := drop_at hx
      obtain ⟨p, hp⟩ : ∃ p, p = fr + (R.drop i).flatten.length := ⟨_, rfl⟩
      obtain ⟨q, hq⟩ : ∃ q, q = fr + (R.drop (i + 1)).flatten.length := ⟨_, rfl⟩
      have hpq : p = x.length + q := by omega
      rw [← hp] at hub ⊢
      have a9 : IntKind.i64.wrap ((p : Int) - (x.length : Int)) = (q : Int) := by rw [IntKind.wrap_i64]; omega
      have hqb : q ≤ 16777216 := by omega
      have HQ := hidden hq
      clear hp hq hpq hda hx hc
      go_wp2
      go_roundw
      case rel => exact ⟨i + 1, by go_num, by omega, by omega, by rw [← HQ.out], by rw [← HQ.out]; exact hqb, HS.out⟩
      case measure => simp [intOf]; omega
    · have q1 : ¬ (i : Int) < (R.length : Int) := by omega
      have he : fr + (R.drop i).flatten.length = fr := by rw [List.drop_of_length_le (by omega)]; rfl
      rw [he]
      clear he
      go_wp2
      go_returns
      exact ⟨rfl, HS.out⟩
set_option maxHeartbeats 1000000 in
set_option maxRecDepth 100000 in
theorem leftD_any {g : Nat} {d : DSt} {w : World} (h : DW g d w) {s : JSt} (ag : Ag d s) : Calls Tryd.prog 14 #[.pointer (some ⟨g, 0, none⟩)] w fun e w' => e = .returned (.int .i64 (s.free - 4 : Nat)) ∧ Same w w' := by
  obtain ⟨rv, hb, ⟨ao, cap, rfl⟩, hr⟩ := h.room
  have c0 : w.cell? ⟨g, 0, none⟩ = some (.int .i64 d.size) := blk_cell hb
  have c1 : w.cell? ⟨g, 1, none⟩ = some (.int .i64 d.sectors) := blk_cell hb
  have c3 : w.cell? ⟨g, 3, none⟩ = some (.slice ao d.rooms.length cap) := blk_cell hb
  have c4 : w.cell? ⟨g, 4, none⟩ = some (.int .i64 d.taken) := blk_cell hb
  have hf := ag.free
  have hro := ag.ok.rooms
  have hbl := ag.ok.b
  rw [← ag.sectors, ← ag.taken, ← ag.size] at hro hbl
  rw [← ag.flat] at hbl
  have hle := ag.le
  have h0 := ag.ok.s0
  have h1 := ag.ok.s1
  have h2 := ag.ok.n1
  have h3 := ag.ok.t
  rw [← ag.size] at h0 h1
  rw [← ag.sectors] at h2
  rw [← ag.taken, ← ag.sectors] at h3
  have hln := ag.len
  have hmn := ag.ok.many
  rw [← ag.sectors] at hmn
  unfold DSt.free at hf
  unfold DSt.cur at hf hbl
  obtain ⟨fr, hfr⟩ : ∃ fr, fr = s.free := ⟨_, rfl⟩
  rw [← hfr] at hf ⊢
  generalize d.rooms = R at *
  generalize d.size = S at *
  generalize d.sectors = C at *
  generalize d.taken = T at *
  obtain ⟨r, hrS⟩ : ∃ r, r = S - 24 := ⟨_, rfl⟩
  obtain ⟨m, hmC⟩ : ∃ m, m = C - T := ⟨_, rfl⟩
  rw [← hrS, ← hmC] at hf hro hbl
  obtain ⟨tot, htot⟩ : ∃ tot, tot = m * r := ⟨_, rfl⟩
  rw [← htot] at hf hro hbl
  have a1 : IntKind.i64.wrap ((S : Int) - 24) = (r : Int) := by rw [IntKind.wrap_i64]; omega
  have a2 : IntKind.i64.wrap ((C : Int) - (T : Int)) = (m : Int) := by rw [IntKind.wrap_i64]; omega
  have e3 : (m : Int) * (r : Int) = (tot : Int) := by rw [htot]; push_cast; rfl
  have a3 : IntKind.i64.wrap ((m : Int) * (r : Int)) = (tot : Int) := by rw [e3, IntKind.wrap_i64]; omega
  have HT := hidden (show tot = fr + (R.drop T).flatten.length by omega)
  have HR := hidden hr
  have hLb : R.length ≤ 4096 := by omega
  have HLe := hidden hle
  have htb : tot ≤ 16777216 := hro
  clear hb hr hf hro hbl hfr hrS hmC htot e3 hln hmn h0 h1 h2 h3 hle
  go_enter Tryd.func14, Tryd.ntmps14
  go_wp2
  go_quiet (fail)
  go_wp2
  go_loopw [4, 5] (fun u v wr => ∃ i : Nat, v = .int .i64 i ∧ T ≤ i ∧ i ≤ R.length ∧ u = .int .i64 ((fr + (R.drop i).flatten.length : Nat) : Int) ∧ fr + (R.drop i).flatten.length ≤ 16777216 ∧ Same w wr) (fun _ v _ => R.length - (intOf v).toNat)
  case atStart => exact ⟨T, rfl, Nat.le_refl _, HLe.out, by rw [← HT.out], by rw [← HT.out]; exact htb, (Kept.refl _ _).drewN _⟩
  case round =>
    obtain ⟨i, rfl, hi, hil, rfl, hub, hS⟩ := hrel
    have HS := hidden hS
    have d3 := hS.cell (fun h => h) c3
    clear hS
    by_cases g1 : i < R.length
    · have q0 : (0 : Int) ≤ (i : Int) := Int.natCast_nonneg _
      have q1 : (i : Int) < (R.length : Int) := by omega
      obtain ⟨x, hx⟩ : ∃ x, R[i]? = some x := ⟨_, List.getElem?_eq_getElem g1⟩
      obtain ⟨b, cp, a', c', e, hc⟩ := HR.out i x hx
      cases e
      have hc' := HS.out.cell (fun h => h) hc
      have hda := drop_at hx
      obtain ⟨p, hp⟩ : ∃ p, p = fr + (R.drop i).flatten.length := ⟨_, rfl⟩
      obtain ⟨q, hq⟩ : ∃ q, q = fr + (R.drop (i + 1)).flatten.length := ⟨_, rfl⟩
      have hpq : p = x.length + q := by omega
      rw [← hp] at hub ⊢
      have a9 : IntKind.i64.wrap ((p : Int) - (x.length : Int)) = (q : Int) := by rw [IntKind.wrap_i64]; omega
      have hqb : q ≤ 16777216 := by omega
      have HQ := hidden hq
      clear hp hq hpq hda hx hc
      go_wp2
      go_roundw
      case rel => exact ⟨i + 1, by go_num, by omega, by omega, by rw [← HQ.out], by rw [← HQ.out]; exact hqb, HS.out⟩
      case measure => simp [intOf]; omega
    · have q1 : ¬ (i : Int) < (R.length : Int) := by omega
      have he : fr + (R.drop i).flatten.length = fr := by rw [List.drop_of_length_le (by omega)]; rfl
      rw [he]
      clear he
      have b1 : IntKind.i64.wrap ((fr : Int) - 4) = (fr : Int) - 4 := by rw [IntKind.wrap_i64]; omega
      by_cases g4 : fr < 4
      · have q4 : (fr : Int) - 4 < 0 := by omega
        go_wp2
        go_returns
        exact ⟨by rw [show fr - 4 = 0 by omega]; rfl, HS.out⟩
      · have q4 : ¬ (fr : Int) - 4 < 0 := by omega
        go_wp2
        go_returns
        exact ⟨by rw [show ((fr - 4 : Nat) : Int) = (fr : Int) - 4 by omega]; rfl, HS.out⟩
end Go.Proofs.YtljbmpnpbjnbkaaDoor
