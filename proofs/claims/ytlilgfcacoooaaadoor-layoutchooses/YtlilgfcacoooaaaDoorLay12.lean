/- What DecodeSuper tells, as one thing; Slot and Next. -/
import Derived.Test.YtlilgfcacoooaaaDoorLay11
import Derived.Deep.CutRange
namespace Go.Proofs.YtlilgfcacoooaaaDoor
open Go.RowKit
set_option linter.unusedVariables false
attribute [local go_sem ↓] Go.wp_at_zero Go.wp_at_succ

/-- What DecodeSuper tells of some bytes. -/
structure Dec where
  gen : Nat
  root : Int
  sector : Int
  sectors : Int
  journal : Int
  pack : Int
  cmin : Int
  cnorm : Int
  cmax : Int
  seed : Nat
  nbits : Int
  dd : Bool
  e : Int
def noDec : Dec := ⟨0, 0, 0, 0, 0, 0, 0, 0, 0, 0, 0, false, 40⟩
/-- d is what both DecodeSupers tell of the bytes v. -/
structure Tells (w : World) (v : Value) (d : Dec) : Prop where
  lt : d.gen < 18446744073709551616
  code : ∀ W, Same w W → Tab W → Calls Tryd.prog 28 #[v] W fun e W' => e = .returned (.tuple #[.agg #[.int .u64 d.gen, .int .i64 d.root, .int .i64 d.sector, .int .i64 d.sectors, .int .i64 d.journal, .int .i64 d.pack, .int .i64 d.cmin, .int .i64 d.cnorm, .int .i64 d.cmax, .int .u64 d.seed, .int .i64 d.nbits, .bool d.dd], .int .i64 d.e]) ∧ Same W W'
  ref : ∀ W, Same w W → Calls Tryd.prog 29 #[v] W fun e W' => e = .returned (.tuple #[.agg #[.int .u64 d.gen, .int .i64 d.root, .int .i64 d.sector, .int .i64 d.sectors, .int .i64 d.journal, .int .i64 d.pack, .int .i64 d.cmin, .int .i64 d.cnorm, .int .i64 d.cmax, .int .u64 d.seed, .int .i64 d.nbits, .bool d.dd], .int .i64 d.e]) ∧ Same W W'
theorem Tells.same {w w' : World} {v : Value} {d : Dec} (h : Tells w v d) (k : Same w w') : Tells w' v d := ⟨h.lt, fun W k' => h.code W (Kept.trans k k'), fun W k' => h.ref W (Kept.trans k k')⟩
theorem tells_sup {w : World} {v : Value} {gen root sector sectors journal pack cmin cnorm cmax seed nbits : Nat} {dd : Bool} (hS : Sup gen root sector sectors journal pack cmin cnorm cmax seed nbits dd) (hb : Byt w v (superL gen root sector sectors journal pack cmin cnorm cmax seed nbits dd)) : Tells w v ⟨gen, root, sector, sectors, journal, pack, cmin, cnorm, cmax, seed, nbits, dd, 0⟩ :=
  ⟨hS.g, fun W k ht => dec_yes v gen root sector sectors journal pack cmin cnorm cmax seed nbits dd W (hb.same k) ht hS, fun W k => refDec_yes v gen root sector sectors journal pack cmin cnorm cmax seed nbits dd W (hb.same k) hS⟩
theorem tells_no {w : World} {v : Value} {l : List UInt8} (hb : Byt w v l) (hl : l.length ≤ 281474976710656) (hno : ∀ (gen root sector sectors journal pack cmin cnorm cmax seed nbits : Nat) (dd : Bool), Sup gen root sector sectors journal pack cmin cnorm cmax seed nbits dd → superL gen root sector sectors journal pack cmin cnorm cmax seed nbits dd ≠ l) : Tells w v noDec :=
  ⟨by decide, fun W k ht => dec_no v l W (hb.same k) ht hl hno, fun W k => refDec_no v l W (hb.same k) hl hno⟩
theorem tells_any {w : World} {v : Value} {l : List UInt8} (hb : Byt w v l) (hl : l.length ≤ 281474976710656) : ∃ d, Tells w v d := by
  by_cases hx : ∃ (gen root sector sectors journal pack cmin cnorm cmax seed nbits : Nat) (dd : Bool), Sup gen root sector sectors journal pack cmin cnorm cmax seed nbits dd ∧ superL gen root sector sectors journal pack cmin cnorm cmax seed nbits dd = l
  · obtain ⟨gen, root, sector, sectors, journal, pack, cmin, cnorm, cmax, seed, nbits, dd, hS, rfl⟩ := hx
    exact ⟨_, tells_sup hS hb⟩
  · exact ⟨_, tells_no hb hl fun a b c d e f g h i j k m hS hls => hx ⟨a, b, c, d, e, f, g, h, i, j, k, m, hS, hls⟩⟩
theorem slot_any (g : Nat) (w : World) (hg : g < 18446744073709551616) : Calls Tryd.prog 34 #[.int .u64 g] w fun e w' => e = .returned (.int .i64 ((g % 2 : Nat) : Int)) ∧ w = w' := by
  have h1 : bits .and .u64 (g : Int) 1 = ((g % 2 : Nat) : Int) := by
    rw [show (1 : Int) = ((1 : Nat) : Int) from rfl, u64_and_nat g 1 hg (by decide), Nat.and_one_is_mod]
  have h2 : IntKind.i64.wrap ((g % 2 : Nat) : Int) = ((g % 2 : Nat) : Int) := by rw [IntKind.wrap_i64]; omega
  generalize ((g % 2 : Nat) : Int) = S at *
  go_enter Tryd.func34, Tryd.ntmps34
  go_wp2
  go_returns
  exact ⟨rfl, rfl⟩
theorem refSlot_any (g : Nat) (w : World) (hg : g < 18446744073709551616) : Calls Tryd.prog 35 #[.int .u64 g] w fun e w' => e = .returned (.int .i64 ((g % 2 : Nat) : Int)) ∧ w = w' := by
  go_enter Tryd.func35, Tryd.ntmps35
  go_wp2
  go_returns
  exact ⟨rfl, rfl⟩
end Go.Proofs.YtlilgfcacoooaaaDoor
