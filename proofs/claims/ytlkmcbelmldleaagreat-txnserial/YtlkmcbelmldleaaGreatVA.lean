/- versions in memory; isTime, right, behind -/
import Derived.Test.YtlkmcbelmldleaaGreatRows
import Derived.WalkKit
import Derived.WalkSpells
import Derived.WalkLawsBesides
import Derived.Outline
import Derived.OpenShut
import Derived.Laws.Rows
import Derived.Deep.QuietTactic
import Derived.BigQuiet
import Derived.Deep.RegionWith
import Derived.Deep.RegionLaw
import Derived.Deep.RegionHeld
import Derived.Deep.RegionHeldLaw
import Derived.Handy
namespace Go.Proofs.YtlkmcbelmldleaaGreat
open Go.RowKit
set_option maxRecDepth 40000
theorem hide {p : Prop} (h : p) : Hid p := h
/-- a version -/
structure Vr where
  key : ByteArray
  at_ : Nat
  val : ByteArray
  gone : Bool
abbrev vv (x : Vr) : Value := .agg #[.string x.key, .int .u64 (x.at_ : Nat), .string x.val, .bool x.gone]
def timeB (t : Nat) : Bool := decide (1 ≤ t ∧ t ≤ 2305843009213693952)
theorem isTime_any (t : Nat) (w : World) : Calls Tryz.prog 96 #[.int .u64 (t : Nat)] w fun e w' => e = .returned (.bool (timeB t)) ∧ w' = w := by
  have HT : Hid (timeB t = decide (1 ≤ t ∧ t ≤ 2305843009213693952)) := hide rfl
  generalize timeB t = b at *
  by_cases h1 : 1 ≤ t
  · have d1 : decide ((1 : Int) ≤ (t : Int)) = true := decide_eq_true (by omega)
    by_cases h2 : t ≤ 2305843009213693952
    · have d2 : decide ((t : Int) ≤ 2305843009213693952) = true := decide_eq_true (by omega)
      have HB : Hid (b = true) := hide (by rw [HT.out]; exact decide_eq_true ⟨h1, h2⟩)
      clear h1 h2
      go_enter Tryz.func96, Tryz.ntmps96
      go_wp2
      go_ret
      exact ⟨by rw [HB.out]; rfl, rfl⟩
    · have d2 : decide ((t : Int) ≤ 2305843009213693952) = false := decide_eq_false (by omega)
      have HB : Hid (b = false) := hide (by rw [HT.out]; exact decide_eq_false (fun h => h2 h.2))
      clear h1 h2
      go_enter Tryz.func96, Tryz.ntmps96
      go_wp2
      go_ret
      exact ⟨by rw [HB.out]; rfl, rfl⟩
  · have d1 : decide ((1 : Int) ≤ (t : Int)) = false := decide_eq_false (by omega)
    have HB : Hid (b = false) := hide (by rw [HT.out]; exact decide_eq_false (fun h => h1 h.1))
    clear h1
    go_enter Tryz.func96, Tryz.ntmps96
    go_wp2
    go_ret
    exact ⟨by rw [HB.out]; rfl, rfl⟩
def rightB (x : Vr) : Bool := timeB x.at_ && decide (x.key.size ≤ 256) && decide (x.val.size ≤ 512) && !(x.gone && !x.val.toList.isEmpty)
theorem right_any (x : Vr) (w : World) : Calls Tryz.prog 119 #[vv x] w fun e w' => e = .returned (.bool (rightB x)) ∧ Below w.heap.size w w' := by
  obtain ⟨k, t, v, g⟩ := x
  have HR : Hid (rightB ⟨k, t, v, g⟩ = (timeB t && decide (k.size ≤ 256) && decide (v.size ≤ 512) && !(g && !v.toList.isEmpty))) := hide rfl
  have TM := hide (fun W => isTime_any t W)
  have HAL := hide (fun o : Obj => (Below.refl w.heap.size w).alloc (Nat.le_refl _) o)
  generalize rightB ⟨k, t, v, g⟩ = b at *
  generalize timeB t = tb at *
  go_enter Tryz.func119, Tryz.ntmps119
  go_wp2_with fail
  refine (TM.out _).mono ?_
  rintro e w1 ⟨rfl, rfl⟩
  cases tb
  · go_wp2
    go_ret
    exact ⟨by rw [HR.out]; rfl, HAL.out _⟩
  · go_wp2
    all_goals
      go_ret
      refine ⟨?_, HAL.out _⟩
      rw [HR.out]
      have hh := HR.out
      clear HR TM HAL
      simp_all
      try omega
      try (rw [decide_eq_true (show k.size ≤ 256 by omega), decide_eq_true (show v.size ≤ 512 by omega)]; simp)
def behindB (x y : Vr) : Bool := Op.bytesLess x.key.toList y.key.toList || (decide (x.key.toList = y.key.toList) && decide (x.at_ < y.at_))
theorem below_two (w : World) (o o' : Obj) : Below w.heap.size w ((w.alloc o).alloc o') := ((Below.refl w.heap.size w).alloc (Nat.le_refl _) o).alloc (by simp) o'
theorem behind_any (x y : Vr) (w : World) : Calls Tryz.prog 120 #[vv x, vv y] w fun e w' => e = .returned (.bool (behindB x y)) ∧ Below w.heap.size w w' := by
  obtain ⟨k, t, v, g⟩ := x
  obtain ⟨k', t', v', g'⟩ := y
  have HR : Hid (behindB ⟨k, t, v, g⟩ ⟨k', t', v', g'⟩ = (Op.bytesLess k.toList k'.toList || (decide (k.toList = k'.toList) && decide (t < t')))) := hide rfl
  have HAL := hide (below_two w)
  generalize behindB ⟨k, t, v, g⟩ ⟨k', t', v', g'⟩ = b at *
  go_enter Tryz.func120, Tryz.ntmps120
  go_wp2
  all_goals
    go_ret
    refine ⟨?_, HAL.out _ _⟩
    rw [HR.out]
    clear HR HAL
    simp_all
/-- versions in memory -/
def Vr0 : Vr := ⟨⟨#[]⟩, 0, ⟨#[]⟩, false⟩
def IsV (w : World) (a : Option Addr) (len cap : Nat) (l : List Vr) : Prop :=
  l.length = len ∧ len ≤ cap ∧ cap ≤ maxLen ∧ ∀ i, i < len → ∃ b off, a = some ⟨b, off, none⟩ ∧ b < w.heap.size ∧ w.cell? ⟨b, off + i * 4, none⟩ = some (.string (l.getD i Vr0).key) ∧ w.cell? ⟨b, off + i * 4 + 1, none⟩ = some (.int .u64 ((l.getD i Vr0).at_ : Nat)) ∧ w.cell? ⟨b, off + i * 4 + 2, none⟩ = some (.string (l.getD i Vr0).val) ∧ w.cell? ⟨b, off + i * 4 + 3, none⟩ = some (.bool (l.getD i Vr0).gone)
theorem IsV.below {w w' : World} {a : Option Addr} {len cap : Nat} {l : List Vr} (h : IsV w a len cap l) (hb : Below w.heap.size w w') : IsV w' a len cap l := by
  refine ⟨h.1, h.2.1, h.2.2.1, fun i hi => ?_⟩
  obtain ⟨b, off, e, hlt, h0, h1, h2, h3⟩ := h.2.2.2 i hi
  have k : ∀ j, w'.cell? ⟨b, j, none⟩ = w.cell? ⟨b, j, none⟩ := fun j => World.cell?_of_block (hb.block b hlt)
  exact ⟨b, off, e, Nat.lt_of_lt_of_le hlt hb.size, (k _).trans h0, (k _).trans h1, (k _).trans h2, (k _).trans h3⟩
end Go.Proofs.YtlkmcbelmldleaaGreat
