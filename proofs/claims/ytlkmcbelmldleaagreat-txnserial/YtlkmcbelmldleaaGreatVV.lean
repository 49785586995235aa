/- mvcc.refused -/
import Derived.Test.YtlkmcbelmldleaaGreatVU
import Derived.Laws.AppendOwnNone
namespace Go.Proofs.YtlkmcbelmldleaaGreat
open Go.RowKit Go.Shelf Go.Lib Go.Sort
set_option maxRecDepth 40000
set_option maxRecDepth 40000 in
set_option maxHeartbeats 1000000 in
/-- slices.IndexFunc: whether there is one -/
theorem idxW_any (a : Option Addr) (len cap fk : Nat) (lb : Array Value) (p : Wt → Bool) (l : List Wt) (w : World) (hL : IsW w a len cap l) (hent : ∀ args W, (callFunc fk args).run Tryz.prog W = .ok (.enter fk args) W)
    (hp : ∀ x W, Below w.heap.size w W → Calls Tryz.prog fk (#[.agg #[.string x.key, .string x.val, .bool x.gone]] ++ lb) W fun e w' => e = .returned (.bool (p x)) ∧ Below w.heap.size w w') :
    Calls Tryz.prog 121 #[.slice a len cap, .func (.func fk) #[] lb] w fun e w' => ∃ q : Int, e = .returned (.int .i64 q) ∧ (0 ≤ q ↔ l.any p = true) ∧ Below w.heap.size w w' := by
  have HV := hide hL
  have HLN := hide hL.1
  have hcm : cap ≤ 9223372036854775807 := hL.2.2.1
  have hcap := hL.2.1
  have HP := hide hp
  clear hL hp
  go_enter Tryz.func121, Tryz.ntmps121
  go_wp2
  go_loopw [8] (fun v wr => ∃ i : Nat, i ≤ len ∧ v = .int .i64 (i : Nat) ∧ Hid (Below w.heap.size w wr ∧ ∀ j, j < i → p (l.getD j Wt0) = false)) (fun v _ => len - (intOf v).toNat)
  case atStart => exact ⟨0, Nat.zero_le _, rfl, hide ⟨Below.refl _ _, fun j hj => absurd hj (Nat.not_lt_zero _)⟩⟩
  case round =>
    obtain ⟨i, hi, rfl, HI⟩ := hrel
    by_cases hlt : i < len
    · obtain ⟨b, off, rfl, hb, z0, z1, z2⟩ := (HV.out.below HI.out.1).2.2.2 i hlt
      have HPX := hide (HP.out (l.getD i Wt0) wr HI.out.1)
      have HMEM : Hid (p (l.getD i Wt0) = true → l.any p = true) := hide (fun h => by
        rw [List.any_eq_true]
        refine ⟨l.getD i Wt0, ?_, h⟩
        rw [List.getD_eq_getElem?_getD, List.getElem?_eq_getElem (by rw [HLN.out]; exact hlt)]
        exact List.getElem_mem _)
      have HNX : Hid (p (l.getD i Wt0) = false → ∀ j, j < i + 1 → p (l.getD j Wt0) = false) := hide (fun h j hj => by
        by_cases hj' : j < i
        · exact HI.out.2 j hj'
        · obtain rfl : j = i := by omega
          exact h)
      generalize l.getD i Wt0 = x at *
      obtain ⟨x0, x1, x2⟩ := x
      dsimp only at z0 z1 z2 HPX
      have hi0 : (0 : Int) ≤ (i : Int) := by omega
      have hiI : (i : Int) < (len : Int) := by omega
      have hw1 : IntKind.i64.wrap ((i : Int) + 1) = (i : Int) + 1 := wr64' (by omega) (by omega)
      cases hq : p ⟨x0, x1, x2⟩
      · rw [hq] at HPX
        have HN1 := hide (HNX.out hq)
        clear HNX HMEM hq
        go_wp2_with fail
        refine HPX.out.mono ?_
        rintro e w1 ⟨rfl, hb1⟩
        have HI1 := hide (And.intro hb1 HN1.out)
        clear hb1 z0 z1 z2 HPX
        go_wp2
        go_roundw
        case rel => exact ⟨i + 1, by omega, by simp, HI1⟩
        case measure => simp [intOf]; omega
      · rw [hq] at HPX
        have HM1 := hide (HMEM.out hq)
        clear HNX HMEM hq
        go_wp2_with fail
        refine HPX.out.mono ?_
        rintro e w1 ⟨rfl, hb1⟩
        have HB1 := hide hb1
        clear hb1 z0 z1 z2 HPX
        go_wp2
        go_ret
        exact ⟨_, rfl, ⟨fun _ => HM1.out, fun _ => hi0⟩, HB1.out⟩
    · obtain rfl : i = len := by omega
      have HNO : Hid (¬ l.any p = true) := hide (fun h => by
        obtain ⟨x, hx, hpx⟩ := List.any_eq_true.1 h
        obtain ⟨j, hj, rfl⟩ := List.getElem_of_mem hx
        have := HI.out.2 j (by rw [← HLN.out]; exact hj)
        rw [List.getD_eq_getElem?_getD, List.getElem?_eq_getElem hj] at this
        simp only [Option.getD_some] at this
        rw [this] at hpx; cases hpx)
      go_wp2
      go_ret
      exact ⟨_, rfl, ⟨fun h => by simp at h, fun h => absurd h HNO.out⟩, HI.out.1⟩
/-- slices.ContainsFunc -/
theorem hasW_any (a : Option Addr) (len cap fk : Nat) (lb : Array Value) (p : Wt → Bool) (l : List Wt) (w : World) (hL : IsW w a len cap l) (hent : ∀ args W, (callFunc fk args).run Tryz.prog W = .ok (.enter fk args) W)
    (hp : ∀ x W, Below w.heap.size w W → Calls Tryz.prog fk (#[.agg #[.string x.key, .string x.val, .bool x.gone]] ++ lb) W fun e w' => e = .returned (.bool (p x)) ∧ Below w.heap.size w w') :
    Calls Tryz.prog 94 #[.slice a len cap, .func (.func fk) #[] lb] w fun e w' => e = .returned (.bool (l.any p)) ∧ Below w.heap.size w w' := by
  have HX := hide (idxW_any a len cap fk lb p l w hL hent hp)
  clear hL hp
  generalize l.any p = R at *
  go_enter Tryz.func94, Tryz.ntmps94
  go_wp2_with fail
  refine HX.out.mono ?_
  rintro e w1 ⟨q, rfl, hq, hb⟩
  have HB := hide hb
  have HQ := hide hq
  clear hb hq HX
  by_cases h0 : 0 ≤ q
  · have hd : decide (0 ≤ q) = true := decide_eq_true h0
    have HR : Hid (R = true) := hide (HQ.out.1 h0)
    go_wp2
    go_ret
    exact ⟨by rw [HR.out]; simp, HB.out⟩
  · have hd : decide (0 ≤ q) = false := decide_eq_false h0
    have HR : Hid (R = false) := hide (by
      cases R
      · rfl
      · exact absurd (HQ.out.2 rfl) h0)
    go_wp2
    go_ret
    exact ⟨by rw [HR.out]; simp, HB.out⟩
set_option maxRecDepth 40000 in
set_option maxHeartbeats 1000000 in
/-- slices.IndexFunc: whether there is one -/
theorem idxV_any (a : Option Addr) (len cap fk : Nat) (lb : Array Value) (p : Vr → Bool) (l : List Vr) (w : World) (hL : IsV w a len cap l) (hent : ∀ args W, (callFunc fk args).run Tryz.prog W = .ok (.enter fk args) W)
    (hp : ∀ x W, Below w.heap.size w W → Calls Tryz.prog fk (#[.agg #[.string x.key, .int .u64 (x.at_ : Nat), .string x.val, .bool x.gone]] ++ lb) W fun e w' => e = .returned (.bool (p x)) ∧ Below w.heap.size w w') :
    Calls Tryz.prog 102 #[.slice a len cap, .func (.func fk) #[] lb] w fun e w' => ∃ q : Int, e = .returned (.int .i64 q) ∧ (0 ≤ q ↔ l.any p = true) ∧ Below w.heap.size w w' := by
  have HV := hide hL
  have HLN := hide hL.1
  have hcm : cap ≤ 9223372036854775807 := hL.2.2.1
  have hcap := hL.2.1
  have HP := hide hp
  clear hL hp
  go_enter Tryz.func102, Tryz.ntmps102
  go_wp2
  go_loopw [8] (fun v wr => ∃ i : Nat, i ≤ len ∧ v = .int .i64 (i : Nat) ∧ Hid (Below w.heap.size w wr ∧ ∀ j, j < i → p (l.getD j Vr0) = false)) (fun v _ => len - (intOf v).toNat)
  case atStart => exact ⟨0, Nat.zero_le _, rfl, hide ⟨Below.refl _ _, fun j hj => absurd hj (Nat.not_lt_zero _)⟩⟩
  case round =>
    obtain ⟨i, hi, rfl, HI⟩ := hrel
    by_cases hlt : i < len
    · obtain ⟨b, off, rfl, hb, z0, z1, z2, z3⟩ := (HV.out.below HI.out.1).2.2.2 i hlt
      have HPX := hide (HP.out (l.getD i Vr0) wr HI.out.1)
      have HMEM : Hid (p (l.getD i Vr0) = true → l.any p = true) := hide (fun h => by
        rw [List.any_eq_true]
        refine ⟨l.getD i Vr0, ?_, h⟩
        rw [List.getD_eq_getElem?_getD, List.getElem?_eq_getElem (by rw [HLN.out]; exact hlt)]
        exact List.getElem_mem _)
      have HNX : Hid (p (l.getD i Vr0) = false → ∀ j, j < i + 1 → p (l.getD j Vr0) = false) := hide (fun h j hj => by
        by_cases hj' : j < i
        · exact HI.out.2 j hj'
        · obtain rfl : j = i := by omega
          exact h)
      generalize l.getD i Vr0 = x at *
      obtain ⟨x0, x1, x2, x3⟩ := x
      dsimp only at z0 z1 z2 z3 HPX
      have hi0 : (0 : Int) ≤ (i : Int) := by omega
      have hiI : (i : Int) < (len : Int) := by omega
      have hw1 : IntKind.i64.wrap ((i : Int) + 1) = (i : Int) + 1 := wr64' (by omega) (by omega)
      cases hq : p ⟨x0, x1, x2, x3⟩
      · rw [hq] at HPX
        have HN1 := hide (HNX.out hq)
        clear HNX HMEM hq
        go_wp2_with fail
        refine HPX.out.mono ?_
        rintro e w1 ⟨rfl, hb1⟩
        have HI1 := hide (And.intro hb1 HN1.out)
        clear hb1 z0 z1 z2 z3 HPX
        go_wp2
        go_roundw
        case rel => exact ⟨i + 1, by omega, by simp, HI1⟩
        case measure => simp [intOf]; omega
      · rw [hq] at HPX
        have HM1 := hide (HMEM.out hq)
        clear HNX HMEM hq
        go_wp2_with fail
        refine HPX.out.mono ?_
        rintro e w1 ⟨rfl, hb1⟩
        have HB1 := hide hb1
        clear hb1 z0 z1 z2 z3 HPX
        go_wp2
        go_ret
        exact ⟨_, rfl, ⟨fun _ => HM1.out, fun _ => hi0⟩, HB1.out⟩
    · obtain rfl : i = len := by omega
      have HNO : Hid (¬ l.any p = true) := hide (fun h => by
        obtain ⟨x, hx, hpx⟩ := List.any_eq_true.1 h
        obtain ⟨j, hj, rfl⟩ := List.getElem_of_mem hx
        have := HI.out.2 j (by rw [← HLN.out]; exact hj)
        rw [List.getD_eq_getElem?_getD, List.getElem?_eq_getElem hj] at this
        simp only [Option.getD_some] at this
        rw [this] at hpx; cases hpx)
      go_wp2
      go_ret
      exact ⟨_, rfl, ⟨fun h => by simp at h, fun h => absurd h HNO.out⟩, HI.out.1⟩
/-- slices.ContainsFunc -/
theorem hasV_any (a : Option Addr) (len cap fk : Nat) (lb : Array Value) (p : Vr → Bool) (l : List Vr) (w : World) (hL : IsV w a len cap l) (hent : ∀ args W, (callFunc fk args).run Tryz.prog W = .ok (.enter fk args) W)
    (hp : ∀ x W, Below w.heap.size w W → Calls Tryz.prog fk (#[.agg #[.string x.key, .int .u64 (x.at_ : Nat), .string x.val, .bool x.gone]] ++ lb) W fun e w' => e = .returned (.bool (p x)) ∧ Below w.heap.size w w') :
    Calls Tryz.prog 70 #[.slice a len cap, .func (.func fk) #[] lb] w fun e w' => e = .returned (.bool (l.any p)) ∧ Below w.heap.size w w' := by
  have HX := hide (idxV_any a len cap fk lb p l w hL hent hp)
  clear hL hp
  generalize l.any p = R at *
  go_enter Tryz.func70, Tryz.ntmps70
  go_wp2_with fail
  refine HX.out.mono ?_
  rintro e w1 ⟨q, rfl, hq, hb⟩
  have HB := hide hb
  have HQ := hide hq
  clear hb hq HX
  by_cases h0 : 0 ≤ q
  · have hd : decide (0 ≤ q) = true := decide_eq_true h0
    have HR : Hid (R = true) := hide (HQ.out.1 h0)
    go_wp2
    go_ret
    exact ⟨by rw [HR.out]; simp, HB.out⟩
  · have hd : decide (0 ≤ q) = false := decide_eq_false h0
    have HR : Hid (R = false) := hide (by
      cases R
      · rfl
      · exact absurd (HQ.out.2 rfl) h0)
    go_wp2
    go_ret
    exact ⟨by rw [HR.out]; simp, HB.out⟩
def longB (x : Wt) : Bool := decide (256 < x.key.size) || decide (512 < x.val.size)
theorem long_any (x : Wt) (w W : World) (hb : Below w.heap.size w W) : Calls Tryz.prog 92 #[.agg #[.string x.key, .string x.val, .bool x.gone]] W fun e w' => e = .returned (.bool (longB x)) ∧ Below w.heap.size w w' := by
  obtain ⟨x1, x2, x3⟩ := x
  have HB : Hid (Below w.heap.size w (W.alloc (.cells #[.string x1, .string x2, .bool x3] 64))) := hide (hb.alloc hb.size _)
  have HL : Hid (longB ⟨x1, x2, x3⟩ = (decide (256 < x1.size) || decide (512 < x2.size))) := hide rfl
  clear hb
  generalize longB ⟨x1, x2, x3⟩ = R at *
  by_cases h1 : 256 < x1.size
  · have h1I : (256 : Int) < (x1.size : Int) := by omega
    have HR : Hid (R = true) := hide (by rw [HL.out, decide_eq_true h1]; rfl)
    go_enter Tryz.func92, Tryz.ntmps92
    go_wp2
    go_ret
    exact ⟨by rw [HR.out]; simp, HB.out⟩
  · have h1I : ¬ (256 : Int) < (x1.size : Int) := by omega
    have HR : Hid (R = decide (512 < x2.size)) := hide (by rw [HL.out, decide_eq_false h1]; rfl)
    have HD : Hid (decide ((512 : Int) < (x2.size : Int)) = decide (512 < x2.size)) := hide (decide_eq_decide.2 (by omega))
    go_enter Tryz.func92, Tryz.ntmps92
    go_wp2
    go_ret
    exact ⟨by rw [HR.out, ← HD.out]; simp, HB.out⟩
def lateB (t : Nat) (x : Vr) : Bool := decide (t ≤ x.at_)
theorem late_any (t B : Nat) (x : Vr) (w W : World) (hB : Boxed w B 29 (.int .u64 (t : Nat))) (hb : Below w.heap.size w W) : Calls Tryz.prog 91 #[.agg #[.string x.key, .int .u64 (x.at_ : Nat), .string x.val, .bool x.gone], .pointer (some ⟨B, 0, none⟩)] W fun e w' => e = .returned (.bool (lateB t x)) ∧ Below w.heap.size w w' := by
  obtain ⟨x1, x2, x3, x4⟩ := x
  have HB : Hid (Below w.heap.size w (W.alloc (.cells #[.string x1, .int .u64 (x2 : Nat), .string x3, .bool x4] 66))) := hide (hb.alloc hb.size _)
  have HL : Hid (lateB t ⟨x1, x2, x3, x4⟩ = decide (t ≤ x2)) := hide rfl
  have c1 : (W.alloc (.cells #[.string x1, .int .u64 (x2 : Nat), .string x3, .bool x4] 66)).cell? ⟨B, 0, none⟩ = some (.int .u64 (t : Nat)) := Boxed.cell (Boxed.alloc (show Boxed W B 29 (.int .u64 (t : Nat)) from (hb.block _ hB.lt).trans hB) _)
  clear hb hB
  go_enter Tryz.func91, Tryz.ntmps91
  go_wp2
  go_ret
  exact ⟨by rw [HL.out]; simp, HB.out⟩
end Go.Proofs.YtlkmcbelmldleaaGreat
