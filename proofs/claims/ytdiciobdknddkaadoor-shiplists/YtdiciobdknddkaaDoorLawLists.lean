/- ShipLists, walked -/
import Derived.Test.YtdiciobdknddkaaDoorQa
import Derived.Test.YtdiciobdknddkaaDoorK
import Derived.Test.YtdiciobdknddkaaDoorLawAgrees
namespace Go.Proofs.YtdiciobdknddkaaDoor
open Go.RowKit
set_option linter.unusedVariables false
theorem rof_at {l : List Sh} {n s er : Int} (hR : ofR l n = (s, er)) (a : Option Addr) (len cap : Nat) (w : World) (hT : Tab w) (h : IsH w a len cap l) : Calls Tryd.prog 18 #[.slice a len cap, .int .i64 n] w fun e w' => e = .returned (.tuple #[.int .u8 s, .int .i64 er]) ∧ Hid (Below w.heap.size w w' ∧ Tab w') := by
  refine (rof_any a len cap l n w h).mono ?_
  rintro e w' ⟨he, hb⟩
  rw [hR] at he
  exact ⟨he, hb, hT.below' hb⟩
theorem rcheck_at {l : List Sh} {er : Int} (hR : checkE l = er) (a : Option Addr) (len cap : Nat) (w : World) (hT : Tab w) (h : IsH w a len cap l) : Calls Tryd.prog 21 #[.slice a len cap] w fun e w' => e = .returned (.int .i64 er) ∧ Hid (Below w.heap.size w w' ∧ Tab w') :=
  (rcheck_any a len cap l w h).mono fun _ _ h => ⟨by rw [h.1, hR], h.2, hT.below' h.2⟩
theorem rmove_at {l l' : List Sh} {n m v er : Int} {k : Nat} (hR : moveR l n m v = (l', er)) (hk : l'.length = k) (a : Option Addr) (len cap : Nat) (w : World) (hT : Tab w) (h : IsH w a len cap l) : Calls Tryd.prog 16 #[.slice a len cap, .int .i64 n, .int .u8 m, .int .u8 v] w fun e w' => ∃ a' c', e = .returned (.tuple #[.slice a' k c', .int .i64 er]) ∧ Hid (IsH w' a' k c' l') ∧ Hid (Below w.heap.size w w' ∧ Tab w') := by
  refine (rmove_any a len cap l n m v w hT h).mono ?_
  rintro e w' ⟨a', c', he, hI, hb⟩
  rw [hR] at he hI
  subst hk
  exact ⟨a', c', he, hI, hb⟩
/-- given := append([]Shipment{}, l...): a copy -/
theorem wpList_copy {w : World} {ops : Array Oper} {rest : List Oper} {o : Oper} {a : Act} {Q : Exit → Act → World → Prop} (hgd : o.guard = none) (s x : Operand)
    (ho : o.op = .call { callee := .builtin .append, args := #[s, x], argTypes := #[31, 31] }) (base : Nat) (v : Value) (hs : a.eval s = v) (hown : w.ownsRow base 42 2 v 0 [])
    (src : Option Addr) (len cap : Nat) (l : List Sh) (hx : a.eval x = .slice src len cap) (hB : IsH w src len cap l) (hb : len * 16 ≤ 140737488355328) (hbase : base ≤ w.heap.size)
    (h : ∀ a' c' w', Hid (IsH w' a' len c' l ∧ Below base w w') → wpList Tryd.prog ops Q rest (a.put o.dst (.slice a' len c')) w') : wpList Tryd.prog ops Q (o :: rest) a w := by
  refine wpList_cells hgd s x ho base v 0 [] hs hown src len cap l hx hB (by omega) hbase ?_
  intro v' w' HN
  obtain ⟨h1, h2⟩ := HN.out
  obtain ⟨a', c', rfl, hI, _⟩ := own_isH (n := 0 + len) (by simp [hB.1]) (by simpa using hB.2.2.2.1) h1
  rw [Nat.zero_add] at hI ⊢
  exact h a' c' w' (hide ⟨by simpa using hI, h2⟩)
set_option maxRecDepth 8000 in
set_option maxHeartbeats 2000000 in
theorem listsWalk (a : Option Addr) (len cap : Nat) (l : List Sh) (n m v : Int) (w : World) (hT : Tab w) (h : IsH w a len cap l) (hl : len * 16 ≤ 140737488355328) (hn : i64B n) (hm : u8B m) (hv : u8B v) : Calls Tryd.prog 4 #[.slice a len cap, .int .i64 n, .int .u8 m, .int .u8 v] w fun e w' => e = .returned (.bool true) ∧ Below w.heap.size w w' := by
  have HT := hide hT
  have HI := hide h
  have HM := hide hm
  have HLL := hide hl
  have HL := hide lives_at
  clear hT h hl hn hm hv
  generalize hr : moveR l n m v = R at *
  generalize hof : ofR l n = O at *
  generalize hck : checkE l = ck at *
  obtain ⟨l', er⟩ := R
  obtain ⟨s, so⟩ := O
  have HMO := hide (fun a c W (t : Tab W) (i : IsH W a len c l) => move_at hr rfl a len c W t i HM.out)
  have HRM := hide (fun W (t : Tab W) (i : IsH W a len cap l) => rmove_at hr rfl a len cap W t i)
  have HOF := hide (fun a c W (t : Tab W) (i : IsH W a len c l) => of_at hof a len c W t i)
  have HRO := hide (fun W (t : Tab W) (i : IsH W a len cap l) => rof_at hof a len cap W t i)
  have HCK := hide (fun a c W (t : Tab W) (i : IsH W a len c l) => check_at hck a len c W t i)
  have HRC := hide (fun W (t : Tab W) (i : IsH W a len cap l) => rcheck_at hck a len cap W t i)
  clear hr hof hck
  have HE0 : Hid ((w.alloc (.cells #[] 42)).ownsRow w.heap.size 42 2 (.slice (some ⟨w.heap.size, 0, none⟩) 0 0) 0 []) := hide (World.ownsRow_made w #[] 0 (Nat.le_refl _) (by decide) rfl)
  have HB0 : Hid (Below w.heap.size w (w.alloc (.cells #[] 42))) := hide ((Below.refl _ _).alloc (Nat.le_refl _) _)
  have HI0 := hide (HI.out.below' HB0.out)
  go_enter Tryd.func4, Tryd.ntmps4
  go_wp2_with (at_builtin; refine wpList_copy rfl _ _ rfl w.heap.size _ rfl HE0.out a len cap l rfl HI0.out HLL.out HB0.out.size ?_)
  intro a0 c0 w0 HN
  have HT0 : Hid (Tab w0) := hide ((HT.out.below' HB0.out).below HT.out.1 HN.out.2)
  have HIw0 : Hid (IsH w0 a len cap l) := hide (HI.out.below' (HB0.out.trans HN.out.2))
  have HBw0 : Hid (Below w.heap.size w w0) := hide (HB0.out.trans HN.out.2)
  have HG0 : Hid (IsH w0 a0 len c0 l) := hide HN.out.1
  clear HN
  go_wp2_with fail
  refine (HMO.out a0 c0 w0 HT0.out HG0.out).mono ?_
  rintro e w1 ⟨a1, c1, rfl, H1, B1⟩
  go_wp2_with fail
  refine (HRM.out w1 B1.out.2 (HIw0.out.below' B1.out.1)).mono ?_
  rintro e w2 ⟨a2, c2, rfl, H2, B2⟩
  have HG2 := hide ((HG0.out.below' B1.out.1).below' B2.out.1)
  have HI2 := hide ((HIw0.out.below' B1.out.1).below' B2.out.1)
  go_wp2_with fail
  refine (HOF.out a0 c0 w2 B2.out.2 HG2.out).mono ?_
  rintro e w3 ⟨rfl, B3⟩
  go_wp2_with fail
  refine (HRO.out w3 B3.out.2 (HI2.out.below' B3.out.1)).mono ?_
  rintro e w4 ⟨rfl, B4⟩
  have HG4 := hide ((HG2.out.below' B3.out.1).below' B4.out.1)
  have HI4 := hide ((HI2.out.below' B3.out.1).below' B4.out.1)
  have HX4 := hide ((H1.out.below' B2.out.1).below' B3.out.1 |>.below' B4.out.1)
  have HY4 := hide ((H2.out.below' B3.out.1).below' B4.out.1)
  go_wp2_with fail
  refine (HL.out w4 B4.out.2).mono ?_
  rintro e w5 ⟨rfl, B5⟩
  go_wp2_with fail
  refine (same_at a1 _ c1 a2 _ c2 l' w5 B5.out.2 (HX4.out.below' B5.out.1) (HY4.out.below' B5.out.1)).mono ?_
  rintro e w6 ⟨rfl, B6⟩
  go_wp2_with fail
  refine (HCK.out a0 c0 w6 B6.out.2 ((HG4.out.below' B5.out.1).below' B6.out.1)).mono ?_
  rintro e w7 ⟨rfl, B7⟩
  go_wp2_with fail
  refine (HRC.out w7 B7.out.2 (((HI4.out.below' B5.out.1).below' B6.out.1).below' B7.out.1)).mono ?_
  rintro e w8 ⟨rfl, B8⟩
  go_wp2_with fail
  refine (same_at a0 _ c0 a _ cap l w8 B8.out.2 ((((HG4.out.below' B5.out.1).below' B6.out.1).below' B7.out.1).below' B8.out.1) ((((HI4.out.below' B5.out.1).below' B6.out.1).below' B7.out.1).below' B8.out.1)).mono ?_
  rintro e w9 ⟨rfl, B9⟩
  go_wp2
  go_ret
  have b1 := HBw0.out.trans (B1.out.1.mono HBw0.out.size)
  have b2 := b1.trans (B2.out.1.mono b1.size)
  have b3 := b2.trans (B3.out.1.mono b2.size)
  have b4 := b3.trans (B4.out.1.mono b3.size)
  have b5 := b4.trans (B5.out.1.mono b4.size)
  have b6 := b5.trans (B6.out.1.mono b5.size)
  have b7 := b6.trans (B7.out.1.mono b6.size)
  have b8 := b7.trans (B8.out.1.mono b7.size)
  exact ⟨rfl, b8.trans (B9.out.1.mono b8.size)⟩
end Go.Proofs.YtdiciobdknddkaaDoor
