/- cells that are one; Same; lives -/
import Derived.Test.YtjochdmhhhhgiaaJ
import Derived.Laws.StructEq
namespace Go.Proofs.Ytjochdmhhhhgiaa
open Go.RowKit
def sameC (x y : Cl) : Bool := (x.it == y.it) && ((x.wa == y.wa) && ((x.fr == y.fr) && ((x.he == y.he) && ((x.ou == y.ou) && (x.al == y.al)))))
theorem sameC_iff (x y : Cl) : sameC x y = true ↔ x = y := by
  obtain ⟨a1, a2, a3, a4, a5, a6⟩ := x
  obtain ⟨b1, b2, b3, b4, b5, b6⟩ := y
  simp only [sameC, Bool.and_eq_true, beq_iff_eq, Cl.mk.injEq]
theorem struct31 : Try.prog.underlying 31 = some (.struct (Try.prog.fieldsOf 31)) := by kernel_rfl
theorem stood31 : Try.prog.stoodInHeld 31 = false := by kernel_rfl
theorem guard31 : Try.prog.eqGuardType Try.prog.depth 31 = false := by kernel_rfl
theorem equal31 (a1 a2 a3 a4 a5 a6 b1 b2 b3 b4 b5 b6 : Int) (w : World) :
    (Op.equalIn 10000 31 (.agg #[.int .i64 a1, .int .i64 a2, .int .i64 a3, .int .i64 a4, .int .i64 a5, .int .i64 a6]) (.agg #[.int .i64 b1, .int .i64 b2, .int .i64 b3, .int .i64 b4, .int .i64 b5, .int .i64 b6])).run Try.prog w = .ok (sameC ⟨a1, a2, a3, a4, a5, a6⟩ ⟨b1, b2, b3, b4, b5, b6⟩) w := by
  have u3 := Try.underlying3
  have a3' := Try.isAgg3
  have z3 := Try.sizeOf3
  have u9 := Try.underlying2
  have a9 := Try.isAgg2
  have z9 := Try.sizeOf2
  rw [show (10000 : Nat) = 9999 + 1 from rfl, run_equalIn_agg w 9999 31 _ _ struct31 stood31]
  simp only [Program.fieldsOf, Try.underlying31]
  go_simp
  simp only [sameC]
  by_cases h1 : a1 = b1 <;> by_cases h2 : a2 = b2 <;> by_cases h3 : a3 = b3 <;> by_cases h4 : a4 = b4 <;> by_cases h5 : a5 = b5 <;> by_cases h6 : a6 = b6 <;> simp [h1, h2, h3, h4, h5, h6]
theorem eqg31 (op : BinOp) (a b : Operand) (xs ys : Array Value) (w : World) : (eqGuard op 31 a b (.agg xs) (.agg ys)).run Try.prog w = .ok () w := run_eqGuard_agg w op 31 a b xs ys guard31
theorem cl_ext {l l' : List Cl} (h : l.length = l'.length) (he : ∀ i, i < l.length → l.getD i Cl0 = l'.getD i Cl0) : l = l' := by
  apply List.ext_getElem h
  intro i h1 h2
  have := he i h1
  rw [List.getD_eq_getElem?_getD, List.getD_eq_getElem?_getD, List.getElem?_eq_getElem h1, List.getElem?_eq_getElem h2] at this
  exact this
set_option maxHeartbeats 1000000 in
/-- the document's Same -/
theorem same_any (a : Option Addr) (len cap : Nat) (l : List Cl) (a' : Option Addr) (len' cap' : Nat) (l' : List Cl) (w : World) (h : IsC w a len cap l) (h' : IsC w a' len' cap' l') :
    Calls Try.prog 15 #[.slice a len cap, .slice a' len' cap'] w fun e w' => (∃ r, e = .returned (.bool r) ∧ (r = true ↔ l = l')) ∧ Below w.heap.size w w' := by
  have HV := hide h
  have HV' := hide h'
  have HLN := hide h.1
  have HLN' := hide h'.1
  have hcap := h.2.1
  have hcm : cap ≤ 9223372036854775807 := h.2.2.1
  have hcap' := h'.2.1
  have hcm' : cap' ≤ 9223372036854775807 := h'.2.2.1
  have hq := @equal31
  have hqg := @eqg31
  clear h h'
  by_cases hne : len = len'
  case neg =>
    go_enter Try.func15, Try.ntmps15
    go_wp2
    go_ret
    exact ⟨⟨false, rfl, by simp; intro e; apply hne; rw [← HLN.out, ← HLN'.out, e]⟩, Below.refl _ _⟩
  case pos =>
    subst hne
    go_enter Try.func15, Try.ntmps15
    go_wp2
    go_loopw [13] (fun i wr => ∃ k : Nat, k ≤ len ∧ i = .int .i64 k ∧ Hid (∀ j, j < k → l.getD j Cl0 = l'.getD j Cl0) ∧ Hid (Below w.heap.size w wr)) (fun i _ => len - (intOf i).toNat)
    case atStart => exact ⟨0, Nat.zero_le _, rfl, hide (fun j hj => by omega), hide (Below.refl _ _)⟩
    case round =>
      obtain ⟨k, hk, rfl, HA, HB⟩ := hrel
      by_cases hlt : k < len
      case neg =>
        obtain rfl : k = len := by omega
        go_wp2
        go_ret
        exact ⟨⟨true, rfl, by simp; exact cl_ext (HLN.out.trans HLN'.out.symm) (fun i hi => HA.out i (by rw [← HLN.out]; exact hi))⟩, HB.out⟩
      case pos =>
        obtain ⟨b, off, rfl, hbs, z0⟩ := (HV.out.below' HB.out).2.2.2.2.1 k hlt
        obtain ⟨b', off', rfl, hbs', y0⟩ := (HV'.out.below' HB.out).2.2.2.2.1 k hlt
        generalize hx : l.getD k Cl0 = x at *
        generalize hy : l'.getD k Cl0 = y at *
        have HX := hide hx
        have HY := hide hy
        have HSB := hide (sameC_iff x y)
        clear hx hy
        obtain ⟨x1, x2, x3, x4, x5, x6⟩ := x
        obtain ⟨t1, t2, t3, t4, t5, t6⟩ := y
        have HBD : Hid (Below w.heap.size w wr.drew) := hide HB.out.drew
        have HS : Hid ((wr.drew.cell? ⟨b, off + k * 6, none⟩ = some (.int .i64 x1) ∧ wr.drew.cell? ⟨b, off + k * 6 + 1, none⟩ = some (.int .i64 x2) ∧ wr.drew.cell? ⟨b, off + k * 6 + 2, none⟩ = some (.int .i64 x3) ∧ wr.drew.cell? ⟨b, off + k * 6 + 3, none⟩ = some (.int .i64 x4) ∧ wr.drew.cell? ⟨b, off + k * 6 + 4, none⟩ = some (.int .i64 x5) ∧ wr.drew.cell? ⟨b, off + k * 6 + 5, none⟩ = some (.int .i64 x6) ∧ wr.drew.cell? ⟨b', off' + k * 6, none⟩ = some (.int .i64 t1) ∧ wr.drew.cell? ⟨b', off' + k * 6 + 1, none⟩ = some (.int .i64 t2) ∧ wr.drew.cell? ⟨b', off' + k * 6 + 2, none⟩ = some (.int .i64 t3) ∧ wr.drew.cell? ⟨b', off' + k * 6 + 3, none⟩ = some (.int .i64 t4) ∧ wr.drew.cell? ⟨b', off' + k * 6 + 4, none⟩ = some (.int .i64 t5) ∧ wr.drew.cell? ⟨b', off' + k * 6 + 5, none⟩ = some (.int .i64 t6))) := hide (by
          obtain ⟨e1, e2, e3, e4, e5, e6⟩ := z0
          obtain ⟨d1, d2, d3, d4, d5, d6⟩ := y0
          exact ⟨e1, e2, e3, e4, e5, e6, d1, d2, d3, d4, d5, d6⟩)
        clear z0 y0
        have hkc : (k : Int) < len := by omega
        have hk0 : (0 : Int) ≤ (k : Int) := by omega
        go_wp2_with fail
        go_region_held (fun W : World => (W.cell? ⟨b, off + k * 6, none⟩ = some (.int .i64 x1) ∧ W.cell? ⟨b, off + k * 6 + 1, none⟩ = some (.int .i64 x2) ∧ W.cell? ⟨b, off + k * 6 + 2, none⟩ = some (.int .i64 x3) ∧ W.cell? ⟨b, off + k * 6 + 3, none⟩ = some (.int .i64 x4) ∧ W.cell? ⟨b, off + k * 6 + 4, none⟩ = some (.int .i64 x5) ∧ W.cell? ⟨b, off + k * 6 + 5, none⟩ = some (.int .i64 x6) ∧ W.cell? ⟨b', off' + k * 6, none⟩ = some (.int .i64 t1) ∧ W.cell? ⟨b', off' + k * 6 + 1, none⟩ = some (.int .i64 t2) ∧ W.cell? ⟨b', off' + k * 6 + 2, none⟩ = some (.int .i64 t3) ∧ W.cell? ⟨b', off' + k * 6 + 3, none⟩ = some (.int .i64 t4) ∧ W.cell? ⟨b', off' + k * 6 + 4, none⟩ = some (.int .i64 t5) ∧ W.cell? ⟨b', off' + k * 6 + 5, none⟩ = some (.int .i64 t6))) (exact HS.out) (fail)
        generalize sameC ⟨x1, x2, x3, x4, x5, x6⟩ ⟨t1, t2, t3, t4, t5, t6⟩ = sb at *
        cases sb
        · go_wp2
          go_ret
          exact ⟨⟨false, rfl, by simp; intro e; have h1 := HX.out; rw [e, HY.out] at h1; exact absurd (HSB.out.2 h1.symm) (by simp)⟩, HBD.out⟩
        · go_wp2
          go_roundw
          case rel => exact ⟨k + 1, by omega, by simp, hide (fun j hj => by
            by_cases e : j = k
            · rw [e, HX.out, HY.out]; exact HSB.out.1 rfl
            · exact HA.out j (by omega)), HBD⟩
          case measure => simp [intOf]; omega
/-- cells that are there and tell nothing of themselves -/
theorem mv1 : moveR 0 [] 1 1 5 = ([⟨1, 1, 5, 0, 0, 5⟩], 0) := by kernel_rfl
theorem mv2 : moveR 1 [⟨1, 1, 5, 0, 0, 5⟩] 1 1 3 = ([⟨1, 1, 2, 3, 0, 5⟩], 0) := by kernel_rfl
theorem mv3 : moveR 3 [⟨1, 1, 2, 3, 0, 5⟩] 1 1 2 = ([⟨1, 1, 2, 1, 2, 5⟩], 0) := by kernel_rfl
theorem mv4 : moveR 4 [⟨1, 1, 2, 1, 2, 5⟩] 1 1 3 = ([], 13) := by kernel_rfl
theorem mv5 : cellR [⟨1, 1, 2, 1, 2, 5⟩] 1 1 = (⟨1, 1, 2, 1, 2, 5⟩, 0) := by kernel_rfl
set_option maxHeartbeats 1000000 in
theorem lives_any (w : World) : Calls Try.prog 18 #[] w fun e w' => e = .returned (.bool true) ∧ Below w.heap.size w w' := by
  have C1 := hide (restock_any none 0 0 [] 1 1 5 w (isC_nil w))
  rw [mv1] at C1
  have hq := @equal31
  have hqg := @eqg31
  go_enter Try.func18, Try.ntmps18
  go_wp2_with fail
  refine C1.out.mono ?_
  rintro e w1 ⟨a1, c1, rfl, hI1, hb1⟩
  have HB1 := hide hb1
  have C2 := hide (reserve_any a1 1 c1 _ 1 1 3 w1 hI1)
  rw [mv2] at C2
  clear hI1 hb1 C1
  go_wp2_with fail
  refine C2.out.mono ?_
  rintro e w2 ⟨a2, c2, rfl, hI2, hb2⟩
  have HB2 := hide (HB1.out.trans (hb2.mono HB1.out.size))
  have C3 := hide (send_any a2 1 c2 _ 1 1 2 w2 hI2)
  rw [mv3] at C3
  clear hI2 hb2 C2
  go_wp2_with fail
  refine C3.out.mono ?_
  rintro e w3 ⟨a3, c3, rfl, hI3, hb3⟩
  have HB3 := hide (HB2.out.trans (hb3.mono HB2.out.size))
  have HI3 := hide hI3
  have C4 := hide (takeback_any a3 1 c3 _ 1 1 3 w3 hI3)
  rw [mv4] at C4
  clear hI3 hb3 C3
  go_wp2_with fail
  refine C4.out.mono ?_
  rintro e w4 ⟨a4, c4, rfl, hI4, hb4⟩
  have HB4 := hide (HB3.out.trans (hb4.mono HB3.out.size))
  have C5 := hide (cell_any a3 1 c3 _ 1 1 w4 (HI3.out.below' hb4))
  rw [mv5] at C5
  clear hI4 hb4 C4
  go_wp2_with fail
  refine C5.out.mono ?_
  rintro e w5 ⟨rfl, hb5⟩
  have HB5 := hide (HB4.out.trans (hb5.mono HB4.out.size))
  clear hb5 C5
  have hsc : sameC ⟨1, 1, 2, 1, 2, 5⟩ ⟨1, 1, 2, 1, 2, 5⟩ = true := by decide
  dsimp only
  go_wp2
  go_ret
  exact ⟨rfl, HB5.out.alloc HB5.out.size _⟩
end Go.Proofs.Ytjochdmhhhhgiaa
