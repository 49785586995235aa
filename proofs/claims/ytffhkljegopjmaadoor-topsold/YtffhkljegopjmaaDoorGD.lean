/- slices.IndexFunc, ContainsFunc, Equal of pays -/
import Derived.Test.YtffhkljegopjmaaDoorGC
import Derived.Laws.StructEq
namespace Go.Proofs.YtffhkljegopjmaaDoor.Lg
open Go.RowKit
set_option maxRecDepth 40000
/-- where the first one is that p tells -/
def IdxP (p : Py → Bool) (l : List Py) (k : Int) : Prop := (k = -1 ∧ ∀ j, j < l.length → p (l.getD j Py0) = false) ∨ ∃ j, j < l.length ∧ k = (j : Int) ∧ p (l.getD j Py0) = true ∧ ∀ i, i < j → p (l.getD i Py0) = false
set_option maxHeartbeats 1000000 in
theorem index_any (g : Nat) (p : Py → Bool) (hent : ∀ args W, (callFunc g args).run Tryd.prog W = .ok (.enter g args) W) (hcall : ∀ x W, Calls Tryd.prog g #[vp x] W fun e w' => e = .returned (.bool (p x)) ∧ Below W.heap.size W w') (a : Option Addr) (len cap : Nat) (l : List Py) (w : World) (h : IsP w a len cap l) :
    Calls Tryd.prog 68 #[.slice a len cap, .func (.func g) #[] #[]] w fun e w' => (∃ k : Int, e = .returned (.int .i64 k) ∧ IdxP p l k) ∧ Below w.heap.size w w' := by
  have HV := hide h
  have HLN := hide h.1
  have hcap := h.2.1
  have hcm : cap ≤ 9223372036854775807 := h.2.2.1
  have HC := hide hcall
  clear h hcall
  go_enter Tryd.func68, Tryd.ntmps68
  go_wp2
  go_loopw [8] (fun i wr => ∃ k : Nat, k ≤ len ∧ i = .int .i64 k ∧ Hid (∀ j, j < k → p (l.getD j Py0) = false) ∧ Hid (Below w.heap.size w wr)) (fun i _ => len - (intOf i).toNat)
  case atStart => exact ⟨0, Nat.zero_le _, rfl, hide (fun j hj => by omega), hide (Below.refl _ _)⟩
  case round =>
    obtain ⟨k, hk, rfl, HA, HW⟩ := hrel
    by_cases hlt : k < len
    · obtain ⟨bs, off, rfl, hbs, z0⟩ := (HV.out.below' HW.out).2.2.2.2.1 k hlt
      have HST : Hid (p (l.getD k Py0) = false → ∀ j, j < k + 1 → p (l.getD j Py0) = false) := hide (fun h j hj => by
        rcases Nat.lt_succ_iff_lt_or_eq.1 hj with h1 | h1
        · exact HA.out j h1
        · rw [h1]; exact h)
      have HFO : Hid (p (l.getD k Py0) = true → IdxP p l (k : Int)) := hide (fun h => .inr ⟨k, by rw [HLN.out]; exact hlt, rfl, h, HA.out⟩)
      have HCx := hide (HC.out (l.getD k Py0))
      generalize l.getD k Py0 = x at *
      obtain ⟨x1, x2, x3, x4⟩ := x
      obtain ⟨z1, z2, z3, z4⟩ := z0
      dsimp only at z1 z2 z3 z4
      have hkc : (k : Int) < len := by omega
      have hk0 : (0 : Int) ≤ (k : Int) := by omega
      cases hp : p ⟨x1, x2, x3, x4⟩
      · rw [hp] at HCx
        have HN := hide (HST.out hp)
        clear HFO HST hp
        go_wp2_with fail
        refine (HCx.out _).mono ?_
        rintro e w' ⟨rfl, hb⟩
        have HB := hide (HW.out.trans (hb.mono HW.out.size))
        clear hb
        go_wp2
        go_roundw
        case rel => exact ⟨k + 1, by omega, by simp, HN, HB⟩
        case measure => simp [intOf]; omega
      · rw [hp] at HCx
        have HN := hide (HFO.out hp)
        clear HFO HST hp
        go_wp2_with fail
        refine (HCx.out _).mono ?_
        rintro e w' ⟨rfl, hb⟩
        have HB := hide (HW.out.trans (hb.mono HW.out.size))
        clear hb
        go_wp2
        go_ret
        exact ⟨⟨_, rfl, HN.out⟩, HB.out⟩
    · obtain rfl : k = len := by omega
      have HN : Hid (IdxP p l (-1)) := hide (.inl ⟨rfl, by rw [HLN.out]; exact HA.out⟩)
      go_wp2
      go_ret
      exact ⟨⟨_, rfl, HN.out⟩, HW.out⟩
theorem idx_any {p : Py → Bool} {l : List Py} {k : Int} (h : IdxP p l k) : decide (0 ≤ k) = l.any p := by
  rcases h with ⟨rfl, hn⟩ | ⟨j, hj, rfl, hp, _⟩
  · symm
    rw [show decide ((0 : Int) ≤ -1) = false from rfl, List.any_eq_false]
    intro x hx
    obtain ⟨i, hi, rfl⟩ := List.mem_iff_getElem.1 hx
    have := hn i hi
    rw [List.getD_eq_getElem?_getD, List.getElem?_eq_getElem hi] at this
    simpa using this
  · rw [show decide ((0 : Int) ≤ (j : Int)) = true from decide_eq_true (by omega)]
    symm
    rw [List.any_eq_true]
    exact ⟨l.getD j Py0, by rw [List.getD_eq_getElem?_getD, List.getElem?_eq_getElem hj]; simp, hp⟩
theorem contains_any (g : Nat) (p : Py → Bool) (hent : ∀ args W, (callFunc g args).run Tryd.prog W = .ok (.enter g args) W) (hcall : ∀ x W, Calls Tryd.prog g #[vp x] W fun e w' => e = .returned (.bool (p x)) ∧ Below W.heap.size W w') (a : Option Addr) (len cap : Nat) (l : List Py) (w : World) (h : IsP w a len cap l) :
    Calls Tryd.prog 61 #[.slice a len cap, .func (.func g) #[] #[]] w fun e w' => e = .returned (.bool (l.any p)) ∧ Below w.heap.size w w' := by
  have C := hide (index_any g p hent hcall a len cap l w h)
  generalize hr : l.any p = r
  have HR := hide hr
  clear h hcall hent hr
  go_enter Tryd.func61, Tryd.ntmps61
  go_wp2_with fail
  refine C.out.mono ?_
  rintro e w' ⟨⟨k, rfl, hk⟩, hb⟩
  have HB := hide hb
  have HK := hide (idx_any hk)
  clear hb hk C
  go_wp2
  go_ret
  exact ⟨ret_bool (by rw [← HR.out, ← HK.out]), HB.out⟩
def sameP (x y : Py) : Bool := (x.o == y.o) && ((x.op == y.op) && ((x.ca == y.ca) && (x.re == y.re)))
theorem sameP_iff (x y : Py) : sameP x y = true ↔ x = y := by
  obtain ⟨a1, a2, a3, a4⟩ := x
  obtain ⟨b1, b2, b3, b4⟩ := y
  simp only [sameP, Bool.and_eq_true, beq_iff_eq, Py.mk.injEq]
theorem struct30 : Tryd.prog.underlying 47 = some (.struct (Tryd.prog.fieldsOf 47)) := by kernel_rfl
theorem stood30 : Tryd.prog.stoodInHeld 47 = false := by kernel_rfl
theorem guard30 : Tryd.prog.eqGuardType Tryd.prog.depth 47 = false := by kernel_rfl
theorem equal30 (a1 a2 a3 a4 b1 b2 b3 b4 : Int) (w : World) :
    (Op.equalIn 10000 47 (.agg #[.int .i64 a1, .int .i64 a2, .int .i64 a3, .int .i64 a4]) (.agg #[.int .i64 b1, .int .i64 b2, .int .i64 b3, .int .i64 b4])).run Tryd.prog w = .ok (sameP ⟨a1, a2, a3, a4⟩ ⟨b1, b2, b3, b4⟩) w := by
  have u3 := Tryd.underlying3
  have a3' := Tryd.isAgg3
  have z3 := Tryd.sizeOf3
  have u9 := Tryd.underlying2
  have a9 := Tryd.isAgg2
  have z9 := Tryd.sizeOf2
  rw [show (10000 : Nat) = 9999 + 1 from rfl, run_equalIn_agg w 9999 47 _ _ struct30 stood30]
  simp only [Program.fieldsOf, Tryd.underlying47]
  go_simp
  simp only [sameP]
  by_cases h1 : a1 = b1 <;> by_cases h2 : a2 = b2 <;> by_cases h3 : a3 = b3 <;> by_cases h4 : a4 = b4 <;> simp [h1, h2, h3, h4]
theorem eqg30 (op : BinOp) (a b : Operand) (xs ys : Array Value) (w : World) : (eqGuard op 47 a b (.agg xs) (.agg ys)).run Tryd.prog w = .ok () w := run_eqGuard_agg w op 47 a b xs ys guard30
theorem py_ext {l l' : List Py} (h : l.length = l'.length) (he : ∀ i, i < l.length → l.getD i Py0 = l'.getD i Py0) : l = l' := by
  apply List.ext_getElem h
  intro i h1 h2
  have := he i h1
  rw [List.getD_eq_getElem?_getD, List.getD_eq_getElem?_getD, List.getElem?_eq_getElem h1, List.getElem?_eq_getElem h2] at this
  exact this
set_option maxHeartbeats 1000000 in
/-- slices.Equal of pays -/
theorem equal_any (a : Option Addr) (len cap : Nat) (l : List Py) (a' : Option Addr) (len' cap' : Nat) (l' : List Py) (w : World) (h : IsP w a len cap l) (h' : IsP w a' len' cap' l') :
    Calls Tryd.prog 53 #[.slice a len cap, .slice a' len' cap'] w fun e w' => (∃ r, e = .returned (.bool r) ∧ (r = true ↔ l = l')) ∧ Below w.heap.size w w' := by
  have HV := hide h
  have HV' := hide h'
  have HLN := hide h.1
  have HLN' := hide h'.1
  have hcap := h.2.1
  have hcm : cap ≤ 9223372036854775807 := h.2.2.1
  have hcap' := h'.2.1
  have hcm' : cap' ≤ 9223372036854775807 := h'.2.2.1
  have hq := @equal30
  have hqg := @eqg30
  clear h h'
  by_cases hne : len = len'
  case neg =>
    go_enter Tryd.func53, Tryd.ntmps53
    go_wp2
    go_ret
    exact ⟨⟨false, rfl, by simp; intro e; apply hne; rw [← HLN.out, ← HLN'.out, e]⟩, Below.refl _ _⟩
  case pos =>
    subst hne
    go_enter Tryd.func53, Tryd.ntmps53
    go_wp2
    go_loopw [13] (fun i wr => ∃ k : Nat, k ≤ len ∧ i = .int .i64 k ∧ Hid (∀ j, j < k → l.getD j Py0 = l'.getD j Py0) ∧ Hid (Below w.heap.size w wr)) (fun i _ => len - (intOf i).toNat)
    case atStart => exact ⟨0, Nat.zero_le _, rfl, hide (fun j hj => by omega), hide (Below.refl _ _)⟩
    case round =>
      obtain ⟨k, hk, rfl, HA, HB⟩ := hrel
      by_cases hlt : k < len
      case neg =>
        obtain rfl : k = len := by omega
        go_wp2
        go_ret
        exact ⟨⟨true, rfl, by simp; exact py_ext (HLN.out.trans HLN'.out.symm) (fun i hi => HA.out i (by rw [← HLN.out]; exact hi))⟩, HB.out⟩
      case pos =>
        obtain ⟨b, off, rfl, hbs, z0⟩ := (HV.out.below' HB.out).2.2.2.2.1 k hlt
        obtain ⟨b', off', rfl, hbs', y0⟩ := (HV'.out.below' HB.out).2.2.2.2.1 k hlt
        generalize hx : l.getD k Py0 = x at *
        generalize hy : l'.getD k Py0 = y at *
        have HX := hide hx
        have HY := hide hy
        have HSB := hide (sameP_iff x y)
        clear hx hy
        obtain ⟨x1, x2, x3, x4⟩ := x
        obtain ⟨t1, t2, t3, t4⟩ := y
        have HBD : Hid (Below w.heap.size w wr.drew) := hide HB.out.drew
        have HS : Hid ((wr.drew.cell? ⟨b, off + k * 4, none⟩ = some (.int .i64 x1) ∧ wr.drew.cell? ⟨b, off + k * 4 + 1, none⟩ = some (.int .i64 x2) ∧ wr.drew.cell? ⟨b, off + k * 4 + 2, none⟩ = some (.int .i64 x3) ∧ wr.drew.cell? ⟨b, off + k * 4 + 3, none⟩ = some (.int .i64 x4) ∧ wr.drew.cell? ⟨b', off' + k * 4, none⟩ = some (.int .i64 t1) ∧ wr.drew.cell? ⟨b', off' + k * 4 + 1, none⟩ = some (.int .i64 t2) ∧ wr.drew.cell? ⟨b', off' + k * 4 + 2, none⟩ = some (.int .i64 t3) ∧ wr.drew.cell? ⟨b', off' + k * 4 + 3, none⟩ = some (.int .i64 t4))) := hide (by
          obtain ⟨e1, e2, e3, e4⟩ := z0
          obtain ⟨d1, d2, d3, d4⟩ := y0
          exact ⟨e1, e2, e3, e4, d1, d2, d3, d4⟩)
        clear z0 y0
        have hkc : (k : Int) < len := by omega
        have hk0 : (0 : Int) ≤ (k : Int) := by omega
        go_wp2_with fail
        go_region_held (fun W : World => (W.cell? ⟨b, off + k * 4, none⟩ = some (.int .i64 x1) ∧ W.cell? ⟨b, off + k * 4 + 1, none⟩ = some (.int .i64 x2) ∧ W.cell? ⟨b, off + k * 4 + 2, none⟩ = some (.int .i64 x3) ∧ W.cell? ⟨b, off + k * 4 + 3, none⟩ = some (.int .i64 x4) ∧ W.cell? ⟨b', off' + k * 4, none⟩ = some (.int .i64 t1) ∧ W.cell? ⟨b', off' + k * 4 + 1, none⟩ = some (.int .i64 t2) ∧ W.cell? ⟨b', off' + k * 4 + 2, none⟩ = some (.int .i64 t3) ∧ W.cell? ⟨b', off' + k * 4 + 3, none⟩ = some (.int .i64 t4))) (exact HS.out) (fail)
        generalize sameP ⟨x1, x2, x3, x4⟩ ⟨t1, t2, t3, t4⟩ = sb at *
        cases sb
        · go_wp2
          go_ret
          exact ⟨⟨false, rfl, by simp; intro e; have h1 := HX.out; rw [e, HY.out] at h1; exact absurd (HSB.out.2 h1.symm) (by simp)⟩, HBD.out⟩
        · go_wp2
          go_roundw
          case rel => exact ⟨k + 1, by omega, by simp, hide (fun j hj => by
            by_cases e : j = k
            · rw [e, HX.out, HY.out]; exact HSB.out.1 rfl
            · exact HA.out j (by omega)), HBD⟩
          case measure => simp [intOf]; omega
/-- pays in a row of their own, which may be written -/
def RowP (w : World) (q : Nat) (l : List Py) : Prop := w.heap[q]? = some (.cells (l.flatMap pyc).toArray 47 (0, 0))
theorem pflat_len (l : List Py) : (l.flatMap pyc).length = l.length * 4 := by
  induction l with
  | nil => rfl
  | cons x r ih => simp only [List.flatMap_cons, List.length_append, ih, List.length_cons]; simp; omega
theorem pflat_get (l : List Py) : ∀ (i j : Nat), j < 4 → i < l.length → (l.flatMap pyc)[i * 4 + j]? = (pyc (l.getD i Py0))[j]? := by
  induction l with
  | nil => intro i j _ hi; simp at hi
  | cons x r ih =>
    intro i j hj hi
    cases i with
    | zero => simp only [List.flatMap_cons, List.getD_cons_zero]; rw [List.getElem?_append_left (by simp; omega)]; simp
    | succ i =>
      simp only [List.flatMap_cons, List.getD_cons_succ]
      rw [List.getElem?_append_right (by simp; omega)]
      rw [← ih i j hj (by simpa using hi)]
      congr 1
      simp
      omega
theorem RowP.at {w : World} {q : Nat} {l : List Py} (h : RowP w q l) {i : Nat} (hi : i < l.length) : PayAt w q (i * 4) (l.getD i Py0) := by
  have key : ∀ j, j < 4 → w.cell? ⟨q, i * 4 + j, none⟩ = (pyc (l.getD i Py0))[j]? := fun j hj => by
    rw [← pflat_get l i j hj hi]
    simp [World.cell?, show w.heap[q]? = _ from h]
  refine ⟨?_, ?_, ?_, ?_⟩
  · simpa using key 0 (by omega)
  · simpa using key 1 (by omega)
  · simpa using key 2 (by omega)
  · simpa using key 3 (by omega)
end Go.Proofs.YtffhkljegopjmaaDoor.Lg
