/- slices.Concat of cells -/
import Derived.Test.YtffhkljegopjmaaDoorKE
import Derived.Laws.AppendOwnNone
import Derived.Lib.AppendZeros
namespace Go.Proofs.YtffhkljegopjmaaDoor
open Go.RowKit
set_option maxRecDepth 40000
theorem info31 : (Tryd.prog.info? 43).map (fun i => (i.zero, i.size, i.bytes)) = some (some (vc Cl0), 6, 48) := by kernel_rfl
theorem info_partsC {i? : Option TypeInfo} {z : Option Value} {s b : Nat} (h : i?.map (fun i => (i.zero, i.size, i.bytes)) = some (z, s, b)) : ∃ i, i? = some i ∧ i.zero = z ∧ i.size = s ∧ i.bytes = b := by
  cases i? with
  | none => cases h
  | some i => simp at h; exact ⟨i, rfl, h.1, h.2.1, h.2.2⟩
theorem addr_add (b off j : Nat) : (⟨b, off, none⟩ : Addr).add j = ⟨b, off + j, none⟩ := by
  unfold Addr.add; by_cases h : j = 0 <;> simp [h]
theorem flat_one (l : List Cl) : ∀ u ∈ l.flatMap clc, u.oneCell' = true := by
  intro u hu
  obtain ⟨x, _, hx⟩ := List.mem_flatMap.1 hu
  simp only [List.mem_cons, List.not_mem_nil, or_false] at hx
  rcases hx with rfl | rfl | rfl | rfl | rfl | rfl <;> rfl
theorem CellAt.get {w : World} {b o : Nat} {x : Cl} (h : CellAt w b o x) : ∀ j, j < 6 → w.cell? ⟨b, o + j, none⟩ = (clc x)[j]? := by
  intro j hj
  obtain ⟨h1, h2, h3, h4, h5, h6⟩ := h
  rcases (by omega : j = 0 ∨ j = 1 ∨ j = 2 ∨ j = 3 ∨ j = 4 ∨ j = 5) with rfl | rfl | rfl | rfl | rfl | rfl
  · simpa using h1
  · simpa using h2
  · simpa using h3
  · simpa using h4
  · simpa using h5
  · simpa using h6
theorem IsC.cells {w : World} {b off len cap : Nat} {l : List Cl} (h : IsC w (some ⟨b, off, none⟩) len cap l) : ∀ j u, (l.flatMap clc)[j]? = some u → w.cell? ((⟨b, off, none⟩ : Addr).add j) = some u := by
  intro j u hj
  have hjl : j < l.length * 6 := by rw [← flat_len]; exact (List.getElem?_eq_some_iff.1 hj).1
  have hl := h.1
  obtain ⟨b', o', e, _, hc⟩ := h.2.2.2.2.1 (j / 6) (by omega)
  cases e
  have := hc.get (j % 6) (by omega)
  rw [← flat_get l (j / 6) (j % 6) (by omega) (by omega), show j / 6 * 6 + j % 6 = j by omega, hj] at this
  rw [addr_add, ← this]
  congr 2
  omega
/-- append(own, cells...) -/
theorem wpList_cells {w : World} {ops : Array Oper} {rest : List Oper} {o : Oper} {a : Act} {Q : Exit → Act → World → Prop} (hgd : o.guard = none) (s x : Operand)
    (ho : o.op = .call { callee := .builtin .append, args := #[s, x], argTypes := #[22, 22] }) (base : Nat) (v : Value) (n : Nat) (xs : List Cl) (hs : a.eval s = v) (hown : w.ownsRow base 43 6 v n (xs.flatMap clc))
    (src : Option Addr) (len cap : Nat) (l : List Cl) (hx : a.eval x = .slice src len cap) (hB : IsC w src len cap l) (hb : (n + len) * 48 ≤ 140737488355328) (hbase : base ≤ w.heap.size)
    (h : ∀ v' w', Hid (w'.ownsRow base 43 6 v' (n + len) ((xs ++ l).flatMap clc) ∧ Below base w w') → wpList Tryd.prog ops Q rest (a.put o.dst v') w') : wpList Tryd.prog ops Q (o :: rest) a w := by
  obtain ⟨i0, hi, hz0, hz1, hz2⟩ := info_partsC info31
  cases src with
  | none =>
    obtain rfl := hB.2.2.2.2.2 rfl
    obtain rfl : len = 0 := by have := hB.2.1; omega
    obtain rfl : l = [] := List.length_eq_zero_iff.1 hB.1
    refine wpList_append_own_none hgd s x 22 ho base 43 i0 6 Tryd.underlying22 hi v n _ hs hown hx ?_
    exact h v w (hide ⟨by simpa using hown, Below.refl _ _⟩)
  | some ad =>
    by_cases h0 : len = 0
    · subst h0
      obtain rfl : l = [] := List.length_eq_zero_iff.1 hB.1
      refine wpList_append_own w hgd s x 22 ho base 43 i0 (vc Cl0) 6 48 Tryd.underlying22 hi hz0 hz1 hz2 rfl (by decide) v n _ hs hown ad 0 cap [] hx rfl (by simp) (by simp) (by unfold maxLen; omega) (by omega) hbase ?_
      intro v' w' ho' hg _
      refine h v' w' (hide ⟨by simpa using ho', (Below.refl _ _).grown hg hbase ?_⟩)
      intro k hk
      exact (hown.lt k hk).1
    · obtain ⟨b, off, e, _⟩ := hB.2.2.2.2.1 0 (by omega)
      cases e
      refine wpList_append_own w hgd s x 22 ho base 43 i0 (vc Cl0) 6 48 Tryd.underlying22 hi hz0 hz1 hz2 rfl (by decide) v n _ hs hown _ len cap (l.flatMap clc) hx (by rw [flat_len, hB.1]) hB.cells (flat_one l) (by unfold maxLen; omega) hb hbase ?_
      intro v' w' ho' hg _
      refine h v' w' (hide ⟨by rw [List.flatMap_append]; exact ho', (Below.refl _ _).grown hg hbase ?_⟩)
      intro k hk
      exact (hown.lt k hk).1
set_option maxHeartbeats 1000000 in
theorem grow_any (n : Nat) (h0 : 0 < n) (hn : n ≤ 100000) (w : World) : Calls Tryd.prog 56 #[.slice none 0 0, .int .i64 (n : Int)] w fun e w' => (∃ v, e = .returned v ∧ w'.ownsRow w.heap.size 43 6 v 0 []) ∧ Below w.heap.size w w' := by
  obtain ⟨i0, hi, hz0, hz1, hz2⟩ := info_partsC info31
  have hr := Go.Lib.run_append_nil_zeros (P := Tryd.prog) w 22 3 22 43 i0 _ .i64 .i64 Tryd.underlying22 Tryd.underlying3 hi hz0 n h0 (by omega) (by omega) (by rw [hz2]; omega)
  have hge := grownCap_ge w n 0 43
  have hle := grownCap_le_maxLen w n 0 43 (by unfold maxLen; omega)
  have HS : Hid ((Builtin.zeroCells (vc Cl0).cells n ++ Builtin.zeroCells (vc Cl0).cells (grownCap w n 0 43 - n)).size = grownCap w n 0 43 * 6) := hide (by
    rw [Array.size_append, size_zeroCells, size_zeroCells]
    show n * 6 + (grownCap w n 0 43 - n) * 6 = _
    omega)
  generalize Builtin.zeroCells (vc Cl0).cells n ++ Builtin.zeroCells (vc Cl0).cells (grownCap w n 0 43 - n) = cur at *
  generalize grownCap w n 0 43 = gc at *
  have HB : Hid (Below w.heap.size w (w.drew.alloc (.cells cur 43))) := hide ((Below.refl _ w).drew.alloc (Nat.le_refl _) _)
  have HO : Hid ((w.drew.alloc (.cells cur 43)).ownsRow w.heap.size 43 6 (.slice (some ⟨w.heap.size, 0, none⟩) 0 gc) 0 []) := hide (World.ownsRow_made w.drew cur gc (Nat.le_refl _) hle HS.out)
  have hn0 : (0 : Int) < (n : Int) := by omega
  have hwn : IntKind.i64.wrap (n : Int) = (n : Int) := wrap64 (by omega) (by omega)
  clear hi hz0 hz1 hz2
  go_enter Tryd.func56, Tryd.ntmps56
  go_wp2_with (at_builtin; refine Go.Lib.wpList_append_run _ rfl _ _ _ _ rfl _ _ rfl rfl _ _ hr ?_)
  go_ret
  exact ⟨⟨_, rfl, HO.out⟩, HB.out⟩
/-- three slices of cells in a row -/
def Row3 (w : World) (q : Nat) (a0 : Option Addr) (n0 c0 : Nat) (a1 : Option Addr) (n1 c1 : Nat) (a2 : Option Addr) (n2 c2 : Nat) : Prop :=
  w.cell? ⟨q, 0, none⟩ = some (.slice a0 n0 c0) ∧ w.cell? ⟨q, 1, none⟩ = some (.slice a1 n1 c1) ∧ w.cell? ⟨q, 2, none⟩ = some (.slice a2 n2 c2)
set_option maxHeartbeats 2000000 in
theorem concat_any (q : Nat) (a0 : Option Addr) (n0 c0 : Nat) (l0 : List Cl) (a1 : Option Addr) (n1 c1 : Nat) (l1 : List Cl) (a2 : Option Addr) (n2 c2 : Nat) (l2 : List Cl) (w : World) (hq : Row3 w q a0 n0 c0 a1 n1 c1 a2 n2 c2) (hql : q < w.heap.size)
    (h0 : IsC w a0 n0 c0 l0) (h1 : IsC w a1 n1 c1 l1) (h2 : IsC w a2 n2 c2 l2) (hn : n0 + n1 + n2 ≤ 100000) (hp : 0 < n1) : Calls Tryd.prog 43 #[.slice (some ⟨q, 0, none⟩) 3 3] w fun e w' => (∃ v, e = .returned v ∧ w'.ownsRow w.heap.size 43 6 v (n0 + n1 + n2) ((l0 ++ l1 ++ l2).flatMap clc)) ∧ Below w.heap.size w w' := by
  have HQ := hide hq
  have HQL := hide hql
  have H0 := hide h0
  have H1 := hide h1
  have H2 := hide h2
  have HGR := hide (fun W => grow_any (n0 + n1 + n2) (by omega) hn W)
  have hw0 : IntKind.i64.wrap (n0 : Int) = n0 := wrap64 (by omega) (by omega)
  have hw1 : IntKind.i64.wrap ((n0 : Int) + n1) = (n0 : Int) + n1 := wrap64 (by omega) (by omega)
  have hw2 : IntKind.i64.wrap ((n0 : Int) + n1 + n2) = (n0 : Int) + n1 + n2 := wrap64 (by omega) (by omega)
  have hg0 : ¬ (n0 : Int) < 0 := by omega
  have hg1 : ¬ (n0 : Int) + n1 < 0 := by omega
  have hg2 : ¬ (n0 : Int) + n1 + n2 < 0 := by omega
  have HB := hide (Below.refl w.heap.size w)
  have HNN := hide (And.intro hn hp)
  clear hq hql h0 h1 h2 hn hp
  go_enter Tryd.func43, Tryd.ntmps43
  go_wp2
  go_loopw [3, 11] (fun sz i wr => ∃ k : Nat, k ≤ 3 ∧ i = .int .i64 k ∧ sz = .int .i64 (if k = 0 then 0 else if k = 1 then (n0 : Int) else if k = 2 then (n0 : Int) + n1 else (n0 : Int) + n1 + n2) ∧ wr = w) (fun _ i _ => 3 - (intOf i).toNat)
  case atStart => exact ⟨0, by omega, rfl, rfl, rfl⟩
  case round =>
    obtain ⟨k, hk, rfl, rfl, hw⟩ := hrel
    obtain rfl := hw.symm
    clear hw
    rcases (by omega : k = 0 ∨ k = 1 ∨ k = 2 ∨ k = 3) with rfl | rfl | rfl | rfl
    · have z0 := HQ.out.1
      simp only [if_true]
      go_wp2
      go_roundw
      case rel => exact ⟨1, by omega, by simp, by simp, by trivial⟩
      case measure => simp [intOf]
    · have z0 := HQ.out.2.1
      simp only [Nat.reduceEqDiff, if_true, if_false]
      go_wp2
      go_roundw
      case rel => exact ⟨2, by omega, by simp, by simp, by trivial⟩
      case measure => simp [intOf]
    · have z0 := HQ.out.2.2
      simp only [Nat.reduceEqDiff, if_true, if_false]
      go_wp2
      go_roundw
      case rel => exact ⟨3, by omega, by simp, by simp, by trivial⟩
      case measure => simp [intOf]
    · simp only [Nat.reduceEqDiff, if_false]
      go_wp2_with fail
      have HG2 := hide (HGR.out w)
      simp only [Int.natCast_add] at HG2
      refine HG2.out.mono ?_
      rintro e w2 ⟨⟨v, rfl, hown⟩, hb2⟩
      have HO2 := hide (And.intro hown hb2)
      clear hown hb2 HG2 HGR
      go_wp2
      go_loopw [6, 27] (fun nv i W => ∃ k : Nat, k ≤ 3 ∧ i = .int .i64 k ∧ Hid (W.ownsRow w.heap.size 43 6 nv (if k = 0 then 0 else if k = 1 then n0 else if k = 2 then n0 + n1 else n0 + n1 + n2) ((if k = 0 then [] else if k = 1 then l0 else if k = 2 then l0 ++ l1 else l0 ++ l1 ++ l2).flatMap clc) ∧ Below w.heap.size w W)) (fun _ i _ => 3 - (intOf i).toNat)
      case atStart => exact ⟨0, by omega, rfl, hide ⟨by simpa using HO2.out.1, HO2.out.2⟩⟩
      case round =>
        obtain ⟨k, hk, rfl, HW⟩ := hrel
        rcases (by omega : k = 0 ∨ k = 1 ∨ k = 2 ∨ k = 3) with rfl | rfl | rfl | rfl
        · have z0 := ((World.cell?_of_block (HW.out.2.block q HQL.out)).trans HQ.out.1)
          simp only [Nat.reduceEqDiff, if_true, if_false] at HW
          have hI := H0.out.below' HW.out.2
          go_wp2_with (at_builtin; refine wpList_cells rfl _ _ rfl w.heap.size u6 0 [] rfl HW.out.1 a0 n0 c0 l0 rfl hI (by have := HNN.out.1; omega) HW.out.2.size ?_; intro v' w' HN)
          go_roundw
          case rel => exact ⟨1, by omega, by simp, hide ⟨by simpa using HN.out.1, HW.out.2.trans HN.out.2⟩⟩
          case measure => simp [intOf]
        · have z0 := ((World.cell?_of_block (HW.out.2.block q HQL.out)).trans HQ.out.2.1)
          simp only [Nat.reduceEqDiff, if_true, if_false] at HW
          have hI := H1.out.below' HW.out.2
          go_wp2_with (at_builtin; refine wpList_cells rfl _ _ rfl w.heap.size u6 n0 l0 rfl HW.out.1 a1 n1 c1 l1 rfl hI (by have := HNN.out.1; omega) HW.out.2.size ?_; intro v' w' HN)
          go_roundw
          case rel => exact ⟨2, by omega, by simp, hide ⟨by simpa using HN.out.1, HW.out.2.trans HN.out.2⟩⟩
          case measure => simp [intOf]
        · have z0 := ((World.cell?_of_block (HW.out.2.block q HQL.out)).trans HQ.out.2.2)
          simp only [Nat.reduceEqDiff, if_true, if_false] at HW
          have hI := H2.out.below' HW.out.2
          go_wp2_with (at_builtin; refine wpList_cells rfl _ _ rfl w.heap.size u6 (n0 + n1) (l0 ++ l1) rfl HW.out.1 a2 n2 c2 l2 rfl hI (by have := HNN.out.1; omega) HW.out.2.size ?_; intro v' w' HN)
          go_roundw
          case rel => exact ⟨3, by omega, by simp, hide ⟨by simpa using HN.out.1, HW.out.2.trans HN.out.2⟩⟩
          case measure => simp [intOf]
        · simp only [Nat.reduceEqDiff, if_false] at HW
          go_wp2
          go_ret
          exact ⟨⟨_, rfl, HW.out.1⟩, HW.out.2⟩
end Go.Proofs.YtffhkljegopjmaaDoor
