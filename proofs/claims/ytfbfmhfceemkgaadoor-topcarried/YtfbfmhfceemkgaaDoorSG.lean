/- slices.Concat of shipments -/
import Derived.Test.YtfbfmhfceemkgaaDoorSF
import Derived.Laws.AppendOwnNone
import Derived.Lib.AppendZeros
namespace Go.Proofs.YtfbfmhfceemkgaaDoor
open Go.RowKit
theorem info42 : (Tryd.prog.info? 55).map (fun i => (i.zero, i.size, i.bytes)) = some (some (vs Sh0), 2, 16) := by kernel_rfl
theorem info_partsC {i? : Option TypeInfo} {z : Option Value} {s b : Nat} (h : i?.map (fun i => (i.zero, i.size, i.bytes)) = some (z, s, b)) : ∃ i, i? = some i ∧ i.zero = z ∧ i.size = s ∧ i.bytes = b := by
  cases i? with
  | none => cases h
  | some i => simp at h; exact ⟨i, rfl, h.1, h.2.1, h.2.2⟩
theorem addr_add (b off j : Nat) : (⟨b, off, none⟩ : Addr).add j = ⟨b, off + j, none⟩ := by
  unfold Addr.add; by_cases h : j = 0 <;> simp [h]
theorem flat_one (l : List Sh) : ∀ u ∈ l.flatMap shc, u.oneCell' = true := by
  intro u hu
  obtain ⟨x, _, hx⟩ := List.mem_flatMap.1 hu
  simp only [List.mem_cons, List.not_mem_nil, or_false] at hx
  rcases hx with rfl | rfl <;> rfl
theorem ShAt.get {w : World} {b o : Nat} {x : Sh} (h : ShAt w b o x) : ∀ j, j < 2 → w.cell? ⟨b, o + j, none⟩ = (shc x)[j]? := by
  intro j hj
  obtain ⟨h1, h2⟩ := h
  rcases (by omega : j = 0 ∨ j = 1) with rfl | rfl
  · simpa using h1
  · simpa using h2
theorem IsH.cells {w : World} {b off len cap : Nat} {l : List Sh} (h : IsH w (some ⟨b, off, none⟩) len cap l) : ∀ j u, (l.flatMap shc)[j]? = some u → w.cell? ((⟨b, off, none⟩ : Addr).add j) = some u := by
  intro j u hj
  have hjl : j < l.length * 2 := by rw [← flat_len]; exact (List.getElem?_eq_some_iff.1 hj).1
  have hl := h.1
  obtain ⟨b', o', e, _, hc⟩ := h.2.2.2.2.1 (j / 2) (by omega)
  cases e
  have := hc.get (j % 2) (by omega)
  rw [← flat_get l (j / 2) (j % 2) (by omega) (by omega), show j / 2 * 2 + j % 2 = j by omega, hj] at this
  rw [addr_add, ← this]
  congr 2
  omega
/-- append(own, cells...) -/
theorem wpList_cells {w : World} {ops : Array Oper} {rest : List Oper} {o : Oper} {a : Act} {Q : Exit → Act → World → Prop} (hgd : o.guard = none) (s x : Operand)
    (ho : o.op = .call { callee := .builtin .append, args := #[s, x], argTypes := #[24, 24] }) (base : Nat) (v : Value) (n : Nat) (xs : List Sh) (hs : a.eval s = v) (hown : w.ownsRow base 55 2 v n (xs.flatMap shc))
    (src : Option Addr) (len cap : Nat) (l : List Sh) (hx : a.eval x = .slice src len cap) (hB : IsH w src len cap l) (hb : (n + len) * 16 ≤ 140737488355328) (hbase : base ≤ w.heap.size)
    (h : ∀ v' w', Hid (w'.ownsRow base 55 2 v' (n + len) ((xs ++ l).flatMap shc) ∧ Below base w w') → wpList Tryd.prog ops Q rest (a.put o.dst v') w') : wpList Tryd.prog ops Q (o :: rest) a w := by
  obtain ⟨i0, hi, hz0, hz1, hz2⟩ := info_partsC info42
  cases src with
  | none =>
    obtain rfl := hB.2.2.2.2.2 rfl
    obtain rfl : len = 0 := by have := hB.2.1; omega
    obtain rfl : l = [] := List.length_eq_zero_iff.1 hB.1
    refine wpList_append_own_none hgd s x 24 ho base 55 i0 2 Tryd.underlying24 hi v n _ hs hown hx ?_
    exact h v w (hide ⟨by simpa using hown, Below.refl _ _⟩)
  | some ad =>
    by_cases h0 : len = 0
    · subst h0
      obtain rfl : l = [] := List.length_eq_zero_iff.1 hB.1
      refine wpList_append_own w hgd s x 24 ho base 55 i0 (vs Sh0) 2 16 Tryd.underlying24 hi hz0 hz1 hz2 rfl (by decide) v n _ hs hown ad 0 cap [] hx rfl (by simp) (by simp) (by unfold maxLen; omega) (by omega) hbase ?_
      intro v' w' ho' hg _
      refine h v' w' (hide ⟨by simpa using ho', (Below.refl _ _).grown hg hbase ?_⟩)
      intro k hk
      exact (hown.lt k hk).1
    · obtain ⟨b, off, e, _⟩ := hB.2.2.2.2.1 0 (by omega)
      cases e
      refine wpList_append_own w hgd s x 24 ho base 55 i0 (vs Sh0) 2 16 Tryd.underlying24 hi hz0 hz1 hz2 rfl (by decide) v n _ hs hown _ len cap (l.flatMap shc) hx (by rw [flat_len, hB.1]) hB.cells (flat_one l) (by unfold maxLen; omega) hb hbase ?_
      intro v' w' ho' hg _
      refine h v' w' (hide ⟨by rw [List.flatMap_append]; exact ho', (Below.refl _ _).grown hg hbase ?_⟩)
      intro k hk
      exact (hown.lt k hk).1
set_option maxHeartbeats 1000000 in
theorem grow_any (n : Nat) (h0 : 0 < n) (hn : n ≤ 100000) (w : World) : Calls Tryd.prog 34 #[.slice none 0 0, .int .i64 (n : Int)] w fun e w' => (∃ v, e = .returned v ∧ w'.ownsRow w.heap.size 55 2 v 0 []) ∧ Below w.heap.size w w' := by
  obtain ⟨i0, hi, hz0, hz1, hz2⟩ := info_partsC info42
  have hr := Go.Lib.run_append_nil_zeros (P := Tryd.prog) w 24 3 24 55 i0 _ .i64 .i64 Tryd.underlying24 Tryd.underlying3 hi hz0 n h0 (by omega) (by omega) (by rw [hz2]; omega)
  have hge := grownCap_ge w n 0 55
  have hle := grownCap_le_maxLen w n 0 55 (by unfold maxLen; omega)
  have HS : Hid ((Builtin.zeroCells (vs Sh0).cells n ++ Builtin.zeroCells (vs Sh0).cells (grownCap w n 0 55 - n)).size = grownCap w n 0 55 * 2) := hide (by
    rw [Array.size_append, size_zeroCells, size_zeroCells]
    show n * 2 + (grownCap w n 0 55 - n) * 2 = _
    omega)
  generalize Builtin.zeroCells (vs Sh0).cells n ++ Builtin.zeroCells (vs Sh0).cells (grownCap w n 0 55 - n) = cur at *
  generalize grownCap w n 0 55 = gc at *
  have HB : Hid (Below w.heap.size w (w.drew.alloc (.cells cur 55))) := hide ((Below.refl _ w).drew.alloc (Nat.le_refl _) _)
  have HO : Hid ((w.drew.alloc (.cells cur 55)).ownsRow w.heap.size 55 2 (.slice (some ⟨w.heap.size, 0, none⟩) 0 gc) 0 []) := hide (World.ownsRow_made w.drew cur gc (Nat.le_refl _) hle HS.out)
  have hn0 : (0 : Int) < (n : Int) := by omega
  have hwn : IntKind.i64.wrap (n : Int) = (n : Int) := wrap64 (by omega) (by omega)
  clear hi hz0 hz1 hz2
  go_enter Tryd.func34, Tryd.ntmps34
  go_wp2_with (at_builtin; refine Go.Lib.wpList_append_run _ rfl _ _ _ _ rfl _ _ rfl rfl _ _ hr ?_)
  go_ret
  exact ⟨⟨_, rfl, HO.out⟩, HB.out⟩
/-- three slices of cells in a row -/
def Row3 (w : World) (q : Nat) (a0 : Option Addr) (n0 c0 : Nat) (a1 : Option Addr) (n1 c1 : Nat) (a2 : Option Addr) (n2 c2 : Nat) : Prop :=
  w.cell? ⟨q, 0, none⟩ = some (.slice a0 n0 c0) ∧ w.cell? ⟨q, 1, none⟩ = some (.slice a1 n1 c1) ∧ w.cell? ⟨q, 2, none⟩ = some (.slice a2 n2 c2)
set_option maxHeartbeats 2000000 in
theorem concat_any (q : Nat) (a0 : Option Addr) (n0 c0 : Nat) (l0 : List Sh) (a1 : Option Addr) (n1 c1 : Nat) (l1 : List Sh) (a2 : Option Addr) (n2 c2 : Nat) (l2 : List Sh) (w : World) (hq : Row3 w q a0 n0 c0 a1 n1 c1 a2 n2 c2) (hql : q < w.heap.size)
    (h0 : IsH w a0 n0 c0 l0) (h1 : IsH w a1 n1 c1 l1) (h2 : IsH w a2 n2 c2 l2) (hn : n0 + n1 + n2 ≤ 100000) (hp : 0 < n1) : Calls Tryd.prog 30 #[.slice (some ⟨q, 0, none⟩) 3 3] w fun e w' => (∃ v, e = .returned v ∧ w'.ownsRow w.heap.size 55 2 v (n0 + n1 + n2) ((l0 ++ l1 ++ l2).flatMap shc)) ∧ Below w.heap.size w w' := by
  have HQ := hide hq
  have HQL := hide hql
  have H0 := hide h0
  have H1 := hide h1
  have H2 := hide h2
  have HGR := hide (fun W => grow_any (n0 + n1 + n2) (by omega) hn W)
  have hw0 : IntKind.i64.wrap (n0 : Int) = n0 := wrap64 (by omega) (by omega)
  have hw1 : IntKind.i64.wrap ((n0 : Int) + n1) = (n0 : Int) + n1 := wrap64 (by omega) (by omega)
  have hw2 : IntKind.i64.wrap ((n0 : Int) + n1 + n2) = (n0 : Int) + n1 + n2 := wrap64 (by omega) (by omega)
  have hg0 : ¬ (n0 : Int) < 0 := by omega
  have hg1 : ¬ (n0 : Int) + n1 < 0 := by omega
  have hg2 : ¬ (n0 : Int) + n1 + n2 < 0 := by omega
  have HB := hide (Below.refl w.heap.size w)
  have HNN := hide (And.intro hn hp)
  clear hq hql h0 h1 h2 hn hp
  go_enter Tryd.func30, Tryd.ntmps30
  go_wp2
  go_loopw [3, 11] (fun sz i wr => ∃ k : Nat, k ≤ 3 ∧ i = .int .i64 k ∧ sz = .int .i64 (if k = 0 then 0 else if k = 1 then (n0 : Int) else if k = 2 then (n0 : Int) + n1 else (n0 : Int) + n1 + n2) ∧ wr = w) (fun _ i _ => 3 - (intOf i).toNat)
  case atStart => exact ⟨0, by omega, rfl, rfl, rfl⟩
  case round =>
    obtain ⟨k, hk, rfl, rfl, hw⟩ := hrel
    obtain rfl := hw.symm
    clear hw
    rcases (by omega : k = 0 ∨ k = 1 ∨ k = 2 ∨ k = 3) with rfl | rfl | rfl | rfl
    · have z0 := HQ.out.1
      simp only [if_true]
      go_wp2
      go_roundw
      case rel => exact ⟨1, by omega, by simp, by simp, by trivial⟩
      case measure => simp [intOf]
    · have z0 := HQ.out.2.1
      simp only [Nat.reduceEqDiff, if_true, if_false]
      go_wp2
      go_roundw
      case rel => exact ⟨2, by omega, by simp, by simp, by trivial⟩
      case measure => simp [intOf]
    · have z0 := HQ.out.2.2
      simp only [Nat.reduceEqDiff, if_true, if_false]
      go_wp2
      go_roundw
      case rel => exact ⟨3, by omega, by simp, by simp, by trivial⟩
      case measure => simp [intOf]
    · simp only [Nat.reduceEqDiff, if_false]
      go_wp2_with fail
      have HG2 := hide (HGR.out w)
      simp only [Int.natCast_add] at HG2
      refine HG2.out.mono ?_
      rintro e w2 ⟨⟨v, rfl, hown⟩, hb2⟩
      have HO2 := hide (And.intro hown hb2)
      clear hown hb2 HG2 HGR
      go_wp2
      go_loopw [6, 27] (fun nv i W => ∃ k : Nat, k ≤ 3 ∧ i = .int .i64 k ∧ Hid (W.ownsRow w.heap.size 55 2 nv (if k = 0 then 0 else if k = 1 then n0 else if k = 2 then n0 + n1 else n0 + n1 + n2) ((if k = 0 then [] else if k = 1 then l0 else if k = 2 then l0 ++ l1 else l0 ++ l1 ++ l2).flatMap shc) ∧ Below w.heap.size w W)) (fun _ i _ => 3 - (intOf i).toNat)
      case atStart => exact ⟨0, by omega, rfl, hide ⟨by simpa using HO2.out.1, HO2.out.2⟩⟩
      case round =>
        obtain ⟨k, hk, rfl, HW⟩ := hrel
        rcases (by omega : k = 0 ∨ k = 1 ∨ k = 2 ∨ k = 3) with rfl | rfl | rfl | rfl
        · have z0 := ((World.cell?_of_block (HW.out.2.block q HQL.out)).trans HQ.out.1)
          simp only [Nat.reduceEqDiff, if_true, if_false] at HW
          have hI := H0.out.below' HW.out.2
          go_wp2_with (at_builtin; refine wpList_cells rfl _ _ rfl w.heap.size u6 0 [] rfl HW.out.1 a0 n0 c0 l0 rfl hI (by have := HNN.out.1; omega) HW.out.2.size ?_; intro v' w' HN)
          go_roundw
          case rel => exact ⟨1, by omega, by simp, hide ⟨by simpa using HN.out.1, HW.out.2.trans HN.out.2⟩⟩
          case measure => simp [intOf]
        · have z0 := ((World.cell?_of_block (HW.out.2.block q HQL.out)).trans HQ.out.2.1)
          simp only [Nat.reduceEqDiff, if_true, if_false] at HW
          have hI := H1.out.below' HW.out.2
          go_wp2_with (at_builtin; refine wpList_cells rfl _ _ rfl w.heap.size u6 n0 l0 rfl HW.out.1 a1 n1 c1 l1 rfl hI (by have := HNN.out.1; omega) HW.out.2.size ?_; intro v' w' HN)
          go_roundw
          case rel => exact ⟨2, by omega, by simp, hide ⟨by simpa using HN.out.1, HW.out.2.trans HN.out.2⟩⟩
          case measure => simp [intOf]
        · have z0 := ((World.cell?_of_block (HW.out.2.block q HQL.out)).trans HQ.out.2.2)
          simp only [Nat.reduceEqDiff, if_true, if_false] at HW
          have hI := H2.out.below' HW.out.2
          go_wp2_with (at_builtin; refine wpList_cells rfl _ _ rfl w.heap.size u6 (n0 + n1) (l0 ++ l1) rfl HW.out.1 a2 n2 c2 l2 rfl hI (by have := HNN.out.1; omega) HW.out.2.size ?_; intro v' w' HN)
          go_roundw
          case rel => exact ⟨3, by omega, by simp, hide ⟨by simpa using HN.out.1, HW.out.2.trans HN.out.2⟩⟩
          case measure => simp [intOf]
        · simp only [Nat.reduceEqDiff, if_false] at HW
          go_wp2
          go_ret
          exact ⟨⟨_, rfl, HW.out.1⟩, HW.out.2⟩
theorem isH_take {w : World} {a : Option Addr} {len cap : Nat} {l : List Sh} (h : IsH w a len cap l) {k : Nat} (hk : k ≤ len) : IsH w a k cap (l.take k) := by
  refine ⟨by rw [List.length_take, h.1]; omega, by have := h.2.1; omega, h.2.2.1, fun x hx => h.2.2.2.1 x (List.mem_of_mem_take hx), fun i hi => ?_, h.2.2.2.2.2⟩
  obtain ⟨b, off, e, hlt, hc⟩ := h.2.2.2.2.1 i (by omega)
  refine ⟨b, off, e, hlt, ?_⟩
  rwa [List.getD_eq_getElem?_getD, List.getElem?_take, if_pos hi, ← List.getD_eq_getElem?_getD]
theorem isH_drop {w : World} {b off len cap : Nat} {l : List Sh} (h : IsH w (some ⟨b, off, none⟩) len cap l) {k : Nat} (hk : k ≤ len) : IsH w (some ⟨b, off + k * 2, none⟩) (len - k) (cap - k) (l.drop k) := by
  refine ⟨by rw [List.length_drop, h.1], by have := h.2.1; omega, by have := h.2.2.1; unfold maxLen at *; omega, fun x hx => h.2.2.2.1 x (List.mem_of_mem_drop hx), fun i hi => ?_, by intro e; cases e⟩
  obtain ⟨b', off', e, hlt, hc⟩ := h.2.2.2.2.1 (k + i) (by omega)
  cases e
  refine ⟨b, off + k * 2, rfl, hlt, ?_⟩
  rw [List.getD_eq_getElem?_getD, List.getElem?_drop, ← List.getD_eq_getElem?_getD, show off + k * 2 + i * 2 = off + (k + i) * 2 by omega]
  exact hc
theorem isH_end {w : World} {a : Option Addr} {len cap : Nat} {l : List Sh} (h : IsH w a len cap l) : IsH w a 0 (cap - len) [] ∨ a = none := by
  cases a with
  | none => exact .inr rfl
  | some ad => exact .inl ⟨rfl, Nat.zero_le _, by have := h.2.2.1; unfold maxLen at *; omega, by simp, fun i hi => by omega, by intro e; cases e⟩
theorem isH_drop' {w : World} {ad : Addr} {len cap : Nat} {l : List Sh} (h : IsH w (some ad) len cap l) {k : Nat} (hk : k ≤ len) : IsH w (some (ad.add (k * 2))) (len - k) (cap - k) (l.drop k) := by
  by_cases h0 : k < len
  · obtain ⟨b, off, e, _⟩ := h.2.2.2.2.1 0 (by omega)
    cases e
    rw [addr_add]
    exact isH_drop h hk
  · have : len - k = 0 := by omega
    rw [this, show l.drop k = [] from List.drop_eq_nil_of_le (by rw [h.1]; omega)]
    exact ⟨rfl, Nat.zero_le _, by have := h.2.2.1; unfold maxLen at *; omega, by simp, fun i hi => by omega, by intro e; cases e⟩
theorem isH_none' {w : World} {ad : Addr} {len cap : Nat} {l : List Sh} (h : IsH w (some ad) len cap l) {k : Nat} (hk : len ≤ k) : IsH w (some ad) 0 0 (l.drop k) := by
  rw [show l.drop k = [] from List.drop_eq_nil_of_le (by rw [h.1]; omega)]
  exact ⟨rfl, Nat.zero_le _, Nat.zero_le _, by simp, fun i hi => by omega, by intro e; cases e⟩
/-- a slice's row is new -/
def NewA (n : Nat) (a : Option Addr) : Prop := ∀ b off, a = some ⟨b, off, none⟩ → n ≤ b
theorem newA_none (n : Nat) : NewA n none := by intro b off h; cases h
theorem NewA.mono {n m : Nat} {a : Option Addr} (h : NewA n a) (hm : m ≤ n) : NewA m a := fun b off e => Nat.le_trans hm (h b off e)
/-- l[:at], the shipment, the rest, put together -/
theorem tail_calls (a0 : Option Addr) (n0 c0 : Nat) (l0 : List Sh) (c : Sh) (a2 : Option Addr) (n2 c2 : Nat) (l2 : List Sh) (w : World) (h0 : IsH w a0 n0 c0 l0) (h2 : IsH w a2 n2 c2 l2) (hc : okS c) (hn : n0 + 1 + n2 ≤ 100000) :
    Calls Tryd.prog 30 #[.slice (some ⟨w.heap.size + 1, 0, none⟩) 3 3] ((w.alloc (.cells #[.int .i64 c.od, .int .u8 c.st] 55)).alloc (.cells #[.slice a0 n0 c0, .slice (some ⟨w.heap.size, 0, none⟩) 1 1, .slice a2 n2 c2] 24)).drew fun e w' => ∃ a' m c', e = .returned (.slice a' m c') ∧ Hid (m = (l0 ++ [c] ++ l2).length ∧ IsH w' a' m c' (l0 ++ [c] ++ l2)) ∧ Below w.heap.size w w' ∧ Hid (NewA w.heap.size a') := by
  generalize hW : ((w.alloc (.cells #[.int .i64 c.od, .int .u8 c.st] 55)).alloc (.cells #[.slice a0 n0 c0, .slice (some ⟨w.heap.size, 0, none⟩) 1 1, .slice a2 n2 c2] 24)).drew = W
  have hB : Below w.heap.size w W := hW ▸ (((Below.refl _ w).alloc (Nat.le_refl _) _).alloc (by simp) _).drew
  have hS : W.heap.size = w.heap.size + 2 := by rw [← hW]; simp
  have hG : Blk W w.heap.size c := by
    rw [← hW]
    exact (Below.heap_alloc _ _ _ (by simp)).trans (heap_alloc_new _ _)
  have hQ : W.heap[w.heap.size + 1]? = some (.cells #[.slice a0 n0 c0, .slice (some ⟨w.heap.size, 0, none⟩) 1 1, .slice a2 n2 c2] 24 (0, 0)) := by
    rw [← hW]
    have := heap_alloc_new (w.alloc (.cells #[.int .i64 c.od, .int .u8 c.st] 55)) (.cells #[.slice a0 n0 c0, .slice (some ⟨w.heap.size, 0, none⟩) 1 1, .slice a2 n2 c2] 24)
    rwa [show (w.alloc (.cells #[.int .i64 c.od, .int .u8 c.st] 55)).heap.size = w.heap.size + 1 by simp] at this
  clear hW
  have h1 : IsH W (some ⟨w.heap.size, 0, none⟩) 1 1 [c] := ⟨rfl, Nat.le_refl _, by decide, by simpa using hc, fun i hi => ⟨w.heap.size, 0, rfl, by omega, by
    obtain rfl : i = 0 := by omega
    exact hG.cells⟩, by intro e; cases e⟩
  refine (concat_any (w.heap.size + 1) a0 n0 c0 l0 (some ⟨w.heap.size, 0, none⟩) 1 1 [c] a2 n2 c2 l2 W ⟨cell_blk hQ rfl, cell_blk hQ rfl, cell_blk hQ rfl⟩ (by omega) (h0.below' hB) h1 (h2.below' hB) hn (by omega)).mono ?_
  rintro e w' ⟨⟨v, rfl, hown⟩, hb⟩
  have hl : (l0 ++ [c] ++ l2).length = n0 + 1 + n2 := by simp [h0.1, h2.1]; omega
  obtain ⟨a', c', rfl, hI, hN⟩ := own_isH hl (by
    intro x hx
    simp only [List.mem_append, List.mem_singleton] at hx
    rcases hx with (hx | rfl) | hx
    · exact h0.2.2.2.1 x hx
    · exact hc
    · exact h2.2.2.2.1 x hx) hown
  exact ⟨a', _, c', rfl, hide ⟨hl.symm, hI⟩, hB.trans (hb.mono (by omega)), hide (NewA.mono hN (by omega))⟩
end Go.Proofs.YtfbfmhfceemkgaaDoor
