/- rows of one-cell values: what is appended, grown, put together (slices of bytes, and numbers) -/
import Derived.Test.YtebikoekpbnpbaaNQ
import Derived.Laws.AppendOwnNone
import Derived.Lib.AppendZeros
namespace Go.Proofs.Ytebikoekpbnpbaa
open Go.RowKit Cod
set_option maxRecDepth 100000
set_option linter.unusedVariables false
set_option linter.unusedSimpArgs false
theorem info_partsM {i? : Option TypeInfo} {z : Option Value} {s b : Nat} (h : i?.map (fun i => (i.zero, i.size, i.bytes)) = some (z, s, b)) : ∃ i, i? = some i ∧ i.zero = z ∧ i.size = s ∧ i.bytes = b := by
  cases i? with
  | none => cases h
  | some i =>
    simp only [Option.map_some, Option.some.injEq, Prod.mk.injEq] at h
    exact ⟨i, rfl, h.1, h.2.1, h.2.2⟩
theorem addr_addM (b off j : Nat) : (⟨b, off, none⟩ : Addr).add j = ⟨b, off + j, none⟩ := by
  unfold Addr.add; by_cases h : j = 0 <;> simp [h]
/-- a slice of one-cell values in memory -/
def Vs (w : World) (a : Option Addr) (n c : Nat) (xs : List Value) : Prop :=
  xs.length = n ∧ n ≤ c ∧ c ≤ maxLen ∧ (a = none → c = 0) ∧ (∀ u ∈ xs, u.oneCell' = true) ∧ ∀ i, i < n → ∃ b off, a = some ⟨b, off, none⟩ ∧ b < w.heap.size ∧ w.cell? ⟨b, off + i, none⟩ = xs[i]?
theorem Vs.below' {w w' : World} {a : Option Addr} {n c m : Nat} {xs : List Value} (h : Vs w a n c xs) (hb : Below m w w') (hm : ∀ b off, a = some ⟨b, off, none⟩ → b < w.heap.size → b < m) : Vs w' a n c xs := by
  obtain ⟨h1, h2, h3, h4, h5, h6⟩ := h
  refine ⟨h1, h2, h3, h4, h5, fun i hi => ?_⟩
  obtain ⟨b, off, e, hlt, hc⟩ := h6 i hi
  exact ⟨b, off, e, Nat.lt_of_lt_of_le hlt hb.size, (World.cell?_of_block (hb.block b (hm b off e hlt))).trans hc⟩
theorem Vs.below {w w' : World} {a : Option Addr} {n c : Nat} {xs : List Value} (h : Vs w a n c xs) (hb : Below w.heap.size w w') : Vs w' a n c xs := h.below' hb (fun _ _ _ hlt => hlt)
/-- how many there are ahead of a slice -/
def preN (n : Nat → Nat) : Nat → Nat
  | 0 => 0
  | k + 1 => preN n k + n k
/-- what there is ahead of a slice -/
def preL {α : Type} (l : Nat → List α) : Nat → List α
  | 0 => []
  | k + 1 => preL l k ++ l k
theorem preN_mono (n : Nat → Nat) {k m : Nat} (h : k ≤ m) : preN n k ≤ preN n m := by
  induction h with
  | refl => exact Nat.le_refl _
  | step _ ih => exact Nat.le_trans ih (Nat.le_add_right _ _)
theorem info3 : (Try.prog.info? 3).map (fun i => (i.zero, i.size, i.bytes)) = some (some (.int .i64 0), 1, 8) := by kernel_rfl
/-- slices in a row -/
def RowsV (w : World) (q m : Nat) (a : Nat → Option Addr) (n c : Nat → Nat) (l : Nat → List Value) : Prop :=
  q < w.heap.size ∧ ∀ k, k < m → w.cell? ⟨q, k, none⟩ = some (.slice (a k) (n k) (c k)) ∧ Vs w (a k) (n k) (c k) (l k)
theorem wpList_valsL {w : World} {ops : Array Oper} {rest : List Oper} {o : Oper} {a : Act} {Q : Exit → Act → World → Prop} (hgd : o.guard = none) (s x : Operand)
    (ho : o.op = .call { callee := .builtin .append, args := #[s, x], argTypes := #[22, 22] }) (base : Nat) (v : Value) (n : Nat) (xs : List Value) (hs : a.eval s = v) (hown : w.ownsRow base 26 1 v n xs)
    (src : Option Addr) (len cap : Nat) (l : List Value) (hx : a.eval x = .slice src len cap) (hB : Vs w src len cap l) (hb : (n + len) * 24 ≤ 140737488355328) (hbase : base ≤ w.heap.size)
    (h : ∀ v' w', Hid (w'.ownsRow base 26 1 v' (n + len) (xs ++ l) ∧ Below base w w') → wpList Try.prog ops Q rest (a.put o.dst v') w') : wpList Try.prog ops Q (o :: rest) a w := by
  obtain ⟨i0, hi, hz0, hz1, hz2⟩ := info_partsM info26
  obtain ⟨h1, h2, h3, h4, h5, h6⟩ := hB
  cases src with
  | none =>
    obtain rfl := h4 rfl
    obtain rfl : len = 0 := by omega
    obtain rfl : l = [] := List.length_eq_zero_iff.1 h1
    refine wpList_append_own_none hgd s x 22 ho base 26 i0 1 Try.underlying22 hi v n _ hs hown hx ?_
    exact h v w (hide ⟨by simpa using hown, Below.refl _ _⟩)
  | some ad =>
    by_cases h0 : len = 0
    · subst h0
      obtain rfl : l = [] := List.length_eq_zero_iff.1 h1
      refine wpList_append_own w hgd s x 22 ho base 26 i0 (Value.slice none 0 0) 1 24 Try.underlying22 hi hz0 hz1 hz2 rfl (by decide) v n _ hs hown ad 0 cap [] hx rfl (by simp) (by simp) (by unfold maxLen; omega) (by omega) hbase ?_
      intro v' w' ho' hg _
      refine h v' w' (hide ⟨by simpa using ho', (Below.refl _ _).grown hg hbase ?_⟩)
      intro k hk
      exact (hown.lt k hk).1
    · obtain ⟨b, off, e, _⟩ := h6 0 (by omega)
      cases e
      refine wpList_append_own w hgd s x 22 ho base 26 i0 (Value.slice none 0 0) 1 24 Try.underlying22 hi hz0 hz1 hz2 rfl (by decide) v n _ hs hown _ len cap l hx (by omega) ?_ h5 (by unfold maxLen; omega) hb hbase ?_
      · intro j u hj
        have hjl : j < len := by rw [← h1]; exact (List.getElem?_eq_some_iff.1 hj).1
        obtain ⟨b', off', e, _, hc⟩ := h6 j hjl
        cases e
        rw [addr_addM, hc, hj]
      · intro v' w' ho' hg _
        refine h v' w' (hide ⟨ho', (Below.refl _ _).grown hg hbase ?_⟩)
        intro k hk
        exact (hown.lt k hk).1
set_option maxHeartbeats 1000000 in
theorem growL_any (n : Nat) (hn : n ≤ 100000) (w : World) : Calls Try.prog 86 #[.slice none 0 0, .int .i64 (n : Int)] w fun e w' => (∃ v, e = .returned v ∧ w'.ownsRow w.heap.size 26 1 v 0 []) ∧ Below w.heap.size w w' := by
  by_cases h0 : n = 0
  · subst h0
    have HO := hide (And.intro (World.ownsRow_nil w w.heap.size 26 1) (Below.refl w.heap.size w))
    go_enter Try.func86, Try.ntmps86
    go_wp2
    go_ret
    exact ⟨⟨_, rfl, HO.out.1⟩, HO.out.2⟩
  replace h0 : 0 < n := by omega
  obtain ⟨i0, hi, hz0, hz1, hz2⟩ := info_partsM info26
  have hr := Go.Lib.run_append_nil_zeros (P := Try.prog) w 22 3 22 26 i0 _ .i64 .i64 Try.underlying22 Try.underlying3 hi hz0 n h0 (by omega) (by omega) (by rw [hz2]; omega)
  have hge := grownCap_ge w n 0 26
  have hle := grownCap_le_maxLen w n 0 26 (by unfold maxLen; omega)
  have HS : Hid ((Builtin.zeroCells (Value.slice none 0 0).cells n ++ Builtin.zeroCells (Value.slice none 0 0).cells (grownCap w n 0 26 - n)).size = grownCap w n 0 26 * 1) := hide (by
    rw [Array.size_append, size_zeroCells, size_zeroCells]
    show n * 1 + (grownCap w n 0 26 - n) * 1 = _
    omega)
  generalize Builtin.zeroCells (Value.slice none 0 0).cells n ++ Builtin.zeroCells (Value.slice none 0 0).cells (grownCap w n 0 26 - n) = cur at *
  generalize grownCap w n 0 26 = gc at *
  have HB : Hid (Below w.heap.size w (w.drew.alloc (.cells cur 26))) := hide ((Below.refl _ w).drew.alloc (Nat.le_refl _) _)
  have HO : Hid ((w.drew.alloc (.cells cur 26)).ownsRow w.heap.size 26 1 (.slice (some ⟨w.heap.size, 0, none⟩) 0 gc) 0 []) := hide (World.ownsRow_made w.drew cur gc (Nat.le_refl _) hle HS.out)
  have hn0 : (0 : Int) < (n : Int) := by omega
  have hwn : IntKind.i64.wrap (n : Int) = (n : Int) := wrapN (by omega) (by omega)
  clear hi hz0 hz1 hz2
  go_enter Try.func86, Try.ntmps86
  go_wp2_with (at_builtin; refine Go.Lib.wpList_append_run _ rfl _ _ _ _ rfl _ _ rfl rfl _ _ hr ?_)
  go_ret
  exact ⟨⟨_, rfl, HO.out⟩, HB.out⟩
set_option maxHeartbeats 2000000 in
theorem concatL_any (q m : Nat) (a : Nat → Option Addr) (n c : Nat → Nat) (l : Nat → List Value) (w : World) (hq : RowsV w q m a n c l) (hm : m ≤ 100) (hn : preN n m ≤ 100000) : Calls Try.prog 60 #[.slice (some ⟨q, 0, none⟩) m m] w fun e w' => (∃ v, e = .returned v ∧ w'.ownsRow w.heap.size 26 1 v (preN n m) (preL l m)) ∧ Below w.heap.size w w' := by
  have HQ := hide hq
  have HNN := hide hn
  have HGR := hide (fun W => growL_any (preN n m) hn W)
  have HW : Hid (∀ k, k < m → IntKind.i64.wrap ((preN n k : Int) + (n k : Int)) = (preN n (k + 1) : Int)) := hide (fun k hk => by
    have := preN_mono n (show k + 1 ≤ m by omega)
    have e : preN n (k + 1) = preN n k + n k := rfl
    rw [wrapN (by omega) (by omega)]; omega)
  have hM : m ≤ 100 := hm
  clear hq hn hm
  go_enter Try.func60, Try.ntmps60
  go_wp2
  go_loopw [3, 11] (fun sz i wr => ∃ k : Nat, k ≤ m ∧ i = .int .i64 k ∧ sz = .int .i64 (preN n k : Int) ∧ wr = w) (fun _ i _ => m - (intOf i).toNat)
  case atStart => exact ⟨0, by omega, rfl, rfl, rfl⟩
  case round =>
    obtain ⟨k, hk, rfl, rfl, hw⟩ := hrel
    obtain rfl := hw.symm
    clear hw
    by_cases hkm : k < m
    · have z0 := (HQ.out.2 k hkm).1
      have hw1 := HW.out k hkm
      have hwk : IntKind.i64.wrap ((k : Int) + 1) = (k : Int) + 1 := wrapN (by omega) (by omega)
      have hkI : (k : Int) < (m : Int) := by omega
      have hk0 : (0 : Int) ≤ (k : Int) := by omega
      have HRL : Hid (∃ k' : Nat, k' ≤ m ∧ Value.int .i64 ((k : Int) + 1) = .int .i64 k' ∧ Value.int .i64 (preN n (k + 1) : Int) = .int .i64 (preN n k' : Int) ∧ True) := hide ⟨k + 1, hkm, by simp, rfl, trivial⟩
      have HME : Hid (m - (intOf (Value.int .i64 ((k : Int) + 1))).toNat < m - (intOf (Value.int .i64 (k : Int))).toNat) := hide (by simp [intOf]; omega)
      have hps : ¬ (preN n (k + 1) : Int) < 0 := by omega
      generalize preN n (k + 1) = s1 at *
      generalize preN n k = s0 at *
      generalize n k = nk at *
      go_wp2
      go_roundw
      case rel => exact HRL.out
      case measure => exact HME.out
    · obtain rfl : k = m := by omega
      have hkI : ¬ (k : Int) < (k : Int) := by omega
      go_wp2_with fail
      refine (HGR.out w).mono ?_
      rintro e w2 ⟨⟨v, rfl, hown⟩, hb2⟩
      have HO2 := hide (And.intro hown hb2)
      clear hown hb2 HGR
      go_wp2
      go_loopw [6, 27] (fun nv i W => ∃ j : Nat, j ≤ k ∧ i = .int .i64 j ∧ Hid (W.ownsRow w.heap.size 26 1 nv (preN n j) (preL l j) ∧ Below w.heap.size w W)) (fun _ i _ => k - (intOf i).toNat)
      case atStart => exact ⟨0, by omega, rfl, hide ⟨by simpa [preN, preL] using HO2.out.1, HO2.out.2⟩⟩
      case round =>
        obtain ⟨j, hj, rfl, HW2⟩ := hrel
        by_cases hjm : j < k
        · have z0 := ((World.cell?_of_block (HW2.out.2.block q HQ.out.1)).trans (HQ.out.2 j hjm).1)
          have hI := (HQ.out.2 j hjm).2.below HW2.out.2
          have hjI : (j : Int) < (k : Int) := by omega
          have hj0 : (0 : Int) ≤ (j : Int) := by omega
          have hwj : IntKind.i64.wrap ((j : Int) + 1) = (j : Int) + 1 := wrapN (by omega) (by omega)
          have hbb : (preN n j + n j) * 24 ≤ 140737488355328 := by
            have h1 := preN_mono n (show j + 1 ≤ k by omega)
            have h2 : preN n (j + 1) = preN n j + n j := rfl
            have h3 := HNN.out
            omega
          go_wp2_with (at_builtin; refine wpList_valsL rfl _ _ rfl w.heap.size u6 (preN n j) (preL l j) rfl HW2.out.1 (a j) (n j) (c j) (l j) rfl hI hbb HW2.out.2.size ?_; intro v' w' HN)
          go_roundw
          case rel => exact ⟨j + 1, by omega, by simp, hide ⟨HN.out.1, HW2.out.2.trans HN.out.2⟩⟩
          case measure => simp [intOf]; omega
        · obtain rfl : j = k := by omega
          have hjI : ¬ (j : Int) < (j : Int) := by omega
          go_wp2
          go_ret
          exact ⟨⟨_, rfl, HW2.out.1⟩, HW2.out.2⟩
theorem wpList_valsK {w : World} {ops : Array Oper} {rest : List Oper} {o : Oper} {a : Act} {Q : Exit → Act → World → Prop} (hgd : o.guard = none) (s x : Operand)
    (ho : o.op = .call { callee := .builtin .append, args := #[s, x], argTypes := #[23, 23] }) (base : Nat) (v : Value) (n : Nat) (xs : List Value) (hs : a.eval s = v) (hown : w.ownsRow base 3 1 v n xs)
    (src : Option Addr) (len cap : Nat) (l : List Value) (hx : a.eval x = .slice src len cap) (hB : Vs w src len cap l) (hb : (n + len) * 8 ≤ 140737488355328) (hbase : base ≤ w.heap.size)
    (h : ∀ v' w', Hid (w'.ownsRow base 3 1 v' (n + len) (xs ++ l) ∧ Below base w w') → wpList Try.prog ops Q rest (a.put o.dst v') w') : wpList Try.prog ops Q (o :: rest) a w := by
  obtain ⟨i0, hi, hz0, hz1, hz2⟩ := info_partsM info3
  obtain ⟨h1, h2, h3, h4, h5, h6⟩ := hB
  cases src with
  | none =>
    obtain rfl := h4 rfl
    obtain rfl : len = 0 := by omega
    obtain rfl : l = [] := List.length_eq_zero_iff.1 h1
    refine wpList_append_own_none hgd s x 23 ho base 3 i0 1 Try.underlying23 hi v n _ hs hown hx ?_
    exact h v w (hide ⟨by simpa using hown, Below.refl _ _⟩)
  | some ad =>
    by_cases h0 : len = 0
    · subst h0
      obtain rfl : l = [] := List.length_eq_zero_iff.1 h1
      refine wpList_append_own w hgd s x 23 ho base 3 i0 (Value.int .i64 0) 1 8 Try.underlying23 hi hz0 hz1 hz2 rfl (by decide) v n _ hs hown ad 0 cap [] hx rfl (by simp) (by simp) (by unfold maxLen; omega) (by omega) hbase ?_
      intro v' w' ho' hg _
      refine h v' w' (hide ⟨by simpa using ho', (Below.refl _ _).grown hg hbase ?_⟩)
      intro k hk
      exact (hown.lt k hk).1
    · obtain ⟨b, off, e, _⟩ := h6 0 (by omega)
      cases e
      refine wpList_append_own w hgd s x 23 ho base 3 i0 (Value.int .i64 0) 1 8 Try.underlying23 hi hz0 hz1 hz2 rfl (by decide) v n _ hs hown _ len cap l hx (by omega) ?_ h5 (by unfold maxLen; omega) hb hbase ?_
      · intro j u hj
        have hjl : j < len := by rw [← h1]; exact (List.getElem?_eq_some_iff.1 hj).1
        obtain ⟨b', off', e, _, hc⟩ := h6 j hjl
        cases e
        rw [addr_addM, hc, hj]
      · intro v' w' ho' hg _
        refine h v' w' (hide ⟨ho', (Below.refl _ _).grown hg hbase ?_⟩)
        intro k hk
        exact (hown.lt k hk).1
set_option maxHeartbeats 1000000 in
theorem growK_any (n : Nat) (hn : n ≤ 100000) (w : World) : Calls Try.prog 87 #[.slice none 0 0, .int .i64 (n : Int)] w fun e w' => (∃ v, e = .returned v ∧ w'.ownsRow w.heap.size 3 1 v 0 []) ∧ Below w.heap.size w w' := by
  by_cases h0 : n = 0
  · subst h0
    have HO := hide (And.intro (World.ownsRow_nil w w.heap.size 3 1) (Below.refl w.heap.size w))
    go_enter Try.func87, Try.ntmps87
    go_wp2
    go_ret
    exact ⟨⟨_, rfl, HO.out.1⟩, HO.out.2⟩
  replace h0 : 0 < n := by omega
  obtain ⟨i0, hi, hz0, hz1, hz2⟩ := info_partsM info3
  have hr := Go.Lib.run_append_nil_zeros (P := Try.prog) w 23 3 23 3 i0 _ .i64 .i64 Try.underlying23 Try.underlying3 hi hz0 n h0 (by omega) (by omega) (by rw [hz2]; omega)
  have hge := grownCap_ge w n 0 3
  have hle := grownCap_le_maxLen w n 0 3 (by unfold maxLen; omega)
  have HS : Hid ((Builtin.zeroCells (Value.int .i64 0).cells n ++ Builtin.zeroCells (Value.int .i64 0).cells (grownCap w n 0 3 - n)).size = grownCap w n 0 3 * 1) := hide (by
    rw [Array.size_append, size_zeroCells, size_zeroCells]
    show n * 1 + (grownCap w n 0 3 - n) * 1 = _
    omega)
  generalize Builtin.zeroCells (Value.int .i64 0).cells n ++ Builtin.zeroCells (Value.int .i64 0).cells (grownCap w n 0 3 - n) = cur at *
  generalize grownCap w n 0 3 = gc at *
  have HB : Hid (Below w.heap.size w (w.drew.alloc (.cells cur 3))) := hide ((Below.refl _ w).drew.alloc (Nat.le_refl _) _)
  have HO : Hid ((w.drew.alloc (.cells cur 3)).ownsRow w.heap.size 3 1 (.slice (some ⟨w.heap.size, 0, none⟩) 0 gc) 0 []) := hide (World.ownsRow_made w.drew cur gc (Nat.le_refl _) hle HS.out)
  have hn0 : (0 : Int) < (n : Int) := by omega
  have hwn : IntKind.i64.wrap (n : Int) = (n : Int) := wrapN (by omega) (by omega)
  clear hi hz0 hz1 hz2
  go_enter Try.func87, Try.ntmps87
  go_wp2_with (at_builtin; refine Go.Lib.wpList_append_run _ rfl _ _ _ _ rfl _ _ rfl rfl _ _ hr ?_)
  go_ret
  exact ⟨⟨_, rfl, HO.out⟩, HB.out⟩
set_option maxHeartbeats 2000000 in
theorem concatK_any (q m : Nat) (a : Nat → Option Addr) (n c : Nat → Nat) (l : Nat → List Value) (w : World) (hq : RowsV w q m a n c l) (hm : m ≤ 100) (hn : preN n m ≤ 100000) : Calls Try.prog 61 #[.slice (some ⟨q, 0, none⟩) m m] w fun e w' => (∃ v, e = .returned v ∧ w'.ownsRow w.heap.size 3 1 v (preN n m) (preL l m)) ∧ Below w.heap.size w w' := by
  have HQ := hide hq
  have HNN := hide hn
  have HGR := hide (fun W => growK_any (preN n m) hn W)
  have HW : Hid (∀ k, k < m → IntKind.i64.wrap ((preN n k : Int) + (n k : Int)) = (preN n (k + 1) : Int)) := hide (fun k hk => by
    have := preN_mono n (show k + 1 ≤ m by omega)
    have e : preN n (k + 1) = preN n k + n k := rfl
    rw [wrapN (by omega) (by omega)]; omega)
  have hM : m ≤ 100 := hm
  clear hq hn hm
  go_enter Try.func61, Try.ntmps61
  go_wp2
  go_loopw [3, 11] (fun sz i wr => ∃ k : Nat, k ≤ m ∧ i = .int .i64 k ∧ sz = .int .i64 (preN n k : Int) ∧ wr = w) (fun _ i _ => m - (intOf i).toNat)
  case atStart => exact ⟨0, by omega, rfl, rfl, rfl⟩
  case round =>
    obtain ⟨k, hk, rfl, rfl, hw⟩ := hrel
    obtain rfl := hw.symm
    clear hw
    by_cases hkm : k < m
    · have z0 := (HQ.out.2 k hkm).1
      have hw1 := HW.out k hkm
      have hwk : IntKind.i64.wrap ((k : Int) + 1) = (k : Int) + 1 := wrapN (by omega) (by omega)
      have hkI : (k : Int) < (m : Int) := by omega
      have hk0 : (0 : Int) ≤ (k : Int) := by omega
      have HRL : Hid (∃ k' : Nat, k' ≤ m ∧ Value.int .i64 ((k : Int) + 1) = .int .i64 k' ∧ Value.int .i64 (preN n (k + 1) : Int) = .int .i64 (preN n k' : Int) ∧ True) := hide ⟨k + 1, hkm, by simp, rfl, trivial⟩
      have HME : Hid (m - (intOf (Value.int .i64 ((k : Int) + 1))).toNat < m - (intOf (Value.int .i64 (k : Int))).toNat) := hide (by simp [intOf]; omega)
      have hps : ¬ (preN n (k + 1) : Int) < 0 := by omega
      generalize preN n (k + 1) = s1 at *
      generalize preN n k = s0 at *
      generalize n k = nk at *
      go_wp2
      go_roundw
      case rel => exact HRL.out
      case measure => exact HME.out
    · obtain rfl : k = m := by omega
      have hkI : ¬ (k : Int) < (k : Int) := by omega
      go_wp2_with fail
      refine (HGR.out w).mono ?_
      rintro e w2 ⟨⟨v, rfl, hown⟩, hb2⟩
      have HO2 := hide (And.intro hown hb2)
      clear hown hb2 HGR
      go_wp2
      go_loopw [6, 27] (fun nv i W => ∃ j : Nat, j ≤ k ∧ i = .int .i64 j ∧ Hid (W.ownsRow w.heap.size 3 1 nv (preN n j) (preL l j) ∧ Below w.heap.size w W)) (fun _ i _ => k - (intOf i).toNat)
      case atStart => exact ⟨0, by omega, rfl, hide ⟨by simpa [preN, preL] using HO2.out.1, HO2.out.2⟩⟩
      case round =>
        obtain ⟨j, hj, rfl, HW2⟩ := hrel
        by_cases hjm : j < k
        · have z0 := ((World.cell?_of_block (HW2.out.2.block q HQ.out.1)).trans (HQ.out.2 j hjm).1)
          have hI := (HQ.out.2 j hjm).2.below HW2.out.2
          have hjI : (j : Int) < (k : Int) := by omega
          have hj0 : (0 : Int) ≤ (j : Int) := by omega
          have hwj : IntKind.i64.wrap ((j : Int) + 1) = (j : Int) + 1 := wrapN (by omega) (by omega)
          have hbb : (preN n j + n j) * 8 ≤ 140737488355328 := by
            have h1 := preN_mono n (show j + 1 ≤ k by omega)
            have h2 : preN n (j + 1) = preN n j + n j := rfl
            have h3 := HNN.out
            omega
          go_wp2_with (at_builtin; refine wpList_valsK rfl _ _ rfl w.heap.size u6 (preN n j) (preL l j) rfl HW2.out.1 (a j) (n j) (c j) (l j) rfl hI hbb HW2.out.2.size ?_; intro v' w' HN)
          go_roundw
          case rel => exact ⟨j + 1, by omega, by simp, hide ⟨HN.out.1, HW2.out.2.trans HN.out.2⟩⟩
          case measure => simp [intOf]; omega
        · obtain rfl : j = k := by omega
          have hjI : ¬ (j : Int) < (j : Int) := by omega
          go_wp2
          go_ret
          exact ⟨⟨_, rfl, HW2.out.1⟩, HW2.out.2⟩
/-- slices.Clone of numbers -/
theorem cloneK_any (ad : Addr) (len cap : Nat) (l : List Value) (w : World) (h : Vs w (some ad) len cap l) (hr : len ≤ 1000000) :
    Calls Try.prog 85 #[.slice (some ad) len cap] w fun e w' => ∃ v, e = .returned v ∧ w'.ownsRow w.heap.size 3 1 v len l ∧ Below w.heap.size w w' := by
  have hq := fun W => Go.Lib.run_eql_slice_nil (P := Try.prog) W 23 3 (some ad) len cap 0 0 Try.underlying23
  have HV := hide h
  have HO : Hid ((w.alloc (.cells #[] 3)).ownsRow w.heap.size 3 1 (.slice (some ⟨w.heap.size, 0, none⟩) 0 0) 0 []) := hide (by
    first | exact World.ownsRow_made w #[] 0 (Nat.le_refl _) (Nat.zero_le _) rfl | exact World.ownsRow_made (w.alloc (.cells #[] 3)) #[] 0 (Nat.le_refl _) (Nat.zero_le _) rfl)
  have HB : Hid (Below w.heap.size w (w.alloc (.cells #[] 3))) := hide ((Below.refl _ w).alloc (Nat.le_refl _) _)
  have HVA := hide (HV.out.below HB.out)
  clear h
  go_enter Try.func85, Try.ntmps85
  go_wp2_with (at_builtin; refine wpList_valsK rfl _ _ rfl w.heap.size _ 0 [] rfl HO.out (some ad) len cap l rfl HVA.out (by omega) HB.out.size ?_; intro v' w' HN)
  have HF : Hid (w'.ownsRow w.heap.size 3 1 v' len l ∧ Below w.heap.size w w') := hide (by have h1 := HN.out.1; simp only [Nat.zero_add, List.nil_append] at h1; exact ⟨h1, HB.out.trans HN.out.2⟩)
  clear HN HO HVA
  go_ret
  exact ⟨_, rfl, HF.out⟩
end Go.Proofs.Ytebikoekpbnpbaa
