/- slices.Concat of pays and of postings -/
import Derived.Test.YtffhkljegopjmaaDoorGN
import Derived.Laws.AppendOwnNone
import Derived.Lib.AppendZeros
namespace Go.Proofs.YtffhkljegopjmaaDoor.Lg
open Go.RowKit
set_option maxRecDepth 40000
theorem addr_add (b off j : Nat) : (⟨b, off, none⟩ : Addr).add j = ⟨b, off + j, none⟩ := by
  unfold Addr.add; by_cases h : j = 0 <;> simp [h]
/-- how many there are ahead of a slice -/
def preN (n : Nat → Nat) : Nat → Nat
  | 0 => 0
  | k + 1 => preN n k + n k
/-- what there is ahead of a slice -/
def preL {α : Type} (l : Nat → List α) : Nat → List α
  | 0 => []
  | k + 1 => preL l k ++ l k
theorem preN_mono (n : Nat → Nat) {k m : Nat} (h : k ≤ m) : preN n k ≤ preN n m := by
  induction h with
  | refl => exact Nat.le_refl _
  | step _ ih => exact Nat.le_trans ih (Nat.le_add_right _ _)
theorem preL_len {α : Type} (l : Nat → List α) (n : Nat → Nat) (m : Nat) (h : ∀ k, k < m → (l k).length = n k) : (preL l m).length = preN n m := by
  induction m with
  | zero => rfl
  | succ m ih => simp only [preL, preN, List.length_append, ih (fun k hk => h k (by omega)), h m (by omega)]
theorem preL_mem {α : Type} (l : Nat → List α) (p : α → Prop) (m : Nat) (h : ∀ k, k < m → ∀ x ∈ l k, p x) : ∀ x ∈ preL l m, p x := by
  induction m with
  | zero => intro x hx; cases hx
  | succ m ih =>
    intro x hx
    simp only [preL, List.mem_append] at hx
    rcases hx with hx | hx
    · exact ih (fun k hk => h k (by omega)) x hx
    · exact h m (by omega) x hx
/-- a slice's row is new -/
def NewA (n : Nat) (a : Option Addr) : Prop := ∀ b off, a = some ⟨b, off, none⟩ → n ≤ b
theorem newA_none (n : Nat) : NewA n none := by intro b off h; cases h
theorem NewA.mono {n m : Nat} {a : Option Addr} (h : NewA n a) (hm : m ≤ n) : NewA m a := fun b off e => Nat.le_trans hm (h b off e)
theorem info61 : (Tryd.prog.info? 92).map (fun i => (i.zero, i.size, i.bytes)) = some (some (vg Pg0), 4, 24) := by kernel_rfl
theorem gflat_len (l : List Pg) : (l.flatMap pgc).length = l.length * 4 := by
  induction l with
  | nil => rfl
  | cons x r ih => simp only [List.flatMap_cons, List.length_append, ih, List.length_cons]; simp; omega
theorem gflat_get (l : List Pg) : ∀ (i j : Nat), j < 4 → i < l.length → (l.flatMap pgc)[i * 4 + j]? = (pgc (l.getD i Pg0))[j]? := by
  induction l with
  | nil => intro i j _ hi; simp at hi
  | cons x r ih =>
    intro i j hj hi
    cases i with
    | zero => simp only [List.flatMap_cons, List.getD_cons_zero]; rw [List.getElem?_append_left (by simp; omega)]; simp
    | succ i =>
      simp only [List.flatMap_cons, List.getD_cons_succ]
      rw [List.getElem?_append_right (by simp; omega)]
      rw [← ih i j hj (by simpa using hi)]
      congr 1
      simp
      omega
theorem flat_oneP (l : List Py) : ∀ u ∈ l.flatMap pyc, u.oneCell' = true := by
  intro u hu
  obtain ⟨x, _, hx⟩ := List.mem_flatMap.1 hu
  simp only [List.mem_cons, List.not_mem_nil, or_false] at hx
  rcases hx with rfl | rfl | rfl | rfl <;> rfl
theorem PayAt.get {w : World} {b o : Nat} {x : Py} (h : PayAt w b o x) : ∀ j, j < 4 → w.cell? ⟨b, o + j, none⟩ = (pyc x)[j]? := by
  intro j hj
  obtain ⟨h1, h2, h3, h4⟩ := h
  rcases (by omega : j = 0 ∨ j = 1 ∨ j = 2 ∨ j = 3) with rfl | rfl | rfl | rfl
  · simpa using h1
  · simpa using h2
  · simpa using h3
  · simpa using h4
theorem ofPayAt {w : World} {b o : Nat} {x : Py} (h : ∀ j, j < 4 → w.cell? ⟨b, o + j, none⟩ = (pyc x)[j]?) : PayAt w b o x :=
  ⟨by simpa using h 0 (by omega), by simpa using h 1 (by omega), by simpa using h 2 (by omega), by simpa using h 3 (by omega)⟩
theorem IsP.cells {w : World} {b off len cap : Nat} {l : List Py} (h : IsP w (some ⟨b, off, none⟩) len cap l) : ∀ j u, (l.flatMap pyc)[j]? = some u → w.cell? ((⟨b, off, none⟩ : Addr).add j) = some u := by
  intro j u hj
  have hjl : j < l.length * 4 := by rw [← pflat_len]; exact (List.getElem?_eq_some_iff.1 hj).1
  have hl := h.1
  obtain ⟨b', o', e, _, hc⟩ := h.2.2.2.2.1 (j / 4) (by omega)
  cases e
  have := hc.get (j % 4) (by omega)
  rw [← pflat_get l (j / 4) (j % 4) (by omega) (by omega), show j / 4 * 4 + j % 4 = j by omega, hj] at this
  rw [addr_add, ← this]
  congr 2
  omega
theorem own_IsP {w : World} {base : Nat} {v : Value} {n : Nat} {l : List Py} (hl : l.length = n) (ho : ∀ x ∈ l, okP x) (h : w.ownsRow base 47 4 v n (l.flatMap pyc)) : ∃ a cap, v = .slice a n cap ∧ IsP w a n cap l ∧ ∀ b off, a = some ⟨b, off, none⟩ → base ≤ b := by
  rcases h.2 with ⟨rfl, rfl⟩ | ⟨g, cap, cur, rfl, hb, hg, hn, hm, hs, ht⟩
  · exact ⟨none, 0, rfl, ⟨hl, Nat.le_refl _, Nat.zero_le _, ho, fun i hi => by omega, fun _ => rfl⟩, by intro b off h; cases h⟩
  · refine ⟨_, cap, rfl, ⟨hl, hn, hm, ho, fun i hi => ?_, by intro h; cases h⟩, by intro b off h; cases h; exact hb⟩
    refine ⟨g, 0, rfl, heap_lt hg, ofPayAt fun j hj => ?_⟩
    have h1 : cur.toList[i * 4 + j]? = (l.flatMap pyc)[i * 4 + j]? := by
      rw [← ht, List.getElem?_take]
      rw [if_pos (by omega)]
    rw [Nat.zero_add, ← pflat_get l i j hj (by omega), ← h1]
    simp only [World.cell?, hg]
    simp
theorem wpList_cellsP {w : World} {ops : Array Oper} {rest : List Oper} {o : Oper} {a : Act} {Q : Exit → Act → World → Prop} (hgd : o.guard = none) (s x : Operand)
    (ho : o.op = .call { callee := .builtin .append, args := #[s, x], argTypes := #[32, 32] }) (base : Nat) (v : Value) (n : Nat) (xs : List Py) (hs : a.eval s = v) (hown : w.ownsRow base 47 4 v n (xs.flatMap pyc))
    (src : Option Addr) (len cap : Nat) (l : List Py) (hx : a.eval x = .slice src len cap) (hB : IsP w src len cap l) (hb : (n + len) * 32 ≤ 140737488355328) (hbase : base ≤ w.heap.size)
    (h : ∀ v' w', Hid (w'.ownsRow base 47 4 v' (n + len) ((xs ++ l).flatMap pyc) ∧ Below base w w') → wpList Tryd.prog ops Q rest (a.put o.dst v') w') : wpList Tryd.prog ops Q (o :: rest) a w := by
  obtain ⟨i0, hi, hz0, hz1, hz2⟩ := info_partsC info30
  cases src with
  | none =>
    obtain rfl := hB.2.2.2.2.2 rfl
    obtain rfl : len = 0 := by have := hB.2.1; omega
    obtain rfl : l = [] := List.length_eq_zero_iff.1 hB.1
    refine wpList_append_own_none hgd s x 32 ho base 47 i0 4 Tryd.underlying32 hi v n _ hs hown hx ?_
    exact h v w (hide ⟨by simpa using hown, Below.refl _ _⟩)
  | some ad =>
    by_cases h0 : len = 0
    · subst h0
      obtain rfl : l = [] := List.length_eq_zero_iff.1 hB.1
      refine wpList_append_own w hgd s x 32 ho base 47 i0 (vp Py0) 4 32 Tryd.underlying32 hi hz0 hz1 hz2 rfl (by decide) v n _ hs hown ad 0 cap [] hx rfl (by simp) (by simp) (by unfold maxLen; omega) (by omega) hbase ?_
      intro v' w' ho' hg _
      refine h v' w' (hide ⟨by simpa using ho', (Below.refl _ _).grown hg hbase ?_⟩)
      intro k hk
      exact (hown.lt k hk).1
    · obtain ⟨b, off, e, _⟩ := hB.2.2.2.2.1 0 (by omega)
      cases e
      refine wpList_append_own w hgd s x 32 ho base 47 i0 (vp Py0) 4 32 Tryd.underlying32 hi hz0 hz1 hz2 rfl (by decide) v n _ hs hown _ len cap (l.flatMap pyc) hx (by rw [pflat_len, hB.1]) hB.cells (flat_oneP l) (by unfold maxLen; omega) hb hbase ?_
      intro v' w' ho' hg _
      refine h v' w' (hide ⟨by rw [List.flatMap_append]; exact ho', (Below.refl _ _).grown hg hbase ?_⟩)
      intro k hk
      exact (hown.lt k hk).1
set_option maxHeartbeats 1000000 in
theorem growP_any (n : Nat) (hn : n ≤ 100000) (w : World) : Calls Tryd.prog 67 #[.slice none 0 0, .int .i64 (n : Int)] w fun e w' => (∃ v, e = .returned v ∧ w'.ownsRow w.heap.size 47 4 v 0 []) ∧ Below w.heap.size w w' := by
  by_cases h0 : n = 0
  · subst h0
    have HO := hide (And.intro (World.ownsRow_nil w w.heap.size 47 4) (Below.refl w.heap.size w))
    go_enter Tryd.func67, Tryd.ntmps67
    go_wp2
    go_ret
    exact ⟨⟨_, rfl, HO.out.1⟩, HO.out.2⟩
  replace h0 : 0 < n := by omega
  obtain ⟨i0, hi, hz0, hz1, hz2⟩ := info_partsC info30
  have hr := Go.Lib.run_append_nil_zeros (P := Tryd.prog) w 32 3 32 47 i0 _ .i64 .i64 Tryd.underlying32 Tryd.underlying3 hi hz0 n h0 (by omega) (by omega) (by rw [hz2]; omega)
  have hge := grownCap_ge w n 0 47
  have hle := grownCap_le_maxLen w n 0 47 (by unfold maxLen; omega)
  have HS : Hid ((Builtin.zeroCells (vp Py0).cells n ++ Builtin.zeroCells (vp Py0).cells (grownCap w n 0 47 - n)).size = grownCap w n 0 47 * 4) := hide (by
    rw [Array.size_append, size_zeroCells, size_zeroCells]
    show n * 4 + (grownCap w n 0 47 - n) * 4 = _
    omega)
  generalize Builtin.zeroCells (vp Py0).cells n ++ Builtin.zeroCells (vp Py0).cells (grownCap w n 0 47 - n) = cur at *
  generalize grownCap w n 0 47 = gc at *
  have HB : Hid (Below w.heap.size w (w.drew.alloc (.cells cur 47))) := hide ((Below.refl _ w).drew.alloc (Nat.le_refl _) _)
  have HO : Hid ((w.drew.alloc (.cells cur 47)).ownsRow w.heap.size 47 4 (.slice (some ⟨w.heap.size, 0, none⟩) 0 gc) 0 []) := hide (World.ownsRow_made w.drew cur gc (Nat.le_refl _) hle HS.out)
  have hn0 : (0 : Int) < (n : Int) := by omega
  have hwn : IntKind.i64.wrap (n : Int) = (n : Int) := wrap64 (by omega) (by omega)
  clear hi hz0 hz1 hz2
  go_enter Tryd.func67, Tryd.ntmps67
  go_wp2_with (at_builtin; refine Go.Lib.wpList_append_run _ rfl _ _ _ _ rfl _ _ rfl rfl _ _ hr ?_)
  go_ret
  exact ⟨⟨_, rfl, HO.out⟩, HB.out⟩
/-- slices in a row -/
def RowsP (w : World) (q m : Nat) (a : Nat → Option Addr) (n c : Nat → Nat) (l : Nat → List Py) : Prop :=
  q < w.heap.size ∧ ∀ k, k < m → w.cell? ⟨q, k, none⟩ = some (.slice (a k) (n k) (c k)) ∧ IsP w (a k) (n k) (c k) (l k)
set_option maxHeartbeats 2000000 in
theorem concatP_any (q m : Nat) (a : Nat → Option Addr) (n c : Nat → Nat) (l : Nat → List Py) (w : World) (hq : RowsP w q m a n c l) (hm : m ≤ 100) (hn : preN n m ≤ 100000) : Calls Tryd.prog 57 #[.slice (some ⟨q, 0, none⟩) m m] w fun e w' => (∃ v, e = .returned v ∧ w'.ownsRow w.heap.size 47 4 v (preN n m) ((preL l m).flatMap pyc)) ∧ Below w.heap.size w w' := by
  have HQ := hide hq
  have HNN := hide hn
  have HGR := hide (fun W => growP_any (preN n m) hn W)
  have HW : Hid (∀ k, k < m → IntKind.i64.wrap ((preN n k : Int) + (n k : Int)) = (preN n (k + 1) : Int)) := hide (fun k hk => by
    have := preN_mono n (show k + 1 ≤ m by omega)
    have e : preN n (k + 1) = preN n k + n k := rfl
    rw [wrap64 (by omega) (by omega)]; omega)
  have hM : m ≤ 100 := hm
  clear hq hn hm
  go_enter Tryd.func57, Tryd.ntmps57
  go_wp2
  go_loopw [3, 11] (fun sz i wr => ∃ k : Nat, k ≤ m ∧ i = .int .i64 k ∧ sz = .int .i64 (preN n k : Int) ∧ wr = w) (fun _ i _ => m - (intOf i).toNat)
  case atStart => exact ⟨0, by omega, rfl, rfl, rfl⟩
  case round =>
    obtain ⟨k, hk, rfl, rfl, hw⟩ := hrel
    obtain rfl := hw.symm
    clear hw
    by_cases hkm : k < m
    · have z0 := (HQ.out.2 k hkm).1
      have hw1 := HW.out k hkm
      have hwk : IntKind.i64.wrap ((k : Int) + 1) = (k : Int) + 1 := wrap64 (by omega) (by omega)
      have hkI : (k : Int) < (m : Int) := by omega
      have hk0 : (0 : Int) ≤ (k : Int) := by omega
      have HRL : Hid (∃ k' : Nat, k' ≤ m ∧ Value.int .i64 ((k : Int) + 1) = .int .i64 k' ∧ Value.int .i64 (preN n (k + 1) : Int) = .int .i64 (preN n k' : Int) ∧ True) := hide ⟨k + 1, hkm, by simp, rfl, trivial⟩
      have HME : Hid (m - (intOf (Value.int .i64 ((k : Int) + 1))).toNat < m - (intOf (Value.int .i64 (k : Int))).toNat) := hide (by simp [intOf]; omega)
      have hps : ¬ (preN n (k + 1) : Int) < 0 := by omega
      generalize preN n (k + 1) = s1 at *
      generalize preN n k = s0 at *
      generalize n k = nk at *
      go_wp2
      go_roundw
      case rel => exact HRL.out
      case measure => exact HME.out
    · obtain rfl : k = m := by omega
      have hkI : ¬ (k : Int) < (k : Int) := by omega
      go_wp2_with fail
      refine (HGR.out w).mono ?_
      rintro e w2 ⟨⟨v, rfl, hown⟩, hb2⟩
      have HO2 := hide (And.intro hown hb2)
      clear hown hb2 HGR
      go_wp2
      go_loopw [6, 27] (fun nv i W => ∃ j : Nat, j ≤ k ∧ i = .int .i64 j ∧ Hid (W.ownsRow w.heap.size 47 4 nv (preN n j) ((preL l j).flatMap pyc) ∧ Below w.heap.size w W)) (fun _ i _ => k - (intOf i).toNat)
      case atStart => exact ⟨0, by omega, rfl, hide ⟨by simpa [preN, preL] using HO2.out.1, HO2.out.2⟩⟩
      case round =>
        obtain ⟨j, hj, rfl, HW2⟩ := hrel
        by_cases hjm : j < k
        · have z0 := ((World.cell?_of_block (HW2.out.2.block q HQ.out.1)).trans (HQ.out.2 j hjm).1)
          have hI := (HQ.out.2 j hjm).2.below' HW2.out.2
          have hjI : (j : Int) < (k : Int) := by omega
          have hj0 : (0 : Int) ≤ (j : Int) := by omega
          have hwj : IntKind.i64.wrap ((j : Int) + 1) = (j : Int) + 1 := wrap64 (by omega) (by omega)
          have hbb : (preN n j + n j) * 32 ≤ 140737488355328 := by
            have h1 := preN_mono n (show j + 1 ≤ k by omega)
            have h2 : preN n (j + 1) = preN n j + n j := rfl
            have h3 := HNN.out
            omega
          go_wp2_with (at_builtin; refine wpList_cellsP rfl _ _ rfl w.heap.size u6 (preN n j) (preL l j) rfl HW2.out.1 (a j) (n j) (c j) (l j) rfl hI hbb HW2.out.2.size ?_; intro v' w' HN)
          go_roundw
          case rel => exact ⟨j + 1, by omega, by simp, hide ⟨HN.out.1, HW2.out.2.trans HN.out.2⟩⟩
          case measure => simp [intOf]; omega
        · obtain rfl : j = k := by omega
          have hjI : ¬ (j : Int) < (j : Int) := by omega
          go_wp2
          go_ret
          exact ⟨⟨_, rfl, HW2.out.1⟩, HW2.out.2⟩
theorem isP_take {w : World} {a : Option Addr} {len cap : Nat} {l : List Py} (h : IsP w a len cap l) {k : Nat} (hk : k ≤ len) : IsP w a k cap (l.take k) := by
  refine ⟨by rw [List.length_take, h.1]; omega, by have := h.2.1; omega, h.2.2.1, fun x hx => h.2.2.2.1 x (List.mem_of_mem_take hx), fun i hi => ?_, h.2.2.2.2.2⟩
  obtain ⟨b, off, e, hlt, hc⟩ := h.2.2.2.2.1 i (by omega)
  refine ⟨b, off, e, hlt, ?_⟩
  rwa [List.getD_eq_getElem?_getD, List.getElem?_take, if_pos hi, ← List.getD_eq_getElem?_getD]
theorem isP_drop {w : World} {b off len cap : Nat} {l : List Py} (h : IsP w (some ⟨b, off, none⟩) len cap l) {k : Nat} (hk : k ≤ len) : IsP w (some ⟨b, off + k * 4, none⟩) (len - k) (cap - k) (l.drop k) := by
  refine ⟨by rw [List.length_drop, h.1], by have := h.2.1; omega, by have := h.2.2.1; unfold maxLen at *; omega, fun x hx => h.2.2.2.1 x (List.mem_of_mem_drop hx), fun i hi => ?_, by intro e; cases e⟩
  obtain ⟨b', off', e, hlt, hc⟩ := h.2.2.2.2.1 (k + i) (by omega)
  cases e
  refine ⟨b, off + k * 4, rfl, hlt, ?_⟩
  rw [List.getD_eq_getElem?_getD, List.getElem?_drop, ← List.getD_eq_getElem?_getD, show off + k * 4 + i * 4 = off + (k + i) * 4 by omega]
  exact hc
theorem isP_drop' {w : World} {ad : Addr} {len cap : Nat} {l : List Py} (h : IsP w (some ad) len cap l) {k : Nat} (hk : k ≤ len) : IsP w (some (ad.add (k * 4))) (len - k) (cap - k) (l.drop k) := by
  by_cases h0 : k < len
  · obtain ⟨b, off, e, _⟩ := h.2.2.2.2.1 0 (by omega)
    cases e
    rw [addr_add]
    exact isP_drop h hk
  · have : len - k = 0 := by omega
    rw [this, show l.drop k = [] from List.drop_eq_nil_of_le (by rw [h.1]; omega)]
    exact ⟨rfl, Nat.zero_le _, by have := h.2.2.1; unfold maxLen at *; omega, by simp, fun i hi => by omega, by intro e; cases e⟩
theorem isP_none' {w : World} {ad : Addr} {len cap : Nat} {l : List Py} (h : IsP w (some ad) len cap l) {k : Nat} (hk : len ≤ k) : IsP w (some ad) 0 0 (l.drop k) := by
  rw [show l.drop k = [] from List.drop_eq_nil_of_le (by rw [h.1]; omega)]
  exact ⟨rfl, Nat.zero_le _, Nat.zero_le _, by simp, fun i hi => by omega, by intro e; cases e⟩
theorem flat_oneG (l : List Pg) : ∀ u ∈ l.flatMap pgc, u.oneCell' = true := by
  intro u hu
  obtain ⟨x, _, hx⟩ := List.mem_flatMap.1 hu
  simp only [List.mem_cons, List.not_mem_nil, or_false] at hx
  rcases hx with rfl | rfl | rfl | rfl <;> rfl
theorem PostAt.get {w : World} {b o : Nat} {x : Pg} (h : PostAt w b o x) : ∀ j, j < 4 → w.cell? ⟨b, o + j, none⟩ = (pgc x)[j]? := by
  intro j hj
  obtain ⟨h1, h2, h3, h4⟩ := h
  rcases (by omega : j = 0 ∨ j = 1 ∨ j = 2 ∨ j = 3) with rfl | rfl | rfl | rfl
  · simpa using h1
  · simpa using h2
  · simpa using h3
  · simpa using h4
theorem ofPostAt {w : World} {b o : Nat} {x : Pg} (h : ∀ j, j < 4 → w.cell? ⟨b, o + j, none⟩ = (pgc x)[j]?) : PostAt w b o x :=
  ⟨by simpa using h 0 (by omega), by simpa using h 1 (by omega), by simpa using h 2 (by omega), by simpa using h 3 (by omega)⟩
theorem IsG.cells {w : World} {b off len cap : Nat} {l : List Pg} (h : IsG w (some ⟨b, off, none⟩) len cap l) : ∀ j u, (l.flatMap pgc)[j]? = some u → w.cell? ((⟨b, off, none⟩ : Addr).add j) = some u := by
  intro j u hj
  have hjl : j < l.length * 4 := by rw [← gflat_len]; exact (List.getElem?_eq_some_iff.1 hj).1
  have hl := h.1
  obtain ⟨b', o', e, _, hc⟩ := h.2.2.2.2.1 (j / 4) (by omega)
  cases e
  have := hc.get (j % 4) (by omega)
  rw [← gflat_get l (j / 4) (j % 4) (by omega) (by omega), show j / 4 * 4 + j % 4 = j by omega, hj] at this
  rw [addr_add, ← this]
  congr 2
  omega
theorem own_IsG {w : World} {base : Nat} {v : Value} {n : Nat} {l : List Pg} (hl : l.length = n) (ho : ∀ x ∈ l, okG x) (h : w.ownsRow base 92 4 v n (l.flatMap pgc)) : ∃ a cap, v = .slice a n cap ∧ IsG w a n cap l ∧ ∀ b off, a = some ⟨b, off, none⟩ → base ≤ b := by
  rcases h.2 with ⟨rfl, rfl⟩ | ⟨g, cap, cur, rfl, hb, hg, hn, hm, hs, ht⟩
  · exact ⟨none, 0, rfl, ⟨hl, Nat.le_refl _, Nat.zero_le _, ho, fun i hi => by omega, fun _ => rfl⟩, by intro b off h; cases h⟩
  · refine ⟨_, cap, rfl, ⟨hl, hn, hm, ho, fun i hi => ?_, by intro h; cases h⟩, by intro b off h; cases h; exact hb⟩
    refine ⟨g, 0, rfl, heap_lt hg, ofPostAt fun j hj => ?_⟩
    have h1 : cur.toList[i * 4 + j]? = (l.flatMap pgc)[i * 4 + j]? := by
      rw [← ht, List.getElem?_take]
      rw [if_pos (by omega)]
    rw [Nat.zero_add, ← gflat_get l i j hj (by omega), ← h1]
    simp only [World.cell?, hg]
    simp
theorem wpList_cellsG {w : World} {ops : Array Oper} {rest : List Oper} {o : Oper} {a : Act} {Q : Exit → Act → World → Prop} (hgd : o.guard = none) (s x : Operand)
    (ho : o.op = .call { callee := .builtin .append, args := #[s, x], argTypes := #[33, 33] }) (base : Nat) (v : Value) (n : Nat) (xs : List Pg) (hs : a.eval s = v) (hown : w.ownsRow base 92 4 v n (xs.flatMap pgc))
    (src : Option Addr) (len cap : Nat) (l : List Pg) (hx : a.eval x = .slice src len cap) (hB : IsG w src len cap l) (hb : (n + len) * 24 ≤ 140737488355328) (hbase : base ≤ w.heap.size)
    (h : ∀ v' w', Hid (w'.ownsRow base 92 4 v' (n + len) ((xs ++ l).flatMap pgc) ∧ Below base w w') → wpList Tryd.prog ops Q rest (a.put o.dst v') w') : wpList Tryd.prog ops Q (o :: rest) a w := by
  obtain ⟨i0, hi, hz0, hz1, hz2⟩ := info_partsC info61
  cases src with
  | none =>
    obtain rfl := hB.2.2.2.2.2 rfl
    obtain rfl : len = 0 := by have := hB.2.1; omega
    obtain rfl : l = [] := List.length_eq_zero_iff.1 hB.1
    refine wpList_append_own_none hgd s x 33 ho base 92 i0 4 Tryd.underlying33 hi v n _ hs hown hx ?_
    exact h v w (hide ⟨by simpa using hown, Below.refl _ _⟩)
  | some ad =>
    by_cases h0 : len = 0
    · subst h0
      obtain rfl : l = [] := List.length_eq_zero_iff.1 hB.1
      refine wpList_append_own w hgd s x 33 ho base 92 i0 (vg Pg0) 4 24 Tryd.underlying33 hi hz0 hz1 hz2 rfl (by decide) v n _ hs hown ad 0 cap [] hx rfl (by simp) (by simp) (by unfold maxLen; omega) (by omega) hbase ?_
      intro v' w' ho' hg _
      refine h v' w' (hide ⟨by simpa using ho', (Below.refl _ _).grown hg hbase ?_⟩)
      intro k hk
      exact (hown.lt k hk).1
    · obtain ⟨b, off, e, _⟩ := hB.2.2.2.2.1 0 (by omega)
      cases e
      refine wpList_append_own w hgd s x 33 ho base 92 i0 (vg Pg0) 4 24 Tryd.underlying33 hi hz0 hz1 hz2 rfl (by decide) v n _ hs hown _ len cap (l.flatMap pgc) hx (by rw [gflat_len, hB.1]) hB.cells (flat_oneG l) (by unfold maxLen; omega) hb hbase ?_
      intro v' w' ho' hg _
      refine h v' w' (hide ⟨by rw [List.flatMap_append]; exact ho', (Below.refl _ _).grown hg hbase ?_⟩)
      intro k hk
      exact (hown.lt k hk).1
set_option maxHeartbeats 1000000 in
theorem growG_any (n : Nat) (hn : n ≤ 100000) (w : World) : Calls Tryd.prog 58 #[.slice none 0 0, .int .i64 (n : Int)] w fun e w' => (∃ v, e = .returned v ∧ w'.ownsRow w.heap.size 92 4 v 0 []) ∧ Below w.heap.size w w' := by
  by_cases h0 : n = 0
  · subst h0
    have HO := hide (And.intro (World.ownsRow_nil w w.heap.size 92 4) (Below.refl w.heap.size w))
    go_enter Tryd.func58, Tryd.ntmps58
    go_wp2
    go_ret
    exact ⟨⟨_, rfl, HO.out.1⟩, HO.out.2⟩
  replace h0 : 0 < n := by omega
  obtain ⟨i0, hi, hz0, hz1, hz2⟩ := info_partsC info61
  have hr := Go.Lib.run_append_nil_zeros (P := Tryd.prog) w 33 3 33 92 i0 _ .i64 .i64 Tryd.underlying33 Tryd.underlying3 hi hz0 n h0 (by omega) (by omega) (by rw [hz2]; omega)
  have hge := grownCap_ge w n 0 92
  have hle := grownCap_le_maxLen w n 0 92 (by unfold maxLen; omega)
  have HS : Hid ((Builtin.zeroCells (vg Pg0).cells n ++ Builtin.zeroCells (vg Pg0).cells (grownCap w n 0 92 - n)).size = grownCap w n 0 92 * 4) := hide (by
    rw [Array.size_append, size_zeroCells, size_zeroCells]
    show n * 4 + (grownCap w n 0 92 - n) * 4 = _
    omega)
  generalize Builtin.zeroCells (vg Pg0).cells n ++ Builtin.zeroCells (vg Pg0).cells (grownCap w n 0 92 - n) = cur at *
  generalize grownCap w n 0 92 = gc at *
  have HB : Hid (Below w.heap.size w (w.drew.alloc (.cells cur 92))) := hide ((Below.refl _ w).drew.alloc (Nat.le_refl _) _)
  have HO : Hid ((w.drew.alloc (.cells cur 92)).ownsRow w.heap.size 92 4 (.slice (some ⟨w.heap.size, 0, none⟩) 0 gc) 0 []) := hide (World.ownsRow_made w.drew cur gc (Nat.le_refl _) hle HS.out)
  have hn0 : (0 : Int) < (n : Int) := by omega
  have hwn : IntKind.i64.wrap (n : Int) = (n : Int) := wrap64 (by omega) (by omega)
  clear hi hz0 hz1 hz2
  go_enter Tryd.func58, Tryd.ntmps58
  go_wp2_with (at_builtin; refine Go.Lib.wpList_append_run _ rfl _ _ _ _ rfl _ _ rfl rfl _ _ hr ?_)
  go_ret
  exact ⟨⟨_, rfl, HO.out⟩, HB.out⟩
/-- slices in a row -/
def RowsG (w : World) (q m : Nat) (a : Nat → Option Addr) (n c : Nat → Nat) (l : Nat → List Pg) : Prop :=
  q < w.heap.size ∧ ∀ k, k < m → w.cell? ⟨q, k, none⟩ = some (.slice (a k) (n k) (c k)) ∧ IsG w (a k) (n k) (c k) (l k)
set_option maxHeartbeats 2000000 in
theorem concatG_any (q m : Nat) (a : Nat → Option Addr) (n c : Nat → Nat) (l : Nat → List Pg) (w : World) (hq : RowsG w q m a n c l) (hm : m ≤ 100) (hn : preN n m ≤ 100000) : Calls Tryd.prog 50 #[.slice (some ⟨q, 0, none⟩) m m] w fun e w' => (∃ v, e = .returned v ∧ w'.ownsRow w.heap.size 92 4 v (preN n m) ((preL l m).flatMap pgc)) ∧ Below w.heap.size w w' := by
  have HQ := hide hq
  have HNN := hide hn
  have HGR := hide (fun W => growG_any (preN n m) hn W)
  have HW : Hid (∀ k, k < m → IntKind.i64.wrap ((preN n k : Int) + (n k : Int)) = (preN n (k + 1) : Int)) := hide (fun k hk => by
    have := preN_mono n (show k + 1 ≤ m by omega)
    have e : preN n (k + 1) = preN n k + n k := rfl
    rw [wrap64 (by omega) (by omega)]; omega)
  have hM : m ≤ 100 := hm
  clear hq hn hm
  go_enter Tryd.func50, Tryd.ntmps50
  go_wp2
  go_loopw [3, 11] (fun sz i wr => ∃ k : Nat, k ≤ m ∧ i = .int .i64 k ∧ sz = .int .i64 (preN n k : Int) ∧ wr = w) (fun _ i _ => m - (intOf i).toNat)
  case atStart => exact ⟨0, by omega, rfl, rfl, rfl⟩
  case round =>
    obtain ⟨k, hk, rfl, rfl, hw⟩ := hrel
    obtain rfl := hw.symm
    clear hw
    by_cases hkm : k < m
    · have z0 := (HQ.out.2 k hkm).1
      have hw1 := HW.out k hkm
      have hwk : IntKind.i64.wrap ((k : Int) + 1) = (k : Int) + 1 := wrap64 (by omega) (by omega)
      have hkI : (k : Int) < (m : Int) := by omega
      have hk0 : (0 : Int) ≤ (k : Int) := by omega
      have HRL : Hid (∃ k' : Nat, k' ≤ m ∧ Value.int .i64 ((k : Int) + 1) = .int .i64 k' ∧ Value.int .i64 (preN n (k + 1) : Int) = .int .i64 (preN n k' : Int) ∧ True) := hide ⟨k + 1, hkm, by simp, rfl, trivial⟩
      have HME : Hid (m - (intOf (Value.int .i64 ((k : Int) + 1))).toNat < m - (intOf (Value.int .i64 (k : Int))).toNat) := hide (by simp [intOf]; omega)
      have hps : ¬ (preN n (k + 1) : Int) < 0 := by omega
      generalize preN n (k + 1) = s1 at *
      generalize preN n k = s0 at *
      generalize n k = nk at *
      go_wp2
      go_roundw
      case rel => exact HRL.out
      case measure => exact HME.out
    · obtain rfl : k = m := by omega
      have hkI : ¬ (k : Int) < (k : Int) := by omega
      go_wp2_with fail
      refine (HGR.out w).mono ?_
      rintro e w2 ⟨⟨v, rfl, hown⟩, hb2⟩
      have HO2 := hide (And.intro hown hb2)
      clear hown hb2 HGR
      go_wp2
      go_loopw [6, 27] (fun nv i W => ∃ j : Nat, j ≤ k ∧ i = .int .i64 j ∧ Hid (W.ownsRow w.heap.size 92 4 nv (preN n j) ((preL l j).flatMap pgc) ∧ Below w.heap.size w W)) (fun _ i _ => k - (intOf i).toNat)
      case atStart => exact ⟨0, by omega, rfl, hide ⟨by simpa [preN, preL] using HO2.out.1, HO2.out.2⟩⟩
      case round =>
        obtain ⟨j, hj, rfl, HW2⟩ := hrel
        by_cases hjm : j < k
        · have z0 := ((World.cell?_of_block (HW2.out.2.block q HQ.out.1)).trans (HQ.out.2 j hjm).1)
          have hI := (HQ.out.2 j hjm).2.below' HW2.out.2
          have hjI : (j : Int) < (k : Int) := by omega
          have hj0 : (0 : Int) ≤ (j : Int) := by omega
          have hwj : IntKind.i64.wrap ((j : Int) + 1) = (j : Int) + 1 := wrap64 (by omega) (by omega)
          have hbb : (preN n j + n j) * 24 ≤ 140737488355328 := by
            have h1 := preN_mono n (show j + 1 ≤ k by omega)
            have h2 : preN n (j + 1) = preN n j + n j := rfl
            have h3 := HNN.out
            omega
          go_wp2_with (at_builtin; refine wpList_cellsG rfl _ _ rfl w.heap.size u6 (preN n j) (preL l j) rfl HW2.out.1 (a j) (n j) (c j) (l j) rfl hI hbb HW2.out.2.size ?_; intro v' w' HN)
          go_roundw
          case rel => exact ⟨j + 1, by omega, by simp, hide ⟨HN.out.1, HW2.out.2.trans HN.out.2⟩⟩
          case measure => simp [intOf]; omega
        · obtain rfl : j = k := by omega
          have hjI : ¬ (j : Int) < (j : Int) := by omega
          go_wp2
          go_ret
          exact ⟨⟨_, rfl, HW2.out.1⟩, HW2.out.2⟩
theorem isG_take {w : World} {a : Option Addr} {len cap : Nat} {l : List Pg} (h : IsG w a len cap l) {k : Nat} (hk : k ≤ len) : IsG w a k cap (l.take k) := by
  refine ⟨by rw [List.length_take, h.1]; omega, by have := h.2.1; omega, h.2.2.1, fun x hx => h.2.2.2.1 x (List.mem_of_mem_take hx), fun i hi => ?_, h.2.2.2.2.2⟩
  obtain ⟨b, off, e, hlt, hc⟩ := h.2.2.2.2.1 i (by omega)
  refine ⟨b, off, e, hlt, ?_⟩
  rwa [List.getD_eq_getElem?_getD, List.getElem?_take, if_pos hi, ← List.getD_eq_getElem?_getD]
theorem isG_drop {w : World} {b off len cap : Nat} {l : List Pg} (h : IsG w (some ⟨b, off, none⟩) len cap l) {k : Nat} (hk : k ≤ len) : IsG w (some ⟨b, off + k * 4, none⟩) (len - k) (cap - k) (l.drop k) := by
  refine ⟨by rw [List.length_drop, h.1], by have := h.2.1; omega, by have := h.2.2.1; unfold maxLen at *; omega, fun x hx => h.2.2.2.1 x (List.mem_of_mem_drop hx), fun i hi => ?_, by intro e; cases e⟩
  obtain ⟨b', off', e, hlt, hc⟩ := h.2.2.2.2.1 (k + i) (by omega)
  cases e
  refine ⟨b, off + k * 4, rfl, hlt, ?_⟩
  rw [List.getD_eq_getElem?_getD, List.getElem?_drop, ← List.getD_eq_getElem?_getD, show off + k * 4 + i * 4 = off + (k + i) * 4 by omega]
  exact hc
theorem isG_drop' {w : World} {ad : Addr} {len cap : Nat} {l : List Pg} (h : IsG w (some ad) len cap l) {k : Nat} (hk : k ≤ len) : IsG w (some (ad.add (k * 4))) (len - k) (cap - k) (l.drop k) := by
  by_cases h0 : k < len
  · obtain ⟨b, off, e, _⟩ := h.2.2.2.2.1 0 (by omega)
    cases e
    rw [addr_add]
    exact isG_drop h hk
  · have : len - k = 0 := by omega
    rw [this, show l.drop k = [] from List.drop_eq_nil_of_le (by rw [h.1]; omega)]
    exact ⟨rfl, Nat.zero_le _, by have := h.2.2.1; unfold maxLen at *; omega, by simp, fun i hi => by omega, by intro e; cases e⟩
theorem isG_none' {w : World} {ad : Addr} {len cap : Nat} {l : List Pg} (h : IsG w (some ad) len cap l) {k : Nat} (hk : len ≤ k) : IsG w (some ad) 0 0 (l.drop k) := by
  rw [show l.drop k = [] from List.drop_eq_nil_of_le (by rw [h.1]; omega)]
  exact ⟨rfl, Nat.zero_le _, Nat.zero_le _, by simp, fun i hi => by omega, by intro e; cases e⟩
end Go.Proofs.YtffhkljegopjmaaDoor.Lg
