/- rows of one-cell values: what is appended, grown, put together (slices of bytes, and numbers) -/
import Derived.Test.YtebikoekpbnpbaaNQ
import Derived.Laws.AppendOwnNone
import Derived.Lib.AppendZeros
namespace Go.Proofs.Ytebikoekpbnpbaa
open Go.RowKit Cod
set_option maxRecDepth 100000
set_option linter.unusedVariables false
set_option linter.unusedSimpArgs false
theorem info_partsM {i? : Option TypeInfo} {z : Option Value} {s b : Nat} (h : i?.map (fun i => (i.zero, i.size, i.bytes)) = some (z, s, b)) : ∃ i, i? = some i ∧ i.zero = z ∧ i.size = s ∧ i.bytes = b := by
  cases i? with
  | none => cases h
  | some i =>
    simp only [Option.map_some, Option.some.injEq, Prod.mk.injEq] at h
    exact ⟨i, rfl, h.1, h.2.1, h.2.2⟩
theorem addr_addM (b off j : Nat) : (⟨b, off, none⟩ : Addr).add j = ⟨b, off + j, none⟩ := by
  unfold Addr.add; by_cases h : j = 0 <;> simp [h]
/-- a slice of one-cell values in memory -/
def Vs (w : World) (a : Option Addr) (n c : Nat) (xs : List Value) : Prop :=
  xs.length = n ∧ n ≤ c ∧ c ≤ maxLen ∧ (a = none → c = 0) ∧ (∀ u ∈ xs, u.oneCell' = true) ∧ ∀ i, i < n → ∃ b off, a = some ⟨b, off, none⟩ ∧ b < w.heap.size ∧ w.cell? ⟨b, off + i, none⟩ = xs[i]?
theorem Vs.below' {w w' : World} {a : Option Addr} {n c m : Nat} {xs : List Value} (h : Vs w a n c xs) (hb : Below m w w') (hm : ∀ b off, a = some ⟨b, off, none⟩ → b < w.heap.size → b < m) : Vs w' a n c xs := by
  obtain ⟨h1, h2, h3, h4, h5, h6⟩ := h
  refine ⟨h1, h2, h3, h4, h5, fun i hi => ?_⟩
  obtain ⟨b, off, e, hlt, hc⟩ := h6 i hi
  exact ⟨b, off, e, Nat.lt_of_lt_of_le hlt hb.size, (World.cell?_of_block (hb.block b (hm b off e hlt))).trans hc⟩
theorem Vs.below {w w' : World} {a : Option Addr} {n c : Nat} {xs : List Value} (h : Vs w a n c xs) (hb : Below w.heap.size w w') : Vs w' a n c xs := h.below' hb (fun _ _ _ hlt => hlt)
/-- how many there are ahead of a slice -/
def preN (n : Nat → Nat) : Nat → Nat
  | 0 => 0
  | k + 1 => preN n k + n k
/-- what there is ahead of a slice -/
def preL {α : Type} (l : Nat → List α) : Nat → List α
  | 0 => []
  | k + 1 => preL l k ++ l k
theorem info3 : (Try.prog.info? 3).map (fun i => (i.zero, i.size, i.bytes)) = some (some (.int .i64 0), 1, 8) := by kernel_rfl
/-- slices in a row -/
def RowsV (w : World) (q m : Nat) (a : Nat → Option Addr) (n c : Nat → Nat) (l : Nat → List Value) : Prop :=
  q < w.heap.size ∧ ∀ k, k < m → w.cell? ⟨q, k, none⟩ = some (.slice (a k) (n k) (c k)) ∧ Vs w (a k) (n k) (c k) (l k)
theorem wpList_valsL {w : World} {ops : Array Oper} {rest : List Oper} {o : Oper} {a : Act} {Q : Exit → Act → World → Prop} (hgd : o.guard = none) (s x : Operand)
    (ho : o.op = .call { callee := .builtin .append, args := #[s, x], argTypes := #[22, 22] }) (base : Nat) (v : Value) (n : Nat) (xs : List Value) (hs : a.eval s = v) (hown : w.ownsRow base 26 1 v n xs)
    (src : Option Addr) (len cap : Nat) (l : List Value) (hx : a.eval x = .slice src len cap) (hB : Vs w src len cap l) (hb : (n + len) * 24 ≤ 140737488355328) (hbase : base ≤ w.heap.size)
    (h : ∀ v' w', Hid (w'.ownsRow base 26 1 v' (n + len) (xs ++ l) ∧ Below base w w') → wpList Try.prog ops Q rest (a.put o.dst v') w') : wpList Try.prog ops Q (o :: rest) a w := by
  obtain ⟨i0, hi, hz0, hz1, hz2⟩ := info_partsM info26
  obtain ⟨h1, h2, h3, h4, h5, h6⟩ := hB
  cases src with
  | none =>
    obtain rfl := h4 rfl
    obtain rfl : len = 0 := by omega
    obtain rfl : l = [] := List.length_eq_zero_iff.1 h1
    refine wpList_append_own_none hgd s x 22 ho base 26 i0 1 Try.underlying22 hi v n _ hs hown hx ?_
    exact h v w (hide ⟨by simpa using hown, Below.refl _ _⟩)
  | some ad =>
    by_cases h0 : len = 0
    · subst h0
      obtain rfl : l = [] := List.length_eq_zero_iff.1 h1
      refine wpList_append_own w hgd s x 22 ho base 26 i0 (Value.slice none 0 0) 1 24 Try.underlying22 hi hz0 hz1 hz2 rfl (by decide) v n _ hs hown ad 0 cap [] hx rfl (by simp) (by simp) (by unfold maxLen; omega) (by omega) hbase ?_
      intro v' w' ho' hg _
      refine h v' w' (hide ⟨by simpa using ho', (Below.refl _ _).grown hg hbase ?_⟩)
      intro k hk
      exact (hown.lt k hk).1
    · obtain ⟨b, off, e, _⟩ := h6 0 (by omega)
      cases e
      refine wpList_append_own w hgd s x 22 ho base 26 i0 (Value.slice none 0 0) 1 24 Try.underlying22 hi hz0 hz1 hz2 rfl (by decide) v n _ hs hown _ len cap l hx (by omega) ?_ h5 (by unfold maxLen; omega) hb hbase ?_
      · intro j u hj
        have hjl : j < len := by rw [← h1]; exact (List.getElem?_eq_some_iff.1 hj).1
        obtain ⟨b', off', e, _, hc⟩ := h6 j hjl
        cases e
        rw [addr_addM, hc, hj]
      · intro v' w' ho' hg _
        refine h v' w' (hide ⟨ho', (Below.refl _ _).grown hg hbase ?_⟩)
        intro k hk
        exact (hown.lt k hk).1
theorem wpList_valsK {w : World} {ops : Array Oper} {rest : List Oper} {o : Oper} {a : Act} {Q : Exit → Act → World → Prop} (hgd : o.guard = none) (s x : Operand)
    (ho : o.op = .call { callee := .builtin .append, args := #[s, x], argTypes := #[23, 23] }) (base : Nat) (v : Value) (n : Nat) (xs : List Value) (hs : a.eval s = v) (hown : w.ownsRow base 3 1 v n xs)
    (src : Option Addr) (len cap : Nat) (l : List Value) (hx : a.eval x = .slice src len cap) (hB : Vs w src len cap l) (hb : (n + len) * 8 ≤ 140737488355328) (hbase : base ≤ w.heap.size)
    (h : ∀ v' w', Hid (w'.ownsRow base 3 1 v' (n + len) (xs ++ l) ∧ Below base w w') → wpList Try.prog ops Q rest (a.put o.dst v') w') : wpList Try.prog ops Q (o :: rest) a w := by
  obtain ⟨i0, hi, hz0, hz1, hz2⟩ := info_partsM info3
  obtain ⟨h1, h2, h3, h4, h5, h6⟩ := hB
  cases src with
  | none =>
    obtain rfl := h4 rfl
    obtain rfl : len = 0 := by omega
    obtain rfl : l = [] := List.length_eq_zero_iff.1 h1
    refine wpList_append_own_none hgd s x 23 ho base 3 i0 1 Try.underlying23 hi v n _ hs hown hx ?_
    exact h v w (hide ⟨by simpa using hown, Below.refl _ _⟩)
  | some ad =>
    by_cases h0 : len = 0
    · subst h0
      obtain rfl : l = [] := List.length_eq_zero_iff.1 h1
      refine wpList_append_own w hgd s x 23 ho base 3 i0 (Value.int .i64 0) 1 8 Try.underlying23 hi hz0 hz1 hz2 rfl (by decide) v n _ hs hown ad 0 cap [] hx rfl (by simp) (by simp) (by unfold maxLen; omega) (by omega) hbase ?_
      intro v' w' ho' hg _
      refine h v' w' (hide ⟨by simpa using ho', (Below.refl _ _).grown hg hbase ?_⟩)
      intro k hk
      exact (hown.lt k hk).1
    · obtain ⟨b, off, e, _⟩ := h6 0 (by omega)
      cases e
      refine wpList_append_own w hgd s x 23 ho base 3 i0 (Value.int .i64 0) 1 8 Try.underlying23 hi hz0 hz1 hz2 rfl (by decide) v n _ hs hown _ len cap l hx (by omega) ?_ h5 (by unfold maxLen; omega) hb hbase ?_
      · intro j u hj
        have hjl : j < len := by rw [← h1]; exact (List.getElem?_eq_some_iff.1 hj).1
        obtain ⟨b', off', e, _, hc⟩ := h6 j hjl
        cases e
        rw [addr_addM, hc, hj]
      · intro v' w' ho' hg _
        refine h v' w' (hide ⟨ho', (Below.refl _ _).grown hg hbase ?_⟩)
        intro k hk
        exact (hown.lt k hk).1
/-- slices.Clone of numbers -/
theorem cloneK_any (ad : Addr) (len cap : Nat) (l : List Value) (w : World) (h : Vs w (some ad) len cap l) (hr : len ≤ 1000000) :
    Calls Try.prog 85 #[.slice (some ad) len cap] w fun e w' => ∃ v, e = .returned v ∧ w'.ownsRow w.heap.size 3 1 v len l ∧ Below w.heap.size w w' := by
  have hq := fun W => Go.Lib.run_eql_slice_nil (P := Try.prog) W 23 3 (some ad) len cap 0 0 Try.underlying23
  have HV := hide h
  have HO : Hid ((w.alloc (.cells #[] 3)).ownsRow w.heap.size 3 1 (.slice (some ⟨w.heap.size, 0, none⟩) 0 0) 0 []) := hide (by
    first | exact World.ownsRow_made w #[] 0 (Nat.le_refl _) (Nat.zero_le _) rfl | exact World.ownsRow_made (w.alloc (.cells #[] 3)) #[] 0 (Nat.le_refl _) (Nat.zero_le _) rfl)
  have HB : Hid (Below w.heap.size w (w.alloc (.cells #[] 3))) := hide ((Below.refl _ w).alloc (Nat.le_refl _) _)
  have HVA := hide (HV.out.below HB.out)
  clear h
  go_enter Try.func85, Try.ntmps85
  go_wp2_with (at_builtin; refine wpList_valsK rfl _ _ rfl w.heap.size _ 0 [] rfl HO.out (some ad) len cap l rfl HVA.out (by omega) HB.out.size ?_; intro v' w' HN)
  have HF : Hid (w'.ownsRow w.heap.size 3 1 v' len l ∧ Below w.heap.size w w') := hide (by have h1 := HN.out.1; simp only [Nat.zero_add, List.nil_append] at h1; exact ⟨h1, HB.out.trans HN.out.2⟩)
  clear HN HO HVA
  go_ret
  exact ⟨_, rfl, HF.out⟩
end Go.Proofs.Ytebikoekpbnpbaa
