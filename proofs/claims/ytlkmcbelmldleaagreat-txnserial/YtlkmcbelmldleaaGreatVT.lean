/- writes: SortedFunc, CompactFunc, twice -/
import Derived.Test.YtlkmcbelmldleaaGreatVS
namespace Go.Proofs.YtlkmcbelmldleaaGreat
open Go.RowKit Go.Shelf Go.Lib Go.Sort
set_option maxRecDepth 40000
theorem flat_lenW (l : List Wt) : (l.flatMap wtc).length = l.length * 3 := by
  induction l with
  | nil => rfl
  | cons x r ih => rw [List.flatMap_cons, List.length_append, ih]; simp; omega
/-- slices.SortFunc of writes -/
theorem sortW_any (base g cap n : Nat) (l : List Wt) (w : World) (hl : l.length = n) (hn : n < 4611686018427387904) (hown : w.ownsRow base 64 3 (.slice (some ⟨g, 0, none⟩) n cap) n (l.flatMap wtc)) :
    Calls Tryz.prog 68 #[.slice (some ⟨g, 0, none⟩) n cap, .func (.func 122) #[] #[]] w fun e w' => e = .returned (.tuple #[]) ∧ ∃ l' : List Wt, l'.Perm l ∧ (∀ i j, i < j → j < n → Op.bytesLess (l'.getD j Wt0).key.toList (l'.getD i Wt0).key.toList = false) ∧ w'.ownsRow base 64 3 (.slice (some ⟨g, 0, none⟩) n cap) n (l'.flatMap wtc) ∧ w.grownBy w' (some g) := by
  rcases hown.2 with ⟨h, _⟩ | ⟨g', cap', cur, e, hb, hg, h1, h2, h3, h4⟩
  · cases h
  cases e
  letI : Inhabited Wt := ⟨Wt0⟩
  have eg : ∀ args w, (callFunc 122 args).run Tryz.prog w = .ok (.enter 122 args) w := enters_of Tryz.func122 (by kernel_rfl) rfl
  have hH := row_holds wtc 3 (fun _ => rfl) hl hg h3 h4
  have hcon := AnyQ.slices_SortFunc Tryz.sortW 3 Tryz.isAgg64 Tryz.sizeOf64 wtc (fun _ => rfl) (fun x v hv => by simp at hv; rcases hv with rfl | rfl | rfl <;> rfl) cfW swoW 122 #[] g 0 cap l.toArray w eg (fun m os dk _ x y => twice1_any x y _) hH (heap_lt hg) (by rw [List.size_toArray]; omega)
  change Calls Tryz.prog 68 _ _ _ at hcon
  rw [List.size_toArray, hl] at hcon
  refine hcon.mono ?_
  rintro e w' ⟨rfl, d', m, os, hp, hsrt, rfl⟩
  have hsz : d'.toList.length = n := by rw [Array.length_toList, hp.1, List.size_toArray, hl]
  have hd : d' = d'.toList.toArray := by simp
  refine ⟨rfl, d'.toList, ?_, ?_, ?_, sort_grown wtc 3 d'⟩
  · have := hp.2.2
    rw [show d'.extract 0 n = d' by rw [← hsz]; simp, show l.toArray.extract 0 n = l.toArray by rw [← hl]; simp] at this
    exact this
  · intro i j hij hj
    have := hsrt i j (Nat.zero_le _) hij hj
    rw [ltW_eq] at this
    have e : ∀ k, d'[k]! = d'.toList.getD k Wt0 := fun k => by
      rw [List.getD_eq_getElem?_getD, Array.getElem?_toList, getElem!_def]
      cases d'[k]? <;> rfl
    rw [e, e] at this
    exact this
  · obtain ⟨cur', q1, q2, q3⟩ := sort_blk wtc 3 (fun _ => rfl) (by omega) (n := m) (os := os) d'.toList hg h3 (by omega)
    rw [← hd] at q1
    exact ⟨by rw [flat_lenW, hsz], .inr ⟨g, cap, cur', rfl, hb, q1, h1, h2, q2, by rw [← hsz]; exact q3⟩⟩
theorem sortW_none (a : Option Addr) (c : Nat) (fv : Value) (w : World) : Calls Tryz.prog 68 #[.slice a 0 c, fv] w fun e w' => e = .returned (.tuple #[]) ∧ w' = w := by
  have := AnyF.slices_SortFunc_none { Tryz.sortW with } a c fv w
  change Calls Tryz.prog 68 _ _ _ at this
  exact this
theorem sortV_none (a : Option Addr) (c : Nat) (fv : Value) (w : World) : Calls Tryz.prog 63 #[.slice a 0 c, fv] w fun e w' => e = .returned (.tuple #[]) ∧ w' = w := by
  have := AnyF.slices_SortFunc_none { Tryz.sortV with } a c fv w
  change Calls Tryz.prog 63 _ _ _ at this
  exact this
/-- slices.SortedFunc(slices.Values(l), rising) -/
theorem sortedW_any (Bl : Nat) (a : Option Addr) (len cap : Nat) (l : List Wt) (w : World) (hBl : Boxed w Bl 41 (.slice a len cap)) (hL : IsW w a len cap l) (hlen : len ≤ 4096) :
    Calls Tryz.prog 124 #[.func (.func 168) #[] #[.pointer (some ⟨Bl, 0, none⟩)], .func (.func 122) #[] #[]] w fun e w' => ∃ (v : Value) (l' : List Wt), e = .returned v ∧ l'.Perm l ∧ (∀ i j, i < j → j < len → Op.bytesLess (l'.getD j Wt0).key.toList (l'.getD i Wt0).key.toList = false) ∧ w'.ownsRow w.heap.size 64 3 v len (l'.flatMap wtc) ∧ Below w.heap.size w w' := by
  have HLN := hide hL.1
  have HLE := hide hlen
  have HS := hide (collW_any Bl a len cap l w hBl hL hlen)
  clear hBl hL hlen
  go_enter Tryz.func124, Tryz.ntmps124
  go_wp2_with fail
  refine HS.out.mono ?_
  rintro e w1 ⟨v, rfl, hrow, hb⟩
  clear HS
  rcases hrow.2 with ⟨rfl, rfl⟩ | ⟨g, cp, cur, rfl, h1, _⟩
  · have HE : Hid (l = []) := hide (List.eq_nil_of_length_eq_zero HLN.out)
    have H := hide (And.intro hrow hb)
    clear hrow hb
    go_wp2_with fail
    refine (sortW_none none 0 _ w1).mono ?_
    rintro e w2 ⟨rfl, rfl⟩
    go_wp2
    go_ret
    exact ⟨_, [], rfl, by rw [HE.out], fun i j _ h => absurd h (Nat.not_lt_zero _), by have := H.out.1; rw [HE.out] at this; exact this, H.out.2⟩
  · have HSO := hide (sortW_any w.heap.size g cp len l w1 HLN.out (by have := HLE.out; omega) hrow)
    have HB := hide hb
    have HG := hide h1
    clear hrow hb h1
    go_wp2_with fail
    refine HSO.out.mono ?_
    rintro e w2 ⟨rfl, l', q1, q2, q3, q4⟩
    have H := hide (show l'.Perm l ∧ (∀ i j, i < j → j < len → Op.bytesLess (l'.getD j Wt0).key.toList (l'.getD i Wt0).key.toList = false) ∧ w2.ownsRow w.heap.size 64 3 (.slice (some ⟨g, 0, none⟩) len cp) len (l'.flatMap wtc) ∧ Below w.heap.size w w2 from ⟨q1, q2, q3, HB.out.trans ((Below.refl _ w1).grown q4 HB.out.size (fun k e => by cases e; exact HG.out))⟩)
    clear q1 q2 q3 q4 HSO
    go_wp2
    go_ret
    obtain ⟨q1, q2, q3, q4⟩ := H.out
    exact ⟨_, l', rfl, q1, q2, q3, q4⟩
end Go.Proofs.YtlkmcbelmldleaaGreat
