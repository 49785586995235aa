/- appends in drawn regions; the document's with -/
import Derived.Test.YtebikoekpbnpbaaDG
namespace Go.Proofs.Ytebikoekpbnpbaa
open Go.RowKit Cod
set_option maxRecDepth 100000
set_option linter.unusedVariables false
set_option linter.unusedSimpArgs false
theorem wp_valsL {w : World} {o : Oper} {a : Act} {K : Act → World → Prop} {Q : Exit → Act → World → Prop} (s x : Operand)
    (ho : o.op = .call { callee := .builtin .append, args := #[s, x], argTypes := #[22, 22] }) (base : Nat) (v : Value) (n : Nat) (xs : List Value) (hs : a.eval s = v) (hown : w.ownsRow base 26 1 v n xs)
    (src : Option Addr) (len cap : Nat) (l : List Value) (hx : a.eval x = .slice src len cap) (hB : Vs w src len cap l) (hb : (n + len) * 24 ≤ 140737488355328) (hbase : base ≤ w.heap.size)
    (h : ∀ v' w', Hid (w'.ownsRow base 26 1 v' (n + len) (xs ++ l) ∧ w.grownBy w' v.ownBlock) → K (a.put o.dst v') w') : o.wp Try.prog a w K Q := by
  obtain ⟨i0, hi, hz0, hz1, hz2⟩ := info_partsM info26
  obtain ⟨h1, h2, h3, h4, h5, h6⟩ := hB
  cases src with
  | none =>
    obtain rfl := h4 rfl
    obtain rfl : len = 0 := by omega
    obtain rfl : l = [] := List.length_eq_zero_iff.1 h1
    have hrun := run_append_owned_none (P := Try.prog) (w := w) base 22 o.type 26 i0 1 Try.underlying22 hi v n xs hown
    unfold Oper.wp
    simp [execOp, ho, resolve, invoke, builtin, hs, hx, hrun, Result.andThen]
    exact h v w (hide ⟨by simpa using hown, ⟨rfl, rfl, rfl, Nat.le_refl _, fun _ _ _ => rfl⟩⟩)
  | some ad =>
    refine wp_append_own w s x 22 ho base 26 i0 (Value.slice none 0 0) 1 24 Try.underlying22 hi hz0 hz1 hz2 rfl (by decide) v n _ hs hown ad len cap l hx (by omega) ?_ h5 (by unfold maxLen; omega) hb hbase ?_
    · intro j u hj
      have hjl : j < len := by rw [← h1]; exact (List.getElem?_eq_some_iff.1 hj).1
      obtain ⟨b', off', e, _, hc⟩ := h6 j hjl
      cases e
      rw [addr_addM, hc, hj]
    · intro v' w' ho' hg _
      exact h v' w' (hide ⟨ho', hg⟩)
theorem wp_valsK {w : World} {o : Oper} {a : Act} {K : Act → World → Prop} {Q : Exit → Act → World → Prop} (s x : Operand)
    (ho : o.op = .call { callee := .builtin .append, args := #[s, x], argTypes := #[23, 23] }) (base : Nat) (v : Value) (n : Nat) (xs : List Value) (hs : a.eval s = v) (hown : w.ownsRow base 3 1 v n xs)
    (src : Option Addr) (len cap : Nat) (l : List Value) (hx : a.eval x = .slice src len cap) (hB : Vs w src len cap l) (hb : (n + len) * 8 ≤ 140737488355328) (hbase : base ≤ w.heap.size)
    (h : ∀ v' w', Hid (w'.ownsRow base 3 1 v' (n + len) (xs ++ l) ∧ w.grownBy w' v.ownBlock) → K (a.put o.dst v') w') : o.wp Try.prog a w K Q := by
  obtain ⟨i0, hi, hz0, hz1, hz2⟩ := info_partsM info3
  obtain ⟨h1, h2, h3, h4, h5, h6⟩ := hB
  cases src with
  | none =>
    obtain rfl := h4 rfl
    obtain rfl : len = 0 := by omega
    obtain rfl : l = [] := List.length_eq_zero_iff.1 h1
    have hrun := run_append_owned_none (P := Try.prog) (w := w) base 23 o.type 3 i0 1 Try.underlying23 hi v n xs hown
    unfold Oper.wp
    simp [execOp, ho, resolve, invoke, builtin, hs, hx, hrun, Result.andThen]
    exact h v w (hide ⟨by simpa using hown, ⟨rfl, rfl, rfl, Nat.le_refl _, fun _ _ _ => rfl⟩⟩)
  | some ad =>
    refine wp_append_own w s x 23 ho base 3 i0 (Value.int .i64 0) 1 8 Try.underlying23 hi hz0 hz1 hz2 rfl (by decide) v n _ hs hown ad len cap l hx (by omega) ?_ h5 (by unfold maxLen; omega) hb hbase ?_
    · intro j u hj
      have hjl : j < len := by rw [← h1]; exact (List.getElem?_eq_some_iff.1 hj).1
      obtain ⟨b', off', e, _, hc⟩ := h6 j hjl
      cases e
      rw [addr_addM, hc, hj]
    · intro v' w' ho' hg _
      exact h v' w' (hide ⟨ho', hg⟩)
theorem vs_one {w : World} {q : Nat} {u : Value} (hq : w.heap[q]? = some (.cells #[u] 26 (0, 0))) (h1 : u.oneCell' = true) : Vs w (some ⟨q, 0, none⟩) 1 1 [u] := by
  refine ⟨rfl, Nat.le_refl _, by unfold maxLen; decide, nofun, by simpa using h1, fun i hi => ?_⟩
  obtain rfl : i = 0 := by omega
  exact ⟨q, 0, rfl, heap_ltN hq, cell_blkN hq rfl⟩
theorem isL_end {w : World} {a : Option Addr} {n c : Nat} {L : List (List Nat)} (h : IsL w a n c L) {k : Nat} (hk : k ≤ n) :
    ∃ (xs : List Value) (A1 A2 : Option Addr) (c2 : Nat), Vs w a k c (xs.take k) ∧ Vs w A2 (n - k) c2 (xs.drop k) ∧ ElB w xs L ∧ (a = none → A2 = none ∧ c2 = 0) ∧ (∀ b off, a = some ⟨b, off, none⟩ → c2 = c - k ∧ (if c = k then some (⟨b, off, none⟩ : Addr) else some ⟨b, off + k, none⟩) = A2) := by
  obtain ⟨xs, hv, he⟩ := h.vs
  cases a with
  | none =>
    obtain rfl := h.2.2.2.1 rfl
    obtain rfl : n = 0 := by have := h.2.1; omega
    obtain rfl : k = 0 := by omega
    have e : xs = [] := List.length_eq_zero_iff.1 hv.1
    subst e
    exact ⟨[], none, none, 0, hv, hv, he, fun _ => ⟨rfl, rfl⟩, fun _ _ e => by cases e⟩
  | some ad =>
    by_cases h0 : n = 0
    · subst h0
      obtain rfl : k = 0 := by omega
      have e : xs = [] := List.length_eq_zero_iff.1 hv.1
      subst e
      refine ⟨[], none, some ad, c, hv, hv, he, fun e => (by cases e), fun b off e => ?_⟩
      cases e
      refine ⟨by omega, ?_⟩
      by_cases hc : c = 0
      · rw [if_pos hc]
      · rw [if_neg hc]; rfl
    · obtain ⟨b, off, e, _⟩ := hv.2.2.2.2.2 0 (by omega)
      cases e
      obtain ⟨A, hA, hv2⟩ := hv.back hk
      refine ⟨xs, none, some A, c - k, hv.front hk, hv2, he, fun e => (by cases e), fun b' off' e => ?_⟩
      cases e
      exact ⟨rfl, hA⟩
set_option maxHeartbeats 4000000 in
/-- ladingref06.with -/
theorem rwith_any (a : Option Addr) (n c k : Nat) (L : List (List Nat)) (xa : Option Addr) (xn xc : Nat) (x : List Nat) (w : World) (h : IsL w a n c L) (hn : n ≤ 1000000) (hk : k ≤ n) (hx : IsB w xa xn xc x) (hxn : xn ≤ 2000000) (ha : a = none ∨ ∃ b off, a = some ⟨b, off, none⟩) :
    Calls Try.prog 54 #[.slice a n c, .int .i64 (k : Nat), .slice xa xn xc] w fun e w' => ∃ a' c', e = .returned (.slice a' (n + 1) c') ∧ IsL w' a' (n + 1) c' (insL L k x) ∧ Below w.heap.size w w' := by
  obtain ⟨xs, A1, A2, c2, hv1, hv2, he, hnone, hsome⟩ := isL_end h hk
  have HLN : Hid (L.length = n) := hide h.1
  have hnc : n ≤ c := h.2.1
  have hcm : c ≤ 9223372036854775807 := h.2.2.1
  have HV1 := hide hv1
  have HV2 := hide hv2
  have HE := hide he
  have HX := hide hx
  have hb0 : Below w.heap.size w (w.alloc (.cells #[] 26)) := (Below.refl _ w).alloc (Nat.le_refl _) _
  have HO := hide (owns_emptyL w)
  have HVA := hide (HV1.out.below hb0)
  have HB0 := hide hb0
  have q1 : (0 : Int) ≤ (k : Int) := by omega
  have q2 : (k : Int) ≤ (c : Int) := by omega
  have q3 : k ≤ c := by omega
  have q4 : (k : Int) ≤ (n : Int) := by omega
  have HST : Hid (∀ (v1 : Value) (w1 : World), w1.ownsRow w.heap.size 26 1 v1 (0 + k) ([] ++ xs.take k) ∧ Below w.heap.size (w.alloc (.cells #[] 26)) w1 → w1.ownsRow w.heap.size 26 1 v1 k (xs.take k) ∧ Below w.heap.size w w1) := hide (fun v1 w1 hN => by
    have h1 := hN.1
    simp only [Nat.zero_add, List.nil_append] at h1
    exact ⟨h1, HB0.out.trans hN.2⟩)
  have HRB : Hid (∀ W, Below w.heap.size w W → Calls Try.prog 53 #[.slice xa xn xc] W fun e w' => ∃ a' c', e = .returned (.slice a' xn c') ∧ IsB w' a' xn c' x ∧ NewB w' W.heap.size a' ∧ Below W.heap.size W w') := hide (fun W hW => rbytes_any xa xn xc x W (hx.below hW) (by omega))
  clear hv1 hv2 he h hx hb0
  rcases ha with rfl | ⟨b1, o1, rfl⟩
  · obtain ⟨rfl, rfl⟩ := hnone rfl
    have HC0 : Hid (c = 0 ∧ n = 0 ∧ k = 0) := hide (by have := HV1.out.2.2.2.1 rfl; omega)
    obtain ⟨rfl, rfl, rfl⟩ := HC0.out
    clear hnone hsome q1 q2 q3 q4 hn hk hnc hcm
    go_enter Try.func54, Try.ntmps54
    go_wp2_with (at_builtin; refine wpList_valsL rfl _ _ rfl w.heap.size _ 0 [] rfl HO.out none 0 0 (xs.take 0) rfl HVA.out (by omega) HB0.out.size ?_; intro v1 w1 HN1)
    have HW1 := hide (HST.out v1 w1 HN1.out)
    clear HN1 HST HVA HO
    go_wp2_with fail
    refine wp_region_held_drew (S := fun _ : World => True) (by kernel_rfl) ?hSwno4 (fun hHeld => ?_)
    case hSwno4 => exact trivial
    refine hTake (i := 0) (v := ?v0wno4) (some 13) rfl rfl (by kernel_rfl) (by kernel_rfl) (by kernel_rfl) (fun _ _ _ h => h) (by rfl) (by assumption) ?hy0wno4 ?hn0wno4
    case hy0wno4 => (intro w hSw; (try dsimp only at hSw); skip; go_simp; try with_reducible rfl)
    try simp only [Act.put, List.setIfInBounds_toArray, List.set_cons_zero, List.set_cons_succ]
    refine hTake (i := 1) (v := ?v1wno4) (some 14) rfl rfl (by kernel_rfl) (by kernel_rfl) (by kernel_rfl) (fun _ _ _ h => h) (by rfl) (by assumption) ?hy1wno4 ?hn1wno4
    case hy1wno4 => (intro w hSw; (try dsimp only at hSw); skip; go_simp; try with_reducible rfl)
    try simp only [Act.put, List.setIfInBounds_toArray, List.set_cons_zero, List.set_cons_succ]
    refine hTake (i := 5) (v := ?v5wno4) (some 18) rfl rfl (by kernel_rfl) (by kernel_rfl) (by kernel_rfl) (fun _ _ _ h => h) (by rfl) (by assumption) ?hy5wno4 ?hn5wno4
    case hy5wno4 => (intro w hSw; (try dsimp only at hSw); skip; go_simp; try with_reducible rfl)
    try simp only [Act.put, List.setIfInBounds_toArray, List.set_cons_zero, List.set_cons_succ]
    refine hTake (i := 6) (v := ?v6wno4) (some 19) rfl rfl (by kernel_rfl) (by kernel_rfl) (by kernel_rfl) (fun _ _ _ h => h) (by rfl) (by assumption) ?hy6wno4 ?hn6wno4
    case hy6wno4 => (intro w hSw; (try dsimp only at hSw); skip; go_simp; try with_reducible rfl)
    try simp only [Act.put, List.setIfInBounds_toArray, List.set_cons_zero, List.set_cons_succ]
    refine hTake (i := 7) (v := ?v7wno4) (some 20) rfl rfl (by kernel_rfl) (by kernel_rfl) (by kernel_rfl) (fun _ _ _ h => h) (by rfl) (by assumption) ?hy7wno4 ?hn7wno4
    case hy7wno4 => (intro w hSw; (try dsimp only at hSw); skip; go_simp; try with_reducible rfl)
    try simp only [Act.put, List.setIfInBounds_toArray, List.set_cons_zero, List.set_cons_succ]
    obtain ⟨Wd, hWd⟩ : ∃ Wd, Wd = w1.drew := ⟨_, rfl⟩
    have HBD : Hid (Below w1.heap.size w1 Wd) := hide (by rw [hWd]; exact (Below.refl _ _).drew)
    rw [← hWd]
    clear hWd
    have HWD : Hid (Wd.ownsRow w.heap.size 26 1 v1 0 (xs.take 0) ∧ Below w.heap.size w Wd) := hide ⟨own_below HW1.out.1 HBD.out, HW1.out.2.trans (HBD.out.mono HW1.out.2.size)⟩
    refine hOne (i := 2) rfl (by kernel_rfl) (fun K hK => ?_)
    go_simp
    refine (HRB.out Wd HWD.out.2).mono ?_
    rintro e w2 ⟨a3, c3, rfl, hI3, hN3, hb2⟩
    have HW2 : Hid (w2.ownsRow w.heap.size 26 1 v1 0 (xs.take 0) ∧ Below w.heap.size w w2 ∧ IsB w2 a3 xn c3 x ∧ ∀ b off, a3 = some ⟨b, off, none⟩ → ∃ cs f, w2.heap[b]? = some (.cells cs 5 f)) := hide ⟨own_below HWD.out.1 hb2, HWD.out.2.trans (hb2.mono HWD.out.2.size), hI3, fun b off e => (hN3 b off e).2⟩
    clear hI3 hN3 hb2
    refine hK.out _ _ (trivial) (fun hHeld => ?_)
    clear hK K
    try simp only [Act.put, List.setIfInBounds_toArray, List.set_cons_zero, List.set_cons_succ]
    obtain ⟨w3, hw3⟩ : ∃ W, W = w2.alloc (.cells #[.slice a3 xn c3] 26) := ⟨_, rfl⟩
    have HB3 : Hid (Below w2.heap.size w2 w3) := hide (by rw [hw3]; exact (Below.refl _ _).alloc (Nat.le_refl _) _)
    have HQ3 : Hid (w3.heap[w2.heap.size]? = some (.cells #[.slice a3 xn c3] 26 (0, 0))) := hide (by rw [hw3]; exact heap_alloc_new _ _)
    refine hOne (i := 3) rfl (by kernel_rfl) (fun K hK => ?_)
    go_simp
    rw [← hw3]
    clear hw3
    refine hK.out _ _ (trivial) (fun hHeld => ?_)
    clear hK K
    try simp only [Act.put, List.setIfInBounds_toArray, List.set_cons_zero, List.set_cons_succ]
    have HW3 : Hid (w3.ownsRow w.heap.size 26 1 v1 0 (xs.take 0) ∧ Below w.heap.size w w3 ∧ IsB w3 a3 xn c3 x) := hide ⟨own_below HW2.out.1 HB3.out, HW2.out.2.1.trans (HB3.out.mono HW2.out.2.1.size), HW2.out.2.2.1.below HB3.out⟩
    have HT3 : Hid (∀ b off, a3 = some ⟨b, off, none⟩ → ∃ cs f, w3.heap[b]? = some (.cells cs 5 f)) := hide (fun b off e => by obtain ⟨cs, f, h⟩ := HW2.out.2.2.2 b off e; exact ⟨cs, f, (HB3.out.block _ (heap_ltN h)).trans h⟩)
    refine hOne (i := 4) rfl (by kernel_rfl) (fun K hK => ?_)
    rw [if_pos (by rfl)]
    refine wp_valsL _ _ rfl w.heap.size v1 0 (xs.take 0) rfl HW3.out.1 (some ⟨w2.heap.size, 0, none⟩) 1 1 [.slice a3 xn c3] rfl (vs_one HQ3.out rfl) (by omega) HW3.out.2.1.size ?_
    intro v4 w4 HN4
    have HW4 : Hid (w4.ownsRow w.heap.size 26 1 v4 (0 + 1) (xs.take 0 ++ [.slice a3 xn c3]) ∧ Below w.heap.size w w4 ∧ IsB w4 a3 xn c3 x) := hide (by
      refine ⟨HN4.out.1, HW3.out.2.1.grown HN4.out.2 HW3.out.2.1.size (fun g hg => (HW3.out.1.lt g hg).1), HW3.out.2.2.keptN HN4.out.2.size (fun b off e => ?_)⟩
      obtain ⟨cs, f, hb⟩ := HT3.out b off e
      refine HN4.out.2.block b (heap_ltN hb) (fun e2 => ?_)
      rcases HW3.out.1.2 with ⟨rfl, _⟩ | ⟨g, cap, cur, rfl, _, h2, _⟩
      · cases e2
      · have e' : b = g := by simpa [Value.ownBlock] using e2
        rw [e', h2] at hb
        cases hb)
    have HT4 : Hid (∀ b off, a3 = some ⟨b, off, none⟩ → ∃ cs f, w4.heap[b]? = some (.cells cs 5 f)) := hide (fun b off e => by
      obtain ⟨cs, f, hb⟩ := HT3.out b off e
      refine ⟨cs, f, (HN4.out.2.block b (heap_ltN hb) (fun e2 => ?_)).trans hb⟩
      rcases HW3.out.1.2 with ⟨rfl, _⟩ | ⟨g, cap, cur, rfl, _, h2, _⟩
      · cases e2
      · have e' : b = g := by simpa [Value.ownBlock] using e2
        rw [e', h2] at hb
        cases hb)
    clear HN4
    refine hK.out _ _ trivial (fun hHeld => ?_)
    clear hK K
    try simp only [Act.put, List.setIfInBounds_toArray, List.set_cons_zero, List.set_cons_succ]
    refine hOne (i := 8) rfl (by kernel_rfl) (fun K hK => ?_)
    rw [if_pos (by rfl)]
    refine wp_valsL _ _ rfl w.heap.size v4 (0 + 1) _ rfl HW4.out.1 none (0 - 0) 0 (xs.drop 0) rfl (HV2.out.below HW4.out.2.1) (by omega) HW4.out.2.1.size ?_
    intro v5 w5 HN5
    have HF : Hid (∃ a' c', v5 = .slice a' (0 + 1) c' ∧ IsL w5 a' (0 + 1) c' (insL L 0 x) ∧ Below w.heap.size w w5) := hide (by
      have hb := HW4.out.2.1.grown HN5.out.2 HW4.out.2.1.size (fun g hg => (HW4.out.1.lt g hg).1)
      have ho := HN5.out.1
      rw [show 0 + 1 + (0 - 0) = 0 + 1 by omega] at ho
      have hB5 : IsB w5 a3 xn c3 x := HW4.out.2.2.keptN HN5.out.2.size (fun b off e => by
        obtain ⟨cs, f, hbb⟩ := HT4.out b off e
        refine HN5.out.2.block b (heap_ltN hbb) (fun e2 => ?_)
        rcases HW4.out.1.2 with ⟨rfl, _⟩ | ⟨g, cap, cur, rfl, _, h2, _⟩
        · cases e2
        · have e' : b = g := by simpa [Value.ownBlock] using e2
          rw [e', h2] at hbb
          cases hbb)
      have e := HE.out.below hb
      have e6 := ((e.front 0).app (ElB.one1 hB5)).app (e.back 0)
      have e7 : L.take 0 ++ [x] ++ L.drop 0 = insL L 0 x := by unfold insL; simp
      rw [e7] at e6
      obtain ⟨a', c', e1, hL⟩ := own_isL (L := insL L 0 x) (by rw [insL_len, HLN.out]) e6 ho
      exact ⟨a', c', e1, hL, hb⟩)
    clear HN5
    refine hK.out _ _ trivial (fun hHeld => ?_)
    clear hK K
    try simp only [Act.put, List.setIfInBounds_toArray, List.set_cons_zero, List.set_cons_succ]
    refine hOne (i := 9) rfl (by kernel_rfl) (fun K hK => ?_)
    go_simp
    refine hK.out _ _ (trivial) (fun hHeld => ?_)
    clear hK K
    try simp only [Act.put, List.setIfInBounds_toArray, List.set_cons_zero, List.set_cons_succ]
    refine wpAnyH_done (by kernel_rfl) ?_ _
    clear HW1 HBD HWD HW2 HB3 HQ3 HW3 HT3 HW4 HT4 hHeld
    obtain ⟨a', c', rfl, hfin⟩ := HF.out
    clear HF
    have HF := hide hfin
    clear hfin
    go_wp2
    go_ret
    exact ⟨a', c', rfl, HF.out⟩
  · obtain ⟨rfl, hA2⟩ := hsome b1 o1 rfl
    clear hnone hsome
    go_enter Try.func54, Try.ntmps54
    go_wp2_with (at_builtin; refine wpList_valsL rfl _ _ rfl w.heap.size _ 0 [] rfl HO.out (some ⟨b1, o1, none⟩) k c (xs.take k) rfl HVA.out (by omega) HB0.out.size ?_; intro v1 w1 HN1)
    have HW1 := hide (HST.out v1 w1 HN1.out)
    clear HN1 HST HVA HO
    go_wp2_with fail
    refine wp_region_held_drew (S := fun _ : World => True) (by kernel_rfl) ?hSws21 (fun hHeld => ?_)
    case hSws21 => exact trivial
    refine hTake (i := 0) (v := ?v0ws21) (some 13) rfl rfl (by kernel_rfl) (by kernel_rfl) (by kernel_rfl) (fun _ _ _ h => h) (by rfl) (by assumption) ?hy0ws21 ?hn0ws21
    case hy0ws21 => (intro w hSw; (try dsimp only at hSw); skip; go_simp; try with_reducible rfl)
    try simp only [Act.put, List.setIfInBounds_toArray, List.set_cons_zero, List.set_cons_succ]
    refine hTake (i := 1) (v := ?v1ws21) (some 14) rfl rfl (by kernel_rfl) (by kernel_rfl) (by kernel_rfl) (fun _ _ _ h => h) (by rfl) (by assumption) ?hy1ws21 ?hn1ws21
    case hy1ws21 => (intro w hSw; (try dsimp only at hSw); skip; go_simp; try with_reducible rfl)
    try simp only [Act.put, List.setIfInBounds_toArray, List.set_cons_zero, List.set_cons_succ]
    refine hTake (i := 5) (v := ?v5ws21) (some 18) rfl rfl (by kernel_rfl) (by kernel_rfl) (by kernel_rfl) (fun _ _ _ h => h) (by rfl) (by assumption) ?hy5ws21 ?hn5ws21
    case hy5ws21 => (intro w hSw; (try dsimp only at hSw); skip; go_simp; try with_reducible rfl)
    try simp only [Act.put, List.setIfInBounds_toArray, List.set_cons_zero, List.set_cons_succ]
    refine hTake (i := 6) (v := ?v6ws21) (some 19) rfl rfl (by kernel_rfl) (by kernel_rfl) (by kernel_rfl) (fun _ _ _ h => h) (by rfl) (by assumption) ?hy6ws21 ?hn6ws21
    case hy6ws21 => (intro w hSw; (try dsimp only at hSw); skip; go_simp; try with_reducible rfl)
    try simp only [Act.put, List.setIfInBounds_toArray, List.set_cons_zero, List.set_cons_succ]
    refine hTake (i := 7) (v := ?v7ws21) (some 20) rfl rfl (by kernel_rfl) (by kernel_rfl) (by kernel_rfl) (fun _ _ _ h => h) (by rfl) (by assumption) ?hy7ws21 ?hn7ws21
    case hy7ws21 => (intro w hSw; (try dsimp only at hSw); skip; go_simp; try with_reducible rfl)
    try simp only [Act.put, List.setIfInBounds_toArray, List.set_cons_zero, List.set_cons_succ]
    obtain ⟨Wd, hWd⟩ : ∃ Wd, Wd = w1.drew := ⟨_, rfl⟩
    have HBD : Hid (Below w1.heap.size w1 Wd) := hide (by rw [hWd]; exact (Below.refl _ _).drew)
    rw [← hWd]
    clear hWd
    have HWD : Hid (Wd.ownsRow w.heap.size 26 1 v1 k (xs.take k) ∧ Below w.heap.size w Wd) := hide ⟨own_below HW1.out.1 HBD.out, HW1.out.2.trans (HBD.out.mono HW1.out.2.size)⟩
    refine hOne (i := 2) rfl (by kernel_rfl) (fun K hK => ?_)
    go_simp
    refine (HRB.out Wd HWD.out.2).mono ?_
    rintro e w2 ⟨a3, c3, rfl, hI3, hN3, hb2⟩
    have HW2 : Hid (w2.ownsRow w.heap.size 26 1 v1 k (xs.take k) ∧ Below w.heap.size w w2 ∧ IsB w2 a3 xn c3 x ∧ ∀ b off, a3 = some ⟨b, off, none⟩ → ∃ cs f, w2.heap[b]? = some (.cells cs 5 f)) := hide ⟨own_below HWD.out.1 hb2, HWD.out.2.trans (hb2.mono HWD.out.2.size), hI3, fun b off e => (hN3 b off e).2⟩
    clear hI3 hN3 hb2
    refine hK.out _ _ (trivial) (fun hHeld => ?_)
    clear hK K
    try simp only [Act.put, List.setIfInBounds_toArray, List.set_cons_zero, List.set_cons_succ]
    obtain ⟨w3, hw3⟩ : ∃ W, W = w2.alloc (.cells #[.slice a3 xn c3] 26) := ⟨_, rfl⟩
    have HB3 : Hid (Below w2.heap.size w2 w3) := hide (by rw [hw3]; exact (Below.refl _ _).alloc (Nat.le_refl _) _)
    have HQ3 : Hid (w3.heap[w2.heap.size]? = some (.cells #[.slice a3 xn c3] 26 (0, 0))) := hide (by rw [hw3]; exact heap_alloc_new _ _)
    refine hOne (i := 3) rfl (by kernel_rfl) (fun K hK => ?_)
    go_simp
    rw [← hw3]
    clear hw3
    refine hK.out _ _ (trivial) (fun hHeld => ?_)
    clear hK K
    try simp only [Act.put, List.setIfInBounds_toArray, List.set_cons_zero, List.set_cons_succ]
    have HW3 : Hid (w3.ownsRow w.heap.size 26 1 v1 k (xs.take k) ∧ Below w.heap.size w w3 ∧ IsB w3 a3 xn c3 x) := hide ⟨own_below HW2.out.1 HB3.out, HW2.out.2.1.trans (HB3.out.mono HW2.out.2.1.size), HW2.out.2.2.1.below HB3.out⟩
    have HT3 : Hid (∀ b off, a3 = some ⟨b, off, none⟩ → ∃ cs f, w3.heap[b]? = some (.cells cs 5 f)) := hide (fun b off e => by obtain ⟨cs, f, h⟩ := HW2.out.2.2.2 b off e; exact ⟨cs, f, (HB3.out.block _ (heap_ltN h)).trans h⟩)
    refine hOne (i := 4) rfl (by kernel_rfl) (fun K hK => ?_)
    rw [if_pos (by rfl)]
    refine wp_valsL _ _ rfl w.heap.size v1 k (xs.take k) rfl HW3.out.1 (some ⟨w2.heap.size, 0, none⟩) 1 1 [.slice a3 xn c3] rfl (vs_one HQ3.out rfl) (by omega) HW3.out.2.1.size ?_
    intro v4 w4 HN4
    have HW4 : Hid (w4.ownsRow w.heap.size 26 1 v4 (k + 1) (xs.take k ++ [.slice a3 xn c3]) ∧ Below w.heap.size w w4 ∧ IsB w4 a3 xn c3 x) := hide (by
      refine ⟨HN4.out.1, HW3.out.2.1.grown HN4.out.2 HW3.out.2.1.size (fun g hg => (HW3.out.1.lt g hg).1), HW3.out.2.2.keptN HN4.out.2.size (fun b off e => ?_)⟩
      obtain ⟨cs, f, hb⟩ := HT3.out b off e
      refine HN4.out.2.block b (heap_ltN hb) (fun e2 => ?_)
      rcases HW3.out.1.2 with ⟨rfl, _⟩ | ⟨g, cap, cur, rfl, _, h2, _⟩
      · cases e2
      · have e' : b = g := by simpa [Value.ownBlock] using e2
        rw [e', h2] at hb
        cases hb)
    have HT4 : Hid (∀ b off, a3 = some ⟨b, off, none⟩ → ∃ cs f, w4.heap[b]? = some (.cells cs 5 f)) := hide (fun b off e => by
      obtain ⟨cs, f, hb⟩ := HT3.out b off e
      refine ⟨cs, f, (HN4.out.2.block b (heap_ltN hb) (fun e2 => ?_)).trans hb⟩
      rcases HW3.out.1.2 with ⟨rfl, _⟩ | ⟨g, cap, cur, rfl, _, h2, _⟩
      · cases e2
      · have e' : b = g := by simpa [Value.ownBlock] using e2
        rw [e', h2] at hb
        cases hb)
    clear HN4
    refine hK.out _ _ trivial (fun hHeld => ?_)
    clear hK K
    try simp only [Act.put, List.setIfInBounds_toArray, List.set_cons_zero, List.set_cons_succ]
    refine hOne (i := 8) rfl (by kernel_rfl) (fun K hK => ?_)
    rw [if_pos (by rfl)]
    refine wp_valsL _ _ rfl w.heap.size v4 (k + 1) _ rfl HW4.out.1 A2 (n - k) (c - k) (xs.drop k) rfl (HV2.out.below HW4.out.2.1) (by omega) HW4.out.2.1.size ?_
    intro v5 w5 HN5
    have HF : Hid (∃ a' c', v5 = .slice a' (n + 1) c' ∧ IsL w5 a' (n + 1) c' (insL L k x) ∧ Below w.heap.size w w5) := hide (by
      have hb := HW4.out.2.1.grown HN5.out.2 HW4.out.2.1.size (fun g hg => (HW4.out.1.lt g hg).1)
      have ho := HN5.out.1
      rw [show k + 1 + (n - k) = n + 1 by omega] at ho
      have hB5 : IsB w5 a3 xn c3 x := HW4.out.2.2.keptN HN5.out.2.size (fun b off e => by
        obtain ⟨cs, f, hbb⟩ := HT4.out b off e
        refine HN5.out.2.block b (heap_ltN hbb) (fun e2 => ?_)
        rcases HW4.out.1.2 with ⟨rfl, _⟩ | ⟨g, cap, cur, rfl, _, h2, _⟩
        · cases e2
        · have e' : b = g := by simpa [Value.ownBlock] using e2
          rw [e', h2] at hbb
          cases hbb)
      have e := HE.out.below hb
      have e6 := ((e.front k).app (ElB.one1 hB5)).app (e.back k)
      have e7 : L.take k ++ [x] ++ L.drop k = insL L k x := by unfold insL; simp
      rw [e7] at e6
      obtain ⟨a', c', e1, hL⟩ := own_isL (L := insL L k x) (by rw [insL_len, HLN.out]) e6 ho
      exact ⟨a', c', e1, hL, hb⟩)
    clear HN5
    refine hK.out _ _ trivial (fun hHeld => ?_)
    clear hK K
    try simp only [Act.put, List.setIfInBounds_toArray, List.set_cons_zero, List.set_cons_succ]
    refine hOne (i := 9) rfl (by kernel_rfl) (fun K hK => ?_)
    go_simp
    refine hK.out _ _ (trivial) (fun hHeld => ?_)
    clear hK K
    try simp only [Act.put, List.setIfInBounds_toArray, List.set_cons_zero, List.set_cons_succ]
    refine wpAnyH_done (by kernel_rfl) ?_ _
    clear HW1 HBD HWD HW2 HB3 HQ3 HW3 HT3 HW4 HT4 hHeld
    obtain ⟨a', c', rfl, hfin⟩ := HF.out
    clear HF
    have HF := hide hfin
    clear hfin
    go_wp2
    go_ret
    exact ⟨a', c', rfl, HF.out⟩
end Go.Proofs.Ytebikoekpbnpbaa
