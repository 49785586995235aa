/- the document's with, without, at rows that are new -/
import Derived.Test.YtebikoekpbnpbaaDI
namespace Go.Proofs.Ytebikoekpbnpbaa
open Go.RowKit Cod
set_option maxRecDepth 100000
set_option linter.unusedVariables false
set_option linter.unusedSimpArgs false
theorem ElT.app {w : World} {base : Nat} {xs ys : List Value} {L M : List (List Nat)} (h : ElT w base xs L) (h' : ElT w base ys M) : ElT w base (xs ++ ys) (L ++ M) := by
  refine ⟨by rw [List.length_append, List.length_append, h.1, h'.1], fun i hi => ?_⟩
  rw [List.length_append] at hi
  by_cases hl : i < L.length
  · obtain ⟨a, n, c, e, hB, hf⟩ := h.2 i hl
    refine ⟨a, n, c, by rw [List.getElem?_append_left (by rw [h.1]; exact hl)]; exact e, ?_, hf⟩
    rwa [List.getD_eq_getElem?_getD, List.getElem?_append_left hl, ← List.getD_eq_getElem?_getD]
  · obtain ⟨a, n, c, e, hB, hf⟩ := h'.2 (i - L.length) (by omega)
    refine ⟨a, n, c, by rw [List.getElem?_append_right (by rw [h.1]; omega), h.1]; exact e, ?_, hf⟩
    rwa [List.getD_eq_getElem?_getD, List.getElem?_append_right (by omega), ← List.getD_eq_getElem?_getD]
theorem ElT.front {w : World} {base : Nat} {xs : List Value} {L : List (List Nat)} (h : ElT w base xs L) (k : Nat) : ElT w base (xs.take k) (L.take k) := by
  refine ⟨by rw [List.length_take, List.length_take, h.1], fun i hi => ?_⟩
  rw [List.length_take] at hi
  obtain ⟨a, n, c, e, hB, hf⟩ := h.2 i (by omega)
  refine ⟨a, n, c, by rw [List.getElem?_take, if_pos (by omega)]; exact e, ?_, hf⟩
  rwa [List.getD_eq_getElem?_getD, List.getElem?_take, if_pos (by omega), ← List.getD_eq_getElem?_getD]
theorem ElT.back {w : World} {base : Nat} {xs : List Value} {L : List (List Nat)} (h : ElT w base xs L) (k : Nat) : ElT w base (xs.drop k) (L.drop k) := by
  refine ⟨by rw [List.length_drop, List.length_drop, h.1], fun i hi => ?_⟩
  rw [List.length_drop] at hi
  obtain ⟨a, n, c, e, hB, hf⟩ := h.2 (k + i) (by omega)
  refine ⟨a, n, c, by rw [List.getElem?_drop]; exact e, ?_, hf⟩
  rwa [List.getD_eq_getElem?_getD, List.getElem?_drop, ← List.getD_eq_getElem?_getD]
theorem ElT.one1 {w : World} {base : Nat} {a : Option Addr} {n c : Nat} {l : List Nat} (h : IsB w a n c l) (hf : NewB w base a) : ElT w base [.slice a n c] [l] := ⟨rfl, fun i hi => by
  obtain rfl : i = 0 := by simpa using hi
  exact ⟨a, n, c, rfl, h, hf⟩⟩
theorem own_vs {w : World} {base n c : Nat} {a : Option Addr} {xs : List Value} (h : w.ownsRow base 26 1 (.slice a n c) n xs) (h1 : ∀ u ∈ xs, u.oneCell' = true) : Vs w a n c xs := by
  have hl : xs.length = n := by have := h.1; omega
  rcases h.2 with ⟨e, rfl⟩ | ⟨g, cap, cur, e, hb, hg, hn, hm, hs, ht⟩
  · cases e
    exact ⟨hl, Nat.le_refl _, Nat.zero_le _, fun _ => rfl, h1, fun i hi => absurd hi (Nat.not_lt_zero _)⟩
  · cases e
    refine ⟨hl, hn, hm, nofun, h1, fun i hi => ⟨g, 0, rfl, heap_ltN hg, ?_⟩⟩
    rw [Nat.zero_add]
    have h7 : cur.toList[i]? = xs[i]? := by rw [← ht, List.getElem?_take, if_pos (by omega)]
    rw [← h7]
    simp [World.cell?, hg]
theorem vs_end {w : World} {a : Option Addr} {n c : Nat} {ws : List Value} (hv : Vs w a n c ws) {k : Nat} (hk : k ≤ n) :
    ∃ (xs : List Value) (A1 A2 : Option Addr) (c2 : Nat), ws = xs ∧ Vs w a k c (xs.take k) ∧ Vs w A2 (n - k) c2 (xs.drop k) ∧ (a = none → A2 = none ∧ c2 = 0) ∧ (∀ b off, a = some ⟨b, off, none⟩ → c2 = c - k ∧ (if c = k then some (⟨b, off, none⟩ : Addr) else some ⟨b, off + k, none⟩) = A2) := by
  refine ⟨ws, none, ?_⟩
  cases a with
  | none =>
    obtain rfl := hv.2.2.2.1 rfl
    obtain rfl : n = 0 := by have := hv.2.1; omega
    obtain rfl : k = 0 := by omega
    have e : ws = [] := List.length_eq_zero_iff.1 hv.1
    subst e
    exact ⟨none, 0, rfl, hv, hv, fun _ => ⟨rfl, rfl⟩, fun _ _ e => by cases e⟩
  | some ad =>
    by_cases h0 : n = 0
    · subst h0
      obtain rfl : k = 0 := by omega
      have e : ws = [] := List.length_eq_zero_iff.1 hv.1
      subst e
      refine ⟨some ad, c, rfl, hv, hv, fun e => (by cases e), fun b off e => ?_⟩
      cases e
      refine ⟨by omega, ?_⟩
      by_cases hc : c = 0
      · rw [if_pos hc]
      · rw [if_neg hc]; rfl
    · obtain ⟨b, off, e, _⟩ := hv.2.2.2.2.2 0 (by omega)
      cases e
      obtain ⟨A, hA, hv2⟩ := hv.back hk
      refine ⟨some A, c - k, rfl, hv.front hk, hv2, fun e => (by cases e), fun b' off' e => ?_⟩
      cases e
      exact ⟨rfl, hA⟩
set_option maxHeartbeats 2000000 in
/-- ladingref06.without -/
theorem rwithout_T (b1 o1 n c k base : Nat) (xs : List Value) (L : List (List Nat)) (w : World) (h : RowT w base n (.slice (some ⟨b1, o1, none⟩) n c) xs L) (hL : L.length = n) (hn : n ≤ 2000000) (hk : k < n) (hbs : base ≤ w.heap.size) :
    Calls Try.prog 56 #[.slice (some ⟨b1, o1, none⟩) n c, .int .i64 (k : Nat)] w fun e w' => ∃ a' c', e = .returned (.slice a' (n - 1) c') ∧ RowT w' base (n - 1) (.slice a' (n - 1) c') (xs.take k ++ xs.drop (k + 1)) (delL L k) ∧ (∀ b off, a' = some ⟨b, off, none⟩ → w.heap.size ≤ b) ∧ Below w.heap.size w w' := by
  have hv := own_vs h.own h.els.elB.one
  have he := h.els
  have HLN : Hid (L.length = n) := hide hL
  have hnc : n ≤ c := hv.2.1
  have hcm : c ≤ 9223372036854775807 := hv.2.2.1
  have HV1 := hide (hv.front (k := k) (by omega))
  obtain ⟨A2, hA2, hv2⟩ := hv.back (f := k + 1) (by omega)
  have HV2 := hide hv2
  have HE := hide he
  have hb0 : Below w.heap.size w (w.alloc (.cells #[] 26)) := (Below.refl _ w).alloc (Nat.le_refl _) _
  have HO := hide (owns_emptyL w)
  have HVA := hide (HV1.out.below hb0)
  have HB0 := hide hb0
  have hw : IntKind.i64.wrap ((k : Int) + 1) = (k : Int) + 1 := wrapN (by omega) (by omega)
  have q1 : (0 : Int) ≤ (k : Int) := by omega
  have q2 : (k : Int) ≤ (c : Int) := by omega
  have q3 : k ≤ c := by omega
  have q4 : (k : Int) + 1 ≤ (n : Int) := by omega
  have q5 : k + 1 ≤ n := by omega
  have q6 : (0 : Int) ≤ (k : Int) + 1 := by omega
  clear hv hv2 he h hb0 hL
  go_enter Try.func56, Try.ntmps56
  have HST : Hid (∀ (v1 : Value) (w1 : World), w1.ownsRow w.heap.size 26 1 v1 (0 + k) ([] ++ xs.take k) ∧ Below w.heap.size (w.alloc (.cells #[] 26)) w1 → w1.ownsRow w.heap.size 26 1 v1 k (xs.take k) ∧ Below w.heap.size w w1 ∧ Vs w1 (some A2) (n - (k + 1)) (c - (k + 1)) (xs.drop (k + 1))) := hide (fun v1 w1 hN => by
    have h1 := hN.1
    simp only [Nat.zero_add, List.nil_append] at h1
    have hb := HB0.out.trans hN.2
    exact ⟨h1, hb, HV2.out.below hb⟩)
  go_wp2_with (at_builtin; first | (refine wpList_valsL rfl _ _ rfl w.heap.size _ 0 [] rfl HO.out (some ⟨b1, o1, none⟩) k c (xs.take k) rfl HVA.out (by omega) HB0.out.size ?_; intro v1 w1 HN1; have HW1 := hide (HST.out v1 w1 HN1.out); clear HN1) | (refine wpList_valsL rfl _ _ rfl w.heap.size v1 k (xs.take k) rfl HW1.out.1 (some A2) (n - (k + 1)) (c - (k + 1)) (xs.drop (k + 1)) rfl HW1.out.2.2 (by omega) HW1.out.2.1.size ?_; intro v2 w2 HN2))
  have HF : Hid (∃ a' c', v2 = .slice a' (n - 1) c' ∧ RowT w2 base (n - 1) (.slice a' (n - 1) c') (xs.take k ++ xs.drop (k + 1)) (delL L k) ∧ (∀ b off, a' = some ⟨b, off, none⟩ → w.heap.size ≤ b) ∧ Below w.heap.size w w2) := hide (by
    have hb := HW1.out.2.1.trans HN2.out.2
    have ho := HN2.out.1
    rw [show k + (n - (k + 1)) = n - 1 by omega] at ho
    have e := HE.out.below hb
    obtain ⟨a', c', rfl⟩ := own_formN ho
    exact ⟨a', c', rfl, ⟨own_le ho hbs, (e.front k).app (e.back (k + 1))⟩, fun b off e => (ho.lt b (by rw [e]; rfl)).1, hb⟩)
  clear HN2 HW1 HST HVA HO
  obtain ⟨a', c', rfl, hfin⟩ := HF.out
  clear HF
  have HF := hide hfin
  clear hfin
  go_wp2
  go_ret
  exact ⟨a', c', rfl, HF.out⟩
set_option maxHeartbeats 4000000 in
/-- ladingref06.with -/
theorem rwith_T (a : Option Addr) (n c k base : Nat) (ws : List Value) (L : List (List Nat)) (xa : Option Addr) (xn xc : Nat) (x : List Nat) (w : World) (hT : RowT w base n (.slice a n c) ws L) (hL : L.length = n) (hbs : base ≤ w.heap.size) (hn : n ≤ 1000000) (hk : k ≤ n) (hx : IsB w xa xn xc x) (hxn : xn ≤ 2000000) (ha : a = none ∨ ∃ b off, a = some ⟨b, off, none⟩) :
    Calls Try.prog 54 #[.slice a n c, .int .i64 (k : Nat), .slice xa xn xc] w fun e w' => ∃ a' c' zs, e = .returned (.slice a' (n + 1) c') ∧ RowT w' base (n + 1) (.slice a' (n + 1) c') zs (insL L k x) ∧ (∀ b off, a' = some ⟨b, off, none⟩ → w.heap.size ≤ b) ∧ Below w.heap.size w w' := by
  obtain ⟨xs, A1, A2, c2, hxs, hv1, hv2, hnone, hsome⟩ := vs_end (own_vs hT.own hT.els.elB.one) hk
  have hxs' := hxs.symm
  subst hxs'
  have he := hT.els
  have hv := own_vs hT.own hT.els.elB.one
  have HLN : Hid (L.length = n) := hide hL
  have hnc : n ≤ c := hv.2.1
  have hcm : c ≤ 9223372036854775807 := hv.2.2.1
  clear hv
  have HV1 := hide hv1
  have HV2 := hide hv2
  have HE := hide he
  have HX := hide hx
  have hb0 : Below w.heap.size w (w.alloc (.cells #[] 26)) := (Below.refl _ w).alloc (Nat.le_refl _) _
  have HO := hide (owns_emptyL w)
  have HVA := hide (HV1.out.below hb0)
  have HB0 := hide hb0
  have q1 : (0 : Int) ≤ (k : Int) := by omega
  have q2 : (k : Int) ≤ (c : Int) := by omega
  have q3 : k ≤ c := by omega
  have q4 : (k : Int) ≤ (n : Int) := by omega
  have HST : Hid (∀ (v1 : Value) (w1 : World), w1.ownsRow w.heap.size 26 1 v1 (0 + k) ([] ++ xs.take k) ∧ Below w.heap.size (w.alloc (.cells #[] 26)) w1 → w1.ownsRow w.heap.size 26 1 v1 k (xs.take k) ∧ Below w.heap.size w w1) := hide (fun v1 w1 hN => by
    have h1 := hN.1
    simp only [Nat.zero_add, List.nil_append] at h1
    exact ⟨h1, HB0.out.trans hN.2⟩)
  have HRB : Hid (∀ W, Below w.heap.size w W → Calls Try.prog 53 #[.slice xa xn xc] W fun e w' => ∃ a' c', e = .returned (.slice a' xn c') ∧ IsB w' a' xn c' x ∧ NewB w' W.heap.size a' ∧ Below W.heap.size W w') := hide (fun W hW => rbytes_any xa xn xc x W (hx.below hW) (by omega))
  have HBS := hide hbs
  clear hv1 hv2 he hT hx hb0 hL hbs
  rcases ha with rfl | ⟨b1, o1, rfl⟩
  · obtain ⟨rfl, rfl⟩ := hnone rfl
    have HC0 : Hid (c = 0 ∧ n = 0 ∧ k = 0) := hide (by have := HV1.out.2.2.2.1 rfl; omega)
    obtain ⟨rfl, rfl, rfl⟩ := HC0.out
    clear hnone hsome q1 q2 q3 q4 hn hk hnc hcm
    go_enter Try.func54, Try.ntmps54
    go_wp2_with (at_builtin; refine wpList_valsL rfl _ _ rfl w.heap.size _ 0 [] rfl HO.out none 0 0 (xs.take 0) rfl HVA.out (by omega) HB0.out.size ?_; intro v1 w1 HN1)
    have HW1 := hide (HST.out v1 w1 HN1.out)
    clear HN1 HST HVA HO
    go_wp2_with fail
    refine wp_region_held_drew (S := fun _ : World => True) (by kernel_rfl) ?hSwno4 (fun hHeld => ?_)
    case hSwno4 => exact trivial
    refine hTake (i := 0) (v := ?v0wno4) (some 13) rfl rfl (by kernel_rfl) (by kernel_rfl) (by kernel_rfl) (fun _ _ _ h => h) (by rfl) (by assumption) ?hy0wno4 ?hn0wno4
    case hy0wno4 => (intro w hSw; (try dsimp only at hSw); skip; go_simp; try with_reducible rfl)
    try simp only [Act.put, List.setIfInBounds_toArray, List.set_cons_zero, List.set_cons_succ]
    refine hTake (i := 1) (v := ?v1wno4) (some 14) rfl rfl (by kernel_rfl) (by kernel_rfl) (by kernel_rfl) (fun _ _ _ h => h) (by rfl) (by assumption) ?hy1wno4 ?hn1wno4
    case hy1wno4 => (intro w hSw; (try dsimp only at hSw); skip; go_simp; try with_reducible rfl)
    try simp only [Act.put, List.setIfInBounds_toArray, List.set_cons_zero, List.set_cons_succ]
    refine hTake (i := 5) (v := ?v5wno4) (some 18) rfl rfl (by kernel_rfl) (by kernel_rfl) (by kernel_rfl) (fun _ _ _ h => h) (by rfl) (by assumption) ?hy5wno4 ?hn5wno4
    case hy5wno4 => (intro w hSw; (try dsimp only at hSw); skip; go_simp; try with_reducible rfl)
    try simp only [Act.put, List.setIfInBounds_toArray, List.set_cons_zero, List.set_cons_succ]
    refine hTake (i := 6) (v := ?v6wno4) (some 19) rfl rfl (by kernel_rfl) (by kernel_rfl) (by kernel_rfl) (fun _ _ _ h => h) (by rfl) (by assumption) ?hy6wno4 ?hn6wno4
    case hy6wno4 => (intro w hSw; (try dsimp only at hSw); skip; go_simp; try with_reducible rfl)
    try simp only [Act.put, List.setIfInBounds_toArray, List.set_cons_zero, List.set_cons_succ]
    refine hTake (i := 7) (v := ?v7wno4) (some 20) rfl rfl (by kernel_rfl) (by kernel_rfl) (by kernel_rfl) (fun _ _ _ h => h) (by rfl) (by assumption) ?hy7wno4 ?hn7wno4
    case hy7wno4 => (intro w hSw; (try dsimp only at hSw); skip; go_simp; try with_reducible rfl)
    try simp only [Act.put, List.setIfInBounds_toArray, List.set_cons_zero, List.set_cons_succ]
    obtain ⟨Wd, hWd⟩ : ∃ Wd, Wd = w1.drew := ⟨_, rfl⟩
    have HBD : Hid (Below w1.heap.size w1 Wd) := hide (by rw [hWd]; exact (Below.refl _ _).drew)
    rw [← hWd]
    clear hWd
    have HWD : Hid (Wd.ownsRow w.heap.size 26 1 v1 0 (xs.take 0) ∧ Below w.heap.size w Wd) := hide ⟨own_below HW1.out.1 HBD.out, HW1.out.2.trans (HBD.out.mono HW1.out.2.size)⟩
    refine hOne (i := 2) rfl (by kernel_rfl) (fun K hK => ?_)
    go_simp
    refine (HRB.out Wd HWD.out.2).mono ?_
    rintro e w2 ⟨a3, c3, rfl, hI3, hN3, hb2⟩
    have HW2 : Hid (w2.ownsRow w.heap.size 26 1 v1 0 (xs.take 0) ∧ Below w.heap.size w w2 ∧ IsB w2 a3 xn c3 x ∧ NewB w2 w.heap.size a3) := hide ⟨own_below HWD.out.1 hb2, HWD.out.2.trans (hb2.mono HWD.out.2.size), hI3, fun b off e => ⟨Nat.le_trans HWD.out.2.size (hN3 b off e).1, (hN3 b off e).2⟩⟩
    clear hI3 hN3 hb2
    refine hK.out _ _ (trivial) (fun hHeld => ?_)
    clear hK K
    try simp only [Act.put, List.setIfInBounds_toArray, List.set_cons_zero, List.set_cons_succ]
    obtain ⟨w3, hw3⟩ : ∃ W, W = w2.alloc (.cells #[.slice a3 xn c3] 26) := ⟨_, rfl⟩
    have HB3 : Hid (Below w2.heap.size w2 w3) := hide (by rw [hw3]; exact (Below.refl _ _).alloc (Nat.le_refl _) _)
    have HQ3 : Hid (w3.heap[w2.heap.size]? = some (.cells #[.slice a3 xn c3] 26 (0, 0))) := hide (by rw [hw3]; exact heap_alloc_new _ _)
    refine hOne (i := 3) rfl (by kernel_rfl) (fun K hK => ?_)
    go_simp
    rw [← hw3]
    clear hw3
    refine hK.out _ _ (trivial) (fun hHeld => ?_)
    clear hK K
    try simp only [Act.put, List.setIfInBounds_toArray, List.set_cons_zero, List.set_cons_succ]
    have HW3 : Hid (w3.ownsRow w.heap.size 26 1 v1 0 (xs.take 0) ∧ Below w.heap.size w w3 ∧ IsB w3 a3 xn c3 x) := hide ⟨own_below HW2.out.1 HB3.out, HW2.out.2.1.trans (HB3.out.mono HW2.out.2.1.size), HW2.out.2.2.1.below HB3.out⟩
    have HT3 : Hid (NewB w3 w.heap.size a3) := hide (HW2.out.2.2.2.below HB3.out)
    refine hOne (i := 4) rfl (by kernel_rfl) (fun K hK => ?_)
    rw [if_pos (by rfl)]
    refine wp_valsL _ _ rfl w.heap.size v1 0 (xs.take 0) rfl HW3.out.1 (some ⟨w2.heap.size, 0, none⟩) 1 1 [.slice a3 xn c3] rfl (vs_one HQ3.out rfl) (by omega) HW3.out.2.1.size ?_
    intro v4 w4 HN4
    have HW4 : Hid (w4.ownsRow w.heap.size 26 1 v4 (0 + 1) (xs.take 0 ++ [.slice a3 xn c3]) ∧ Below w.heap.size w w4 ∧ IsB w4 a3 xn c3 x) := hide (by
      refine ⟨HN4.out.1, HW3.out.2.1.grown HN4.out.2 HW3.out.2.1.size (fun g hg => (HW3.out.1.lt g hg).1), HW3.out.2.2.keptN HN4.out.2.size (fun b off e => ?_)⟩
      obtain ⟨hge, cs, f, hb⟩ := HT3.out b off e
      refine HN4.out.2.block b (heap_ltN hb) (fun e2 => ?_)
      rcases HW3.out.1.2 with ⟨rfl, _⟩ | ⟨g, cap, cur, rfl, _, h2, _⟩
      · cases e2
      · have e' : b = g := by simpa [Value.ownBlock] using e2
        rw [e', h2] at hb
        cases hb)
    have HT4 : Hid (NewB w4 w.heap.size a3) := hide (fun b off e => by
      obtain ⟨hge, cs, f, hb⟩ := HT3.out b off e
      refine ⟨hge, cs, f, (HN4.out.2.block b (heap_ltN hb) (fun e2 => ?_)).trans hb⟩
      rcases HW3.out.1.2 with ⟨rfl, _⟩ | ⟨g, cap, cur, rfl, _, h2, _⟩
      · cases e2
      · have e' : b = g := by simpa [Value.ownBlock] using e2
        rw [e', h2] at hb
        cases hb)
    clear HN4
    refine hK.out _ _ trivial (fun hHeld => ?_)
    clear hK K
    try simp only [Act.put, List.setIfInBounds_toArray, List.set_cons_zero, List.set_cons_succ]
    refine hOne (i := 8) rfl (by kernel_rfl) (fun K hK => ?_)
    rw [if_pos (by rfl)]
    refine wp_valsL _ _ rfl w.heap.size v4 (0 + 1) _ rfl HW4.out.1 none (0 - 0) 0 (xs.drop 0) rfl (HV2.out.below HW4.out.2.1) (by omega) HW4.out.2.1.size ?_
    intro v5 w5 HN5
    have HF : Hid (∃ a' c' zs, v5 = .slice a' (0 + 1) c' ∧ RowT w5 base (0 + 1) (.slice a' (0 + 1) c') zs (insL L 0 x) ∧ (∀ b off, a' = some ⟨b, off, none⟩ → w.heap.size ≤ b) ∧ Below w.heap.size w w5) := hide (by
      have hb := HW4.out.2.1.grown HN5.out.2 HW4.out.2.1.size (fun g hg => (HW4.out.1.lt g hg).1)
      have ho := HN5.out.1
      rw [show 0 + 1 + (0 - 0) = 0 + 1 by omega] at ho
      have hB5 : IsB w5 a3 xn c3 x := HW4.out.2.2.keptN HN5.out.2.size (fun b off e => by
        obtain ⟨hge, cs, f, hbb⟩ := HT4.out b off e
        refine HN5.out.2.block b (heap_ltN hbb) (fun e2 => ?_)
        rcases HW4.out.1.2 with ⟨rfl, _⟩ | ⟨g, cap, cur, rfl, _, h2, _⟩
        · cases e2
        · have e' : b = g := by simpa [Value.ownBlock] using e2
          rw [e', h2] at hbb
          cases hbb)
      have hN5 : NewB w5 base a3 := fun b off e => by
        obtain ⟨hge, cs, f, hbb⟩ := HT4.out b off e
        refine ⟨Nat.le_trans HBS.out hge, cs, f, (HN5.out.2.block b (heap_ltN hbb) (fun e2 => ?_)).trans hbb⟩
        rcases HW4.out.1.2 with ⟨rfl, _⟩ | ⟨g, cap, cur, rfl, _, h2, _⟩
        · cases e2
        · have e' : b = g := by simpa [Value.ownBlock] using e2
          rw [e', h2] at hbb
          cases hbb
      have e := HE.out.below hb
      have e6 := ((e.front 0).app (ElT.one1 hB5 hN5)).app (e.back 0)
      have e7 : L.take 0 ++ [x] ++ L.drop 0 = insL L 0 x := by unfold insL; simp
      rw [e7] at e6
      obtain ⟨a', c', rfl⟩ := own_formN ho
      exact ⟨a', c', _, rfl, ⟨own_le ho HBS.out, e6⟩, fun b off e => (ho.lt b (by rw [e]; rfl)).1, hb⟩)
    clear HN5
    refine hK.out _ _ trivial (fun hHeld => ?_)
    clear hK K
    try simp only [Act.put, List.setIfInBounds_toArray, List.set_cons_zero, List.set_cons_succ]
    refine hOne (i := 9) rfl (by kernel_rfl) (fun K hK => ?_)
    go_simp
    refine hK.out _ _ (trivial) (fun hHeld => ?_)
    clear hK K
    try simp only [Act.put, List.setIfInBounds_toArray, List.set_cons_zero, List.set_cons_succ]
    refine wpAnyH_done (by kernel_rfl) ?_ _
    clear HW1 HBD HWD HW2 HB3 HQ3 HW3 HT3 HW4 HT4 hHeld
    obtain ⟨a', c', zs, rfl, hfin⟩ := HF.out
    clear HF
    have HF := hide hfin
    clear hfin
    go_wp2
    go_ret
    first | exact ⟨a', c', rfl, zs, HF.out⟩ | exact ⟨a', c', zs, rfl, HF.out⟩
  · obtain ⟨rfl, hA2⟩ := hsome b1 o1 rfl
    clear hnone hsome
    go_enter Try.func54, Try.ntmps54
    go_wp2_with (at_builtin; refine wpList_valsL rfl _ _ rfl w.heap.size _ 0 [] rfl HO.out (some ⟨b1, o1, none⟩) k c (xs.take k) rfl HVA.out (by omega) HB0.out.size ?_; intro v1 w1 HN1)
    have HW1 := hide (HST.out v1 w1 HN1.out)
    clear HN1 HST HVA HO
    go_wp2_with fail
    refine wp_region_held_drew (S := fun _ : World => True) (by kernel_rfl) ?hSws21 (fun hHeld => ?_)
    case hSws21 => exact trivial
    refine hTake (i := 0) (v := ?v0ws21) (some 13) rfl rfl (by kernel_rfl) (by kernel_rfl) (by kernel_rfl) (fun _ _ _ h => h) (by rfl) (by assumption) ?hy0ws21 ?hn0ws21
    case hy0ws21 => (intro w hSw; (try dsimp only at hSw); skip; go_simp; try with_reducible rfl)
    try simp only [Act.put, List.setIfInBounds_toArray, List.set_cons_zero, List.set_cons_succ]
    refine hTake (i := 1) (v := ?v1ws21) (some 14) rfl rfl (by kernel_rfl) (by kernel_rfl) (by kernel_rfl) (fun _ _ _ h => h) (by rfl) (by assumption) ?hy1ws21 ?hn1ws21
    case hy1ws21 => (intro w hSw; (try dsimp only at hSw); skip; go_simp; try with_reducible rfl)
    try simp only [Act.put, List.setIfInBounds_toArray, List.set_cons_zero, List.set_cons_succ]
    refine hTake (i := 5) (v := ?v5ws21) (some 18) rfl rfl (by kernel_rfl) (by kernel_rfl) (by kernel_rfl) (fun _ _ _ h => h) (by rfl) (by assumption) ?hy5ws21 ?hn5ws21
    case hy5ws21 => (intro w hSw; (try dsimp only at hSw); skip; go_simp; try with_reducible rfl)
    try simp only [Act.put, List.setIfInBounds_toArray, List.set_cons_zero, List.set_cons_succ]
    refine hTake (i := 6) (v := ?v6ws21) (some 19) rfl rfl (by kernel_rfl) (by kernel_rfl) (by kernel_rfl) (fun _ _ _ h => h) (by rfl) (by assumption) ?hy6ws21 ?hn6ws21
    case hy6ws21 => (intro w hSw; (try dsimp only at hSw); skip; go_simp; try with_reducible rfl)
    try simp only [Act.put, List.setIfInBounds_toArray, List.set_cons_zero, List.set_cons_succ]
    refine hTake (i := 7) (v := ?v7ws21) (some 20) rfl rfl (by kernel_rfl) (by kernel_rfl) (by kernel_rfl) (fun _ _ _ h => h) (by rfl) (by assumption) ?hy7ws21 ?hn7ws21
    case hy7ws21 => (intro w hSw; (try dsimp only at hSw); skip; go_simp; try with_reducible rfl)
    try simp only [Act.put, List.setIfInBounds_toArray, List.set_cons_zero, List.set_cons_succ]
    obtain ⟨Wd, hWd⟩ : ∃ Wd, Wd = w1.drew := ⟨_, rfl⟩
    have HBD : Hid (Below w1.heap.size w1 Wd) := hide (by rw [hWd]; exact (Below.refl _ _).drew)
    rw [← hWd]
    clear hWd
    have HWD : Hid (Wd.ownsRow w.heap.size 26 1 v1 k (xs.take k) ∧ Below w.heap.size w Wd) := hide ⟨own_below HW1.out.1 HBD.out, HW1.out.2.trans (HBD.out.mono HW1.out.2.size)⟩
    refine hOne (i := 2) rfl (by kernel_rfl) (fun K hK => ?_)
    go_simp
    refine (HRB.out Wd HWD.out.2).mono ?_
    rintro e w2 ⟨a3, c3, rfl, hI3, hN3, hb2⟩
    have HW2 : Hid (w2.ownsRow w.heap.size 26 1 v1 k (xs.take k) ∧ Below w.heap.size w w2 ∧ IsB w2 a3 xn c3 x ∧ NewB w2 w.heap.size a3) := hide ⟨own_below HWD.out.1 hb2, HWD.out.2.trans (hb2.mono HWD.out.2.size), hI3, fun b off e => ⟨Nat.le_trans HWD.out.2.size (hN3 b off e).1, (hN3 b off e).2⟩⟩
    clear hI3 hN3 hb2
    refine hK.out _ _ (trivial) (fun hHeld => ?_)
    clear hK K
    try simp only [Act.put, List.setIfInBounds_toArray, List.set_cons_zero, List.set_cons_succ]
    obtain ⟨w3, hw3⟩ : ∃ W, W = w2.alloc (.cells #[.slice a3 xn c3] 26) := ⟨_, rfl⟩
    have HB3 : Hid (Below w2.heap.size w2 w3) := hide (by rw [hw3]; exact (Below.refl _ _).alloc (Nat.le_refl _) _)
    have HQ3 : Hid (w3.heap[w2.heap.size]? = some (.cells #[.slice a3 xn c3] 26 (0, 0))) := hide (by rw [hw3]; exact heap_alloc_new _ _)
    refine hOne (i := 3) rfl (by kernel_rfl) (fun K hK => ?_)
    go_simp
    rw [← hw3]
    clear hw3
    refine hK.out _ _ (trivial) (fun hHeld => ?_)
    clear hK K
    try simp only [Act.put, List.setIfInBounds_toArray, List.set_cons_zero, List.set_cons_succ]
    have HW3 : Hid (w3.ownsRow w.heap.size 26 1 v1 k (xs.take k) ∧ Below w.heap.size w w3 ∧ IsB w3 a3 xn c3 x) := hide ⟨own_below HW2.out.1 HB3.out, HW2.out.2.1.trans (HB3.out.mono HW2.out.2.1.size), HW2.out.2.2.1.below HB3.out⟩
    have HT3 : Hid (NewB w3 w.heap.size a3) := hide (HW2.out.2.2.2.below HB3.out)
    refine hOne (i := 4) rfl (by kernel_rfl) (fun K hK => ?_)
    rw [if_pos (by rfl)]
    refine wp_valsL _ _ rfl w.heap.size v1 k (xs.take k) rfl HW3.out.1 (some ⟨w2.heap.size, 0, none⟩) 1 1 [.slice a3 xn c3] rfl (vs_one HQ3.out rfl) (by omega) HW3.out.2.1.size ?_
    intro v4 w4 HN4
    have HW4 : Hid (w4.ownsRow w.heap.size 26 1 v4 (k + 1) (xs.take k ++ [.slice a3 xn c3]) ∧ Below w.heap.size w w4 ∧ IsB w4 a3 xn c3 x) := hide (by
      refine ⟨HN4.out.1, HW3.out.2.1.grown HN4.out.2 HW3.out.2.1.size (fun g hg => (HW3.out.1.lt g hg).1), HW3.out.2.2.keptN HN4.out.2.size (fun b off e => ?_)⟩
      obtain ⟨hge, cs, f, hb⟩ := HT3.out b off e
      refine HN4.out.2.block b (heap_ltN hb) (fun e2 => ?_)
      rcases HW3.out.1.2 with ⟨rfl, _⟩ | ⟨g, cap, cur, rfl, _, h2, _⟩
      · cases e2
      · have e' : b = g := by simpa [Value.ownBlock] using e2
        rw [e', h2] at hb
        cases hb)
    have HT4 : Hid (NewB w4 w.heap.size a3) := hide (fun b off e => by
      obtain ⟨hge, cs, f, hb⟩ := HT3.out b off e
      refine ⟨hge, cs, f, (HN4.out.2.block b (heap_ltN hb) (fun e2 => ?_)).trans hb⟩
      rcases HW3.out.1.2 with ⟨rfl, _⟩ | ⟨g, cap, cur, rfl, _, h2, _⟩
      · cases e2
      · have e' : b = g := by simpa [Value.ownBlock] using e2
        rw [e', h2] at hb
        cases hb)
    clear HN4
    refine hK.out _ _ trivial (fun hHeld => ?_)
    clear hK K
    try simp only [Act.put, List.setIfInBounds_toArray, List.set_cons_zero, List.set_cons_succ]
    refine hOne (i := 8) rfl (by kernel_rfl) (fun K hK => ?_)
    rw [if_pos (by rfl)]
    refine wp_valsL _ _ rfl w.heap.size v4 (k + 1) _ rfl HW4.out.1 A2 (n - k) (c - k) (xs.drop k) rfl (HV2.out.below HW4.out.2.1) (by omega) HW4.out.2.1.size ?_
    intro v5 w5 HN5
    have HF : Hid (∃ a' c' zs, v5 = .slice a' (n + 1) c' ∧ RowT w5 base (n + 1) (.slice a' (n + 1) c') zs (insL L k x) ∧ (∀ b off, a' = some ⟨b, off, none⟩ → w.heap.size ≤ b) ∧ Below w.heap.size w w5) := hide (by
      have hb := HW4.out.2.1.grown HN5.out.2 HW4.out.2.1.size (fun g hg => (HW4.out.1.lt g hg).1)
      have ho := HN5.out.1
      rw [show k + 1 + (n - k) = n + 1 by omega] at ho
      have hB5 : IsB w5 a3 xn c3 x := HW4.out.2.2.keptN HN5.out.2.size (fun b off e => by
        obtain ⟨hge, cs, f, hbb⟩ := HT4.out b off e
        refine HN5.out.2.block b (heap_ltN hbb) (fun e2 => ?_)
        rcases HW4.out.1.2 with ⟨rfl, _⟩ | ⟨g, cap, cur, rfl, _, h2, _⟩
        · cases e2
        · have e' : b = g := by simpa [Value.ownBlock] using e2
          rw [e', h2] at hbb
          cases hbb)
      have hN5 : NewB w5 base a3 := fun b off e => by
        obtain ⟨hge, cs, f, hbb⟩ := HT4.out b off e
        refine ⟨Nat.le_trans HBS.out hge, cs, f, (HN5.out.2.block b (heap_ltN hbb) (fun e2 => ?_)).trans hbb⟩
        rcases HW4.out.1.2 with ⟨rfl, _⟩ | ⟨g, cap, cur, rfl, _, h2, _⟩
        · cases e2
        · have e' : b = g := by simpa [Value.ownBlock] using e2
          rw [e', h2] at hbb
          cases hbb
      have e := HE.out.below hb
      have e6 := ((e.front k).app (ElT.one1 hB5 hN5)).app (e.back k)
      have e7 : L.take k ++ [x] ++ L.drop k = insL L k x := by unfold insL; simp
      rw [e7] at e6
      obtain ⟨a', c', rfl⟩ := own_formN ho
      exact ⟨a', c', _, rfl, ⟨own_le ho HBS.out, e6⟩, fun b off e => (ho.lt b (by rw [e]; rfl)).1, hb⟩)
    clear HN5
    refine hK.out _ _ trivial (fun hHeld => ?_)
    clear hK K
    try simp only [Act.put, List.setIfInBounds_toArray, List.set_cons_zero, List.set_cons_succ]
    refine hOne (i := 9) rfl (by kernel_rfl) (fun K hK => ?_)
    go_simp
    refine hK.out _ _ (trivial) (fun hHeld => ?_)
    clear hK K
    try simp only [Act.put, List.setIfInBounds_toArray, List.set_cons_zero, List.set_cons_succ]
    refine wpAnyH_done (by kernel_rfl) ?_ _
    clear HW1 HBD HWD HW2 HB3 HQ3 HW3 HT3 HW4 HT4 hHeld
    obtain ⟨a', c', zs, rfl, hfin⟩ := HF.out
    clear HF
    have HF := hide hfin
    clear hfin
    go_wp2
    go_ret
    first | exact ⟨a', c', rfl, zs, HF.out⟩ | exact ⟨a', c', zs, rfl, HF.out⟩
end Go.Proofs.Ytebikoekpbnpbaa
