/- the walk of MoneyShares -/
import Derived.Test.YtjhlilamnbbkbaaDoorS5
import Derived.Laws.AppendOwnNone
namespace Go.Proofs.YtjhlilamnbbkbaaDoor
open Go.RowKit Go.Shelf Go.Sort Go.Lib
theorem adr_add (b off j : Nat) : (⟨b, off, none⟩ : Addr).add j = ⟨b, off + j, none⟩ := by
  unfold Addr.add; by_cases h : j = 0 <;> simp [h]
theorem iv_len (m : List Int) : (iv m).length = m.length := by simp [iv]
theorem iv_one (m : List Int) : ∀ u ∈ iv m, u.oneCell' = true := by
  intro u hu
  simp only [iv, List.mem_map] at hu
  obtain ⟨x, _, rfl⟩ := hu
  rfl
/-- append(own, l...), l whatever came in -/
theorem wpList_clone {w : World} {ops : Array Oper} {rest : List Oper} {o : Oper} {a : Act} {Q : Exit → Act → World → Prop} (hgd : o.guard = none) (s x : Operand)
    (ho : o.op = .call { callee := .builtin .append, args := #[s, x], argTypes := #[22, 22] }) (base : Nat) (v : Value) (n : Nat) (xs : List Value) (hs : a.eval s = v) (hown : w.ownsRow base 2 1 v n xs)
    (src : Option Addr) (len cap : Nat) (l : List Int) (hx : a.eval x = .slice src len cap) (hB : IsI w src len cap l) (hb : n + len ≤ 17592186044416) (hbase : base ≤ w.heap.size)
    (B : Nat) (w0 : World) (hbel : Below B w0 w) (hB0 : B ≤ base)
    (h : ∀ v' w', w'.ownsRow base 2 1 v' (n + len) (xs ++ iv l) → Below B w0 w' → wpList Tryd.prog ops Q rest (a.put o.dst v') w') : wpList Tryd.prog ops Q (o :: rest) a w := by
  obtain ⟨i0, hi, hz0, hz1, hz2⟩ := info_parts Tryd.info2
  obtain ⟨h1, h2, h3, h4, h5⟩ := id hB
  have key : ∀ ad : Addr, src = some ad → (∀ j u, (iv l)[j]? = some u → w.cell? (ad.add j) = some u) → wpList Tryd.prog ops Q (o :: rest) a w := by
    intro ad had hsrc
    refine wpList_append_own w hgd s x 22 ho base 2 i0 (.int .i64 0) 1 8 Tryd.underlying22 hi hz0 hz1 hz2 rfl (by decide) v n xs hs hown ad len cap (iv l) (by rw [hx, had]) (by rw [iv_len, h1]; omega) hsrc (iv_one l) (by unfold maxLen; omega) (by omega) hbase ?_
    intro v' w' ho' hg _
    refine h v' w' ho' (hbel.grown hg (by omega) ?_)
    intro k hk
    have := (hown.lt k hk).1
    omega
  rcases h5 with ⟨h5, h6⟩ | ⟨b, off, rfl, hlt, hc⟩
  · subst h5
    obtain rfl : l = [] := List.length_eq_zero_iff.1 h1
    cases src with
    | none =>
      obtain rfl := h6 rfl
      refine wpList_append_own_none hgd s x 22 ho base 2 i0 1 Tryd.underlying22 hi v n xs hs hown hx ?_
      exact h v w (by simpa [iv] using hown) hbel
    | some ad => exact key ad rfl (by simp [iv])
  · refine key _ rfl ?_
    intro j u hj
    have hjl : j < l.length := by
      rw [← iv_len]
      exact (List.getElem?_eq_some_iff.1 hj).1
    rw [iv_get l j hjl] at hj
    cases hj
    rw [adr_add]
    exact hc j (by omega)
theorem owns_empty (w : World) (base : Nat) (h : base ≤ w.heap.size) : (w.alloc (.cells #[] 2)).ownsRow base 2 1 (.slice (some ⟨w.heap.size, 0, none⟩) 0 0) 0 [] :=
  World.ownsRow_made w #[] 0 h (Nat.zero_le _) rfl
/-- what is owned reads -/
theorem own_isI {w : World} {base n : Nat} {v : Value} {m : List Int} (h : w.ownsRow base 2 1 v n (iv m)) (hx : ∀ x ∈ m, -9223372036854775808 ≤ x ∧ x ≤ 9223372036854775807) : ∃ a c, v = .slice a n c ∧ IsI w a n c m := by
  obtain ⟨h1, h2⟩ := id h
  rcases h2 with ⟨rfl, rfl⟩ | ⟨g, c, cur, h3, h4, h5, h6, h7, h8, h9⟩
  · obtain rfl : m = [] := List.length_eq_zero_iff.1 (by simpa [iv] using h1)
    exact ⟨none, 0, rfl, rfl, Nat.le_refl _, Nat.zero_le _, by simp, .inl ⟨rfl, fun _ => rfl⟩⟩
  · have hr : RowI w g n c m := ⟨by simpa [iv] using h1, h6, h7, cur, h5, by simpa using h8, by simpa using h9⟩
    exact ⟨_, c, h3, hr.isI hx⟩
set_option maxHeartbeats 1000000 in
set_option maxRecDepth 20000 in
/-- ladinglaw01.MoneyShares -/
theorem shares_any (T : Int) (s : Option Addr) (len cap : Nat) (l : List Int) (w : World) (htab : POW w) (hT : In64 T) (hl : IsI w s len cap l) (hlen : len ≤ 17592186044416) :
    Calls Tryd.prog 5 #[.int .i64 T, .slice s len cap] w fun e w' => e = .returned (.bool true) ∧ Below w.heap.size w w' := by
  have HT := hide htab
  have hlb := hl.2.2.2.1
  have hl0 := (hl.below ((Below.refl _ w).alloc (Nat.le_refl _) (.cells #[] 2)))
  clear htab
  go_enter Tryd.func5, Tryd.ntmps5
  go_wp2_with (at_builtin; refine wpList_clone rfl _ _ rfl w.heap.size _ 0 [] rfl (owns_empty w w.heap.size (Nat.le_refl _)) s len cap l rfl hl0 (by omega) (by simp) w.heap.size w ((Below.refl _ w).alloc (Nat.le_refl _) _) (Nat.le_refl _) ?_)
  intro v' w1 hown h1
  obtain ⟨a2, c2, rfl, hg⟩ := own_isI hown hlb
  clear hl0 hown
  have hl1 := hl.below h1
  by_cases hbad : shErr T l = 0
  · obtain ⟨k1, k2, k3, k4⟩ := shErr_ok hbad
    have hsb := share_bd hT k2 k3
    have SG := hide (share_good T a2 len c2 l w1 hT hg hbad)
    go_wp2_with fail
    refine SG.out.mono ?_
    rintro e w2 ⟨g, rfl, hr2, hg2, hb2⟩
    have hg3 := hg.below hb2
    have hl2 := hl1.below hb2
    have h2 := h1.trans (hb2.mono h1.size)
    clear SG hg hl1
    go_wp2_with fail
    refine (refShare_any T s len cap l w2 hT hl2).mono ?_
    rintro e w3 (⟨hb, _⟩ | ⟨_, g', c', rfl, hr3, hg4, hb3⟩)
    · exact absurd hbad hb
    have hr2' := hr2.below hb3 hr2.lt
    have hg5 := hg3.below hb3
    have hl3 := hl2.below hb3
    have h3 := h2.trans (hb3.mono h2.size)
    clear hr2 hg3 hl2 hb3 hb2 h1 h2 hl
    go_wp2_with fail
    refine (lives_any _ (POW.below HT.out h3)).mono ?_
    rintro e w4 ⟨rfl, hb4⟩
    have h4 := h3.trans (hb4.mono h3.size)
    have ha := (hr2'.below hb4 hr2'.lt).isI hsb
    have hc := (hr3.below hb4 hr3.lt).isI hsb
    have hg6 := hg5.below hb4
    have hl4 := hl3.below hb4
    clear hr2' hr3 hg5 hl3 hb4 h3
    go_wp2_with fail
    refine (same_any _ _ _ _ _ _ _ _ ha hc hlen).mono ?_
    rintro e w5 ⟨rfl, hb5⟩
    have h5 := h4.trans (hb5.mono h4.size)
    have hg7 := hg6.below hb5
    have hl5 := hl4.below hb5
    clear ha hc hg6 hl4 hb5 h4
    go_wp2_with fail
    refine (same_any _ _ _ _ _ _ _ _ hg7 hl5 hlen).mono ?_
    rintro e w6 ⟨rfl, hb6⟩
    have h6 := h5.trans (hb6.mono h5.size)
    go_wp2
    go_ret
    exact ⟨rfl, h6⟩
  · have SB := hide (share_bad T a2 len c2 l w1 hg hlen hbad)
    go_wp2_with fail
    refine SB.out.mono ?_
    rintro e w' ⟨rfl, rfl⟩
    clear SB
    go_wp2_with fail
    refine (refShare_any T s len cap l _ hT hl1).mono ?_
    rintro e w3 (⟨_, rfl, rfl⟩ | ⟨hb, _⟩)
    rotate_left
    · exact absurd hb hbad
    generalize shErr T l = E at *
    have tE : (E == E) = true := by simp
    go_wp2_with fail
    refine (lives_any _ (POW.below HT.out h1)).mono ?_
    rintro e w4 ⟨rfl, hb4⟩
    have h4 := h1.trans (hb4.mono h1.size)
    have hg6 := hg.below hb4
    have hl4 := hl1.below hb4
    clear hg hl1 hb4 h1
    go_wp2_with fail
    refine (same_none _ _ _ _ _).mono ?_
    rintro e w5 ⟨rfl, hb5⟩
    have h5 := h4.trans (hb5.mono h4.size)
    have hg7 := hg6.below hb5
    have hl5 := hl4.below hb5
    clear hg6 hl4 hb5 h4
    go_wp2_with fail
    refine (same_any _ _ _ _ _ _ _ _ hg7 hl5 hlen).mono ?_
    rintro e w6 ⟨rfl, hb6⟩
    have h6 := h5.trans (hb6.mono h5.size)
    go_wp2
    go_ret
    exact ⟨rfl, h6⟩
end Go.Proofs.YtjhlilamnbbkbaaDoor
