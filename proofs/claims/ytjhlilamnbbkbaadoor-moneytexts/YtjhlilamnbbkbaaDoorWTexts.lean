/- the document's Parse, of any text; the walk of MoneyTexts -/
import Derived.Test.YtjhlilamnbbkbaaDoorR5
namespace Go.Proofs.YtjhlilamnbbkbaaDoor
open Go.RowKit Go.Shelf Go.Sort Go.Lib
set_option maxRecDepth 20000 in
set_option maxHeartbeats 400000 in
theorem refParse_short (T : List UInt8) (w : World) (h4 : T.length < 4) (h0 : T.getD 0 0 ≠ 45) :
    Calls Tryd.prog 27 #[.string ⟨T.toArray⟩] w fun e w' => e = .returned (.tuple #[.int .i64 (parB T false).1, .int .i64 (parB T false).2]) ∧ Below w.heap.size w w' := by
  have HB := hide (parB_bad T false (.inl (.inl h4)))
  have hsz : (⟨T.toArray⟩ : ByteArray).size = T.length := by simp [ByteArray.size]
  have h4' : (T.length : Int) < 4 := by omega
  by_cases hn : 0 < T.length
  · obtain ⟨x0, hx0⟩ : ∃ x, x = (T.getD 0 0).toNat := ⟨_, rfl⟩
    have i0 : ((⟨T.toArray⟩ : ByteArray)[0]'(by rw [hsz]; omega)).toNat = x0 := by rw [at_str, hx0]
    have t45 : ((x0 : Int) == 45) = false := by
      have : x0 ≠ 45 := fun h => h0 ((u8_eq _ 45 (by decide)).2 (by omega))
      simp; omega
    clear h0 hx0
    go_enter Tryd.func27, Tryd.ntmps27
    go_wp2
    go_ret2
    exact ⟨by rw [HB.out]; rfl, Below.refl _ _⟩
  · obtain rfl : T = [] := List.length_eq_zero_iff.1 (by omega)
    clear h0 hsz hn h4 h4'
    generalize parB [] false = PP at *
    obtain rfl := HB.out
    go_enter Tryd.func27, Tryd.ntmps27
    go_wp2
    go_ret2
    exact ⟨rfl, Below.refl _ _⟩
set_option maxHeartbeats 400000 in
theorem refParse_brief (T : List UInt8) (w : World) (h4 : T.length < 4) (s : ByteArray) (hsL : s.size = T.length + 1) (iL0 : ∀ h, (s[0]'h).toNat = 45) (eL : s.extract 1 (T.length + 1) = ⟨T.toArray⟩) :
    Calls Tryd.prog 27 #[.string s] w fun e w' => e = .returned (.tuple #[.int .i64 (parB T true).1, .int .i64 (parB T true).2]) ∧ Below w.heap.size w w' := by
  have HB := hide (parB_bad T true (.inl (.inl h4)))
  have iL : (s[0]'(by rw [hsL]; omega)).toNat = 45 := iL0 _
  clear iL0
  have hsz : (⟨T.toArray⟩ : ByteArray).size = T.length := by simp [ByteArray.size]
  have h4' : (T.length : Int) < 4 := by omega
  go_enter Tryd.func27, Tryd.ntmps27
  go_wp2
  go_ret2
  exact ⟨by rw [HB.out]; rfl, Below.refl _ _⟩
/-- ladingref01.Parse -/
theorem refParse_any (L : List UInt8) (hL : L.length ≤ 140737488355328) (w : World) :
    Calls Tryd.prog 27 #[.string ⟨L.toArray⟩] w fun e w' => e = .returned (.tuple #[.int .i64 (par L).1, .int .i64 (par L).2]) ∧ Below w.heap.size w w' := by
  cases hp : hasPrefix L [45] with
  | true =>
    have hLb := pre_back L hp
    unfold par
    rw [hp]
    have e1 : (⟨L.toArray⟩ : ByteArray).size = (trimPrefix L [45]).length + 1 := by
      have := congrArg List.length hLb
      simp only [List.length_cons] at this
      simp [ByteArray.size]; omega
    have e2 : ∀ h, ((⟨L.toArray⟩ : ByteArray)[0]'h).toNat = 45 := by
      intro h
      rw [at_str, hLb]; rfl
    have e3 : (⟨L.toArray⟩ : ByteArray).extract 1 ((trimPrefix L [45]).length + 1) = ⟨(trimPrefix L [45]).toArray⟩ := by
      have h1 : (trimPrefix L [45]).length + 1 = L.length := by rw [← e1]; simp [ByteArray.size]
      rw [h1, ext_drop]
      have h2 : L.drop 1 = trimPrefix L [45] := by
        unfold trimPrefix; rw [if_pos hp]; rfl
      rw [h2]
    have hl := trim_len L
    by_cases h4 : (trimPrefix L [45]).length < 4
    · exact refParse_brief _ w h4 _ e1 e2 e3
    · exact refParse_down _ (by omega) w (by omega) _ e1 e2 e3
  | false =>
    unfold par
    rw [hp]
    have e : trimPrefix L [45] = L := by unfold trimPrefix; rw [hp]; rfl
    rw [e]
    have h0 : L.getD 0 0 ≠ 45 := by
      cases L with
      | nil => decide
      | cons x r =>
        intro h
        have hx : x = 45 := by simpa using h
        subst hx
        simp [hasPrefix, List.isPrefixOf] at hp
    by_cases h4 : L.length < 4
    · exact refParse_short L w h4 h0
    · exact refParse_up L hL w (by omega) h0
set_option maxHeartbeats 1000000 in
/-- ladinglaw01.MoneyTexts -/
theorem texts_any (n : Int) (L : List UInt8) (w : World) (htab : POW w) (hn : In64 n) (hL : L.length ≤ 140737488355328) :
    Calls Tryd.prog 6 #[.int .i64 n, .string ⟨L.toArray⟩] w fun e w' => e = .returned (.bool true) ∧ Below w.heap.size w w' := by
  have HT := hide htab
  clear htab
  have X1 := hide (fun W hW => text_any n hn W hW)
  have X2 := hide (fun W => refText_any n hn W)
  have P1 := hide (fun W => parse_any L hL W)
  have P2 := hide (fun W => refParse_any L hL W)
  clear hn hL
  generalize txt n = T at *
  generalize (par L).1 = k at *
  generalize (par L).2 = e1 at *
  have t1 : (k == k) = true := by simp
  have t2 : (e1 == e1) = true := by simp
  go_enter Tryd.func6, Tryd.ntmps6
  go_wp2_with fail
  refine (P1.out _).mono ?_
  rintro e w1 ⟨rfl, h1⟩
  go_wp2_with fail
  refine (P2.out _).mono ?_
  rintro e w2 ⟨rfl, h2⟩
  replace h1 := h1.trans (h2.mono h1.size)
  clear h2
  go_wp2_with fail
  refine (lives_any _ (POW.below HT.out h1)).mono ?_
  rintro e w3 ⟨rfl, h2⟩
  replace h1 := h1.trans (h2.mono h1.size)
  clear h2
  go_wp2_with fail
  refine (X1.out _ (POW.below HT.out h1)).mono ?_
  rintro e w4 ⟨rfl, h2⟩
  replace h1 := h1.trans (h2.mono h1.size)
  clear h2
  go_wp2_with fail
  refine (X2.out _).mono ?_
  rintro e w' ⟨rfl, rfl⟩
  go_wp2
  go_ret
  exact ⟨rfl, h1⟩
end Go.Proofs.YtjhlilamnbbkbaaDoor
