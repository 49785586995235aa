/- the walk of CrcFrames -/
import Derived.Test.YtmfdcbbeieelfaaI
namespace Go.Proofs.Ytmfdcbbeieelfaa
open Go.RowKit
set_option maxHeartbeats 400000 in
theorem frames_short (a : Option Addr) (len cap : Nat) (l : List Nat) (w : World) (h : IsB w a len cap l) (hr : cap ≤ 140737488351232) (hlt : len < 4) :
    Calls Try.prog 5 #[.slice a len cap] w fun e w' => e = .returned (.bool true) ∧ Below w.heap.size w w' := by
  have hcl : len ≤ cap := h.2.1
  have hx := h.2.2.2.1
  go_enter Try.func5, Try.ntmps5
  go_wp2_with fail
  refine (open_short a len cap hlt _).mono ?_
  rintro e w' ⟨rfl, rfl⟩
  go_wp2_with fail
  refine (refOpen_short a len cap hlt _).mono ?_
  rintro e w2 ⟨rfl, rfl⟩
  obtain ⟨w, rfl⟩ : ∃ w, w = w2 := ⟨_, rfl⟩
  have h2 : Below w.heap.size w w := Below.refl _ _
  have hA2 : IsB w none 0 0 [] := isB_nil w
  have hC2 : IsB w none 0 0 [] := isB_nil w
  go_wp2_with fail
  refine (lives_any _).mono ?_
  rintro e w3 ⟨rfl, hb3⟩
  have h3 : Below w.heap.size w w3 := h2.trans (hb3.mono h2.size)
  have hA3 := hA2.below hb3
  have hC3 := hC2.below hb3
  clear hb3 hA2 hC2 h2
  go_wp2_with fail
  refine (seal_any a len cap l _ (h.below h3) (by omega)).mono ?_
  rintro e w4 ⟨g, rfl, hown4, hb4⟩
  have h4 : Below w.heap.size w w4 := h3.trans (hb4.mono h3.size)
  have hA4 := hA3.below hb4
  have hC4 := hC3.below hb4
  obtain ⟨a4, c4, hv4, hS4⟩ := owns_isB hown4 (mem_app _ hx)
  cases hv4
  clear hb4 hA3 hC3 h3 hown4
  go_wp2_with fail
  refine (refSeal_any a len cap l _ (h.below h4) hr).mono ?_
  rintro e w5 ⟨v5, rfl, hown5, hb5⟩
  have h5 : Below w.heap.size w w5 := h4.trans (hb5.mono h4.size)
  have hA5 := hA4.below hb5
  have hC5 := hC4.below hb5
  have hS5 := hS4.below hb5
  obtain ⟨a5, c5, hv5, hT5⟩ := owns_isB hown5 (mem_app _ hx)
  subst hv5
  clear hb5 hA4 hC4 hS4 h4 hown5
  go_wp2_with fail
  refine (same_any _ _ _ _ _ _ _ _ hS5 hT5).mono ?_
  rintro e w' ⟨rfl, rfl⟩
  go_wp2_with fail
  refine (same_any _ _ _ _ _ _ _ _ hA5 hC5).mono ?_
  rintro e w' ⟨rfl, rfl⟩
  go_wp2
  go_ret
  exact ⟨rfl, h5⟩
set_option maxHeartbeats 400000 in
theorem frames_long (b off len cap : Nat) (l : List Nat) (w : World) (h : IsB w (some ⟨b, off, none⟩) len cap l) (hr : cap ≤ 140737488351232) (hge : 4 ≤ len) :
    Calls Try.prog 5 #[.slice (some ⟨b, off, none⟩) len cap] w fun e w' => e = .returned (.bool true) ∧ Below w.heap.size w w' := by
  have hcl : len ≤ cap := h.2.1
  have hx := h.2.2.2.1
  go_enter Try.func5, Try.ntmps5
  go_wp2_with fail
  refine (open_any b off len cap l _ h (by omega) hge).mono ?_
  by_cases hgood : l.drop (len - 4) = le (Crc.update 0 (l.take (len - 4)))
  · have HG := hide hgood
    clear hgood
    rintro e w1 ⟨(⟨_, v1, rfl, hown1⟩ | ⟨hbad, _⟩), hb1⟩
    case inr => exact absurd HG.out hbad
    obtain ⟨a1, c1, hv1, hA1⟩ := owns_isB hown1 (mem_take hx)
    subst hv1
    clear hown1
    go_wp2_with fail
    refine (refOpen_any b off len cap l _ (h.below hb1) (by omega) hge).mono ?_
    rintro e w2 ⟨(⟨_, v2, rfl, hown2⟩ | ⟨hbad, _⟩), hb2⟩
    case inr => exact absurd HG.out hbad
    obtain ⟨a2, c2, hv2, hC2⟩ := owns_isB hown2 (mem_take hx)
    subst hv2
    clear hown2
    have h2 : Below w.heap.size w w2 := hb1.trans (hb2.mono hb1.size)
    have hA2 := hA1.below hb2
    clear hA1 hb1 hb2
    go_wp2_with fail
    refine (lives_any _).mono ?_
    rintro e w3 ⟨rfl, hb3⟩
    have h3 : Below w.heap.size w w3 := h2.trans (hb3.mono h2.size)
    have hA3 := hA2.below hb3
    have hC3 := hC2.below hb3
    clear hb3 hA2 hC2 h2
    go_wp2_with fail
    refine (seal_any (some ⟨b, off, none⟩) len cap l _ (h.below h3) (by omega)).mono ?_
    rintro e w4 ⟨g, rfl, hown4, hb4⟩
    have h4 : Below w.heap.size w w4 := h3.trans (hb4.mono h3.size)
    have hA4 := hA3.below hb4
    have hC4 := hC3.below hb4
    obtain ⟨a4, c4, hv4, hS4⟩ := owns_isB hown4 (mem_app _ hx)
    cases hv4
    clear hb4 hA3 hC3 h3 hown4
    go_wp2_with fail
    refine (refSeal_any (some ⟨b, off, none⟩) len cap l _ (h.below h4) hr).mono ?_
    rintro e w5 ⟨v5, rfl, hown5, hb5⟩
    have h5 : Below w.heap.size w w5 := h4.trans (hb5.mono h4.size)
    have hA5 := hA4.below hb5
    have hC5 := hC4.below hb5
    have hS5 := hS4.below hb5
    obtain ⟨a5, c5, hv5, hT5⟩ := owns_isB hown5 (mem_app _ hx)
    subst hv5
    clear hb5 hA4 hC4 hS4 h4 hown5
    go_wp2_with fail
    refine (same_any _ _ _ _ _ _ _ _ hS5 hT5).mono ?_
    rintro e w' ⟨rfl, rfl⟩
    go_wp2_with fail
    refine (same_any _ _ _ _ _ _ _ _ hA5 hC5).mono ?_
    rintro e w' ⟨rfl, rfl⟩
    go_wp2
    go_ret
    exact ⟨rfl, h5⟩
  · have HG := hide hgood
    clear hgood
    rintro e w1 ⟨(⟨hgood, _⟩ | ⟨_, rfl⟩), hb1⟩
    case inl => exact absurd hgood HG.out
    go_wp2_with fail
    refine (refOpen_any b off len cap l _ (h.below hb1) (by omega) hge).mono ?_
    rintro e w2 ⟨(⟨hgood, _⟩ | ⟨_, rfl⟩), hb2⟩
    case inl => exact absurd hgood HG.out
    have h2 : Below w.heap.size w w2 := hb1.trans (hb2.mono hb1.size)
    have hA2 : IsB w2 none 0 0 [] := isB_nil w2
    have hC2 : IsB w2 none 0 0 [] := isB_nil w2
    clear hb1 hb2
    go_wp2_with fail
    refine (lives_any _).mono ?_
    rintro e w3 ⟨rfl, hb3⟩
    have h3 : Below w.heap.size w w3 := h2.trans (hb3.mono h2.size)
    have hA3 := hA2.below hb3
    have hC3 := hC2.below hb3
    clear hb3 hA2 hC2 h2
    go_wp2_with fail
    refine (seal_any (some ⟨b, off, none⟩) len cap l _ (h.below h3) (by omega)).mono ?_
    rintro e w4 ⟨g, rfl, hown4, hb4⟩
    have h4 : Below w.heap.size w w4 := h3.trans (hb4.mono h3.size)
    have hA4 := hA3.below hb4
    have hC4 := hC3.below hb4
    obtain ⟨a4, c4, hv4, hS4⟩ := owns_isB hown4 (mem_app _ hx)
    cases hv4
    clear hb4 hA3 hC3 h3 hown4
    go_wp2_with fail
    refine (refSeal_any (some ⟨b, off, none⟩) len cap l _ (h.below h4) hr).mono ?_
    rintro e w5 ⟨v5, rfl, hown5, hb5⟩
    have h5 : Below w.heap.size w w5 := h4.trans (hb5.mono h4.size)
    have hA5 := hA4.below hb5
    have hC5 := hC4.below hb5
    have hS5 := hS4.below hb5
    obtain ⟨a5, c5, hv5, hT5⟩ := owns_isB hown5 (mem_app _ hx)
    subst hv5
    clear hb5 hA4 hC4 hS4 h4 hown5
    go_wp2_with fail
    refine (same_any _ _ _ _ _ _ _ _ hS5 hT5).mono ?_
    rintro e w' ⟨rfl, rfl⟩
    go_wp2_with fail
    refine (same_any _ _ _ _ _ _ _ _ hA5 hC5).mono ?_
    rintro e w' ⟨rfl, rfl⟩
    go_wp2
    go_ret
    exact ⟨rfl, h5⟩
theorem crcFrames.lawWalk (a : Option Addr) (len cap : Nat) (l : List Nat) (w : World) (h : IsB w a len cap l) (hr : cap ≤ 140737488351232) :
    Calls Try.prog 5 #[.slice a len cap] w fun e w' => e = .returned (.bool true) ∧ Below w.heap.size w w' := by
  by_cases hlt : len < 4
  · exact frames_short a len cap l w h hr hlt
  · obtain ⟨b, off, rfl, _⟩ := h.2.2.2.2.resolve_left (by omega)
    exact frames_long b off len cap l w h hr (by omega)
end Go.Proofs.Ytmfdcbbeieelfaa
