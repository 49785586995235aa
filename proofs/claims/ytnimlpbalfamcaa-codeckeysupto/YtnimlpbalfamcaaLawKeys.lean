/- the walk of CodecKeys -/
import Derived.Test.YtnimlpbalfamcaaZ
import Derived.Test.YtnimlpbalfamcaaR
import Derived.Test.YtnimlpbalfamcaaL
namespace Go.Proofs.Ytnimlpbalfamcaa
open Go.RowKit Cod
open Classical
def outK (r : Except Nat (List Nat)) : List Nat × Nat := match r with | .ok l => (l, 0) | .error k => ([], k)
def outP (r : Except Nat (List Part)) : List Part × Nat := match r with | .ok l => (l, 0) | .error k => ([], k)
theorem isP_nil (w : World) : IsP w none 0 0 [] := ⟨rfl, Nat.le_refl _, Nat.zero_le _, by simp, .inl ⟨rfl, fun _ => rfl⟩⟩
theorem key_out (a : Option Addr) (len cap : Nat) (ps : List Part) (w : World) (h : IsP w a len cap ps) (hmax : ∀ p ∈ ps, p.s.length ≤ 1048576) :
    Calls Try.prog 26 #[.slice a len cap] w fun e w' => (∃ a' c', e = .returned (.tuple #[.slice a' (outK (key ps)).1.length c', .int .i64 (outK (key ps)).2]) ∧ IsB w' a' (outK (key ps)).1.length c' (outK (key ps)).1) ∧ Below w.heap.size w w' := by
  refine (key_any a len cap ps w h hmax).mono ?_
  rintro e w' ⟨(⟨v, he, rfl, hown⟩ | ⟨k, he, hk, rfl⟩), hb⟩
  · obtain ⟨a', c', rfl, hB⟩ := owns_isB hown (keyB_lt h.2.2.2.1)
    rw [he]
    exact ⟨⟨a', c', rfl, hB⟩, hb⟩
  · rw [he]
    exact ⟨⟨none, 0, rfl, isB_nil _⟩, hb⟩
theorem refKey_out (a : Option Addr) (len cap : Nat) (ps : List Part) (w : World) (h : IsP w a len cap ps) (hmax : ∀ p ∈ ps, p.s.length ≤ 1048576) :
    Calls Try.prog 27 #[.slice a len cap] w fun e w' => (∃ a' c', e = .returned (.tuple #[.slice a' (outK (key ps)).1.length c', .int .i64 (outK (key ps)).2]) ∧ IsB w' a' (outK (key ps)).1.length c' (outK (key ps)).1) ∧ Below w.heap.size w w' := by
  refine (refKey_any a len cap ps w h hmax).mono ?_
  rintro e w' ⟨(⟨v, he, rfl, hown⟩ | ⟨k, he, hk, rfl⟩), hb⟩
  · obtain ⟨a', c', rfl, hB⟩ := owns_isB hown (keyB_lt h.2.2.2.1)
    rw [he]
    exact ⟨⟨a', c', rfl, hB⟩, hb⟩
  · rw [he]
    exact ⟨⟨none, 0, rfl, isB_nil _⟩, hb⟩
theorem readKey_out (a : Option Addr) (len cap : Nat) (l : List Nat) (w : World) (h : IsB w a len cap l) :
    Calls Try.prog 28 #[.slice a len cap] w fun e w' => (∃ a' c', e = .returned (.tuple #[.slice a' (outP (rdKey l)).1.length c', .int .i64 (outP (rdKey l)).2]) ∧ IsP w' a' (outP (rdKey l)).1.length c' (outP (rdKey l)).1) ∧ Below w.heap.size w w' := by
  refine (readKey_any a len cap l w h).mono ?_
  rintro e w' ⟨(⟨es, a', c', he, rfl, hB⟩ | ⟨k, he, hk, rfl⟩), hb⟩
  · rw [he]
    exact ⟨⟨a', c', rfl, hB⟩, hb⟩
  · rw [he]
    exact ⟨⟨none, 0, rfl, isP_nil _⟩, hb⟩
theorem refReadKey_out (a : Option Addr) (len cap : Nat) (l : List Nat) (w : World) (h : IsB w a len cap l) :
    Calls Try.prog 29 #[.slice a len cap] w fun e w' => (∃ a' c', e = .returned (.tuple #[.slice a' (outP (rdKey l)).1.length c', .int .i64 (outP (rdKey l)).2]) ∧ IsP w' a' (outP (rdKey l)).1.length c' (outP (rdKey l)).1) ∧ Below w.heap.size w w' := by
  refine (refReadKey_any a len cap l w h).mono ?_
  rintro e w' ⟨(⟨es, a', c', he, rfl, hB⟩ | ⟨k, he, hk, rfl⟩), hb⟩
  · rw [he]
    exact ⟨⟨a', c', rfl, hB⟩, hb⟩
  · rw [he]
    exact ⟨⟨none, 0, rfl, isP_nil _⟩, hb⟩
set_option maxHeartbeats 2000000 in
theorem keys_law (a : Option Addr) (la ca : Nat) (ps : List Part) (b : Option Addr) (lb cb : Nat) (l : List Nat) (w : World) (hP : IsP w a la ca ps) (hm : ∀ p ∈ ps, p.s.length ≤ 1048576) (hB : IsB w b lb cb l) :
    Calls Try.prog 5 #[.slice a la ca, .slice b lb cb] w fun e w' => e = .returned (.bool true) ∧ Below w.heap.size w w' := by
  have Hm := hide hm
  clear hm
  go_enter Try.func5, Try.ntmps5
  go_wp2_with fail
  refine (key_out a la ca ps w hP Hm.out).mono ?_
  rintro e w2 ⟨⟨a2, c2, rfl, hX2⟩, hb2⟩
  have hP2 := hP.below hb2
  have hB2 := hB.below hb2
  have h2 := hb2
  clear hP hB hb2
  go_wp2_with fail
  refine (refKey_out a la ca ps w2 hP2 Hm.out).mono ?_
  rintro e w3 ⟨⟨a3, c3, rfl, hY3⟩, hb3⟩
  have hB3 := hB2.below hb3
  have hX3 := hX2.below hb3
  have h3 := h2.trans (hb3.mono h2.size)
  clear hP2 hB2 hX2 h2 hb3
  generalize hob : outK (key ps) = ob at *
  obtain ⟨lx, kx⟩ := ob
  clear hob
  dsimp only at hX3 hY3 ⊢
  go_wp2_with fail
  refine (readKey_out b lb cb l w3 hB3).mono ?_
  rintro e w4 ⟨⟨a4, c4, rfl, hM4⟩, hb4⟩
  have hB4 := hB3.below hb4
  have hX4 := hX3.below hb4
  have hY4 := hY3.below hb4
  have h4 := h3.trans (hb4.mono h3.size)
  clear hB3 hX3 hY3 h3 hb4
  go_wp2_with fail
  refine (refReadKey_out b lb cb l w4 hB4).mono ?_
  rintro e w5 ⟨⟨a5, c5, rfl, hN5⟩, hb5⟩
  have hX5 := hX4.below hb5
  have hY5 := hY4.below hb5
  have hM5 := hM4.below hb5
  have h5 := h4.trans (hb5.mono h4.size)
  clear hB4 hX4 hY4 hM4 h4 hb5
  generalize hob : outP (rdKey l) = ob at *
  obtain ⟨em, km⟩ := ob
  clear hob
  dsimp only at hM5 hN5 ⊢
  have q1 : ((kx : Int) == (kx : Int)) = true := by simp
  have q2 : ((km : Int) == (km : Int)) = true := by simp
  go_wp2_with fail
  refine (lives_any w5).mono ?_
  rintro e w6 ⟨rfl, hb6⟩
  have SX := hide (same_any a2 a3 lx.length c2 lx.length c3 lx lx w6 (hX5.below hb6) (hY5.below hb6))
  rw [decide_eq_true rfl] at SX
  have hM6 := hM5.below hb6
  have hN6 := hN5.below hb6
  have h6 := h5.trans (hb6.mono h5.size)
  clear hM5 hN5 hX5 hY5 h5 hb6
  go_wp2_with fail
  refine SX.out.mono ?_
  rintro e w7 ⟨rfl, rfl⟩
  have SE := hide (sameParts_any a4 a5 em.length c4 em.length c5 em em w7 hM6 hN6)
  rw [decide_eq_true rfl] at SE
  go_wp2_with fail
  refine SE.out.mono ?_
  rintro e w8 ⟨rfl, m, rfl⟩
  go_wp2
  go_ret
  exact ⟨rfl, below_drewN h6 m⟩
theorem codecKeys.lawWalkUpto (a : Option Addr) (la ca : Nat) (ps : List Part) (b : Option Addr) (lb cb : Nat) (l : List Nat) (w : World) (hP : IsP w a la ca ps) (hm : ∀ p ∈ ps, p.s.length ≤ 1048576) (hB : IsB w b lb cb l) :
    Calls Try.prog 5 #[.slice a la ca, .slice b lb cb] w fun e w' => e = .returned (.bool true) ∧ Below w.heap.size w w' := keys_law a la ca ps b lb cb l w hP hm hB
end Go.Proofs.Ytnimlpbalfamcaa
