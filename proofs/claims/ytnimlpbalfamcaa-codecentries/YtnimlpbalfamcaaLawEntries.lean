/- the walk of CodecEntries -/
import Derived.Test.YtnimlpbalfamcaaT2
import Derived.Test.YtnimlpbalfamcaaR
import Derived.Test.YtnimlpbalfamcaaL
namespace Go.Proofs.Ytnimlpbalfamcaa
open Go.RowKit Cod
open Classical
def outB (r : Except Nat (List Nat)) : List Nat × Nat := match r with | .ok l => (l, 0) | .error k => ([], k)
def outE (r : Except Nat (List Ent)) : List Ent × Nat := match r with | .ok l => (l, 0) | .error k => ([], k)
theorem isE_nil (w : World) : IsE w none 0 0 [] := ⟨rfl, Nat.le_refl _, Nat.zero_le _, .inl ⟨rfl, fun _ => rfl⟩⟩
theorem entries_bytes {es : List Ent} {l : List Nat} (h : entries es = .ok l) (hx : ∀ e ∈ es, (∀ x ∈ e.1, x < 256) ∧ (∀ x ∈ e.2, x < 256)) : ∀ x ∈ l, x < 256 := by
  unfold entries at h
  split at h
  · cases h
  · split at h
    · cases h
    · cases h
      exact ents_lt' _ hx
theorem entries_out (a : Option Addr) (len cap : Nat) (es : List Ent) (w : World) (h : IsE w a len cap es) :
    Calls Try.prog 32 #[.slice a len cap] w fun e w' => (∃ a' c', e = .returned (.tuple #[.slice a' (outB (entries es)).1.length c', .int .i64 (outB (entries es)).2]) ∧ IsB w' a' (outB (entries es)).1.length c' (outB (entries es)).1) ∧ Below w.heap.size w w' := by
  refine (entries_any a len cap es w h).mono ?_
  rintro e w' ⟨(⟨v, l, he, rfl, hown⟩ | ⟨k, he, hk, rfl⟩), hb⟩
  · obtain ⟨a', c', rfl, hB⟩ := owns_isB hown (entries_bytes he h.lts')
    rw [he]
    exact ⟨⟨a', c', rfl, hB⟩, hb⟩
  · rw [he]
    exact ⟨⟨none, 0, rfl, isB_nil _⟩, hb⟩
theorem refEntries_out (a : Option Addr) (len cap : Nat) (es : List Ent) (w : World) (h : IsE w a len cap es) :
    Calls Try.prog 33 #[.slice a len cap] w fun e w' => (∃ a' c', e = .returned (.tuple #[.slice a' (outB (entries es)).1.length c', .int .i64 (outB (entries es)).2]) ∧ IsB w' a' (outB (entries es)).1.length c' (outB (entries es)).1) ∧ Below w.heap.size w w' := by
  refine (refEntries_any a len cap es w h).mono ?_
  rintro e w' ⟨(⟨a', c', l, he, rfl, hB⟩ | ⟨k, he, hk, rfl⟩), hb⟩
  · rw [he]
    exact ⟨⟨a', c', rfl, hB⟩, hb⟩
  · rw [he]
    exact ⟨⟨none, 0, rfl, isB_nil _⟩, hb⟩
theorem readEntries_out (a : Option Addr) (len cap : Nat) (l : List Nat) (w : World) (h : IsB w a len cap l) :
    Calls Try.prog 34 #[.slice a len cap] w fun e w' => (∃ a' c', e = .returned (.tuple #[.slice a' (outE (rdEntries l)).1.length c', .int .i64 (outE (rdEntries l)).2]) ∧ IsE w' a' (outE (rdEntries l)).1.length c' (outE (rdEntries l)).1) ∧ Below w.heap.size w w' := by
  refine (readEntries_any a len cap l w h).mono ?_
  rintro e w' ⟨(⟨es, a', c', he, rfl, hB⟩ | ⟨k, he, hk, rfl⟩), hb⟩
  · rw [he]
    exact ⟨⟨a', c', rfl, hB⟩, hb⟩
  · rw [he]
    exact ⟨⟨none, 0, rfl, isE_nil _⟩, hb⟩
theorem refReadEntries_out (a : Option Addr) (len cap : Nat) (l : List Nat) (w : World) (h : IsB w a len cap l) (hr : len ≤ 140737488355328) :
    Calls Try.prog 35 #[.slice a len cap] w fun e w' => (∃ a' c', e = .returned (.tuple #[.slice a' (outE (rdEntries l)).1.length c', .int .i64 (outE (rdEntries l)).2]) ∧ IsE w' a' (outE (rdEntries l)).1.length c' (outE (rdEntries l)).1) ∧ Below w.heap.size w w' := by
  refine (refReadEntries_any a len cap l w h hr).mono ?_
  rintro e w' ⟨(⟨es, a', c', he, rfl, hB⟩ | ⟨k, he, hk, rfl⟩), hb⟩
  · rw [he]
    exact ⟨⟨a', c', rfl, hB⟩, hb⟩
  · rw [he]
    exact ⟨⟨none, 0, rfl, isE_nil _⟩, hb⟩
set_option maxHeartbeats 2000000 in
theorem entries_law (a : Option Addr) (la ca : Nat) (es : List Ent) (b : Option Addr) (lb cb : Nat) (l : List Nat) (w : World) (hE : IsE w a la ca es) (hr : la * 48 ≤ 140737488355328 ∧ ∀ e ∈ es, e.1.length ≤ 140737488355328 ∧ e.2.length ≤ 140737488355328) (hB : IsB w b lb cb l) (hb : cb ≤ 140737488351232) :
    Calls Try.prog 6 #[.slice a la ca, .slice b lb cb] w fun e w' => e = .returned (.bool true) ∧ Below w.heap.size w w' := by
  have hlb : lb ≤ 140737488355328 := by have := hB.2.1; omega
  go_enter Try.func6, Try.ntmps6
  go_wp2_with fail
  refine (copy_any a la ca es w hE hr.1 hr.2).mono ?_
  rintro e w1 ⟨⟨a1, c1, rfl, hG1⟩, hb1⟩
  have hE1 := hE.below hb1
  have hB1 := hB.below hb1
  clear hE hB hr
  go_wp2_with fail
  refine (entries_out a1 la c1 es w1 hG1).mono ?_
  rintro e w2 ⟨⟨a2, c2, rfl, hX2⟩, hb2⟩
  have hE2 := hE1.below hb2
  have hB2 := hB1.below hb2
  have hG2 := hG1.below hb2
  have h2 := hb1.trans (hb2.mono hb1.size)
  clear hE1 hB1 hG1 hb1 hb2
  go_wp2_with fail
  refine (refEntries_out a la ca es w2 hE2).mono ?_
  rintro e w3 ⟨⟨a3, c3, rfl, hY3⟩, hb3⟩
  have hE3 := hE2.below hb3
  have hB3 := hB2.below hb3
  have hG3 := hG2.below hb3
  have hX3 := hX2.below hb3
  have h3 := h2.trans (hb3.mono h2.size)
  clear hE2 hB2 hG2 hX2 h2 hb3
  generalize hob : outB (entries es) = ob at *
  obtain ⟨lx, kx⟩ := ob
  clear hob
  dsimp only at hX3 hY3 ⊢
  go_wp2_with fail
  refine (readEntries_out b lb cb l w3 hB3).mono ?_
  rintro e w4 ⟨⟨a4, c4, rfl, hM4⟩, hb4⟩
  have hE4 := hE3.below hb4
  have hB4 := hB3.below hb4
  have hG4 := hG3.below hb4
  have hX4 := hX3.below hb4
  have hY4 := hY3.below hb4
  have h4 := h3.trans (hb4.mono h3.size)
  clear hE3 hB3 hG3 hX3 hY3 h3 hb4
  go_wp2_with fail
  refine (refReadEntries_out b lb cb l w4 hB4 hlb).mono ?_
  rintro e w5 ⟨⟨a5, c5, rfl, hN5⟩, hb5⟩
  have hE5 := hE4.below hb5
  have hG5 := hG4.below hb5
  have hX5 := hX4.below hb5
  have hY5 := hY4.below hb5
  have hM5 := hM4.below hb5
  have h5 := h4.trans (hb5.mono h4.size)
  clear hE4 hB4 hG4 hX4 hY4 hM4 h4 hb5
  generalize hob : outE (rdEntries l) = ob at *
  obtain ⟨em, km⟩ := ob
  clear hob
  dsimp only at hM5 hN5 ⊢
  have q1 : ((kx : Int) == (kx : Int)) = true := by simp
  have q2 : ((km : Int) == (km : Int)) = true := by simp
  go_wp2_with fail
  refine (lives_any w5).mono ?_
  rintro e w6 ⟨rfl, hb6⟩
  have SX := hide (same_any a2 a3 lx.length c2 lx.length c3 lx lx w6 (hX5.below hb6) (hY5.below hb6))
  rw [decide_eq_true rfl] at SX
  have hM6 := hM5.below hb6
  have hN6 := hN5.below hb6
  have hG6 := hG5.below hb6
  have hE6 := hE5.below hb6
  have h6 := h5.trans (hb6.mono h5.size)
  clear hM5 hN5 hG5 hE5 hX5 hY5 h5 hb6
  go_wp2_with fail
  refine SX.out.mono ?_
  rintro e w7 ⟨rfl, rfl⟩
  have SE := hide (sameEntries_any a4 a5 em.length c4 em.length c5 em em w7 hM6 hN6)
  rw [decide_eq_true rfl] at SE
  go_wp2_with fail
  refine SE.out.mono ?_
  rintro e w8 ⟨rfl, m, rfl⟩
  have SG := hide (sameEntries_any a1 a la c1 la ca es es (w7.drewN m) (hG6.below (below_drewN (Below.refl _ _) m)) (hE6.below (below_drewN (Below.refl _ _) m)))
  rw [decide_eq_true rfl] at SG
  go_wp2_with fail
  refine SG.out.mono ?_
  rintro e w9 ⟨rfl, m2, rfl⟩
  go_wp2
  go_ret
  exact ⟨rfl, below_drewN h6 (m + m2)⟩
theorem codecEntries.lawWalk (a : Option Addr) (la ca : Nat) (es : List Ent) (b : Option Addr) (lb cb : Nat) (l : List Nat) (w : World) (hE : IsE w a la ca es) (hr : la * 48 ≤ 140737488355328 ∧ ∀ e ∈ es, e.1.length ≤ 140737488355328 ∧ e.2.length ≤ 140737488355328) (hB : IsB w b lb cb l) (hb : cb ≤ 140737488351232) :
    Calls Try.prog 6 #[.slice a la ca, .slice b lb cb] w fun e w' => e = .returned (.bool true) ∧ Below w.heap.size w w' := entries_law a la ca es b lb cb l w hE hr hB hb
end Go.Proofs.Ytnimlpbalfamcaa
