/- the readers, given what the bytes say -/
import Derived.Test.YtnimlpbalfamcaaL
namespace Go.Proofs.Ytnimlpbalfamcaa
open Go.RowKit Cod
theorem drop_same {l : List Nat} {len p q : Nat} (hl : l.length = len) (hp : p ≤ len) (hq : q ≤ len) (h : l.drop p = l.drop q) : p = q := by
  have := congrArg List.length h
  simp at this; omega
theorem rdNum_drop {l : List Nat} {n : Nat} {r : List Nat} (hx : ∀ x ∈ l, x < 256) (h : rdNum l = some (n, r)) : ∃ p, p ≤ l.length ∧ r = l.drop p ∧ n < 18446744073709551616 := by
  obtain ⟨hl, hn⟩ := rdNum_some hx h
  refine ⟨(num n).length, ?_, ?_, hn⟩
  · rw [hl]; simp
  · rw [hl, List.drop_left]

theorem readNum_of (a : Option Addr) (len cap : Nat) (l : List Nat) (w : World) (h : IsB w a len cap l) (hr : len ≤ 140737488355328) (n p : Nat) (hn : rdNum l = some (n, l.drop p)) (hp : p ≤ len) :
    Calls Try.prog 20 #[.slice a len cap] w fun e w' => (∃ a' c', e = .returned (.tuple #[.int .u64 (n : Nat), .slice a' (len - p) c', .int .i64 0]) ∧ IsB w' a' (len - p) c' (l.drop p)) ∧ Below w.heap.size w w' := by
  refine (readNum_any a len cap l w h hr).mono ?_
  rintro e w2 ⟨(⟨n', p', q, hn', hn2, hp', rfl, hq, hrow⟩ | ⟨hn', _⟩), hb⟩
  case inr => rw [hn] at hn'; cases hn'
  rw [hn] at hn'
  simp only [Option.some.injEq, Prod.mk.injEq] at hn'
  obtain ⟨rfl, hd⟩ := hn'
  obtain rfl := drop_same h.1 hp hp' hd
  exact ⟨⟨_, _, rfl, hrow.isB (mem_drop h.2.2.2.1)⟩, hb⟩
theorem readNum_no (a : Option Addr) (len cap : Nat) (l : List Nat) (w : World) (h : IsB w a len cap l) (hr : len ≤ 140737488355328) (hn : rdNum l = none) :
    Calls Try.prog 20 #[.slice a len cap] w fun e w' => e = .returned (.tuple #[.int .u64 0, .slice none 0 0, .int .i64 6]) ∧ Below w.heap.size w w' := by
  refine (readNum_any a len cap l w h hr).mono ?_
  rintro e w2 ⟨(⟨n', p', q, hn', hn2, hp', rfl, hq, hrow⟩ | ⟨_, rfl⟩), hb⟩
  case inl => rw [hn] at hn'; cases hn'
  exact ⟨rfl, hb⟩
theorem refReadNum_of (a : Option Addr) (len cap : Nat) (l : List Nat) (w : World) (h : IsB w a len cap l) (hr : len ≤ 140737488355328) (n p : Nat) (hn : rdNum l = some (n, l.drop p)) (hp : p ≤ len) :
    Calls Try.prog 21 #[.slice a len cap] w fun e w' => (∃ a' c', e = .returned (.tuple #[.int .u64 (n : Nat), .slice a' (len - p) c', .int .i64 0]) ∧ IsB w' a' (len - p) c' (l.drop p)) ∧ Below w.heap.size w w' := by
  refine (refReadNum_any a len cap l w h hr).mono ?_
  rintro e w2 ⟨(⟨n', p', v, hn', hn2, hp', rfl, hown⟩ | ⟨hn', _⟩), hb⟩
  case inr => rw [hn] at hn'; cases hn'
  rw [hn] at hn'
  simp only [Option.some.injEq, Prod.mk.injEq] at hn'
  obtain ⟨rfl, hd⟩ := hn'
  obtain rfl := drop_same h.1 hp hp' hd
  obtain ⟨a', c', rfl, hB⟩ := owns_isB hown (mem_drop h.2.2.2.1)
  exact ⟨⟨_, _, rfl, hB⟩, hb⟩
theorem refReadNum_no (a : Option Addr) (len cap : Nat) (l : List Nat) (w : World) (h : IsB w a len cap l) (hr : len ≤ 140737488355328) (hn : rdNum l = none) :
    Calls Try.prog 21 #[.slice a len cap] w fun e w' => e = .returned (.tuple #[.int .u64 0, .slice none 0 0, .int .i64 6]) ∧ Below w.heap.size w w' := by
  refine (refReadNum_any a len cap l w h hr).mono ?_
  rintro e w2 ⟨(⟨n', p', v, hn', hn2, hp', rfl, hown⟩ | ⟨_, rfl⟩), hb⟩
  case inl => rw [hn] at hn'; cases hn'
  exact ⟨rfl, hb⟩
theorem readInt_of (a : Option Addr) (len cap : Nat) (l : List Nat) (w : World) (h : IsB w a len cap l) (hr : len ≤ 140737488355328) (n p : Nat) (hn : rdNum l = some (n, l.drop p)) (hp : p ≤ len) :
    Calls Try.prog 22 #[.slice a len cap] w fun e w' => (∃ a' c', e = .returned (.tuple #[.int .i64 (zag n), .slice a' (len - p) c', .int .i64 0]) ∧ IsB w' a' (len - p) c' (l.drop p)) ∧ Below w.heap.size w w' := by
  refine (readInt_any a len cap l w h hr).mono ?_
  rintro e w2 ⟨(⟨n', p', q, hn', hn2, hp', rfl, hq, hrow⟩ | ⟨hn', _⟩), hb⟩
  case inr => rw [hn] at hn'; cases hn'
  rw [hn] at hn'
  simp only [Option.some.injEq, Prod.mk.injEq] at hn'
  obtain ⟨rfl, hd⟩ := hn'
  obtain rfl := drop_same h.1 hp hp' hd
  exact ⟨⟨_, _, rfl, hrow.isB (mem_drop h.2.2.2.1)⟩, hb⟩
theorem readInt_no (a : Option Addr) (len cap : Nat) (l : List Nat) (w : World) (h : IsB w a len cap l) (hr : len ≤ 140737488355328) (hn : rdNum l = none) :
    Calls Try.prog 22 #[.slice a len cap] w fun e w' => e = .returned (.tuple #[.int .i64 0, .slice none 0 0, .int .i64 6]) ∧ Below w.heap.size w w' := by
  refine (readInt_any a len cap l w h hr).mono ?_
  rintro e w2 ⟨(⟨n', p', q, hn', hn2, hp', rfl, hq, hrow⟩ | ⟨_, rfl⟩), hb⟩
  case inl => rw [hn] at hn'; cases hn'
  exact ⟨rfl, hb⟩
theorem refReadInt_of (a : Option Addr) (len cap : Nat) (l : List Nat) (w : World) (h : IsB w a len cap l) (hr : len ≤ 140737488355328) (n p : Nat) (hn : rdNum l = some (n, l.drop p)) (hp : p ≤ len) :
    Calls Try.prog 23 #[.slice a len cap] w fun e w' => (∃ a' c', e = .returned (.tuple #[.int .i64 (zag n), .slice a' (len - p) c', .int .i64 0]) ∧ IsB w' a' (len - p) c' (l.drop p)) ∧ Below w.heap.size w w' := by
  refine (refReadInt_any a len cap l w h hr).mono ?_
  rintro e w2 ⟨(⟨n', p', v, hn', hn2, hp', rfl, hown⟩ | ⟨hn', _⟩), hb⟩
  case inr => rw [hn] at hn'; cases hn'
  rw [hn] at hn'
  simp only [Option.some.injEq, Prod.mk.injEq] at hn'
  obtain ⟨rfl, hd⟩ := hn'
  obtain rfl := drop_same h.1 hp hp' hd
  obtain ⟨a', c', rfl, hB⟩ := owns_isB hown (mem_drop h.2.2.2.1)
  exact ⟨⟨_, _, rfl, hB⟩, hb⟩
theorem refReadInt_no (a : Option Addr) (len cap : Nat) (l : List Nat) (w : World) (h : IsB w a len cap l) (hr : len ≤ 140737488355328) (hn : rdNum l = none) :
    Calls Try.prog 23 #[.slice a len cap] w fun e w' => e = .returned (.tuple #[.int .i64 0, .slice none 0 0, .int .i64 6]) ∧ Below w.heap.size w w' := by
  refine (refReadInt_any a len cap l w h hr).mono ?_
  rintro e w2 ⟨(⟨n', p', v, hn', hn2, hp', rfl, hown⟩ | ⟨_, rfl⟩), hb⟩
  case inl => rw [hn] at hn'; cases hn'
  exact ⟨rfl, hb⟩
theorem readText_of (a : Option Addr) (len cap : Nat) (l : List Nat) (w : World) (h : IsB w a len cap l) (hr : len ≤ 140737488355328) (s r : List Nat) (hn : rdText 1024 l = .ok (s, r)) :
    Calls Try.prog 24 #[.slice a len cap] w fun e w' => (∃ a' c', e = .returned (.tuple #[.string (str s), .slice a' r.length c', .int .i64 0]) ∧ IsB w' a' r.length c' r) ∧ Below w.heap.size w w' := by
  refine (readText_any a len cap l w h hr).mono ?_
  rintro e w2 ⟨(⟨s', p', q, hn', hp, hs, rfl, hq, hrow⟩ | ⟨k, hn', _⟩), hb⟩
  case inr => rw [hn] at hn'; cases hn'
  rw [hn] at hn'
  simp only [Except.ok.injEq, Prod.mk.injEq] at hn'
  obtain ⟨rfl, rfl⟩ := hn'
  have e : (l.drop p').length = len - p' := by have := h.1; simp; omega
  rw [e]
  exact ⟨⟨_, _, rfl, hrow.isB (mem_drop h.2.2.2.1)⟩, hb⟩
theorem readText_no (a : Option Addr) (len cap : Nat) (l : List Nat) (w : World) (h : IsB w a len cap l) (hr : len ≤ 140737488355328) (k : Nat) (hn : rdText 1024 l = .error k) :
    Calls Try.prog 24 #[.slice a len cap] w fun e w' => e = .returned (.tuple #[.string (str []), .slice none 0 0, .int .i64 k]) ∧ Below w.heap.size w w' := by
  refine (readText_any a len cap l w h hr).mono ?_
  rintro e w2 ⟨(⟨s', p', q, hn', _⟩ | ⟨k', hn', hk, rfl⟩), hb⟩
  case inl => rw [hn] at hn'; cases hn'
  rw [hn] at hn'
  cases hn'
  exact ⟨rfl, hb⟩
theorem refReadText_of (a : Option Addr) (len cap : Nat) (l : List Nat) (w : World) (h : IsB w a len cap l) (hr : len ≤ 140737488355328) (s r : List Nat) (hn : rdText 1024 l = .ok (s, r)) :
    Calls Try.prog 25 #[.slice a len cap] w fun e w' => (∃ a' c', e = .returned (.tuple #[.string (str s), .slice a' r.length c', .int .i64 0]) ∧ IsB w' a' r.length c' r) ∧ Below w.heap.size w w' := by
  refine (refReadText_any a len cap l w h hr).mono ?_
  rintro e w2 ⟨(⟨s', r', a', c', hn', hs, hs2, rfl, hB, hle⟩ | ⟨k, hn', _⟩), hb⟩
  case inr => rw [hn] at hn'; cases hn'
  rw [hn] at hn'
  simp only [Except.ok.injEq, Prod.mk.injEq] at hn'
  obtain ⟨rfl, rfl⟩ := hn'
  exact ⟨⟨_, _, rfl, hB⟩, hb⟩
theorem refReadText_no (a : Option Addr) (len cap : Nat) (l : List Nat) (w : World) (h : IsB w a len cap l) (hr : len ≤ 140737488355328) (k : Nat) (hn : rdText 1024 l = .error k) :
    Calls Try.prog 25 #[.slice a len cap] w fun e w' => e = .returned (.tuple #[.string (str []), .slice none 0 0, .int .i64 k]) ∧ Below w.heap.size w w' := by
  refine (refReadText_any a len cap l w h hr).mono ?_
  rintro e w2 ⟨(⟨s', r', a', c', hn', _⟩ | ⟨k', hn', hk, hk2, rfl⟩), hb⟩
  case inl => rw [hn] at hn'; cases hn'
  rw [hn] at hn'
  cases hn'
  exact ⟨rfl, hb⟩
end Go.Proofs.Ytnimlpbalfamcaa
