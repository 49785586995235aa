/- the walk of CodecWrites -/
import Derived.Test.YtnimlpbalfamcaaL
namespace Go.Proofs.Ytnimlpbalfamcaa
open Go.RowKit Cod
theorem owns_made (w : World) (m : Nat) (hm : m ≤ 281474976710656) : (w.alloc (.cells (zeros m).toArray 5)).ownsRow w.heap.size 5 1 (.slice (some ⟨w.heap.size, 0, none⟩) 0 m) 0 [] := by
  refine ⟨rfl, .inr ⟨w.heap.size, m, _, rfl, Nat.le_refl _, heap_alloc_new w _, Nat.zero_le _, ?_, ?_, ?_⟩⟩
  · unfold maxLen; omega
  · simp [zeros]
  · simp
set_option maxHeartbeats 1000000 in
theorem writes_any (a : Option Addr) (len cap : Nat) (l : List Nat) (n : Nat) (m : Int) (s : ByteArray) (w : World) (h : IsB w a len cap l) (hn : n < 18446744073709551616) (h0 : -9223372036854775808 ≤ m) (h1 : m < 9223372036854775808) (hr : len + s.size ≤ 1048576) : Calls Try.prog 3 #[.slice a len cap, .int .u64 n, .int .i64 m, .string s] w fun e w' => e = .returned (.bool true) ∧ Below w.heap.size w w' := by
  have hmk : ∀ W : World, (Instr.makeSlice 22 (.int .i64 0) (.int .i64 ((len : Int) + 20))).run Try.prog W = .ok (.slice (some ⟨W.heap.size, 0, none⟩) 0 (len + 20)) (W.alloc (.cells (zeros (len + 20)).toArray 5)) := fun W => run_mk W 0 (len + 20) (by omega) (by omega)
  have hx := h.2.2.2.1
  go_enter Try.func3, Try.ntmps3
  go_wp2_with (at_builtin; refine wpList_clone rfl _ _ rfl w.heap.size _ 0 [] rfl (owns_made w (len + 20) (by omega)) a len cap l rfl ?hB ?hb ?hbase w.heap.size w ?bel (Nat.le_refl _) ?_)
  case hB => exact h.below ((Below.refl _ _).alloc (Nat.le_refl _) _)
  case hb => omega
  case hbase => simp
  case bel => exact (Below.refl _ _).alloc (Nat.le_refl _) _
  intro v w1 hown0 hb1
  have hown : w1.ownsRow w.heap.size 5 1 v len (bv l) := by simpa using hown0
  obtain ⟨a1, c1, rfl, hB1⟩ := owns_isB hown hx
  have hA1 := h.below hb1
  clear hown hown0 hmk
  go_wp2_with fail
  refine (lives_any w1).mono ?_
  rintro e w2 ⟨rfl, hb2⟩
  have hBc := hB1.below hb2
  have hAc := hA1.below hb2
  have hc := hb1.trans (hb2.mono hb1.size)
  clear hB1 hA1 hb1 hb2 h
  have HX1 : Hid (∀ x ∈ l ++ num n, x < 256) := hide (by intro x hx'; rcases List.mem_append.1 hx' with h | h; exact hx x h; exact num_lt _ x h)
  have HX2 : Hid (∀ x ∈ l ++ num (zig m), x < 256) := hide (by intro x hx'; rcases List.mem_append.1 hx' with h | h; exact hx x h; exact num_lt _ x h)
  have HX3 : Hid (∀ x ∈ l ++ num s.size ++ bl s, x < 256) := hide (by intro x hx'; rcases List.mem_append.1 hx' with h | h; rcases List.mem_append.1 h with h | h; exact hx x h; exact num_lt _ x h; exact bl_lt s x h)
  clear hx
  go_wp2_with fail
  refine (num_any a1 len c1 n l w2 hBc (by omega) hn).mono ?_
  rintro e w3 ⟨v3, rfl, hown3, hb3⟩
  obtain ⟨x3, y3, rfl, hR3⟩ := owns_isB hown3 HX1.out
  have hBc' := hBc.below hb3
  have hAc' := hAc.below hb3
  have hc' := hc.trans (hb3.mono hc.size)
  clear hown3 hb3 hBc hAc hc
  have hBc := hBc'
  have hAc := hAc'
  have hc := hc'
  clear hBc' hAc' hc'
  go_wp2_with fail
  refine (refNum_any a len cap n l w3 hAc (by omega) hn).mono ?_
  rintro e w4 ⟨v4, rfl, hown4, hb4⟩
  obtain ⟨x4, y4, rfl, hR4⟩ := owns_isB hown4 HX1.out
  have hBc' := hBc.below hb4
  have hAc' := hAc.below hb4
  have hc' := hc.trans (hb4.mono hc.size)
  have hR3' := hR3.below hb4
  clear hown4 hb4 hBc hAc hc hR3
  have hBc := hBc'
  have hAc := hAc'
  have hc := hc'
  clear hBc' hAc' hc'
  have HS := hide (same_any x3 x4 (len + (num n).length) y3 (len + (num n).length) y4 (l ++ num n) (l ++ num n) w4 hR3' hR4)
  rw [decide_eq_true rfl] at HS
  clear hR3' hR4
  go_wp2_with fail
  refine HS.out.mono ?_
  rintro e u4 ⟨rfl, hw⟩
  subst hw
  clear HS
  go_wp2_with fail
  refine (int_any a1 len c1 m l u4 hBc (by omega) h0 h1).mono ?_
  rintro e w5 ⟨v5, rfl, hown5, hb5⟩
  obtain ⟨x5, y5, rfl, hR5⟩ := owns_isB hown5 HX2.out
  have hBc' := hBc.below hb5
  have hAc' := hAc.below hb5
  have hc' := hc.trans (hb5.mono hc.size)
  clear hown5 hb5 hBc hAc hc
  have hBc := hBc'
  have hAc := hAc'
  have hc := hc'
  clear hBc' hAc' hc'
  go_wp2_with fail
  refine (refInt_any a len cap m l w5 hAc (by omega) h0 h1).mono ?_
  rintro e w6 ⟨v6, rfl, hown6, hb6⟩
  obtain ⟨x6, y6, rfl, hR6⟩ := owns_isB hown6 HX2.out
  have hBc' := hBc.below hb6
  have hAc' := hAc.below hb6
  have hc' := hc.trans (hb6.mono hc.size)
  have hR5' := hR5.below hb6
  clear hown6 hb6 hBc hAc hc hR5
  have hBc := hBc'
  have hAc := hAc'
  have hc := hc'
  clear hBc' hAc' hc'
  have HS := hide (same_any x5 x6 (len + (num (zig m)).length) y5 (len + (num (zig m)).length) y6 (l ++ num (zig m)) (l ++ num (zig m)) w6 hR5' hR6)
  rw [decide_eq_true rfl] at HS
  clear hR5' hR6
  go_wp2_with fail
  refine HS.out.mono ?_
  rintro e u6 ⟨rfl, hw⟩
  subst hw
  clear HS
  go_wp2_with fail
  refine (text_any a1 len c1 s l u6 hBc (by omega)).mono ?_
  rintro e w7 ⟨v7, rfl, hown7, hb7⟩
  obtain ⟨x7, y7, rfl, hR7⟩ := owns_isB hown7 HX3.out
  have hBc' := hBc.below hb7
  have hAc' := hAc.below hb7
  have hc' := hc.trans (hb7.mono hc.size)
  clear hown7 hb7 hBc hAc hc
  have hBc := hBc'
  have hAc := hAc'
  have hc := hc'
  clear hBc' hAc' hc'
  go_wp2_with fail
  refine (refText_any a len cap s l w7 hAc (by omega)).mono ?_
  rintro e w8 ⟨v8, rfl, hown8, hb8⟩
  obtain ⟨x8, y8, rfl, hR8⟩ := owns_isB hown8 HX3.out
  have hBc' := hBc.below hb8
  have hAc' := hAc.below hb8
  have hc' := hc.trans (hb8.mono hc.size)
  have hR7' := hR7.below hb8
  clear hown8 hb8 hBc hAc hc hR7
  have hBc := hBc'
  have hAc := hAc'
  have hc := hc'
  clear hBc' hAc' hc'
  have HS := hide (same_any x7 x8 (len + (num s.size).length + s.size) y7 (len + (num s.size).length + s.size) y8 (l ++ num s.size ++ bl s) (l ++ num s.size ++ bl s) w8 hR7' hR8)
  rw [decide_eq_true rfl] at HS
  clear hR7' hR8
  go_wp2_with fail
  refine HS.out.mono ?_
  rintro e u8 ⟨rfl, hw⟩
  subst hw
  clear HS
  have HS := hide (same_any a1 a len c1 len cap l l _ hBc hAc)
  rw [decide_eq_true rfl] at HS
  go_wp2_with fail
  refine HS.out.mono ?_
  rintro e w' ⟨rfl, hw⟩
  subst hw
  go_wp2
  go_ret
  exact ⟨rfl, hc⟩
theorem codecWrites.lawWalkUpto (a : Option Addr) (len cap : Nat) (l : List Nat) (n m : Int) (s : ByteArray) (w : World) (h : IsB w a len cap l) (wn : (Lit.int .u64 n).wf = true) (wm : (Lit.int .i64 m).wf = true) (hr : len + s.size ≤ 1048576) : Calls Try.prog 3 #[.slice a len cap, .int .u64 n, .int .i64 m, .string s] w fun e w' => e = .returned (.bool true) ∧ Below w.heap.size w w' := by
  obtain ⟨h0, h1⟩ := bounds_u64 wn
  obtain ⟨h2, h3⟩ := bounds_i64 wm
  obtain ⟨n, rfl⟩ := Int.eq_ofNat_of_zero_le h0
  exact writes_any a len cap l n m s w h (by omega) h2 (by omega) hr
end Go.Proofs.Ytnimlpbalfamcaa
