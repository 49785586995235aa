/- the walk of CodecReads -/
import Derived.Test.YtnimlpbalfamcaaM
namespace Go.Proofs.Ytnimlpbalfamcaa
open Go.RowKit Cod
set_option maxHeartbeats 2000000 in
theorem reads_any (a : Option Addr) (len cap : Nat) (l : List Nat) (w : World) (h : IsB w a len cap l) (hr : cap ≤ 140737488351232) : Calls Try.prog 4 #[.slice a len cap] w fun e w' => e = .returned (.bool true) ∧ Below w.heap.size w w' := by
  have hcl := h.2.1
  have hx := h.2.2.2.1
  have hlen := h.1
  have hk : len ≤ 140737488355328 := by omega
  go_enter Try.func4, Try.ntmps4
  go_wp2_with (at_builtin; refine wpList_clone rfl _ _ rfl w.heap.size _ 0 [] rfl (owns_empty w _ (Nat.le_refl _)) a len cap l rfl ?hB ?hb ?hbase w.heap.size w ?bel (Nat.le_refl _) ?_)
  case hB => exact h.below ((Below.refl _ _).alloc (Nat.le_refl _) _)
  case hb => omega
  case hbase => simp
  case bel => exact (Below.refl _ _).alloc (Nat.le_refl _) _
  intro v w1 hown0 hb1
  have hown : w1.ownsRow w.heap.size 5 1 v len (bv l) := by simpa using hown0
  obtain ⟨a1, c1, rfl, hB1⟩ := owns_isB hown hx
  have hA1 := h.below hb1
  clear hown hown0
  have Hk := hide hk
  have Hx := hide hx
  have Hlen := hide hlen
  clear hk hlen hcl hr hx h
  cases hn : rdNum l with
  | none =>
    have ht : rdText 1024 l = .error 6 := by unfold rdText; rw [hn]
    have HN := hide hn
    have HT := hide ht
    clear hn ht
    go_wp2_with fail
    refine (readNum_no a1 len c1 l w1 hB1 Hk.out HN.out).mono ?_
    rintro e w2 ⟨rfl, hb2⟩
    have hB2 := hB1.below hb2
    have hA2 := hA1.below hb2
    have h2 := hb1.trans (hb2.mono hb1.size)
    clear hB1 hA1 hb1 hb2
    go_wp2_with fail
    refine (refReadNum_no a len cap l w2 hA2 Hk.out HN.out).mono ?_
    rintro e w3 ⟨rfl, hb3⟩
    have hB3 := hB2.below hb3
    have hA3 := hA2.below hb3
    have h3 := h2.trans (hb3.mono h2.size)
    clear hB2 hA2 h2 hb3
    go_wp2_with fail
    refine (readInt_no a1 len c1 l w3 hB3 Hk.out HN.out).mono ?_
    rintro e w4 ⟨rfl, hb4⟩
    have hB4 := hB3.below hb4
    have hA4 := hA3.below hb4
    have h4 := h3.trans (hb4.mono h3.size)
    clear hB3 hA3 h3 hb4
    go_wp2_with fail
    refine (refReadInt_no a len cap l w4 hA4 Hk.out HN.out).mono ?_
    rintro e w5 ⟨rfl, hb5⟩
    have hB5 := hB4.below hb5
    have hA5 := hA4.below hb5
    have h5 := h4.trans (hb5.mono h4.size)
    clear hB4 hA4 h4 hb5
    go_wp2_with fail
    refine (readText_no a1 len c1 l w5 hB5 Hk.out 6 HT.out).mono ?_
    rintro e w6 ⟨rfl, hb6⟩
    have hB6 := hB5.below hb6
    have hA6 := hA5.below hb6
    have h6 := h5.trans (hb6.mono h5.size)
    clear hB5 hA5 h5 hb6
    go_wp2_with fail
    refine (refReadText_no a len cap l w6 hA6 Hk.out 6 HT.out).mono ?_
    rintro e w7 ⟨rfl, hb7⟩
    have hB7 := hB6.below hb7
    have hA7 := hA6.below hb7
    have h7 := h6.trans (hb7.mono h6.size)
    clear hB6 hA6 h6 hb7
    go_wp2_with fail
    refine (lives_any w7).mono ?_
    rintro e w8 ⟨rfl, hb8⟩
    have HB8 := hide (hB7.below hb8)
    have HA8 := hide (hA7.below hb8)
    have H8 := hide (h7.trans (hb8.mono h7.size))
    clear hB7 hA7 h7 hb8
    have HS := hide (same_any none none 0 0 0 0 [] [] w8 (isB_nil w8) (isB_nil w8))
    rw [decide_eq_true rfl] at HS
    have HG := hide (same_any a1 a len c1 len cap l l w8 HB8.out HA8.out)
    rw [decide_eq_true rfl] at HG
    go_wp2_with (first | (go_at_call_of 13 (Value.slice none 0 0); refine HS.out.mono ?_; rintro e w' ⟨rfl, rfl⟩) | (go_at_call_of 13 (Value.slice a1 len c1); refine HG.out.mono ?_; rintro e w' ⟨rfl, rfl⟩))
    go_ret
    exact ⟨rfl, H8.out⟩
  | some nr =>
    obtain ⟨n, r0⟩ := nr
    obtain ⟨p, hp, rfl, hn2⟩ := rdNum_drop Hx.out hn
    have HN := hide hn
    have Hp : Hid (p ≤ len) := hide (by have := Hlen.out; omega)
    clear hn hp
    cases ht : rdText 1024 l with
    | error k =>
      have HT := hide ht
      clear ht
      have h1 := hb1
      go_wp2_with fail
      refine (readNum_of a1 len c1 l w1 hB1 Hk.out n p HN.out Hp.out).mono ?_
      rintro e w2 ⟨⟨x2, y2, rfl, hC2⟩, hb2⟩
      have hB2q := hB1.below hb2
      have hA2q := hA1.below hb2
      have h2 := h1.trans (hb2.mono h1.size)
      clear hB1 hA1 h1 hb2 hb1
      go_wp2_with fail
      refine (refReadNum_of a len cap l w2 hA2q Hk.out n p HN.out Hp.out).mono ?_
      rintro e w3 ⟨⟨x3, y3, rfl, hC3⟩, hb3⟩
      have hB3q := hB2q.below hb3
      have hA3q := hA2q.below hb3
      have hR23q := hC2.below hb3
      have h3 := h2.trans (hb3.mono h2.size)
      clear hB2q hA2q hC2 h2 hb3
      go_wp2_with fail
      refine (readInt_of a1 len c1 l w3 hB3q Hk.out n p HN.out Hp.out).mono ?_
      rintro e w4 ⟨⟨x4, y4, rfl, hC4⟩, hb4⟩
      have hB4q := hB3q.below hb4
      have hA4q := hA3q.below hb4
      have hR24q := hR23q.below hb4
      have hR34q := hC3.below hb4
      have h4 := h3.trans (hb4.mono h3.size)
      clear hB3q hA3q hR23q hC3 h3 hb4
      go_wp2_with fail
      refine (refReadInt_of a len cap l w4 hA4q Hk.out n p HN.out Hp.out).mono ?_
      rintro e w5 ⟨⟨x5, y5, rfl, hC5⟩, hb5⟩
      have hB5q := hB4q.below hb5
      have hA5q := hA4q.below hb5
      have hR25q := hR24q.below hb5
      have hR35q := hR34q.below hb5
      have hR45q := hC4.below hb5
      have h5 := h4.trans (hb5.mono h4.size)
      clear hB4q hA4q hR24q hR34q hC4 h4 hb5
      go_wp2_with fail
      refine (readText_no a1 len c1 l w5 hB5q Hk.out k HT.out).mono ?_
      rintro e w6 ⟨rfl, hb6⟩
      have hB6q := hB5q.below hb6
      have hA6q := hA5q.below hb6
      have hR26q := hR25q.below hb6
      have hR36q := hR35q.below hb6
      have hR46q := hR45q.below hb6
      have hR56q := hC5.below hb6
      have h6 := h5.trans (hb6.mono h5.size)
      clear hB5q hA5q hR25q hR35q hR45q hC5 h5 hb6
      go_wp2_with fail
      refine (refReadText_no a len cap l w6 hA6q Hk.out k HT.out).mono ?_
      rintro e w7 ⟨rfl, hb7⟩
      have hB7q := hB6q.below hb7
      have hA7q := hA6q.below hb7
      have hR27q := hR26q.below hb7
      have hR37q := hR36q.below hb7
      have hR47q := hR46q.below hb7
      have hR57q := hR56q.below hb7
      have h7 := h6.trans (hb7.mono h6.size)
      clear hB6q hA6q hR26q hR36q hR46q hR56q h6 hb7
      go_wp2_with fail
      refine (lives_any w7).mono ?_
      rintro e w8 ⟨rfl, hb8⟩
      have HB := hide (hB7q.below hb8)
      have HA := hide (hA7q.below hb8)
      have HR2 := hide (hR27q.below hb8)
      have HR3 := hide (hR37q.below hb8)
      have HR4 := hide (hR47q.below hb8)
      have HR5 := hide (hR57q.below hb8)
      have HF := hide (h7.trans (hb8.mono h7.size))
      clear hB7q hA7q hR27q hR37q hR47q hR57q h7 hb8
      have S0 := hide (same_any x2 x3 (len - p) y2 (len - p) y3 (l.drop p) (l.drop p) w8 HR2.out HR3.out)
      rw [decide_eq_true rfl] at S0
      have S1 := hide (same_any x4 x5 (len - p) y4 (len - p) y5 (l.drop p) (l.drop p) w8 HR4.out HR5.out)
      rw [decide_eq_true rfl] at S1
      have S2 := hide (same_any a1 a len c1 len cap l l w8 HB.out HA.out)
      rw [decide_eq_true rfl] at S2
      have S9 := hide (same_any none none 0 0 0 0 [] [] w8 (isB_nil w8) (isB_nil w8))
      rw [decide_eq_true rfl] at S9
      have e1 : ((n : Int) == (n : Int)) = true := by simp
      have e2 : ((zag n) == (zag n)) = true := by simp
      have e3 : ((k : Int) == (k : Int)) = true := by simp
      have e4 : ((str []).toList == (str []).toList) = true := by simp
      generalize zag n = z at *
      go_wp2_with (first | (go_at_call_of 13 (Value.slice x2 (len - p) y2); refine S0.out.mono ?_; rintro e w' ⟨rfl, rfl⟩) | (go_at_call_of 13 (Value.slice x4 (len - p) y4); refine S1.out.mono ?_; rintro e w' ⟨rfl, rfl⟩) | (go_at_call_of 13 (Value.slice a1 len c1); refine S2.out.mono ?_; rintro e w' ⟨rfl, rfl⟩) | (go_at_call_of 13 (Value.slice none 0 0); refine S9.out.mono ?_; rintro e w' ⟨rfl, rfl⟩))
      go_ret
      exact ⟨rfl, HF.out⟩
    | ok sr =>
      obtain ⟨s, r⟩ := sr
      have HT := hide ht
      clear ht
      have h1 := hb1
      go_wp2_with fail
      refine (readNum_of a1 len c1 l w1 hB1 Hk.out n p HN.out Hp.out).mono ?_
      rintro e w2 ⟨⟨x2, y2, rfl, hC2⟩, hb2⟩
      have hB2q := hB1.below hb2
      have hA2q := hA1.below hb2
      have h2 := h1.trans (hb2.mono h1.size)
      clear hB1 hA1 h1 hb2 hb1
      go_wp2_with fail
      refine (refReadNum_of a len cap l w2 hA2q Hk.out n p HN.out Hp.out).mono ?_
      rintro e w3 ⟨⟨x3, y3, rfl, hC3⟩, hb3⟩
      have hB3q := hB2q.below hb3
      have hA3q := hA2q.below hb3
      have hR23q := hC2.below hb3
      have h3 := h2.trans (hb3.mono h2.size)
      clear hB2q hA2q hC2 h2 hb3
      go_wp2_with fail
      refine (readInt_of a1 len c1 l w3 hB3q Hk.out n p HN.out Hp.out).mono ?_
      rintro e w4 ⟨⟨x4, y4, rfl, hC4⟩, hb4⟩
      have hB4q := hB3q.below hb4
      have hA4q := hA3q.below hb4
      have hR24q := hR23q.below hb4
      have hR34q := hC3.below hb4
      have h4 := h3.trans (hb4.mono h3.size)
      clear hB3q hA3q hR23q hC3 h3 hb4
      go_wp2_with fail
      refine (refReadInt_of a len cap l w4 hA4q Hk.out n p HN.out Hp.out).mono ?_
      rintro e w5 ⟨⟨x5, y5, rfl, hC5⟩, hb5⟩
      have hB5q := hB4q.below hb5
      have hA5q := hA4q.below hb5
      have hR25q := hR24q.below hb5
      have hR35q := hR34q.below hb5
      have hR45q := hC4.below hb5
      have h5 := h4.trans (hb5.mono h4.size)
      clear hB4q hA4q hR24q hR34q hC4 h4 hb5
      go_wp2_with fail
      refine (readText_of a1 len c1 l w5 hB5q Hk.out s r HT.out).mono ?_
      rintro e w6 ⟨⟨x6, y6, rfl, hC6⟩, hb6⟩
      have hB6q := hB5q.below hb6
      have hA6q := hA5q.below hb6
      have hR26q := hR25q.below hb6
      have hR36q := hR35q.below hb6
      have hR46q := hR45q.below hb6
      have hR56q := hC5.below hb6
      have h6 := h5.trans (hb6.mono h5.size)
      clear hB5q hA5q hR25q hR35q hR45q hC5 h5 hb6
      go_wp2_with fail
      refine (refReadText_of a len cap l w6 hA6q Hk.out s r HT.out).mono ?_
      rintro e w7 ⟨⟨x7, y7, rfl, hC7⟩, hb7⟩
      have hB7q := hB6q.below hb7
      have hA7q := hA6q.below hb7
      have hR27q := hR26q.below hb7
      have hR37q := hR36q.below hb7
      have hR47q := hR46q.below hb7
      have hR57q := hR56q.below hb7
      have hR67q := hC6.below hb7
      have h7 := h6.trans (hb7.mono h6.size)
      clear hB6q hA6q hR26q hR36q hR46q hR56q hC6 h6 hb7
      go_wp2_with fail
      refine (lives_any w7).mono ?_
      rintro e w8 ⟨rfl, hb8⟩
      have HB := hide (hB7q.below hb8)
      have HA := hide (hA7q.below hb8)
      have HR2 := hide (hR27q.below hb8)
      have HR3 := hide (hR37q.below hb8)
      have HR4 := hide (hR47q.below hb8)
      have HR5 := hide (hR57q.below hb8)
      have HR6 := hide (hR67q.below hb8)
      have HR7 := hide (hC7.below hb8)
      have HF := hide (h7.trans (hb8.mono h7.size))
      clear hB7q hA7q hR27q hR37q hR47q hR57q hR67q hC7 h7 hb8
      have S0 := hide (same_any x2 x3 (len - p) y2 (len - p) y3 (l.drop p) (l.drop p) w8 HR2.out HR3.out)
      rw [decide_eq_true rfl] at S0
      have S1 := hide (same_any x4 x5 (len - p) y4 (len - p) y5 (l.drop p) (l.drop p) w8 HR4.out HR5.out)
      rw [decide_eq_true rfl] at S1
      have S2 := hide (same_any x6 x7 r.length y6 r.length y7 r r w8 HR6.out HR7.out)
      rw [decide_eq_true rfl] at S2
      have S3 := hide (same_any a1 a len c1 len cap l l w8 HB.out HA.out)
      rw [decide_eq_true rfl] at S3
      have e1 : ((n : Int) == (n : Int)) = true := by simp
      have e2 : ((zag n) == (zag n)) = true := by simp
      have e3 : ((str s).toList == (str s).toList) = true := by simp
      generalize str s = st at *
      generalize zag n = z at *
      go_wp2_with (first | (go_at_call_of 13 (Value.slice x2 (len - p) y2); refine S0.out.mono ?_; rintro e w' ⟨rfl, rfl⟩) | (go_at_call_of 13 (Value.slice x4 (len - p) y4); refine S1.out.mono ?_; rintro e w' ⟨rfl, rfl⟩) | (go_at_call_of 13 (Value.slice x6 r.length y6); refine S2.out.mono ?_; rintro e w' ⟨rfl, rfl⟩) | (go_at_call_of 13 (Value.slice a1 len c1); refine S3.out.mono ?_; rintro e w' ⟨rfl, rfl⟩))
      go_ret
      exact ⟨rfl, HF.out⟩
theorem codecReads.lawWalk (a : Option Addr) (len cap : Nat) (l : List Nat) (w : World) (h : IsB w a len cap l) (hr : cap ≤ 140737488351232) : Calls Try.prog 4 #[.slice a len cap] w fun e w' => e = .returned (.bool true) ∧ Below w.heap.size w w' := reads_any a len cap l w h hr
end Go.Proofs.Ytnimlpbalfamcaa
