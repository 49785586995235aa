/- the walk of CodecOrder -/
import Derived.Test.YtnimlpbalfamcaaO
import Derived.Test.YtnimlpbalfamcaaP
namespace Go.Proofs.Ytnimlpbalfamcaa
open Go.RowKit Cod
theorem key_ok {ps : List Part} {l : List Nat} (h : key ps = .ok l) : l = keyB ps ∧ (∀ p ∈ ps, isPart p = true) ∧ ps.length ≤ 16 ∧ (keyB ps).length ≤ 256 := by
  unfold key at h
  split at h
  · cases h
  · rename_i h1
    split at h
    · cases h
    · rename_i h2
      split at h
      · cases h
      · rename_i h3
        cases h
        refine ⟨rfl, ?_, by omega, by omega⟩
        simpa using h2
theorem IsB.front_any {w : World} {a : Option Addr} {len cap : Nat} {l : List Nat} (h : IsB w a len cap l) (n : Nat) (hn : n ≤ len) : IsB w a n cap (l.take n) := by
  rcases h.2.2.2.2 with ⟨h5, h6⟩ | ⟨b, off, rfl, _, _⟩
  · obtain rfl : n = 0 := by omega
    exact ⟨by simp, by omega, h.2.2.1, by simp, .inl ⟨rfl, h6⟩⟩
  · exact h.front n hn
set_option maxRecDepth 10000 in
set_option maxHeartbeats 2000000 in
theorem order_law (a b : Option Addr) (la ca lb cb : Nat) (ps qs : List Part) (w : World) (hP : IsP w a la ca ps) (hQ : IsP w b lb cb qs) (hm1 : ∀ p ∈ ps, p.s.length ≤ 1048576) (hm2 : ∀ p ∈ qs, p.s.length ≤ 1048576) :
    Calls Try.prog 9 #[.slice a la ca, .slice b lb cb] w fun e w' => e = .returned (.bool true) ∧ Below w.heap.size w w' := by
  have Hm1 := hide hm1
  have Hm2 := hide hm2
  clear hm1 hm2
  go_enter Try.func9, Try.ntmps9
  go_wp2_with fail
  refine (lives_any w).mono ?_
  rintro e w1 ⟨rfl, hb1⟩
  have hP1 := hP.below hb1
  have hQ1 := hQ.below hb1
  clear hP hQ
  go_wp2_with fail
  refine (key_any a la ca ps w1 hP1 Hm1.out).mono ?_
  rintro e w2 ⟨hk1, hb2⟩
  have hP2 := hP1.below hb2
  have hQ2 := hQ1.below hb2
  have h2 := hb1.trans (hb2.mono hb1.size)
  clear hP1 hQ1 hb1
  rcases hk1 with ⟨v1, k1, rfl, hown1⟩ | ⟨n1, k1, hn1, rfl⟩
  case inr =>
    have d1 : ((n1 : Int) != 0) = true := by simp; omega
    have d2 : ((n1 : Int) == 0) = false := by simp; omega
    clear k1
    go_wp2_with fail
    refine (key_any b lb cb qs w2 hQ2 Hm2.out).mono ?_
    rintro e w3 ⟨(⟨v2, k2, rfl, hown2⟩ | ⟨n2, k2, hn2, rfl⟩), hb3⟩
    · clear k2 hown2
      have h3 := h2.trans (hb3.mono h2.size)
      go_wp2
      go_ret
      exact ⟨rfl, h3⟩
    · clear k2
      have h3 := h2.trans (hb3.mono h2.size)
      go_wp2
      go_ret
      exact ⟨rfl, h3⟩
  have ok1 := hP2.2.2.2.1
  have ok2 := hQ2.2.2.2.1
  obtain ⟨x1, y1, rfl, hB1⟩ := owns_isB hown1 (keyB_lt ok1)
  clear hown1
  go_wp2_with fail
  refine (key_any b lb cb qs w2 hQ2 Hm2.out).mono ?_
  rintro e w3 ⟨(⟨v2, k2, rfl, hown2⟩ | ⟨n2, k2, hn2, rfl⟩), hb3⟩
  case inr =>
    have d1 : ((n2 : Int) != 0) = true := by simp; omega
    clear k2 k1
    have h3 := h2.trans (hb3.mono h2.size)
    go_wp2
    go_ret
    exact ⟨rfl, h3⟩
  obtain ⟨x2, y2, rfl, hB2⟩ := owns_isB hown2 (keyB_lt ok2)
  have hP3 := hP2.below hb3
  have hQ3 := hQ2.below hb3
  have hB1' := hB1.below hb3
  have h3 := h2.trans (hb3.mono h2.size)
  clear hown2 hP2 hQ2 hB1 hb3 h2 hb2
  obtain ⟨_, ip, _, hq1⟩ := key_ok k1
  obtain ⟨_, iq, _, hq2⟩ := key_ok k2
  have HS : Hid (sgn (keyB ps) (keyB qs) = ord ps qs) := hide (key_sign ps qs (fun p hp => ⟨ok1 p hp, ip p hp⟩) (fun p hp => ⟨ok2 p hp, iq p hp⟩))
  have HPRE : Hid (ps.length = qs.length → ∀ s, keyB qs = keyB ps ++ s → s = []) := hide (fun hl s hs => key_pre ps qs s (fun p hp => ⟨ok1 p hp, ip p hp⟩) (fun p hp => ⟨ok2 p hp, iq p hp⟩) hl hs)
  have HL1 := hide hP3.1
  have HL2 := hide hQ3.1
  clear k1 k2 ip iq
  go_wp2_with fail
  refine (sign_any x1 x2 _ y1 _ y2 _ _ w3 hB1' hB2).mono ?_
  rintro e w4 ⟨rfl, rfl⟩
  go_wp2_with fail
  refine (order_any a b la ca lb cb ps qs w4 hP3 hQ3).mono ?_
  rintro e w5 ⟨rfl, hb5⟩
  have hB1 := hB1'.below hb5
  have hB2' := hB2.below hb5
  have h5 := h3.trans (hb5.mono h3.size)
  have H5 := hide h5
  clear hB1' hB2 h3 hb5 h5 hP3 hQ3 ok1 ok2
  rw [HS.out]
  have n1 : (ord ps qs != ord ps qs) = false := by simp
  generalize ord ps qs = od at *
  have hc1 : (keyB ps).length ≤ y1 := hB1.2.1
  have hc2 : (keyB qs).length ≤ y2 := hB2'.2.1
  have hcm2 : y2 ≤ 9223372036854775807 := hB2'.2.2.1
  have HP1 : Hid ((keyB qs).take (keyB ps).length = keyB ps → la = lb → (keyB ps).length = (keyB qs).length) := hide (fun ht hl => by
    have h1 : keyB qs = keyB ps ++ (keyB qs).drop (keyB ps).length := by
      conv => lhs; rw [← List.take_append_drop (keyB ps).length (keyB qs), ht]
    have h2 := HPRE.out (by rw [HL1.out, HL2.out, hl]) _ h1
    rw [h2, List.append_nil] at h1
    rw [h1])
  have cv1 := fun q => conv_str (hB1.below (below_drewN (Below.refl _ _) q))
  have hF := fun n hn => hB2'.front_any n hn
  have hxs1 := hB1.2.2.2.1
  have hxs2 := hB2'.2.2.2.1
  have hno : x2 = none → y2 = 0 := fun h0 => by
    rcases hB2'.2.2.2.2 with ⟨_, h6⟩ | ⟨_, _, h6, _⟩
    · exact h6 h0
    · rw [h0] at h6; cases h6
  clear hB1 hB2' HPRE HS Hm1 Hm2
  generalize keyB ps = K1 at *
  generalize keyB qs = K2 at *
  by_cases hll : la = lb
  case neg =>
    have d1 : ((la : Int) != (lb : Int)) = true := by simp; omega
    clear hF
    go_wp2
    go_quiet (fail)
    go_wp2
    go_ret
    exact ⟨rfl, below_drewN H5.out nq⟩
  have d1 : ((la : Int) != (lb : Int)) = false := by simp; omega
  have HLL := hide hll
  clear hll
  by_cases hN : K2.length < K1.length
  · have d2 : decide ((K2.length : Int) < (K1.length : Int)) = true := by simp; omega
    have d3 : decide (K2.length < K1.length) = true := by simp; omega
    clear hF
    generalize K1.length = N1 at *
    generalize K2.length = N2 at *
    go_wp2
    go_quiet (fail)
    go_wp2
    go_ret
    exact ⟨rfl, below_drewN H5.out nq⟩
  have d2 : decide ((K2.length : Int) < (K1.length : Int)) = false := by simp; omega
  have d3 : decide (K2.length < K1.length) = false := by simp; omega
  have hBF := hF K1.length (by omega)
  have cv2 := fun q => conv_str (hBF.below (below_drewN (Below.refl _ _) q))
  have se := str_eq (mem_take (k := K1.length) hxs2) hxs1
  have hN1 : K1.length ≤ y2 := by omega
  have hN2 : K1.length ≤ K2.length := by omega
  clear hF hBF hN
  by_cases heq : K2.take K1.length = K1
  · have hNN := HP1.out heq HLL.out
    rw [decide_eq_true heq] at se
    have se2 : (!((str (K2.take K1.length)).toList == (str K1).toList)) = false := by rw [se]; rfl
    have d4 : ((K1.length : Int) == (K2.length : Int)) = true := by simp; omega
    clear heq HP1 hNN
    generalize str (K2.take K1.length) = t1 at *
    generalize str K1 = t2 at *
    generalize K1.length = N1 at *
    generalize K2.length = N2 at *
    cases x2 with
    | none =>
      obtain rfl := hno rfl
      obtain rfl : N2 = 0 := by omega
      obtain rfl : N1 = 0 := by omega
      go_wp2
      go_quiet (fail)
      go_wp2
      go_ret
      exact ⟨rfl, below_drewN H5.out nq⟩
    | some ad =>
      clear hno
      go_wp2
      go_quiet (fail)
      go_wp2
      go_ret
      exact ⟨rfl, below_drewN H5.out nq⟩
  · rw [decide_eq_false heq] at se
    have se2 : (!((str (K2.take K1.length)).toList == (str K1).toList)) = true := by rw [se]; rfl
    clear heq HP1
    generalize str (K2.take K1.length) = t1 at *
    generalize str K1 = t2 at *
    generalize K1.length = N1 at *
    generalize K2.length = N2 at *
    cases x2 with
    | none =>
      obtain rfl := hno rfl
      obtain rfl : N2 = 0 := by omega
      obtain rfl : N1 = 0 := by omega
      go_wp2
      go_quiet (fail)
      go_wp2
      go_ret
      exact ⟨rfl, below_drewN H5.out nq⟩
    | some ad =>
      clear hno
      go_wp2
      go_quiet (fail)
      go_wp2
      go_ret
      exact ⟨rfl, below_drewN H5.out nq⟩
theorem codecOrder.lawWalkUpto (a : Option Addr) (la ca : Nat) (ps : List Part) (b : Option Addr) (lb cb : Nat) (qs : List Part) (w : World) (hP : IsP w a la ca ps) (hm1 : ∀ p ∈ ps, p.s.length ≤ 1048576) (hQ : IsP w b lb cb qs) (hm2 : ∀ p ∈ qs, p.s.length ≤ 1048576) :
    Calls Try.prog 9 #[.slice a la ca, .slice b lb cb] w fun e w' => e = .returned (.bool true) ∧ Below w.heap.size w w' := order_law a b la ca lb cb ps qs w hP hQ hm1 hm2
end Go.Proofs.Ytnimlpbalfamcaa
