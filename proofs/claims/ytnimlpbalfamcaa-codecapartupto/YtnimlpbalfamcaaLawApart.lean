/- the walk of CodecApart -/
import Derived.Test.YtnimlpbalfamcaaR
import Derived.Test.YtnimlpbalfamcaaL
import Derived.Test.YtnimlpbalfamcaaMath4
import Derived.Test.YtnimlpbalfamcaaP2
namespace Go.Proofs.Ytnimlpbalfamcaa
open Go.RowKit Cod
open Classical
theorem keyOk {ps : List Part} {l : List Nat} (h : key ps = .ok l) : l = keyB ps ∧ (∀ p ∈ ps, isPart p = true) := by
  unfold key at h
  split at h
  · cases h
  · split at h
    · cases h
    · rename_i h2
      split at h
      · cases h
      · cases h
        exact ⟨rfl, by simpa using h2⟩
theorem ord_zero (a : List Part) : ∀ b, (∀ p ∈ a, isPart p = true) → (∀ p ∈ b, isPart p = true) → ord a b = 0 → a = b := by
  induction a with
  | nil => intro b _ _ h; cases b with
    | nil => rfl
    | cons q b => cases h
  | cons p a ih =>
    intro b ha hb h
    cases b with
    | nil => cases h
    | cons q b =>
      rw [ord] at h
      split at h
      · cases h
      · rename_i h1
        split at h
        · cases h
        · rename_i h2
          rw [below_total (ha p (by simp)) (hb q (by simp)) (by simpa using h1) (by simpa using h2), ih b (fun x hx => ha x (by simp [hx])) (fun x hx => hb x (by simp [hx])) h]
theorem key_apart {a b : List Part} (oa : ∀ p ∈ a, okP p) (ob : ∀ p ∈ b, okP p) (ha : key a = .ok (keyB a)) (hb : key b = .ok (keyB b)) : keyB a = keyB b ↔ a = b := by
  obtain ⟨_, ia⟩ := keyOk ha
  obtain ⟨_, ib⟩ := keyOk hb
  constructor
  · intro h
    have hs := key_sign a b (fun p hp => ⟨oa p hp, ia p hp⟩) (fun p hp => ⟨ob p hp, ib p hp⟩)
    rw [h, lt_self, if_neg (by decide), if_pos rfl] at hs
    exact ord_zero a b ia ib hs.symm
  · intro h; rw [h]
theorem ents_lt {es : List Ent} {l : List Nat} (h : entries es = .ok l) (hx : ∀ e ∈ es, (∀ x ∈ e.1, x < 256) ∧ (∀ x ∈ e.2, x < 256)) : ∀ x ∈ l, x < 256 := by
  unfold entries at h
  split at h
  · cases h
  · split at h
    · cases h
    · cases h
      intro x hx'
      rcases List.mem_append.1 hx' with h1 | h1
      · exact num_lt _ x h1
      · simp only [entsB, List.mem_flatMap, entB] at h1
        obtain ⟨e, he, h1⟩ := h1
        rcases List.mem_append.1 h1 with h1 | h1
        · exact text_lt (hx e he).1 x h1
        · exact text_lt (hx e he).2 x h1
theorem IsE.lts {w : World} {a : Option Addr} {len cap : Nat} {es : List Ent} (h : IsE w a len cap es) : ∀ e ∈ es, (∀ x ∈ e.1, x < 256) ∧ (∀ x ∈ e.2, x < 256) := by
  intro e he
  obtain ⟨i, hi⟩ := List.getElem?_of_mem he
  rcases h.2.2.2 with ⟨h0, _⟩ | ⟨b, off, _, _, hc⟩
  · have := h.1
    have hl : es = [] := List.length_eq_zero_iff.1 (by omega)
    rw [hl] at he; cases he
  · obtain ⟨_, _, _, _, _, _, b1, b2⟩ := hc i e hi
    exact ⟨b1.2.2.2.1, b2.2.2.2.1⟩
set_option maxRecDepth 10000 in
set_option maxHeartbeats 2000000 in
theorem apart_law (a : Option Addr) (la ca : Nat) (es : List Ent) (b : Option Addr) (lb cb : Nat) (fs : List Ent) (c : Option Addr) (lc cc : Nat) (ps : List Part) (d : Option Addr) (ld cd : Nat) (qs : List Part) (w : World)
    (hE : IsE w a la ca es) (hF : IsE w b lb cb fs) (hP : IsP w c lc cc ps) (hm1 : ∀ p ∈ ps, p.s.length ≤ 1048576) (hQ : IsP w d ld cd qs) (hm2 : ∀ p ∈ qs, p.s.length ≤ 1048576) :
    Calls Try.prog 10 #[.slice a la ca, .slice b lb cb, .slice c lc cc, .slice d ld cd] w fun e w' => e = .returned (.bool true) ∧ Below w.heap.size w w' := by
  have Hm1 := hide hm1
  have Hm2 := hide hm2
  clear hm1 hm2
  go_enter Try.func10, Try.ntmps10
  go_wp2_with fail
  refine (lives_any w).mono ?_
  rintro e w1 ⟨rfl, hb1⟩
  go_wp2_with fail
  refine (entries_any a la ca es w1 (hE.below hb1)).mono ?_
  rintro e w2 ⟨hk1, hb2⟩
  have h2 := hb1.trans (hb2.mono hb1.size)
  clear hb1
  have hE2 := hE.below h2
  have hF2 := hF.below h2
  have hP2 := hP.below h2
  have hQ2 := hQ.below h2
  clear hE hF hP hQ hb2
  rcases hk1 with ⟨v1, l1, k1, rfl, hown1⟩ | ⟨n1, k1, hn1, rfl⟩
  case inr =>
    have d0 : ((n1 : Int) == 0) = false := by simp; omega
    clear k1
    go_wp2_with fail
    refine (entries_any b lb cb fs w2 hF2).mono ?_
    rintro e w3 ⟨(⟨v2, l2, k2, rfl, hown2⟩ | ⟨n2, k2, hn2, rfl⟩), hb3⟩
    · clear k2 hown2
      have h3 := h2.trans (hb3.mono h2.size)
      have hP3 := hP2.below hb3
      have hQ3 := hQ2.below hb3
      clear hP2 hQ2 h2 hb3 hE2 hF2
      go_wp2
      go_quiet (fail)
      have hPc := hP3.below (below_drewN (Below.refl _ _) nq)
      have hQc := hQ3.below (below_drewN (Below.refl _ _) nq)
      have hc := below_drewN h3 nq
      clear hP3 hQ3 h3
      generalize w3.drewN nq = wc at *
      go_wp2_with fail
      refine (key_any c lc cc ps wc hPc Hm1.out).mono ?_
      rintro e w5 ⟨hk3, hb5⟩
      have hP5 := hPc.below hb5
      have hQ5 := hQc.below hb5
      have h5 := hc.trans (hb5.mono hc.size)
      clear hPc hQc hc
      rcases hk3 with ⟨v3, k3, rfl, hown3⟩ | ⟨n3, k3, hn3, rfl⟩
      case inr =>
        have d1 : ((n3 : Int) != 0) = true := by simp; omega
        clear k3
        go_wp2_with fail
        refine (key_any d ld cd qs w5 hQ5 Hm2.out).mono ?_
        rintro e w6 ⟨(⟨v4, k4, rfl, hown4⟩ | ⟨n4, k4, hn4, rfl⟩), hb6⟩
        · have h6 := h5.trans (hb6.mono h5.size)
          clear k4 hown4
          go_wp2
          go_quiet (fail)
          go_wp2
          go_ret
          exact ⟨rfl, below_drewN h6 nq⟩
        · have h6 := h5.trans (hb6.mono h5.size)
          clear k4
          go_wp2
          go_quiet (fail)
          go_wp2
          go_ret
          exact ⟨rfl, below_drewN h6 nq⟩
      obtain ⟨x3, y3, rfl, hB3⟩ := owns_isB hown3 (keyB_lt hP5.2.2.2.1)
      clear hown3
      go_wp2_with fail
      refine (key_any d ld cd qs w5 hQ5 Hm2.out).mono ?_
      rintro e w6 ⟨(⟨v4, k4, rfl, hown4⟩ | ⟨n4, k4, hn4, rfl⟩), hb6⟩
      case inr =>
        have h6 := h5.trans (hb6.mono h5.size)
        have d1 : ((n4 : Int) != 0) = true := by simp; omega
        clear k4 k3
        go_wp2
        go_quiet (fail)
        go_wp2
        go_ret
        exact ⟨rfl, below_drewN h6 nq⟩
      obtain ⟨x4, y4, rfl, hB4⟩ := owns_isB hown4 (keyB_lt hQ5.2.2.2.1)
      have h6 := h5.trans (hb6.mono h5.size)
      have hP6 := hP5.below hb6
      have hQ6 := hQ5.below hb6
      have hB3' := hB3.below hb6
      have hap := key_apart hP5.2.2.2.1 hQ5.2.2.2.1 k3 k4
      have se := str_eq hB3.2.2.2.1 hB4.2.2.2.1
      have cv3 := fun n => conv_str (hB3'.below (below_drewN (Below.refl _ _) n))
      have cv4 := fun n => conv_str (hB4.below (below_drewN (Below.refl _ _) n))
      have SP := fun n => hide (sameParts_any c d lc cc ld cd ps qs (w6.drewN n) (hP6.below (below_drewN (Below.refl _ _) n)) (hQ6.below (below_drewN (Below.refl _ _) n)))
      clear hown4 hB3 hB4 hP5 hQ5 hP6 hQ6 hB3' h5 hb6 k3 k4
      by_cases heq : ps = qs
      · rw [decide_eq_true heq] at SP
        rw [decide_eq_true (hap.2 heq)] at se
        clear hap heq
        generalize str (keyB ps) = s3 at *
        generalize str (keyB qs) = s4 at *
        generalize (keyB ps).length = N3 at *
        generalize (keyB qs).length = N4 at *
        go_wp2
        go_quiet (first | (go_at_call 30; exact Calls.quiet_of (SP _).out))
        go_wp2
        go_ret
        exact ⟨rfl, below_drewN h6 nq⟩
      · rw [decide_eq_false heq] at SP
        rw [decide_eq_false (fun h => heq (hap.1 h))] at se
        clear hap heq
        generalize str (keyB ps) = s3 at *
        generalize str (keyB qs) = s4 at *
        generalize (keyB ps).length = N3 at *
        generalize (keyB qs).length = N4 at *
        go_wp2
        go_quiet (first | (go_at_call 30; exact Calls.quiet_of (SP _).out))
        go_wp2
        go_ret
        exact ⟨rfl, below_drewN h6 nq⟩
    · clear k2
      have h3 := h2.trans (hb3.mono h2.size)
      have hP3 := hP2.below hb3
      have hQ3 := hQ2.below hb3
      clear hP2 hQ2 h2 hb3 hE2 hF2
      go_wp2
      go_quiet (fail)
      have hPc := hP3.below (below_drewN (Below.refl _ _) nq)
      have hQc := hQ3.below (below_drewN (Below.refl _ _) nq)
      have hc := below_drewN h3 nq
      clear hP3 hQ3 h3
      generalize w3.drewN nq = wc at *
      go_wp2_with fail
      refine (key_any c lc cc ps wc hPc Hm1.out).mono ?_
      rintro e w5 ⟨hk3, hb5⟩
      have hP5 := hPc.below hb5
      have hQ5 := hQc.below hb5
      have h5 := hc.trans (hb5.mono hc.size)
      clear hPc hQc hc
      rcases hk3 with ⟨v3, k3, rfl, hown3⟩ | ⟨n3, k3, hn3, rfl⟩
      case inr =>
        have d1 : ((n3 : Int) != 0) = true := by simp; omega
        clear k3
        go_wp2_with fail
        refine (key_any d ld cd qs w5 hQ5 Hm2.out).mono ?_
        rintro e w6 ⟨(⟨v4, k4, rfl, hown4⟩ | ⟨n4, k4, hn4, rfl⟩), hb6⟩
        · have h6 := h5.trans (hb6.mono h5.size)
          clear k4 hown4
          go_wp2
          go_quiet (fail)
          go_wp2
          go_ret
          exact ⟨rfl, below_drewN h6 nq⟩
        · have h6 := h5.trans (hb6.mono h5.size)
          clear k4
          go_wp2
          go_quiet (fail)
          go_wp2
          go_ret
          exact ⟨rfl, below_drewN h6 nq⟩
      obtain ⟨x3, y3, rfl, hB3⟩ := owns_isB hown3 (keyB_lt hP5.2.2.2.1)
      clear hown3
      go_wp2_with fail
      refine (key_any d ld cd qs w5 hQ5 Hm2.out).mono ?_
      rintro e w6 ⟨(⟨v4, k4, rfl, hown4⟩ | ⟨n4, k4, hn4, rfl⟩), hb6⟩
      case inr =>
        have h6 := h5.trans (hb6.mono h5.size)
        have d1 : ((n4 : Int) != 0) = true := by simp; omega
        clear k4 k3
        go_wp2
        go_quiet (fail)
        go_wp2
        go_ret
        exact ⟨rfl, below_drewN h6 nq⟩
      obtain ⟨x4, y4, rfl, hB4⟩ := owns_isB hown4 (keyB_lt hQ5.2.2.2.1)
      have h6 := h5.trans (hb6.mono h5.size)
      have hP6 := hP5.below hb6
      have hQ6 := hQ5.below hb6
      have hB3' := hB3.below hb6
      have hap := key_apart hP5.2.2.2.1 hQ5.2.2.2.1 k3 k4
      have se := str_eq hB3.2.2.2.1 hB4.2.2.2.1
      have cv3 := fun n => conv_str (hB3'.below (below_drewN (Below.refl _ _) n))
      have cv4 := fun n => conv_str (hB4.below (below_drewN (Below.refl _ _) n))
      have SP := fun n => hide (sameParts_any c d lc cc ld cd ps qs (w6.drewN n) (hP6.below (below_drewN (Below.refl _ _) n)) (hQ6.below (below_drewN (Below.refl _ _) n)))
      clear hown4 hB3 hB4 hP5 hQ5 hP6 hQ6 hB3' h5 hb6 k3 k4
      by_cases heq : ps = qs
      · rw [decide_eq_true heq] at SP
        rw [decide_eq_true (hap.2 heq)] at se
        clear hap heq
        generalize str (keyB ps) = s3 at *
        generalize str (keyB qs) = s4 at *
        generalize (keyB ps).length = N3 at *
        generalize (keyB qs).length = N4 at *
        go_wp2
        go_quiet (first | (go_at_call 30; exact Calls.quiet_of (SP _).out))
        go_wp2
        go_ret
        exact ⟨rfl, below_drewN h6 nq⟩
      · rw [decide_eq_false heq] at SP
        rw [decide_eq_false (fun h => heq (hap.1 h))] at se
        clear hap heq
        generalize str (keyB ps) = s3 at *
        generalize str (keyB qs) = s4 at *
        generalize (keyB ps).length = N3 at *
        generalize (keyB qs).length = N4 at *
        go_wp2
        go_quiet (first | (go_at_call 30; exact Calls.quiet_of (SP _).out))
        go_wp2
        go_ret
        exact ⟨rfl, below_drewN h6 nq⟩
  have hx1 := ents_lt k1 hE2.lts
  obtain ⟨x1, y1, rfl, hB1⟩ := owns_isB hown1 hx1
  clear hown1
  go_wp2_with fail
  refine (entries_any b lb cb fs w2 hF2).mono ?_
  rintro e w3 ⟨(⟨v2, l2, k2, rfl, hown2⟩ | ⟨n2, k2, hn2, rfl⟩), hb3⟩
  case inr =>
    have d0 : ((n2 : Int) == 0) = false := by simp; omega
    clear k2 k1 hB1 hx1
    have h3 := h2.trans (hb3.mono h2.size)
    have hP3 := hP2.below hb3
    have hQ3 := hQ2.below hb3
    clear hP2 hQ2 h2 hb3 hE2 hF2
    go_wp2
    go_quiet (fail)
    have hPc := hP3.below (below_drewN (Below.refl _ _) nq)
    have hQc := hQ3.below (below_drewN (Below.refl _ _) nq)
    have hc := below_drewN h3 nq
    clear hP3 hQ3 h3
    generalize w3.drewN nq = wc at *
    go_wp2_with fail
    refine (key_any c lc cc ps wc hPc Hm1.out).mono ?_
    rintro e w5 ⟨hk3, hb5⟩
    have hP5 := hPc.below hb5
    have hQ5 := hQc.below hb5
    have h5 := hc.trans (hb5.mono hc.size)
    clear hPc hQc hc
    rcases hk3 with ⟨v3, k3, rfl, hown3⟩ | ⟨n3, k3, hn3, rfl⟩
    case inr =>
      have d1 : ((n3 : Int) != 0) = true := by simp; omega
      clear k3
      go_wp2_with fail
      refine (key_any d ld cd qs w5 hQ5 Hm2.out).mono ?_
      rintro e w6 ⟨(⟨v4, k4, rfl, hown4⟩ | ⟨n4, k4, hn4, rfl⟩), hb6⟩
      · have h6 := h5.trans (hb6.mono h5.size)
        clear k4 hown4
        go_wp2
        go_quiet (fail)
        go_wp2
        go_ret
        exact ⟨rfl, below_drewN h6 nq⟩
      · have h6 := h5.trans (hb6.mono h5.size)
        clear k4
        go_wp2
        go_quiet (fail)
        go_wp2
        go_ret
        exact ⟨rfl, below_drewN h6 nq⟩
    obtain ⟨x3, y3, rfl, hB3⟩ := owns_isB hown3 (keyB_lt hP5.2.2.2.1)
    clear hown3
    go_wp2_with fail
    refine (key_any d ld cd qs w5 hQ5 Hm2.out).mono ?_
    rintro e w6 ⟨(⟨v4, k4, rfl, hown4⟩ | ⟨n4, k4, hn4, rfl⟩), hb6⟩
    case inr =>
      have h6 := h5.trans (hb6.mono h5.size)
      have d1 : ((n4 : Int) != 0) = true := by simp; omega
      clear k4 k3
      go_wp2
      go_quiet (fail)
      go_wp2
      go_ret
      exact ⟨rfl, below_drewN h6 nq⟩
    obtain ⟨x4, y4, rfl, hB4⟩ := owns_isB hown4 (keyB_lt hQ5.2.2.2.1)
    have h6 := h5.trans (hb6.mono h5.size)
    have hP6 := hP5.below hb6
    have hQ6 := hQ5.below hb6
    have hB3' := hB3.below hb6
    have hap := key_apart hP5.2.2.2.1 hQ5.2.2.2.1 k3 k4
    have se := str_eq hB3.2.2.2.1 hB4.2.2.2.1
    have cv3 := fun n => conv_str (hB3'.below (below_drewN (Below.refl _ _) n))
    have cv4 := fun n => conv_str (hB4.below (below_drewN (Below.refl _ _) n))
    have SP := fun n => hide (sameParts_any c d lc cc ld cd ps qs (w6.drewN n) (hP6.below (below_drewN (Below.refl _ _) n)) (hQ6.below (below_drewN (Below.refl _ _) n)))
    clear hown4 hB3 hB4 hP5 hQ5 hP6 hQ6 hB3' h5 hb6 k3 k4
    by_cases heq : ps = qs
    · rw [decide_eq_true heq] at SP
      rw [decide_eq_true (hap.2 heq)] at se
      clear hap heq
      generalize str (keyB ps) = s3 at *
      generalize str (keyB qs) = s4 at *
      generalize (keyB ps).length = N3 at *
      generalize (keyB qs).length = N4 at *
      go_wp2
      go_quiet (first | (go_at_call 30; exact Calls.quiet_of (SP _).out))
      go_wp2
      go_ret
      exact ⟨rfl, below_drewN h6 nq⟩
    · rw [decide_eq_false heq] at SP
      rw [decide_eq_false (fun h => heq (hap.1 h))] at se
      clear hap heq
      generalize str (keyB ps) = s3 at *
      generalize str (keyB qs) = s4 at *
      generalize (keyB ps).length = N3 at *
      generalize (keyB qs).length = N4 at *
      go_wp2
      go_quiet (first | (go_at_call 30; exact Calls.quiet_of (SP _).out))
      go_wp2
      go_ret
      exact ⟨rfl, below_drewN h6 nq⟩
  have hx2 := ents_lt k2 hF2.lts
  obtain ⟨x2, y2, rfl, hB2⟩ := owns_isB hown2 hx2
  have h3 := h2.trans (hb3.mono h2.size)
  have hE3 := hE2.below hb3
  have hF3 := hF2.below hb3
  have hP3 := hP2.below hb3
  have hQ3 := hQ2.below hb3
  have hB1' := hB1.below hb3
  have hap := entries_apart k1 k2
  have se := str_eq hx1 hx2
  have cv1 := fun n => conv_str (hB1'.below (below_drewN (Below.refl _ _) n))
  have cv2 := fun n => conv_str (hB2.below (below_drewN (Below.refl _ _) n))
  have SE := fun n => hide (sameEntries_any a b la ca lb cb es fs (w3.drewN n) (hE3.below (below_drewN (Below.refl _ _) n)) (hF3.below (below_drewN (Below.refl _ _) n)))
  clear hown2 hB1 hB2 hB1' hE2 hF2 hP2 hQ2 h2 hb3 k1 k2 hx1 hx2 hE3 hF3
  by_cases heq : es = fs
  · rw [decide_eq_true heq] at SE
    rw [decide_eq_true (hap.2 heq)] at se
    clear hap heq
    generalize str l1 = s1 at *
    generalize str l2 = s2 at *
    generalize l1.length = N1 at *
    generalize l2.length = N2 at *
    go_wp2
    go_quiet (first | (go_at_call 36; exact Calls.quiet_of (SE _).out))
    have hPc := hP3.below (below_drewN (Below.refl _ _) nq)
    have hQc := hQ3.below (below_drewN (Below.refl _ _) nq)
    have hc := below_drewN h3 nq
    clear hP3 hQ3 h3 cv1 cv2 SE se
    generalize w3.drewN nq = wc at *
    go_wp2_with fail
    refine (key_any c lc cc ps wc hPc Hm1.out).mono ?_
    rintro e w5 ⟨hk3, hb5⟩
    have hP5 := hPc.below hb5
    have hQ5 := hQc.below hb5
    have h5 := hc.trans (hb5.mono hc.size)
    clear hPc hQc hc
    rcases hk3 with ⟨v3, k3, rfl, hown3⟩ | ⟨n3, k3, hn3, rfl⟩
    case inr =>
      have d1 : ((n3 : Int) != 0) = true := by simp; omega
      clear k3
      go_wp2_with fail
      refine (key_any d ld cd qs w5 hQ5 Hm2.out).mono ?_
      rintro e w6 ⟨(⟨v4, k4, rfl, hown4⟩ | ⟨n4, k4, hn4, rfl⟩), hb6⟩
      · have h6 := h5.trans (hb6.mono h5.size)
        clear k4 hown4
        go_wp2
        go_quiet (fail)
        go_wp2
        go_ret
        exact ⟨rfl, below_drewN h6 nq⟩
      · have h6 := h5.trans (hb6.mono h5.size)
        clear k4
        go_wp2
        go_quiet (fail)
        go_wp2
        go_ret
        exact ⟨rfl, below_drewN h6 nq⟩
    obtain ⟨x3, y3, rfl, hB3⟩ := owns_isB hown3 (keyB_lt hP5.2.2.2.1)
    clear hown3
    go_wp2_with fail
    refine (key_any d ld cd qs w5 hQ5 Hm2.out).mono ?_
    rintro e w6 ⟨(⟨v4, k4, rfl, hown4⟩ | ⟨n4, k4, hn4, rfl⟩), hb6⟩
    case inr =>
      have h6 := h5.trans (hb6.mono h5.size)
      have d1 : ((n4 : Int) != 0) = true := by simp; omega
      clear k4 k3
      go_wp2
      go_quiet (fail)
      go_wp2
      go_ret
      exact ⟨rfl, below_drewN h6 nq⟩
    obtain ⟨x4, y4, rfl, hB4⟩ := owns_isB hown4 (keyB_lt hQ5.2.2.2.1)
    have h6 := h5.trans (hb6.mono h5.size)
    have hP6 := hP5.below hb6
    have hQ6 := hQ5.below hb6
    have hB3' := hB3.below hb6
    have hap := key_apart hP5.2.2.2.1 hQ5.2.2.2.1 k3 k4
    have se := str_eq hB3.2.2.2.1 hB4.2.2.2.1
    have cv3 := fun n => conv_str (hB3'.below (below_drewN (Below.refl _ _) n))
    have cv4 := fun n => conv_str (hB4.below (below_drewN (Below.refl _ _) n))
    have SP := fun n => hide (sameParts_any c d lc cc ld cd ps qs (w6.drewN n) (hP6.below (below_drewN (Below.refl _ _) n)) (hQ6.below (below_drewN (Below.refl _ _) n)))
    clear hown4 hB3 hB4 hP5 hQ5 hP6 hQ6 hB3' h5 hb6 k3 k4
    by_cases heq : ps = qs
    · rw [decide_eq_true heq] at SP
      rw [decide_eq_true (hap.2 heq)] at se
      clear hap heq
      generalize str (keyB ps) = s3 at *
      generalize str (keyB qs) = s4 at *
      generalize (keyB ps).length = N3 at *
      generalize (keyB qs).length = N4 at *
      go_wp2
      go_quiet (first | (go_at_call 30; exact Calls.quiet_of (SP _).out))
      go_wp2
      go_ret
      exact ⟨rfl, below_drewN h6 nq⟩
    · rw [decide_eq_false heq] at SP
      rw [decide_eq_false (fun h => heq (hap.1 h))] at se
      clear hap heq
      generalize str (keyB ps) = s3 at *
      generalize str (keyB qs) = s4 at *
      generalize (keyB ps).length = N3 at *
      generalize (keyB qs).length = N4 at *
      go_wp2
      go_quiet (first | (go_at_call 30; exact Calls.quiet_of (SP _).out))
      go_wp2
      go_ret
      exact ⟨rfl, below_drewN h6 nq⟩
  · rw [decide_eq_false heq] at SE
    rw [decide_eq_false (fun h => heq (hap.1 h))] at se
    clear hap heq
    generalize str l1 = s1 at *
    generalize str l2 = s2 at *
    generalize l1.length = N1 at *
    generalize l2.length = N2 at *
    go_wp2
    go_quiet (first | (go_at_call 36; exact Calls.quiet_of (SE _).out))
    have hPc := hP3.below (below_drewN (Below.refl _ _) nq)
    have hQc := hQ3.below (below_drewN (Below.refl _ _) nq)
    have hc := below_drewN h3 nq
    clear hP3 hQ3 h3 cv1 cv2 SE se
    generalize w3.drewN nq = wc at *
    go_wp2_with fail
    refine (key_any c lc cc ps wc hPc Hm1.out).mono ?_
    rintro e w5 ⟨hk3, hb5⟩
    have hP5 := hPc.below hb5
    have hQ5 := hQc.below hb5
    have h5 := hc.trans (hb5.mono hc.size)
    clear hPc hQc hc
    rcases hk3 with ⟨v3, k3, rfl, hown3⟩ | ⟨n3, k3, hn3, rfl⟩
    case inr =>
      have d1 : ((n3 : Int) != 0) = true := by simp; omega
      clear k3
      go_wp2_with fail
      refine (key_any d ld cd qs w5 hQ5 Hm2.out).mono ?_
      rintro e w6 ⟨(⟨v4, k4, rfl, hown4⟩ | ⟨n4, k4, hn4, rfl⟩), hb6⟩
      · have h6 := h5.trans (hb6.mono h5.size)
        clear k4 hown4
        go_wp2
        go_quiet (fail)
        go_wp2
        go_ret
        exact ⟨rfl, below_drewN h6 nq⟩
      · have h6 := h5.trans (hb6.mono h5.size)
        clear k4
        go_wp2
        go_quiet (fail)
        go_wp2
        go_ret
        exact ⟨rfl, below_drewN h6 nq⟩
    obtain ⟨x3, y3, rfl, hB3⟩ := owns_isB hown3 (keyB_lt hP5.2.2.2.1)
    clear hown3
    go_wp2_with fail
    refine (key_any d ld cd qs w5 hQ5 Hm2.out).mono ?_
    rintro e w6 ⟨(⟨v4, k4, rfl, hown4⟩ | ⟨n4, k4, hn4, rfl⟩), hb6⟩
    case inr =>
      have h6 := h5.trans (hb6.mono h5.size)
      have d1 : ((n4 : Int) != 0) = true := by simp; omega
      clear k4 k3
      go_wp2
      go_quiet (fail)
      go_wp2
      go_ret
      exact ⟨rfl, below_drewN h6 nq⟩
    obtain ⟨x4, y4, rfl, hB4⟩ := owns_isB hown4 (keyB_lt hQ5.2.2.2.1)
    have h6 := h5.trans (hb6.mono h5.size)
    have hP6 := hP5.below hb6
    have hQ6 := hQ5.below hb6
    have hB3' := hB3.below hb6
    have hap := key_apart hP5.2.2.2.1 hQ5.2.2.2.1 k3 k4
    have se := str_eq hB3.2.2.2.1 hB4.2.2.2.1
    have cv3 := fun n => conv_str (hB3'.below (below_drewN (Below.refl _ _) n))
    have cv4 := fun n => conv_str (hB4.below (below_drewN (Below.refl _ _) n))
    have SP := fun n => hide (sameParts_any c d lc cc ld cd ps qs (w6.drewN n) (hP6.below (below_drewN (Below.refl _ _) n)) (hQ6.below (below_drewN (Below.refl _ _) n)))
    clear hown4 hB3 hB4 hP5 hQ5 hP6 hQ6 hB3' h5 hb6 k3 k4
    by_cases heq : ps = qs
    · rw [decide_eq_true heq] at SP
      rw [decide_eq_true (hap.2 heq)] at se
      clear hap heq
      generalize str (keyB ps) = s3 at *
      generalize str (keyB qs) = s4 at *
      generalize (keyB ps).length = N3 at *
      generalize (keyB qs).length = N4 at *
      go_wp2
      go_quiet (first | (go_at_call 30; exact Calls.quiet_of (SP _).out))
      go_wp2
      go_ret
      exact ⟨rfl, below_drewN h6 nq⟩
    · rw [decide_eq_false heq] at SP
      rw [decide_eq_false (fun h => heq (hap.1 h))] at se
      clear hap heq
      generalize str (keyB ps) = s3 at *
      generalize str (keyB qs) = s4 at *
      generalize (keyB ps).length = N3 at *
      generalize (keyB qs).length = N4 at *
      go_wp2
      go_quiet (first | (go_at_call 30; exact Calls.quiet_of (SP _).out))
      go_wp2
      go_ret
      exact ⟨rfl, below_drewN h6 nq⟩
theorem codecApart.lawWalkUpto (a : Option Addr) (la ca : Nat) (es : List Ent) (b : Option Addr) (lb cb : Nat) (fs : List Ent) (c : Option Addr) (lc cc : Nat) (ps : List Part) (d : Option Addr) (ld cd : Nat) (qs : List Part) (w : World)
    (hE : IsE w a la ca es) (_ : ∀ p ∈ es, p.1.length + p.2.length ≤ 1048576) (hF : IsE w b lb cb fs) (_ : ∀ p ∈ fs, p.1.length + p.2.length ≤ 1048576) (hP : IsP w c lc cc ps) (hm1 : ∀ p ∈ ps, p.s.length ≤ 1048576) (hQ : IsP w d ld cd qs) (hm2 : ∀ p ∈ qs, p.s.length ≤ 1048576) :
    Calls Try.prog 10 #[.slice a la ca, .slice b lb cb, .slice c lc cc, .slice d ld cd] w fun e w' => e = .returned (.bool true) ∧ Below w.heap.size w w' := apart_law a la ca es b lb cb fs c lc cc ps d ld cd qs w hE hF hP hm1 hQ hm2
end Go.Proofs.Ytnimlpbalfamcaa
