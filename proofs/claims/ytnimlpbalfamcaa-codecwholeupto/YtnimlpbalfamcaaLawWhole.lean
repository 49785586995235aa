/- the walk of CodecWhole -/
import Derived.Test.YtnimlpbalfamcaaV
import Derived.Test.YtnimlpbalfamcaaR
import Derived.Test.YtnimlpbalfamcaaL
namespace Go.Proofs.Ytnimlpbalfamcaa
open Go.RowKit Cod
open Classical
theorem IsE.ltsW {w : World} {a : Option Addr} {len cap : Nat} {es : List Ent} (h : IsE w a len cap es) : ∀ e ∈ es, (∀ x ∈ e.1, x < 256) ∧ (∀ x ∈ e.2, x < 256) := by
  intro e he
  obtain ⟨i, hi⟩ := List.getElem?_of_mem he
  rcases h.2.2.2 with ⟨h0, _⟩ | ⟨b, off, _, _, hc⟩
  · have := h.1
    have hl : es = [] := List.length_eq_zero_iff.1 (by omega)
    rw [hl] at he; cases he
  · obtain ⟨_, _, _, _, _, _, b1, b2⟩ := hc i e hi
    exact ⟨b1.2.2.2.1, b2.2.2.2.1⟩
theorem entries_ltW {es : List Ent} {l : List Nat} (h : entries es = .ok l) (hx : ∀ e ∈ es, (∀ x ∈ e.1, x < 256) ∧ (∀ x ∈ e.2, x < 256)) : ∀ x ∈ l, x < 256 := by
  unfold entries at h
  split at h
  · cases h
  · split at h
    · cases h
    · cases h
      intro x hx'
      rcases List.mem_append.1 hx' with h1 | h1
      · exact num_lt _ x h1
      · simp only [entsB, List.mem_flatMap, entB] at h1
        obtain ⟨e, he, h1⟩ := h1
        rcases List.mem_append.1 h1 with h1 | h1
        · exact text_lt (hx e he).1 x h1
        · exact text_lt (hx e he).2 x h1
theorem key_ok (a : Option Addr) (len cap : Nat) (ps : List Part) (w : World) (h : IsP w a len cap ps) (hmax : ∀ p ∈ ps, p.s.length ≤ 1048576) (l : List Nat) (hk : key ps = .ok l) :
    Calls Try.prog 26 #[.slice a len cap] w fun e w' => (∃ a' c', e = .returned (.tuple #[.slice a' l.length c', .int .i64 0]) ∧ IsB w' a' l.length c' l) ∧ Below w.heap.size w w' := by
  refine (key_any a len cap ps w h hmax).mono ?_
  rintro e w' ⟨(⟨v, hk', rfl, hown⟩ | ⟨k, hk', _⟩), hb⟩
  case inr => rw [hk] at hk'; cases hk'
  rw [hk] at hk'
  cases hk'
  obtain ⟨a', c', rfl, hB⟩ := owns_isB hown (keyB_lt h.2.2.2.1)
  exact ⟨⟨a', c', rfl, hB⟩, hb⟩
theorem key_err (a : Option Addr) (len cap : Nat) (ps : List Part) (w : World) (h : IsP w a len cap ps) (hmax : ∀ p ∈ ps, p.s.length ≤ 1048576) (n : Nat) (hk : key ps = .error n) :
    Calls Try.prog 26 #[.slice a len cap] w fun e w' => (e = .returned (.tuple #[.slice none 0 0, .int .i64 n]) ∧ n ≠ 0) ∧ Below w.heap.size w w' := by
  refine (key_any a len cap ps w h hmax).mono ?_
  rintro e w' ⟨(⟨v, hk', _⟩ | ⟨k, hk', hk0, rfl⟩), hb⟩
  case inl => rw [hk] at hk'; cases hk'
  rw [hk] at hk'
  cases hk'
  exact ⟨⟨rfl, hk0⟩, hb⟩
theorem readKey_ok (a : Option Addr) (len cap : Nat) (l : List Nat) (w : World) (h : IsB w a len cap l) (ps : List Part) (hk : rdKey l = .ok ps) :
    Calls Try.prog 28 #[.slice a len cap] w fun e w' => (∃ a' c', e = .returned (.tuple #[.slice a' ps.length c', .int .i64 0]) ∧ IsP w' a' ps.length c' ps) ∧ Below w.heap.size w w' := by
  refine (readKey_any a len cap l w h).mono ?_
  rintro e w' ⟨(⟨qs, a', c', hk', rfl, hP⟩ | ⟨k, hk', _⟩), hb⟩
  case inr => rw [hk] at hk'; cases hk'
  rw [hk] at hk'
  cases hk'
  exact ⟨⟨a', c', rfl, hP⟩, hb⟩
theorem readKey_err (a : Option Addr) (len cap : Nat) (l : List Nat) (w : World) (h : IsB w a len cap l) (n : Nat) (hk : rdKey l = .error n) :
    Calls Try.prog 28 #[.slice a len cap] w fun e w' => (e = .returned (.tuple #[.slice none 0 0, .int .i64 n]) ∧ n ≠ 0) ∧ Below w.heap.size w w' := by
  refine (readKey_any a len cap l w h).mono ?_
  rintro e w' ⟨(⟨qs, a', c', hk', _⟩ | ⟨k, hk', hk0, rfl⟩), hb⟩
  case inl => rw [hk] at hk'; cases hk'
  rw [hk] at hk'
  cases hk'
  exact ⟨⟨rfl, hk0⟩, hb⟩
theorem entries_ok (a : Option Addr) (len cap : Nat) (es : List Ent) (w : World) (h : IsE w a len cap es) (l : List Nat) (hk : entries es = .ok l) :
    Calls Try.prog 32 #[.slice a len cap] w fun e w' => (∃ a' c', e = .returned (.tuple #[.slice a' l.length c', .int .i64 0]) ∧ IsB w' a' l.length c' l) ∧ Below w.heap.size w w' := by
  refine (entries_any a len cap es w h).mono ?_
  rintro e w' ⟨(⟨v, m, hk', rfl, hown⟩ | ⟨k, hk', _⟩), hb⟩
  case inr => rw [hk] at hk'; cases hk'
  rw [hk] at hk'
  cases hk'
  obtain ⟨a', c', rfl, hB⟩ := owns_isB hown (entries_ltW hk h.ltsW)
  exact ⟨⟨a', c', rfl, hB⟩, hb⟩
theorem entries_err (a : Option Addr) (len cap : Nat) (es : List Ent) (w : World) (h : IsE w a len cap es) (n : Nat) (hk : entries es = .error n) :
    Calls Try.prog 32 #[.slice a len cap] w fun e w' => (e = .returned (.tuple #[.slice none 0 0, .int .i64 n]) ∧ n ≠ 0) ∧ Below w.heap.size w w' := by
  refine (entries_any a len cap es w h).mono ?_
  rintro e w' ⟨(⟨v, m, hk', _⟩ | ⟨k, hk', hk0, rfl⟩), hb⟩
  case inl => rw [hk] at hk'; cases hk'
  rw [hk] at hk'
  cases hk'
  exact ⟨⟨rfl, hk0⟩, hb⟩
theorem readEntries_ok (a : Option Addr) (len cap : Nat) (l : List Nat) (w : World) (h : IsB w a len cap l) (es : List Ent) (hk : rdEntries l = .ok es) :
    Calls Try.prog 34 #[.slice a len cap] w fun e w' => (∃ a' c', e = .returned (.tuple #[.slice a' es.length c', .int .i64 0]) ∧ IsE w' a' es.length c' es) ∧ Below w.heap.size w w' := by
  refine (readEntries_any a len cap l w h).mono ?_
  rintro e w' ⟨(⟨qs, a', c', hk', rfl, hP⟩ | ⟨k, hk', _⟩), hb⟩
  case inr => rw [hk] at hk'; cases hk'
  rw [hk] at hk'
  cases hk'
  exact ⟨⟨a', c', rfl, hP⟩, hb⟩
theorem readEntries_err (a : Option Addr) (len cap : Nat) (l : List Nat) (w : World) (h : IsB w a len cap l) (n : Nat) (hk : rdEntries l = .error n) :
    Calls Try.prog 34 #[.slice a len cap] w fun e w' => (e = .returned (.tuple #[.slice none 0 0, .int .i64 n]) ∧ n ≠ 0) ∧ Below w.heap.size w w' := by
  refine (readEntries_any a len cap l w h).mono ?_
  rintro e w' ⟨(⟨qs, a', c', hk', _⟩ | ⟨k, hk', hk0, rfl⟩), hb⟩
  case inl => rw [hk] at hk'; cases hk'
  rw [hk] at hk'
  cases hk'
  exact ⟨⟨rfl, hk0⟩, hb⟩
set_option maxRecDepth 10000 in
set_option maxHeartbeats 4000000 in
theorem whole_law (c : Option Addr) (lc cc : Nat) (ps : List Part) (d : Option Addr) (ld cd : Nat) (es : List Ent) (b : Option Addr) (lb cb : Nat) (l : List Nat) (w : World)
    (hP : IsP w c lc cc ps) (hm1 : ∀ p ∈ ps, p.s.length ≤ 1048576) (hE : IsE w d ld cd es) (hB : IsB w b lb cb l) :
    Calls Try.prog 8 #[.slice c lc cc, .slice d ld cd, .slice b lb cb] w fun e w' => e = .returned (.bool true) ∧ Below w.heap.size w w' := by
  have Hm1 := hide hm1
  have HOK := hide hP.2.2.2.1
  have Hxs := hide hB.2.2.2.1
  have hlb : lb ≤ 9223372036854775807 := Nat.le_trans hB.2.1 hB.2.2.1
  clear hm1
  go_enter Try.func8, Try.ntmps8
  go_wp2_with fail
  refine (lives_any w).mono ?_
  rintro e w0 ⟨rfl, hb0⟩
  have hP0 := hP.below hb0
  have hE0 := hE.below hb0
  have hB0 := hB.below hb0
  have h0 := hb0
  clear hP hE hB hb0
  cases hk : key ps with
  | ok kb =>
    go_wp2_with fail
    refine (key_ok c lc cc ps w0 hP0 Hm1.out kb hk).mono ?_
    rintro e w1 ⟨⟨a1, c1, rfl, hK1⟩, hb1⟩
    have hPn := hP0.below hb1
    have hEn := hE0.below hb1
    have hBn := hB0.below hb1
    have hn := h0.trans (hb1.mono h0.size)
    clear hP0 hE0 hB0 h0
    have hP0 := hPn
    have hE0 := hEn
    have hB0 := hBn
    have h0 := hn
    clear hPn hEn hBn hn
    have RK := hide (readKey_ok a1 kb.length c1 kb w1 hK1 ps (rdKey_key HOK.out hk))
    clear hK1 hb1 hk
    generalize kb.length = kl at *
    go_wp2_with fail
    refine RK.out.mono ?_
    rintro e w2 ⟨⟨a2, c2, rfl, hQ2⟩, hb2⟩
    have hPn := hP0.below hb2
    have hEn := hE0.below hb2
    have hBn := hB0.below hb2
    have hn := h0.trans (hb2.mono h0.size)
    clear hP0 hE0 hB0 h0
    have hP0 := hPn
    have hE0 := hEn
    have hB0 := hBn
    have h0 := hn
    clear hPn hEn hBn hn
    have SP := hide (sameParts_any a2 c ps.length c2 lc cc ps ps w2 hQ2 hP0)
    rw [decide_eq_true rfl] at SP
    clear hQ2 hb2 RK
    generalize ps.length = pl at *
    go_wp2_with fail
    refine SP.out.mono ?_
    rintro e w3 ⟨rfl, m3, rfl⟩
    have hb3 := below_drewN (Below.refl w2.heap.size w2) m3
    have hPn := hP0.below hb3
    have hEn := hE0.below hb3
    have hBn := hB0.below hb3
    have hn := h0.trans (hb3.mono h0.size)
    clear hP0 hE0 hB0 h0
    have hP0 := hPn
    have hE0 := hEn
    have hB0 := hBn
    have h0 := hn
    clear hPn hEn hBn hn
    clear SP hb3
    generalize w2.drewN m3 = wz1 at *
    cases he : entries es with
    | ok xb =>
      go_wp2_with fail
      refine (entries_ok d ld cd es wz1 hE0 xb he).mono ?_
      rintro e w4 ⟨⟨a4, c4, rfl, hX4⟩, hb4⟩
      have hPn := hP0.below hb4
      have hEn := hE0.below hb4
      have hBn := hB0.below hb4
      have hn := h0.trans (hb4.mono h0.size)
      clear hP0 hE0 hB0 h0
      have hP0 := hPn
      have hE0 := hEn
      have hB0 := hBn
      have h0 := hn
      clear hPn hEn hBn hn
      have RE := hide (readEntries_ok a4 xb.length c4 xb w4 hX4 es (rdEntries_entries he))
      clear hX4 hb4 he
      generalize xb.length = xl at *
      go_wp2_with fail
      refine RE.out.mono ?_
      rintro e w5 ⟨⟨a5, c5, rfl, hM5⟩, hb5⟩
      have hPn := hP0.below hb5
      have hEn := hE0.below hb5
      have hBn := hB0.below hb5
      have hn := h0.trans (hb5.mono h0.size)
      clear hP0 hE0 hB0 h0
      have hP0 := hPn
      have hE0 := hEn
      have hB0 := hBn
      have h0 := hn
      clear hPn hEn hBn hn
      have SE := hide (sameEntries_any a5 d es.length c5 ld cd es es w5 hM5 hE0)
      rw [decide_eq_true rfl] at SE
      clear hM5 hb5 RE
      generalize es.length = el at *
      go_wp2_with fail
      refine SE.out.mono ?_
      rintro e w6 ⟨rfl, m6, rfl⟩
      have hb6 := below_drewN (Below.refl w5.heap.size w5) m6
      have hPn := hP0.below hb6
      have hEn := hE0.below hb6
      have hBn := hB0.below hb6
      have hn := h0.trans (hb6.mono h0.size)
      clear hP0 hE0 hB0 h0
      have hP0 := hPn
      have hE0 := hEn
      have hB0 := hBn
      have h0 := hn
      clear hPn hEn hBn hn
      clear SE hb6
      generalize w5.drewN m6 = wz2 at *
      cases hp : rdKey l with
      | ok qs =>
        obtain ⟨hkk, _, hpo⟩ := rdKey_ok Hxs.out hp
        go_wp2_with fail
        refine (readKey_ok b lb cb l wz2 hB0 qs hp).mono ?_
        rintro e w7 ⟨⟨a7, c7, rfl, hQ7⟩, hb7⟩
        have hPn := hP0.below hb7
        have hEn := hE0.below hb7
        have hBn := hB0.below hb7
        have hn := h0.trans (hb7.mono h0.size)
        clear hP0 hE0 hB0 h0
        have hP0 := hPn
        have hE0 := hEn
        have hB0 := hBn
        have h0 := hn
        clear hPn hEn hBn hn
        have KO := hide (key_ok a7 qs.length c7 qs w7 hQ7 (fun p hp' => by have := (hpo p hp').2; omega) l hkk)
        clear hQ7 hb7 hp hkk hpo
        generalize qs.length = ql at *
        go_wp2_with fail
        refine KO.out.mono ?_
        rintro e w8 ⟨⟨a8, c8, rfl, hY8⟩, hb8⟩
        have hPn := hP0.below hb8
        have hEn := hE0.below hb8
        have hBn := hB0.below hb8
        have hn := h0.trans (hb8.mono h0.size)
        clear hP0 hE0 hB0 h0
        have hP0 := hPn
        have hE0 := hEn
        have hB0 := hBn
        have h0 := hn
        clear hPn hEn hBn hn
        have cv8 := fun n => conv_str (hY8.below (below_drewN (Below.refl _ _) n))
        have cb8 := fun n => conv_str (hB0.below (below_drewN (Below.refl _ _) n))
        have cv80 := conv_str hY8
        have cb80 := conv_str hB0
        have se8 : ((str l).toList == (str l).toList) = true := by simp
        have sn8 : (!((str l).toList == (str l).toList)) = false := by simp
        clear hY8 hb8 KO
        generalize l.length = ll at *
        cases hm : rdEntries l with
        | ok ms =>
          have hkk := rdEntries_ok Hxs.out hm
          go_wp2_with fail
          refine (readEntries_ok b lb cb l w8 hB0 ms hm).mono ?_
          rintro e w9 ⟨⟨a9, c9, rfl, hM9⟩, hb9⟩
          have hPn := hP0.below hb9
          have hEn := hE0.below hb9
          have hBn := hB0.below hb9
          have hn := h0.trans (hb9.mono h0.size)
          clear hP0 hE0 hB0 h0
          have hP0 := hPn
          have hE0 := hEn
          have hB0 := hBn
          have h0 := hn
          clear hPn hEn hBn hn
          have EO := hide (entries_ok a9 ms.length c9 ms w9 hM9 l hkk)
          clear hM9 hb9 hm hkk
          generalize ms.length = ml at *
          go_wp2_with fail
          refine EO.out.mono ?_
          rintro e w10 ⟨⟨a10, c10, rfl, hY10⟩, hb10⟩
          have hPn := hP0.below hb10
          have hEn := hE0.below hb10
          have hBn := hB0.below hb10
          have hn := h0.trans (hb10.mono h0.size)
          clear hP0 hE0 hB0 h0
          have hP0 := hPn
          have hE0 := hEn
          have hB0 := hBn
          have h0 := hn
          clear hPn hEn hBn hn
          have cv10 := conv_str hY10
          have cb10 := conv_str hB0
          have se10 : ((str l).toList == (str l).toList) = true := by simp
          clear hY10 hb10 EO
          generalize l.length = ll at *
          go_wp2
          go_ret
          exact ⟨rfl, h0⟩
        | error mn =>
          go_wp2_with fail
          refine (readEntries_err b lb cb l w8 hB0 mn hm).mono ?_
          rintro e w9 ⟨⟨rfl, hn0⟩, hb9⟩
          have hPn := hP0.below hb9
          have hEn := hE0.below hb9
          have hBn := hB0.below hb9
          have hn := h0.trans (hb9.mono h0.size)
          clear hP0 hE0 hB0 h0
          have hP0 := hPn
          have hE0 := hEn
          have hB0 := hBn
          have h0 := hn
          clear hPn hEn hBn hn
          have q3 : ((mn : Int) != 0) = true := by simp; omega
          clear hb9 hm hn0
          go_wp2
          go_ret
          exact ⟨rfl, h0⟩
      | error pn =>
        go_wp2_with fail
        refine (readKey_err b lb cb l wz2 hB0 pn hp).mono ?_
        rintro e w7 ⟨⟨rfl, hn0⟩, hb7⟩
        have hPn := hP0.below hb7
        have hEn := hE0.below hb7
        have hBn := hB0.below hb7
        have hn := h0.trans (hb7.mono h0.size)
        clear hP0 hE0 hB0 h0
        have hP0 := hPn
        have hE0 := hEn
        have hB0 := hBn
        have h0 := hn
        clear hPn hEn hBn hn
        have q2 : ((pn : Int) == 0) = false := by simp; omega
        clear hb7 hp hn0
        cases hm : rdEntries l with
        | ok ms =>
          have hkk := rdEntries_ok Hxs.out hm
          go_wp2_with fail
          refine (readEntries_ok b lb cb l w7 hB0 ms hm).mono ?_
          rintro e w9 ⟨⟨a9, c9, rfl, hM9⟩, hb9⟩
          have hPn := hP0.below hb9
          have hEn := hE0.below hb9
          have hBn := hB0.below hb9
          have hn := h0.trans (hb9.mono h0.size)
          clear hP0 hE0 hB0 h0
          have hP0 := hPn
          have hE0 := hEn
          have hB0 := hBn
          have h0 := hn
          clear hPn hEn hBn hn
          have EO := hide (entries_ok a9 ms.length c9 ms w9 hM9 l hkk)
          clear hM9 hb9 hm hkk
          generalize ms.length = ml at *
          go_wp2_with fail
          refine EO.out.mono ?_
          rintro e w10 ⟨⟨a10, c10, rfl, hY10⟩, hb10⟩
          have hPn := hP0.below hb10
          have hEn := hE0.below hb10
          have hBn := hB0.below hb10
          have hn := h0.trans (hb10.mono h0.size)
          clear hP0 hE0 hB0 h0
          have hP0 := hPn
          have hE0 := hEn
          have hB0 := hBn
          have h0 := hn
          clear hPn hEn hBn hn
          have cv10 := conv_str hY10
          have cb10 := conv_str hB0
          have se10 : ((str l).toList == (str l).toList) = true := by simp
          clear hY10 hb10 EO
          generalize l.length = ll at *
          go_wp2
          go_ret
          exact ⟨rfl, h0⟩
        | error mn =>
          go_wp2_with fail
          refine (readEntries_err b lb cb l w7 hB0 mn hm).mono ?_
          rintro e w9 ⟨⟨rfl, hn0⟩, hb9⟩
          have hPn := hP0.below hb9
          have hEn := hE0.below hb9
          have hBn := hB0.below hb9
          have hn := h0.trans (hb9.mono h0.size)
          clear hP0 hE0 hB0 h0
          have hP0 := hPn
          have hE0 := hEn
          have hB0 := hBn
          have h0 := hn
          clear hPn hEn hBn hn
          have q3 : ((mn : Int) != 0) = true := by simp; omega
          clear hb9 hm hn0
          go_wp2
          go_ret
          exact ⟨rfl, h0⟩
    | error en =>
      go_wp2_with fail
      refine (entries_err d ld cd es wz1 hE0 en he).mono ?_
      rintro e w4 ⟨⟨rfl, hn0⟩, hb4⟩
      have hPn := hP0.below hb4
      have hEn := hE0.below hb4
      have hBn := hB0.below hb4
      have hn := h0.trans (hb4.mono h0.size)
      clear hP0 hE0 hB0 h0
      have hP0 := hPn
      have hE0 := hEn
      have hB0 := hBn
      have h0 := hn
      clear hPn hEn hBn hn
      have q1 : ((en : Int) == 0) = false := by simp; omega
      clear hb4 he hn0
      cases hp : rdKey l with
      | ok qs =>
        obtain ⟨hkk, _, hpo⟩ := rdKey_ok Hxs.out hp
        go_wp2_with fail
        refine (readKey_ok b lb cb l w4 hB0 qs hp).mono ?_
        rintro e w7 ⟨⟨a7, c7, rfl, hQ7⟩, hb7⟩
        have hPn := hP0.below hb7
        have hEn := hE0.below hb7
        have hBn := hB0.below hb7
        have hn := h0.trans (hb7.mono h0.size)
        clear hP0 hE0 hB0 h0
        have hP0 := hPn
        have hE0 := hEn
        have hB0 := hBn
        have h0 := hn
        clear hPn hEn hBn hn
        have KO := hide (key_ok a7 qs.length c7 qs w7 hQ7 (fun p hp' => by have := (hpo p hp').2; omega) l hkk)
        clear hQ7 hb7 hp hkk hpo
        generalize qs.length = ql at *
        go_wp2_with fail
        refine KO.out.mono ?_
        rintro e w8 ⟨⟨a8, c8, rfl, hY8⟩, hb8⟩
        have hPn := hP0.below hb8
        have hEn := hE0.below hb8
        have hBn := hB0.below hb8
        have hn := h0.trans (hb8.mono h0.size)
        clear hP0 hE0 hB0 h0
        have hP0 := hPn
        have hE0 := hEn
        have hB0 := hBn
        have h0 := hn
        clear hPn hEn hBn hn
        have cv8 := fun n => conv_str (hY8.below (below_drewN (Below.refl _ _) n))
        have cb8 := fun n => conv_str (hB0.below (below_drewN (Below.refl _ _) n))
        have cv80 := conv_str hY8
        have cb80 := conv_str hB0
        have se8 : ((str l).toList == (str l).toList) = true := by simp
        have sn8 : (!((str l).toList == (str l).toList)) = false := by simp
        clear hY8 hb8 KO
        generalize l.length = ll at *
        cases hm : rdEntries l with
        | ok ms =>
          have hkk := rdEntries_ok Hxs.out hm
          go_wp2_with fail
          refine (readEntries_ok b lb cb l w8 hB0 ms hm).mono ?_
          rintro e w9 ⟨⟨a9, c9, rfl, hM9⟩, hb9⟩
          have hPn := hP0.below hb9
          have hEn := hE0.below hb9
          have hBn := hB0.below hb9
          have hn := h0.trans (hb9.mono h0.size)
          clear hP0 hE0 hB0 h0
          have hP0 := hPn
          have hE0 := hEn
          have hB0 := hBn
          have h0 := hn
          clear hPn hEn hBn hn
          have EO := hide (entries_ok a9 ms.length c9 ms w9 hM9 l hkk)
          clear hM9 hb9 hm hkk
          generalize ms.length = ml at *
          go_wp2_with fail
          refine EO.out.mono ?_
          rintro e w10 ⟨⟨a10, c10, rfl, hY10⟩, hb10⟩
          have hPn := hP0.below hb10
          have hEn := hE0.below hb10
          have hBn := hB0.below hb10
          have hn := h0.trans (hb10.mono h0.size)
          clear hP0 hE0 hB0 h0
          have hP0 := hPn
          have hE0 := hEn
          have hB0 := hBn
          have h0 := hn
          clear hPn hEn hBn hn
          have cv10 := conv_str hY10
          have cb10 := conv_str hB0
          have se10 : ((str l).toList == (str l).toList) = true := by simp
          clear hY10 hb10 EO
          generalize l.length = ll at *
          go_wp2
          go_ret
          exact ⟨rfl, h0⟩
        | error mn =>
          go_wp2_with fail
          refine (readEntries_err b lb cb l w8 hB0 mn hm).mono ?_
          rintro e w9 ⟨⟨rfl, hn0⟩, hb9⟩
          have hPn := hP0.below hb9
          have hEn := hE0.below hb9
          have hBn := hB0.below hb9
          have hn := h0.trans (hb9.mono h0.size)
          clear hP0 hE0 hB0 h0
          have hP0 := hPn
          have hE0 := hEn
          have hB0 := hBn
          have h0 := hn
          clear hPn hEn hBn hn
          have q3 : ((mn : Int) != 0) = true := by simp; omega
          clear hb9 hm hn0
          go_wp2
          go_ret
          exact ⟨rfl, h0⟩
      | error pn =>
        go_wp2_with fail
        refine (readKey_err b lb cb l w4 hB0 pn hp).mono ?_
        rintro e w7 ⟨⟨rfl, hn0⟩, hb7⟩
        have hPn := hP0.below hb7
        have hEn := hE0.below hb7
        have hBn := hB0.below hb7
        have hn := h0.trans (hb7.mono h0.size)
        clear hP0 hE0 hB0 h0
        have hP0 := hPn
        have hE0 := hEn
        have hB0 := hBn
        have h0 := hn
        clear hPn hEn hBn hn
        have q2 : ((pn : Int) == 0) = false := by simp; omega
        clear hb7 hp hn0
        cases hm : rdEntries l with
        | ok ms =>
          have hkk := rdEntries_ok Hxs.out hm
          go_wp2_with fail
          refine (readEntries_ok b lb cb l w7 hB0 ms hm).mono ?_
          rintro e w9 ⟨⟨a9, c9, rfl, hM9⟩, hb9⟩
          have hPn := hP0.below hb9
          have hEn := hE0.below hb9
          have hBn := hB0.below hb9
          have hn := h0.trans (hb9.mono h0.size)
          clear hP0 hE0 hB0 h0
          have hP0 := hPn
          have hE0 := hEn
          have hB0 := hBn
          have h0 := hn
          clear hPn hEn hBn hn
          have EO := hide (entries_ok a9 ms.length c9 ms w9 hM9 l hkk)
          clear hM9 hb9 hm hkk
          generalize ms.length = ml at *
          go_wp2_with fail
          refine EO.out.mono ?_
          rintro e w10 ⟨⟨a10, c10, rfl, hY10⟩, hb10⟩
          have hPn := hP0.below hb10
          have hEn := hE0.below hb10
          have hBn := hB0.below hb10
          have hn := h0.trans (hb10.mono h0.size)
          clear hP0 hE0 hB0 h0
          have hP0 := hPn
          have hE0 := hEn
          have hB0 := hBn
          have h0 := hn
          clear hPn hEn hBn hn
          have cv10 := conv_str hY10
          have cb10 := conv_str hB0
          have se10 : ((str l).toList == (str l).toList) = true := by simp
          clear hY10 hb10 EO
          generalize l.length = ll at *
          go_wp2
          go_ret
          exact ⟨rfl, h0⟩
        | error mn =>
          go_wp2_with fail
          refine (readEntries_err b lb cb l w7 hB0 mn hm).mono ?_
          rintro e w9 ⟨⟨rfl, hn0⟩, hb9⟩
          have hPn := hP0.below hb9
          have hEn := hE0.below hb9
          have hBn := hB0.below hb9
          have hn := h0.trans (hb9.mono h0.size)
          clear hP0 hE0 hB0 h0
          have hP0 := hPn
          have hE0 := hEn
          have hB0 := hBn
          have h0 := hn
          clear hPn hEn hBn hn
          have q3 : ((mn : Int) != 0) = true := by simp; omega
          clear hb9 hm hn0
          go_wp2
          go_ret
          exact ⟨rfl, h0⟩
  | error kn =>
    go_wp2_with fail
    refine (key_err c lc cc ps w0 hP0 Hm1.out kn hk).mono ?_
    rintro e w1 ⟨⟨rfl, hn0⟩, hb1⟩
    have hPn := hP0.below hb1
    have hEn := hE0.below hb1
    have hBn := hB0.below hb1
    have hn := h0.trans (hb1.mono h0.size)
    clear hP0 hE0 hB0 h0
    have hP0 := hPn
    have hE0 := hEn
    have hB0 := hBn
    have h0 := hn
    clear hPn hEn hBn hn
    have q0 : ((kn : Int) == 0) = false := by simp; omega
    clear hb1 hk hn0
    cases he : entries es with
    | ok xb =>
      go_wp2_with fail
      refine (entries_ok d ld cd es w1 hE0 xb he).mono ?_
      rintro e w4 ⟨⟨a4, c4, rfl, hX4⟩, hb4⟩
      have hPn := hP0.below hb4
      have hEn := hE0.below hb4
      have hBn := hB0.below hb4
      have hn := h0.trans (hb4.mono h0.size)
      clear hP0 hE0 hB0 h0
      have hP0 := hPn
      have hE0 := hEn
      have hB0 := hBn
      have h0 := hn
      clear hPn hEn hBn hn
      have RE := hide (readEntries_ok a4 xb.length c4 xb w4 hX4 es (rdEntries_entries he))
      clear hX4 hb4 he
      generalize xb.length = xl at *
      go_wp2_with fail
      refine RE.out.mono ?_
      rintro e w5 ⟨⟨a5, c5, rfl, hM5⟩, hb5⟩
      have hPn := hP0.below hb5
      have hEn := hE0.below hb5
      have hBn := hB0.below hb5
      have hn := h0.trans (hb5.mono h0.size)
      clear hP0 hE0 hB0 h0
      have hP0 := hPn
      have hE0 := hEn
      have hB0 := hBn
      have h0 := hn
      clear hPn hEn hBn hn
      have SE := hide (sameEntries_any a5 d es.length c5 ld cd es es w5 hM5 hE0)
      rw [decide_eq_true rfl] at SE
      clear hM5 hb5 RE
      generalize es.length = el at *
      go_wp2_with fail
      refine SE.out.mono ?_
      rintro e w6 ⟨rfl, m6, rfl⟩
      have hb6 := below_drewN (Below.refl w5.heap.size w5) m6
      have hPn := hP0.below hb6
      have hEn := hE0.below hb6
      have hBn := hB0.below hb6
      have hn := h0.trans (hb6.mono h0.size)
      clear hP0 hE0 hB0 h0
      have hP0 := hPn
      have hE0 := hEn
      have hB0 := hBn
      have h0 := hn
      clear hPn hEn hBn hn
      clear SE hb6
      generalize w5.drewN m6 = wz2 at *
      cases hp : rdKey l with
      | ok qs =>
        obtain ⟨hkk, _, hpo⟩ := rdKey_ok Hxs.out hp
        go_wp2_with fail
        refine (readKey_ok b lb cb l wz2 hB0 qs hp).mono ?_
        rintro e w7 ⟨⟨a7, c7, rfl, hQ7⟩, hb7⟩
        have hPn := hP0.below hb7
        have hEn := hE0.below hb7
        have hBn := hB0.below hb7
        have hn := h0.trans (hb7.mono h0.size)
        clear hP0 hE0 hB0 h0
        have hP0 := hPn
        have hE0 := hEn
        have hB0 := hBn
        have h0 := hn
        clear hPn hEn hBn hn
        have KO := hide (key_ok a7 qs.length c7 qs w7 hQ7 (fun p hp' => by have := (hpo p hp').2; omega) l hkk)
        clear hQ7 hb7 hp hkk hpo
        generalize qs.length = ql at *
        go_wp2_with fail
        refine KO.out.mono ?_
        rintro e w8 ⟨⟨a8, c8, rfl, hY8⟩, hb8⟩
        have hPn := hP0.below hb8
        have hEn := hE0.below hb8
        have hBn := hB0.below hb8
        have hn := h0.trans (hb8.mono h0.size)
        clear hP0 hE0 hB0 h0
        have hP0 := hPn
        have hE0 := hEn
        have hB0 := hBn
        have h0 := hn
        clear hPn hEn hBn hn
        have cv8 := fun n => conv_str (hY8.below (below_drewN (Below.refl _ _) n))
        have cb8 := fun n => conv_str (hB0.below (below_drewN (Below.refl _ _) n))
        have cv80 := conv_str hY8
        have cb80 := conv_str hB0
        have se8 : ((str l).toList == (str l).toList) = true := by simp
        have sn8 : (!((str l).toList == (str l).toList)) = false := by simp
        clear hY8 hb8 KO
        generalize l.length = ll at *
        cases hm : rdEntries l with
        | ok ms =>
          have hkk := rdEntries_ok Hxs.out hm
          go_wp2_with fail
          refine (readEntries_ok b lb cb l w8 hB0 ms hm).mono ?_
          rintro e w9 ⟨⟨a9, c9, rfl, hM9⟩, hb9⟩
          have hPn := hP0.below hb9
          have hEn := hE0.below hb9
          have hBn := hB0.below hb9
          have hn := h0.trans (hb9.mono h0.size)
          clear hP0 hE0 hB0 h0
          have hP0 := hPn
          have hE0 := hEn
          have hB0 := hBn
          have h0 := hn
          clear hPn hEn hBn hn
          have EO := hide (entries_ok a9 ms.length c9 ms w9 hM9 l hkk)
          clear hM9 hb9 hm hkk
          generalize ms.length = ml at *
          go_wp2_with fail
          refine EO.out.mono ?_
          rintro e w10 ⟨⟨a10, c10, rfl, hY10⟩, hb10⟩
          have hPn := hP0.below hb10
          have hEn := hE0.below hb10
          have hBn := hB0.below hb10
          have hn := h0.trans (hb10.mono h0.size)
          clear hP0 hE0 hB0 h0
          have hP0 := hPn
          have hE0 := hEn
          have hB0 := hBn
          have h0 := hn
          clear hPn hEn hBn hn
          have cv10 := conv_str hY10
          have cb10 := conv_str hB0
          have se10 : ((str l).toList == (str l).toList) = true := by simp
          clear hY10 hb10 EO
          generalize l.length = ll at *
          go_wp2
          go_ret
          exact ⟨rfl, h0⟩
        | error mn =>
          go_wp2_with fail
          refine (readEntries_err b lb cb l w8 hB0 mn hm).mono ?_
          rintro e w9 ⟨⟨rfl, hn0⟩, hb9⟩
          have hPn := hP0.below hb9
          have hEn := hE0.below hb9
          have hBn := hB0.below hb9
          have hn := h0.trans (hb9.mono h0.size)
          clear hP0 hE0 hB0 h0
          have hP0 := hPn
          have hE0 := hEn
          have hB0 := hBn
          have h0 := hn
          clear hPn hEn hBn hn
          have q3 : ((mn : Int) != 0) = true := by simp; omega
          clear hb9 hm hn0
          go_wp2
          go_ret
          exact ⟨rfl, h0⟩
      | error pn =>
        go_wp2_with fail
        refine (readKey_err b lb cb l wz2 hB0 pn hp).mono ?_
        rintro e w7 ⟨⟨rfl, hn0⟩, hb7⟩
        have hPn := hP0.below hb7
        have hEn := hE0.below hb7
        have hBn := hB0.below hb7
        have hn := h0.trans (hb7.mono h0.size)
        clear hP0 hE0 hB0 h0
        have hP0 := hPn
        have hE0 := hEn
        have hB0 := hBn
        have h0 := hn
        clear hPn hEn hBn hn
        have q2 : ((pn : Int) == 0) = false := by simp; omega
        clear hb7 hp hn0
        cases hm : rdEntries l with
        | ok ms =>
          have hkk := rdEntries_ok Hxs.out hm
          go_wp2_with fail
          refine (readEntries_ok b lb cb l w7 hB0 ms hm).mono ?_
          rintro e w9 ⟨⟨a9, c9, rfl, hM9⟩, hb9⟩
          have hPn := hP0.below hb9
          have hEn := hE0.below hb9
          have hBn := hB0.below hb9
          have hn := h0.trans (hb9.mono h0.size)
          clear hP0 hE0 hB0 h0
          have hP0 := hPn
          have hE0 := hEn
          have hB0 := hBn
          have h0 := hn
          clear hPn hEn hBn hn
          have EO := hide (entries_ok a9 ms.length c9 ms w9 hM9 l hkk)
          clear hM9 hb9 hm hkk
          generalize ms.length = ml at *
          go_wp2_with fail
          refine EO.out.mono ?_
          rintro e w10 ⟨⟨a10, c10, rfl, hY10⟩, hb10⟩
          have hPn := hP0.below hb10
          have hEn := hE0.below hb10
          have hBn := hB0.below hb10
          have hn := h0.trans (hb10.mono h0.size)
          clear hP0 hE0 hB0 h0
          have hP0 := hPn
          have hE0 := hEn
          have hB0 := hBn
          have h0 := hn
          clear hPn hEn hBn hn
          have cv10 := conv_str hY10
          have cb10 := conv_str hB0
          have se10 : ((str l).toList == (str l).toList) = true := by simp
          clear hY10 hb10 EO
          generalize l.length = ll at *
          go_wp2
          go_ret
          exact ⟨rfl, h0⟩
        | error mn =>
          go_wp2_with fail
          refine (readEntries_err b lb cb l w7 hB0 mn hm).mono ?_
          rintro e w9 ⟨⟨rfl, hn0⟩, hb9⟩
          have hPn := hP0.below hb9
          have hEn := hE0.below hb9
          have hBn := hB0.below hb9
          have hn := h0.trans (hb9.mono h0.size)
          clear hP0 hE0 hB0 h0
          have hP0 := hPn
          have hE0 := hEn
          have hB0 := hBn
          have h0 := hn
          clear hPn hEn hBn hn
          have q3 : ((mn : Int) != 0) = true := by simp; omega
          clear hb9 hm hn0
          go_wp2
          go_ret
          exact ⟨rfl, h0⟩
    | error en =>
      go_wp2_with fail
      refine (entries_err d ld cd es w1 hE0 en he).mono ?_
      rintro e w4 ⟨⟨rfl, hn0⟩, hb4⟩
      have hPn := hP0.below hb4
      have hEn := hE0.below hb4
      have hBn := hB0.below hb4
      have hn := h0.trans (hb4.mono h0.size)
      clear hP0 hE0 hB0 h0
      have hP0 := hPn
      have hE0 := hEn
      have hB0 := hBn
      have h0 := hn
      clear hPn hEn hBn hn
      have q1 : ((en : Int) == 0) = false := by simp; omega
      clear hb4 he hn0
      cases hp : rdKey l with
      | ok qs =>
        obtain ⟨hkk, _, hpo⟩ := rdKey_ok Hxs.out hp
        go_wp2_with fail
        refine (readKey_ok b lb cb l w4 hB0 qs hp).mono ?_
        rintro e w7 ⟨⟨a7, c7, rfl, hQ7⟩, hb7⟩
        have hPn := hP0.below hb7
        have hEn := hE0.below hb7
        have hBn := hB0.below hb7
        have hn := h0.trans (hb7.mono h0.size)
        clear hP0 hE0 hB0 h0
        have hP0 := hPn
        have hE0 := hEn
        have hB0 := hBn
        have h0 := hn
        clear hPn hEn hBn hn
        have KO := hide (key_ok a7 qs.length c7 qs w7 hQ7 (fun p hp' => by have := (hpo p hp').2; omega) l hkk)
        clear hQ7 hb7 hp hkk hpo
        generalize qs.length = ql at *
        go_wp2_with fail
        refine KO.out.mono ?_
        rintro e w8 ⟨⟨a8, c8, rfl, hY8⟩, hb8⟩
        have hPn := hP0.below hb8
        have hEn := hE0.below hb8
        have hBn := hB0.below hb8
        have hn := h0.trans (hb8.mono h0.size)
        clear hP0 hE0 hB0 h0
        have hP0 := hPn
        have hE0 := hEn
        have hB0 := hBn
        have h0 := hn
        clear hPn hEn hBn hn
        have cv8 := fun n => conv_str (hY8.below (below_drewN (Below.refl _ _) n))
        have cb8 := fun n => conv_str (hB0.below (below_drewN (Below.refl _ _) n))
        have cv80 := conv_str hY8
        have cb80 := conv_str hB0
        have se8 : ((str l).toList == (str l).toList) = true := by simp
        have sn8 : (!((str l).toList == (str l).toList)) = false := by simp
        clear hY8 hb8 KO
        generalize l.length = ll at *
        cases hm : rdEntries l with
        | ok ms =>
          have hkk := rdEntries_ok Hxs.out hm
          go_wp2_with fail
          refine (readEntries_ok b lb cb l w8 hB0 ms hm).mono ?_
          rintro e w9 ⟨⟨a9, c9, rfl, hM9⟩, hb9⟩
          have hPn := hP0.below hb9
          have hEn := hE0.below hb9
          have hBn := hB0.below hb9
          have hn := h0.trans (hb9.mono h0.size)
          clear hP0 hE0 hB0 h0
          have hP0 := hPn
          have hE0 := hEn
          have hB0 := hBn
          have h0 := hn
          clear hPn hEn hBn hn
          have EO := hide (entries_ok a9 ms.length c9 ms w9 hM9 l hkk)
          clear hM9 hb9 hm hkk
          generalize ms.length = ml at *
          go_wp2_with fail
          refine EO.out.mono ?_
          rintro e w10 ⟨⟨a10, c10, rfl, hY10⟩, hb10⟩
          have hPn := hP0.below hb10
          have hEn := hE0.below hb10
          have hBn := hB0.below hb10
          have hn := h0.trans (hb10.mono h0.size)
          clear hP0 hE0 hB0 h0
          have hP0 := hPn
          have hE0 := hEn
          have hB0 := hBn
          have h0 := hn
          clear hPn hEn hBn hn
          have cv10 := conv_str hY10
          have cb10 := conv_str hB0
          have se10 : ((str l).toList == (str l).toList) = true := by simp
          clear hY10 hb10 EO
          generalize l.length = ll at *
          go_wp2
          go_ret
          exact ⟨rfl, h0⟩
        | error mn =>
          go_wp2_with fail
          refine (readEntries_err b lb cb l w8 hB0 mn hm).mono ?_
          rintro e w9 ⟨⟨rfl, hn0⟩, hb9⟩
          have hPn := hP0.below hb9
          have hEn := hE0.below hb9
          have hBn := hB0.below hb9
          have hn := h0.trans (hb9.mono h0.size)
          clear hP0 hE0 hB0 h0
          have hP0 := hPn
          have hE0 := hEn
          have hB0 := hBn
          have h0 := hn
          clear hPn hEn hBn hn
          have q3 : ((mn : Int) != 0) = true := by simp; omega
          clear hb9 hm hn0
          go_wp2
          go_ret
          exact ⟨rfl, h0⟩
      | error pn =>
        go_wp2_with fail
        refine (readKey_err b lb cb l w4 hB0 pn hp).mono ?_
        rintro e w7 ⟨⟨rfl, hn0⟩, hb7⟩
        have hPn := hP0.below hb7
        have hEn := hE0.below hb7
        have hBn := hB0.below hb7
        have hn := h0.trans (hb7.mono h0.size)
        clear hP0 hE0 hB0 h0
        have hP0 := hPn
        have hE0 := hEn
        have hB0 := hBn
        have h0 := hn
        clear hPn hEn hBn hn
        have q2 : ((pn : Int) == 0) = false := by simp; omega
        clear hb7 hp hn0
        cases hm : rdEntries l with
        | ok ms =>
          have hkk := rdEntries_ok Hxs.out hm
          go_wp2_with fail
          refine (readEntries_ok b lb cb l w7 hB0 ms hm).mono ?_
          rintro e w9 ⟨⟨a9, c9, rfl, hM9⟩, hb9⟩
          have hPn := hP0.below hb9
          have hEn := hE0.below hb9
          have hBn := hB0.below hb9
          have hn := h0.trans (hb9.mono h0.size)
          clear hP0 hE0 hB0 h0
          have hP0 := hPn
          have hE0 := hEn
          have hB0 := hBn
          have h0 := hn
          clear hPn hEn hBn hn
          have EO := hide (entries_ok a9 ms.length c9 ms w9 hM9 l hkk)
          clear hM9 hb9 hm hkk
          generalize ms.length = ml at *
          go_wp2_with fail
          refine EO.out.mono ?_
          rintro e w10 ⟨⟨a10, c10, rfl, hY10⟩, hb10⟩
          have hPn := hP0.below hb10
          have hEn := hE0.below hb10
          have hBn := hB0.below hb10
          have hn := h0.trans (hb10.mono h0.size)
          clear hP0 hE0 hB0 h0
          have hP0 := hPn
          have hE0 := hEn
          have hB0 := hBn
          have h0 := hn
          clear hPn hEn hBn hn
          have cv10 := conv_str hY10
          have cb10 := conv_str hB0
          have se10 : ((str l).toList == (str l).toList) = true := by simp
          clear hY10 hb10 EO
          generalize l.length = ll at *
          go_wp2
          go_ret
          exact ⟨rfl, h0⟩
        | error mn =>
          go_wp2_with fail
          refine (readEntries_err b lb cb l w7 hB0 mn hm).mono ?_
          rintro e w9 ⟨⟨rfl, hn0⟩, hb9⟩
          have hPn := hP0.below hb9
          have hEn := hE0.below hb9
          have hBn := hB0.below hb9
          have hn := h0.trans (hb9.mono h0.size)
          clear hP0 hE0 hB0 h0
          have hP0 := hPn
          have hE0 := hEn
          have hB0 := hBn
          have h0 := hn
          clear hPn hEn hBn hn
          have q3 : ((mn : Int) != 0) = true := by simp; omega
          clear hb9 hm hn0
          go_wp2
          go_ret
          exact ⟨rfl, h0⟩
theorem codecWhole.lawWalkUpto (c : Option Addr) (lc cc : Nat) (ps : List Part) (d : Option Addr) (ld cd : Nat) (es : List Ent) (b : Option Addr) (lb cb : Nat) (l : List Nat) (w : World)
    (hP : IsP w c lc cc ps) (hm1 : ∀ p ∈ ps, p.s.length ≤ 1048576) (hE : IsE w d ld cd es) (_hm2 : ∀ p ∈ es, p.1.length + p.2.length ≤ 1048576) (hB : IsB w b lb cb l) :
    Calls Try.prog 8 #[.slice c lc cc, .slice d ld cd, .slice b lb cb] w fun e w' => e = .returned (.bool true) ∧ Below w.heap.size w w' := whole_law c lc cc ps d ld cd es b lb cb l w hP hm1 hE hB
end Go.Proofs.Ytnimlpbalfamcaa
