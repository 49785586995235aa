/- the walk of CodecBack -/
import Derived.Test.YtnimlpbalfamcaaM
import Derived.Deep.RegionHeldLaw
namespace Go.Proofs.Ytnimlpbalfamcaa
open Go.RowKit Cod
theorem mem_num_app {l : List Nat} (n : Nat) (hx : ∀ x ∈ l, x < 256) : ∀ x ∈ num n ++ l, x < 256 := by
  intro x h; rcases List.mem_append.1 h with h | h
  · exact num_lt _ x h
  · exact hx x h
theorem mem_text_app {l : List Nat} (s : ByteArray) (hx : ∀ x ∈ l, x < 256) : ∀ x ∈ num s.size ++ bl s ++ l, x < 256 := by
  intro x h; rcases List.mem_append.1 h with h | h
  · rcases List.mem_append.1 h with h | h
    · exact num_lt _ x h
    · exact bl_lt s x h
  · exact hx x h
/-- append(own, b...), as a step of a region that draws its order -/
theorem step_clone {ops : Array Oper} {o : Oper} {a : Act} {w : World} {K : Act → World → Prop} {Q : Exit → Act → World → Prop} {E : Prop} (hw : Region.wanted o (yielded ops a.tmps) = true) (s x : Operand)
    (ho : o.op = .call { callee := .builtin .append, args := #[s, x], argTypes := #[22, 22] }) (base : Nat) (v : Value) (n : Nat) (xs : List Value) (hs : a.eval s = v) (hown : w.ownsRow base 5 1 v n xs)
    (src : Option Addr) (len cap : Nat) (l : List Nat) (hx : a.eval x = .slice src len cap) (hB : IsB w src len cap l) (hb : n + len ≤ 140737488355328) (hbase : base ≤ w.heap.size)
    (B : Nat) (w0 : World) (hbel : Below B w0 w) (hB0 : B ≤ base)
    (h : ∀ v' w', w'.ownsRow base 5 1 v' (n + len) (xs ++ bv l) → Below B w0 w' → K (a.put o.dst v') w') : if Region.wanted o (yielded ops a.tmps) = true then Oper.wp Try.prog o a w K Q else E := by
  rw [if_pos hw]
  obtain ⟨i0, hi, hz0, hz1, hz2⟩ := info_parts Try.info5
  obtain ⟨h1, h2, h3, h4, h5⟩ := id hB
  have key : ∀ ad : Addr, src = some ad → (∀ j u, (bv l)[j]? = some u → w.cell? (ad.add j) = some u) → Oper.wp Try.prog o a w K Q := by
    intro ad had hsrc
    refine wp_append_own w s x 22 ho base 5 i0 (.int .u8 0) 1 1 Try.underlying22 hi hz0 hz1 hz2 rfl (by decide) v n xs hs hown ad len cap (bv l) (by rw [hx, had]) (by rw [bv_length, h1]; omega) hsrc (bv_one l) (by unfold maxLen; omega) (by omega) hbase ?_
    intro v' w' ho' hg _
    refine h v' w' ho' (hbel.grown hg (by omega) ?_)
    intro k hk
    have := (hown.lt k hk).1
    omega
  rcases h5 with ⟨h5, h6⟩ | ⟨b, off, rfl, hlt, hc⟩
  · subst h5
    obtain rfl : l = [] := List.length_eq_zero_iff.1 h1
    cases src with
    | none =>
      obtain rfl := h6 rfl
      have hrun := run_append_owned_none (P := Try.prog) (w := w) base 22 o.type 5 i0 1 Try.underlying22 hi v n xs hown
      have hk := h v w (by simpa [bv] using hown) hbel
      unfold Oper.wp
      simp [execOp, ho, resolve, invoke, builtin, hs, hx, hrun, Result.andThen]
      exact hk
    | some ad => exact key ad rfl (by simp [bv])
  · refine key _ rfl ?_
    intro j u hj
    have hjl : j < l.length := by
      rw [← bv_length]
      exact (List.getElem?_eq_some_iff.1 hj).1
    rw [bv_get l j hjl] at hj
    cases hj
    rw [addr_add]
    exact hc j (by omega)
theorem rdText_ne {m : Nat} {l : List Nat} {k : Nat} (h : rdText m l = .error k) : k ≠ 0 := by
  unfold rdText at h
  split at h
  · cases h; decide
  · split at h
    · cases h; decide
    · split at h
      · cases h; decide
      · cases h
set_option maxRecDepth 100000 in
set_option maxHeartbeats 8000000 in
theorem back_any (a : Option Addr) (len cap : Nat) (l : List Nat) (n : Nat) (m : Int) (s : ByteArray) (w : World) (h : IsB w a len cap l) (hn : n < 18446744073709551616) (h0 : -9223372036854775808 ≤ m) (h1 : m < 9223372036854775808) (hr : len + s.size ≤ 1048576) : Calls Try.prog 7 #[.slice a len cap, .int .u64 n, .int .i64 m, .string s] w fun e w' => e = .returned (.bool true) ∧ Below w.heap.size w w' := by
  have hx := h.2.2.2.1
  have hlen := h.1
  have hl1 := num_len10 hn
  have hzz := zig_lt m h0 h1
  have hl2 := num_len10 hzz
  have hl3 := num_len10 (n := s.size) (by omega)
  have Hx := hide hx
  have Hlen := hide hlen
  clear hx hlen
  go_enter Try.func7, Try.ntmps7
  go_wp2_with fail
  refine (lives_any w).mono ?_
  rintro e w1 ⟨rfl, hb1⟩
  have hA1 := h.below hb1
  clear h
  go_wp2_with fail
  refine (num_any none 0 0 n [] w1 (isB_nil w1) (by decide) hn).mono ?_
  rintro e w2 ⟨v2, rfl, hown2, hb2⟩
  rw [Nat.zero_add, List.nil_append] at hown2
  have hA2 := hA1.below hb2
  have hs2 := hb2.size
  go_wp2_with (at_builtin; refine wpList_clone rfl _ _ rfl w1.heap.size v2 (num n).length (bv (num n)) rfl hown2 a len cap l rfl hA2 (by omega) hs2 w1.heap.size w1 hb2 (Nat.le_refl _) ?_)
  intro v3 w3 hown3 hb3
  rw [← bv_append] at hown3
  obtain ⟨x3, y3, rfl, hB3⟩ := owns_isB hown3 (mem_num_app n Hx.out)
  have hA3 := hA1.below hb3
  have h3 := hb1.trans (hb3.mono hb1.size)
  clear hown2 hown3 hb2 hb3 hA1 hA2 hb1 hs2
  have hrd : rdNum (num n ++ l) = some (n, (num n ++ l).drop (num n).length) := by rw [List.drop_left]; exact rdNum_num hn l
  have HC := hide (readNum_of x3 ((num n).length + len) y3 (num n ++ l) w3 hB3 (by omega) n (num n).length hrd (by omega))
  rw [List.drop_left, Nat.add_sub_cancel_left] at HC
  clear hrd hB3
  go_wp2_with fail
  refine HC.out.mono ?_
  rintro e w4 ⟨⟨x4, y4, rfl, hR1⟩, hb4⟩
  have hA4 := hA3.below hb4
  have h4 := h3.trans (hb4.mono h3.size)
  clear HC hA3 h3 hb4
  go_wp2_with fail
  refine (int_any none 0 0 m [] w4 (isB_nil w4) (by decide) h0 h1).mono ?_
  rintro e w5 ⟨v5, rfl, hown5, hb5⟩
  rw [Nat.zero_add, List.nil_append] at hown5
  have hA5 := hA4.below hb5
  have hs5 := hb5.size
  go_wp2_with (at_builtin; refine wpList_clone rfl _ _ rfl w4.heap.size v5 (num (zig m)).length (bv (num (zig m))) rfl hown5 a len cap l rfl hA5 (by omega) hs5 w4.heap.size w4 hb5 (Nat.le_refl _) ?_)
  intro v6 w6 hown6 hb6
  rw [← bv_append] at hown6
  obtain ⟨x6, y6, rfl, hB6⟩ := owns_isB hown6 (mem_num_app (zig m) Hx.out)
  have hA6 := hA4.below hb6
  have hR1' := hR1.below hb6
  have h6 := h4.trans (hb6.mono h4.size)
  clear hown5 hown6 hb5 hb6 hA4 hA5 h4 hs5 hR1
  have hrd : rdNum (num (zig m) ++ l) = some (zig m, (num (zig m) ++ l).drop (num (zig m)).length) := by rw [List.drop_left]; exact rdNum_num hzz l
  have HC := hide (readInt_of x6 ((num (zig m)).length + len) y6 (num (zig m) ++ l) w6 hB6 (by omega) (zig m) (num (zig m)).length hrd (by omega))
  rw [List.drop_left, Nat.add_sub_cancel_left, zag_zig] at HC
  clear hrd hB6
  go_wp2_with fail
  refine HC.out.mono ?_
  rintro e w7 ⟨⟨x7, y7, rfl, hR2⟩, hb7⟩
  have hA7 := hA6.below hb7
  have hR1 := hR1'.below hb7
  have h7 := h6.trans (hb7.mono h6.size)
  clear HC hA6 h6 hb7 hR1'
  have cv1 := conv_str hR1
  have cv2 := conv_str hR2
  have cv3 := conv_str hA7
  have n1 : ((n : Int) != (n : Int)) = false := by simp
  have n2 : (m != m) = false := by simp
  have H7 := hide h7
  have HA7 := hide hA7
  clear hR1 hR2 hA7 h7
  have s1 : (!((str l).toList == (str l).toList)) = false := by simp
  have s2 : ((str l).toList == (str l).toList) = true := by simp
  generalize str l = sl at *
  have hA7 := HA7.out
  have h7 := H7.out
  clear HA7
  have Hs : Hid (0 = 0) := hide rfl
  go_wp2_with fail
  refine (text_any none 0 0 s [] w7 (isB_nil w7) (by omega)).mono ?_
  rintro e w8 ⟨v8, rfl, hown8, hb8⟩
  rw [Nat.zero_add, List.nil_append] at hown8
  have hA8 := hA7.below hb8
  have hs8 := hb8.size
  clear cv1 cv2 cv3
  go_wp2_with (at_builtin; refine wpList_clone rfl _ _ rfl w7.heap.size v8 ((num s.size).length + s.size) (bv (num s.size ++ bl s)) rfl hown8 a len cap l rfl hA8 (by omega) hs8 w7.heap.size w7 hb8 (Nat.le_refl _) ?_)
  intro v9 w9 hown9 hb9
  rw [← bv_append] at hown9
  obtain ⟨x9, y9, rfl, hB9⟩ := owns_isB hown9 (mem_text_app s Hx.out)
  have hA9 := hA7.below hb9
  have h9 := h7.trans (hb9.mono h7.size)
  clear hown8 hown9 hb8 hb9 hA7 hA8 hs8 h7 H7 Hs s1 s2 n1 n2
  have etx : num s.size ++ bl s ++ l = text (bl s) ++ l := by rw [text, bl_length]
  by_cases hsm : s.size ≤ 1024
  · have hrd : rdText 1024 (num s.size ++ bl s ++ l) = .ok (bl s, l) := by rw [etx]; exact rdText_text (by rw [bl_length]; exact hsm) (by rw [bl_length]; omega) l
    have HC := hide (readText_of x9 ((num s.size).length + s.size + len) y9 _ w9 hB9 (by omega) (bl s) l hrd)
    rw [str_bl, Hlen.out] at HC
    clear hrd hB9 etx
    have d1 : decide ((s.size : Int) ≤ 1024) = true := by simp; omega
    have d2 : decide ((1024 : Int) < (s.size : Int)) = false := by simp; omega
    have d3 : decide (s.size ≤ 1024) = true := by simp; omega
    have d4 : decide (1024 < s.size) = false := by simp; omega
    go_wp2_with fail
    refine HC.out.mono ?_
    rintro e wa ⟨⟨xa, ya, rfl, hRa⟩, hba⟩
    have hAa := hA9.below hba
    have ha := h9.trans (hba.mono h9.size)
    clear HC hA9 h9 hba
    have cv1 := conv_str hRa
    have cv3 := conv_str hAa
    have s1 : (!((str l).toList == (str l).toList)) = false := by simp
    have s2 : ((str l).toList == (str l).toList) = true := by simp
    have s6 : (!(s.toList == s.toList)) = false := by simp
    clear hRa
    cases hnn : rdNum l with
    | none =>
      have HN := hide hnn
      clear hnn
      go_wp2_with fail
      refine (readNum_no a len cap l wa hAa (by omega) HN.out).mono ?_
      rintro e wb ⟨rfl, hbb⟩
      have hAb := hAa.below hbb
      have hb := ha.trans (hbb.mono ha.size)
      clear hAa ha hbb
      go_wp2
      go_quiet (fail)
      have hAc := hAb.below (below_drewN (Below.refl _ _) nq)
      have hc := below_drewN hb nq
      clear hAb hb
      generalize wb.drewN nq = wc at *
      cases ht : rdText 1024 l with
      | error k =>
        have HT := hide ht
        clear ht
        have hk : Hid (k ≠ 0) := hide (rdText_ne HT.out)
        have d9 : ((k : Int) != 0) = true := by have := hk.out; simp; omega
        go_wp2_with fail
        refine (readText_no a len cap l wc hAc (by omega) k HT.out).mono ?_
        rintro e wz ⟨rfl, hbz⟩
        have hz := hc.trans (hbz.mono hc.size)
        have HZ := hide hz
        clear hz hbz hAc hc
        go_wp2
        go_quiet (fail)
        go_wp2
        go_ret
        exact ⟨rfl, below_drewN HZ.out nq⟩
      | ok sr =>
        obtain ⟨s', r'⟩ := sr
        have HT := hide ht
        clear ht
        obtain ⟨hl', hs1, hs2⟩ := rdText_ok Hx.out HT.out
        have HL := hide hl'
        have hrl : r'.length ≤ len := by have h1 := congrArg List.length HL.out; have := Hlen.out; simp at h1; omega
        have Hs' : Hid (∀ x ∈ s', x < 256) := hide (fun x hx => Hx.out x (by rw [HL.out]; simp [text, hx]))
        clear hl'
        go_wp2_with fail
        refine (readText_of a len cap l wc hAc (by omega) s' r' HT.out).mono ?_
        rintro e wd ⟨⟨xd, yd, rfl, hRd⟩, hbd⟩
        have hAd := hAc.below hbd
        have hd := hc.trans (hbd.mono hc.size)
        clear hAc hc hbd
        have el : num s'.length ++ s' ++ r' = l := by rw [HL.out]; rfl
        have HEL := hide el
        have hl5 := num_len10 (n := s'.length) (by omega)
        have hzz5 : (str s').size ≤ 1024 := by rw [str_size]; omega
        have HSb : ∀ W, Below wd.heap.size wd W → ((convert 22 9 (.slice a len cap)).run Try.prog W = .ok (.string (str l)) W ∧ Hid (IsB W xd r'.length yd r')) := fun W hW => ⟨conv_str (hAd.below hW), hide (hRd.below hW)⟩
        have HSB := hide HSb
        have s5 : ((str l).toList == (str l).toList) = true := by simp
        have Hd := hide hd
        clear HSb hAd hRd hd el
        go_wp2
        go_region_held_law (fun w' => (convert 22 9 (.slice a len cap)).run Try.prog w' = .ok (.string (str l)) w' ∧ Hid (IsB w' xd r'.length yd r')) (first | exact HSB.out _ (Below.drew (Below.refl _ _)) | exact HSB.out _ hq2 | exact HSB.out _ hb3) (first | (go_at_call 18; refine (text_any none 0 0 (str s') [] _ (isB_nil _) (by omega)).mono ?_; rintro e w2 ⟨v2, rfl, hown2, hb2⟩; have hq2 : Below wd.heap.size wd w2 := (Below.drew (Below.refl _ _)).trans hb2; have hown2' : w2.ownsRow wd.heap.size 5 1 v2 ((num s'.length).length + s'.length) (bv (num s'.length ++ s')) := (by rw [Nat.zero_add, List.nil_append, bl_str Hs'.out, str_size] at hown2; exact hown2); have hqs := hq2.size) | (refine step_clone rfl _ _ rfl wd.heap.size v2 ((num s'.length).length + s'.length) (bv (num s'.length ++ s')) rfl hown2' xd r'.length yd r' rfl (HSB.out _ hq2).2.out (by omega) hqs wd.heap.size wd hq2 (Nat.le_refl _) ?_; intro v3 w3 hown3 hb3; rw [← bv_append, HEL.out] at hown3; obtain ⟨xf, yf, rfl, hF⟩ := owns_isB hown3 Hx.out; have cvf := conv_str hF))
        all_goals
          go_wp2
          go_ret
          exact ⟨rfl, Hd.out.trans (hb3.mono Hd.out.size)⟩
    | some nr =>
      obtain ⟨n', r0⟩ := nr
      obtain ⟨p, hp, rfl, hn'⟩ := rdNum_drop Hx.out hnn
      obtain ⟨hl', _⟩ := rdNum_some Hx.out hnn
      have HN := hide hnn
      have HL := hide hl'
      have hp : p ≤ len := by have := Hlen.out; omega
      clear hnn hl'
      go_wp2_with fail
      refine (readNum_of a len cap l wa hAa (by omega) n' p HN.out hp).mono ?_
      rintro e wb ⟨⟨xb, yb, rfl, hRb⟩, hbb⟩
      have hAb := hAa.below hbb
      have hb := ha.trans (hbb.mono ha.size)
      have hl4 := num_len10 hn'
      clear hAa ha hbb
      have HSb : ∀ W, Below wb.heap.size wb W → ((convert 22 9 (.slice a len cap)).run Try.prog W = .ok (.string (str l)) W ∧ Hid (IsB W xb (len - p) yb (l.drop p)) ∧ Hid (IsB W a len cap l)) := fun W hW => ⟨conv_str (hAb.below hW), hide (hRb.below hW), hide (hAb.below hW)⟩
      have HSB := hide HSb
      have s3 : (!((str l).toList == (str l).toList)) = false := by simp
      have s4 : ((str l).toList == (str l).toList) = true := by simp
      have Hb := hide hb
      clear HSb hAb hRb hb
      go_wp2
      go_region_held_law (fun w' => (convert 22 9 (.slice a len cap)).run Try.prog w' = .ok (.string (str l)) w' ∧ Hid (IsB w' xb (len - p) yb (l.drop p)) ∧ Hid (IsB w' a len cap l)) (first | exact HSB.out _ (Below.drew (Below.refl _ _)) | exact HSB.out _ hq2 | exact HSB.out _ hb3) (first | (go_at_call 14; refine (num_any none 0 0 n' [] _ (isB_nil _) (by decide) hn').mono ?_; rintro e w2 ⟨v2, rfl, hown2, hb2⟩; have hq2 : Below wb.heap.size wb w2 := (Below.drew (Below.refl _ _)).trans hb2; have hown2' : w2.ownsRow wb.heap.size 5 1 v2 (num n').length (bv (num n')) := (by rw [Nat.zero_add, List.nil_append] at hown2; exact hown2); have hqs := hq2.size) | (refine step_clone rfl _ _ rfl wb.heap.size v2 (num n').length (bv (num n')) rfl hown2' xb (len - p) yb (l.drop p) rfl (HSB.out _ hq2).2.1.out (by omega) hqs wb.heap.size wb hq2 (Nat.le_refl _) ?_; intro v3 w3 hown3 hb3; rw [← bv_append, ← HL.out] at hown3; obtain ⟨xf, yf, rfl, hF⟩ := owns_isB hown3 Hx.out; have cvf := conv_str hF))
      rotate_left 0
      have hAc := (HSB.out _ hb3).2.2.out
      have hc := Hb.out.trans (hb3.mono Hb.out.size)
      clear hown2 hown2' hb2 hq2 hqs hown3 hb3 hF cvf HSB Hb
      generalize w3 = wc at *
      cases ht : rdText 1024 l with
      | error k =>
        have HT := hide ht
        clear ht
        have hk : Hid (k ≠ 0) := hide (rdText_ne HT.out)
        have d9 : ((k : Int) != 0) = true := by have := hk.out; simp; omega
        go_wp2_with fail
        refine (readText_no a len cap l wc hAc (by omega) k HT.out).mono ?_
        rintro e wz ⟨rfl, hbz⟩
        have hz := hc.trans (hbz.mono hc.size)
        have HZ := hide hz
        clear hz hbz hAc hc
        go_wp2
        go_quiet (fail)
        go_wp2
        go_ret
        exact ⟨rfl, below_drewN HZ.out nq⟩
      | ok sr =>
        obtain ⟨s', r'⟩ := sr
        have HT := hide ht
        clear ht
        obtain ⟨hl', hs1, hs2⟩ := rdText_ok Hx.out HT.out
        have HL := hide hl'
        have hrl : r'.length ≤ len := by have h1 := congrArg List.length HL.out; have := Hlen.out; simp at h1; omega
        have Hs' : Hid (∀ x ∈ s', x < 256) := hide (fun x hx => Hx.out x (by rw [HL.out]; simp [text, hx]))
        clear hl'
        go_wp2_with fail
        refine (readText_of a len cap l wc hAc (by omega) s' r' HT.out).mono ?_
        rintro e wd ⟨⟨xd, yd, rfl, hRd⟩, hbd⟩
        have hAd := hAc.below hbd
        have hd := hc.trans (hbd.mono hc.size)
        clear hAc hc hbd
        have el : num s'.length ++ s' ++ r' = l := by rw [HL.out]; rfl
        have HEL := hide el
        have hl5 := num_len10 (n := s'.length) (by omega)
        have hzz5 : (str s').size ≤ 1024 := by rw [str_size]; omega
        have HSb : ∀ W, Below wd.heap.size wd W → ((convert 22 9 (.slice a len cap)).run Try.prog W = .ok (.string (str l)) W ∧ Hid (IsB W xd r'.length yd r')) := fun W hW => ⟨conv_str (hAd.below hW), hide (hRd.below hW)⟩
        have HSB := hide HSb
        have s5 : ((str l).toList == (str l).toList) = true := by simp
        have Hd := hide hd
        clear HSb hAd hRd hd el
        go_wp2
        go_region_held_law (fun w' => (convert 22 9 (.slice a len cap)).run Try.prog w' = .ok (.string (str l)) w' ∧ Hid (IsB w' xd r'.length yd r')) (first | exact HSB.out _ (Below.drew (Below.refl _ _)) | exact HSB.out _ hq2 | exact HSB.out _ hb3) (first | (go_at_call 18; refine (text_any none 0 0 (str s') [] _ (isB_nil _) (by omega)).mono ?_; rintro e w2 ⟨v2, rfl, hown2, hb2⟩; have hq2 : Below wd.heap.size wd w2 := (Below.drew (Below.refl _ _)).trans hb2; have hown2' : w2.ownsRow wd.heap.size 5 1 v2 ((num s'.length).length + s'.length) (bv (num s'.length ++ s')) := (by rw [Nat.zero_add, List.nil_append, bl_str Hs'.out, str_size] at hown2; exact hown2); have hqs := hq2.size) | (refine step_clone rfl _ _ rfl wd.heap.size v2 ((num s'.length).length + s'.length) (bv (num s'.length ++ s')) rfl hown2' xd r'.length yd r' rfl (HSB.out _ hq2).2.out (by omega) hqs wd.heap.size wd hq2 (Nat.le_refl _) ?_; intro v3 w3 hown3 hb3; rw [← bv_append, HEL.out] at hown3; obtain ⟨xf, yf, rfl, hF⟩ := owns_isB hown3 Hx.out; have cvf := conv_str hF))
        all_goals
          go_wp2
          go_ret
          exact ⟨rfl, Hd.out.trans (hb3.mono Hd.out.size)⟩
  · have hrd : rdText 1024 (num s.size ++ bl s ++ l) = .error 4 := by rw [etx]; exact rdText_long (by rw [bl_length]; omega) (by rw [bl_length]; omega) l
    have HC := hide (readText_no x9 ((num s.size).length + s.size + len) y9 _ w9 hB9 (by omega) 4 hrd)
    clear hrd hB9 etx
    have d1 : decide ((s.size : Int) ≤ 1024) = false := by simp; omega
    have d2 : decide ((1024 : Int) < (s.size : Int)) = true := by simp; omega
    have d3 : decide (s.size ≤ 1024) = false := by simp; omega
    have d4 : decide (1024 < s.size) = true := by simp; omega
    go_wp2_with fail
    refine HC.out.mono ?_
    rintro e wa ⟨rfl, hba⟩
    have hAa := hA9.below hba
    have ha := h9.trans (hba.mono h9.size)
    clear HC hA9 h9 hba
    cases hnn : rdNum l with
    | none =>
      have HN := hide hnn
      clear hnn
      go_wp2_with fail
      refine (readNum_no a len cap l wa hAa (by omega) HN.out).mono ?_
      rintro e wb ⟨rfl, hbb⟩
      have hAb := hAa.below hbb
      have hb := ha.trans (hbb.mono ha.size)
      clear hAa ha hbb
      go_wp2
      go_quiet (fail)
      have hAc := hAb.below (below_drewN (Below.refl _ _) nq)
      have hc := below_drewN hb nq
      clear hAb hb
      generalize wb.drewN nq = wc at *
      cases ht : rdText 1024 l with
      | error k =>
        have HT := hide ht
        clear ht
        have hk : Hid (k ≠ 0) := hide (rdText_ne HT.out)
        have d9 : ((k : Int) != 0) = true := by have := hk.out; simp; omega
        go_wp2_with fail
        refine (readText_no a len cap l wc hAc (by omega) k HT.out).mono ?_
        rintro e wz ⟨rfl, hbz⟩
        have hz := hc.trans (hbz.mono hc.size)
        have HZ := hide hz
        clear hz hbz hAc hc
        go_wp2
        go_quiet (fail)
        go_wp2
        go_ret
        exact ⟨rfl, below_drewN HZ.out nq⟩
      | ok sr =>
        obtain ⟨s', r'⟩ := sr
        have HT := hide ht
        clear ht
        obtain ⟨hl', hs1, hs2⟩ := rdText_ok Hx.out HT.out
        have HL := hide hl'
        have hrl : r'.length ≤ len := by have h1 := congrArg List.length HL.out; have := Hlen.out; simp at h1; omega
        have Hs' : Hid (∀ x ∈ s', x < 256) := hide (fun x hx => Hx.out x (by rw [HL.out]; simp [text, hx]))
        clear hl'
        go_wp2_with fail
        refine (readText_of a len cap l wc hAc (by omega) s' r' HT.out).mono ?_
        rintro e wd ⟨⟨xd, yd, rfl, hRd⟩, hbd⟩
        have hAd := hAc.below hbd
        have hd := hc.trans (hbd.mono hc.size)
        clear hAc hc hbd
        have el : num s'.length ++ s' ++ r' = l := by rw [HL.out]; rfl
        have HEL := hide el
        have hl5 := num_len10 (n := s'.length) (by omega)
        have hzz5 : (str s').size ≤ 1024 := by rw [str_size]; omega
        have HSb : ∀ W, Below wd.heap.size wd W → ((convert 22 9 (.slice a len cap)).run Try.prog W = .ok (.string (str l)) W ∧ Hid (IsB W xd r'.length yd r')) := fun W hW => ⟨conv_str (hAd.below hW), hide (hRd.below hW)⟩
        have HSB := hide HSb
        have s5 : ((str l).toList == (str l).toList) = true := by simp
        have Hd := hide hd
        clear HSb hAd hRd hd el
        go_wp2
        go_region_held_law (fun w' => (convert 22 9 (.slice a len cap)).run Try.prog w' = .ok (.string (str l)) w' ∧ Hid (IsB w' xd r'.length yd r')) (first | exact HSB.out _ (Below.drew (Below.refl _ _)) | exact HSB.out _ hq2 | exact HSB.out _ hb3) (first | (go_at_call 18; refine (text_any none 0 0 (str s') [] _ (isB_nil _) (by omega)).mono ?_; rintro e w2 ⟨v2, rfl, hown2, hb2⟩; have hq2 : Below wd.heap.size wd w2 := (Below.drew (Below.refl _ _)).trans hb2; have hown2' : w2.ownsRow wd.heap.size 5 1 v2 ((num s'.length).length + s'.length) (bv (num s'.length ++ s')) := (by rw [Nat.zero_add, List.nil_append, bl_str Hs'.out, str_size] at hown2; exact hown2); have hqs := hq2.size) | (refine step_clone rfl _ _ rfl wd.heap.size v2 ((num s'.length).length + s'.length) (bv (num s'.length ++ s')) rfl hown2' xd r'.length yd r' rfl (HSB.out _ hq2).2.out (by omega) hqs wd.heap.size wd hq2 (Nat.le_refl _) ?_; intro v3 w3 hown3 hb3; rw [← bv_append, HEL.out] at hown3; obtain ⟨xf, yf, rfl, hF⟩ := owns_isB hown3 Hx.out; have cvf := conv_str hF))
        all_goals
          go_wp2
          go_ret
          exact ⟨rfl, Hd.out.trans (hb3.mono Hd.out.size)⟩
    | some nr =>
      obtain ⟨n', r0⟩ := nr
      obtain ⟨p, hp, rfl, hn'⟩ := rdNum_drop Hx.out hnn
      obtain ⟨hl', _⟩ := rdNum_some Hx.out hnn
      have HN := hide hnn
      have HL := hide hl'
      have hp : p ≤ len := by have := Hlen.out; omega
      clear hnn hl'
      go_wp2_with fail
      refine (readNum_of a len cap l wa hAa (by omega) n' p HN.out hp).mono ?_
      rintro e wb ⟨⟨xb, yb, rfl, hRb⟩, hbb⟩
      have hAb := hAa.below hbb
      have hb := ha.trans (hbb.mono ha.size)
      have hl4 := num_len10 hn'
      clear hAa ha hbb
      have HSb : ∀ W, Below wb.heap.size wb W → ((convert 22 9 (.slice a len cap)).run Try.prog W = .ok (.string (str l)) W ∧ Hid (IsB W xb (len - p) yb (l.drop p)) ∧ Hid (IsB W a len cap l)) := fun W hW => ⟨conv_str (hAb.below hW), hide (hRb.below hW), hide (hAb.below hW)⟩
      have HSB := hide HSb
      have s3 : (!((str l).toList == (str l).toList)) = false := by simp
      have s4 : ((str l).toList == (str l).toList) = true := by simp
      have Hb := hide hb
      clear HSb hAb hRb hb
      go_wp2
      go_region_held_law (fun w' => (convert 22 9 (.slice a len cap)).run Try.prog w' = .ok (.string (str l)) w' ∧ Hid (IsB w' xb (len - p) yb (l.drop p)) ∧ Hid (IsB w' a len cap l)) (first | exact HSB.out _ (Below.drew (Below.refl _ _)) | exact HSB.out _ hq2 | exact HSB.out _ hb3) (first | (go_at_call 14; refine (num_any none 0 0 n' [] _ (isB_nil _) (by decide) hn').mono ?_; rintro e w2 ⟨v2, rfl, hown2, hb2⟩; have hq2 : Below wb.heap.size wb w2 := (Below.drew (Below.refl _ _)).trans hb2; have hown2' : w2.ownsRow wb.heap.size 5 1 v2 (num n').length (bv (num n')) := (by rw [Nat.zero_add, List.nil_append] at hown2; exact hown2); have hqs := hq2.size) | (refine step_clone rfl _ _ rfl wb.heap.size v2 (num n').length (bv (num n')) rfl hown2' xb (len - p) yb (l.drop p) rfl (HSB.out _ hq2).2.1.out (by omega) hqs wb.heap.size wb hq2 (Nat.le_refl _) ?_; intro v3 w3 hown3 hb3; rw [← bv_append, ← HL.out] at hown3; obtain ⟨xf, yf, rfl, hF⟩ := owns_isB hown3 Hx.out; have cvf := conv_str hF))
      rotate_left 0
      have hAc := (HSB.out _ hb3).2.2.out
      have hc := Hb.out.trans (hb3.mono Hb.out.size)
      clear hown2 hown2' hb2 hq2 hqs hown3 hb3 hF cvf HSB Hb
      generalize w3 = wc at *
      cases ht : rdText 1024 l with
      | error k =>
        have HT := hide ht
        clear ht
        have hk : Hid (k ≠ 0) := hide (rdText_ne HT.out)
        have d9 : ((k : Int) != 0) = true := by have := hk.out; simp; omega
        go_wp2_with fail
        refine (readText_no a len cap l wc hAc (by omega) k HT.out).mono ?_
        rintro e wz ⟨rfl, hbz⟩
        have hz := hc.trans (hbz.mono hc.size)
        have HZ := hide hz
        clear hz hbz hAc hc
        go_wp2
        go_quiet (fail)
        go_wp2
        go_ret
        exact ⟨rfl, below_drewN HZ.out nq⟩
      | ok sr =>
        obtain ⟨s', r'⟩ := sr
        have HT := hide ht
        clear ht
        obtain ⟨hl', hs1, hs2⟩ := rdText_ok Hx.out HT.out
        have HL := hide hl'
        have hrl : r'.length ≤ len := by have h1 := congrArg List.length HL.out; have := Hlen.out; simp at h1; omega
        have Hs' : Hid (∀ x ∈ s', x < 256) := hide (fun x hx => Hx.out x (by rw [HL.out]; simp [text, hx]))
        clear hl'
        go_wp2_with fail
        refine (readText_of a len cap l wc hAc (by omega) s' r' HT.out).mono ?_
        rintro e wd ⟨⟨xd, yd, rfl, hRd⟩, hbd⟩
        have hAd := hAc.below hbd
        have hd := hc.trans (hbd.mono hc.size)
        clear hAc hc hbd
        have el : num s'.length ++ s' ++ r' = l := by rw [HL.out]; rfl
        have HEL := hide el
        have hl5 := num_len10 (n := s'.length) (by omega)
        have hzz5 : (str s').size ≤ 1024 := by rw [str_size]; omega
        have HSb : ∀ W, Below wd.heap.size wd W → ((convert 22 9 (.slice a len cap)).run Try.prog W = .ok (.string (str l)) W ∧ Hid (IsB W xd r'.length yd r')) := fun W hW => ⟨conv_str (hAd.below hW), hide (hRd.below hW)⟩
        have HSB := hide HSb
        have s5 : ((str l).toList == (str l).toList) = true := by simp
        have Hd := hide hd
        clear HSb hAd hRd hd el
        go_wp2
        go_region_held_law (fun w' => (convert 22 9 (.slice a len cap)).run Try.prog w' = .ok (.string (str l)) w' ∧ Hid (IsB w' xd r'.length yd r')) (first | exact HSB.out _ (Below.drew (Below.refl _ _)) | exact HSB.out _ hq2 | exact HSB.out _ hb3) (first | (go_at_call 18; refine (text_any none 0 0 (str s') [] _ (isB_nil _) (by omega)).mono ?_; rintro e w2 ⟨v2, rfl, hown2, hb2⟩; have hq2 : Below wd.heap.size wd w2 := (Below.drew (Below.refl _ _)).trans hb2; have hown2' : w2.ownsRow wd.heap.size 5 1 v2 ((num s'.length).length + s'.length) (bv (num s'.length ++ s')) := (by rw [Nat.zero_add, List.nil_append, bl_str Hs'.out, str_size] at hown2; exact hown2); have hqs := hq2.size) | (refine step_clone rfl _ _ rfl wd.heap.size v2 ((num s'.length).length + s'.length) (bv (num s'.length ++ s')) rfl hown2' xd r'.length yd r' rfl (HSB.out _ hq2).2.out (by omega) hqs wd.heap.size wd hq2 (Nat.le_refl _) ?_; intro v3 w3 hown3 hb3; rw [← bv_append, HEL.out] at hown3; obtain ⟨xf, yf, rfl, hF⟩ := owns_isB hown3 Hx.out; have cvf := conv_str hF))
        all_goals
          go_wp2
          go_ret
          exact ⟨rfl, Hd.out.trans (hb3.mono Hd.out.size)⟩
theorem codecBack.lawWalkUpto (a : Option Addr) (len cap : Nat) (l : List Nat) (n m : Int) (s : ByteArray) (w : World) (h : IsB w a len cap l) (wn : (Lit.int .u64 n).wf = true) (wm : (Lit.int .i64 m).wf = true) (hr : len + s.size ≤ 1048576) : Calls Try.prog 7 #[.slice a len cap, .int .u64 n, .int .i64 m, .string s] w fun e w' => e = .returned (.bool true) ∧ Below w.heap.size w w' := by
  obtain ⟨h0, h1⟩ := bounds_u64 wn
  obtain ⟨h2, h3⟩ := bounds_i64 wm
  obtain ⟨n, rfl⟩ := Int.eq_ofNat_of_zero_le h0
  exact back_any a len cap l n m s w h (by omega) h2 (by omega) hr
end Go.Proofs.Ytnimlpbalfamcaa
