/- JournalWhole, walked -/
import Derived.Test.YteckglnfkgfefaaJpD
namespace Go.Proofs.Yteckglnfkgfefaa
open Go.RowKit Cod
set_option maxRecDepth 40000
set_option linter.unusedSimpArgs false
set_option linter.unusedVariables false
theorem append_zero {n : Nat} {j j' : Jn} {st st' : St} {l : List (List ByteArray)} {rs : List ByteArray} (h : Lv n j st l) (hok : okB rs) (hn : j.nxt ≤ 4611686018427387904) (hr : (frL rs 1).length ≤ j.room) (hap : Jn.append n rs j st = (j', st', 0)) (j1 : j.count = n) (hz : ∀ s, j.nxt ≤ s → s < 1 + n → j.rd st s = full []) :
    (∀ k, st'.fr k = none) ∧ ∀ s, j.nxt + (frL rs 1).length ≤ s → s < 1 + n → j.rd st' s = full [] := by
  have hf0 := h.f0
  have hf1 := h.f1
  have hf2 := h.f2
  have hl : (frL rs 1).length = (frL rs j.nxt).length := by rw [frL_length, frL_length]
  rw [hl] at hr ⊢
  have hst : startB j.nxt = true := decide_eq_true ⟨by omega, hn⟩
  obtain ⟨s2, a1, _, _, _, _, a6, _, a8, _⟩ := append_up h.up h.arm h.nf h.c1 h.c0 hok hst hr
  rw [a1] at hap
  obtain ⟨_, e2⟩ := Prod.mk.inj hap
  obtain ⟨rfl, _⟩ := Prod.mk.inj e2
  exact ⟨a6, fun s h1 h2 => by rw [a8 s (by omega) (by omega) (by omega) (by omega)]; exact hz s (by omega) h2⟩
/-- between two batches -/
def WhI (w W : World) (gj g gs b count B : Nat) (x : Value) : Prop :=
  ∃ j st l, Lv count j st l ∧ Jd w W gj g gs b count j st ∧ j.first = 0 ∧ j.count = count ∧ j.frm = 1 ∧ st.wr + 1 = j.nxt ∧ KR w W B x l ∧ (∀ k, st.fr k = none) ∧ (∀ s, j.nxt ≤ s → s < 1 + count → j.rd st s = full []) ∧ B ≤ W.heap.size
theorem append_wr {N : Nat} {j j' : Jn} {st st2 : St} {l : List (List ByteArray)} {rs : List ByteArray} {c e : Int} (h : Lv N j st l) (j1 : j.count = N) (j2 : j.frm = 1) (he : Jn.append N rs j (st.arms c) = (j', st2, e)) : st2.wr ≤ st.wr + N := by
  have hc0 := h.c0
  have hf1 := h.f1
  rw [j1] at hc0
  rw [j2] at hf1
  have hfc := h.c1
  unfold Jn.append at he
  rw [if_neg (by simp [h.nf])] at he
  by_cases hE : frE rs j.nxt ≠ 0
  · rw [if_pos hE] at he
    cases he
    show st.wr ≤ _; omega
  rw [if_neg hE] at he
  by_cases hR : j.room < (frL rs j.nxt).length
  · rw [if_pos hR] at he
    cases he
    show st.wr ≤ _; omega
  rw [if_neg hR] at he
  have hL : (frL rs j.nxt).length ≤ N := by unfold Jn.room at hR; rw [j1, j2] at hR; omega
  rcases wrs_any N j.sec (frL rs j.nxt) j.nxt (st.arms c) h.up (fun i _ => by have := sec_lt (j := j) (by omega) (j.nxt + i); omega) (fun b hb => by rw [frL_len b hb]; exact Nat.le_refl _) (fun i k hik hk => sec_ne (by omega) hik (by omega)) with ⟨st', g1, _, _, _, _, g6⟩ | ⟨st', k, hk, g1, _, _, _, _, g6⟩
  · rw [g1, if_neg (by simp)] at he
    have e1 : st2 = st' := (Prod.mk.inj (Prod.mk.inj he).2).1.symm
    rw [e1]
    have : (st.arms c).wr = st.wr := rfl
    omega
  · rw [g1, if_pos (show (8 : Int) ≠ 0 by decide)] at he
    have e1 : st2 = st' := (Prod.mk.inj (Prod.mk.inj he).2).1.symm
    rw [e1]
    have : (st.arms c).wr = st.wr := rfl
    omega
theorem IsD.pushed {X : Nat → Prop} {W W' : World} {g gs b n B k : Nat} {st : St} {o : Obj} {v : Value} {vs : List Value} (h : IsD X W g gs b n st) (ho : W.ownsRow B 22 1 v k vs) (hne : ∀ q, v.ownBlock = some q → ¬ SD g gs b q) (hg : (W.alloc o).grownBy W' v.ownBlock) : IsD X W' g gs b n st := by
  have ho' : (W.alloc o).ownsRow B 22 1 v k vs := ho.alloc _
  have h1 := h.below ((Below.refl _ _).alloc (Nat.le_refl W.heap.size) o)
  have hf : Frm (fun i => v.ownBlock = some i) (W.alloc o) W' := Frm.grown hg (fun q hq => hq)
  refine h1.kept hf hne (K5.of_frm hf ?_)
  rintro i cur m hi e
  rcases ho'.2 with ⟨rfl, _⟩ | ⟨q, c, cr, rfl, _, hq, _⟩
  · cases hi
  · cases hi
    rw [hq] at e
    simp at e
theorem cut_wr (st : St) : st.cut.1.wr = st.wr := by unfold St.cut; split <;> rfl
theorem rest_cases {n : Nat} {F : List (Nat × Nat)} {st : St} (h : st.down = true) : (∃ k : Int, k ≠ 0 ∧ st.rest n F = (st, k)) ∨ st.rest n F = (st.over n F, 0) := by
  unfold St.rest
  rw [if_pos h]
  by_cases h1 : 1024 < F.length
  · rw [if_pos h1]; exact .inl ⟨3, by decide, rfl⟩
  · rw [if_neg h1]
    by_cases h2 : goodB F = true
    · rw [if_pos h2]; exact .inr rfl
    · rw [if_neg h2]; exact .inl ⟨15, by decide, rfl⟩
theorem nil_one (s : Nat) : (frL [] s).length = 1 := by
  rw [frL_length]
  have : (batL []).length = 1 := by simp [batL, recL, num_small]
  rw [this]
  rfl
/-- an empty batch, where a journal has been opened anew -/
theorem nil_append {N T : Nat} {st : St} (h0 : 0 < N) (hT1 : 1 ≤ T) (hT2 : T ≤ 1 + N) (hN : N ≤ 1024) (hd : st.down = false) (ha : st.arm = false) :
    (Jn.append N [] ⟨0, N, 1, T, false⟩ st).2.2 = 0 ∨ ((Jn.append N [] ⟨0, N, 1, T, false⟩ st) = (⟨0, N, 1, T, false⟩, st, 7) ∧ (⟨0, N, 1, T, false⟩ : Jn).room = 0) := by
  have hok : okB [] := ⟨by simp, by simp⟩
  have hst : startB T = true := decide_eq_true ⟨hT1, by omega⟩
  by_cases hr : (frL [] T).length ≤ (⟨0, N, 1, T, false⟩ : Jn).room
  · obtain ⟨st', h, _⟩ := append_up (n := N) (j := ⟨0, N, 1, T, false⟩) hd ha rfl (by show 0 + N ≤ N; omega) h0 hok hst hr
    left
    rw [h]
  · right
    rw [nil_one] at hr
    refine ⟨?_, by omega⟩
    unfold Jn.append
    rw [if_neg (by simp), if_neg (fun e => e (frE_of hok hst)), if_pos (by rw [nil_one]; omega)]
set_option maxHeartbeats 8000000 in
theorem wholeWalk (C : Int) (a : Option Addr) (len cap : Nat) (bs : List (List ByteArray)) (a2 : Option Addr) (len2 cap2 : Nat) (last : List ByteArray) (M : Int) (a4 : Option Addr) (len4 cap4 : Nat) (F : List (Nat × Nat)) (w : World) (hC : -9223372036854775808 ≤ C ∧ C ≤ 9223372036854775807) (h : IsSS w a len cap bs) (hlw : len ≤ 140737488355328) (h2 : IsT w a2 len2 cap2 last) (hM : -9223372036854775808 ≤ M ∧ M ≤ 9223372036854775807) (h4 : IsF w a4 len4 cap4 F) :
    Calls Try.prog 5 #[.int .i64 C, .slice a len cap, .slice a2 len2 cap2, .int .i64 M, .slice a4 len4 cap4] w fun e w' => e = .returned (.bool true) ∧ Below w.heap.size w w' := by
  clear hlw
  obtain ⟨i0, hi, hz0, hz1, hz2⟩ := info_parts info22
  have HT := hide h
  have HT2 := hide h2
  have HT4 := hide h4
  have hlm : len ≤ 9223372036854775807 := Nat.le_trans h.2.1 h.2.2.1
  have hl2 := h2.1
  subst hl2
  clear h h2 h4
  by_cases hc : 1 ≤ C ∧ C ≤ 1024
  · obtain ⟨count, rfl⟩ := Int.eq_ofNat_of_zero_le (show 0 ≤ C by omega)
    have h0 : 0 < count := by omega
    have h1 : count ≤ 1024 := by omega
    clear hC hc
    go_enter Try.func5, Try.ntmps5
    go_wp2_with fail
    refine (lives_any w).mono ?_
    rintro e w1 ⟨rfl, hb1⟩
    have HB1 := hide hb1
    clear hb1
    go_wp2_with fail
    refine (new_jd w1 count h0 h1).mono ?_
    rintro e w2 ⟨g, gs, b, rfl, hd2, hs2, hb2⟩
    have HOP := hide (open_first w w2 g gs b count hd2 (fun i hi => Nat.le_trans HB1.out.size (hs2 i hi)) (HB1.out.trans (hb2.mono HB1.out.size)) h0 h1)
    clear hd2 hs2 hb2
    go_wp2_with fail
    refine HOP.out.mono ?_
    rintro e w3 ⟨gj, v3, rfl, hj3⟩
    have HSJ := hide (SJ.lt hj3)
    have HWB := hide hj3.b.size
    have HI3 : Hid (WhI w w3 gj g gs b count w3.heap.size (.slice none 0 0)) := hide ⟨_, _, _, Lv.new h0 (Nat.le_refl _) h1, hj3, rfl, rfl, rfl, rfl, KR.nil _ _ _, fun _ => rfl, fun s _ _ => rfl, Nat.le_refl _⟩
    generalize w3.heap.size = B at *
    clear hj3 HOP HB1
    go_wp2_with fail
    go_loopw [50, 15] (fun i x wr => ∃ k : Nat, k ≤ len ∧ i = .int .i64 (k : Nat) ∧ WhI w wr gj g gs b count B x) (fun i _ _ => len - (intOf i).toNat)
    case atStart => exact ⟨0, Nat.zero_le _, rfl, HI3.out⟩
    case round =>
      obtain ⟨k, hk, rfl, ⟨jf, jc, jr, nx, fl⟩, st, l, hlv, hjd, hj0, hjc, hj1, hwr, hkr, hfr, hz, hBW⟩ := hrel
      dsimp only at hj0 hjc hj1 hwr hz
      subst hj0
      subst hjc
      subst hj1
      have HLV := hide hlv
      have HJD := hide hjd
      have HWR := hide hwr
      have HKR := hide hkr
      have HFR := hide hfr
      have HZ := hide hz
      have hf2 := hlv.f2
      have hf1 := hlv.f1
      dsimp only at hf1 hf2
      have HLL : Hid (l.length ≤ 1024) := hide (by
        have := run_le l 1 nx hf1 hlv.run
        omega)
      clear hlv hjd hwr hkr hfr hz HI3
      by_cases hkl : k < len
      · rcases HT.out.2.2.2 with hz | ⟨bb, off, rfl, hlt, hc⟩
        · omega
        obtain ⟨a', c', hck0, hI⟩ := hc k hkl
        have hck := (HJD.out.b.cell (p := ⟨bb, off + k, none⟩) hlt).trans hck0
        obtain ⟨rs, hrs⟩ : ∃ rs, rs = bs.getD k [] := ⟨_, rfl⟩
        rw [← hrs] at hck hI
        have HI := hide hI
        clear hc hI hrs hck0
        have ht := HLV.out.tries (rs := rs) (by show nx ≤ _; omega)
        rcases ht with ⟨hok, hLr, st', hap, hlv', hwr'⟩ | ⟨hno, E, hE, hap⟩
        · have HAP := hide (HJD.out.append2 (HI.out.below HJD.out.b) (by have := HWR.out; omega) hap)
          have HZ' := hide (append_zero HLV.out hok (by show nx ≤ _; omega) hLr hap rfl HZ.out)
          have HLV' := hide hlv'
          have HWR' := hide hwr'
          clear hok hap hlv' hwr' hLr
          go_wp2_with fail
          refine HAP.out.mono ?_
          rintro e w5 ⟨rfl, hj5, hf5⟩
          have HJ5 := hide hj5
          have hBW5 : B ≤ w5.heap.size := Nat.le_trans hBW hf5.size
          obtain ⟨vs, hvo, hvl⟩ := HKR.out.frm hf5 HSJ.out
          have HVO := hide hvo
          have HVL := hide hvl
          clear hj5 hf5 hvo hvl HAP HKR HJD
          go_wp2_with (at_builtin; refine wpList_append_own _ rfl _ _ 36 rfl B 22 i0 (.slice none 0 0) 1 24 Try.underlying36 hi hz0 hz1 hz2 rfl (by decide) _ l.length vs rfl (HVO.out.alloc _) ⟨w5.heap.size, 0, none⟩ 1 1 [.slice a' rs.length c'] rfl rfl (cell_one_new _ _ _) (one_slice _ _ _) ?c3 ?c4 ?c5 ?_)
          case c3 => have := HLL.out; unfold maxLen; omega
          case c4 => have := HLL.out; omega
          case c5 => simp; omega
          intro v7 w7 hown7 hg7 _
          have HK7 : Hid (KR w w7 B v7 (l ++ [rs])) := hide (KR.push (by have := HVO.out.1; omega) HVL.out HI.out hown7)
          have HJ7 := hide (HJ5.out.push HSJ.out HVO.out hBW5 HWB.out hg7)
          have hBW7 : B ≤ w7.heap.size := Nat.le_trans hBW5 (Nat.le_trans (by simp) hg7.size)
          clear hown7 hg7 HVO HVL HJ5
          go_wp2
          go_roundw
          case rel => exact ⟨k + 1, by omega, by go_num, _, st', _, HLV'.out, HJ7.out, rfl, rfl, rfl, by have := HWR'.out; have := HWR.out; show st'.wr + 1 = nx + _; omega, HK7.out, HZ'.out.1, HZ'.out.2, hBW7⟩
          case measure => simp [intOf]; omega
        · have HAP := hide (HJD.out.append2 (HI.out.below HJD.out.b) (by have := HWR.out; omega) hap)
          have e0 : (E == 0) = false := by simpa using hE
          clear hno hap
          go_wp2_with fail
          refine HAP.out.mono ?_
          rintro e w5 ⟨rfl, hj5, hf5⟩
          have HJ5 := hide hj5
          have hBW5 : B ≤ w5.heap.size := Nat.le_trans hBW hf5.size
          have HK5 := hide (HKR.out.frm hf5 HSJ.out)
          clear hj5 hf5 HAP HKR HJD
          go_wp2_with fail
          go_roundw
          case rel => exact ⟨k + 1, by omega, by go_num, _, st, _, HLV.out, HJ5.out, rfl, rfl, rfl, HWR.out, HK5.out, HFR.out, HZ.out, hBW5⟩
          case measure => simp [intOf]; omega
      · have HFK := hide (fork_any wr g gs b jc st HJD.out.d)
        go_wp2_with fail
        refine HFK.out.mono ?_
        rintro e w4 ⟨g1, gs1, b1, Y, rfl, hw4, hb4, hs4⟩
        have HNE : Hid (∀ i, SJ gj g gs b i → ¬ SD g1 gs1 b1 i) := hide (fun i hi e => by have := SJ.lt HJD.out i hi; have := hs4 i e; omega)
        have HOB : Hid (∀ q, u15.ownBlock = some q → ¬ SD g1 gs1 b1 q) := hide (fun q hq e => by
          obtain ⟨vs, hvo, _⟩ := HKR.out
          have := (hvo.lt q hq).2
          have := hs4 q e
          omega)
        have hBW4 : B ≤ w4.heap.size := by have := hb4.size; omega
        have HJ4 := hide (HJD.out.below hb4)
        have HK4 := hide (HKR.out.below hb4)
        have HW4 := hide hw4
        have HAR := hide (arm_any w4 g gs b jc st HJ4.out.d M hM.2)
        have harm : st.armed M = (st.arms M, 0) := by unfold St.armed; rw [if_neg (by simp [HLV.out.up])]
        rw [harm] at HAR
        clear hw4 hb4 hs4 HFK HJD HKR harm
        go_wp2_with fail
        refine HAR.out.mono ?_
        rintro e w5 ⟨rfl, hd5, hf5⟩
        have hBW5 : B ≤ w5.heap.size := by have := hBW4; have := hf5.size; omega
        have HJ5 : Hid (Jd w w5 gj g gs b jc ⟨0, jc, 1, nx, fl⟩ (st.arms M)) := hide ⟨hd5, HJ4.out.j.kept hf5 (HJ4.out.j.ne HJ4.out.d), HJ4.out.lo, HJ4.out.b.trans (hf5.toBelow HJ4.out.b.size HJ4.out.lo.2)⟩
        have HW5 := hide (HW4.out.away HJ4.out.d hf5 (fun i hi => HNE.out i (.inr hi)))
        have HK5 := hide (HK4.out.frm hf5 (fun i hi => HSJ.out i (.inr hi)))
        obtain ⟨⟨j', st2, E⟩, hap⟩ : ∃ r, Jn.append jc last ⟨0, jc, 1, nx, fl⟩ (st.arms M) = r := ⟨_, rfl⟩
        have HAP := hide (HJ5.out.append2 (HT2.out.below HJ5.out.b) (by have := HWR.out; show st.wr < _; omega) hap)
        have HCR := hide (fun NF => crash_run (F := F) HLV.out HZ.out HFR.out h1 rfl rfl rfl hap NF)
        have HWE := hide (append_wr HLV.out rfl rfl hap)
        clear hd5 hf5 HAR HJ4 HW4 HK4 hap
        go_wp2_with fail
        refine HAP.out.mono ?_
        rintro e w6 ⟨rfl, hj6, hf6⟩
        have HJ6 := hide hj6
        have hBW6' : B ≤ w6.heap.size := by have := hBW5; have := hf6.size; omega
        have HW6 := hide (HW5.out.awayJ HJ5.out.d HJ5.out.j hf6 HNE.out)
        have HK6 := hide (HK5.out.frm hf6 HSJ.out)
        clear hj6 hf6 HAP HJ5 HW5 HK5
        obtain ⟨KL, hKL⟩ : ∃ KL, KL = if E = 0 then l ++ [last] else l := ⟨_, rfl⟩
        rw [← hKL] at HCR
        have HKL : Hid (KL.length ≤ 1025) := hide (by
          rw [hKL]
          have := HLL.out
          split
          · rw [List.length_append]; simp; omega
          · omega)
        rcases Classical.em (E = 0) with hE | hE
        case' inl =>
          rw [if_pos hE] at hKL
          subst hE
          obtain ⟨vs, hvo, hvl⟩ := HK6.out
          have HVO := hide hvo
          have HVL := hide hvl
          clear hvo hvl HK6
          go_wp2_with (at_builtin; refine wpList_append_own _ rfl _ _ 36 rfl B 22 i0 (.slice none 0 0) 1 24 Try.underlying36 hi hz0 hz1 hz2 rfl (by decide) _ l.length vs rfl (HVO.out.alloc _) ⟨w6.heap.size, 0, none⟩ 1 1 [.slice a2 last.length cap2] rfl rfl (cell_one_new _ _ _) (one_slice _ _ _) ?c3 ?c4 ?c5 ?_)
          case c3 => have := HLL.out; unfold maxLen; omega
          case c4 => have := HLL.out; omega
          case c5 => simp; omega
          intro v7 w7 hown7 hg7 _
          have HK7 : Hid (KR w w7 B v7 KL) := hide (by rw [hKL]; exact KR.push (by have := HVO.out.1; omega) HVL.out HT2.out hown7)
          have HJ7 := hide (HJ6.out.push HSJ.out HVO.out hBW6' HWB.out hg7)
          have HW7 : Hid (IsD NoX w7 g1 gs1 b1 jc { st with xs := Y }) := hide (HW6.out.pushed HVO.out HOB.out hg7)
          clear hown7 hg7 HVO HVL
        case' inr =>
          rw [if_neg hE] at hKL
          have e0 : (E == 0) = false := by simpa using hE
          subst hKL
          obtain ⟨w7, hw7⟩ : ∃ w7, w7 = w6 := ⟨_, rfl⟩
          obtain ⟨v7, hv7⟩ : ∃ v7, v7 = u15 := ⟨_, rfl⟩
          subst hw7
          have HK7 := hide HK6.out
          have HJ7 := hide HJ6.out
          have HW7 := hide HW6.out
          subst hv7
        all_goals
          have HCT := hide (cut_any w7 g gs b jc st2 HJ7.out.d)
          go_wp2_with fail
          refine HCT.out.mono ?_
          rintro e w8 ⟨rfl, hd8, hf8⟩
          have HD8 := hide hd8
          have HW8 := hide (HW7.out.away HJ7.out.d hf8 (fun i hi => HNE.out i (.inr hi)))
          have HK8 := hide (HK7.out.frm hf8 (fun i hi => HSJ.out i (.inr hi)))
          have HB8 : Hid (Below w.heap.size w w8) := hide (HJ7.out.b.trans (hf8.toBelow HJ7.out.b.size HJ7.out.lo.2))
          have HLO : Hid (∀ i, SD g gs b i → w.heap.size ≤ i) := hide HJ7.out.lo.2
          have HKP := hide (keep_any w8 g gs b jc _ hd8)
          have HDN : Hid (st2.cut.1.down = true) := hide (cut_down _)
          have HW3 : Hid (st2.cut.1.wr ≤ st.wr + jc) := hide (by rw [cut_wr]; exact HWE.out)
          generalize st2.cut.1 = st3 at *
          generalize st2.cut.2 = z3 at *
          clear hd8 hf8 HCT HJ7 HW7 HK7
          go_wp2_with fail
          refine HKP.out.mono ?_
          rintro e w9 ⟨⟨g2, gs2, b2, s2, rfl, hi9, hu9, hr9, hs9⟩, hb9⟩
          have HD9 := hide (HD8.out.below hb9)
          have HW9 := hide (HW8.out.below hb9)
          have HK9 := hide (HK8.out.below hb9)
          have HB9 : Hid (Below w.heap.size w w9) := hide (HB8.out.trans (hb9.mono HB8.out.size))
          have HA9 := hide hi9
          have HR9 := hide hr9
          have HN9 : Hid (∀ i, SD g gs b i → ¬ SD g2 gs2 b2 i) := hide (fun i hi e => by have := HD8.out.lt i hi; have := hs9 i e; omega)
          have HRS := hide (rest_any w9 g gs b jc _ HD9.out a4 len4 cap4 F (HT4.out.below HB9.out))
          clear hi9 hr9 hs9 hb9 HKP HD8 HW8 HK8 HB8
          rcases rest_cases (n := jc) (F := F) HDN.out with ⟨q, hq, hre⟩ | hre
          · rw [hre] at HRS
            have e1 : (q != 0) = true := by simpa using hq
            clear hre
            go_wp2_with fail
            refine HRS.out.mono ?_
            rintro e w10 ⟨rfl, hd10, hf10⟩
            have HB10 : Hid (Below w.heap.size w w10) := hide (HB9.out.trans (hf10.toBelow HB9.out.size HLO.out))
            have HDW := hide (down_any w10 g gs b jc _ hd10)
            rw [HDN.out] at HDW
            clear hd10 hf10 HRS
            go_wp2_with fail
            refine HDW.out.mono ?_
            rintro e w11 ⟨rfl, rfl⟩
            go_wp2_with fail
            go_ret
            exact ⟨rfl, HB10.out⟩
          · rw [hre] at HRS
            clear hre
            go_wp2_with fail
            refine HRS.out.mono ?_
            rintro e w10 ⟨rfl, hd10, hf10⟩
            have HB10 : Hid (Below w.heap.size w w10) := hide (HB9.out.trans (hf10.toBelow HB9.out.size HLO.out))
            have HD10 := hide hd10
            have HW10 := hide (HW9.out.away HD9.out hf10 (fun i hi => HNE.out i (.inr hi)))
            have HA10 := hide (HA9.out.away HD9.out hf10 HN9.out)
            have HK10 := hide (HK9.out.frm hf10 (fun i hi => HSJ.out i (.inr hi)))
            have HFA := hide (forgedAll w10 g1 gs1 b1 g2 gs2 b2 g gs b jc _ _ _ HW10.out HA10.out HD10.out HLV.out.up hu9 rfl)
            clear hd10 hf10 HRS HD9 HW9 HA9 HK9 HB9
            go_wp2_with fail
            refine HFA.out.mono ?_
            rintro e w11 ⟨⟨t, rfl, ht⟩, hb11⟩
            have HB11 : Hid (Below w.heap.size w w11) := hide (HB10.out.trans (hb11.mono HB10.out.size))
            cases t with
            | true =>
              go_wp2_with fail
              go_ret
              exact ⟨rfl, HB11.out⟩
            | false =>
              obtain ⟨T, hrun⟩ := HCR.out (fun x hx => by have := ht rfl x hx; rw [HR9.out x hx] at this; exact this)
              have hT := run_le KL 1 T (by omega) hrun
              have HK11 := hide (HK10.out.below hb11)
              have HD11 := hide (HD10.out.below hb11)
              have HOP := hide (open_ok w11 g gs b jc _ HD11.out rfl 0 jc 1 h0 (by omega) (by omega) (by omega) KL T (by rw [Nat.add_comm 1 jc] at hrun ⊢; exact hrun))
              have hw4b : (st3.over jc F).wr < 4611686018427380000 := by have := HW3.out; have := HWR.out; show st3.wr < _; omega
              have NA := nil_append (st := st3.over jc F) h0 (by omega) hT.2 h1 rfl rfl
              generalize st3.over jc F = st4 at *
              clear hrun hb11 ht HFA HK10 HD10 HW10 HA10 HB10
              go_wp2_with fail
              refine HOP.out.mono ?_
              rintro e w12 ⟨gk, v12, rfl, hgk, hjk, hll, hb12⟩
              have HB12 : Hid (Below w.heap.size w w12) := hide (HB11.out.trans (hb12.mono HB11.out.size))
              obtain ⟨a12, c12, rfl, hL12⟩ := hll.isLL
              obtain ⟨a13, c13, hv13, hS13⟩ := (HK11.out.below hb12).isSS HB12.out
              subst hv13
              have HD12 := hide (HD11.out.below hb12)
              have HJK := hide hjk
              have HGK : Hid (w.heap.size ≤ gk) := hide (Nat.le_trans HB11.out.size hgk)
              have HSM := hide (sameSS_any a12 KL.length c12 KL a13 c13 w12 hL12.isSS hS13)
              have hc12 := hL12.2.1
              have hm12 := hL12.2.2.1
              unfold maxLen at hm12
              generalize KL.length = m at *
              have hlt1 : decide ((m : Int) < (m : Int)) = false := decide_eq_false (by omega)
              have hlt2 : decide ((m : Int) + 1 < (m : Int)) = false := decide_eq_false (by omega)
              have hmk := HKL.out
              clear hgk hjk hll hL12 hS13 hb12 HOP HK11 HD11
              go_wp2_with fail
              refine HSM.out.mono ?_
              rintro e w13 ⟨rfl, hb13⟩
              have HB13 : Hid (Below w.heap.size w w13) := hide (HB12.out.trans (hb13.mono HB12.out.size))
              have HAN := hide (append_any w13 gk g gs b jc ⟨0, jc, 1, T, false⟩ st4 none 0 0 [] (HJK.out.below hb13) (HD12.out.below hb13) ⟨rfl, Nat.le_refl _, Nat.zero_le _, .inl rfl⟩ hw4b)
              clear HSM hb13 HB12
              go_wp2_with fail
              refine HAN.out.mono ?_
              rintro e w14 ⟨rfl, hd14, hj14, hf14⟩
              have HB14 : Hid (Below w.heap.size w w14) := hide (HB13.out.trans (hf14.toBelow HB13.out.size (fun i hi => hi.elim (fun e => by rw [e]; exact HGK.out) (HLO.out i))))
              rcases NA with na | ⟨na, nr⟩
              · rw [na]
                clear hd14 hj14 hf14 HAN
                go_wp2_with fail
                go_ret
                exact ⟨rfl, HB14.out⟩
              · rw [na] at hj14
                rw [na]
                have HRM := hide (room_any w14 gk g _ hj14)
                rw [nr] at HRM
                clear hd14 hj14 hf14 HAN
                go_wp2_with fail
                refine HRM.out.mono ?_
                rintro e w15 ⟨rfl, hb15⟩
                have HB15 : Hid (Below w.heap.size w w15) := hide (HB14.out.trans (hb15.mono HB14.out.size))
                go_wp2_with fail
                go_ret
                exact ⟨rfl, HB15.out⟩
  · have HCC := hide hc
    go_enter Try.func5, Try.ntmps5
    go_wp2_with fail
    refine (lives_any w).mono ?_
    rintro e w1 ⟨rfl, hb1⟩
    have HB1 := hide hb1
    clear hb1
    go_wp2_with fail
    refine (new_no w1 C HCC.out).mono ?_
    rintro e w2 ⟨rfl, rfl⟩
    go_wp2_with fail
    refine (open_nil0 w2 C).mono ?_
    rintro e w3 ⟨rfl, rfl⟩
    by_cases h1 : C < 1
    · have hd1 : decide (C < 1) = true := decide_eq_true h1
      clear hc
      go_wp2_with fail
      go_ret
      exact ⟨rfl, HB1.out⟩
    · have hd1 : decide (C < 1) = false := decide_eq_false h1
      have hd2 : decide (1024 < C) = true := decide_eq_true (by omega)
      clear hc
      go_wp2_with fail
      go_ret
      exact ⟨rfl, HB1.out⟩
end Go.Proofs.Yteckglnfkgfefaa
