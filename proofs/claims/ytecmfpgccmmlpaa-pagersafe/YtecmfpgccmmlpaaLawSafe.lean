/- PagerSafe, walked -/
import Derived.Test.YtecmfpgccmmlpaaTd
namespace Go.Proofs.Ytecmfpgccmmlpaa
open Go.RowKit
set_option maxRecDepth 100000
set_option linter.unusedVariables false
set_option linter.unusedSimpArgs false
theorem Try.info3' : (Try.prog.info? 3).map (fun i => (i.zero, i.size, i.bytes)) = some (some (.int .i64 0), 1, 8) := by kernel_rfl
theorem Try.info9' : (Try.prog.info? 9).map (fun i => (i.zero, i.size, i.bytes)) = some (some (.string ⟨#[]⟩), 1, 16) := by kernel_rfl
/-- a new disk, a pager on it, nothing kept -/
theorem LA.new {w W : World} {g gs b n : Nat} (hf : fitsB 2 n = true) (h1 : n ≤ 1024) (h : DD w W g gs b n (st0.fmt n 2).1) : Calls Try.prog 16 #[.pointer (some ⟨g, 0, none⟩)] W fun e W' => ∃ gp gq, e = .returned (.tuple #[.pointer (some ⟨gp, 0, none⟩), .int .i64 0]) ∧ LA w W' gp gq g gs b n (.slice none 0 0) (.slice none 0 0) := by
  obtain ⟨z1, z2, z3, z4, z5, z6, z7⟩ := fmt_std hf h1
  have hfit : (1 : Int) ≤ 2 ∧ (2 : Int) ≤ (n : Int) - 34 := of_decide_eq_true hf
  refine (h.openOk z2).mono ?_
  rintro e W' ⟨gp, gq, rfl, h2⟩
  refine ⟨gp, gq, rfl, _, _, [], [], h2, ⟨⟨rfl, .inl ⟨rfl, rfl⟩⟩, ⟨rfl, .inl ⟨rfl, rfl⟩⟩⟩, ⟨z3, z4, ?_, fun i hi => absurd hi (Nat.not_lt_zero _), fun i j _ hj => absurd hj (Nat.not_lt_zero _), rfl, fun i hi => absurd hi (Nat.not_lt_zero _), by omega, Nat.zero_le _⟩⟩
  rw [z5, List.length_replicate]
  have : (2 : Int).toNat = 2 := rfl
  omega
set_option maxHeartbeats 40000000 in
theorem safeWalk (N : Int) (a1 : Option Addr) (len1 cap1 : Nat) (l1 : List (List Nat)) (a2 : Option Addr) (len2 cap2 : Nat) (l2 : List (List Nat)) (a3 : Option Addr) (len3 cap3 : Nat) (l3 : List (Nat × Nat)) (w : World) (hN : -9223372036854775808 ≤ N ∧ N ≤ 9223372036854775807) (h1 : IsL w a1 len1 cap1 l1) (hr1 : len1 ≤ 140737488355328) (h2 : IsL w a2 len2 cap2 l2) (hr2 : len2 ≤ 140737488355328) (h3 : IsF w a3 len3 cap3 l3) :
    Calls Try.prog 7 #[.int .i64 N, .slice a1 len1 cap1, .slice a2 len2 cap2, .slice a3 len3 cap3] w fun e w' => e = .returned (.bool true) ∧ Below w.heap.size w w' := by
  have HL1 := hide h1
  have HL2 := hide h2
  have HF3 := hide h3
  clear h1 h2 h3 hN
  by_cases hn : 1 ≤ N ∧ N ≤ 1024
  · obtain ⟨n, rfl⟩ := Int.eq_ofNat_of_zero_le (show 0 ≤ N by omega)
    have h0 : 0 < n := by omega
    have h1 : n ≤ 1024 := by omega
    clear hn
    go_enter Try.func7, Try.ntmps7
    go_wp2_with fail
    refine (lives_any w).mono ?_
    rintro e w1 ⟨rfl, hb1⟩
    have HN := hide (DD.new w w1 hb1 n h0 h1)
    clear hb1
    go_wp2_with fail
    refine HN.out.mono ?_
    rintro e w2 ⟨g, gs, b, rfl, hd2⟩
    have HFM := hide (hd2.format 2 (by decide))
    clear hd2 HN
    by_cases hf : fitsB 2 n = true
    · rw [(fmt_std hf h1).1] at HFM
      have HOP : Hid (∀ W : World, DD w W g gs b n (st0.fmt n 2).1 → Calls Try.prog 16 #[.pointer (some ⟨g, 0, none⟩)] W fun e W' => ∃ gp gq, e = .returned (.tuple #[.pointer (some ⟨gp, 0, none⟩), .int .i64 0]) ∧ LA w W' gp gq g gs b n (.slice none 0 0) (.slice none 0 0)) := hide (fun W h => LA.new hf h1 h)
      clear hf
      go_wp2_with fail
      refine HFM.out.mono ?_
      rintro e w3 ⟨rfl, hd3⟩
      have HO3 := hide (HOP.out w3 hd3)
      clear hd3 HFM HOP
      go_wp2_with fail
      refine HO3.out.mono ?_
      rintro e w4 ⟨gp, gq, rfl, hla⟩
      have HLA := hide hla
      clear hla HO3
      obtain ⟨i3, hi3, hz30, hz31, hz32⟩ := info_parts Try.info3'
      obtain ⟨i9, hi9, hz90, hz91, hz92⟩ := info_parts Try.info9'
      go_wp2_with fail
      go_loopw [50, 12, 13] (fun i kv tv wr => ∃ k : Nat, k ≤ len1 ∧ i = .int .i64 (k : Nat) ∧ Hid (LA w wr gp gq g gs b n kv tv)) (fun i _ _ _ => len1 - (intOf i).toNat)
      case atStart => exact ⟨0, Nat.zero_le _, rfl, HLA⟩
      case round =>
        obtain ⟨k, hk, rfl, HI⟩ := hrel
        clear HLA
        by_cases hkl : k < len1
        · skip
          obtain ⟨bb, off, a', n', c', rfl, hlt, hc, hB⟩ := HL1.out.2.2.2.2 k hkl
          have hcw := (HI.out.b.cell (p := ⟨bb, off + k, none⟩) hlt).trans hc
          have HB := hide hB
          clear hc hB hlt
          generalize l1.getD k [] = l at *
          have HC := hide HI.out.alloc
          clear HI
          go_wp2_with fail
          refine HC.out.mono ?_
          rintro e w6 (⟨rfl, h6⟩ | ⟨P, hP, rfl, h6⟩)
          · have HI := hide h6
            clear h6 HC HB hcw
            have HCM := hide HI.out.commit
            clear HI
            go_wp2_with fail
            refine HCM.out.mono ?_
            rintro e w5 ⟨rfl, ks, ts, h5⟩
            obtain ⟨ak, ck, rfl⟩ : ∃ a cap, u12 = .slice a ks.length cap := by obtain ⟨p, st, _, h2, _⟩ := h5; exact h2.keys
            obtain ⟨ax, cx, rfl, hcx⟩ : ∃ a cap, u13 = .slice a ts.length cap ∧ ts.length ≤ cap := by obtain ⟨p, st, _, h2, _⟩ := h5; exact h2.texts
            obtain ⟨hs1, hs2, hs3⟩ := h5.small
            have H5 := hide h5
            clear h5 HCM
            rw [hs3] at H5 hcx ⊢
            have HS1 := hide hs1
            have HS3 := hide hs3
            clear hs1 hs3
            obtain ⟨nk, hnk⟩ : ∃ nk, nk = ks.length := ⟨_, rfl⟩
            rw [← hnk] at H5 hcx hs2 ⊢
            have HNK := hide hnk
            clear hnk
            go_wp2_with fail
            go_loopw [88] (fun i wr => ∃ k : Nat, k ≤ nk ∧ i = .int .i64 (k : Nat) ∧ Hid (LB w wr gp gq g gs b n (.slice ak nk ck) (.slice ax nk cx) ks ts k)) (fun i _ => nk - (intOf i).toNat)
            case atStart => exact ⟨0, Nat.zero_le _, rfl, H5⟩
            case round =>
              obtain ⟨k, hk, rfl, HI⟩ := hrel
              clear H5
              by_cases hkl : k < nk
              · obtain ⟨q, rfl, hcw⟩ : ∃ q, ak = some ⟨q, 0, none⟩ ∧ wr.cell? ⟨q, k, none⟩ = some (.int .i64 (kAt ks k : Nat)) := by obtain ⟨p, st, _, h2, _⟩ := HI.out; exact h2.key k (by have := HNK.out; omega)
                by_cases hk2 : (k : Int) % 2 = 0
                · have HC := hide (HI.out.free (by have := HNK.out; omega))
                  clear HI
                  generalize kAt ks k = kk at *
                  go_wp2_with fail
                  refine HC.out.mono ?_
                  rintro e w6 ⟨rfl, h6⟩
                  have H6 := hide h6
                  clear h6 HC
                  go_wp2_with fail
                  exact ⟨⟨k + 1, by omega, by simp, H6⟩, by simp [intOf]; omega⟩
                · have H6 := hide HI.out.skip
                  clear HI
                  generalize kAt ks k = kk at *
                  go_wp2_with fail
                  exact ⟨⟨k + 1, by omega, by simp, H6⟩, by simp [intOf]; omega⟩
              · have hkk : k = nk := by omega
                rw [hkk] at HI
                have HI0 : Hid (LB w wr gp gq g gs b n (.slice ak nk ck) (.slice ax nk cx) ks ts ks.length) := by rw [← HNK.out]; exact HI
                clear HI hk hkl
                subst hkk
                go_wp2_with fail
                go_loopw [105] (fun i wr => ∃ j : Nat, j ≤ len2 ∧ i = .int .i64 (j : Nat) ∧ Hid (LB w wr gp gq g gs b n (.slice ak k ck) (.slice ax k cx) ks ts ks.length)) (fun i _ => len2 - (intOf i).toNat)
                case atStart => exact ⟨0, Nat.zero_le _, rfl, HI0⟩
                case round =>
                  obtain ⟨j, hj, rfl, HI⟩ := hrel
                  clear HI0
                  by_cases hjl : j < len2
                  · skip
                    obtain ⟨bb, off, a', n', c', rfl, hlt, hc, hB⟩ := HL2.out.2.2.2.2 j hjl
                    have hcw := (HI.out.b.cell (p := ⟨bb, off + j, none⟩) hlt).trans hc
                    have HB := hide hB
                    clear hc hB hlt
                    generalize l2.getD j [] = l at *
                    have HC := hide HI.out.alloc
                    clear HI
                    go_wp2_with fail
                    refine HC.out.mono ?_
                    rintro e w6 (⟨rfl, h6⟩ | ⟨P, hP, rfl, h6⟩)
                    · have H6 := hide h6
                      clear h6 HC
                      go_wp2_with fail
                      exact ⟨⟨j + 1, by omega, by simp, H6⟩, by simp [intOf]; omega⟩
                    · have HW := hide (h6.write hP a' n' c' l (HB.out.below h6.b))
                      clear h6 HC
                      go_wp2_with fail
                      refine HW.out.mono ?_
                      rintro e w7 ⟨er, rfl, h7⟩
                      have H7 := hide h7
                      clear h7 HW
                      go_wp2_with fail
                      exact ⟨⟨j + 1, by omega, by simp, H7⟩, by simp [intOf]; omega⟩
                  · have HC := hide HI.out.cut
                    have hjj : j = len2 := by omega
                    clear HI hj hjl
                    subst hjj
                    go_wp2_with fail
                    refine HC.out.mono ?_
                    rintro e w6 ⟨⟨er, rfl⟩, h6⟩
                    have HR := hide (h6.rest a3 len3 cap3 l3 (HF3.out.below h6.b))
                    clear h6 HC
                    go_wp2_with fail
                    refine HR.out.mono ?_
                    rintro e w7 (⟨rfl, h7⟩ | ⟨er2, her, _, rfl, h7⟩)
                    · have HO := hide h7.opens
                      clear h7 HR
                      go_wp2_with fail
                      refine HO.out.mono ?_
                      rintro e w8 ⟨gp2, gq2, rfl, h8⟩
                      have HK := hide h8.keep
                      clear h8 HO
                      go_wp2_with fail
                      refine HK.out.mono ?_
                      rintro e w9 ⟨rfl, h9⟩
                      have H9 := hide h9
                      clear h9 HK
                      go_wp2_with fail
                      go_loopw [151] (fun i wr => ∃ m : Nat, m ≤ k ∧ i = .int .i64 (m : Nat) ∧ Hid (LE w wr gp2 gq2 g gs b n (.slice ak k ck) (.slice ax k cx) ks ts)) (fun i _ => k - (intOf i).toNat)
                      case atStart => exact ⟨0, Nat.zero_le _, rfl, H9⟩
                      case round =>
                        obtain ⟨m, hm, rfl, HI⟩ := hrel
                        clear H9
                        by_cases hml : m < k
                        · obtain ⟨q, hq, hcw⟩ : ∃ q, ak = some ⟨q, 0, none⟩ ∧ wr.cell? ⟨q, m, none⟩ = some (.int .i64 (kAt ks m : Nat)) := by obtain ⟨s, st, _, h2, _⟩ := HI.out; exact h2.key m (by have := HNK.out; omega)
                          have HP := hide (HI.out.page (i := m) (by have := HNK.out; omega))
                          clear HI
                          subst hq
                          generalize kAt ks m = kk at *
                          go_wp2_with fail
                          refine HP.out.mono ?_
                          rintro e w10 ⟨a', n', c', rfl, hB, h10⟩
                          obtain ⟨q2, hq2, hcx2⟩ : ∃ q, ax = some ⟨q, 0, none⟩ ∧ w10.drew.cell? ⟨q, m, none⟩ = some (.string (str (ts.getD m []))) := by obtain ⟨s, st, _, h2, _⟩ := h10; exact h2.text m (by rw [HS3.out]; have := HNK.out; omega)
                          have hcv := conv_str (hB.below (Below.refl _ w10).drew)
                          have H10 : Hid (LE w w10.drew gp2 gq2 g gs b n (.slice (some ⟨q, 0, none⟩) k ck) (.slice ax k cx) ks ts) := hide (by obtain ⟨s, st, h1, h2, h3⟩ := h10; exact ⟨s, st, h1.below (Below.refl _ w10).drew, h2.below (Below.refl _ w10).drew, h3⟩)
                          clear h10 HP hB
                          subst hq2
                          generalize str (ts.getD m []) = S at *
                          have e0 : (0 : Int) ≤ (m : Int) := by omega
                          have e1 : (m : Int) < (k : Int) := by omega
                          go_wp2_with fail
                          go_region_held3 (fun W : World => W.cell? ⟨q2, m, none⟩ = some (.string S) ∧ (convert 25 9 (.slice a' n' c')).run Try.prog W = .ok (.string S) W) (first | exact ⟨hcx2, hcv⟩ | assumption) (fail)
                          all_goals
                            go_wp2_with fail
                            exact ⟨⟨m + 1, by omega, by simp, H10⟩, by simp [intOf]; omega⟩
                        · have hmm : m = k := by omega
                          subst hmm
                          have HU := hide HI.out.used
                          have HB9 := hide HI.out.b
                          rw [← HNK.out] at HU
                          clear HI hm hml
                          go_wp2_with fail
                          refine HU.out.mono ?_
                          rintro e w10 ⟨rfl, rfl⟩
                          go_wp2
                          go_ret
                          exact ⟨rfl, HB9.out⟩
                    · have HR2 := hide h7.restNil
                      have d2 : (er2 != 0) = true := by simpa using her
                      clear h7 HR
                      go_wp2_with fail
                      refine HR2.out.mono ?_
                      rintro e w7 ⟨rfl, h7⟩
                      have HO := hide h7.opens
                      clear h7 HR2
                      go_wp2_with fail
                      refine HO.out.mono ?_
                      rintro e w8 ⟨gp2, gq2, rfl, h8⟩
                      have HK := hide h8.keep
                      clear h8 HO
                      go_wp2_with fail
                      refine HK.out.mono ?_
                      rintro e w9 ⟨rfl, h9⟩
                      have H9 := hide h9
                      clear h9 HK
                      go_wp2_with fail
                      go_loopw [151] (fun i wr => ∃ m : Nat, m ≤ k ∧ i = .int .i64 (m : Nat) ∧ Hid (LE w wr gp2 gq2 g gs b n (.slice ak k ck) (.slice ax k cx) ks ts)) (fun i _ => k - (intOf i).toNat)
                      case atStart => exact ⟨0, Nat.zero_le _, rfl, H9⟩
                      case round =>
                        obtain ⟨m, hm, rfl, HI⟩ := hrel
                        clear H9
                        by_cases hml : m < k
                        · obtain ⟨q, hq, hcw⟩ : ∃ q, ak = some ⟨q, 0, none⟩ ∧ wr.cell? ⟨q, m, none⟩ = some (.int .i64 (kAt ks m : Nat)) := by obtain ⟨s, st, _, h2, _⟩ := HI.out; exact h2.key m (by have := HNK.out; omega)
                          have HP := hide (HI.out.page (i := m) (by have := HNK.out; omega))
                          clear HI
                          subst hq
                          generalize kAt ks m = kk at *
                          go_wp2_with fail
                          refine HP.out.mono ?_
                          rintro e w10 ⟨a', n', c', rfl, hB, h10⟩
                          obtain ⟨q2, hq2, hcx2⟩ : ∃ q, ax = some ⟨q, 0, none⟩ ∧ w10.drew.cell? ⟨q, m, none⟩ = some (.string (str (ts.getD m []))) := by obtain ⟨s, st, _, h2, _⟩ := h10; exact h2.text m (by rw [HS3.out]; have := HNK.out; omega)
                          have hcv := conv_str (hB.below (Below.refl _ w10).drew)
                          have H10 : Hid (LE w w10.drew gp2 gq2 g gs b n (.slice (some ⟨q, 0, none⟩) k ck) (.slice ax k cx) ks ts) := hide (by obtain ⟨s, st, h1, h2, h3⟩ := h10; exact ⟨s, st, h1.below (Below.refl _ w10).drew, h2.below (Below.refl _ w10).drew, h3⟩)
                          clear h10 HP hB
                          subst hq2
                          generalize str (ts.getD m []) = S at *
                          have e0 : (0 : Int) ≤ (m : Int) := by omega
                          have e1 : (m : Int) < (k : Int) := by omega
                          go_wp2_with fail
                          go_region_held3 (fun W : World => W.cell? ⟨q2, m, none⟩ = some (.string S) ∧ (convert 25 9 (.slice a' n' c')).run Try.prog W = .ok (.string S) W) (first | exact ⟨hcx2, hcv⟩ | assumption) (fail)
                          all_goals
                            go_wp2_with fail
                            exact ⟨⟨m + 1, by omega, by simp, H10⟩, by simp [intOf]; omega⟩
                        · have hmm : m = k := by omega
                          subst hmm
                          have HU := hide HI.out.used
                          have HB9 := hide HI.out.b
                          rw [← HNK.out] at HU
                          clear HI hm hml
                          go_wp2_with fail
                          refine HU.out.mono ?_
                          rintro e w10 ⟨rfl, rfl⟩
                          go_wp2
                          go_ret
                          exact ⟨rfl, HB9.out⟩
          · have HW := hide (h6.write hP a' n' c' l (HB.out.below h6.b))
            clear h6 HC
            go_wp2_with fail
            refine HW.out.mono ?_
            rintro e w7 (⟨er, her, rfl, h7⟩ | ⟨hn4, rfl, h7⟩)
            · have H7 := hide h7
              have d7 : (er == 0) = false := by simpa using her
              clear h7 HW
              go_wp2_with fail
              exact ⟨⟨k + 1, by omega, by simp, H7⟩, by simp [intOf]; omega⟩
            · obtain ⟨m, xs, hm, how, hnext⟩ := h7.key
              have HNX := hide hnext
              have hwb := h7.b.size
              clear h7 HW hnext
              go_wp2_with (at_builtin; refine wpList_append_own _ rfl _ _ 46 rfl w.heap.size 3 i3 (.int .i64 0) 1 8 Try.underlying46 hi3 hz30 hz31 hz32 rfl (by decide) _ m xs rfl how ⟨w7.heap.size, 0, none⟩ 1 1 [.int .i64 (P : Int)] rfl rfl (cell_one_new _ _ _) (one_i64 _) ?c3 ?c4 ?c5 ?_)
              case c3 => unfold maxLen; omega
              case c4 => omega
              case c5 => simp; omega
              intro v8 w8 hown8 hg8 _
              have H8 := hide (HNX.out v8 w8 hown8 hg8)
              clear hown8 hg8 HNX how hwb
              have hIB : IsB (w8.alloc (.cells #[] 5)) a' n' c' l := HB.out.below (H8.out.b.alloc H8.out.b.size _)
              go_wp2_with (at_builtin; refine wpList_clone rfl _ _ rfl w8.heap.size _ 0 [] rfl (owns_empty w8 _ (Nat.le_refl _)) a' n' c' l rfl hIB (by omega) (by simp) w8.heap.size w8 ((Below.refl _ _).alloc (Nat.le_refl _) _) (Nat.le_refl _) ?_)
              intro v9 w9 hown9 hb9
              skip
              obtain ⟨qz, cz, w10, hr10, hI10, hb10⟩ := zeros_all w9 25 w8.heap.size n' v9 l hown9 hn4 HB.out.2.2.2.1 hb9.size
              have hcv := conv_str hI10
              have H10 := hide (H8.out.below (hb9.trans hb10))
              obtain ⟨m2, xs2, hm2, how2, hnext2⟩ := H10.out.text
              have HNX2 := hide hnext2
              have hwb2 := H10.out.b.size
              have hwz : wrap64 (4096 - (n' : Int)) = ((4096 - n' : Nat) : Int) := by unfold wrap64; omega
              have hr10b := hr10
              have hr10c := hr10
              rw [← hwz] at hr10
              have hwy : IntKind.i64.wrap (4096 - (n' : Int)) = ((4096 - n' : Nat) : Int) := by rw [IntKind.wrap_i64]; omega
              rw [← hwy] at hr10b
              have hwx : (4096 - (n' : Int)) = ((4096 - n' : Nat) : Int) := by omega
              rw [← hwx] at hr10c
              clear hown9 hb9 hI10 hb10 H8 H10 hnext2 hIB hwz hwy hwx
              generalize str (full l) = S at *
              go_wp2_with (first | (at_builtin; refine Go.Lib.wpList_append_run _ rfl _ _ _ _ rfl _ _ rfl rfl _ _ hr10b ?_) | (at_builtin; refine Go.Lib.wpList_append_run _ rfl _ _ _ _ rfl _ _ rfl rfl _ _ hr10 ?_) | (at_builtin; refine Go.Lib.wpList_append_run _ rfl _ _ _ _ rfl _ _ rfl rfl _ _ hr10c ?_) | (at_builtin; refine wpList_append_own _ rfl _ _ 57 rfl w.heap.size 9 i9 (.string ⟨#[]⟩) 1 16 Try.underlying57 hi9 hz90 hz91 hz92 rfl (by decide) _ m2 xs2 rfl how2 ⟨w10.heap.size, 0, none⟩ 1 1 [.string S] rfl rfl (cell_one_new _ _ _) (one_string _) ?c3 ?c4 ?c5 ?_))
              case c3 => unfold maxLen; omega
              case c4 => omega
              case c5 => simp; omega
              intro v11 w11 hown11 hg11 _
              have H11 := hide (HNX2.out v11 w11 hown11 hg11)
              clear hown11 hg11 HNX2 how2 hwb2 hr10 hr10b hr10c hcv
              go_wp2_with fail
              exact ⟨⟨k + 1, by omega, by simp, H11⟩, by simp [intOf]; omega⟩
        · skip
          have hkk0 : k = len1 := by omega
          clear hk hkl
          subst hkk0
          have HCM := hide HI.out.commit
          clear HI
          go_wp2_with fail
          refine HCM.out.mono ?_
          rintro e w5 ⟨rfl, ks, ts, h5⟩
          obtain ⟨ak, ck, rfl⟩ : ∃ a cap, u12 = .slice a ks.length cap := by obtain ⟨p, st, _, h2, _⟩ := h5; exact h2.keys
          obtain ⟨ax, cx, rfl, hcx⟩ : ∃ a cap, u13 = .slice a ts.length cap ∧ ts.length ≤ cap := by obtain ⟨p, st, _, h2, _⟩ := h5; exact h2.texts
          obtain ⟨hs1, hs2, hs3⟩ := h5.small
          have H5 := hide h5
          clear h5 HCM
          rw [hs3] at H5 hcx ⊢
          have HS1 := hide hs1
          have HS3 := hide hs3
          clear hs1 hs3
          obtain ⟨nk, hnk⟩ : ∃ nk, nk = ks.length := ⟨_, rfl⟩
          rw [← hnk] at H5 hcx hs2 ⊢
          have HNK := hide hnk
          clear hnk
          go_wp2_with fail
          go_loopw [88] (fun i wr => ∃ k : Nat, k ≤ nk ∧ i = .int .i64 (k : Nat) ∧ Hid (LB w wr gp gq g gs b n (.slice ak nk ck) (.slice ax nk cx) ks ts k)) (fun i _ => nk - (intOf i).toNat)
          case atStart => exact ⟨0, Nat.zero_le _, rfl, H5⟩
          case round =>
            obtain ⟨k, hk, rfl, HI⟩ := hrel
            clear H5
            by_cases hkl : k < nk
            · obtain ⟨q, rfl, hcw⟩ : ∃ q, ak = some ⟨q, 0, none⟩ ∧ wr.cell? ⟨q, k, none⟩ = some (.int .i64 (kAt ks k : Nat)) := by obtain ⟨p, st, _, h2, _⟩ := HI.out; exact h2.key k (by have := HNK.out; omega)
              by_cases hk2 : (k : Int) % 2 = 0
              · have HC := hide (HI.out.free (by have := HNK.out; omega))
                clear HI
                generalize kAt ks k = kk at *
                go_wp2_with fail
                refine HC.out.mono ?_
                rintro e w6 ⟨rfl, h6⟩
                have H6 := hide h6
                clear h6 HC
                go_wp2_with fail
                exact ⟨⟨k + 1, by omega, by simp, H6⟩, by simp [intOf]; omega⟩
              · have H6 := hide HI.out.skip
                clear HI
                generalize kAt ks k = kk at *
                go_wp2_with fail
                exact ⟨⟨k + 1, by omega, by simp, H6⟩, by simp [intOf]; omega⟩
            · have hkk : k = nk := by omega
              rw [hkk] at HI
              have HI0 : Hid (LB w wr gp gq g gs b n (.slice ak nk ck) (.slice ax nk cx) ks ts ks.length) := by rw [← HNK.out]; exact HI
              clear HI hk hkl
              subst hkk
              go_wp2_with fail
              go_loopw [105] (fun i wr => ∃ j : Nat, j ≤ len2 ∧ i = .int .i64 (j : Nat) ∧ Hid (LB w wr gp gq g gs b n (.slice ak k ck) (.slice ax k cx) ks ts ks.length)) (fun i _ => len2 - (intOf i).toNat)
              case atStart => exact ⟨0, Nat.zero_le _, rfl, HI0⟩
              case round =>
                obtain ⟨j, hj, rfl, HI⟩ := hrel
                clear HI0
                by_cases hjl : j < len2
                · skip
                  obtain ⟨bb, off, a', n', c', rfl, hlt, hc, hB⟩ := HL2.out.2.2.2.2 j hjl
                  have hcw := (HI.out.b.cell (p := ⟨bb, off + j, none⟩) hlt).trans hc
                  have HB := hide hB
                  clear hc hB hlt
                  generalize l2.getD j [] = l at *
                  have HC := hide HI.out.alloc
                  clear HI
                  go_wp2_with fail
                  refine HC.out.mono ?_
                  rintro e w6 (⟨rfl, h6⟩ | ⟨P, hP, rfl, h6⟩)
                  · have H6 := hide h6
                    clear h6 HC
                    go_wp2_with fail
                    exact ⟨⟨j + 1, by omega, by simp, H6⟩, by simp [intOf]; omega⟩
                  · have HW := hide (h6.write hP a' n' c' l (HB.out.below h6.b))
                    clear h6 HC
                    go_wp2_with fail
                    refine HW.out.mono ?_
                    rintro e w7 ⟨er, rfl, h7⟩
                    have H7 := hide h7
                    clear h7 HW
                    go_wp2_with fail
                    exact ⟨⟨j + 1, by omega, by simp, H7⟩, by simp [intOf]; omega⟩
                · have HC := hide HI.out.cut
                  have hjj : j = len2 := by omega
                  clear HI hj hjl
                  subst hjj
                  go_wp2_with fail
                  refine HC.out.mono ?_
                  rintro e w6 ⟨⟨er, rfl⟩, h6⟩
                  have HR := hide (h6.rest a3 len3 cap3 l3 (HF3.out.below h6.b))
                  clear h6 HC
                  go_wp2_with fail
                  refine HR.out.mono ?_
                  rintro e w7 (⟨rfl, h7⟩ | ⟨er2, her, _, rfl, h7⟩)
                  · have HO := hide h7.opens
                    clear h7 HR
                    go_wp2_with fail
                    refine HO.out.mono ?_
                    rintro e w8 ⟨gp2, gq2, rfl, h8⟩
                    have HK := hide h8.keep
                    clear h8 HO
                    go_wp2_with fail
                    refine HK.out.mono ?_
                    rintro e w9 ⟨rfl, h9⟩
                    have H9 := hide h9
                    clear h9 HK
                    go_wp2_with fail
                    go_loopw [151] (fun i wr => ∃ m : Nat, m ≤ k ∧ i = .int .i64 (m : Nat) ∧ Hid (LE w wr gp2 gq2 g gs b n (.slice ak k ck) (.slice ax k cx) ks ts)) (fun i _ => k - (intOf i).toNat)
                    case atStart => exact ⟨0, Nat.zero_le _, rfl, H9⟩
                    case round =>
                      obtain ⟨m, hm, rfl, HI⟩ := hrel
                      clear H9
                      by_cases hml : m < k
                      · obtain ⟨q, hq, hcw⟩ : ∃ q, ak = some ⟨q, 0, none⟩ ∧ wr.cell? ⟨q, m, none⟩ = some (.int .i64 (kAt ks m : Nat)) := by obtain ⟨s, st, _, h2, _⟩ := HI.out; exact h2.key m (by have := HNK.out; omega)
                        have HP := hide (HI.out.page (i := m) (by have := HNK.out; omega))
                        clear HI
                        subst hq
                        generalize kAt ks m = kk at *
                        go_wp2_with fail
                        refine HP.out.mono ?_
                        rintro e w10 ⟨a', n', c', rfl, hB, h10⟩
                        obtain ⟨q2, hq2, hcx2⟩ : ∃ q, ax = some ⟨q, 0, none⟩ ∧ w10.drew.cell? ⟨q, m, none⟩ = some (.string (str (ts.getD m []))) := by obtain ⟨s, st, _, h2, _⟩ := h10; exact h2.text m (by rw [HS3.out]; have := HNK.out; omega)
                        have hcv := conv_str (hB.below (Below.refl _ w10).drew)
                        have H10 : Hid (LE w w10.drew gp2 gq2 g gs b n (.slice (some ⟨q, 0, none⟩) k ck) (.slice ax k cx) ks ts) := hide (by obtain ⟨s, st, h1, h2, h3⟩ := h10; exact ⟨s, st, h1.below (Below.refl _ w10).drew, h2.below (Below.refl _ w10).drew, h3⟩)
                        clear h10 HP hB
                        subst hq2
                        generalize str (ts.getD m []) = S at *
                        have e0 : (0 : Int) ≤ (m : Int) := by omega
                        have e1 : (m : Int) < (k : Int) := by omega
                        go_wp2_with fail
                        go_region_held3 (fun W : World => W.cell? ⟨q2, m, none⟩ = some (.string S) ∧ (convert 25 9 (.slice a' n' c')).run Try.prog W = .ok (.string S) W) (first | exact ⟨hcx2, hcv⟩ | assumption) (fail)
                        all_goals
                          go_wp2_with fail
                          exact ⟨⟨m + 1, by omega, by simp, H10⟩, by simp [intOf]; omega⟩
                      · have hmm : m = k := by omega
                        subst hmm
                        have HU := hide HI.out.used
                        have HB9 := hide HI.out.b
                        rw [← HNK.out] at HU
                        clear HI hm hml
                        go_wp2_with fail
                        refine HU.out.mono ?_
                        rintro e w10 ⟨rfl, rfl⟩
                        go_wp2
                        go_ret
                        exact ⟨rfl, HB9.out⟩
                  · have HR2 := hide h7.restNil
                    have d2 : (er2 != 0) = true := by simpa using her
                    clear h7 HR
                    go_wp2_with fail
                    refine HR2.out.mono ?_
                    rintro e w7 ⟨rfl, h7⟩
                    have HO := hide h7.opens
                    clear h7 HR2
                    go_wp2_with fail
                    refine HO.out.mono ?_
                    rintro e w8 ⟨gp2, gq2, rfl, h8⟩
                    have HK := hide h8.keep
                    clear h8 HO
                    go_wp2_with fail
                    refine HK.out.mono ?_
                    rintro e w9 ⟨rfl, h9⟩
                    have H9 := hide h9
                    clear h9 HK
                    go_wp2_with fail
                    go_loopw [151] (fun i wr => ∃ m : Nat, m ≤ k ∧ i = .int .i64 (m : Nat) ∧ Hid (LE w wr gp2 gq2 g gs b n (.slice ak k ck) (.slice ax k cx) ks ts)) (fun i _ => k - (intOf i).toNat)
                    case atStart => exact ⟨0, Nat.zero_le _, rfl, H9⟩
                    case round =>
                      obtain ⟨m, hm, rfl, HI⟩ := hrel
                      clear H9
                      by_cases hml : m < k
                      · obtain ⟨q, hq, hcw⟩ : ∃ q, ak = some ⟨q, 0, none⟩ ∧ wr.cell? ⟨q, m, none⟩ = some (.int .i64 (kAt ks m : Nat)) := by obtain ⟨s, st, _, h2, _⟩ := HI.out; exact h2.key m (by have := HNK.out; omega)
                        have HP := hide (HI.out.page (i := m) (by have := HNK.out; omega))
                        clear HI
                        subst hq
                        generalize kAt ks m = kk at *
                        go_wp2_with fail
                        refine HP.out.mono ?_
                        rintro e w10 ⟨a', n', c', rfl, hB, h10⟩
                        obtain ⟨q2, hq2, hcx2⟩ : ∃ q, ax = some ⟨q, 0, none⟩ ∧ w10.drew.cell? ⟨q, m, none⟩ = some (.string (str (ts.getD m []))) := by obtain ⟨s, st, _, h2, _⟩ := h10; exact h2.text m (by rw [HS3.out]; have := HNK.out; omega)
                        have hcv := conv_str (hB.below (Below.refl _ w10).drew)
                        have H10 : Hid (LE w w10.drew gp2 gq2 g gs b n (.slice (some ⟨q, 0, none⟩) k ck) (.slice ax k cx) ks ts) := hide (by obtain ⟨s, st, h1, h2, h3⟩ := h10; exact ⟨s, st, h1.below (Below.refl _ w10).drew, h2.below (Below.refl _ w10).drew, h3⟩)
                        clear h10 HP hB
                        subst hq2
                        generalize str (ts.getD m []) = S at *
                        have e0 : (0 : Int) ≤ (m : Int) := by omega
                        have e1 : (m : Int) < (k : Int) := by omega
                        go_wp2_with fail
                        go_region_held3 (fun W : World => W.cell? ⟨q2, m, none⟩ = some (.string S) ∧ (convert 25 9 (.slice a' n' c')).run Try.prog W = .ok (.string S) W) (first | exact ⟨hcx2, hcv⟩ | assumption) (fail)
                        all_goals
                          go_wp2_with fail
                          exact ⟨⟨m + 1, by omega, by simp, H10⟩, by simp [intOf]; omega⟩
                      · have hmm : m = k := by omega
                        subst hmm
                        have HU := hide HI.out.used
                        have HB9 := hide HI.out.b
                        rw [← HNK.out] at HU
                        clear HI hm hml
                        go_wp2_with fail
                        refine HU.out.mono ?_
                        rintro e w10 ⟨rfl, rfl⟩
                        go_wp2
                        go_ret
                        exact ⟨rfl, HB9.out⟩
    · have HZ : Hid ((st0.fmt n 2).2 = 2) := hide (by rw [St.fmt, if_neg hf])
      rw [HZ.out] at HFM
      clear hf
      go_wp2_with fail
      refine HFM.out.mono ?_
      rintro e w3 ⟨rfl, hd3⟩
      have HB := hide hd3.b
      clear hd3 HFM
      go_wp2
      go_ret
      exact ⟨rfl, HB.out⟩
  · have HNO := hide (fun W => new_no W N hn)
    clear hn
    go_enter Try.func7, Try.ntmps7
    go_wp2_with fail
    refine (lives_any w).mono ?_
    rintro e w1 ⟨rfl, hb1⟩
    have HB1 := hide hb1
    clear hb1
    go_wp2_with fail
    refine (HNO.out w1).mono ?_
    rintro e w2 ⟨rfl, rfl⟩
    go_wp2_with fail
    refine (format_nil 2 w2).mono ?_
    rintro e w3 ⟨rfl, rfl⟩
    go_wp2
    go_ret
    exact ⟨rfl, HB1.out⟩
end Go.Proofs.Ytecmfpgccmmlpaa
