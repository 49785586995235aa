/- the document's Unframe -/
import Derived.Test.YteckglnfkgfefaaJoT
import Derived.Test.YteckglnfkgfefaaJoU
import Derived.Test.YteckglnfkgfefaaJoJ
namespace Go.Proofs.Yteckglnfkgfefaa
open Go.RowKit Cod
set_option maxRecDepth 40000
set_option linter.unusedSimpArgs false
set_option linter.unusedVariables false
theorem lenL_cells {l : List Nat} (h : l.length = 4096) : lenL l = l.getD 28 0 + l.getD 29 0 * 256 + l.getD 30 0 * 65536 + l.getD 31 0 * 16777216 := by
  have e : (l.drop 28).take 4 = [l.getD 28 0, l.getD 29 0, l.getD 30 0, l.getD 31 0] := by
    apply List.ext_getElem?
    intro i
    rw [List.getElem?_take, List.getElem?_drop]
    match i with
    | 0 => simp [List.getD_eq_getElem?_getD, List.getElem?_eq_getElem (show 28 < l.length by omega)]
    | 1 => simp [List.getD_eq_getElem?_getD, List.getElem?_eq_getElem (show 29 < l.length by omega)]
    | 2 => simp [List.getD_eq_getElem?_getD, List.getElem?_eq_getElem (show 30 < l.length by omega)]
    | 3 => simp [List.getD_eq_getElem?_getD, List.getElem?_eq_getElem (show 31 < l.length by omega)]
    | k + 4 => rw [if_neg (by omega)]; simp
  rw [lenL, e]
  simp only [lowN]
  omega
/-- the first loop's state -/
def FuInv (w : World) (bs : List (List Nat)) (j : Nat) (x : Value) (wr : World) : Prop :=
  ∃ q, q ≤ j * 4064 ∧ wr.ownsRow w.heap.size 5 1 x q (bv (unL (bs.take j))) ∧ (∀ y ∈ unL (bs.take j), y < 256) ∧ Below w.heap.size w wr
/-- the second loop's state -/
def FuTwo (w : World) (R : List Nat) (len j : Nat) (x y : Value) (wr : World) : Prop :=
  ∃ out a' len' cap' rest, out.length = j ∧ Red R out rest ∧ len' ≤ len ∧ y = .slice a' len' cap' ∧ IsB wr a' len' cap' rest ∧ wr.ownsRow w.heap.size 9 1 x j (out.map Value.string) ∧ Below w.heap.size w wr
theorem FuTwo.start {w wr : World} {R : List Nat} {v : Value} {len N : Nat} (ho : ∃ a c, v = .slice a N c ∧ IsB wr a N c R) (hn : N ≤ len) (hb : Below w.heap.size w wr) : FuTwo w R len 0 (.slice none 0 0) v wr := by
  obtain ⟨a, c, rfl, hI⟩ := ho
  exact ⟨[], a, N, c, R, rfl, Red.start _, hn, rfl, hI, ⟨rfl, .inl ⟨rfl, rfl⟩⟩, hb⟩
theorem own9_below {w w' : World} {base : Nat} {v : Value} {n : Nat} {l : List Value} (h : w.ownsRow base 9 1 v n l) (hb : Below w.heap.size w w') : w'.ownsRow base 9 1 v n l :=
  h.kept (row := none) ⟨hb.os, hb.tape, hb.output, hb.size, fun k hk _ => hb.block k hk⟩ (by cases hv : v.ownBlock <;> simp)
theorem ext_getD {a b : List (List Nat)} (hl : a.length = b.length) (h : ∀ t, t < b.length → a.getD t [] = b.getD t []) : a = b := by
  apply List.ext_getElem hl
  intro i h1 h2
  have := h i h2
  rw [List.getD_eq_getElem?_getD, List.getD_eq_getElem?_getD, List.getElem?_eq_getElem h1, List.getElem?_eq_getElem h2] at this
  exact this
set_option maxHeartbeats 4000000 in
theorem rfirst (w : World) (a : Option Addr) (len cap : Nat) (bs : List (List Nat)) (h : IsBB w a len cap bs) (hl : len ≤ 1048576) (s : Nat) :
    Calls Try.prog 13 #[.slice a len cap, .int .u64 (s : Nat)] w (UfPost w bs s) := by
  obtain ⟨i0, hi, hz0, hz1, hz2⟩ := info_parts info9
  have H := hide h
  clear h
  by_cases hst : startB s = true
  · have HT := hide hst
    obtain ⟨hs1, hs⟩ := startB_true hst
    have ds1 : decide ((s : Int) < 1) = false := decide_eq_false (by omega)
    have ds2 : decide ((4611686018427387904 : Int) < (s : Int)) = false := decide_eq_false (by omega)
    clear hst
    go_enter Try.func13, Try.ntmps13
    go_wp2_with fail
    go_loopw [28, 6] (fun i x wr => ∃ j : Nat, j ≤ len ∧ i = .int .i64 (j : Nat) ∧ FuInv w bs j x wr ∧ (∀ i, i < j → (bs.getD i []).length = 4096 ∧ lenL (bs.getD i []) ≤ 4064)) (fun i _ _ => len - (intOf i).toNat)
    case atStart => exact ⟨0, Nat.zero_le _, rfl, ⟨0, by omega, ⟨rfl, .inl ⟨rfl, rfl⟩⟩, by simp [unL], Below.refl _ _⟩, fun i hi => by omega⟩
    case round =>
      obtain ⟨j, hj, rfl, ⟨q, hq, hown, hxs, hb⟩, hck⟩ := hrel
      have HO := hide hown
      have HXs := hide hxs
      have HCk := hide hck
      have HB := hide hb
      clear hown hxs hck hb
      by_cases hjn : j < len
      · obtain ⟨h1, h2, h3, h5⟩ := H.out.below HB.out
        rcases h5 with h0 | ⟨b, off, rfl, hlt, hc⟩
        · omega
        obtain ⟨a1, l1, c1, hcj, hI⟩ := hc j hjn
        have HT1 := hide (unL_take bs j (by omega))
        have HL1 := hide h1
        have HI := hide hI
        clear hc h1
        by_cases hl1 : l1 = 4096
        · subst hl1
          rcases hI.2.2.2.2 with ⟨h0, _⟩ | ⟨b1, off1, rfl, hlt1, hc1⟩
          · omega
          have k0 := hc1 28 (by omega)
          have k1 := hc1 29 (by omega)
          have k2 := hc1 30 (by omega)
          have k3 := hc1 31 (by omega)
          have hcap1 := hI.2.1
          have hcm1 := hI.2.2.1
          unfold maxLen at hcm1
          have e0 := getD_lt (bs.getD j []) 28 hI.2.2.2.1
          have e1 := getD_lt (bs.getD j []) 29 hI.2.2.2.1
          have e2 := getD_lt (bs.getD j []) 30 hI.2.2.2.1
          have e3 := getD_lt (bs.getD j []) 31 hI.2.2.2.1
          have HLC := hide (lenL_cells hI.1)
          have HLen := hide hI.1
          have HPL : Hid (lenL (bs.getD j []) ≤ 4064 → IsB wr (some ⟨b1, off1 + 32, none⟩) (lenL (bs.getD j [])) (c1 - 32) (pieceL (bs.getD j []))) := hide (fun hle => by
            have := isB_frontAny (isB_backAny hI 32 (by omega)) (lenL (bs.getD j [])) (by omega)
            rw [if_neg (by omega)] at this
            exact this)
          clear hI hc1 HI
          generalize (bs.getD j []).getD 28 0 = x0 at *
          generalize (bs.getD j []).getD 29 0 = x1 at *
          generalize (bs.getD j []).getD 30 0 = x2 at *
          generalize (bs.getD j []).getD 31 0 = x3 at *
          generalize hlj : bs.getD j [] = lj at *
          have HLj := hide hlj
          generalize hL : lenL lj = L at *
          have HL := hide hL
          have hLb : L ≤ 4294967295 := by have := HLC.out; omega
          have hfold : (x0 : Int) + (x1 : Int) * 256 + (x2 : Int) * 65536 + (x3 : Int) * 16777216 = (L : Int) := by rw [HLC.out]; omega
          clear hlj hL HLC
          by_cases hL4 : 4064 < L
          · have d5 : decide ((4064 : Int) < (L : Int)) = true := decide_eq_true (by omega)
            have HF : Hid (UnR bs s [] 6) := hide (UnR.of_not (fun hk => by
              have h7 := (hk j (by rw [HL1.out]; exact hjn))
              rw [HLj.out, HL1.out] at h7
              have h8 := Chk1.len h7
              have := h7.2.1
              have := HL.out
              omega) [] (by omega))
            go_wp2_with fail
            go_region
            all_goals
              go_wp2_with fail
              go_ret2
              exact UfPost.code HT.out HF.out (Below.drew HB.out)
          · have d5 : decide ((4064 : Int) < (L : Int)) = false := decide_eq_false (by omega)
            have HP := hide (HPL.out (by omega))
            have HPlen : Hid ((pieceL lj).length = L) := hide (by rw [pieceL_len HLen.out (by rw [HL.out]; omega), HL.out])
            have HO3 := hide (own_below HO.out (Below.drew (Below.refl wr.heap.size wr)))
            have HB3 : Hid (Below w.heap.size w wr.drew) := hide (Below.drew HB.out)
            have HP3 := hide (HP.out.below (Below.drew (Below.refl _ _)))
            clear HPL HP HO HB
            have hc32 : ¬ c1 = 32 := by omega
            go_wp2_with fail
            go_region
            all_goals
              go_wp2_with (at_builtin; refine wpList_clone rfl _ _ rfl w.heap.size _ q _ rfl HO3.out _ _ _ (pieceL lj) rfl ?hx (by omega) HB3.out.size w.heap.size w HB3.out (Nat.le_refl _) ?_)
              case hx => rw [Nat.add_sub_cancel_left]; exact HP3.out
              intro v5 w5 ho5 hb5
              rw [← bv_append, ← HT1.out] at ho5
              have hx5 : ∀ y ∈ unL (bs.take (j + 1)), y < 256 := by
                rw [HT1.out]
                intro y hy
                rcases List.mem_append.1 hy with hy | hy
                · exact HXs.out y hy
                · exact HP3.out.2.2.2.1 y hy
              have hk5 : ∀ i, i < j + 1 → (bs.getD i []).length = 4096 ∧ lenL (bs.getD i []) ≤ 4064 := by
                intro i hi
                by_cases e : i = j
                · subst e; rw [HLj.out]; exact ⟨HLen.out, by rw [HL.out]; omega⟩
                · exact HCk.out i (by omega)
              have hq5 : q + L ≤ (j + 1) * 4064 := by omega
              clear HT1 HLj HXs HCk HP3 HPlen
              go_wp2
              go_roundw
              case rel => exact ⟨j + 1, by omega, by go_num, ⟨q + L, hq5, ho5, hx5, hb5⟩, hk5⟩
              case measure => simp [intOf]; omega
        · have HF : Hid (UnR bs s [] 6) := hide (UnR.of_not (fun hk => hl1 (by
            have := (hk j (by rw [HL1.out]; exact hjn))
            have := Chk1.len this
            rw [← HI.out.1]; exact this.1)) [] (by omega))
          have d4 : ((l1 : Int) != 4096) = true := by simp; omega
          go_wp2_with fail
          go_ret2
          exact UfPost.code HT.out HF.out HB.out
      · have : j = len := by omega
        subst this
        have HE : Hid (bs.take j = bs) := hide (List.take_of_length_le (by rw [H.out.1]; exact Nat.le_refl _))
        rw [HE.out] at HO HXs
        obtain ⟨a6, c6, rfl, hI6⟩ := owns_isB HO.out HXs.out
        have HR := hide (refReadNum_any a6 q c6 (unL bs) wr hI6 (by omega))
        clear hI6 HO HCk
        go_wp2_with fail
        refine HR.out.mono ?_
        clear HR
        rintro e w2 ⟨⟨n, p, v, hn, hn64, hp, rfl, hown⟩ | ⟨hno, rfl⟩, hb2⟩
        · have HB2 : Hid (Below w.heap.size w w2) := hide (HB.out.trans (hb2.mono HB.out.size))
          have HN := hide hn
          obtain ⟨a7, c7, rfl, hI7⟩ := owns_isB hown (fun x hx => HXs.out x (List.mem_of_mem_drop hx))
          by_cases h4 : 4096 < n
          · have d6 : decide ((4096 : Int) < (n : Int)) = true := decide_eq_true (by omega)
            have HF : Hid (UnR bs s [] 6) := hide (UnR.of_text (RdB.many hn h4 []) (by omega))
            clear hn hown hI7 hb2 HB
            go_wp2_with fail
            go_ret2
            exact UfPost.code HT.out HF.out HB2.out
          · have d6 : decide ((4096 : Int) < (n : Int)) = false := decide_eq_false (by omega)
            have HI : Hid (FuTwo w ((unL bs).drop p) q 0 (.slice none 0 0) (.slice a7 (q - p) c7) w2) := hide (FuTwo.start ⟨a7, c7, rfl, hI7⟩ (by omega) HB2.out)
            clear hn hown hI7 hb2 HB
            go_wp2_with fail
            go_loopw [14, 13, 11] (fun i x y wr => ∃ j : Nat, j ≤ n ∧ i = .int .u64 (j : Nat) ∧ FuTwo w ((unL bs).drop p) q j x y wr) (fun i _ _ _ => n - (intOf i).toNat)
            case atStart => exact ⟨0, Nat.zero_le _, rfl, HI.out⟩
            case round =>
              obtain ⟨k, hk, rfl, out, a2, len2, cap2, rest, hol, hred, hl2, rfl, hI2, hown, hb⟩ := hrel
              clear HI HB2
              have HRed := hide hred
              have HOl := hide hol
              have HI2 := hide hI2
              have HO := hide hown
              have HB := hide hb
              clear hred hol hI2 hown hb
              by_cases hkn : k < n
              · have d1 : decide ((k : Int) < (n : Int)) = true := by simpa using hkn
                have HC := hide (rtext_any _ a2 len2 cap2 rest HI2.out (by omega))
                have HBw := hide HB.out.size
                go_wp2_with fail
                refine HC.out.mono ?_
                clear HC
                rintro e w3 ⟨⟨y, r, a3, n3, c3, hrd, rfl, hI3, hn3, hA3⟩ | ⟨hrd, rfl⟩, hb3⟩
                · have HRed3 := hide (HRed.out.step HI2.out.2.2.2.1 hrd)
                  have HO3 := hide (own9_below HO.out hb3)
                  have HB3 : Hid (Below w.heap.size w w3) := hide (HB.out.trans (hb3.mono HB.out.size))
                  have HI3 := hide hI3
                  have HA3 := hide hA3
                  have HLT := hide (fun b hb => (HO.out.lt b hb).2)
                  have hn3' : n3 ≤ q := by have := HI2.out.1; omega
                  clear hrd hI3 hn3 hA3 hb3 HRed HI2 HO HB
                  go_wp2_with (at_builtin; refine wpList_append_own _ rfl _ _ 22 rfl w.heap.size 9 i0 (.string ⟨#[]⟩) 1 16 Try.underlying22 hi hz0 hz1 hz2 rfl (by decide) _ k (out.map Value.string) rfl (HO3.out.alloc _) ⟨w3.heap.size, 0, none⟩ 1 1 [.string y] rfl rfl (cell_one_new _ _ _) (one_string _) ?c3 ?c4 ?c5 ?_)
                  case c3 => unfold maxLen; omega
                  case c4 => omega
                  case c5 => have := HB3.out.size; simp; omega
                  intro v2 w4 hown2 hg4 _
                  have hlt : ∀ b, _ = some b → w.heap.size ≤ b := fun b hb => (HO3.out.lt b hb).1
                  have hb2 : Below w.heap.size w w4 := (HB3.out.alloc HB3.out.size _).grown hg4 (by have := HB3.out.size; simp; omega) hlt
                  have hx4 : IsB w4 a3 n3 c3 r := (HI3.out.below ((Below.refl _ _).alloc (Nat.le_refl _) _)).keptBy hg4 (fun b hb b' off e _ => by
                    have h1 := HA3.out _ e
                    have h2 := HLT.out b hb
                    simp at h1
                    omega)
                  have hown3 : w4.ownsRow w.heap.size 9 1 v2 (k + 1) ((out ++ [y]).map Value.string) := by rw [List.map_append]; exact hown2
                  clear hown2 hg4 HI3 HA3 HLT
                  go_wp2
                  go_roundw
                  case rel => exact ⟨k + 1, by omega, by go_num, out ++ [y], a3, n3, c3, r, by rw [List.length_append, HOl.out]; rfl, HRed3.out, hn3', rfl, hx4, hown3, hb2⟩
                  case measure => simp [intOf]; omega
                · have HB3 : Hid (Below w.heap.size w w3) := hide (HB.out.trans (hb3.mono HB.out.size))
                  have HF : Hid (UnR bs s [] 6) := hide (UnR.of_text (RdB.stuck HN.out HRed.out (by rw [HOl.out]; exact hkn) hrd []) (by omega))
                  clear hrd hb3 HRed HI2 HO HB
                  go_wp2_with fail
                  go_ret2
                  exact UfPost.code HT.out HF.out HB3.out
              · have hkn' : k = n := by omega
                subst hkn'
                have HOK : Hid (okB out) := hide ⟨by rw [HOl.out]; omega, HRed.out.2⟩
                have HFE : Hid (frE out s = 0) := hide (frE_of HOK.out HT.out)
                have ho9 := HO.out
                rw [← HOl.out] at ho9
                obtain ⟨a9, c9, hx9, hT9, _⟩ := isTT_own ho9
                rw [HOl.out] at hx9 hT9
                subst hx9
                have HFR := hide (rframe_any wr a9 k c9 out hT9 s)
                clear ho9 hT9
                have hlen2 := HI2.out.1
                have hcap2 := HI2.out.2.2.1
                unfold maxLen at hcap2
                go_wp2_with fail
                refine HFR.out.mono ?_
                clear HFR
                rintro e w5 ⟨⟨v5, he5, h5, _⟩, hb5⟩
                rw [HFE.out] at he5
                subst he5
                obtain ⟨a10, c10, rfl, hI10⟩ := h5 HFE.out
                have HB5 : Hid (Below w.heap.size w w5) := hide (HB.out.trans (hb5.mono HB.out.size))
                have HO5 := hide (own9_below HO.out hb5)
                have H10 := hide hI10
                have HFL : Hid ((frL out s).length = (frL out s).length) := hide rfl
                clear h5 hb5 hI10 HO HB
                generalize hM : (frL out s).length = M at *
                have HM := hide hM
                clear hM
                have hm1 := H10.out.2.1
                have hm2 := H10.out.2.2.1
                unfold maxLen at hm2
                by_cases hz : 0 < len2
                · have d7 : decide ((0 : Int) < (len2 : Int)) = true := decide_eq_true (by omega)
                  have HF : Hid (UnR bs s [] 6) := hide (UnR.of_text (RdB.left HN.out HRed.out HOl.out (fun e => by rw [e] at hlen2; simp at hlen2; omega) []) (by omega))
                  go_wp2_with fail
                  go_ret2
                  exact UfPost.code HT.out HF.out HB5.out
                · have d7 : decide ((0 : Int) < (len2 : Int)) = false := decide_eq_false (by omega)
                  have HD : Hid (RdB (unL bs) out true) := hide (by
                    have hd := HRed.out
                    have : rest = [] := List.length_eq_zero_iff.1 (by omega)
                    rw [this] at hd
                    exact RdB.done HXs.out HN.out hd HOl.out (by omega))
                  clear HRed HI2 HN
                  by_cases hml : M = j
                  · subst hml
                    have d8 : ((M : Int) != (M : Int)) = false := by simp
                    go_wp2_with fail
                    go_loopw [118] (fun i wr' => ∃ j : Nat, j ≤ M ∧ i = .int .i64 (j : Nat) ∧ (∀ t, t < j → (frL out s).getD t [] = bs.getD t []) ∧ Below w5.heap.size w5 wr') (fun i _ => M - (intOf i).toNat)
                    case atStart => exact ⟨0, Nat.zero_le _, rfl, fun t ht => by omega, Below.refl _ _⟩
                    case round =>
                      obtain ⟨j, hj, rfl, hsm, hb6⟩ := hrel
                      have HSm := hide hsm
                      have HB6 := hide hb6
                      clear hsm hb6
                      by_cases hjM : j < M
                      · obtain ⟨_, _, _, g5⟩ := H10.out.below HB6.out
                        rcases g5 with h0 | ⟨b10, off10, rfl, _, hc10⟩
                        · omega
                        obtain ⟨_, _, _, f5⟩ := H.out.below (HB5.out.trans (HB6.out.mono HB5.out.size))
                        rcases f5 with h0 | ⟨b11, off11, rfl, _, hc11⟩
                        · omega
                        obtain ⟨x1, y1, z1, hc1, hI1⟩ := hc10 j hjM
                        obtain ⟨x2, y2, z2, hc2, hI2⟩ := hc11 j hjM
                        have cv1 := conv_str (hI1.below (Below.drew (Below.refl _ _)))
                        have cv2 := conv_str (hI2.below (Below.drew (Below.refl _ _)))
                        have hlm := str_eq hI1.2.2.2.1 hI2.2.2.2.1
                        by_cases hEq : (frL out s).getD j [] = bs.getD j []
                        · rw [decide_eq_true hEq] at hlm
                          have HSm2 : Hid (∀ t, t < j + 1 → (frL out s).getD t [] = bs.getD t []) := hide (fun t ht => by
                            by_cases e : t = j
                            · subst e; exact hEq
                            · exact HSm.out t (by omega))
                          clear hc10 hc11 hI1 hI2 hEq HSm
                          generalize str ((frL out s).getD j []) = S1 at cv1 hlm
                          generalize str (bs.getD j []) = S2 at cv2 hlm
                          have hlm2 : (!(S1.toList == S2.toList)) = false := by rw [hlm]; rfl
                          go_wp2_with fail
                          go_region
                          all_goals
                            go_wp2_with fail
                            go_roundw
                            case rel => exact ⟨j + 1, by omega, by go_num, HSm2.out, Below.drew HB6.out⟩
                            case measure => simp [intOf]; omega
                        · rw [decide_eq_false hEq] at hlm
                          have HF : Hid (UnR bs s [] 6) := hide (UnR.of_other HD.out (fun e => hEq (by rw [e])) [] (by omega))
                          clear hc10 hc11 hI1 hI2 hEq HSm
                          generalize str ((frL out s).getD j []) = S1 at cv1 hlm
                          generalize str (bs.getD j []) = S2 at cv2 hlm
                          have hlm2 : (!(S1.toList == S2.toList)) = true := by rw [hlm]; rfl
                          go_wp2_with fail
                          go_region
                          all_goals
                            go_wp2_with fail
                            go_ret2
                            exact UfPost.code HT.out HF.out (Below.drew (HB5.out.trans (HB6.out.mono HB5.out.size)))
                      · have hjM' : j = M := by omega
                        subst hjM'
                        have HU : Hid (UnR bs s out 0) := hide (.inl ⟨rfl, HOK.out, ext_getD (by rw [HM.out, H.out.1]) (fun t ht => HSm.out t (by have := H.out.1; omega))⟩)
                        go_wp2_with fail
                        go_ret2
                        exact UfPost.ok HT.out HU.out (by rw [HOl.out]; exact own9_below HO5.out HB6.out) (HB5.out.trans (HB6.out.mono HB5.out.size))
                  · have d8 : ((M : Int) != (j : Int)) = true := by simp; omega
                    have HF : Hid (UnR bs s [] 6) := hide (UnR.of_other HD.out (fun e => hml (by rw [← HM.out, e, H.out.1])) [] (by omega))
                    go_wp2_with fail
                    go_ret2
                    exact UfPost.code HT.out HF.out HB5.out
        · have HB2 : Hid (Below w.heap.size w w2) := hide (HB.out.trans (hb2.mono HB.out.size))
          have HF : Hid (UnR bs s [] 6) := hide (UnR.of_text (RdB.noNum hno []) (by omega))
          clear hno hb2 HB
          go_wp2_with fail
          go_ret2
          exact UfPost.code HT.out HF.out HB2.out
  · have HT : Hid (startB s = false) := hide (by simpa using hst)
    have hsf := startB_false HT.out
    clear hst
    by_cases hs1 : s < 1
    · have ds1 : decide ((s : Int) < 1) = true := decide_eq_true (by omega)
      go_enter Try.func13, Try.ntmps13
      go_wp2_with fail
      go_ret2
      exact UfPost.range HT.out (Below.refl _ _)
    · have ds1 : decide ((s : Int) < 1) = false := decide_eq_false (by omega)
      have ds2 : decide ((4611686018427387904 : Int) < (s : Int)) = true := decide_eq_true (by omega)
      go_enter Try.func13, Try.ntmps13
      go_wp2_with fail
      go_ret2
      exact UfPost.range HT.out (Below.refl _ _)
end Go.Proofs.Yteckglnfkgfefaa
