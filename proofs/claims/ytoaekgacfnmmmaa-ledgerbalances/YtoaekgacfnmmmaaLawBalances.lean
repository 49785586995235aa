/- LedgerBalances -/
import Derived.Test.YtoaekgacfnmmmaaLawApart
namespace Go.Proofs.Ytoaekgacfnmmmaa
open Go.RowKit
/-- what Pay answers of right books -/
def payO (A : List Py) (n : Int) : Py := if ordB n = true then payV A n else Py0
def payE (n : Int) : Int := if ordB n = true then 0 else 2
theorem pay_all (a : Option Addr) (len cap : Nat) (A P : List Py) (a2 : Option Addr) (len2 cap2 : Nat) (G : List Pg) (n : Int) (w : World) (h : IsP w a len cap P) (h2 : IsG w a2 len2 cap2 G) (hA : BksA A P G) :
    Calls Try.prog 9 #[vb a len cap a2 len2 cap2, .int .i64 n] w fun e w' => Below w.heap.size w w' ∧ e = .returned (.tuple #[vp (payO A n), .int .i64 (payE n)]) := by
  refine (pay_any a len cap A P a2 len2 cap2 G n w h h2 hA).mono ?_
  rintro e w' ⟨hb, ⟨ho, rfl⟩ | ⟨ho, rfl⟩⟩
  · refine ⟨hb, ?_⟩
    unfold payO payE
    rw [ho]
    rfl
  · refine ⟨hb, ?_⟩
    unfold payO payE
    rw [ho]
    rfl
theorem payO_set {A : List Py} (hA : IdxR A) {n m : Int} (hn : ordB n = true) (hm : m ≠ n) (y : Py) : payO (A.set n.toNat y) m = payO A m := by
  unfold payO
  split
  case isTrue ho => rw [payV_set hA hn ho, if_neg hm]
  case isFalse => rfl
theorem set_zero {A : List Py} {G : List Pg} {n to : Int} (hE : setE A G n to = 0) : ordB n = true := by
  unfold setE at hE
  split at hE
  · omega
  · rename_i h; simpa using h
/-- what is known of books that a call has answered -/
def Next (A : List Py) (n m : Int) (r : Int) (A'' : List Py) (G'' : List Pg) : Prop := (r ≠ 0 ∧ A'' = A0 ∧ G'' = []) ∨ (r = 0 ∧ ordB n = true ∧ (m ≠ n → payO A'' m = payO A m))
theorem next_auth {A P : List Py} {G : List Pg} (hA : BksA A P G) {n am m r : Int} {G' : List Pg} {A'' : List Py} {G'' : List Pg} (hE : authE A G n am = r) (hW : Which r (A.set n.toNat (behR (pvA A n) ⟨n, 1, 2, am⟩)) G' A'' G'') : Next A n m r A'' G'' := by
  rcases hW with ⟨h0, rfl, _⟩ | h
  · have hn := (auth_zero (hE.trans h0)).1
    exact .inr ⟨h0, hn, fun hm => payO_set hA.2.2.1 hn hm _⟩
  · exact .inl h
theorem next_set {A P : List Py} {G : List Pg} (hA : BksA A P G) {n to m r : Int} {y : Py} {G' : List Pg} {A'' : List Py} {G'' : List Pg} (hE : setE A G n to = r) (hW : Which r (A.set n.toNat y) G' A'' G'') : Next A n m r A'' G'' := by
  rcases hW with ⟨h0, rfl, _⟩ | h
  · have hn := set_zero (hE.trans h0)
    exact .inr ⟨h0, hn, fun hm => payO_set hA.2.2.1 hn hm _⟩
  · exact .inl h
theorem next_ref {A P : List Py} {G : List Pg} (hA : BksA A P G) {n am m r : Int} {y : Py} {G' : List Pg} {A'' : List Py} {G'' : List Pg} (hE : refE A G n am = r) (hW : Which r (A.set n.toNat y) G' A'' G'') : Next A n m r A'' G'' := by
  rcases hW with ⟨h0, rfl, _⟩ | h
  · have hn := (ref_zero (hE.trans h0)).1
    exact .inr ⟨h0, hn, fun hm => payO_set hA.2.2.1 hn hm _⟩
  · exact .inl h
theorem pay_right {A P : List Py} {G : List Pg} (hA : BksA A P G) {n : Int} (hn : ordB n = true) : payE n = 0 ∧ 0 ≤ (payO A n).op ∧ (payO A n).re ≤ (payO A n).ca := by
  have hv := hA.pv hn
  have hp := @pv_nums A n
  unfold payE payO
  rw [hn]
  simp only [if_true]
  rw [hp.1, hp.2.1, hp.2.2]
  exact ⟨trivial, hv.op0, hv.rc⟩
set_option maxHeartbeats 16000000 in
set_option maxRecDepth 40000 in
theorem balancesWalk (a : Option Addr) (len cap : Nat) (P : List Py) (a2 : Option Addr) (len2 cap2 : Nat) (G : List Pg) (n am o : Int) (w : World) (h : IsP w a len cap P) (h2 : IsG w a2 len2 cap2 G) (_hn : i64B n) (_ham : i64B am) (_ho : i64B o) :
    Calls Try.prog 3 #[vb a len cap a2 len2 cap2, .int .i64 n, .int .i64 am, .int .i64 o] w fun e w' => e = .returned (.bool true) ∧ Below w.heap.size w w' := by
  have HP := hide h
  have HG := hide h2
  have HP0 := hide h
  have HG0 := hide h2
  have HLV := hide (fun W => lives_any W)
  clear h h2
  go_enter Try.func3, Try.ntmps3
  refine wp_seq_k (fun K0 hK0 => ?_)
  have HK0 := hide hK0
  clear hK0
  go_wp2
  have HBw := hide (Below.refl w.heap.size w)
  generalize hW : w.alloc (.cells #[.slice a len cap, .slice a2 len2 cap2] 25) = W0
  have hb : Below w.heap.size w W0 := hW ▸ (Below.refl _ _).alloc (Nat.le_refl _) _
  have HX : Hid (BlkB W0 w.heap.size (.slice a len cap) (.slice a2 len2 cap2)) := hide (hW ▸ heap_alloc_new _ _)
  have HP_a1 := hide (HP.out.below' hb)
  have HG_a1 := hide (HG.out.below' hb)
  have HBw_a1 := hide (HBw.out.trans (hb.mono HBw.out.size))
  clear HP HG HBw hb
  clear hW
  refine HK0.out _ _ ?_
  clear HK0
  refine wp_seq_k (fun K1 hK1 => ?_)
  have HK1 := hide hK1
  clear hK1
  go_wp2_with fail
  refine (HLV.out W0).mono ?_
  rintro e w1 ⟨hb, rfl⟩
  clear HLV
  have HP_l := hide (HP_a1.out.below' hb)
  have HG_l := hide (HG_a1.out.below' hb)
  have HBw_l := hide (HBw_a1.out.trans (hb.mono HBw_a1.out.size))
  have HX_l := hide (HX.out.below (heap_lt HX.out) hb)
  clear HP_a1 HG_a1 HBw_a1 HX hb
  go_wp2
  refine HK1.out _ _ ?_
  clear HK1
  refine wp_seq_k (fun K2 hK2 => ?_)
  have HK2 := hide hK2
  clear hK2
  have HCK := hide (check_any a len cap P a2 len2 cap2 G w1 HP_l.out HG_l.out)
  obtain ⟨x1, x2⟩ := HX_l.out.cells
  go_wp2_with fail
  refine (HCK.out).mono ?_
  rintro e w2 ⟨⟨r0, rfl, hr⟩, hb⟩
  clear HCK
  clear x1 x2 
  have HP_c2 := hide (HP_l.out.below' hb)
  have HG_c2 := hide (HG_l.out.below' hb)
  have HBw_c2 := hide (HBw_l.out.trans (hb.mono HBw_l.out.size))
  have HX_c2 := hide (HX_l.out.below (heap_lt HX_l.out) hb)
  clear HP_l HG_l HBw_l HX_l hb
  rcases hr with ⟨rfl, hck⟩ | ⟨rfl, _⟩
  · go_wp2
    refine HK2.out _ _ ?_
    clear HK2
    obtain ⟨A, hA⟩ := bks_of hck
    clear hck
    have HA := hide hA
    clear hA
    obtain ⟨rb, hrb⟩ : ∃ rb, payE o = rb := ⟨_, rfl⟩
    rcases hpb : payO A o with ⟨s1, s2, s3, s4⟩
    have HRB := hide hrb
    have HPB := hide hpb
    clear hrb hpb
    refine wp_seq_k (fun K3 hK3 => ?_)
    have HK3 := hide hK3
    clear hK3
    have HPY := hide (pay_all a len cap A P a2 len2 cap2 G o w2 HP_c2.out HG_c2.out HA.out)
    rw [HRB.out, HPB.out] at HPY
    obtain ⟨x1, x2⟩ := HX_c2.out.cells
    go_wp2_with fail
    refine (HPY.out).mono ?_
    rintro e w3 ⟨hb, rfl⟩
    clear HPY
    clear x1 x2 
    have HP_c3 := hide (HP_c2.out.below' hb)
    have HG_c3 := hide (HG_c2.out.below' hb)
    have HBw_c3 := hide (HBw_c2.out.trans (hb.mono HBw_c2.out.size))
    have HX_c3 := hide (HX_c2.out.below (heap_lt HX_c2.out) hb)
    clear HP_c2 HG_c2 HBw_c2 HX_c2 hb
    go_wp2
    generalize hW : w3.alloc (.cells #[.int .i64 s1, .int .i64 s2, .int .i64 s3, .int .i64 s4] 30) = W3
    have hb : Below w3.heap.size w3 W3 := hW ▸ (Below.refl _ _).alloc (Nat.le_refl _) _
    have HS : Hid (BlkP W3 w3.heap.size ⟨s1, s2, s3, s4⟩) := hide (hW ▸ heap_alloc_new _ _)
    have HP_a4 := hide (HP_c3.out.below' hb)
    have HG_a4 := hide (HG_c3.out.below' hb)
    have HBw_a4 := hide (HBw_c3.out.trans (hb.mono HBw_c3.out.size))
    have HX_a4 := hide (HX_c3.out.below (heap_lt HX_c3.out) hb)
    clear HP_c3 HG_c3 HBw_c3 HX_c3 hb
    clear hW
    generalize w3.heap.size = BS at *
    refine HK3.out _ _ ?_
    clear HK3
    go_wp2
    go_loopw [11] (fun i wr => ∃ k : Nat, k ≤ 4 ∧ i = .int .i64 k ∧ Hid (Below w.heap.size w wr ∧ BlkB wr w.heap.size (.slice a len cap) (.slice a2 len2 cap2) ∧ BlkP wr BS ⟨s1, s2, s3, s4⟩ ∧ IsP wr a len cap P ∧ IsG wr a2 len2 cap2 G)) (fun i _ => 4 - (intOf i).toNat)
    case atStart => exact ⟨0, by omega, rfl, hide ⟨HBw_a4.out, HX_a4.out, HS.out, HP_a4.out, HG_a4.out⟩⟩
    case round =>
      obtain ⟨k, hk, rfl, HR⟩ := hrel
      clear HBw_a4 HX_a4 HS HP_a4 HG_a4
      have HBw1 := hide HR.out.1
      have HX1 := hide HR.out.2.1
      have HS1 := hide HR.out.2.2.1
      have HP1 := hide HR.out.2.2.2.1
      have HG1 := hide HR.out.2.2.2.2
      clear HR
      rcases (by omega : k = 0 ∨ k = 1 ∨ k = 2 ∨ k = 3 ∨ k = 4) with rfl | rfl | rfl | rfl | rfl
      · have HST := hide (auth_any a len cap A P a2 len2 cap2 G n am wr HP1.out HG1.out HA.out)
        generalize hgE : authE A G n am = r at HST
        have HGE := hide hgE
        clear hgE
        obtain ⟨x1, x2⟩ := HX1.out.cells
        go_wp2_with fail
        refine HST.out.mono ?_
        intro e v0 hop
        obtain ⟨hb, AC, GC, aC, nC, cC, bC, dC, rfl, i1, i2, i3, i4, i5, i6⟩ := hop.all
        clear hop HST
        have HC1 := hide i1
        have HC2 := hide i2
        have HBC := hide i3
        have HWC := hide i6
        clear i1 i2 i3 i4 i5 i6 x1 x2
        have HBw_c5 := hide (HBw1.out.trans (hb.mono HBw1.out.size))
        have HX_c5 := hide (HX1.out.below (heap_lt HX1.out) hb)
        have HS_c5 := hide (HS1.out.below (heap_lt HS1.out) hb)
        have HP_c5 := hide (HP1.out.below' hb)
        have HG_c5 := hide (HG1.out.below' hb)
        clear HBw1 HX1 HS1 HP1 HG1 hb
        generalize hgl : GC.length = mC at *
        clear hgl
        rename_i KA hKA KB hKB
        have HKA := hide hKA
        clear hKA
        go_wp2
        generalize hW : v0.alloc (.cells #[.slice aC nC cC, .slice bC mC dC] 25) = V0
        have hb : Below v0.heap.size v0 V0 := hW ▸ (Below.refl _ _).alloc (Nat.le_refl _) _
        have HXC : Hid (BlkB V0 v0.heap.size (.slice aC nC cC) (.slice bC mC dC)) := hide (hW ▸ heap_alloc_new _ _)
        have HSC := hide HBw_c5.out.size
        have HNB0 := hide (And.intro (heap_lt HX_c5.out) (heap_lt HS_c5.out))
        have HBw_a6 := hide (HBw_c5.out.trans (hb.mono HBw_c5.out.size))
        have HX_a6 := hide (HX_c5.out.below (heap_lt HX_c5.out) hb)
        have HS_a6 := hide (HS_c5.out.below (heap_lt HS_c5.out) hb)
        have HP_a6 := hide (HP_c5.out.below' hb)
        have HG_a6 := hide (HG_c5.out.below' hb)
        have HC1_a6 := hide (HC1.out.below' hb)
        have HC2_a6 := hide (HC2.out.below' hb)
        clear HBw_c5 HX_c5 HS_c5 HP_c5 HG_c5 HC1 HC2 hb
        clear hW
        generalize v0.heap.size = BXC at *
        have HNB : Hid (w.heap.size ≠ BXC ∧ BS ≠ BXC) := hide ⟨by have := HNB0.out.1; omega, by have := HNB0.out.2; omega⟩
        clear HNB0
        refine HKA.out _ _ ?_
        clear HKA
        refine wp_seq_k (fun K4 hK4 => ?_)
        have HK4 := hide hK4
        clear hK4
        go_wp2
        refine HK4.out _ _ ?_
        clear HK4
        have HNX : Hid (Next A n o r AC GC) := hide (next_auth HA.out HGE.out HWC.out)
        clear HGE HWC HSC HNB
        rcases HNX.out with ⟨hr, hh1, hh2⟩ | ⟨rfl, hn, hpo⟩
        · subst hh1
          subst hh2
          obtain rfl : 0 = nC := by have h := HC1_a6.out.1; rw [a0_filter] at h; exact h
          obtain rfl : 0 = mC := HC2_a6.out.1
          have hr1 : (r != 0) = true := by simpa using hr
          obtain ⟨x1, x2⟩ := HXC.out.cells
          go_wp2
          go_roundw
          case rel => exact ⟨1, by omega, by simp, hide ⟨HBw_a6.out, HX_a6.out, HS_a6.out, HP_a6.out, HG_a6.out⟩⟩
          case measure => simp [intOf]
        · refine wp_seq_k (fun K5 hK5 => ?_)
          have HK5 := hide hK5
          clear hK5
          go_wp2
          refine HK5.out _ _ ?_
          clear HK5
          have HN := hide hn
          have HPO := hide hpo
          clear hn hpo
          obtain ⟨u1, u2, u3⟩ := pay_right HBC.out HN.out
          rcases hpp : payO AC n with ⟨p1, p2, p3, p4⟩
          rw [hpp] at u2 u3
          have v2 : ¬ p2 < 0 := by dsimp only at u2; omega
          have v3 : ¬ p3 < p4 := by dsimp only at u3; omega
          have HV := hide (And.intro v2 v3)
          clear u2 u3 v2 v3
          refine wp_seq_k (fun K6 hK6 => ?_)
          have HK6 := hide hK6
          clear hK6
          have HPY := hide (pay_all aC nC cC AC _ bC mC dC GC n V0 HC1_a6.out HC2_a6.out HBC.out)
          rw [u1, hpp] at HPY
          clear u1 hpp
          obtain ⟨x1, x2⟩ := HXC.out.cells
          go_wp2_with fail
          refine (HPY.out).mono ?_
          rintro e v1 ⟨hb, rfl⟩
          clear HPY
          clear x1 x2 
          have HBw_c7 := hide (HBw_a6.out.trans (hb.mono HBw_a6.out.size))
          have HX_c7 := hide (HX_a6.out.below (heap_lt HX_a6.out) hb)
          have HS_c7 := hide (HS_a6.out.below (heap_lt HS_a6.out) hb)
          have HP_c7 := hide (HP_a6.out.below' hb)
          have HG_c7 := hide (HG_a6.out.below' hb)
          have HC1_c7 := hide (HC1_a6.out.below' hb)
          have HC2_c7 := hide (HC2_a6.out.below' hb)
          have HXC_c7 := hide (HXC.out.below (heap_lt HXC.out) hb)
          clear HBw_a6 HX_a6 HS_a6 HP_a6 HG_a6 HC1_a6 HC2_a6 HXC hb
          go_wp2
          generalize hW : v1.alloc (.cells #[.int .i64 p1, .int .i64 p2, .int .i64 p3, .int .i64 p4] 30) = V1
          have hb : Below v1.heap.size v1 V1 := hW ▸ (Below.refl _ _).alloc (Nat.le_refl _) _
          have HY : Hid (BlkP V1 v1.heap.size ⟨p1, p2, p3, p4⟩) := hide (hW ▸ heap_alloc_new _ _)
          have HBw_a8 := hide (HBw_c7.out.trans (hb.mono HBw_c7.out.size))
          have HX_a8 := hide (HX_c7.out.below (heap_lt HX_c7.out) hb)
          have HS_a8 := hide (HS_c7.out.below (heap_lt HS_c7.out) hb)
          have HP_a8 := hide (HP_c7.out.below' hb)
          have HG_a8 := hide (HG_c7.out.below' hb)
          have HC1_a8 := hide (HC1_c7.out.below' hb)
          have HC2_a8 := hide (HC2_c7.out.below' hb)
          have HXC_a8 := hide (HXC_c7.out.below (heap_lt HXC_c7.out) hb)
          clear HBw_c7 HX_c7 HS_c7 HP_c7 HG_c7 HC1_c7 HC2_c7 HXC_c7 hb
          clear hW
          generalize v1.heap.size = BY at *
          refine HK6.out _ _ ?_
          clear HK6
          refine wp_seq_k (fun K7 hK7 => ?_)
          have HK7 := hide hK7
          clear hK7
          rcases hqq : payO AC o with ⟨q1, q2, q3, q4⟩
          have HPY := hide (pay_all aC nC cC AC _ bC mC dC GC o V1 HC1_a8.out HC2_a8.out HBC.out)
          rw [HRB.out, hqq] at HPY
          have HQQ := hide hqq
          clear hqq
          obtain ⟨x1, x2⟩ := HXC_a8.out.cells
          go_wp2_with fail
          refine (HPY.out).mono ?_
          rintro e v2 ⟨hb, rfl⟩
          clear HPY
          clear x1 x2 
          have HBw_c9 := hide (HBw_a8.out.trans (hb.mono HBw_a8.out.size))
          have HX_c9 := hide (HX_a8.out.below (heap_lt HX_a8.out) hb)
          have HS_c9 := hide (HS_a8.out.below (heap_lt HS_a8.out) hb)
          have HP_c9 := hide (HP_a8.out.below' hb)
          have HG_c9 := hide (HG_a8.out.below' hb)
          have HC1_c9 := hide (HC1_a8.out.below' hb)
          have HC2_c9 := hide (HC2_a8.out.below' hb)
          have HXC_c9 := hide (HXC_a8.out.below (heap_lt HXC_a8.out) hb)
          have HY_c9 := hide (HY.out.below (heap_lt HY.out) hb)
          clear HBw_a8 HX_a8 HS_a8 HP_a8 HG_a8 HC1_a8 HC2_a8 HXC_a8 HY hb
          go_wp2
          generalize hW : v2.alloc (.cells #[.int .i64 q1, .int .i64 q2, .int .i64 q3, .int .i64 q4] 30) = V2
          have hb : Below v2.heap.size v2 V2 := hW ▸ (Below.refl _ _).alloc (Nat.le_refl _) _
          have HT : Hid (BlkP V2 v2.heap.size ⟨q1, q2, q3, q4⟩) := hide (hW ▸ heap_alloc_new _ _)
          have HBw_a10 := hide (HBw_c9.out.trans (hb.mono HBw_c9.out.size))
          have HX_a10 := hide (HX_c9.out.below (heap_lt HX_c9.out) hb)
          have HS_a10 := hide (HS_c9.out.below (heap_lt HS_c9.out) hb)
          have HP_a10 := hide (HP_c9.out.below' hb)
          have HG_a10 := hide (HG_c9.out.below' hb)
          have HC1_a10 := hide (HC1_c9.out.below' hb)
          have HC2_a10 := hide (HC2_c9.out.below' hb)
          have HXC_a10 := hide (HXC_c9.out.below (heap_lt HXC_c9.out) hb)
          have HY_a10 := hide (HY_c9.out.below (heap_lt HY_c9.out) hb)
          clear HBw_c9 HX_c9 HS_c9 HP_c9 HG_c9 HC1_c9 HC2_c9 HXC_c9 HY_c9 hb
          clear hW
          generalize v2.heap.size = BT at *
          refine HK7.out _ _ ?_
          clear HK7
          have HCK := hide (check_any aC nC cC _ bC mC dC GC V2 HC1_a10.out HC2_a10.out)
          obtain ⟨x1, x2⟩ := HXC_a10.out.cells
          go_wp2_with fail
          refine (HCK.out).mono ?_
          rintro e v3 ⟨⟨r0, rfl, hr⟩, hb⟩
          obtain rfl : r0 = 0 := by
            rcases hr with ⟨h, _⟩ | ⟨_, h⟩
            · exact h
            · exact absurd HBC.out.check h
          clear hr HCK
          clear x1 x2 
          have HBw_c11 := hide (HBw_a10.out.trans (hb.mono HBw_a10.out.size))
          have HX_c11 := hide (HX_a10.out.below (heap_lt HX_a10.out) hb)
          have HS_c11 := hide (HS_a10.out.below (heap_lt HS_a10.out) hb)
          have HP_c11 := hide (HP_a10.out.below' hb)
          have HG_c11 := hide (HG_a10.out.below' hb)
          have HC1_c11 := hide (HC1_a10.out.below' hb)
          have HC2_c11 := hide (HC2_a10.out.below' hb)
          have HXC_c11 := hide (HXC_a10.out.below (heap_lt HXC_a10.out) hb)
          have HY_c11 := hide (HY_a10.out.below (heap_lt HY_a10.out) hb)
          have HT_c11 := hide (HT.out.below (heap_lt HT.out) hb)
          clear HBw_a10 HX_a10 HS_a10 HP_a10 HG_a10 HC1_a10 HC2_a10 HXC_a10 HY_a10 HT hb
          have HBL := hide (balanced_any aC nC cC _ bC mC dC GC v3 HC1_c11.out HC2_c11.out HBC.out.check)
          obtain ⟨x1, x2⟩ := HXC_c11.out.cells
          go_wp2_with fail
          refine (HBL.out).mono ?_
          rintro e v4 ⟨hb, rfl⟩
          clear HBL
          clear x1 x2 
          have HBw_c12 := hide (HBw_c11.out.trans (hb.mono HBw_c11.out.size))
          have HX_c12 := hide (HX_c11.out.below (heap_lt HX_c11.out) hb)
          have HS_c12 := hide (HS_c11.out.below (heap_lt HS_c11.out) hb)
          have HP_c12 := hide (HP_c11.out.below' hb)
          have HG_c12 := hide (HG_c11.out.below' hb)
          have HC1_c12 := hide (HC1_c11.out.below' hb)
          have HC2_c12 := hide (HC2_c11.out.below' hb)
          have HXC_c12 := hide (HXC_c11.out.below (heap_lt HXC_c11.out) hb)
          have HY_c12 := hide (HY_c11.out.below (heap_lt HY_c11.out) hb)
          have HT_c12 := hide (HT_c11.out.below (heap_lt HT_c11.out) hb)
          clear HBw_c11 HX_c11 HS_c11 HP_c11 HG_c11 HC1_c11 HC2_c11 HXC_c11 HY_c11 HT_c11 hb
          obtain ⟨g1, g2, g3, g4⟩ := HY_c12.out.cells
          obtain ⟨t1, t2, t3, t4⟩ := HT_c12.out.cells
          obtain ⟨b1, b2, b3, b4⟩ := HS_c12.out.cells
          simp only [Nat.zero_add] at g1 g2 g3 g4 t1 t2 t3 t4 b1 b2 b3 b4
          have v2 := HV.out.1
          have v3 := HV.out.2
          by_cases hon : o = n
          · have hon1 : (o != n) = false := by simpa using hon
            clear hon
            go_wp2
            go_roundw
            case rel => exact ⟨1, by omega, by simp, hide ⟨HBw_c12.out, HX_c12.out, HS_c12.out, HP_c12.out, HG_c12.out⟩⟩
            case measure => simp [intOf]
          · have hon1 : (o != n) = true := by simpa using hon
            have heq := HQQ.out.symm.trans ((HPO.out hon).trans HPB.out)
            clear hon
            cases heq
            have u1 := equal30 s1 s2 s3 s4 s1 s2 s3 s4
            have u2 := eqg30
            have u3 : sameP ⟨s1, s2, s3, s4⟩ ⟨s1, s2, s3, s4⟩ = true := (sameP_iff _ _).2 rfl
            rw [u3] at u1
            clear u3
            go_wp2
            go_roundw
            case rel => exact ⟨1, by omega, by simp, hide ⟨HBw_c12.out, HX_c12.out, HS_c12.out, HP_c12.out, HG_c12.out⟩⟩
            case measure => simp [intOf]
      · have HST := hide (auth_any a len cap A P a2 len2 cap2 G n am wr HP1.out HG1.out HA.out)
        generalize hgE : authE A G n am = r at HST
        have HGE := hide hgE
        clear hgE
        obtain ⟨x1, x2⟩ := HX1.out.cells
        go_wp2_with fail
        refine HST.out.mono ?_
        intro e v0 hop
        obtain ⟨hb, AC, GC, aC, nC, cC, bC, dC, rfl, i1, i2, i3, i4, i5, i6⟩ := hop.all
        clear hop HST
        have HC1 := hide i1
        have HC2 := hide i2
        have HBC := hide i3
        have HWC := hide i6
        clear i1 i2 i3 i4 i5 i6 x1 x2
        have HBw_c5 := hide (HBw1.out.trans (hb.mono HBw1.out.size))
        have HX_c5 := hide (HX1.out.below (heap_lt HX1.out) hb)
        have HS_c5 := hide (HS1.out.below (heap_lt HS1.out) hb)
        have HP_c5 := hide (HP1.out.below' hb)
        have HG_c5 := hide (HG1.out.below' hb)
        clear HBw1 HX1 HS1 HP1 HG1 hb
        generalize hgl : GC.length = mC at *
        clear hgl
        rename_i KA hKA KB hKB
        have HKA := hide hKA
        clear hKA
        go_wp2
        generalize hW : v0.alloc (.cells #[.slice aC nC cC, .slice bC mC dC] 25) = V0
        have hb : Below v0.heap.size v0 V0 := hW ▸ (Below.refl _ _).alloc (Nat.le_refl _) _
        have HXC : Hid (BlkB V0 v0.heap.size (.slice aC nC cC) (.slice bC mC dC)) := hide (hW ▸ heap_alloc_new _ _)
        have HSC := hide HBw_c5.out.size
        have HNB0 := hide (And.intro (heap_lt HX_c5.out) (heap_lt HS_c5.out))
        have HBw_a6 := hide (HBw_c5.out.trans (hb.mono HBw_c5.out.size))
        have HX_a6 := hide (HX_c5.out.below (heap_lt HX_c5.out) hb)
        have HS_a6 := hide (HS_c5.out.below (heap_lt HS_c5.out) hb)
        have HP_a6 := hide (HP_c5.out.below' hb)
        have HG_a6 := hide (HG_c5.out.below' hb)
        have HC1_a6 := hide (HC1.out.below' hb)
        have HC2_a6 := hide (HC2.out.below' hb)
        clear HBw_c5 HX_c5 HS_c5 HP_c5 HG_c5 HC1 HC2 hb
        clear hW
        generalize v0.heap.size = BXC at *
        have HNB : Hid (w.heap.size ≠ BXC ∧ BS ≠ BXC) := hide ⟨by have := HNB0.out.1; omega, by have := HNB0.out.2; omega⟩
        clear HNB0
        refine HKA.out _ _ ?_
        clear HKA
        refine wp_seq_k (fun K4 hK4 => ?_)
        have HK4 := hide hK4
        clear hK4
        have HST := hide (void_any a len cap A P a2 len2 cap2 G n V0 HP_a6.out HG_a6.out HA.out)
        clear HGE
        generalize hgE : setE A G n 1 = r2 at HST
        have HGE := hide hgE
        clear hgE
        clear HC1_a6 HC2_a6 HBC HWC
        have hxl := heap_lt HXC.out
        obtain ⟨x1, x2⟩ := HX_a6.out.cells
        go_wp2_with fail
        refine (HST.out).mono ?_
        intro e v5 hop
        obtain ⟨hb, AF, GF, aF, nF, cF, bF, dF, vF, rfl, i1, i2, i3, i4, i5, i6, _⟩ := hop.all
        clear hop HST
        have HF1 := hide i1
        have HF2 := hide i2
        have HBF := hide i3
        have HWF := hide i6
        have HNF := hide (And.intro i4 i5)
        clear i1 i2 i3 i4 i5 i6
        clear x1 x2 
        have HBw_c7 := hide (HBw_a6.out.trans (hb.mono HBw_a6.out.size))
        have HX_c7 := hide (HX_a6.out.below (heap_lt HX_a6.out) hb)
        have HS_c7 := hide (HS_a6.out.below (heap_lt HS_a6.out) hb)
        have HP_c7 := hide (HP_a6.out.below' hb)
        have HG_c7 := hide (HG_a6.out.below' hb)
        have HXC_c7 := hide (HXC.out.below (heap_lt HXC.out) hb)
        clear HBw_a6 HX_a6 HS_a6 HP_a6 HG_a6 HXC hb
        generalize hgl : GF.length = mF at *
        clear hgl
        obtain ⟨x1, x2⟩ := HXC_c7.out.cells
        have xf := HXC_c7.out.froz
        go_wp2
        generalize hW : (v5.setCell ⟨BXC, 0, none⟩ (.slice aF nF cF)).setCell ⟨BXC, 1, none⟩ (.slice bF mF dF) = V5
        have HXC5 : Hid (BlkB V5 BXC (.slice aF nF cF) (.slice bF mF dF)) := hide (hW ▸ put2b_blk HXC_c7.out _ _)
        have HX5 : Hid (BlkB V5 w.heap.size (.slice a len cap) (.slice a2 len2 cap2)) := hide (hW ▸ (HX_c7.out.other HNB.out.1 _).other HNB.out.1 _)
        have HS5 : Hid (BlkP V5 BS ⟨s1, s2, s3, s4⟩) := hide (hW ▸ (HS_c7.out.other HNB.out.2 _).other HNB.out.2 _)
        have HBw5 : Hid (Below w.heap.size w V5) := hide (hW ▸ put2b_below HBw_c7.out HSC.out _ _)
        have HF15 : Hid (IsP V5 aF nF cF _) := hide (hW ▸ (HF1.out.off HNF.out.1 hxl _).off HNF.out.1 hxl _)
        have HF25 : Hid (IsG V5 bF mF dF _) := hide (hW ▸ (HF2.out.off HNF.out.2 hxl _).off HNF.out.2 hxl _)
        have HP5 : Hid (IsP V5 a len cap P) := hide (HP0.out.below' HBw5.out)
        have HG5 : Hid (IsG V5 a2 len2 cap2 G) := hide (HG0.out.below' HBw5.out)
        clear hW x1 x2 xf hxl HF1 HF2 HNF HXC_c7 HX_c7 HS_c7 HBw_c7 HP_c7 HG_c7
        refine HK4.out _ _ ?_
        clear HK4
        have HNX : Hid (Next A n o r2 AF GF) := hide (next_set HA.out HGE.out HWF.out)
        clear HGE HWF HSC HNB
        rcases HNX.out with ⟨hr, hh1, hh2⟩ | ⟨rfl, hn, hpo⟩
        · subst hh1
          subst hh2
          obtain rfl : 0 = nF := by have h := HF15.out.1; rw [a0_filter] at h; exact h
          obtain rfl : 0 = mF := HF25.out.1
          have hr1 : (r2 != 0) = true := by simpa using hr
          obtain ⟨x1, x2⟩ := HXC5.out.cells
          go_wp2
          go_roundw
          case rel => exact ⟨2, by omega, by simp, hide ⟨HBw5.out, HX5.out, HS5.out, HP5.out, HG5.out⟩⟩
          case measure => simp [intOf]
        · refine wp_seq_k (fun K5 hK5 => ?_)
          have HK5 := hide hK5
          clear hK5
          go_wp2
          refine HK5.out _ _ ?_
          clear HK5
          have HN := hide hn
          have HPO := hide hpo
          clear hn hpo
          obtain ⟨u1, u2, u3⟩ := pay_right HBF.out HN.out
          rcases hpp : payO AF n with ⟨p1, p2, p3, p4⟩
          rw [hpp] at u2 u3
          have v2 : ¬ p2 < 0 := by dsimp only at u2; omega
          have v3 : ¬ p3 < p4 := by dsimp only at u3; omega
          have HV := hide (And.intro v2 v3)
          clear u2 u3 v2 v3
          refine wp_seq_k (fun K6 hK6 => ?_)
          have HK6 := hide hK6
          clear hK6
          have HPY := hide (pay_all aF nF cF AF _ bF mF dF GF n V5 HF15.out HF25.out HBF.out)
          rw [u1, hpp] at HPY
          clear u1 hpp
          obtain ⟨x1, x2⟩ := HXC5.out.cells
          go_wp2_with fail
          refine (HPY.out).mono ?_
          rintro e v1 ⟨hb, rfl⟩
          clear HPY
          clear x1 x2 
          have HXC_c8 := hide (HXC5.out.below (heap_lt HXC5.out) hb)
          have HX_c8 := hide (HX5.out.below (heap_lt HX5.out) hb)
          have HS_c8 := hide (HS5.out.below (heap_lt HS5.out) hb)
          have HBw_c8 := hide (HBw5.out.trans (hb.mono HBw5.out.size))
          have HF1_c8 := hide (HF15.out.below' hb)
          have HF2_c8 := hide (HF25.out.below' hb)
          have HP_c8 := hide (HP5.out.below' hb)
          have HG_c8 := hide (HG5.out.below' hb)
          clear HXC5 HX5 HS5 HBw5 HF15 HF25 HP5 HG5 hb
          go_wp2
          generalize hW : v1.alloc (.cells #[.int .i64 p1, .int .i64 p2, .int .i64 p3, .int .i64 p4] 30) = V1
          have hb : Below v1.heap.size v1 V1 := hW ▸ (Below.refl _ _).alloc (Nat.le_refl _) _
          have HY : Hid (BlkP V1 v1.heap.size ⟨p1, p2, p3, p4⟩) := hide (hW ▸ heap_alloc_new _ _)
          have HXC_a9 := hide (HXC_c8.out.below (heap_lt HXC_c8.out) hb)
          have HX_a9 := hide (HX_c8.out.below (heap_lt HX_c8.out) hb)
          have HS_a9 := hide (HS_c8.out.below (heap_lt HS_c8.out) hb)
          have HBw_a9 := hide (HBw_c8.out.trans (hb.mono HBw_c8.out.size))
          have HF1_a9 := hide (HF1_c8.out.below' hb)
          have HF2_a9 := hide (HF2_c8.out.below' hb)
          have HP_a9 := hide (HP_c8.out.below' hb)
          have HG_a9 := hide (HG_c8.out.below' hb)
          clear HXC_c8 HX_c8 HS_c8 HBw_c8 HF1_c8 HF2_c8 HP_c8 HG_c8 hb
          clear hW
          generalize v1.heap.size = BY at *
          refine HK6.out _ _ ?_
          clear HK6
          refine wp_seq_k (fun K7 hK7 => ?_)
          have HK7 := hide hK7
          clear hK7
          rcases hqq : payO AF o with ⟨q1, q2, q3, q4⟩
          have HPY := hide (pay_all aF nF cF AF _ bF mF dF GF o V1 HF1_a9.out HF2_a9.out HBF.out)
          rw [HRB.out, hqq] at HPY
          have HQQ := hide hqq
          clear hqq
          obtain ⟨x1, x2⟩ := HXC_a9.out.cells
          go_wp2_with fail
          refine (HPY.out).mono ?_
          rintro e v2 ⟨hb, rfl⟩
          clear HPY
          clear x1 x2 
          have HXC_c10 := hide (HXC_a9.out.below (heap_lt HXC_a9.out) hb)
          have HX_c10 := hide (HX_a9.out.below (heap_lt HX_a9.out) hb)
          have HS_c10 := hide (HS_a9.out.below (heap_lt HS_a9.out) hb)
          have HBw_c10 := hide (HBw_a9.out.trans (hb.mono HBw_a9.out.size))
          have HF1_c10 := hide (HF1_a9.out.below' hb)
          have HF2_c10 := hide (HF2_a9.out.below' hb)
          have HP_c10 := hide (HP_a9.out.below' hb)
          have HG_c10 := hide (HG_a9.out.below' hb)
          have HY_c10 := hide (HY.out.below (heap_lt HY.out) hb)
          clear HXC_a9 HX_a9 HS_a9 HBw_a9 HF1_a9 HF2_a9 HP_a9 HG_a9 HY hb
          go_wp2
          generalize hW : v2.alloc (.cells #[.int .i64 q1, .int .i64 q2, .int .i64 q3, .int .i64 q4] 30) = V2
          have hb : Below v2.heap.size v2 V2 := hW ▸ (Below.refl _ _).alloc (Nat.le_refl _) _
          have HT : Hid (BlkP V2 v2.heap.size ⟨q1, q2, q3, q4⟩) := hide (hW ▸ heap_alloc_new _ _)
          have HXC_a11 := hide (HXC_c10.out.below (heap_lt HXC_c10.out) hb)
          have HX_a11 := hide (HX_c10.out.below (heap_lt HX_c10.out) hb)
          have HS_a11 := hide (HS_c10.out.below (heap_lt HS_c10.out) hb)
          have HBw_a11 := hide (HBw_c10.out.trans (hb.mono HBw_c10.out.size))
          have HF1_a11 := hide (HF1_c10.out.below' hb)
          have HF2_a11 := hide (HF2_c10.out.below' hb)
          have HP_a11 := hide (HP_c10.out.below' hb)
          have HG_a11 := hide (HG_c10.out.below' hb)
          have HY_a11 := hide (HY_c10.out.below (heap_lt HY_c10.out) hb)
          clear HXC_c10 HX_c10 HS_c10 HBw_c10 HF1_c10 HF2_c10 HP_c10 HG_c10 HY_c10 hb
          clear hW
          generalize v2.heap.size = BT at *
          refine HK7.out _ _ ?_
          clear HK7
          have HCK := hide (check_any aF nF cF _ bF mF dF GF V2 HF1_a11.out HF2_a11.out)
          obtain ⟨x1, x2⟩ := HXC_a11.out.cells
          go_wp2_with fail
          refine (HCK.out).mono ?_
          rintro e v3 ⟨⟨r0, rfl, hr⟩, hb⟩
          obtain rfl : r0 = 0 := by
            rcases hr with ⟨h, _⟩ | ⟨_, h⟩
            · exact h
            · exact absurd HBF.out.check h
          clear hr HCK
          clear x1 x2 
          have HXC_c12 := hide (HXC_a11.out.below (heap_lt HXC_a11.out) hb)
          have HX_c12 := hide (HX_a11.out.below (heap_lt HX_a11.out) hb)
          have HS_c12 := hide (HS_a11.out.below (heap_lt HS_a11.out) hb)
          have HBw_c12 := hide (HBw_a11.out.trans (hb.mono HBw_a11.out.size))
          have HF1_c12 := hide (HF1_a11.out.below' hb)
          have HF2_c12 := hide (HF2_a11.out.below' hb)
          have HP_c12 := hide (HP_a11.out.below' hb)
          have HG_c12 := hide (HG_a11.out.below' hb)
          have HY_c12 := hide (HY_a11.out.below (heap_lt HY_a11.out) hb)
          have HT_c12 := hide (HT.out.below (heap_lt HT.out) hb)
          clear HXC_a11 HX_a11 HS_a11 HBw_a11 HF1_a11 HF2_a11 HP_a11 HG_a11 HY_a11 HT hb
          have HBL := hide (balanced_any aF nF cF _ bF mF dF GF v3 HF1_c12.out HF2_c12.out HBF.out.check)
          obtain ⟨x1, x2⟩ := HXC_c12.out.cells
          go_wp2_with fail
          refine (HBL.out).mono ?_
          rintro e v4 ⟨hb, rfl⟩
          clear HBL
          clear x1 x2 
          have HXC_c13 := hide (HXC_c12.out.below (heap_lt HXC_c12.out) hb)
          have HX_c13 := hide (HX_c12.out.below (heap_lt HX_c12.out) hb)
          have HS_c13 := hide (HS_c12.out.below (heap_lt HS_c12.out) hb)
          have HBw_c13 := hide (HBw_c12.out.trans (hb.mono HBw_c12.out.size))
          have HF1_c13 := hide (HF1_c12.out.below' hb)
          have HF2_c13 := hide (HF2_c12.out.below' hb)
          have HP_c13 := hide (HP_c12.out.below' hb)
          have HG_c13 := hide (HG_c12.out.below' hb)
          have HY_c13 := hide (HY_c12.out.below (heap_lt HY_c12.out) hb)
          have HT_c13 := hide (HT_c12.out.below (heap_lt HT_c12.out) hb)
          clear HXC_c12 HX_c12 HS_c12 HBw_c12 HF1_c12 HF2_c12 HP_c12 HG_c12 HY_c12 HT_c12 hb
          obtain ⟨g1, g2, g3, g4⟩ := HY_c13.out.cells
          obtain ⟨t1, t2, t3, t4⟩ := HT_c13.out.cells
          obtain ⟨b1, b2, b3, b4⟩ := HS_c13.out.cells
          simp only [Nat.zero_add] at g1 g2 g3 g4 t1 t2 t3 t4 b1 b2 b3 b4
          have v2 := HV.out.1
          have v3 := HV.out.2
          by_cases hon : o = n
          · have hon1 : (o != n) = false := by simpa using hon
            clear hon
            go_wp2
            go_roundw
            case rel => exact ⟨2, by omega, by simp, hide ⟨HBw_c13.out, HX_c13.out, HS_c13.out, HP_c13.out, HG_c13.out⟩⟩
            case measure => simp [intOf]
          · have hon1 : (o != n) = true := by simpa using hon
            have heq := HQQ.out.symm.trans ((HPO.out hon).trans HPB.out)
            clear hon
            cases heq
            have u1 := equal30 s1 s2 s3 s4 s1 s2 s3 s4
            have u2 := eqg30
            have u3 : sameP ⟨s1, s2, s3, s4⟩ ⟨s1, s2, s3, s4⟩ = true := (sameP_iff _ _).2 rfl
            rw [u3] at u1
            clear u3
            go_wp2
            go_roundw
            case rel => exact ⟨2, by omega, by simp, hide ⟨HBw_c13.out, HX_c13.out, HS_c13.out, HP_c13.out, HG_c13.out⟩⟩
            case measure => simp [intOf]
      · have HST := hide (auth_any a len cap A P a2 len2 cap2 G n am wr HP1.out HG1.out HA.out)
        generalize hgE : authE A G n am = r at HST
        have HGE := hide hgE
        clear hgE
        obtain ⟨x1, x2⟩ := HX1.out.cells
        go_wp2_with fail
        refine HST.out.mono ?_
        intro e v0 hop
        obtain ⟨hb, AC, GC, aC, nC, cC, bC, dC, rfl, i1, i2, i3, i4, i5, i6⟩ := hop.all
        clear hop HST
        have HC1 := hide i1
        have HC2 := hide i2
        have HBC := hide i3
        have HWC := hide i6
        clear i1 i2 i3 i4 i5 i6 x1 x2
        have HBw_c5 := hide (HBw1.out.trans (hb.mono HBw1.out.size))
        have HX_c5 := hide (HX1.out.below (heap_lt HX1.out) hb)
        have HS_c5 := hide (HS1.out.below (heap_lt HS1.out) hb)
        have HP_c5 := hide (HP1.out.below' hb)
        have HG_c5 := hide (HG1.out.below' hb)
        clear HBw1 HX1 HS1 HP1 HG1 hb
        generalize hgl : GC.length = mC at *
        clear hgl
        rename_i KA hKA KB hKB
        have HKA := hide hKA
        clear hKA
        go_wp2
        generalize hW : v0.alloc (.cells #[.slice aC nC cC, .slice bC mC dC] 25) = V0
        have hb : Below v0.heap.size v0 V0 := hW ▸ (Below.refl _ _).alloc (Nat.le_refl _) _
        have HXC : Hid (BlkB V0 v0.heap.size (.slice aC nC cC) (.slice bC mC dC)) := hide (hW ▸ heap_alloc_new _ _)
        have HSC := hide HBw_c5.out.size
        have HNB0 := hide (And.intro (heap_lt HX_c5.out) (heap_lt HS_c5.out))
        have HBw_a6 := hide (HBw_c5.out.trans (hb.mono HBw_c5.out.size))
        have HX_a6 := hide (HX_c5.out.below (heap_lt HX_c5.out) hb)
        have HS_a6 := hide (HS_c5.out.below (heap_lt HS_c5.out) hb)
        have HP_a6 := hide (HP_c5.out.below' hb)
        have HG_a6 := hide (HG_c5.out.below' hb)
        have HC1_a6 := hide (HC1.out.below' hb)
        have HC2_a6 := hide (HC2.out.below' hb)
        clear HBw_c5 HX_c5 HS_c5 HP_c5 HG_c5 HC1 HC2 hb
        clear hW
        generalize v0.heap.size = BXC at *
        have HNB : Hid (w.heap.size ≠ BXC ∧ BS ≠ BXC) := hide ⟨by have := HNB0.out.1; omega, by have := HNB0.out.2; omega⟩
        clear HNB0
        refine HKA.out _ _ ?_
        clear HKA
        refine wp_seq_k (fun K4 hK4 => ?_)
        have HK4 := hide hK4
        clear hK4
        have HST := hide (capture_any a len cap A P a2 len2 cap2 G n V0 HP_a6.out HG_a6.out HA.out)
        clear HGE
        generalize hgE : setE A G n 3 = r2 at HST
        have HGE := hide hgE
        clear hgE
        clear HC1_a6 HC2_a6 HBC HWC
        have hxl := heap_lt HXC.out
        obtain ⟨x1, x2⟩ := HX_a6.out.cells
        go_wp2_with fail
        refine (HST.out).mono ?_
        intro e v5 hop
        obtain ⟨hb, AF, GF, aF, nF, cF, bF, dF, vF, rfl, i1, i2, i3, i4, i5, i6, _⟩ := hop.all
        clear hop HST
        have HF1 := hide i1
        have HF2 := hide i2
        have HBF := hide i3
        have HWF := hide i6
        have HNF := hide (And.intro i4 i5)
        clear i1 i2 i3 i4 i5 i6
        clear x1 x2 
        have HBw_c7 := hide (HBw_a6.out.trans (hb.mono HBw_a6.out.size))
        have HX_c7 := hide (HX_a6.out.below (heap_lt HX_a6.out) hb)
        have HS_c7 := hide (HS_a6.out.below (heap_lt HS_a6.out) hb)
        have HP_c7 := hide (HP_a6.out.below' hb)
        have HG_c7 := hide (HG_a6.out.below' hb)
        have HXC_c7 := hide (HXC.out.below (heap_lt HXC.out) hb)
        clear HBw_a6 HX_a6 HS_a6 HP_a6 HG_a6 HXC hb
        generalize hgl : GF.length = mF at *
        clear hgl
        obtain ⟨x1, x2⟩ := HXC_c7.out.cells
        have xf := HXC_c7.out.froz
        go_wp2
        generalize hW : (v5.setCell ⟨BXC, 0, none⟩ (.slice aF nF cF)).setCell ⟨BXC, 1, none⟩ (.slice bF mF dF) = V5
        have HXC5 : Hid (BlkB V5 BXC (.slice aF nF cF) (.slice bF mF dF)) := hide (hW ▸ put2b_blk HXC_c7.out _ _)
        have HX5 : Hid (BlkB V5 w.heap.size (.slice a len cap) (.slice a2 len2 cap2)) := hide (hW ▸ (HX_c7.out.other HNB.out.1 _).other HNB.out.1 _)
        have HS5 : Hid (BlkP V5 BS ⟨s1, s2, s3, s4⟩) := hide (hW ▸ (HS_c7.out.other HNB.out.2 _).other HNB.out.2 _)
        have HBw5 : Hid (Below w.heap.size w V5) := hide (hW ▸ put2b_below HBw_c7.out HSC.out _ _)
        have HF15 : Hid (IsP V5 aF nF cF _) := hide (hW ▸ (HF1.out.off HNF.out.1 hxl _).off HNF.out.1 hxl _)
        have HF25 : Hid (IsG V5 bF mF dF _) := hide (hW ▸ (HF2.out.off HNF.out.2 hxl _).off HNF.out.2 hxl _)
        have HP5 : Hid (IsP V5 a len cap P) := hide (HP0.out.below' HBw5.out)
        have HG5 : Hid (IsG V5 a2 len2 cap2 G) := hide (HG0.out.below' HBw5.out)
        clear hW x1 x2 xf hxl HF1 HF2 HNF HXC_c7 HX_c7 HS_c7 HBw_c7 HP_c7 HG_c7
        refine HK4.out _ _ ?_
        clear HK4
        have HNX : Hid (Next A n o r2 AF GF) := hide (next_set HA.out HGE.out HWF.out)
        clear HGE HWF HSC HNB
        rcases HNX.out with ⟨hr, hh1, hh2⟩ | ⟨rfl, hn, hpo⟩
        · subst hh1
          subst hh2
          obtain rfl : 0 = nF := by have h := HF15.out.1; rw [a0_filter] at h; exact h
          obtain rfl : 0 = mF := HF25.out.1
          have hr1 : (r2 != 0) = true := by simpa using hr
          obtain ⟨x1, x2⟩ := HXC5.out.cells
          go_wp2
          go_roundw
          case rel => exact ⟨3, by omega, by simp, hide ⟨HBw5.out, HX5.out, HS5.out, HP5.out, HG5.out⟩⟩
          case measure => simp [intOf]
        · refine wp_seq_k (fun K5 hK5 => ?_)
          have HK5 := hide hK5
          clear hK5
          go_wp2
          refine HK5.out _ _ ?_
          clear HK5
          have HN := hide hn
          have HPO := hide hpo
          clear hn hpo
          obtain ⟨u1, u2, u3⟩ := pay_right HBF.out HN.out
          rcases hpp : payO AF n with ⟨p1, p2, p3, p4⟩
          rw [hpp] at u2 u3
          have v2 : ¬ p2 < 0 := by dsimp only at u2; omega
          have v3 : ¬ p3 < p4 := by dsimp only at u3; omega
          have HV := hide (And.intro v2 v3)
          clear u2 u3 v2 v3
          refine wp_seq_k (fun K6 hK6 => ?_)
          have HK6 := hide hK6
          clear hK6
          have HPY := hide (pay_all aF nF cF AF _ bF mF dF GF n V5 HF15.out HF25.out HBF.out)
          rw [u1, hpp] at HPY
          clear u1 hpp
          obtain ⟨x1, x2⟩ := HXC5.out.cells
          go_wp2_with fail
          refine (HPY.out).mono ?_
          rintro e v1 ⟨hb, rfl⟩
          clear HPY
          clear x1 x2 
          have HXC_c8 := hide (HXC5.out.below (heap_lt HXC5.out) hb)
          have HX_c8 := hide (HX5.out.below (heap_lt HX5.out) hb)
          have HS_c8 := hide (HS5.out.below (heap_lt HS5.out) hb)
          have HBw_c8 := hide (HBw5.out.trans (hb.mono HBw5.out.size))
          have HF1_c8 := hide (HF15.out.below' hb)
          have HF2_c8 := hide (HF25.out.below' hb)
          have HP_c8 := hide (HP5.out.below' hb)
          have HG_c8 := hide (HG5.out.below' hb)
          clear HXC5 HX5 HS5 HBw5 HF15 HF25 HP5 HG5 hb
          go_wp2
          generalize hW : v1.alloc (.cells #[.int .i64 p1, .int .i64 p2, .int .i64 p3, .int .i64 p4] 30) = V1
          have hb : Below v1.heap.size v1 V1 := hW ▸ (Below.refl _ _).alloc (Nat.le_refl _) _
          have HY : Hid (BlkP V1 v1.heap.size ⟨p1, p2, p3, p4⟩) := hide (hW ▸ heap_alloc_new _ _)
          have HXC_a9 := hide (HXC_c8.out.below (heap_lt HXC_c8.out) hb)
          have HX_a9 := hide (HX_c8.out.below (heap_lt HX_c8.out) hb)
          have HS_a9 := hide (HS_c8.out.below (heap_lt HS_c8.out) hb)
          have HBw_a9 := hide (HBw_c8.out.trans (hb.mono HBw_c8.out.size))
          have HF1_a9 := hide (HF1_c8.out.below' hb)
          have HF2_a9 := hide (HF2_c8.out.below' hb)
          have HP_a9 := hide (HP_c8.out.below' hb)
          have HG_a9 := hide (HG_c8.out.below' hb)
          clear HXC_c8 HX_c8 HS_c8 HBw_c8 HF1_c8 HF2_c8 HP_c8 HG_c8 hb
          clear hW
          generalize v1.heap.size = BY at *
          refine HK6.out _ _ ?_
          clear HK6
          refine wp_seq_k (fun K7 hK7 => ?_)
          have HK7 := hide hK7
          clear hK7
          rcases hqq : payO AF o with ⟨q1, q2, q3, q4⟩
          have HPY := hide (pay_all aF nF cF AF _ bF mF dF GF o V1 HF1_a9.out HF2_a9.out HBF.out)
          rw [HRB.out, hqq] at HPY
          have HQQ := hide hqq
          clear hqq
          obtain ⟨x1, x2⟩ := HXC_a9.out.cells
          go_wp2_with fail
          refine (HPY.out).mono ?_
          rintro e v2 ⟨hb, rfl⟩
          clear HPY
          clear x1 x2 
          have HXC_c10 := hide (HXC_a9.out.below (heap_lt HXC_a9.out) hb)
          have HX_c10 := hide (HX_a9.out.below (heap_lt HX_a9.out) hb)
          have HS_c10 := hide (HS_a9.out.below (heap_lt HS_a9.out) hb)
          have HBw_c10 := hide (HBw_a9.out.trans (hb.mono HBw_a9.out.size))
          have HF1_c10 := hide (HF1_a9.out.below' hb)
          have HF2_c10 := hide (HF2_a9.out.below' hb)
          have HP_c10 := hide (HP_a9.out.below' hb)
          have HG_c10 := hide (HG_a9.out.below' hb)
          have HY_c10 := hide (HY.out.below (heap_lt HY.out) hb)
          clear HXC_a9 HX_a9 HS_a9 HBw_a9 HF1_a9 HF2_a9 HP_a9 HG_a9 HY hb
          go_wp2
          generalize hW : v2.alloc (.cells #[.int .i64 q1, .int .i64 q2, .int .i64 q3, .int .i64 q4] 30) = V2
          have hb : Below v2.heap.size v2 V2 := hW ▸ (Below.refl _ _).alloc (Nat.le_refl _) _
          have HT : Hid (BlkP V2 v2.heap.size ⟨q1, q2, q3, q4⟩) := hide (hW ▸ heap_alloc_new _ _)
          have HXC_a11 := hide (HXC_c10.out.below (heap_lt HXC_c10.out) hb)
          have HX_a11 := hide (HX_c10.out.below (heap_lt HX_c10.out) hb)
          have HS_a11 := hide (HS_c10.out.below (heap_lt HS_c10.out) hb)
          have HBw_a11 := hide (HBw_c10.out.trans (hb.mono HBw_c10.out.size))
          have HF1_a11 := hide (HF1_c10.out.below' hb)
          have HF2_a11 := hide (HF2_c10.out.below' hb)
          have HP_a11 := hide (HP_c10.out.below' hb)
          have HG_a11 := hide (HG_c10.out.below' hb)
          have HY_a11 := hide (HY_c10.out.below (heap_lt HY_c10.out) hb)
          clear HXC_c10 HX_c10 HS_c10 HBw_c10 HF1_c10 HF2_c10 HP_c10 HG_c10 HY_c10 hb
          clear hW
          generalize v2.heap.size = BT at *
          refine HK7.out _ _ ?_
          clear HK7
          have HCK := hide (check_any aF nF cF _ bF mF dF GF V2 HF1_a11.out HF2_a11.out)
          obtain ⟨x1, x2⟩ := HXC_a11.out.cells
          go_wp2_with fail
          refine (HCK.out).mono ?_
          rintro e v3 ⟨⟨r0, rfl, hr⟩, hb⟩
          obtain rfl : r0 = 0 := by
            rcases hr with ⟨h, _⟩ | ⟨_, h⟩
            · exact h
            · exact absurd HBF.out.check h
          clear hr HCK
          clear x1 x2 
          have HXC_c12 := hide (HXC_a11.out.below (heap_lt HXC_a11.out) hb)
          have HX_c12 := hide (HX_a11.out.below (heap_lt HX_a11.out) hb)
          have HS_c12 := hide (HS_a11.out.below (heap_lt HS_a11.out) hb)
          have HBw_c12 := hide (HBw_a11.out.trans (hb.mono HBw_a11.out.size))
          have HF1_c12 := hide (HF1_a11.out.below' hb)
          have HF2_c12 := hide (HF2_a11.out.below' hb)
          have HP_c12 := hide (HP_a11.out.below' hb)
          have HG_c12 := hide (HG_a11.out.below' hb)
          have HY_c12 := hide (HY_a11.out.below (heap_lt HY_a11.out) hb)
          have HT_c12 := hide (HT.out.below (heap_lt HT.out) hb)
          clear HXC_a11 HX_a11 HS_a11 HBw_a11 HF1_a11 HF2_a11 HP_a11 HG_a11 HY_a11 HT hb
          have HBL := hide (balanced_any aF nF cF _ bF mF dF GF v3 HF1_c12.out HF2_c12.out HBF.out.check)
          obtain ⟨x1, x2⟩ := HXC_c12.out.cells
          go_wp2_with fail
          refine (HBL.out).mono ?_
          rintro e v4 ⟨hb, rfl⟩
          clear HBL
          clear x1 x2 
          have HXC_c13 := hide (HXC_c12.out.below (heap_lt HXC_c12.out) hb)
          have HX_c13 := hide (HX_c12.out.below (heap_lt HX_c12.out) hb)
          have HS_c13 := hide (HS_c12.out.below (heap_lt HS_c12.out) hb)
          have HBw_c13 := hide (HBw_c12.out.trans (hb.mono HBw_c12.out.size))
          have HF1_c13 := hide (HF1_c12.out.below' hb)
          have HF2_c13 := hide (HF2_c12.out.below' hb)
          have HP_c13 := hide (HP_c12.out.below' hb)
          have HG_c13 := hide (HG_c12.out.below' hb)
          have HY_c13 := hide (HY_c12.out.below (heap_lt HY_c12.out) hb)
          have HT_c13 := hide (HT_c12.out.below (heap_lt HT_c12.out) hb)
          clear HXC_c12 HX_c12 HS_c12 HBw_c12 HF1_c12 HF2_c12 HP_c12 HG_c12 HY_c12 HT_c12 hb
          obtain ⟨g1, g2, g3, g4⟩ := HY_c13.out.cells
          obtain ⟨t1, t2, t3, t4⟩ := HT_c13.out.cells
          obtain ⟨b1, b2, b3, b4⟩ := HS_c13.out.cells
          simp only [Nat.zero_add] at g1 g2 g3 g4 t1 t2 t3 t4 b1 b2 b3 b4
          have v2 := HV.out.1
          have v3 := HV.out.2
          by_cases hon : o = n
          · have hon1 : (o != n) = false := by simpa using hon
            clear hon
            go_wp2
            go_roundw
            case rel => exact ⟨3, by omega, by simp, hide ⟨HBw_c13.out, HX_c13.out, HS_c13.out, HP_c13.out, HG_c13.out⟩⟩
            case measure => simp [intOf]
          · have hon1 : (o != n) = true := by simpa using hon
            have heq := HQQ.out.symm.trans ((HPO.out hon).trans HPB.out)
            clear hon
            cases heq
            have u1 := equal30 s1 s2 s3 s4 s1 s2 s3 s4
            have u2 := eqg30
            have u3 : sameP ⟨s1, s2, s3, s4⟩ ⟨s1, s2, s3, s4⟩ = true := (sameP_iff _ _).2 rfl
            rw [u3] at u1
            clear u3
            go_wp2
            go_roundw
            case rel => exact ⟨3, by omega, by simp, hide ⟨HBw_c13.out, HX_c13.out, HS_c13.out, HP_c13.out, HG_c13.out⟩⟩
            case measure => simp [intOf]
      · have HST := hide (auth_any a len cap A P a2 len2 cap2 G n am wr HP1.out HG1.out HA.out)
        generalize hgE : authE A G n am = r at HST
        have HGE := hide hgE
        clear hgE
        obtain ⟨x1, x2⟩ := HX1.out.cells
        go_wp2_with fail
        refine HST.out.mono ?_
        intro e v0 hop
        obtain ⟨hb, AC, GC, aC, nC, cC, bC, dC, rfl, i1, i2, i3, i4, i5, i6⟩ := hop.all
        clear hop HST
        have HC1 := hide i1
        have HC2 := hide i2
        have HBC := hide i3
        have HWC := hide i6
        clear i1 i2 i3 i4 i5 i6 x1 x2
        have HBw_c5 := hide (HBw1.out.trans (hb.mono HBw1.out.size))
        have HX_c5 := hide (HX1.out.below (heap_lt HX1.out) hb)
        have HS_c5 := hide (HS1.out.below (heap_lt HS1.out) hb)
        have HP_c5 := hide (HP1.out.below' hb)
        have HG_c5 := hide (HG1.out.below' hb)
        clear HBw1 HX1 HS1 HP1 HG1 hb
        generalize hgl : GC.length = mC at *
        clear hgl
        rename_i KA hKA KB hKB
        have HKA := hide hKA
        clear hKA
        go_wp2
        generalize hW : v0.alloc (.cells #[.slice aC nC cC, .slice bC mC dC] 25) = V0
        have hb : Below v0.heap.size v0 V0 := hW ▸ (Below.refl _ _).alloc (Nat.le_refl _) _
        have HXC : Hid (BlkB V0 v0.heap.size (.slice aC nC cC) (.slice bC mC dC)) := hide (hW ▸ heap_alloc_new _ _)
        have HSC := hide HBw_c5.out.size
        have HNB0 := hide (And.intro (heap_lt HX_c5.out) (heap_lt HS_c5.out))
        have HBw_a6 := hide (HBw_c5.out.trans (hb.mono HBw_c5.out.size))
        have HX_a6 := hide (HX_c5.out.below (heap_lt HX_c5.out) hb)
        have HS_a6 := hide (HS_c5.out.below (heap_lt HS_c5.out) hb)
        have HP_a6 := hide (HP_c5.out.below' hb)
        have HG_a6 := hide (HG_c5.out.below' hb)
        have HC1_a6 := hide (HC1.out.below' hb)
        have HC2_a6 := hide (HC2.out.below' hb)
        clear HBw_c5 HX_c5 HS_c5 HP_c5 HG_c5 HC1 HC2 hb
        clear hW
        generalize v0.heap.size = BXC at *
        have HNB : Hid (w.heap.size ≠ BXC ∧ BS ≠ BXC) := hide ⟨by have := HNB0.out.1; omega, by have := HNB0.out.2; omega⟩
        clear HNB0
        refine HKA.out _ _ ?_
        clear HKA
        refine wp_seq_k (fun K4 hK4 => ?_)
        have HK4 := hide hK4
        clear hK4
        have HST := hide (refund_any a len cap A P a2 len2 cap2 G n am V0 HP_a6.out HG_a6.out HA.out)
        clear HGE
        generalize hgE : refE A G n am = r2 at HST
        have HGE := hide hgE
        clear hgE
        clear HC1_a6 HC2_a6 HBC HWC
        have hxl := heap_lt HXC.out
        obtain ⟨x1, x2⟩ := HX_a6.out.cells
        go_wp2_with fail
        refine (HST.out).mono ?_
        intro e v5 hop
        obtain ⟨hb, AF, GF, aF, nF, cF, bF, dF, rfl, i1, i2, i3, i4, i5, i6⟩ := hop.all
        clear hop HST
        have HF1 := hide i1
        have HF2 := hide i2
        have HBF := hide i3
        have HWF := hide i6
        have HNF := hide (And.intro i4 i5)
        clear i1 i2 i3 i4 i5 i6
        clear x1 x2 
        have HBw_c7 := hide (HBw_a6.out.trans (hb.mono HBw_a6.out.size))
        have HX_c7 := hide (HX_a6.out.below (heap_lt HX_a6.out) hb)
        have HS_c7 := hide (HS_a6.out.below (heap_lt HS_a6.out) hb)
        have HP_c7 := hide (HP_a6.out.below' hb)
        have HG_c7 := hide (HG_a6.out.below' hb)
        have HXC_c7 := hide (HXC.out.below (heap_lt HXC.out) hb)
        clear HBw_a6 HX_a6 HS_a6 HP_a6 HG_a6 HXC hb
        generalize hgl : GF.length = mF at *
        clear hgl
        obtain ⟨x1, x2⟩ := HXC_c7.out.cells
        have xf := HXC_c7.out.froz
        go_wp2
        generalize hW : (v5.setCell ⟨BXC, 0, none⟩ (.slice aF nF cF)).setCell ⟨BXC, 1, none⟩ (.slice bF mF dF) = V5
        have HXC5 : Hid (BlkB V5 BXC (.slice aF nF cF) (.slice bF mF dF)) := hide (hW ▸ put2b_blk HXC_c7.out _ _)
        have HX5 : Hid (BlkB V5 w.heap.size (.slice a len cap) (.slice a2 len2 cap2)) := hide (hW ▸ (HX_c7.out.other HNB.out.1 _).other HNB.out.1 _)
        have HS5 : Hid (BlkP V5 BS ⟨s1, s2, s3, s4⟩) := hide (hW ▸ (HS_c7.out.other HNB.out.2 _).other HNB.out.2 _)
        have HBw5 : Hid (Below w.heap.size w V5) := hide (hW ▸ put2b_below HBw_c7.out HSC.out _ _)
        have HF15 : Hid (IsP V5 aF nF cF _) := hide (hW ▸ (HF1.out.off HNF.out.1 hxl _).off HNF.out.1 hxl _)
        have HF25 : Hid (IsG V5 bF mF dF _) := hide (hW ▸ (HF2.out.off HNF.out.2 hxl _).off HNF.out.2 hxl _)
        have HP5 : Hid (IsP V5 a len cap P) := hide (HP0.out.below' HBw5.out)
        have HG5 : Hid (IsG V5 a2 len2 cap2 G) := hide (HG0.out.below' HBw5.out)
        clear hW x1 x2 xf hxl HF1 HF2 HNF HXC_c7 HX_c7 HS_c7 HBw_c7 HP_c7 HG_c7
        refine HK4.out _ _ ?_
        clear HK4
        have HNX : Hid (Next A n o r2 AF GF) := hide (next_ref HA.out HGE.out HWF.out)
        clear HGE HWF HSC HNB
        rcases HNX.out with ⟨hr, hh1, hh2⟩ | ⟨rfl, hn, hpo⟩
        · subst hh1
          subst hh2
          obtain rfl : 0 = nF := by have h := HF15.out.1; rw [a0_filter] at h; exact h
          obtain rfl : 0 = mF := HF25.out.1
          have hr1 : (r2 != 0) = true := by simpa using hr
          obtain ⟨x1, x2⟩ := HXC5.out.cells
          go_wp2
          go_roundw
          case rel => exact ⟨4, by omega, by simp, hide ⟨HBw5.out, HX5.out, HS5.out, HP5.out, HG5.out⟩⟩
          case measure => simp [intOf]
        · refine wp_seq_k (fun K5 hK5 => ?_)
          have HK5 := hide hK5
          clear hK5
          go_wp2
          refine HK5.out _ _ ?_
          clear HK5
          have HN := hide hn
          have HPO := hide hpo
          clear hn hpo
          obtain ⟨u1, u2, u3⟩ := pay_right HBF.out HN.out
          rcases hpp : payO AF n with ⟨p1, p2, p3, p4⟩
          rw [hpp] at u2 u3
          have v2 : ¬ p2 < 0 := by dsimp only at u2; omega
          have v3 : ¬ p3 < p4 := by dsimp only at u3; omega
          have HV := hide (And.intro v2 v3)
          clear u2 u3 v2 v3
          refine wp_seq_k (fun K6 hK6 => ?_)
          have HK6 := hide hK6
          clear hK6
          have HPY := hide (pay_all aF nF cF AF _ bF mF dF GF n V5 HF15.out HF25.out HBF.out)
          rw [u1, hpp] at HPY
          clear u1 hpp
          obtain ⟨x1, x2⟩ := HXC5.out.cells
          go_wp2_with fail
          refine (HPY.out).mono ?_
          rintro e v1 ⟨hb, rfl⟩
          clear HPY
          clear x1 x2 
          have HXC_c8 := hide (HXC5.out.below (heap_lt HXC5.out) hb)
          have HX_c8 := hide (HX5.out.below (heap_lt HX5.out) hb)
          have HS_c8 := hide (HS5.out.below (heap_lt HS5.out) hb)
          have HBw_c8 := hide (HBw5.out.trans (hb.mono HBw5.out.size))
          have HF1_c8 := hide (HF15.out.below' hb)
          have HF2_c8 := hide (HF25.out.below' hb)
          have HP_c8 := hide (HP5.out.below' hb)
          have HG_c8 := hide (HG5.out.below' hb)
          clear HXC5 HX5 HS5 HBw5 HF15 HF25 HP5 HG5 hb
          go_wp2
          generalize hW : v1.alloc (.cells #[.int .i64 p1, .int .i64 p2, .int .i64 p3, .int .i64 p4] 30) = V1
          have hb : Below v1.heap.size v1 V1 := hW ▸ (Below.refl _ _).alloc (Nat.le_refl _) _
          have HY : Hid (BlkP V1 v1.heap.size ⟨p1, p2, p3, p4⟩) := hide (hW ▸ heap_alloc_new _ _)
          have HXC_a9 := hide (HXC_c8.out.below (heap_lt HXC_c8.out) hb)
          have HX_a9 := hide (HX_c8.out.below (heap_lt HX_c8.out) hb)
          have HS_a9 := hide (HS_c8.out.below (heap_lt HS_c8.out) hb)
          have HBw_a9 := hide (HBw_c8.out.trans (hb.mono HBw_c8.out.size))
          have HF1_a9 := hide (HF1_c8.out.below' hb)
          have HF2_a9 := hide (HF2_c8.out.below' hb)
          have HP_a9 := hide (HP_c8.out.below' hb)
          have HG_a9 := hide (HG_c8.out.below' hb)
          clear HXC_c8 HX_c8 HS_c8 HBw_c8 HF1_c8 HF2_c8 HP_c8 HG_c8 hb
          clear hW
          generalize v1.heap.size = BY at *
          refine HK6.out _ _ ?_
          clear HK6
          refine wp_seq_k (fun K7 hK7 => ?_)
          have HK7 := hide hK7
          clear hK7
          rcases hqq : payO AF o with ⟨q1, q2, q3, q4⟩
          have HPY := hide (pay_all aF nF cF AF _ bF mF dF GF o V1 HF1_a9.out HF2_a9.out HBF.out)
          rw [HRB.out, hqq] at HPY
          have HQQ := hide hqq
          clear hqq
          obtain ⟨x1, x2⟩ := HXC_a9.out.cells
          go_wp2_with fail
          refine (HPY.out).mono ?_
          rintro e v2 ⟨hb, rfl⟩
          clear HPY
          clear x1 x2 
          have HXC_c10 := hide (HXC_a9.out.below (heap_lt HXC_a9.out) hb)
          have HX_c10 := hide (HX_a9.out.below (heap_lt HX_a9.out) hb)
          have HS_c10 := hide (HS_a9.out.below (heap_lt HS_a9.out) hb)
          have HBw_c10 := hide (HBw_a9.out.trans (hb.mono HBw_a9.out.size))
          have HF1_c10 := hide (HF1_a9.out.below' hb)
          have HF2_c10 := hide (HF2_a9.out.below' hb)
          have HP_c10 := hide (HP_a9.out.below' hb)
          have HG_c10 := hide (HG_a9.out.below' hb)
          have HY_c10 := hide (HY.out.below (heap_lt HY.out) hb)
          clear HXC_a9 HX_a9 HS_a9 HBw_a9 HF1_a9 HF2_a9 HP_a9 HG_a9 HY hb
          go_wp2
          generalize hW : v2.alloc (.cells #[.int .i64 q1, .int .i64 q2, .int .i64 q3, .int .i64 q4] 30) = V2
          have hb : Below v2.heap.size v2 V2 := hW ▸ (Below.refl _ _).alloc (Nat.le_refl _) _
          have HT : Hid (BlkP V2 v2.heap.size ⟨q1, q2, q3, q4⟩) := hide (hW ▸ heap_alloc_new _ _)
          have HXC_a11 := hide (HXC_c10.out.below (heap_lt HXC_c10.out) hb)
          have HX_a11 := hide (HX_c10.out.below (heap_lt HX_c10.out) hb)
          have HS_a11 := hide (HS_c10.out.below (heap_lt HS_c10.out) hb)
          have HBw_a11 := hide (HBw_c10.out.trans (hb.mono HBw_c10.out.size))
          have HF1_a11 := hide (HF1_c10.out.below' hb)
          have HF2_a11 := hide (HF2_c10.out.below' hb)
          have HP_a11 := hide (HP_c10.out.below' hb)
          have HG_a11 := hide (HG_c10.out.below' hb)
          have HY_a11 := hide (HY_c10.out.below (heap_lt HY_c10.out) hb)
          clear HXC_c10 HX_c10 HS_c10 HBw_c10 HF1_c10 HF2_c10 HP_c10 HG_c10 HY_c10 hb
          clear hW
          generalize v2.heap.size = BT at *
          refine HK7.out _ _ ?_
          clear HK7
          have HCK := hide (check_any aF nF cF _ bF mF dF GF V2 HF1_a11.out HF2_a11.out)
          obtain ⟨x1, x2⟩ := HXC_a11.out.cells
          go_wp2_with fail
          refine (HCK.out).mono ?_
          rintro e v3 ⟨⟨r0, rfl, hr⟩, hb⟩
          obtain rfl : r0 = 0 := by
            rcases hr with ⟨h, _⟩ | ⟨_, h⟩
            · exact h
            · exact absurd HBF.out.check h
          clear hr HCK
          clear x1 x2 
          have HXC_c12 := hide (HXC_a11.out.below (heap_lt HXC_a11.out) hb)
          have HX_c12 := hide (HX_a11.out.below (heap_lt HX_a11.out) hb)
          have HS_c12 := hide (HS_a11.out.below (heap_lt HS_a11.out) hb)
          have HBw_c12 := hide (HBw_a11.out.trans (hb.mono HBw_a11.out.size))
          have HF1_c12 := hide (HF1_a11.out.below' hb)
          have HF2_c12 := hide (HF2_a11.out.below' hb)
          have HP_c12 := hide (HP_a11.out.below' hb)
          have HG_c12 := hide (HG_a11.out.below' hb)
          have HY_c12 := hide (HY_a11.out.below (heap_lt HY_a11.out) hb)
          have HT_c12 := hide (HT.out.below (heap_lt HT.out) hb)
          clear HXC_a11 HX_a11 HS_a11 HBw_a11 HF1_a11 HF2_a11 HP_a11 HG_a11 HY_a11 HT hb
          have HBL := hide (balanced_any aF nF cF _ bF mF dF GF v3 HF1_c12.out HF2_c12.out HBF.out.check)
          obtain ⟨x1, x2⟩ := HXC_c12.out.cells
          go_wp2_with fail
          refine (HBL.out).mono ?_
          rintro e v4 ⟨hb, rfl⟩
          clear HBL
          clear x1 x2 
          have HXC_c13 := hide (HXC_c12.out.below (heap_lt HXC_c12.out) hb)
          have HX_c13 := hide (HX_c12.out.below (heap_lt HX_c12.out) hb)
          have HS_c13 := hide (HS_c12.out.below (heap_lt HS_c12.out) hb)
          have HBw_c13 := hide (HBw_c12.out.trans (hb.mono HBw_c12.out.size))
          have HF1_c13 := hide (HF1_c12.out.below' hb)
          have HF2_c13 := hide (HF2_c12.out.below' hb)
          have HP_c13 := hide (HP_c12.out.below' hb)
          have HG_c13 := hide (HG_c12.out.below' hb)
          have HY_c13 := hide (HY_c12.out.below (heap_lt HY_c12.out) hb)
          have HT_c13 := hide (HT_c12.out.below (heap_lt HT_c12.out) hb)
          clear HXC_c12 HX_c12 HS_c12 HBw_c12 HF1_c12 HF2_c12 HP_c12 HG_c12 HY_c12 HT_c12 hb
          obtain ⟨g1, g2, g3, g4⟩ := HY_c13.out.cells
          obtain ⟨t1, t2, t3, t4⟩ := HT_c13.out.cells
          obtain ⟨b1, b2, b3, b4⟩ := HS_c13.out.cells
          simp only [Nat.zero_add] at g1 g2 g3 g4 t1 t2 t3 t4 b1 b2 b3 b4
          have v2 := HV.out.1
          have v3 := HV.out.2
          by_cases hon : o = n
          · have hon1 : (o != n) = false := by simpa using hon
            clear hon
            go_wp2
            go_roundw
            case rel => exact ⟨4, by omega, by simp, hide ⟨HBw_c13.out, HX_c13.out, HS_c13.out, HP_c13.out, HG_c13.out⟩⟩
            case measure => simp [intOf]
          · have hon1 : (o != n) = true := by simpa using hon
            have heq := HQQ.out.symm.trans ((HPO.out hon).trans HPB.out)
            clear hon
            cases heq
            have u1 := equal30 s1 s2 s3 s4 s1 s2 s3 s4
            have u2 := eqg30
            have u3 : sameP ⟨s1, s2, s3, s4⟩ ⟨s1, s2, s3, s4⟩ = true := (sameP_iff _ _).2 rfl
            rw [u3] at u1
            clear u3
            go_wp2
            go_roundw
            case rel => exact ⟨4, by omega, by simp, hide ⟨HBw_c13.out, HX_c13.out, HS_c13.out, HP_c13.out, HG_c13.out⟩⟩
            case measure => simp [intOf]
      · have HBL := hide (balanced_any a len cap P a2 len2 cap2 G wr HP1.out HG1.out HA.out.check)
        obtain ⟨x1, x2⟩ := HX1.out.cells
        go_wp2_with fail
        refine (HBL.out).mono ?_
        rintro e v4 ⟨hb, rfl⟩
        clear HBL
        clear x1 x2 
        have HBw_c5 := hide (HBw1.out.trans (hb.mono HBw1.out.size))
        have HX_c5 := hide (HX1.out.below (heap_lt HX1.out) hb)
        have HS_c5 := hide (HS1.out.below (heap_lt HS1.out) hb)
        have HP_c5 := hide (HP1.out.below' hb)
        have HG_c5 := hide (HG1.out.below' hb)
        clear HBw1 HX1 HS1 HP1 HG1 hb
        go_wp2
        go_ret
        exact ⟨rfl, HBw_c5.out⟩
  · go_wp2
    go_ret
    exact ⟨rfl, HBw_c2.out⟩
end Go.Proofs.Ytoaekgacfnmmmaa
