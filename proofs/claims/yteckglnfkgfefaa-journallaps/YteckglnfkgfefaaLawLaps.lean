/- JournalLaps, walked -/
import Derived.Test.YteckglnfkgfefaaJoO
import Derived.Test.YteckglnfkgfefaaJoP
import Derived.Test.YteckglnfkgfefaaJoQ
import Derived.Test.YteckglnfkgfefaaJoW
namespace Go.Proofs.Yteckglnfkgfefaa
open Go.RowKit Cod
set_option maxRecDepth 40000
set_option linter.unusedSimpArgs false
set_option linter.unusedVariables false
/-- between two batches: all is dropped -/
def LpI (w W : World) (gj g gs b count k : Nat) : Prop :=
  ∃ j st, Lv count j st [] ∧ Jd w W gj g gs b count j st ∧ j.first = 0 ∧ j.count = count ∧ j.frm = j.nxt ∧ st.wr + 1 = j.nxt ∧ j.nxt ≤ 1 + 1024 * k
theorem room_all {f c n : Nat} {b : Bool} : (Jn.mk f c n n b).room = c := by
  unfold Jn.room
  dsimp only
  omega
theorem Lv.one {n : Nat} {f c x : Nat} {b : Bool} {st : St} {rs : List ByteArray} {L : Nat} (h : Lv n ⟨f, c, x, x + L, b⟩ st ([] ++ [rs])) (hn : x + L ≤ 4611686018427390000) : Run ((Jn.mk f c x (x + L) b).rd st) (x + c) x [rs] (x + L) := h.all hn
set_option maxHeartbeats 4000000 in
theorem lapsWalk (C : Int) (a : Option Addr) (len cap : Nat) (bs : List (List ByteArray)) (w : World) (hC : -9223372036854775808 ≤ C ∧ C ≤ 9223372036854775807) (h : IsSS w a len cap bs) (hlw : len ≤ 140737488355328) :
    Calls Try.prog 8 #[.int .i64 C, .slice a len cap] w fun e w' => e = .returned (.bool true) ∧ Below w.heap.size w w' := by
  have HT := hide h
  clear h
  by_cases hc : 1 ≤ C ∧ C ≤ 1024
  · obtain ⟨count, rfl⟩ := Int.eq_ofNat_of_zero_le (show 0 ≤ C by omega)
    have h0 : 0 < count := by omega
    have h1 : count ≤ 1024 := by omega
    clear hC hc
    go_enter Try.func8, Try.ntmps8
    go_wp2_with fail
    refine (lives_any w).mono ?_
    rintro e w1 ⟨rfl, hb1⟩
    have HB1 := hide hb1
    clear hb1
    go_wp2_with fail
    refine (new_jd w1 count h0 h1).mono ?_
    rintro e w2 ⟨g, gs, b, rfl, hd2, hs2, hb2⟩
    have HOP := hide (open_first w w2 g gs b count hd2 (fun i hi => Nat.le_trans HB1.out.size (hs2 i hi)) (HB1.out.trans (hb2.mono HB1.out.size)) h0 h1)
    clear hd2 hs2 hb2
    go_wp2_with fail
    refine HOP.out.mono ?_
    rintro e w3 ⟨gj, v3, rfl, hj3⟩
    have HI3 : Hid (LpI w w3 gj g gs b count 0) := hide ⟨_, _, Lv.new h0 (Nat.le_refl _) h1, hj3, rfl, rfl, rfl, rfl, by show 1 ≤ 1 + 1024 * 0; omega⟩
    clear hj3 HOP HB1
    go_wp2_with fail
    go_loopw [41] (fun i wr => ∃ k : Nat, k ≤ len ∧ i = .int .i64 (k : Nat) ∧ LpI w wr gj g gs b count k) (fun i _ => len - (intOf i).toNat)
    case atStart => exact ⟨0, Nat.zero_le _, rfl, HI3.out⟩
    case round =>
      obtain ⟨k, hk, rfl, ⟨jf, jc, jr, nx, fl⟩, st, hlv, hjd, hj0, hjc, hj1, hwr, hnx⟩ := hrel
      dsimp only at hj0 hjc hj1 hwr hnx
      subst hj0
      subst hjc
      subst hj1
      have HLV := hide hlv
      have HJD := hide hjd
      have HWR := hide hwr
      have HNX := hide hnx
      have hx0 := hlv.f0
      dsimp only at hx0
      clear hlv hjd hwr HI3
      by_cases hkl : k < len
      · have hnb : jr + 1024 ≤ 2305843009213693952 := by omega
        rcases HT.out.2.2.2 with hz | ⟨bb, off, rfl, hlt, hc⟩
        · omega
        obtain ⟨a', c', hck0, hI⟩ := hc k hkl
        have hck := (HJD.out.b.cell (p := ⟨bb, off + k, none⟩) hlt).trans hck0
        obtain ⟨rs, hrs⟩ : ∃ rs, rs = bs.getD k [] := ⟨_, rfl⟩
        rw [← hrs] at hck hI
        have HI := hide hI
        clear hc hI hrs hck0 hnx
        have ht := HLV.out.tries (rs := rs) (by show jr ≤ _; omega)
        have hL1 := fr_pos rs 1
        go_wp2_with fail
        refine (next_any wr gj g _ HJD.out.j).mono ?_
        rintro e w4 ⟨rfl, rfl⟩
        rcases ht with ⟨hok, hLr, st', hap, hlv', hwr'⟩ | ⟨hno, E, hE, hap⟩
        · have HAP := hide (HJD.out.append (HI.out.below HJD.out.b) (by have := HWR.out; have := HNX.out; omega) hap)
          have HLV' := hide hlv'
          have HWR' := hide hwr'
          rw [room_all] at hLr
          obtain ⟨L, hL⟩ : ∃ L, L = (frL rs 1).length := ⟨_, rfl⟩
          rw [← hL] at HAP HLV' HWR' hLr hL1
          try dsimp only at HAP
          try dsimp only at HLV'
          have hrn := HLV'.out.one (by omega)
          obtain ⟨t, ht⟩ : ∃ t, t = jr + L := ⟨_, rfl⟩
          have HTL := hide ht
          have htb : t ≤ 2305843009213693952 := by omega
          have ht1 : 1 ≤ t := by omega
          rw [← ht] at HAP HLV' hrn
          clear hok hap hlv' hwr' hL ht
          go_wp2_with fail
          refine HAP.out.mono ?_
          rintro e w5 ⟨rfl, hj5⟩
          have HJ5 := hide hj5
          have HOP := hide (hj5.open HLV'.out.up HLV'.out.c0 HLV'.out.c1 jr hx0 (by omega) [rs] t hrn)
          clear hj5 HAP hrn
          go_wp2_with fail
          refine HOP.out.mono ?_
          rintro e w6 ⟨gk, v6, rfl, hk6, hl6, hj6⟩
          have HK6 := hide hk6
          have HJ6 := hide hj6
          obtain ⟨a6, c6, hv6, hL6⟩ := hl6.isLL
          have hv6' : v6 = .slice a6 1 c6 := hv6
          subst hv6'
          rcases hL6.2.2.2 with hz | ⟨b6, o6, rfl, hlt6, hc6⟩
          · cases hz
          obtain ⟨u6, hu6, a7, c7, rfl, hT7, _⟩ := hc6 0 (Nat.zero_lt_one)
          have hTr := HI.out.below HJ6.out.b
          have HSM := hide (sameT_any a7 rs.length c7 rs a' c' w6 hT7 hTr)
          have hu6' : w6.cell? ⟨b6, o6, none⟩ = some (.slice a7 rs.length c7) := hu6
          clear hk6 hl6 hj6 HOP hv6 hL6 hc6 hu6 hT7 hTr HJ5
          have hqt : ((t : Int) == (t : Int)) = true := by simp
          have hqc : ((jc : Int) == (jc : Int)) = true := by simp
          go_wp2_with fail
          refine HSM.out.mono ?_
          rintro e w7 ⟨rfl, hb7⟩
          have HJ7 := hide (HJ6.out.below hb7)
          have HK7 := hide (HK6.out.below hb7)
          clear hb7 HSM HJ6 HK6 hu6'
          go_wp2_with fail
          refine (next_any w7 gk g _ HK7.out).mono ?_
          rintro e w8 ⟨rfl, rfl⟩
          go_wp2_with fail
          refine (next_any w8 gj g _ HJ7.out.j).mono ?_
          rintro e w9 ⟨rfl, rfl⟩
          go_wp2_with fail
          refine (next_any w9 gj g _ HJ7.out.j).mono ?_
          rintro e w10 ⟨rfl, rfl⟩
          have HDR := hide (HJ7.out.drop t (by show jr ≤ t; have := HTL.out; omega) (Nat.le_refl _))
          clear HK7
          go_wp2_with fail
          refine HDR.out.mono ?_
          rintro e w11 ⟨rfl, hj11⟩
          have HJ11 : Hid (Jd w w11 gj g gs b jc ⟨0, jc, t, t, fl⟩ st') := hide hj11
          have HRM := hide (room_any w11 gj g _ HJ11.out.j)
          rw [room_all] at HRM
          clear hj11 HDR HJ7
          go_wp2_with fail
          refine HRM.out.mono ?_
          rintro e w12 ⟨rfl, hb12⟩
          have HJ12 := hide (HJ11.out.below hb12)
          have HLD : Hid (Lv jc ⟨0, jc, t, t, fl⟩ st' []) := hide HLV'.out.drop
          have hrn2 := HLD.out.all (by show t ≤ _; omega)
          have HOP := hide (HJ12.out.open HLD.out.up HLD.out.c0 HLD.out.c1 t ht1 htb [] t hrn2)
          clear hb12 HRM HJ11 hrn2
          go_wp2_with fail
          refine (from_any w12 gj g _ HJ12.out.j).mono ?_
          rintro e w13 ⟨rfl, rfl⟩
          go_wp2_with fail
          refine HOP.out.mono ?_
          rintro e w14 ⟨gk2, v14, rfl, _, hl14, hj14⟩
          have HJ14 := hide hj14
          obtain ⟨a14, c14, hv14, _⟩ := hl14.isLL
          have hv14' : v14 = .slice a14 0 c14 := hv14
          subst hv14'
          clear hl14 hj14 HOP hv14 HJ12
          go_wp2_with fail
          exact ⟨⟨k + 1, by omega, by simp, _, st', HLD.out, HJ14.out, rfl, rfl, rfl, by have := HWR'.out; have := HWR.out; have := HTL.out; show st'.wr + 1 = t; omega, by have := HTL.out; have := HNX.out; show t ≤ 1 + 1024 * (k + 1); omega⟩, by simp [intOf]; omega⟩
        · have HAP := hide (HJD.out.append (HI.out.below HJD.out.b) (by have := HWR.out; have := HNX.out; omega) hap)
          have e0 : (E == 0) = false := by simpa using hE
          have hqt : ((jr : Int) == (jr : Int)) = true := by simp
          have hqc : ((jc : Int) == (jc : Int)) = true := by simp
          clear hno hap
          go_wp2_with fail
          refine HAP.out.mono ?_
          rintro e w5 ⟨rfl, hj5⟩
          have HJ5 := hide hj5
          have HRM := hide (room_any w5 gj g _ HJ5.out.j)
          rw [room_all] at HRM
          clear hj5 HAP
          go_wp2_with fail
          refine HRM.out.mono ?_
          rintro e w6 ⟨rfl, hb6⟩
          have HJ6 := hide (HJ5.out.below hb6)
          clear hb6 HRM HJ5
          go_wp2_with fail
          refine (next_any w6 gj g _ HJ6.out.j).mono ?_
          rintro e w7 ⟨rfl, rfl⟩
          go_wp2_with fail
          exact ⟨⟨k + 1, by omega, by simp, _, st, HLV.out, HJ6.out, rfl, rfl, rfl, HWR.out, by have := HNX.out; show jr ≤ 1 + 1024 * (k + 1); omega⟩, by simp [intOf]; omega⟩
      · go_wp2_with fail
        go_ret
        exact ⟨rfl, HJD.out.b⟩
  · have HCC := hide hc
    go_enter Try.func8, Try.ntmps8
    go_wp2_with fail
    refine (lives_any w).mono ?_
    rintro e w1 ⟨rfl, hb1⟩
    have HB1 := hide hb1
    clear hb1
    go_wp2_with fail
    refine (new_no w1 C HCC.out).mono ?_
    rintro e w2 ⟨rfl, rfl⟩
    go_wp2_with fail
    refine (open_nil0 w2 C).mono ?_
    rintro e w3 ⟨rfl, rfl⟩
    by_cases h1 : C < 1
    · have hd1 : decide (C < 1) = true := decide_eq_true h1
      clear hc
      go_wp2_with fail
      go_ret
      exact ⟨rfl, HB1.out⟩
    · have hd1 : decide (C < 1) = false := decide_eq_false h1
      have hd2 : decide (1024 < C) = true := decide_eq_true (by omega)
      clear hc
      go_wp2_with fail
      go_ret
      exact ⟨rfl, HB1.out⟩
end Go.Proofs.Yteckglnfkgfefaa
