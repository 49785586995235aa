/- StockBack: the walk -/
import Derived.Test.YtjochdmhhhhgiaaN
import Derived.Test.YtjochdmhhhhgiaaK
namespace Go.Proofs.Ytjochdmhhhhgiaa
open Go.RowKit
set_option maxHeartbeats 2000000 in
/-- StockBack -/
theorem law_back (a : Option Addr) (len cap : Nat) (l : List Cl) (it wa n : Int) (w : World) (h : IsC w a len cap l) : Calls Try.prog 6 #[.slice a len cap, .int .i64 it, .int .i64 wa, .int .i64 n] w fun e w' => e = .returned (.bool true) ∧ Below w.heap.size w w' := by
  have HV := hide h
  clear h
  go_enter Try.func6, Try.ntmps6
  go_wp2_with fail
  refine (lives_any w).mono ?_
  rintro e w1 ⟨rfl, hb1⟩
  have HB1 := hide hb1
  have C2 := hide (reserve_any a len cap l it wa n w1 (HV.out.below' hb1))
  clear hb1
  rcases moveR_cases 1 l it wa n with ⟨he, hn⟩ | hg
  · generalize moveR 1 l it wa n = R at *
    obtain ⟨R1, R2⟩ := R
    dsimp only at he hn C2
    subst hn
    have hd : decide (R2 = 0) = false := decide_eq_false he
    have hd2 : (R2 == 0) = false := by simpa using he
    go_wp2_with fail
    refine C2.out.mono ?_
    rintro e w2 ⟨a2, c2, rfl, hI2, hb2⟩
    have HB2 := hide (HB1.out.trans (hb2.mono HB1.out.size))
    clear hI2 hb2 C2
    dsimp only [List.length_nil]
    go_wp2
    go_ret
    exact ⟨rfl, HB2.out⟩
  · have HE1 := hide (back12 hg)
    have HE2 := hide (back134 hg)
    have HE3 := hide (moveR_goes (goes3 hg))
    have HE0 : Hid ((moveR 1 l it wa n).2 = 0) := hide (by rw [moveR_goes hg])
    have HE4 : Hid ((moveR 3 (moveR 1 l it wa n).1 it wa n).2 = 0) := hide (by rw [HE3.out])
    clear hg HE3
    rw [HE0.out] at C2
    generalize (moveR 1 l it wa n).1 = A at *
    generalize hm3 : moveR 3 A it wa n = M at *
    have HM3 := hide hm3
    clear hm3
    obtain ⟨M1, M2⟩ := M
    dsimp only at HE2 HE4
    obtain rfl := HE4.out
    have HVl := hide HV.out.1
    obtain ⟨An, hAn⟩ : ∃ m, A.length = m := ⟨_, rfl⟩
    rw [hAn] at C2
    go_wp2_with fail
    refine C2.out.mono ?_
    rintro e w2 ⟨a2, c2, rfl, hI2, hb2⟩
    have HI2 := hide hI2
    have HB2 := hide (HB1.out.trans (hb2.mono HB1.out.size))
    have C3 := hide (release_any a2 An c2 A it wa n w2 hI2)
    rw [HE1.out] at C3
    dsimp only at C3
    rw [HVl.out] at C3
    clear hI2 hb2 C2 HB1
    go_wp2_with fail
    refine C3.out.mono ?_
    rintro e w3 ⟨a3, c3, rfl, hI3, hb3⟩
    have HI3 := hide hI3
    have HB3 := hide (HB2.out.trans (hb3.mono HB2.out.size))
    have HI23 := hide (HI2.out.below' hb3)
    have C4 := hide (same_any a3 len c3 l a len cap l w3 hI3 (HV.out.below' HB3.out))
    clear hI3 hb3 C3 HB2 HI2
    go_wp2_with fail
    refine C4.out.mono ?_
    rintro e w4 ⟨⟨r, rfl, hr⟩, hb4⟩
    obtain rfl : r = true := by simpa using hr
    have HB4 := hide (HB3.out.trans (hb4.mono HB3.out.size))
    have HI24 := hide (HI23.out.below' hb4)
    have C5 := hide (send_any a2 An c2 A it wa n w4 HI24.out)
    rw [HM3.out] at C5
    dsimp only at C5
    obtain ⟨Mn, hMn⟩ : ∃ m, M1.length = m := ⟨_, rfl⟩
    rw [hMn] at C5
    clear hr hb4 C4 HB3 HI23
    go_wp2_with fail
    refine C5.out.mono ?_
    rintro e w5 ⟨a5, c5, rfl, hI5, hb5⟩
    have HB5 := hide (HB4.out.trans (hb5.mono HB4.out.size))
    have C6 := hide (takeback_any a5 Mn c5 M1 it wa n w5 hI5)
    rw [HE2.out] at C6
    dsimp only at C6
    rw [HVl.out] at C6
    clear hI5 hb5 C5 HB4 HI24
    go_wp2_with fail
    refine C6.out.mono ?_
    rintro e w6 ⟨a6, c6, rfl, hI6, hb6⟩
    have HB6 := hide (HB5.out.trans (hb6.mono HB5.out.size))
    have C7 := hide (same_any a6 len c6 l a len cap l w6 hI6 (HV.out.below' HB6.out))
    clear hI6 hb6 C6 HB5
    go_wp2_with fail
    refine C7.out.mono ?_
    rintro e w7 ⟨⟨r, rfl, hr⟩, hb7⟩
    obtain rfl : r = true := by simpa using hr
    have HB7 := hide (HB6.out.trans (hb7.mono HB6.out.size))
    clear hr hb7 C7
    go_wp2
    go_ret
    exact ⟨rfl, HB7.out⟩
end Go.Proofs.Ytjochdmhhhhgiaa
namespace Go.Proofs.Ytjochdmhhhhgiaa.stockBack
open Go.RowKit
theorem lawWalk (a0 : Option Addr) (len0 cap0 : Nat) (l0 : List Cl) (n1 n2 n3 : Int) (W : World) (w0 : IsC W a0 len0 cap0 l0) (_ : len0 * 48 ≤ 140737488355328) (_ : (Lit.int .i64 n1).wf = true) (_ : (Lit.int .i64 n2).wf = true) (_ : (Lit.int .i64 n3).wf = true) :
    Calls Try.prog 6 #[.slice a0 len0 cap0, .int .i64 n1, .int .i64 n2, .int .i64 n3] W fun e W' => e = .returned (.bool true) ∧ Below W.heap.size W W' :=
  law_back a0 len0 cap0 l0 n1 n2 n3 W w0
end Go.Proofs.Ytjochdmhhhhgiaa.stockBack
