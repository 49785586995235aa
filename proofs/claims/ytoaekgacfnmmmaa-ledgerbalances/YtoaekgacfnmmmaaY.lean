/- balanced -/
import Derived.Test.YtoaekgacfnmmmaaX
namespace Go.Proofs.Ytoaekgacfnmmmaa
open Go.RowKit
theorem bal_zero (P : List Py) : balS P 1 + balS P 2 + balS P 3 = 0 := by
  unfold balS
  induction P with
  | nil => rfl
  | cons x r ih =>
    simp only [List.map_cons, List.sum_cons]
    have : bv 1 x + bv 2 x + bv 3 x = 0 := by unfold bv; simp; omega
    omega
theorem wrap_zero (c h s : Int) (h0 : c + h + s = 0) : IntKind.i64.wrap (IntKind.i64.wrap (c + h) + s) = 0 := by
  simp only [IntKind.wrap_i64]
  omega
theorem num_in {n : Int} (h : -9223372036854775808 ≤ n ∧ n ≤ 9223372036854775807) : num n = n ∧ err n = 0 := ⟨if_pos h, if_pos h⟩
theorem num_out {n : Int} (h : ¬ (-9223372036854775808 ≤ n ∧ n ≤ 9223372036854775807)) : num n = 0 ∧ err n = 5 := ⟨if_neg h, if_neg h⟩
/-- all of the accounts, or one that is over -/
theorem bal_all (P : List Py) : ∃ c h s e1 e2 e3 : Int, num (balS P 1) = c ∧ num (balS P 2) = h ∧ num (balS P 3) = s ∧ err (balS P 1) = e1 ∧ err (balS P 2) = e2 ∧ err (balS P 3) = e3 ∧ ((e1 = 5) ∨ (e1 = 0 ∧ e2 = 5) ∨ (e1 = 0 ∧ e2 = 0 ∧ e3 = 5) ∨ (e1 = 0 ∧ e2 = 0 ∧ e3 = 0 ∧ c + h + s = 0)) := by
  refine ⟨_, _, _, _, _, _, rfl, rfl, rfl, rfl, rfl, rfl, ?_⟩
  have h0 := bal_zero P
  by_cases h1 : -9223372036854775808 ≤ balS P 1 ∧ balS P 1 ≤ 9223372036854775807
  · by_cases h2 : -9223372036854775808 ≤ balS P 2 ∧ balS P 2 ≤ 9223372036854775807
    · by_cases h3 : -9223372036854775808 ≤ balS P 3 ∧ balS P 3 ≤ 9223372036854775807
      · right; right; right
        rw [(num_in h1).1, (num_in h1).2, (num_in h2).1, (num_in h2).2, (num_in h3).1, (num_in h3).2]
        exact ⟨rfl, rfl, rfl, h0⟩
      · right; right; left
        exact ⟨(num_in h1).2, (num_in h2).2, (num_out h3).2⟩
    · right; left
      exact ⟨(num_in h1).2, (num_out h2).2⟩
  · left
    exact (num_out h1).2
theorem err_is (n : Int) : err n = 0 ∨ err n = 5 := by
  by_cases h : -9223372036854775808 ≤ n ∧ n ≤ 9223372036854775807
  · exact .inl (num_in h).2
  · exact .inr (num_out h).2
set_option maxHeartbeats 4000000 in
theorem balanced_any (a : Option Addr) (len cap : Nat) (P : List Py) (a2 : Option Addr) (len2 cap2 : Nat) (G : List Pg) (w : World) (h : IsP w a len cap P) (h2 : IsG w a2 len2 cap2 G) (hc : checkR P G) :
    Calls Try.prog 14 #[vb a len cap a2 len2 cap2] w fun e w' => Below w.heap.size w w' ∧ e = .returned (.bool true) := by
  have HP := hide h
  have HG := hide h2
  have k1 : Below w.heap.size w (w.alloc (.cells #[.slice a len cap, .slice a2 len2 cap2] 25)) := (Below.refl _ _).alloc (Nat.le_refl _) _
  have k2 : BlkB (w.alloc (.cells #[.slice a len cap, .slice a2 len2 cap2] 25)) w.heap.size (.slice a len cap) (.slice a2 len2 cap2) := heap_alloc_new _ _
  have HK := hide (And.intro k1 k2)
  have HC := hide hc
  have HA1 := hide (fun W (hW : IsP W a len cap P) (hW2 : IsG W a2 len2 cap2 G) => balance1_any a len cap P a2 len2 cap2 G W hW hW2 hc)
  have HA2 := hide (fun W (hW : IsP W a len cap P) (hW2 : IsG W a2 len2 cap2 G) => balance2_any a len cap P a2 len2 cap2 G W hW hW2 hc)
  have HA3 := hide (fun W (hW : IsP W a len cap P) (hW2 : IsG W a2 len2 cap2 G) => balance3_any a len cap P a2 len2 cap2 G W hW hW2 hc)
  obtain ⟨c, s2, s3, e1, e2, e3, hc1, hc2, hc3, he1, he2, he3, hcs⟩ := bal_all P
  have HE2 := hide (he2 ▸ err_is (balS P 2))
  have HE3 := hide (he3 ▸ err_is (balS P 3))
  rw [hc1, he1] at HA1
  rw [hc2, he2] at HA2
  rw [hc3, he3] at HA3
  have HCS := hide hcs
  clear h h2 k1 k2 hc hc1 hc2 hc3 he1 he2 he3 hcs
  go_enter Try.func14, Try.ntmps14
  go_wp2_with fail
  generalize hW0 : w.alloc (.cells #[.slice a len cap, .slice a2 len2 cap2] 25) = W0 at *
  clear hW0
  refine (HA1.out W0 (HP.out.below' HK.out.1) (HG.out.below' HK.out.1)).mono ?_
  rintro e w1 ⟨hb1, rfl⟩
  have HB1 : Hid (Below w.heap.size w w1) := hide (HK.out.1.trans (hb1.mono HK.out.1.size))
  have HX1 := hide (HK.out.2.below (heap_lt HK.out.2) hb1)
  clear hb1 HK HA1
  obtain ⟨c1, c2⟩ := HX1.out.cells
  go_wp2_with fail
  refine (HA2.out w1 (HP.out.below' HB1.out) (HG.out.below' HB1.out)).mono ?_
  rintro e w2 ⟨hb2, rfl⟩
  have HB2 : Hid (Below w.heap.size w w2) := hide (HB1.out.trans (hb2.mono HB1.out.size))
  have HX2 := hide (HX1.out.below (heap_lt HX1.out) hb2)
  clear hb2 HX1 HB1 HA2 c1 c2
  obtain ⟨c1, c2⟩ := HX2.out.cells
  go_wp2_with fail
  refine (HA3.out w2 (HP.out.below' HB2.out) (HG.out.below' HB2.out)).mono ?_
  rintro e w3 ⟨hb3, rfl⟩
  have HB3 : Hid (Below w.heap.size w w3) := hide (HB2.out.trans (hb3.mono HB2.out.size))
  clear hb3 HX2 HB2 HA3 c1 c2 HP HG HC
  rcases HCS.out with rfl | ⟨rfl, rfl⟩ | ⟨rfl, rfl, rfl⟩ | ⟨rfl, rfl, rfl, h0⟩
  · clear HCS
    rcases HE2.out with rfl | rfl
    · rcases HE3.out with rfl | rfl
      · clear HE2 HE3
        go_wp2
        go_ret
        exact ⟨HB3.out, rfl⟩
      · clear HE2 HE3
        go_wp2
        go_ret
        exact ⟨HB3.out, rfl⟩
    · clear HE2 HE3
      go_wp2
      go_ret
      exact ⟨HB3.out, rfl⟩
  · clear HCS HE2
    rcases HE3.out with rfl | rfl
    · clear HE3
      go_wp2
      go_ret
      exact ⟨HB3.out, rfl⟩
    · clear HE3
      go_wp2
      go_ret
      exact ⟨HB3.out, rfl⟩
  · clear HCS HE2 HE3
    go_wp2
    go_ret
    exact ⟨HB3.out, rfl⟩
  · have hz := wrap_zero c s2 s3 h0
    clear HCS HE2 HE3 h0
    generalize hx : IntKind.i64.wrap (c + s2) = X at hz
    go_wp2
    go_ret
    exact ⟨HB3.out, rfl⟩
end Go.Proofs.Ytoaekgacfnmmmaa
