/- the document's Move -/
import Derived.Test.YtjochdmhhhhgiaaQ
import Derived.Test.YtjochdmhhhhgiaaRa
namespace Go.Proofs.Ytjochdmhhhhgiaa
open Go.RowKit
theorem mdR_place (k : Nat) (c : Cl) (n : Int) : (mdR k c n).1.it = c.it ∧ (mdR k c n).1.wa = c.wa := by
  unfold mdR
  split <;> exact ⟨rfl, rfl⟩
theorem md_chg {k : Nat} {c : Cl} {n : Int} (h : sumB c = true) : ((mdR k c n).2 = false → (chgR k c n).1 = 13) ∧ ((mdR k c n).2 = true → 1125899906842624 < (mdR k c n).1.al → (chgR k c n).1 = 5) ∧ ((mdR k c n).2 = true → ¬ 1125899906842624 < (mdR k c n).1.al → chgR k c n = (0, (mdR k c n).1)) := by
  rw [sumB_iff] at h
  rcases k with _ | _ | _ | _ | k
  · refine ⟨fun h1 => Bool.noConfusion h1, fun _ h1 => ?_, fun _ h1 => ?_⟩
    · have e : chgR 0 c n = (5, c) := if_pos h1
      show (chgR 0 c n).1 = 5
      rw [e]
    · exact if_neg h1
  · refine ⟨fun h1 => ?_, fun h1 h2 => ?_, fun h1 h2 => ?_⟩
    · have h3 : ¬ n ≤ c.fr := of_decide_eq_false h1
      have e : chgR 1 c n = (13, c) := if_pos (by omega)
      show (chgR 1 c n).1 = 13
      rw [e]
    · have h3 : 1125899906842624 < c.al := h2
      omega
    · have h3 : n ≤ c.fr := of_decide_eq_true h1
      exact if_neg (show ¬ c.fr < n by omega)
  · refine ⟨fun h1 => ?_, fun h1 h2 => ?_, fun h1 h2 => ?_⟩
    · have h3 : ¬ n ≤ c.he := of_decide_eq_false h1
      have e : chgR 2 c n = (13, c) := if_pos (by omega)
      show (chgR 2 c n).1 = 13
      rw [e]
    · have h3 : 1125899906842624 < c.al := h2
      omega
    · have h3 : n ≤ c.he := of_decide_eq_true h1
      exact if_neg (show ¬ c.he < n by omega)
  · refine ⟨fun h1 => ?_, fun h1 h2 => ?_, fun h1 h2 => ?_⟩
    · have h3 : ¬ n ≤ c.he := of_decide_eq_false h1
      have e : chgR 3 c n = (13, c) := if_pos (by omega)
      show (chgR 3 c n).1 = 13
      rw [e]
    · have h3 : 1125899906842624 < c.al := h2
      omega
    · have h3 : n ≤ c.he := of_decide_eq_true h1
      exact if_neg (show ¬ c.he < n by omega)
  · refine ⟨fun h1 => ?_, fun h1 h2 => ?_, fun h1 h2 => ?_⟩
    · have h3 : ¬ n ≤ c.ou := of_decide_eq_false h1
      have e : chgR (k + 4) c n = (13, c) := if_pos (by omega)
      show (chgR (k + 4) c n).1 = 13
      rw [e]
    · have h3 : 1125899906842624 < c.al := h2
      omega
    · have h3 : n ≤ c.ou := of_decide_eq_true h1
      exact if_neg (show ¬ c.ou < n by omega)
theorem mdR_ok {k : Nat} {c : Cl} {n : Int} (h : sumB c = true) (hp : placeB c.it c.wa = true) (h1 : 1 ≤ n) (h2 : n ≤ 1048576) : okC (mdR k c n).1 := by
  rw [sumB_iff] at h
  rw [placeB_iff] at hp
  unfold okC i64B mdR
  split <;> (dsimp only; omega)
/-- what a move answers, by the document's steps -/
theorem moveR_steps {k : Nat} {l : List Cl} {it wa n : Int} : (wrongR l it wa ≠ 0 → moveR k l it wa n = ([], wrongR l it wa)) ∧ (wrongR l it wa = 0 → ¬ (1 ≤ n ∧ n ≤ 1048576) → moveR k l it wa n = ([], 2)) ∧ (wrongR l it wa = 0 → (1 ≤ n ∧ n ≤ 1048576) → ((mdR k (cellOf l it wa) n).2 = false → moveR k l it wa n = ([], 13)) ∧ ((mdR k (cellOf l it wa) n).2 = true → 1125899906842624 < (mdR k (cellOf l it wa) n).1.al → moveR k l it wa n = ([], 5)) ∧ ((mdR k (cellOf l it wa) n).2 = true → ¬ 1125899906842624 < (mdR k (cellOf l it wa) n).1.al → 4096 < (putC l it wa (mdR k (cellOf l it wa) n).1).length → moveR k l it wa n = ([], 3)) ∧ ((mdR k (cellOf l it wa) n).2 = true → ¬ 1125899906842624 < (mdR k (cellOf l it wa) n).1.al → ¬ 4096 < (putC l it wa (mdR k (cellOf l it wa) n).1).length → moveR k l it wa n = (putC l it wa (mdR k (cellOf l it wa) n).1, 0))) := by
  refine ⟨fun h => ?_, fun h hn => ?_, fun h hn => ?_⟩
  · unfold wrongR at h ⊢
    rcases checkE_cases l with ⟨hg, h0⟩ | ⟨hg, h0⟩
    · rw [if_pos h0] at h ⊢
      cases hp : placeB it wa
      · rw [if_neg (by simp)]
        unfold moveR
        rw [if_neg (by rw [goodB_iff.2 hg]; simp), if_pos (fun e => by rw [hp] at e; simp at e)]
      · rw [hp] at h; simp at h
    · rw [if_neg (by rw [h0]; decide), h0]
      unfold moveR
      rw [if_pos (by rw [Bool.eq_false_iff]; exact fun e => hg (goodB_iff.1 e))]
  · obtain ⟨hg, hp⟩ := wrongR_good h
    unfold moveR
    rw [if_neg (by rw [goodB_iff.2 hg]; simp), if_pos (fun e => hn e.2)]
  · obtain ⟨hg, hp⟩ := wrongR_good h
    have hc := cellOf_ok hg it wa
    have hmd := md_chg (k := k) (n := n) hc.2.2
    have hpl := mdR_place k (cellOf l it wa) n
    have hlen := (putC_pw hg.pw (hpl.1.trans hc.1) (hpl.2.trans hc.2.1)).2
    have hl := hg.len
    unfold moveR
    rw [if_neg (by rw [goodB_iff.2 hg]; simp), if_neg (fun e => e ⟨hp, hn⟩)]
    refine ⟨fun h1 => ?_, fun h1 h2 => ?_, fun h1 h2 h3 => ?_, fun h1 h2 h3 => ?_⟩
    · rw [hmd.1 h1, if_pos (by decide)]
    · rw [hmd.2.1 h1 h2, if_pos (by decide)]
    · rw [hmd.2.2 h1 h2, if_neg (by simp), if_pos]
      rw [hlen] at h3
      cases hb : hasB l (noC it wa)
      · rw [hb] at h3; simp at h3; exact ⟨rfl, by omega⟩
      · rw [hb] at h3; simp at h3; omega
    · rw [hmd.2.2 h1 h2, if_neg (by simp), if_neg]
      rintro ⟨e1, e2⟩
      rw [hlen, e1, e2] at h3
      simp at h3
set_option maxHeartbeats 4000000 in
/-- the document's Move -/
theorem rmove_any (HCK : ∀ (a : Option Addr) (len cap : Nat) (l : List Cl) (w : World), IsC w a len cap l → Calls Try.prog 20 #[.slice a len cap] w fun e w' => e = .returned (.int .i64 (checkE l)) ∧ Below w.heap.size w w') (k : Nat) (hk : k < 5) (a : Option Addr) (len cap : Nat) (l : List Cl) (it wa n : Int) (w : World) (h : IsC w a len cap l) : Calls Try.prog 14 #[.int .i64 (k : Int), .slice a len cap, .int .i64 it, .int .i64 wa, .int .i64 n] w fun e w' => ∃ a' c', e = .returned (.tuple #[.slice a' (moveR k l it wa n).1.length c', .int .i64 (moveR k l it wa n).2]) ∧ IsC w' a' (moveR k l it wa n).1.length c' (moveR k l it wa n).1 ∧ Below w.heap.size w w' := by
  have HV := hide h
  have C1 := hide (rwrong_any HCK a len cap l it wa w h)
  have HM := hide (moveR_steps (k := k) (l := l) (it := it) (wa := wa) (n := n))
  have C2 := hide (fun W (hW : IsC W a len cap l) (h0 : wrongR l it wa = 0) => rof_any a len cap l it wa W hW (wrongR_good h0).1)
  have C3 := hide (fun W (h0 : wrongR l it wa = 0) (hn : 1 ≤ n ∧ n ≤ 1048576) => moved_any k hk (cellOf l it wa) n W (cellOf_small (wrongR_good h0).1 it wa) (by unfold SmallN; omega))
  have C4 := hide (fun W (hW : IsC W a len cap l) (h0 : wrongR l it wa = 0) (hn : 1 ≤ n ∧ n ≤ 1048576) => rwith_any a len cap l (mdR k (cellOf l it wa) n).1 W hW (wrongR_good h0).1 (mdR_ok (cellOf_ok (wrongR_good h0).1 it wa).2.2 (by rw [(cellOf_ok (wrongR_good h0).1 it wa).1, (cellOf_ok (wrongR_good h0).1 it wa).2.1]; exact (wrongR_good h0).2) hn.1 hn.2))
  have HPL : Hid (wrongR l it wa = 0 → (mdR k (cellOf l it wa) n).1.it = it ∧ (mdR k (cellOf l it wa) n).1.wa = wa) := hide (fun h0 => ⟨(mdR_place _ _ _).1.trans (cellOf_ok (wrongR_good h0).1 it wa).1, (mdR_place _ _ _).2.trans (cellOf_ok (wrongR_good h0).1 it wa).2.1⟩)
  generalize moveR k l it wa n = R at *
  clear h HCK
  go_enter Try.func14, Try.ntmps14
  go_wp2_with fail
  refine C1.out.mono ?_
  rintro e w1 ⟨rfl, hb1⟩
  have HB1 := hide hb1
  clear hb1 C1
  generalize wrongR l it wa = er at *
  by_cases he : er = 0
  case neg =>
    have HR := hide (HM.out.1 he)
    have hd : decide (er = 0) = false := decide_eq_false he
    have hd2 : (er == 0) = false := by simpa using he
    clear HM C2 C3 C4 HPL
    go_wp2
    go_ret2
    rw [HR.out]
    exact ⟨none, 0, rfl, isC_nil _, HB1.out⟩
  case pos =>
    subst he
    by_cases hn : 1 ≤ n ∧ n ≤ 1048576
    case neg =>
      have HR := hide (HM.out.2.1 rfl hn)
      clear HM C2 C3 C4 HPL
      by_cases h1 : n < 1
      · go_wp2
        go_ret2
        rw [HR.out]
        exact ⟨none, 0, rfl, isC_nil _, HB1.out⟩
      · have h2 : 1048576 < n := by omega
        clear hn
        go_wp2
        go_ret2
        rw [HR.out]
        exact ⟨none, 0, rfl, isC_nil _, HB1.out⟩
    case pos =>
      have HM2 := hide (HM.out.2.2 rfl hn)
      have C3' := hide (fun W => C3.out W rfl hn)
      have C4' := hide (fun W hW => C4.out W hW rfl hn)
      have HPL' := hide (HPL.out rfl)
      have C2' := hide (fun W hW => C2.out W hW rfl)
      clear HM C2 C3 C4 HPL
      have h1 : ¬ n < 1 := by omega
      have h2 : ¬ 1048576 < n := by omega
      clear hn
      rw [HPL'.out.1, HPL'.out.2] at C4'
      generalize mdR k (cellOf l it wa) n = MD at *
      generalize cellOf l it wa = co at *
      obtain ⟨⟨m1, m2, m3, m4, m5, m6⟩, mo⟩ := MD
      dsimp only at HM2 C3' C4' HPL'
      generalize putC l it wa ⟨m1, m2, m3, m4, m5, m6⟩ = PU at *
      go_wp2_with fail
      refine (C2'.out w1 (HV.out.below' HB1.out)).mono ?_
      rintro e w2 ⟨rfl, hb2⟩
      have HB2 := hide (HB1.out.trans (hb2.mono HB1.out.size))
      clear hb2 HB1 C2'
      go_wp2_with fail
      refine (C3'.out w2).mono ?_
      rintro e w3 ⟨rfl, hb3⟩
      have HB3 := hide (HB2.out.trans (hb3.mono HB2.out.size))
      clear hb3 HB2 C3'
      cases mo
      · have HR := hide (HM2.out.1 rfl)
        clear HM2 C4'
        go_wp2
        go_ret2
        rw [HR.out]
        exact ⟨none, 0, rfl, isC_nil _, HB3.out.alloc HB3.out.size _⟩
      · by_cases hov : 1125899906842624 < m6
        · have HR := hide (HM2.out.2.1 rfl hov)
          clear HM2 C4'
          go_wp2
          go_ret2
          rw [HR.out]
          exact ⟨none, 0, rfl, isC_nil _, HB3.out.alloc HB3.out.size _⟩
        · have HM3 := hide (HM2.out.2.2.1 rfl (by omega))
          have HM4 := hide (HM2.out.2.2.2 rfl (by omega))
          clear HM2
          obtain ⟨pn, hpn⟩ : ∃ q, PU.length = q := ⟨_, rfl⟩
          rw [hpn] at HM3 HM4 C4'
          have HPN := hide hpn
          clear hpn
          have HB4 := hide (HB3.out.alloc HB3.out.size (.cells #[.int .i64 m1, .int .i64 m2, .int .i64 m3, .int .i64 m4, .int .i64 m5, .int .i64 m6] 31))
          have C5 := hide (C4'.out _ (HV.out.below' HB4.out))
          clear C4'
          go_wp2_with fail
          refine C5.out.mono ?_
          rintro e w5 ⟨a5, c5, rfl, hI5, hb5⟩
          have HI5 := hide hI5
          have HB5 := hide (HB4.out.trans (hb5.mono HB4.out.size))
          clear hI5 hb5 C5
          by_cases hbig : 4096 < pn
          · have HR := hide (HM3.out hbig)
            clear HM3 HM4
            go_wp2
            go_ret2
            rw [HR.out]
            exact ⟨none, 0, rfl, isC_nil _, HB5.out⟩
          · have HR := hide (HM4.out (by omega))
            clear HM3 HM4
            go_wp2
            go_ret2
            rw [HR.out]
            exact ⟨a5, c5, by rw [HPN.out]; rfl, by rw [HPN.out]; exact HI5.out, HB5.out⟩
end Go.Proofs.Ytjochdmhhhhgiaa
