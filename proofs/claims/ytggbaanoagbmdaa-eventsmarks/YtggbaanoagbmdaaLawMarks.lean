/- EventsMarks: the walk -/
import Derived.Test.YtggbaanoagbmdaaS
import Derived.Test.YtggbaanoagbmdaaT
import Derived.Test.YtggbaanoagbmdaaM
namespace Go.Proofs.Ytggbaanoagbmdaa
open Go.RowKit
set_option maxRecDepth 40000 in
set_option maxHeartbeats 1000000 in
/-- EventsMarks -/
theorem law_marks (a : Option Addr) (len cap : Nat) (l : List Ev) (s m : ByteArray) (w : World) (h : IsE w a len cap l) :
    Calls Try.prog 8 #[.slice a len cap, .string s, .string m] w fun e w' => e = .returned (.bool true) ∧ Below w.heap.size w w' := by
  have HV := hide h
  have HLN := hide h.1
  have hcap := h.2.1
  have hcm : cap ≤ 9223372036854775807 := h.2.2.1
  clear h
  go_enter Try.func8, Try.ntmps8
  go_wp2_with fail
  refine (lives_any w).mono ?_
  rintro e w1 ⟨rfl, hb1⟩
  have HB1 := hide hb1
  clear hb1
  go_wp2_with fail
  refine (markd_any a len cap l s m w1 (HV.out.below' HB1.out)).mono ?_
  rintro e w2 ⟨rfl, hb2⟩
  have HB2 : Hid (Below w.heap.size w w2) := hide (HB1.out.trans (hb2.mono HB1.out.size))
  clear hb2
  have HMR : Hid (markR l s m = if goodB l = false then (0, 2) else (markAt l s m, 0)) := hide rfl
  generalize markR l s m = mr at *
  obtain ⟨n, why⟩ := mr
  dsimp only
  by_cases hok : why = 0 ∧ ¬ n = 0
  case pos =>
    obtain ⟨rfl, hn⟩ := hok
    have hgd : goodB l = true := by
      have h1 := HMR.out
      cases hg : goodB l
      · rw [if_pos hg] at h1; simp at h1
      · rfl
    have hnm : n = markAt l s m := by
      have h1 := HMR.out
      rw [if_neg (by rw [hgd]; simp)] at h1
      simpa using h1
    subst hnm
    obtain ⟨x, hR, hM, hN, hE⟩ := mark_read hgd hn
    have CR := hide (read_any a len cap l s (markAt l s m) 1 w2 (HV.out.below' HB2.out))
    rw [hR] at CR
    have hM' : (x.ma.toList == m.toList) = true := by rw [hM]; simp
    have HNN := hide hN
    generalize markAt l s m = nn at *
    have hnb : (nn == 0) = false := by simpa using hn
    clear hgd hR HMR hN
    go_wp2_with fail
    refine CR.out.mono ?_
    rintro e w3 ⟨a3, c3, rfl, hI, hb3⟩
    have HB3 : Hid (Below w.heap.size w w3) := hide (HB2.out.trans (hb3.mono HB2.out.size))
    dsimp only at hI ⊢
    rw [show [x].length = 1 from rfl] at hI ⊢
    obtain ⟨bb, off, rfl, hbb, z0, z1, z2, z3, z4⟩ := hI.2.2.2.2 0 (by omega)
    rw [show [x].getD 0 Ev0 = x from rfl] at z0 z1 z2 z3 z4
    rw [HNN.out] at z1
    have hme := hM
    clear hI hb3 CR hbb
    go_wp2
    go_ret
    exact ⟨rfl, HB3.out⟩
  case neg =>
    have hw0 : ¬ why = 0 ∨ (why = 0 ∧ n = 0) := by
      by_cases h1 : why = 0
      · by_cases h2 : n = 0
        · exact .inr ⟨h1, h2⟩
        · exact absurd ⟨h1, h2⟩ hok
      · exact .inl h1
    have HN0 : Hid (n = 0) := hide (by
      rcases hw0 with h1 | ⟨_, h2⟩
      · have h3 := HMR.out
        cases hg : goodB l
        · rw [if_pos hg] at h3; simp at h3; exact h3.1
        · rw [if_neg (by rw [hg]; simp)] at h3; simp at h3; exact absurd h3.2 h1
      · exact h2)
    obtain rfl : n = 0 := HN0.out
    have HBAD : Hid (why = 0 → m.toList.isEmpty = false → ∀ x ∈ l, ¬ (x.st.toList = s.toList ∧ x.ma.toList = m.toList)) := hide (fun e hm x hx => by
      have h3 := HMR.out
      cases hg : goodB l
      · rw [if_pos hg, e] at h3; simp at h3
      · rw [if_neg (by rw [hg]; simp)] at h3
        exact mark_no hg hm (by simp at h3; exact h3.1.symm) hx)
    clear hok HMR hw0
    have hcase : ¬ why = 0 ∨ (why = 0 ∧ m.toList.isEmpty = true) ∨ (why = 0 ∧ m.toList.isEmpty = false) := by
      by_cases h1 : why = 0
      · cases hm : m.toList.isEmpty
        · exact .inr (.inr ⟨h1, rfl⟩)
        · exact .inr (.inl ⟨h1, rfl⟩)
      · exact .inl h1
    rcases hcase with hA | ⟨rfl, hm⟩ | ⟨rfl, hm⟩
    case' inl =>
      have hAb : (why == 0) = false := by simpa using hA
      have hAd : decide (why = 0) = false := decide_eq_false hA
    all_goals go_wp2
    all_goals
      go_loopw [29] (fun i wr => ∃ k : Nat, k ≤ len ∧ i = .int .i64 k ∧ Hid (Below w.heap.size w wr)) (fun i _ => len - (intOf i).toNat)
      case atStart => exact ⟨0, Nat.zero_le _, rfl, HB2⟩
      case round =>
        obtain ⟨k, hk, rfl, HB⟩ := hrel
        by_cases hlt : k < len
        case neg =>
          obtain rfl : k = len := by omega
          go_wp2
          go_ret
          exact ⟨rfl, HB.out⟩
        case pos =>
          obtain ⟨bb, off, rfl, hbb, z0, z1, z2, z3, z4⟩ := (HV.out.below' HB.out).2.2.2.2 k hlt
          have HIN : Hid (l.getD k Ev0 ∈ l) := hide (by rw [List.getD_eq_getElem?_getD, List.getElem?_eq_getElem (by rw [HLN.out]; exact hlt)]; simp)
          generalize l.getD k Ev0 = x at *
          have HBN : Hid (∀ o, Below w.heap.size w (wr.alloc o)) := hide (fun o => HB.out.alloc HB.out.size o)
          first
          | (go_wp2
             go_roundw
             case rel => exact ⟨k + 1, by omega, by simp, hide (HBN.out _)⟩
             case measure => simp [intOf]; omega)
          | (have hnot := HBAD.out (by trivial) hm x HIN.out
             by_cases h1 : x.st.toList = s.toList
             · have h2 : ¬ x.ma.toList = m.toList := fun h => hnot ⟨h1, h⟩
               have h3 : (x.ma.toList == m.toList) = false := by simpa using h2
               have h4 : (x.st.toList == s.toList) = true := by simpa using h1
               clear hnot
               go_wp2
               go_roundw
               case rel => exact ⟨k + 1, by omega, by simp, hide (HBN.out _)⟩
               case measure => simp [intOf]; omega
             · have h4 : (x.st.toList == s.toList) = false := by simpa using h1
               clear hnot
               go_wp2
               go_roundw
               case rel => exact ⟨k + 1, by omega, by simp, hide (HBN.out _)⟩
               case measure => simp [intOf]; omega)
end Go.Proofs.Ytggbaanoagbmdaa
namespace Go.Proofs.Ytggbaanoagbmdaa.eventsMarks
open Go.RowKit
theorem lawWalk (a0 : Option Addr) (len0 cap0 : Nat) (l0 : List Ev) (s1 s2 : ByteArray) (W : World) (w0 : IsE W a0 len0 cap0 l0) (_ : len0 * 64 ≤ 140737488355328) (_ : s1.size ≤ 140737488351232) (_ : s2.size ≤ 140737488351232) :
    Calls Try.prog 8 #[.slice a0 len0 cap0, .string s1, .string s2] W fun e W' => e = .returned (.bool true) ∧ Below W.heap.size W W' :=
  law_marks a0 len0 cap0 l0 s1 s2 W w0
end Go.Proofs.Ytggbaanoagbmdaa.eventsMarks
