/- Move -/
import Derived.Test.YtfbfmhfceemkgaaDoorSH
namespace Go.Proofs.YtfbfmhfceemkgaaDoor
open Go.RowKit
/-- what Move answers -/
def moveR (l : List Sh) (n m v : Int) : List Sh × Int :=
  if ¬ (ofR l n).2 = 0 then ([], (ofR l n).2)
  else if veB v = false then ([], 15)
  else if ¬ (nxR (ofR l n).1 m).2 = 0 then ([], (nxR (ofR l n).1 m).2)
  else if asB m = true ∧ v = 1 then ([], 10)
  else (putL l ⟨n, (nxR (ofR l n).1 m).1⟩, 0)
theorem okS_getD {l : List Sh} (h : ∀ x ∈ l, okS x) (i : Nat) : okS (l.getD i Sh0) := by
  by_cases hi : i < l.length
  · exact h _ (getD_mem hi)
  · rw [List.getD_eq_getElem?_getD, List.getElem?_eq_none (by omega)]
    unfold okS i64B u8B Sh0
    simp
theorem ofR_u8 {l : List Sh} (h : ∀ x ∈ l, okS x) (n : Int) : u8B (ofR l n).1 := by
  unfold ofR
  split
  · unfold shOf
    split
    · exact (okS_getD h _).2
    · unfold u8B noS; simp
  · unfold u8B; simp
theorem ofR_zero {l : List Sh} {n : Int} (h : (ofR l n).2 = 0) : Good 0 l ∧ orB n = true ∧ (ofR l n).1 = (shOf l n).st := by
  unfold ofR at h ⊢
  split at h
  · rename_i h'
    rw [if_pos h']
    rcases checkE_cases l with ⟨hg, _⟩ | ⟨_, h2⟩
    · exact ⟨hg, h'.2, rfl⟩
    · rw [h2] at h'; exact absurd h'.1 (by decide)
  · exact absurd h (by decide)
theorem mk_le (s m : Int) : 0 ≤ mk s m ∧ mk s m < 7 := by
  unfold mk
  repeat' split
  all_goals omega
theorem nxR_le (s m : Int) : 0 ≤ (nxR s m).1 ∧ (nxR s m).1 < 7 := by
  have := mk_le s m
  unfold nxR
  repeat' split
  all_goals first | exact this | (simp)
set_option maxHeartbeats 1000000 in
theorem move_any (a : Option Addr) (len cap : Nat) (l : List Sh) (n m v : Int) (w : World) (hT : Tab w) (h : IsH w a len cap l) (hm : u8B m) : Calls Tryd.prog 9 #[.slice a len cap, .int .i64 n, .int .u8 m, .int .u8 v] w fun e w' => ∃ a' c', e = .returned (.tuple #[.slice a' (moveR l n m v).1.length c', .int .i64 (moveR l n m v).2]) ∧ IsH w' a' (moveR l n m v).1.length c' (moveR l n m v).1 ∧ Below w.heap.size w w' ∧ Hid (NewA w.heap.size a') := by
  have HV := hide h
  have HTB := hide hT
  have HR : Hid (moveR l n m v = if ¬ (ofR l n).2 = 0 then ([], (ofR l n).2) else if veB v = false then ([], 15) else if ¬ (nxR (ofR l n).1 m).2 = 0 then ([], (nxR (ofR l n).1 m).2) else if asB m = true ∧ v = 1 then ([], 10) else (putL l ⟨n, (nxR (ofR l n).1 m).1⟩, 0)) := hide rfl
  have HOF := hide (of_any a len cap l n w h)
  have HVE := hide (ve_any v)
  have HAS := hide (as_any m)
  have HNX := hide (fun W (hW : Tab W) => next_any (ofR l n).1 m (ofR_u8 h.2.2.2.1 n) hm W hW)
  have HPU : Hid ((ofR l n).2 = 0 → ∀ s W, 0 ≤ s → s < 7 → IsH W a len cap l → Calls Tryd.prog 21 #[.slice a len cap, vs ⟨n, s⟩] W fun e w' => ∃ a' c', e = .returned (.slice a' (putL l ⟨n, s⟩).length c') ∧ IsH w' a' (putL l ⟨n, s⟩).length c' (putL l ⟨n, s⟩) ∧ Below W.heap.size W w' ∧ Hid (NewA W.heap.size a')) := hide (fun h0 s W hs hs' hW => put_any a len cap l ⟨n, s⟩ W hW (ofR_zero h0).1 (by
    have := (ofR_zero h0).2.1
    simp only [orB, decide_eq_true_eq] at this
    unfold okS i64B u8B
    exact ⟨⟨by show _ ≤ n; omega, by show n ≤ _; omega⟩, by show _ ≤ s; omega, by show s ≤ _; omega⟩))
  have HNL := hide (nxR_le (ofR l n).1 m)
  clear h hT hm
  generalize moveR l n m v = R at *
  generalize ofR l n = of at *
  obtain ⟨o1, o2⟩ := of
  dsimp only at *
  generalize nxR o1 m = nx at *
  obtain ⟨n1, n2⟩ := nx
  dsimp only at *
  generalize veB v = bv at *
  generalize asB m = bm at *
  go_enter Tryd.func9, Tryd.ntmps9
  go_wp2_with fail
  refine HOF.out.mono ?_
  rintro e w1 ⟨rfl, hb1⟩
  have HB1 := hide hb1
  have HT1 := hide (HTB.out.below' hb1)
  clear hb1
  by_cases h0 : o2 = 0
  · subst h0
    rw [if_neg (by simp)] at HR
    have HPU' := hide (HPU.out rfl)
    clear HPU
    cases bv
    · rw [if_pos rfl] at HR
      go_wp2_with (first | (go_at_call 19; refine (HVE.out _).mono ?_; rintro e w' ⟨rfl, he'⟩; obtain rfl := he'.symm; clear he'))
      go_ret2
      rw [HR.out]
      exact ⟨none, 0, rfl, isH_nil _, HB1.out, hide (newA_none _)⟩
    · rw [if_neg (by simp)] at HR
      by_cases hn : n2 = 0
      · subst hn
        rw [if_neg (by simp)] at HR
        cases bm
        · rw [if_neg (by simp)] at HR
          have HP := hide (HPU'.out n1 w1 HNL.out.1 HNL.out.2 (HV.out.below' HB1.out))
          generalize putL l ⟨n, n1⟩ = PU at *
          go_wp2_with (first | (go_at_call 19; refine (HVE.out _).mono ?_; rintro e w' ⟨rfl, he'⟩; obtain rfl := he'.symm; clear he') | (go_at_call 20; refine (HNX.out _ HT1.out).mono ?_; rintro e w' ⟨rfl, he'⟩; obtain rfl := he'.symm; clear he') | (go_at_call 10; refine (HAS.out _).mono ?_; rintro e w' ⟨rfl, he'⟩; obtain rfl := he'.symm; clear he') | (go_at_call 21; refine HP.out.mono ?_; rintro e w' ⟨a', c', rfl, HI, HBt, HNt⟩))
          go_ret2
          rw [HR.out]
          exact ⟨a', c', rfl, HI, HB1.out.trans (HBt.mono HB1.out.size), hide (HNt.out.mono HB1.out.size)⟩
        · by_cases hv : v = 1
          · rw [if_pos ⟨rfl, hv⟩] at HR
            subst hv
            go_wp2_with (first | (go_at_call 19; refine (HVE.out _).mono ?_; rintro e w' ⟨rfl, he'⟩; obtain rfl := he'.symm; clear he') | (go_at_call 20; refine (HNX.out _ HT1.out).mono ?_; rintro e w' ⟨rfl, he'⟩; obtain rfl := he'.symm; clear he') | (go_at_call 10; refine (HAS.out _).mono ?_; rintro e w' ⟨rfl, he'⟩; obtain rfl := he'.symm; clear he'))
            go_ret2
            rw [HR.out]
            exact ⟨none, 0, rfl, isH_nil _, HB1.out, hide (newA_none _)⟩
          · rw [if_neg (fun h => hv h.2)] at HR
            have HP := hide (HPU'.out n1 w1 HNL.out.1 HNL.out.2 (HV.out.below' HB1.out))
            generalize putL l ⟨n, n1⟩ = PU at *
            go_wp2_with (first | (go_at_call 19; refine (HVE.out _).mono ?_; rintro e w' ⟨rfl, he'⟩; obtain rfl := he'.symm; clear he') | (go_at_call 20; refine (HNX.out _ HT1.out).mono ?_; rintro e w' ⟨rfl, he'⟩; obtain rfl := he'.symm; clear he') | (go_at_call 10; refine (HAS.out _).mono ?_; rintro e w' ⟨rfl, he'⟩; obtain rfl := he'.symm; clear he') | (go_at_call 21; refine HP.out.mono ?_; rintro e w' ⟨a', c', rfl, HI, HBt, HNt⟩))
            go_ret2
            rw [HR.out]
            exact ⟨a', c', rfl, HI, HB1.out.trans (HBt.mono HB1.out.size), hide (HNt.out.mono HB1.out.size)⟩
      · rw [if_pos hn] at HR
        go_wp2_with (first | (go_at_call 19; refine (HVE.out _).mono ?_; rintro e w' ⟨rfl, he'⟩; obtain rfl := he'.symm; clear he') | (go_at_call 20; refine (HNX.out _ HT1.out).mono ?_; rintro e w' ⟨rfl, he'⟩; obtain rfl := he'.symm; clear he'))
        go_ret2
        rw [HR.out]
        exact ⟨none, 0, rfl, isH_nil _, HB1.out, hide (newA_none _)⟩
  · rw [if_pos h0] at HR
    go_wp2
    go_ret2
    rw [HR.out]
    exact ⟨none, 0, rfl, isH_nil _, HB1.out, hide (newA_none _)⟩
end Go.Proofs.YtfbfmhfceemkgaaDoor
