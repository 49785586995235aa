/- ShipApart, walked -/
import Derived.Test.YtdiciobdknddkaaDoorLawAgrees
import Derived.Test.YtdiciobdknddkaaDoorK
namespace Go.Proofs.YtdiciobdknddkaaDoor
open Go.RowKit
set_option linter.unusedVariables false
/-- a move that is accepted is done just if the state lets it -/
theorem move_acc {l : List Sh} {n m : Int} (hg : Good 0 l) (hn : orB n = true) (h1 : stB (stL l n) = true) (h2 : mvB m = true) (h3 : mk (stL l n) m ≠ 0) : moveR l n m 0 = (insL l ⟨n, mk (stL l n) m⟩, 0) := by
  have hx : nxR (stL l n) m = (mk (stL l n) m, 0) := by unfold nxR; rw [if_pos ⟨h1, h2⟩, if_neg h3]
  rw [moveR_L, if_neg (by rw [goodL_iff]; exact fun h' => h' ⟨hg, hn⟩), if_neg (by decide), hx, if_neg (by simp), if_neg (by simp)]
theorem apart_lists {l a b : List Sh} {n k m q : Int} (hnk : n ≠ k) (h1 : moveR l n m 0 = (a, 0)) (h2 : moveR l k q 0 = (b, 0)) : ∃ c, moveR a k q 0 = (c, 0) ∧ moveR b n m 0 = (c, 0) := by
  obtain ⟨g, on, ga, ea, s1, s2, s3⟩ := move_done h1 rfl
  obtain ⟨_, ok, gb, eb, t1, t2, t3⟩ := move_done h2 rfl
  have e1 : stL a k = stL l k := by rw [ea, ins_st, if_neg (fun h => hnk h.symm)]
  have e2 : stL b n = stL l n := by rw [eb, ins_st, if_neg hnk]
  refine ⟨insL a ⟨k, mk (stL l k) q⟩, ?_, ?_⟩
  · rw [move_acc ga ok (by rw [e1]; exact t2) t3 (by rw [e1]; exact t1), e1]
  · rw [move_acc gb on (by rw [e2]; exact s2) s3 (by rw [e2]; exact s1), e2, ea, eb, ins_comm _ _ _ (fun h => hnk h.symm)]
set_option maxHeartbeats 1000000 in
theorem apartWalk (a : Option Addr) (len cap : Nat) (l : List Sh) (n k m q : Int) (w : World) (hT : Tab w) (h : IsH w a len cap l) (hl : len * 16 ≤ 140737488355328) (hn : i64B n) (hk : i64B k) (hm : u8B m) (hq : u8B q) : Calls Tryd.prog 7 #[.slice a len cap, .int .i64 n, .int .i64 k, .int .u8 m, .int .u8 q] w fun e w' => e = .returned (.bool true) ∧ Below w.heap.size w w' := by
  have HT := hide hT
  have HI := hide h
  have HM := hide (And.intro hm hq)
  have HL := hide lives_at
  clear hT h hl hn hm hk hq
  by_cases hnk : n = k
  · subst hnk
    go_enter Tryd.func7, Tryd.ntmps7
    go_wp2_with fail
    refine (HL.out w HT.out).mono ?_
    rintro e w1 ⟨rfl, B1⟩
    go_wp2
    go_ret
    exact ⟨rfl, B1.out.1⟩
  · have HNK := hide hnk
    generalize hr1 : moveR l n m 0 = R1
    generalize hr2 : moveR l k q 0 = R2
    obtain ⟨x1, e1⟩ := R1
    obtain ⟨x2, e2⟩ := R2
    have HR1 := hide hr1
    have HR2 := hide hr2
    have HM1 := hide (fun W (t : Tab W) (i : IsH W a len cap l) => move_at hr1 rfl a len cap W t i HM.out.1)
    have HM2 := hide (fun W (t : Tab W) (i : IsH W a len cap l) => move_at hr2 rfl a len cap W t i HM.out.2)
    clear hr1 hr2
    by_cases h12 : e1 = 0 ∧ e2 = 0
    · obtain ⟨rfl, rfl⟩ := h12
      obtain ⟨c, hc1, hc2⟩ := apart_lists HNK.out HR1.out HR2.out
      have HM3 := hide (fun a p cp W (t : Tab W) (i : IsH W a p cp x1) => move_at hc1 rfl a p cp W t i HM.out.2)
      have HM4 := hide (fun a p cp W (t : Tab W) (i : IsH W a p cp x2) => move_at hc2 rfl a p cp W t i HM.out.1)
      clear hc1 hc2
      go_enter Tryd.func7, Tryd.ntmps7
      go_wp2_with fail
      refine (HL.out w HT.out).mono ?_
      rintro e w1 ⟨rfl, B1⟩
      go_wp2_with fail
      refine (HM1.out w1 B1.out.2 (HI.out.below' B1.out.1)).mono ?_
      rintro e w2 ⟨a2, c2, rfl, H2, B2⟩
      go_wp2_with fail
      refine (HM2.out w2 B2.out.2 ((HI.out.below' B1.out.1).below' B2.out.1)).mono ?_
      rintro e w3 ⟨a3, c3, rfl, H3, B3⟩
      go_wp2_with fail
      refine (HM3.out a2 _ c2 w3 B3.out.2 (H2.out.below' B3.out.1)).mono ?_
      rintro e w4 ⟨a4, c4, rfl, H4, B4⟩
      go_wp2_with fail
      refine (HM4.out a3 _ c3 w4 B4.out.2 (H3.out.below' B4.out.1)).mono ?_
      rintro e w5 ⟨a5, c5, rfl, H5, B5⟩
      go_wp2_with fail
      refine (same_at a4 _ c4 a5 _ c5 c w5 B5.out.2 (H4.out.below' B5.out.1) H5.out).mono ?_
      rintro e w6 ⟨rfl, B6⟩
      go_wp2
      go_ret
      have b2 := B1.out.1.trans (B2.out.1.mono B1.out.1.size)
      have b3 := b2.trans (B3.out.1.mono b2.size)
      have b4 := b3.trans (B4.out.1.mono b3.size)
      have b5 := b4.trans (B5.out.1.mono b4.size)
      exact ⟨rfl, b5.trans (B6.out.1.mono b5.size)⟩
    · have HB : Hid (¬ (e1 = 0 ∧ e2 = 0)) := hide h12
      clear h12
      by_cases h1 : e1 = 0
      · have h2 : ¬ e2 = 0 := fun h => HB.out ⟨h1, h⟩
        subst h1
        go_enter Tryd.func7, Tryd.ntmps7
        go_wp2_with fail
        refine (HL.out w HT.out).mono ?_
        rintro e w1 ⟨rfl, B1⟩
        go_wp2_with fail
        refine (HM1.out w1 B1.out.2 (HI.out.below' B1.out.1)).mono ?_
        rintro e w2 ⟨a2, c2, rfl, H2, B2⟩
        go_wp2_with fail
        refine (HM2.out w2 B2.out.2 ((HI.out.below' B1.out.1).below' B2.out.1)).mono ?_
        rintro e w3 ⟨a3, c3, rfl, H3, B3⟩
        go_wp2
        go_ret
        have b2 := B1.out.1.trans (B2.out.1.mono B1.out.1.size)
        exact ⟨rfl, b2.trans (B3.out.1.mono b2.size)⟩
      · go_enter Tryd.func7, Tryd.ntmps7
        go_wp2_with fail
        refine (HL.out w HT.out).mono ?_
        rintro e w1 ⟨rfl, B1⟩
        go_wp2_with fail
        refine (HM1.out w1 B1.out.2 (HI.out.below' B1.out.1)).mono ?_
        rintro e w2 ⟨a2, c2, rfl, H2, B2⟩
        go_wp2_with fail
        refine (HM2.out w2 B2.out.2 ((HI.out.below' B1.out.1).below' B2.out.1)).mono ?_
        rintro e w3 ⟨a3, c3, rfl, H3, B3⟩
        go_wp2
        go_ret
        have b2 := B1.out.1.trans (B2.out.1.mono B1.out.1.size)
        exact ⟨rfl, b2.trans (B3.out.1.mono b2.size)⟩
end Go.Proofs.YtdiciobdknddkaaDoor
