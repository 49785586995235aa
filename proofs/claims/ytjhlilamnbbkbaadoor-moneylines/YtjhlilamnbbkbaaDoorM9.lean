/- contracts: Same, lives -/
import Derived.Test.YtjhlilamnbbkbaaDoorM8
namespace Go.Proofs.YtjhlilamnbbkbaaDoor
open Go.RowKit Go.Shelf Go.Sort Go.Lib
set_option maxHeartbeats 400000 in
theorem same_some (b1 o1 c1 b2 o2 c2 len : Nat) (l : List Int) (w : World) (hlen : len ≤ 17592186044416) (q1 : b1 < w.heap.size) (q2 : b2 < w.heap.size)
    (h1 : ∀ i, i < len → w.cell? ⟨b1, o1 + i, none⟩ = some (.int .i64 (l.getD i 0))) (h2 : ∀ i, i < len → w.cell? ⟨b2, o2 + i, none⟩ = some (.int .i64 (l.getD i 0))) :
    Calls Tryd.prog 25 #[.slice (some ⟨b1, o1, none⟩) len c1, .slice (some ⟨b2, o2, none⟩) len c2] w fun e w' => e = .returned (.bool true) ∧ Below w.heap.size w w' := by
  have t0 : ((len : Int) != (len : Int)) = false := by simp
  go_enter Tryd.func25, Tryd.ntmps25
  go_wp2_with fail
  go_loopw [5, 13] (fun _ i wr => ∃ k : Nat, k ≤ len ∧ i = .int .i64 k ∧ Below w.heap.size w wr) (fun _ i _ => len - (RowKit.intOf i).toNat)
  case atStart => exact ⟨0, by omega, rfl, Below.refl _ _⟩
  case round =>
    obtain ⟨k, hk, rfl, hb⟩ := hrel
    by_cases hlt : k < len
    · have x1 := (hb.cell (p := ⟨b1, o1 + k, none⟩) q1).trans (h1 k hlt)
      have x2 := (hb.cell (p := ⟨b2, o2 + k, none⟩) q2).trans (h2 k hlt)
      clear h1 h2
      generalize l.getD k 0 = x at *
      have t : (x != x) = false := by simp
      go_wp2
      go_quiet (fail)
      go_wp2
      go_roundw
      case rel => exact ⟨k + 1, by omega, by go_num, below_drewN hb _⟩
      case measure => simp [RowKit.intOf]; omega
    · go_wp2
      go_ret
      exact ⟨rfl, hb⟩
theorem same_none (a b : Option Addr) (c1 c2 : Nat) (w : World) :
    Calls Tryd.prog 25 #[.slice a 0 c1, .slice b 0 c2] w fun e w' => e = .returned (.bool true) ∧ Below w.heap.size w w' := by
  go_enter Tryd.func25, Tryd.ntmps25
  go_wp2_with fail
  go_loop [13] (fun i => i = .int .i64 0) (fun _ => 0)
  case atStart => rfl
  case round =>
    obtain rfl := hrel
    go_wp2
    go_ret
    exact ⟨rfl, Below.refl _ _⟩
/-- ladingref01.Same, of lists that are one -/
theorem same_any (a b : Option Addr) (la ca lb cb : Nat) (l : List Int) (w : World) (ha : IsI w a la ca l) (hb : IsI w b lb cb l) (hlen : la ≤ 17592186044416) :
    Calls Tryd.prog 25 #[.slice a la ca, .slice b lb cb] w fun e w' => e = .returned (.bool true) ∧ Below w.heap.size w w' := by
  have e : la = lb := by rw [← ha.1, hb.1]
  subst e
  rcases ha.2.2.2.2 with ⟨rfl, _⟩ | ⟨b1, o1, rfl, q1, h1⟩
  · exact same_none a b ca cb w
  · rcases hb.2.2.2.2 with ⟨rfl, _⟩ | ⟨b2, o2, rfl, q2, h2⟩
    · exact same_none _ _ ca cb w
    · exact same_some b1 o1 ca b2 o2 cb la l w hlen q1 q2 h1 h2
theorem share_100 : share 100 [1, 1, 1] = [34, 33, 33] := by decide
theorem par_1230 : par [49, 50, 46, 51, 48] = (1230, 0) := by decide +kernel
theorem txt_5 : txt (-5) = [45, 48, 46, 48, 53] := by
  unfold txt body
  rw [if_pos (by decide), show (-5 : Int).natAbs / 100 = 0 from rfl, dec_small 0 (by decide)]
  rfl
set_option maxHeartbeats 1000000 in
/-- ladinglaw01.lives -/
theorem lives_any (w : World) (htab : POW w) :
    Calls Tryd.prog 20 #[] w fun e w' => e = .returned (.bool true) ∧ Below w.heap.size w w' := by
  have HT := hide htab
  clear htab
  have A := hide (fun W => add_any 9223372036854775807 1 W ⟨by decide, by decide⟩ ⟨by decide, by decide⟩)
  rw [show (9223372036854775807 : Int) + 1 = 9223372036854775808 from rfl, num_out (fun h => absurd h.2 (by decide)), err_out (fun h => absurd h.2 (by decide))] at A
  have M := hide (fun W => mul_any (-3) 5 W ⟨by decide, by decide⟩ ⟨by decide, by decide⟩)
  rw [show (-3 : Int) * 5 = -15 from rfl, num_in ⟨by decide, by decide⟩, err_in ⟨by decide, by decide⟩] at M
  have X := hide (fun W hW => text_any (-5) ⟨by decide, by decide⟩ W hW)
  rw [txt_5] at X
  have Q := hide (fun W => parse_any [49, 50, 46, 51, 48] (by decide) W)
  rw [par_1230] at Q
  go_enter Tryd.func20, Tryd.ntmps20
  go_wp2_with fail
  refine (A.out _).mono ?_
  rintro e w1 ⟨rfl, hb1⟩
  go_wp2_with fail
  refine (M.out _).mono ?_
  rintro e w' ⟨rfl, rfl⟩
  go_wp2_with fail
  refine (share_ok 100 _ 0 3 3 [1, 1, 1] _ (by decide) (isI_lit _ [1, 1, 1] (by decide) (by decide) (0, 0)) (by decide) (by decide) (by decide) ⟨by decide, by decide⟩ ?hp).mono ?_
  case hp =>
    intro k hk W
    have : [1, 1, 1].getD k (0 : Int) = 1 := by
      match k, hk with
      | 0, _ => rfl
      | 1, _ => rfl
      | 2, _ => rfl
    rw [this]
    exact part_low 100 1 3 (by decide) (by decide) (by decide) (by decide) (by decide) (by decide) W
  rintro e w3 ⟨g, rfl, hr3, hg3, hb3⟩
  rw [show ((100 : Nat) : Int) = 100 from rfl, share_100] at hr3
  have h3 : Below w.heap.size w w3 := hb1.trans ((((Below.refl _ _).alloc (Nat.le_refl _) _).trans (hb3.mono (by simp))).mono hb1.size)
  clear hb3 hb1 hg3
  go_wp2_with fail
  refine (Q.out _).mono ?_
  rintro e w4 ⟨rfl, hb4⟩
  have h4 : Below w.heap.size w w4 := h3.trans (hb4.mono h3.size)
  have hr4 := hr3.below hb4 hr3.lt
  clear hb4 h3 hr3
  go_wp2_with fail
  have hr5 := hr4.below ((Below.refl _ _).alloc (Nat.le_refl _) (.cells (iv [34, 33, 33]).toArray 2)) hr4.lt
  refine (same_any _ _ 3 3 3 3 [34, 33, 33] _ (hr5.isI (by decide)) (isI_lit w4 [34, 33, 33] (by decide) (by decide) (0, 0)) (by decide)).mono ?_
  rintro e w6 ⟨rfl, hb6⟩
  have h6 : Below w.heap.size w w6 := h4.trans ((((Below.refl _ _).alloc (Nat.le_refl _) _).trans (hb6.mono (by simp))).mono h4.size)
  clear hb6 hr4 hr5
  go_wp2_with fail
  refine (X.out _ (POW.below HT.out h6)).mono ?_
  rintro e w7 ⟨rfl, hb7⟩
  have h7 : Below w.heap.size w w7 := h6.trans (hb7.mono h6.size)
  clear hb7 h6
  go_wp2
  go_ret
  exact ⟨rfl, h7⟩
end Go.Proofs.YtjhlilamnbbkbaaDoor
