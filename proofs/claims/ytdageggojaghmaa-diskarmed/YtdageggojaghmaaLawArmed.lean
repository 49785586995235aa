/- the walk of DiskArmed -/
import Derived.Test.YtdageggojaghmaaT
namespace Go.Proofs.Ytdageggojaghmaa.diskArmed
open Go.RowKit
def Inv (c : Int) (k : Nat) (st : St) : Prop :=
  (c < 0 ∧ st.arm = false ∧ st.down = false ∧ st.wr = k) ∨ (0 ≤ c ∧ (k : Int) ≤ c ∧ st.arm = true ∧ (st.left : Int) = c - k ∧ st.down = false ∧ st.wr = k) ∨ (0 ≤ c ∧ c < k ∧ st.down = true ∧ (st.wr : Int) = c)
/-- the write number k of an armed disk -/
theorem write_step (W : World) (g gs b N : Nat) (st : St) (h : IsD W g gs b N st) (c : Int) (k : Nat) (hk : k < 100) (hinv : Inv c k st) (i : Nat) (hi : i < N) (x : Nat) (hx : x < 256) :
    Calls Try.prog 25 #[.pointer (some ⟨g, 0, none⟩), .int .i64 (i : Int), .slice (some ⟨W.heap.size, 0, none⟩) 1 1] (W.alloc (.cells #[.int .u8 (x : Nat)] 5)) fun e w' => ∃ (ans : Int) (st' : St), e = .returned (.int .i64 ans) ∧ IsD w' g gs b N st' ∧ Inv c (k + 1) st' ∧ Frm (SD g gs b) W w' ∧ ((c < 0 ∧ ans = 0) ∨ (0 ≤ c ∧ (k : Int) < c ∧ ans = 0) ∨ (0 ≤ c ∧ c ≤ k ∧ ans = 8 ∧ st'.down = true)) := by
  have hb : Below W.heap.size W (W.alloc (.cells #[.int .u8 (x : Nat)] 5)) := (Below.refl _ _).alloc (Nat.le_refl _) _
  rcases hinv with ⟨h1, h2, h3, h4⟩ | ⟨h0, h1, h2, h3, h4, h5⟩ | ⟨h0, h1, h2, h3⟩
  · refine (write_lit W g gs b N st h h3 i hi x hx (by omega) (fun e => by rw [h2] at e; cases e) (0, 0)).mono ?_
    rintro e w' ⟨rfl, hI, hF⟩
    refine ⟨0, _, rfl, hI, .inl ⟨h1, ?_, ?_, ?_⟩, hF, .inl ⟨h1, rfl⟩⟩ <;> simp [St.goes, h2, St.puts, h3, h4]
  · by_cases hlt : (k : Int) < c
    · refine (write_lit W g gs b N st h h4 i hi x hx (by omega) (fun _ => by omega) (0, 0)).mono ?_
      rintro e w' ⟨rfl, hI, hF⟩
      refine ⟨0, _, rfl, hI, .inr (.inl ⟨h0, by omega, ?_, ?_, ?_, ?_⟩), hF, .inr (.inl ⟨h0, hlt, rfl⟩)⟩ <;> simp [St.goes, h2, St.puts, St.less, h4, h5]
      omega
    · refine (write_cut _ g gs b N st (h.below hb) h4 i hi _ 1 1 (by omega) h2 (by omega)).mono ?_
      rintro e w' ⟨rfl, hI, hF⟩
      exact ⟨8, _, rfl, hI, .inr (.inr ⟨h0, by omega, rfl, by show (st.wr : Int) = c; omega⟩), (Frm.below hb).trans hF, .inr (.inr ⟨h0, by omega, rfl, rfl⟩)⟩
  · refine (write_dn _ g gs b N st (h.below hb) h2 i _).mono ?_
    rintro e w' ⟨rfl, rfl⟩
    exact ⟨8, st, rfl, h.below hb, .inr (.inr ⟨h0, by omega, h2, h3⟩), Frm.below hb, .inr (.inr ⟨h0, by omega, rfl, h2⟩)⟩
theorem inv0 (c : Int) : Inv c 0 (st0.arms c) := by
  by_cases h : 0 ≤ c
  · refine .inr (.inl ⟨h, by omega, ?_, ?_, rfl, rfl⟩) <;> simp [St.arms, h]
    omega
  · refine .inl ⟨by omega, ?_, rfl, rfl⟩
    simp [St.arms]; omega
set_option maxRecDepth 40000 in
set_option maxHeartbeats 4000000 in
/-- DiskArmed, where there is no such disk -/
theorem walk_none (n c t : Int) (w : World) (hn : ¬ (1 ≤ n ∧ n ≤ 1024)) :
    Calls Try.prog 6 #[.int .i64 n, .int .i64 c, .int .i64 t] w fun e w' => e = .returned (.bool true) ∧ Below w.heap.size w w' := by
  have LV := hide (lives_true w)
  have NN : Hid (∀ W, Calls Try.prog 10 #[.int .i64 n] W fun e w' => e = .returned (.pointer none) ∧ w' = W) := hide (fun W => new_no W n hn)
  by_cases h1 : n < 1
  · have d1 : decide (n < 1) = true := decide_eq_true h1
    clear hn h1
    go_enter Try.func6, Try.ntmps6
    go_wp2_with fail
    refine LV.out.mono ?_
    rintro e w1 ⟨rfl, hb1⟩
    have HB1 := hide hb1
    clear hb1
    go_wp2_with fail
    refine (NN.out w1).mono ?_
    rintro e w2 ⟨rfl, rfl⟩
    go_wp2
    go_ret
    exact ⟨by simp, HB1.out⟩
  · have d1 : decide (n < 1) = false := decide_eq_false h1
    have d2 : decide (1024 < n) = true := decide_eq_true (by omega)
    clear hn h1
    go_enter Try.func6, Try.ntmps6
    go_wp2_with fail
    refine LV.out.mono ?_
    rintro e w1 ⟨rfl, hb1⟩
    have HB1 := hide hb1
    clear hb1
    go_wp2_with fail
    refine (NN.out w1).mono ?_
    rintro e w2 ⟨rfl, rfl⟩
    go_wp2
    go_ret
    exact ⟨by simp, HB1.out⟩
set_option maxRecDepth 40000 in
set_option maxHeartbeats 4000000 in
/-- DiskArmed, where there is one, and more than 100 tries -/
theorem walk_many (N : Nat) (c t : Int) (w : World) (hN0 : 0 < N) (hN : N ≤ 1024) (hc : c ≤ 9223372036854775807) (ht : 100 < t) :
    Calls Try.prog 6 #[.int .i64 (N : Int), .int .i64 c, .int .i64 t] w fun e w' => e = .returned (.bool true) ∧ Below w.heap.size w w' := by
  have LV := hide (lives_true w)
  have NW : Hid (∀ W, Calls Try.prog 10 #[.int .i64 (N : Int)] W fun e w' => ∃ g gs b, e = .returned (.pointer (some ⟨g, 0, none⟩)) ∧ IsD w' g gs b N st0 ∧ Below W.heap.size W w' ∧ ∀ i, SD g gs b i → W.heap.size ≤ i) := hide (fun W => new_ok W N hN0 hN)
  have d100 : decide (100 < t) = true := decide_eq_true ht
  have HC := hide hc
  have HT := hide ht
  generalize hB : w.heap.size = B at *
  have HBE := hide hB
  clear hB hc ht
  go_enter Try.func6, Try.ntmps6
  go_wp2_with fail
  refine LV.out.mono ?_
  rintro e w1 ⟨rfl, hb1⟩
  have HB1 := hide hb1
  clear hb1
  go_wp2_with fail
  refine (NW.out w1).mono ?_
  rintro e w2 ⟨g, gs, b, rfl, hI2, hb2, hfr⟩
  have HZ1 : B ≤ w1.heap.size := by have := HB1.out.size; have := HBE.out; omega
  have HFR : Hid (∀ i, SD g gs b i → B ≤ i) := hide (fun i hi => Nat.le_trans HZ1 (hfr i hi))
  have H2 := hide hI2
  have HB2 := hide (HB1.out.trans (hb2.mono HZ1))
  clear hI2 hb2 hfr HZ1
  go_wp2_with fail
  refine (arm_up w2 g gs b N st0 H2.out rfl c HC.out).mono ?_
  rintro e w3 ⟨rfl, hI3, hF3⟩
  have HZ : Hid (∀ W, Below B w W → B ≤ W.heap.size) := hide (fun W hW => by have := hW.size; have := HBE.out; omega)
  have H3 := hide hI3
  have HB3 := hide (HB2.out.trans (hF3.toBelow (HZ.out _ HB2.out) HFR.out))
  clear hI3 hF3
  go_wp2_with fail
  go_loopw [8] (fun i wr => ∃ k : Nat, k ≤ 100 ∧ i = .int .i64 k ∧ ∃ st, Hid (IsD wr g gs b N st) ∧ Hid (Inv c k st) ∧ Hid (Below B w wr)) (fun i _ => 100 - (intOf i).toNat)
  case atStart => exact ⟨0, by omega, rfl, _, H3, hide (inv0 c), HB3⟩
  case round =>
    obtain ⟨k, hk, rfl, st, HI, HV, HB⟩ := hrel
    by_cases hlt : k < 100
    · have hkN : k % N < N := Nat.mod_lt _ hN0
      have h := write_step wr g gs b N st HI.out c k hlt HV.out (k % N) hkN k (by omega)
      rw [Int.natCast_emod] at h
      have WS := hide h
      clear h
      go_wp2_with fail
      refine WS.out.mono ?_
      rintro e w4 ⟨ans, st4, rfl, hI4, hV4, hF4, hcase⟩
      have H4 := hide hI4
      have HV4 := hide hV4
      have HB4 := hide (HB.out.trans (hF4.toBelow (HZ.out _ HB.out) HFR.out))
      have DW := hide (down_any w4 g gs b N st4 hI4)
      clear hI4 hV4 hF4 WS
      rcases hcase with ⟨h1, rfl⟩ | ⟨h0, h1, rfl⟩ | ⟨h0, h1, rfl, hdn⟩
      · have d1 : decide (c < 0) = true := decide_eq_true h1
        go_wp2
        go_roundw
        case rel => exact ⟨k + 1, by omega, by simp, st4, H4, HV4, HB4⟩
        case measure => simp [intOf]; omega
      · have d1 : decide (c < 0) = false := decide_eq_false (by omega)
        have d2 : decide ((k : Int) < c) = true := decide_eq_true h1
        go_wp2
        go_roundw
        case rel => exact ⟨k + 1, by omega, by simp, st4, H4, HV4, HB4⟩
        case measure => simp [intOf]; omega
      · have d1 : decide (c < 0) = false := decide_eq_false (by omega)
        have d2 : decide ((k : Int) < c) = false := decide_eq_false (by omega)
        rw [hdn] at DW
        go_wp2_with fail
        refine DW.out.mono ?_
        rintro e w5 ⟨rfl, rfl⟩
        go_wp2
        go_roundw
        case rel => exact ⟨k + 1, by omega, by simp, st4, H4, HV4, HB4⟩
        case measure => simp [intOf]; omega
    · obtain rfl : k = 100 := by omega
      have WR := hide (writes_any wr g gs b N st HI.out)
      rcases HV.out with ⟨h1, h2, h3, h4⟩ | ⟨h0, h1, h2, h3, h4, h5⟩ | ⟨h0, h1, h2, h3⟩
      · have d1 : decide (0 ≤ c) = false := decide_eq_false (by omega)
        rw [h4] at WR
        go_wp2_with fail
        refine WR.out.mono ?_
        rintro e w5 ⟨rfl, rfl⟩
        go_wp2
        go_ret
        exact ⟨rfl, HB.out⟩
      · have d1 : decide (0 ≤ c) = true := decide_eq_true h0
        rw [h5] at WR
        go_wp2_with fail
        refine WR.out.mono ?_
        rintro e w5 ⟨rfl, rfl⟩
        go_wp2
        go_ret
        refine ⟨congrArg (fun b => Ending.returned (Value.bool b)) (?_ : ((100 : Int) == min (max 100 0) c) = true), HB.out⟩
        rw [beq_iff_eq]
        omega
      · have d1 : decide (0 ≤ c) = true := decide_eq_true h0
        rw [h3] at WR
        go_wp2_with fail
        refine WR.out.mono ?_
        rintro e w5 ⟨rfl, rfl⟩
        go_wp2
        go_ret
        refine ⟨congrArg (fun b => Ending.returned (Value.bool b)) (?_ : (c == min (max 100 0) c) = true), HB.out⟩
        rw [beq_iff_eq]
        omega
set_option maxRecDepth 40000 in
set_option maxHeartbeats 4000000 in
/-- DiskArmed, where there is one, and no more than 100 tries -/
theorem walk_few (N : Nat) (c t : Int) (w : World) (hN0 : 0 < N) (hN : N ≤ 1024) (hc : c ≤ 9223372036854775807) (ht : t ≤ 100) :
    Calls Try.prog 6 #[.int .i64 (N : Int), .int .i64 c, .int .i64 t] w fun e w' => e = .returned (.bool true) ∧ Below w.heap.size w w' := by
  have LV := hide (lives_true w)
  have NW : Hid (∀ W, Calls Try.prog 10 #[.int .i64 (N : Int)] W fun e w' => ∃ g gs b, e = .returned (.pointer (some ⟨g, 0, none⟩)) ∧ IsD w' g gs b N st0 ∧ Below W.heap.size W w' ∧ ∀ i, SD g gs b i → W.heap.size ≤ i) := hide (fun W => new_ok W N hN0 hN)
  have d100 : decide (100 < t) = false := decide_eq_false (by omega)
  have HC := hide hc
  have HT := hide ht
  generalize hB : w.heap.size = B at *
  have HBE := hide hB
  clear hB hc ht
  go_enter Try.func6, Try.ntmps6
  go_wp2_with fail
  refine LV.out.mono ?_
  rintro e w1 ⟨rfl, hb1⟩
  have HB1 := hide hb1
  clear hb1
  go_wp2_with fail
  refine (NW.out w1).mono ?_
  rintro e w2 ⟨g, gs, b, rfl, hI2, hb2, hfr⟩
  have HZ1 : B ≤ w1.heap.size := by have := HB1.out.size; have := HBE.out; omega
  have HFR : Hid (∀ i, SD g gs b i → B ≤ i) := hide (fun i hi => Nat.le_trans HZ1 (hfr i hi))
  have H2 := hide hI2
  have HB2 := hide (HB1.out.trans (hb2.mono HZ1))
  clear hI2 hb2 hfr HZ1
  go_wp2_with fail
  refine (arm_up w2 g gs b N st0 H2.out rfl c HC.out).mono ?_
  rintro e w3 ⟨rfl, hI3, hF3⟩
  have HZ : Hid (∀ W, Below B w W → B ≤ W.heap.size) := hide (fun W hW => by have := hW.size; have := HBE.out; omega)
  have H3 := hide hI3
  have HB3 := hide (HB2.out.trans (hF3.toBelow (HZ.out _ HB2.out) HFR.out))
  clear hI3 hF3
  go_wp2_with fail
  go_loopw [8] (fun i wr => ∃ k : Nat, k ≤ t.toNat ∧ i = .int .i64 k ∧ ∃ st, Hid (IsD wr g gs b N st) ∧ Hid (Inv c k st) ∧ Hid (Below B w wr)) (fun i _ => 100 - (intOf i).toNat)
  case atStart => exact ⟨0, by omega, rfl, _, H3, hide (inv0 c), HB3⟩
  case round =>
    obtain ⟨k, hk, rfl, st, HI, HV, HB⟩ := hrel
    by_cases hlt : (k : Int) < t
    · have dk : decide ((k : Int) < t) = true := decide_eq_true hlt
      have hT := HT.out
      have hkN : k % N < N := Nat.mod_lt _ hN0
      have h := write_step wr g gs b N st HI.out c k (by omega) HV.out (k % N) hkN k (by omega)
      rw [Int.natCast_emod] at h
      have WS := hide h
      clear h
      go_wp2_with fail
      refine WS.out.mono ?_
      rintro e w4 ⟨ans, st4, rfl, hI4, hV4, hF4, hcase⟩
      have H4 := hide hI4
      have HV4 := hide hV4
      have HB4 := hide (HB.out.trans (hF4.toBelow (HZ.out _ HB.out) HFR.out))
      have DW := hide (down_any w4 g gs b N st4 hI4)
      clear hI4 hV4 hF4 WS
      rcases hcase with ⟨h1, rfl⟩ | ⟨h0, h1, rfl⟩ | ⟨h0, h1, rfl, hdn⟩
      · have d1 : decide (c < 0) = true := decide_eq_true h1
        go_wp2
        go_roundw
        case rel => exact ⟨k + 1, by omega, by simp, st4, H4, HV4, HB4⟩
        case measure => simp [intOf]; omega
      · have d1 : decide (c < 0) = false := decide_eq_false (by omega)
        have d2 : decide ((k : Int) < c) = true := decide_eq_true h1
        go_wp2
        go_roundw
        case rel => exact ⟨k + 1, by omega, by simp, st4, H4, HV4, HB4⟩
        case measure => simp [intOf]; omega
      · have d1 : decide (c < 0) = false := decide_eq_false (by omega)
        have d2 : decide ((k : Int) < c) = false := decide_eq_false (by omega)
        rw [hdn] at DW
        go_wp2_with fail
        refine DW.out.mono ?_
        rintro e w5 ⟨rfl, rfl⟩
        go_wp2
        go_roundw
        case rel => exact ⟨k + 1, by omega, by simp, st4, H4, HV4, HB4⟩
        case measure => simp [intOf]; omega
    · obtain rfl : k = t.toNat := by omega
      have dk : decide (((t.toNat : Nat) : Int) < t) = false := decide_eq_false (by omega)
      have WR := hide (writes_any wr g gs b N st HI.out)
      rcases HV.out with ⟨h1, h2, h3, h4⟩ | ⟨h0, h1, h2, h3, h4, h5⟩ | ⟨h0, h1, h2, h3⟩
      · have d1 : decide (0 ≤ c) = false := decide_eq_false (by omega)
        rw [h4] at WR
        go_wp2_with fail
        refine WR.out.mono ?_
        rintro e w5 ⟨rfl, rfl⟩
        go_wp2
        go_ret
        exact ⟨rfl, HB.out⟩
      · have d1 : decide (0 ≤ c) = true := decide_eq_true h0
        rw [h5] at WR
        go_wp2_with fail
        refine WR.out.mono ?_
        rintro e w5 ⟨rfl, rfl⟩
        go_wp2
        go_ret
        refine ⟨congrArg (fun b => Ending.returned (Value.bool b)) (?_ : (max t 0 == min (max t 0) c) = true), HB.out⟩
        rw [beq_iff_eq]
        omega
      · have d1 : decide (0 ≤ c) = true := decide_eq_true h0
        rw [h3] at WR
        go_wp2_with fail
        refine WR.out.mono ?_
        rintro e w5 ⟨rfl, rfl⟩
        go_wp2
        go_ret
        refine ⟨congrArg (fun b => Ending.returned (Value.bool b)) (?_ : (c == min (max t 0) c) = true), HB.out⟩
        rw [beq_iff_eq]
        omega
/-- the walk of DiskArmed -/
theorem lawWalk (n c t : Int) (w : World) (_hn : (Lit.int .i64 n).wf = true) (hc : (Lit.int .i64 c).wf = true) (_ht : (Lit.int .i64 t).wf = true) :
    Calls Try.prog 6 #[.int .i64 n, .int .i64 c, .int .i64 t] w fun e w' => e = .returned (.bool true) ∧ Below w.heap.size w w' := by
  have hc' : c ≤ 9223372036854775807 := by simp [Lit.wf] at hc; exact hc.2
  by_cases h : 1 ≤ n ∧ n ≤ 1024
  · obtain ⟨N, rfl⟩ : ∃ N : Nat, n = N := ⟨n.toNat, by omega⟩
    by_cases h1 : 100 < t
    · exact walk_many N c t w (by omega) (by omega) hc' h1
    · exact walk_few N c t w (by omega) (by omega) hc' (by omega)
  · exact walk_none n c t w h
end Go.Proofs.Ytdageggojaghmaa.diskArmed
