/- the walk of CrcCombines -/
import Derived.Test.YtmfdcbbeieelfaaK
import Derived.OpenShut
namespace Go.Proofs.Ytmfdcbbeieelfaa
open Go.RowKit
theorem refCombine_no (a b n : Int) (hn : n < 0 ∨ 2147483648 < n) (w : World) :
    Calls Try.prog 18 #[.int .u32 a, .int .u32 b, .int .i64 n] w fun e w' => e = .returned (.tuple #[.int .u32 0, .int .i64 2]) ∧ w' = w := by
  rcases hn with h | h
  · go_enter Try.func18, Try.ntmps18
    go_wp2
    go_ret2
    exact ⟨rfl, rfl⟩
  · have h0 : ¬ n < 0 := by omega
    go_enter Try.func18, Try.ntmps18
    go_wp2
    go_ret2
    exact ⟨rfl, rfl⟩
set_option maxHeartbeats 1000000 in
theorem refCombine_ok (a b n : Nat) (ha : a < 4294967296) (hb : b < 4294967296) (hn : n ≤ 2147483648) (w : World) :
    Calls Try.prog 18 #[.int .u32 a, .int .u32 b, .int .i64 n] w fun e w' => e = .returned (.tuple #[.int .u32 (Crc.shN (8 * n) a ^^^ b : Nat), .int .i64 0]) ∧ Below w.heap.size w w' := by
  have h1 : ¬ (n : Int) < 0 := by omega
  have h2 : ¬ (2147483648 : Int) < (n : Int) := by omega
  have d1 : decide ((n : Int) < 0) = false := by simp
  have d2 : decide ((2147483648 : Int) < (n : Int)) = false := by simp; omega
  have hs1 : ∀ e k, (Try.prog.info? 47).map (·.size) = some (cols e k).size := fun e k => by rw [Try.info47, cols_size]
  have HS := hide hs1
  clear hs1
  go_enter Try.func18, Try.ntmps18
  go_wp2_with fail
  rw [← cols_zero 8]
  go_loopw [9] (fun i wr => ∃ k : Nat, k ≤ 32 ∧ i = .int .i64 k ∧ wr = w.alloc (.cells (cols 8 k) 47)) (fun i _ => 32 - (intOf i).toNat)
  case atStart => exact ⟨0, by omega, rfl, rfl⟩
  case round =>
    obtain ⟨k, hk, rfl, rfl⟩ := hrel
    by_cases hlt : k < 32
    · have hts := cols_set 8 k hlt
      have hg := cols_get 8 k k hlt
      have hz := cols_size 8 k
      have hl2 := two_lt k hlt
      have e2 : (2 : Int) ^ k % 4294967296 = ((2 ^ k : Nat) : Int) := by
        have h3 : 2 ^ k % 4294967296 = 2 ^ k := Nat.mod_eq_of_lt hl2
        have : ((2 ^ k % 4294967296 : Nat) : Int) = ((2 ^ k : Nat) : Int) := by rw [h3]
        rw [← this]; simp
      have E2 := hide e2
      clear e2
      have C := hide (fun W => bits_any (2 ^ k) hl2 W)
      have hb' : decide ((k : Int) < 32) = true := by simp; omega
      go_wp2_with fail
      rw [E2.out]
      refine (C.out _).mono ?_
      rintro e w' ⟨rfl, rfl⟩
      go_wp2
      go_roundw
      case rel => exact ⟨k + 1, by omega, by go_num, rfl⟩
      case measure => simp [intOf]; omega
    · have ek : cols 8 k = cols 8 32 := by rw [show k = 32 by omega]
      rw [ek]
      clear ek
      have dk : decide ((k : Int) < 32) = false := by simp; omega
      have g0 : (w.alloc (.cells (cols 8 32) 47)).heap[w.heap.size]? = some (.cells (cols (8 * 2 ^ 0) 32) 47 (0, 0)) := heap_alloc_new w _
      have b0 : Below w.heap.size w (w.alloc (.cells (cols 8 32) 47)) := (Below.refl _ _).alloc (Nat.le_refl _) _
      generalize w.alloc (.cells (cols 8 32) 47) = w2 at *
      go_wp2_with fail
      go_loopw [0, 2] (fun x m wr => ∃ q d j : Nat, m = .int .i64 q ∧ Hid (d + q * 2 ^ j = n) ∧ q ≤ n ∧ x = .int .u32 (Crc.shN (8 * d) a : Nat) ∧ wr.heap[w.heap.size]? = some (.cells (cols (8 * 2 ^ j) 32) 47 (0, 0)) ∧ Below w.heap.size w wr) (fun _ m _ => (intOf m).toNat)
      case atStart => exact ⟨n, 0, 0, rfl, hide (by omega), Nat.le_refl _, rfl, g0, b0⟩
      case round =>
        obtain ⟨q, d, j, rfl, hq, hqn, rfl, hr, hbel⟩ := hrel
        clear g0 b0
        have hx := Crc.shN_lt (8 * d) a ha
        by_cases h0 : q = 0
        · subst h0
          have ed : Hid (d = n) := hide (by have := hq.out; omega)
          have hxor := u32_xor_nat _ _ hx hb
          go_wp2
          go_ret2
          exact ⟨by rw [ed.out]; rfl, hbel⟩
        · have hq0 : (0 : Int) < (q : Int) := by omega
          have hdiv : Hid (q = 2 * (q / 2) + q % 2) := hide (by omega)
          have hpow : Hid (2 ^ (j + 1) = 2 * 2 ^ j) := hide (by rw [Nat.pow_succ]; omega)
          have hlt3' : w.heap.size < wr.heap.size := (Array.getElem?_eq_some_iff.1 hr).1
          by_cases hodd : q % 2 = 1
          · have t : ((q : Int) % 2 == 1) = true := by simp; omega
            have E : Hid (Crc.shN (8 * 2 ^ j) (Crc.shN (8 * d) a) = Crc.shN (8 * (d + 2 ^ j)) a) := hide (by rw [← Crc.shN_add, Nat.mul_add, Nat.add_comm])
            go_wp2_with (refine wpList_load_row rfl 47 (.tmp 8) rfl w.heap.size rfl 47 _ (0, 0) _ hr Try.underlying47 rfl (HS.out _ _) ?_)
            refine (refTimes_any _ _ hx _).mono ?_
            rintro e w3 ⟨rfl, hb3⟩
            rw [E.out]
            have hr2 : w3.heap[w.heap.size]? = some (.cells (cols (8 * 2 ^ j) 32) 47 (0, 0)) := (hb3.block _ hlt3').trans hr
            have hbel3 : Below w.heap.size w w3 := hbel.trans (hb3.mono hbel.size)
            have hlt3 : w.heap.size < w3.heap.size := (Array.getElem?_eq_some_iff.1 hr2).1
            clear hr hbel hb3
            go_wp2_with (refine wpList_load_row rfl 47 (.tmp 8) rfl w.heap.size rfl 47 _ (0, 0) _ hr2 Try.underlying47 rfl (HS.out _ _) ?_)
            refine (squared_any _ _).mono ?_
            rintro e w4 ⟨rfl, hb4⟩
            have hr4 : w4.heap[w.heap.size]? = some (.cells (cols (8 * 2 ^ j) 32) 47 (0, 0)) := (hb4.block _ hlt3).trans hr2
            have hbel4 : Below w.heap.size w w4 := hbel3.trans (hb4.mono hbel3.size)
            have hr5 := setRow_heap w4 w.heap.size _ (cols (8 * 2 ^ j + 8 * 2 ^ j) 32) 47 _ hr4
            rw [show 8 * 2 ^ j + 8 * 2 ^ j = 8 * 2 ^ (j + 1) by rw [Nat.pow_succ]; omega] at hr5
            have hbel5 : Below w.heap.size w (w4.setRow w.heap.size (cols (8 * 2 ^ (j + 1)) 32)) := hbel4.trans ⟨rfl, rfl, rfl, by simp, fun k hk => setRow_other w4 _ k _ (by omega)⟩
            rw [show 8 * 2 ^ j + 8 * 2 ^ j = 8 * 2 ^ (j + 1) by rw [Nat.pow_succ]; omega]
            have HR := hide hr5
            have HB := hide hbel5
            clear hr5 hbel5 hbel4
            go_wp2_with (refine wpList_store_row rfl 47 (.tmp 8) (.tmp 35) rfl w.heap.size (cols (8 * 2 ^ (j + 1)) 32) rfl rfl 47 _ hr4 (HS.out _ _) (by rw [cols_size, cols_size]) (cols_one _ _) ?_)
            go_roundw
            case rel => exact ⟨q / 2, d + 2 ^ j, j + 1, by go_num, hide (by have := hq.out; rw [hdiv.out, hodd] at this; rw [hpow.out]; rw [← this]; rw [Nat.add_mul, Nat.mul_assoc, Nat.mul_left_comm]; omega), by omega, rfl, HR.out, HB.out⟩
            case measure => simp [intOf]; omega
          · have h00 : q % 2 = 0 := by omega
            have t : ((q : Int) % 2 == 1) = false := by simp; omega
            have hr2 := hr
            have hbel3 := hbel
            have hlt3 := hlt3'
            clear hr hbel
            go_wp2_with (refine wpList_load_row rfl 47 (.tmp 8) rfl w.heap.size rfl 47 _ (0, 0) _ hr2 Try.underlying47 rfl (HS.out _ _) ?_)
            refine (squared_any _ _).mono ?_
            rintro e w4 ⟨rfl, hb4⟩
            have hr4 : w4.heap[w.heap.size]? = some (.cells (cols (8 * 2 ^ j) 32) 47 (0, 0)) := (hb4.block _ hlt3).trans hr2
            have hbel4 : Below w.heap.size w w4 := hbel3.trans (hb4.mono hbel3.size)
            have hr5 := setRow_heap w4 w.heap.size _ (cols (8 * 2 ^ j + 8 * 2 ^ j) 32) 47 _ hr4
            rw [show 8 * 2 ^ j + 8 * 2 ^ j = 8 * 2 ^ (j + 1) by rw [Nat.pow_succ]; omega] at hr5
            have hbel5 : Below w.heap.size w (w4.setRow w.heap.size (cols (8 * 2 ^ (j + 1)) 32)) := hbel4.trans ⟨rfl, rfl, rfl, by simp, fun k hk => setRow_other w4 _ k _ (by omega)⟩
            rw [show 8 * 2 ^ j + 8 * 2 ^ j = 8 * 2 ^ (j + 1) by rw [Nat.pow_succ]; omega]
            have HR := hide hr5
            have HB := hide hbel5
            clear hr5 hbel5 hbel4
            go_wp2_with (refine wpList_store_row rfl 47 (.tmp 8) (.tmp 35) rfl w.heap.size (cols (8 * 2 ^ (j + 1)) 32) rfl rfl 47 _ hr4 (HS.out _ _) (by rw [cols_size, cols_size]) (cols_one _ _) ?_)
            go_roundw
            case rel => exact ⟨q / 2, d, j + 1, by go_num, hide (by have := hq.out; rw [hdiv.out, h00] at this; rw [hpow.out]; rw [← this]; rw [Nat.add_zero, Nat.mul_assoc, Nat.mul_left_comm]), by omega, rfl, HR.out, HB.out⟩
            case measure => simp [intOf]; omega
theorem combines_ok (a b n : Nat) (ha : a < 4294967296) (hb : b < 4294967296) (hn : n ≤ 2147483648) (w : World) :
    Calls Try.prog 4 #[.int .u32 a, .int .u32 b, .int .i64 n] w fun e w' => e = .returned (.bool true) ∧ Below w.heap.size w w' := by
  go_enter Try.func4, Try.ntmps4
  go_wp2_with fail
  refine (combine_ok a b n ha hb hn _).mono ?_
  rintro e w' ⟨rfl, rfl⟩
  go_wp2_with fail
  refine (refCombine_ok a b n ha hb hn _).mono ?_
  rintro e w2 ⟨rfl, hb2⟩
  go_wp2_with fail
  refine (lives_any _).mono ?_
  rintro e w3 ⟨rfl, hb3⟩
  go_wp2
  go_ret
  exact ⟨rfl, hb2.trans (hb3.mono hb2.size)⟩
theorem combines_no (a b n : Int) (hn : n < 0 ∨ 2147483648 < n) (w : World) :
    Calls Try.prog 4 #[.int .u32 a, .int .u32 b, .int .i64 n] w fun e w' => e = .returned (.bool true) ∧ Below w.heap.size w w' := by
  go_enter Try.func4, Try.ntmps4
  go_wp2_with fail
  refine (combine_no a b n hn _).mono ?_
  rintro e w' ⟨rfl, rfl⟩
  go_wp2_with fail
  refine (refCombine_no a b n hn _).mono ?_
  rintro e w' ⟨rfl, rfl⟩
  go_wp2_with fail
  refine (lives_any _).mono ?_
  rintro e w3 ⟨rfl, hb3⟩
  go_wp2
  go_ret
  exact ⟨rfl, hb3⟩
theorem crcCombines.lawWalk (a b n : Int) (w : World) (wa : (Lit.int .u32 a).wf = true) (wb : (Lit.int .u32 b).wf = true) (_wn : (Lit.int .i64 n).wf = true) :
    Calls Try.prog 4 #[.int .u32 a, .int .u32 b, .int .i64 n] w fun e w' => e = .returned (.bool true) ∧ Below w.heap.size w w' := by
  have ba := bounds_u32 wa
  have bb := bounds_u32 wb
  by_cases h : 0 ≤ n ∧ n ≤ 2147483648
  · obtain ⟨a, rfl⟩ := Int.eq_ofNat_of_zero_le ba.1
    obtain ⟨b, rfl⟩ := Int.eq_ofNat_of_zero_le bb.1
    obtain ⟨n, rfl⟩ := Int.eq_ofNat_of_zero_le h.1
    exact combines_ok a b n (by omega) (by omega) (by omega) w
  · exact combines_no a b n (by omega) w
end Go.Proofs.Ytmfdcbbeieelfaa
