/- the walk of CrcTells -/
import Derived.Test.YtmfdcbbeieelfaaJ
namespace Go.Proofs.Ytmfdcbbeieelfaa
open Go.RowKit
theorem tmod_pow (q k : Nat) : ((q : Int) / 2 ^ k).tmod 2 = ((q / 2 ^ k % 2 : Nat) : Int) := by
  have e : (q : Int) / 2 ^ k = ((q / 2 ^ k : Nat) : Int) := by simp
  rw [e, Int.tmod_eq_emod_of_nonneg (Int.natCast_nonneg _)]
  simp
theorem xor_bit (x r : Nat) (hx : x < 256) (hr : r < 8) : bits .xor .u8 (x : Int) (2 ^ r % 256) = ((x ^^^ 2 ^ r : Nat) : Int) := by
  have h2 : 2 ^ r < 256 := by
    have := Nat.pow_le_pow_right (n := 2) (by decide) (show r ≤ 7 by omega)
    omega
  have e : (2 : Int) ^ r % 256 = ((2 ^ r : Nat) : Int) := by
    have h3 : 2 ^ r % 256 = 2 ^ r := Nat.mod_eq_of_lt h2
    have : ((2 ^ r % 256 : Nat) : Int) = ((2 ^ r : Nat) : Int) := by rw [h3]
    rw [← this]; simp
  rw [e, u8_xor_nat x (2 ^ r) hx h2]
theorem bit_lt (x r : Nat) (hx : x < 256) (hr : r < 8) : x ^^^ 2 ^ r < 256 := by
  refine Nat.xor_lt_two_pow (n := 8) hx ?_
  have := Nat.pow_le_pow_right (n := 2) (by decide) (show r ≤ 7 by omega)
  omega
theorem tells_val {l m : List Nat} {p k j r M : Nat} (hj : j < m.length) (hv : Crc.val m = Crc.val l ^^^ 2 ^ p * M) (hjr : 8 * j + r = p + k) : Crc.val (m.set j (m.getD j 0 ^^^ 2 ^ r)) = Crc.val l ^^^ 2 ^ p * (M ^^^ 2 ^ k) := by
  rw [val_set m j _ hj, hv, ← Nat.pow_add, hjr, mul_xor, ← Nat.pow_add, Nat.xor_assoc]
theorem tells_ne {M k : Nat} (h : M < 2 ^ k) : M ^^^ 2 ^ k ≠ 0 := by
  intro h0
  have : (M ^^^ 2 ^ k).testBit k = true := by
    rw [Nat.testBit_xor, Nat.testBit_lt_two_pow h, Nat.testBit_two_pow_self]; rfl
  rw [h0] at this; simp at this
theorem tells_idle (a : Option Addr) (len cap : Nat) (p q : Int) (w : World) (hlen : len ≤ 140737488351232)
    (h : len = 0 ∨ len ≠ 0 ∧ q = 0 ∨ len ≠ 0 ∧ q ≠ 0 ∧ p < 0 ∨ len ≠ 0 ∧ q ≠ 0 ∧ ¬ p < 0 ∧ 8 * (len : Int) ≤ p) :
    Calls Try.prog 7 #[.slice a len cap, .int .i64 p, .int .u32 q] w fun e w' => e = .returned (.bool true) ∧ Below w.heap.size w w' := by
  rcases h with rfl | ⟨h1, rfl⟩ | ⟨h1, h2, h3⟩ | ⟨h1, h2, h3, h4⟩
  · go_enter Try.func7, Try.ntmps7
    go_wp2_with fail
    refine (lives_any _).mono ?_
    rintro e w1 ⟨rfl, hb1⟩
    go_wp2
    go_ret
    exact ⟨rfl, hb1⟩
  · have t1 : ((len : Int) == 0) = false := by simp; omega
    go_enter Try.func7, Try.ntmps7
    go_wp2_with fail
    refine (lives_any _).mono ?_
    rintro e w1 ⟨rfl, hb1⟩
    go_wp2
    go_ret
    exact ⟨rfl, hb1⟩
  · have t1 : ((len : Int) == 0) = false := by simp; omega
    have t2 : (q == 0) = false := by simpa using h2
    go_enter Try.func7, Try.ntmps7
    go_wp2_with fail
    refine (lives_any _).mono ?_
    rintro e w1 ⟨rfl, hb1⟩
    go_wp2
    go_ret
    exact ⟨rfl, hb1⟩
  · have t1 : ((len : Int) == 0) = false := by simp; omega
    have t2 : (q == 0) = false := by simpa using h2
    go_enter Try.func7, Try.ntmps7
    go_wp2_with fail
    refine (lives_any _).mono ?_
    rintro e w1 ⟨rfl, hb1⟩
    go_wp2
    go_ret
    exact ⟨rfl, hb1⟩
set_option maxHeartbeats 1000000 in
theorem tells_busy (a : Option Addr) (len cap : Nat) (l : List Nat) (p q : Nat) (w : World) (h : IsB w a len cap l) (hr : cap ≤ 140737488351232) (hq0 : q ≠ 0) (hp : p < 8 * len) :
    Calls Try.prog 7 #[.slice a len cap, .int .i64 p, .int .u32 q] w fun e w' => e = .returned (.bool true) ∧ Below w.heap.size w w' := by
  have hcl : len ≤ cap := h.2.1
  have hx := h.2.2.2.1
  have hl := hide h.1
  have t1 : ((len : Int) == 0) = false := by simp; omega
  have t2 : ((q : Int) == 0) = false := by simp; omega
  have t3 : ¬ (p : Int) < 0 := by omega
  have t4 : ¬ 8 * (len : Int) ≤ (p : Int) := by omega
  have d3 : decide ((p : Int) < 0) = false := by simp
  have d4 : decide (8 * (len : Int) ≤ (p : Int)) = false := by simp; omega
  go_enter Try.func7, Try.ntmps7
  go_wp2_with fail
  refine (lives_any _).mono ?_
  rintro e w1 ⟨rfl, hb1⟩
  go_wp2_with (at_builtin; refine wpList_clone rfl (.tmp 31) (.tmp 32) rfl w1.heap.size _ 0 [] rfl (owns_empty w1 _ (Nat.le_refl _)) a len cap l rfl ?hB ?hb ?hbase w.heap.size w ?bel ?hB0 ?_)
  case hB => exact (h.below hb1).below ((Below.refl _ _).alloc (Nat.le_refl _) _)
  case hb => omega
  case hbase => simp
  case bel => exact hb1.alloc hb1.size _
  case hB0 => exact hb1.size
  intro v w2 hown hb2
  have hown' : w2.ownsRow w1.heap.size 5 1 v len (bv l) := by simpa using hown
  obtain ⟨g, cp, hv, hg, hrow⟩ := Row.of_owns hown' (by omega)
  subst hv
  have hgw : w.heap.size ≤ g := Nat.le_trans hb1.size hg
  clear hown hown' hb1 hg
  go_wp2_with fail
  go_loopw [8, 9, 10] (fun sm i _ wr => ∃ (k : Nat) (m : List Nat) (M : Nat), k ≤ 32 ∧ i = .int .i64 k ∧ sm = .bool (decide (M ≠ 0)) ∧ Row wr g len cp m ∧ (∀ x ∈ m, x < 256) ∧ M < 2 ^ k ∧ Hid (Crc.val m = Crc.val l ^^^ 2 ^ p * M) ∧ Below w.heap.size w wr) (fun _ i _ _ => 32 - (intOf i).toNat)
  case atStart => exact ⟨0, l, 0, by omega, rfl, rfl, hrow, hx, by decide, hide (by simp), hb2⟩
  case round =>
    obtain ⟨k, m, M, hk, rfl, rfl, hr1, hm, hM, hval, hb⟩ := hrel
    clear hb2 hrow t1 t2 t3 t4 d3 d4
    by_cases hlt : k < 32
    · have hdk : decide ((k : Int) < 32) = true := by simp; omega
      obtain ⟨t, ht⟩ : ∃ t : Nat, (p : Int) + (k : Int) = (t : Int) := ⟨p + k, by simp⟩
      have Ht : Hid (t = p + k) := hide (by omega)
      have hM2 : M < 2 ^ (k + 1) := by rw [Nat.pow_succ]; omega
      by_cases hin : p + k < 8 * len
      · by_cases hbit : q / 2 ^ k % 2 = 1
        · have u1 : (t : Int) < 8 * (len : Int) := by omega
          have u2 : (((q : Int) / 2 ^ k).tmod 2 == 1) = true := by rw [tmod_pow, hbit]; rfl
          obtain ⟨j, hj⟩ : ∃ j : Nat, (t : Int) / 8 = (j : Int) := ⟨t / 8, by simp⟩
          obtain ⟨r, hr8⟩ : ∃ r : Nat, (t : Int) % 8 = (r : Int) := ⟨t % 8, by simp⟩
          have hjl : j < len := by omega
          have hrl : r < 8 := by omega
          have Hjr : Hid (8 * j + r = t) := hide (by omega)
          have hc := hr1.cell hjl
          have hf := hr1.frozen j
          have hxl := getD_lt m j hm
          have HV : Hid (Crc.val (m.set j (m.getD j 0 ^^^ 2 ^ r)) = Crc.val l ^^^ 2 ^ p * (M ^^^ 2 ^ k)) := hide (tells_val (by rw [hr1.1]; exact hjl) hval.out (by rw [Hjr.out, Ht.out]))
          have HR : Hid (Row (wr.setCell ⟨g, j, none⟩ (.int .u8 ((m.getD j 0 ^^^ 2 ^ r : Nat) : Int))) g len cp (m.set j (m.getD j 0 ^^^ 2 ^ r))) := hide (hr1.set j _)
          have HM : Hid (∀ x ∈ m.set j (m.getD j 0 ^^^ 2 ^ r), x < 256) := hide (mem_set hm (bit_lt _ _ hxl hrl))
          have hb' : Hid (Below w.heap.size w (wr.setCell ⟨g, j, none⟩ (.int .u8 ((m.getD j 0 ^^^ 2 ^ r : Nat) : Int)))) := hide (hb.setCell hgw _)
          have HN : Hid (M ^^^ 2 ^ k ≠ 0) := hide (tells_ne hM)
          have HL : Hid (M ^^^ 2 ^ k < 2 ^ (k + 1)) := hide (Nat.xor_lt_two_pow hM2 (Nat.pow_lt_pow_right (by decide) (by omega)))
          have hxb := xor_bit (m.getD j 0) r hxl hrl
          clear hbit hr1 hm hval hb hM hM2
          generalize hG : m.getD j 0 = x at *
          clear hG
          go_wp2
          go_roundw
          case rel => exact ⟨k + 1, _, M ^^^ 2 ^ k, by omega, by go_num, by simp [HN.out], HR.out, HM.out, HL.out, HV, hb'.out⟩
          case measure => simp [intOf]; omega
        · have hbit0 : q / 2 ^ k % 2 = 0 := by omega
          have u1 : (t : Int) < 8 * (len : Int) := by omega
          have u2 : (((q : Int) / 2 ^ k).tmod 2 == 1) = false := by rw [tmod_pow, hbit0]; rfl
          clear hbit hbit0
          go_wp2
          go_roundw
          case rel => exact ⟨k + 1, m, M, by omega, by go_num, rfl, hr1, hm, hM2, hval, hb⟩
          case measure => simp [intOf]; omega
      · have u1 : ¬ (t : Int) < 8 * (len : Int) := by omega
        have u2 : decide ((t : Int) < 8 * (len : Int)) = false := by simp; omega
        go_wp2
        go_roundw
        case rel => exact ⟨k + 1, m, M, by omega, by go_num, rfl, hr1, hm, hM2, hval, hb⟩
        case measure => simp [intOf]; omega
    · obtain rfl : k = 32 := by omega
      by_cases hM0 : M = 0
      · subst hM0
        go_wp2
        go_ret
        exact ⟨rfl, hb⟩
      · have hne := update_ne 0 l m p M (by rw [hr1.1, hl.out]) (by rw [hl.out]; omega) hM0 hM hval.out
        have hn : (((Crc.update 0 m : Nat) : Int) != ((Crc.update 0 l : Nat) : Int)) = true := by
          rw [bne_iff_ne]; intro h0; exact hne (Int.ofNat.inj h0)
        have hd : decide (M ≠ 0) = true := by simpa using hM0
        have hB := hr1.isB hm
        have hA := h.below hb
        clear hne hval hM0 hM
        go_wp2_with fail
        refine (of_any _ _ _ m _ hB).mono ?_
        rintro e w3 ⟨rfl, hb3⟩
        go_wp2_with fail
        refine (of_any _ _ _ l _ (hA.below hb3)).mono ?_
        rintro e w4 ⟨rfl, hb4⟩
        go_wp2
        go_ret
        have h3 : Below w.heap.size w w3 := hb.trans (hb3.mono hb.size)
        exact ⟨rfl, h3.trans (hb4.mono h3.size)⟩
theorem crcTells.lawWalk (a : Option Addr) (len cap : Nat) (l : List Nat) (p q : Int) (w : World) (h : IsB w a len cap l) (hr : cap ≤ 140737488351232) (wp : (Lit.int .i64 p).wf = true) (wq : (Lit.int .u32 q).wf = true) :
    Calls Try.prog 7 #[.slice a len cap, .int .i64 p, .int .u32 q] w fun e w' => e = .returned (.bool true) ∧ Below w.heap.size w w' := by
  have bq := bounds_u32 wq
  have hcl : len ≤ cap := h.2.1
  by_cases hg : len ≠ 0 ∧ q ≠ 0 ∧ 0 ≤ p ∧ p < 8 * (len : Int)
  · obtain ⟨q, rfl⟩ := Int.eq_ofNat_of_zero_le bq.1
    obtain ⟨p, rfl⟩ := Int.eq_ofNat_of_zero_le hg.2.2.1
    exact tells_busy a len cap l p q w h hr (by omega) (by omega)
  · exact tells_idle a len cap p q w (by omega) (by omega)
end Go.Proofs.Ytmfdcbbeieelfaa
