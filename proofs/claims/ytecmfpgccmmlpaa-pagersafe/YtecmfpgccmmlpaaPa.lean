/- a block's cells; putLow, low -/
import Derived.Test.YtecmfpgccmmlpaaDx
import Derived.Test.YtecmfpgccmmlpaaCrX
import Derived.Laws.Bits64
import Derived.Laws.BitsAllLaws
namespace Go.Proofs.Ytecmfpgccmmlpaa
open Go.RowKit
set_option maxRecDepth 40000
theorem cell_bk {w : World} {b j : Nat} {cs : Array Value} {t : TypeId} {v : Value} (h : w.heap[b]? = some (.cells cs t (0, 0))) (hv : cs[j]? = some v) : w.cell? ⟨b, j, none⟩ = some v := by
  simp [World.cell?, h, hv]
theorem froz_bk {w : World} {b : Nat} {cs : Array Value} {t : TypeId} (h : w.heap[b]? = some (.cells cs t (0, 0))) (j : Nat) : w.frozen? ⟨b, j, none⟩ = false := by
  simp [World.frozen?, h]
theorem wr64 (n : Int) (h0 : 0 ≤ n) (h1 : n ≤ 9223372036854775807) : wrap64 n = n := by unfold wrap64; omega
/-- m with n laid at off, the lowest byte first, i bytes -/
def putN (m : List Nat) (off n : Nat) : Nat → List Nat
  | 0 => m
  | i + 1 => (putN m off n i).set (off + i) (n / 2 ^ (8 * i) % 256)
theorem putN_length (m : List Nat) (off n i : Nat) : (putN m off n i).length = m.length := by
  induction i with
  | zero => rfl
  | succ i ih => simp [putN, ih]
theorem putLow_any (w : World) (q len cap : Nat) (m : List Nat) (h : Row w q len cap m) (off n k c : Nat) (hk : k ≤ 8) (hok : off + k ≤ len) :
    Calls Try.prog 31 #[.slice (some ⟨q, off, none⟩) k c, .int .u64 (n : Nat)] w fun e w' => e = .returned (.tuple #[]) ∧ Row w' q len cap (putN m off n k) ∧ Frm (fun i => i = q) w w' := by
  go_enter Try.func31, Try.ntmps31
  go_wp2_with fail
  go_loopw [7] (fun i wr => ∃ j : Nat, j ≤ k ∧ i = .int .i64 (j : Nat) ∧ Row wr q len cap (putN m off n j) ∧ Hid (Frm (fun i => i = q) w wr)) (fun i _ => k - (intOf i).toNat)
  case atStart => exact ⟨0, Nat.zero_le _, rfl, h, hide (Frm.refl _ _)⟩
  case round =>
    obtain ⟨j, hj, rfl, hrow, HF⟩ := hrel
    clear h
    by_cases hjk : j < k
    · have hfz := hrow.frozen (off + j)
      have hce := hrow.cell (j := off + j) (by omega)
      have hset := hide (hrow.set (off + j) (n / 2 ^ (8 * j) % 256))
      have HE : Hid (((n : Int) / 2 ^ (8 * j) % 256) = ((n / 2 ^ (8 * j) % 256 : Nat) : Int)) := hide (by simp)
      have HF2 := hide (Frm.set (S := fun i => i = q) HF.out (j := off + j) rfl (.int .u8 ((n / 2 ^ (8 * j) % 256 : Nat) : Int)))
      clear hrow HF
      go_wp2_with fail
      rw [HE.out]
      exact ⟨⟨j + 1, by omega, by simp, hset.out, HF2⟩, by simp [intOf]; omega⟩
    · have : j = k := by omega
      subst this
      go_wp2_with fail
      go_end0
      exact ⟨rfl, hrow, HF.out⟩
/-- the number whose lowest byte is first -/
def lowN : List Nat → Nat
  | [] => 0
  | x :: l => x + 256 * lowN l
theorem lowN_lt (l : List Nat) (h : ∀ x ∈ l, x < 256) : lowN l < 256 ^ l.length := by
  induction l with
  | nil => decide
  | cons x l ih =>
    have h1 := ih (fun y hy => h y (List.mem_cons_of_mem _ hy))
    have h2 := h x (List.mem_cons_self ..)
    simp only [lowN, List.length_cons, Nat.pow_succ]
    omega
theorem lowN_take (l : List Nat) (i : Nat) (h : i < l.length) : lowN (l.take (i + 1)) = lowN (l.take i) + l.getD i 0 * 256 ^ i := by
  induction l generalizing i with
  | nil => simp at h
  | cons x l ih =>
    cases i with
    | zero => simp [lowN]
    | succ i =>
      have := ih i (by simpa using h)
      simp only [List.take_succ_cons, lowN, this, List.getD_cons_succ, Nat.pow_succ, Nat.mul_add]
      rw [Nat.mul_comm (256 ^ i) 256, Nat.mul_left_comm, Nat.add_assoc]
theorem low_fit (j A x : Nat) (hj : j < 8) (hx : x < 256) (hA : A < 256 ^ j) :
    ∃ T B : Nat, B = A + x * 256 ^ j ∧ IntKind.u64.wrap ((x : Int) * 2 ^ (8 * j)) = (T : Int) ∧ bits .or .u64 (A : Int) (T : Int) = (B : Int) := by
  have hp : (2 : Int) ^ (8 * j) = ((256 ^ j : Nat) : Int) := by
    have : (2 : Nat) ^ (8 * j) = 256 ^ j := by rw [Nat.pow_mul]
    rw [← this]; simp
  have hm : 256 ^ (j + 1) ≤ 18446744073709551616 := Nat.pow_le_pow_right (n := 256) (by decide) (show j + 1 ≤ 8 by omega)
  have hs : A + x * 256 ^ j < 256 ^ (j + 1) := by
    have : (x + 1) * 256 ^ j ≤ 256 * 256 ^ j := Nat.mul_le_mul_right _ hx
    rw [Nat.pow_succ, Nat.mul_comm (256 ^ j) 256]; rw [Nat.add_mul] at this; omega
  refine ⟨x * 256 ^ j, A + x * 256 ^ j, rfl, ?_, ?_⟩
  · rw [hp, IntKind.wrap_u64, ← Int.natCast_mul]; omega
  · have hq := nat_join (8 * j) (x * 256 ^ j) A (by rw [Nat.pow_mul]; exact Nat.mul_mod_left _ _) (by rw [Nat.pow_mul]; exact hA)
    rw [u64_or_nat A (x * 256 ^ j) (by omega) (by omega), Nat.or_comm, hq, Nat.add_comm]
theorem low_any (w : World) (a : Option Addr) (len cap : Nat) (l : List Nat) (h : IsB w a len cap l) (hk : len ≤ 8) :
    Calls Try.prog 36 #[.slice a len cap] w fun e w' => e = .returned (.int .u64 (lowN l : Nat)) ∧ w' = w := by
  go_enter Try.func36, Try.ntmps36
  go_wp2_with fail
  go_loopw [8, 3] (fun i n wr => ∃ j A : Nat, j ≤ len ∧ i = .int .i64 (j : Nat) ∧ n = .int .u64 (A : Nat) ∧ Hid (A = lowN (l.take j)) ∧ wr = w) (fun i _ _ => len - (intOf i).toNat)
  case atStart => exact ⟨0, 0, Nat.zero_le _, rfl, rfl, hide rfl, rfl⟩
  case round =>
    obtain ⟨j, A, hj, rfl, rfl, HA, rfl⟩ := hrel
    by_cases hjk : j < len
    · obtain ⟨hl, _, _, hxs, h5⟩ := h
      rcases h5 with ⟨h0, _⟩ | ⟨b, off, rfl, hlt, hc⟩
      · omega
      have hcj := hc j hjk
      have hx := getD_lt l j hxs
      have HT := hide (lowN_take l j (by omega))
      have hA : A < 256 ^ j := by
        have := lowN_lt (l.take j) (mem_take hxs)
        rw [HA.out]; rwa [List.length_take, Nat.min_eq_left (by omega)] at this
      obtain ⟨T, B, hB, hT, hO⟩ := low_fit j A _ (by omega) hx hA
      have HB : Hid (B = lowN (l.take (j + 1))) := hide (by rw [HT.out, hB, HA.out])
      clear hc HT hA hB HA hxs
      generalize l.getD j 0 = x at *
      go_wp2_with fail
      exact ⟨⟨j + 1, B, by omega, by simp, rfl, HB, trivial⟩, by simp [intOf]; omega⟩
    · have : j = len := by omega
      subst this
      have HB : Hid (A = lowN l) := hide (by rw [HA.out, List.take_of_length_le (by have := h.1; omega)])
      go_wp2_with fail
      go_ret
      exact ⟨by rw [← HB.out]; rfl, rfl⟩
end Go.Proofs.Ytecmfpgccmmlpaa
