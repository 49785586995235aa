/- the walk of CrcParts -/
import Derived.Test.YtmfdcbbeieelfaaH
namespace Go.Proofs.Ytmfdcbbeieelfaa
open Go.RowKit
theorem update_lt' (s : Nat) (l : List Nat) (hs : s < 4294967296) (hl : ∀ x ∈ l, x < 256) : Crc.update s l < 4294967296 :=
  Nat.xor_lt_two_pow (n := 32) (by decide) (Crc.upd_lt _ _ (Nat.xor_lt_two_pow (n := 32) (by decide) hs) hl)
theorem ones2 (x : Nat) : 4294967295 ^^^ (4294967295 ^^^ x) = x := by rw [← Nat.xor_assoc, Nat.xor_self, Nat.zero_xor]
theorem parts_go (A B : List Nat) : Crc.update (Crc.update 0 A) B = Crc.update 0 (A ++ B) := by
  unfold Crc.update
  rw [ones2, Crc.upd_append]
theorem parts_put (A B : List Nat) (n : Nat) (hn : B.length = n) : Crc.shN (8 * n) (Crc.update 0 A) ^^^ Crc.update 0 B = Crc.update 0 (A ++ B) := by
  unfold Crc.update
  rw [Crc.upd_append, Nat.xor_zero]
  generalize Crc.upd 4294967295 A = U
  rw [Crc.upd_val, Crc.upd_val, hn, Crc.shN_xor, Crc.shN_xor, Crc.shN_xor]
  generalize Crc.shN (8 * n) 4294967295 = O
  generalize Crc.shN (8 * n) U = u
  generalize Crc.shN (8 * n) (Crc.val B) = b
  have e : O ^^^ u ^^^ (4294967295 ^^^ (O ^^^ b)) = O ^^^ O ^^^ (4294967295 ^^^ (u ^^^ b)) := by ac_rfl
  rw [e, Nat.xor_self, Nat.zero_xor]
set_option maxHeartbeats 400000 in
theorem parts_any (a b : Option Addr) (la ca lb cb : Nat) (A B : List Nat) (w : World) (hA : IsB w a la ca A) (hB : IsB w b lb cb B) (hr : la + lb ≤ 1048576) :
    Calls Try.prog 6 #[.slice a la ca, .slice b lb cb] w fun e w' => e = .returned (.bool true) ∧ Below w.heap.size w w' := by
  have xA := hA.2.2.2.1
  have xB := hB.2.2.2.1
  have lA := update_lt' 0 A (by decide) xA
  have lB := update_lt' 0 B (by decide) xB
  have E1 := hide (parts_go A B)
  have E2 := hide (parts_put A B lb hB.1)
  have xAB : ∀ x ∈ A ++ B, x < 256 := by
    intro x hx
    rcases List.mem_append.1 hx with h | h
    · exact xA x h
    · exact xB x h
  go_enter Try.func6, Try.ntmps6
  go_wp2_with fail
  refine (lives_any _).mono ?_
  rintro e w1 ⟨rfl, hb1⟩
  have hz1 := hb1.size
  go_wp2_with (at_builtin; refine wpList_clone rfl (.tmp 10) (.tmp 11) rfl w1.heap.size _ 0 [] rfl (owns_empty w1 _ (Nat.le_refl _)) a la ca A rfl ?hB ?hb ?hbase w1.heap.size w1 ?bel (Nat.le_refl _) ?_)
  case hB => exact (hA.below hb1).below ((Below.refl _ _).alloc (Nat.le_refl _) _)
  case hb => omega
  case hbase => simp
  case bel => exact (Below.refl _ _).alloc (Nat.le_refl _) _
  intro v w2 hown hb12
  have hb2 : Below w.heap.size w w2 := hb1.trans (hb12.mono hz1)
  have hown' : w2.ownsRow w1.heap.size 5 1 v la (bv A) := by simpa using hown
  have hz2 : w1.heap.size ≤ w2.heap.size := hb12.size
  clear hown hb1 hb12
  go_wp2_with (at_builtin; refine wpList_clone rfl (.tmp 12) (.tmp 13) rfl w1.heap.size _ la (bv A) rfl hown' b lb cb B rfl ?hB ?hb ?hbase w.heap.size w ?bel ?hB0 ?_)
  case hB => exact hB.below hb2
  case hb => omega
  case hbase => exact hz2
  case bel => exact hb2
  case hB0 => exact hz1
  intro v3 w3 hown3 hb3
  rw [← bv_append] at hown3
  obtain ⟨a3, c3, hv3, hB3⟩ := owns_isB hown3 xAB
  subst hv3
  clear hown3 hown' hb2
  go_wp2_with fail
  refine (of_any _ _ _ _ _ hB3).mono ?_
  rintro e w4 ⟨rfl, hb4⟩
  have h4 : Below w.heap.size w w4 := hb3.trans (hb4.mono hb3.size)
  clear hb4 hb3 hB3
  go_wp2_with fail
  refine (of_any _ _ _ _ _ (hA.below h4)).mono ?_
  rintro e w5 ⟨rfl, hb5⟩
  have h5 : Below w.heap.size w w5 := h4.trans (hb5.mono h4.size)
  clear hb5 h4
  go_wp2_with fail
  refine (of_any _ _ _ _ _ (hB.below h5)).mono ?_
  rintro e w6 ⟨rfl, hb6⟩
  have h6 : Below w.heap.size w w6 := h5.trans (hb6.mono h5.size)
  clear hb6 h5
  go_wp2_with fail
  refine (combine_ok _ _ lb lA lB (by omega) _).mono ?_
  rintro e w' ⟨rfl, rfl⟩
  rw [E2.out]
  go_wp2_with fail
  refine (of_any _ _ _ _ _ (hA.below h6)).mono ?_
  rintro e w7 ⟨rfl, hb7⟩
  have h7 : Below w.heap.size w w7 := h6.trans (hb7.mono h6.size)
  clear hb7 h6
  go_wp2_with fail
  refine (update_any _ lA _ _ _ _ _ (hB.below h7)).mono ?_
  rintro e w8 ⟨rfl, hb8⟩
  have h8 : Below w.heap.size w w8 := h7.trans (hb8.mono h7.size)
  clear hb8 h7
  rw [E1.out]
  go_wp2
  go_ret
  exact ⟨rfl, h8⟩
theorem crcParts.lawWalkUpto (a : Option Addr) (la ca : Nat) (A : List Nat) (b : Option Addr) (lb cb : Nat) (B : List Nat) (w : World) (hA : IsB w a la ca A) (hB : IsB w b lb cb B) (hr : la + lb ≤ 1048576) :
    Calls Try.prog 6 #[.slice a la ca, .slice b lb cb] w fun e w' => e = .returned (.bool true) ∧ Below w.heap.size w w' :=
  parts_any a b la ca lb cb A B w hA hB hr
end Go.Proofs.Ytmfdcbbeieelfaa
