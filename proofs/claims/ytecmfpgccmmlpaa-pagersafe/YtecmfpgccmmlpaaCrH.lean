/- contracts: the document's Update, Of, Same -/
import Derived.Test.YtecmfpgccmmlpaaCrG
import Derived.OpenShut
namespace Go.Proofs.Ytecmfpgccmmlpaa
open Go.RowKit
set_option maxRecDepth 40000
set_option maxHeartbeats 400000 in
theorem refUpdate_some (s : Nat) (hs : s < 4294967296) (b off len cap : Nat) (l : List Nat) (w : World) (hl : l.length = len) (hcl : len ≤ cap) (hc : cap ≤ maxLen) (hx : ∀ x ∈ l, x < 256)
    (hcell : ∀ i, i < len → w.cell? ⟨b, off + i, none⟩ = some (.int .u8 (l.getD i 0 : Nat))) :
    Calls Try.prog 70 #[.int .u32 s, .slice (some ⟨b, off, none⟩) len cap] w fun e w' => e = .returned (.int .u32 (Crc.update s l : Nat)) ∧ w' = w := by
  unfold maxLen at hc
  have hsg : IntKind.u32.signed = false := rfl
  have hmx : IntKind.u32.max = 4294967295 := rfl
  have hn := not_u32 s hs
  have hs2 : 4294967295 ^^^ s < 4294967296 := Nat.xor_lt_two_pow (n := 32) (by decide) hs
  have hfin : Hid (Crc.update s l = 4294967295 ^^^ Crc.upd (4294967295 ^^^ s) l) := hide rfl
  generalize hg : 4294967295 ^^^ s = s2 at *
  clear hg
  go_enter Try.func70, Try.ntmps70
  go_wp2_with fail
  clear hn
  go_loop [5, 7, 12] (fun c _ i => ∃ k : Nat, k ≤ len ∧ i = .int .i64 k ∧ c = .int .u32 (Crc.upd s2 (l.take k) : Nat)) (fun _ _ i => len - (intOf i).toNat)
  case atStart => exact ⟨0, Nat.zero_le _, rfl, rfl⟩
  case round =>
    obtain ⟨k, hk, rfl, rfl⟩ := hrel
    have hul := Crc.upd_lt s2 (l.take k) hs2 (mem_take hx)
    by_cases hlt : k < len
    · have hcx : w.cell? ⟨b, off + k, none⟩ = some (.int .u8 (l.getD k 0 : Nat)) := hcell k hlt
      have hx1 := getD_lt l k hx
      have HU : Hid (Crc.upd s2 (l.take (k + 1)) = Crc.shN 8 (Crc.upd s2 (l.take k) ^^^ l.getD k 0)) := hide (upd_take s2 l k (by omega))
      clear hcell hx
      generalize l.getD k 0 = x at *
      generalize Crc.upd s2 (l.take k) = c at *
      obtain ⟨d, hd, Hd, e1⟩ := xor_byte c x hul hx1
      go_wp2_with (go_at_call 76; refine (bits_any d hd _).mono ?_; rintro e w' ⟨rfl, rfl⟩)
      go_round
      case rel => exact ⟨k + 1, by omega, by go_num, by rw [HU.out, ← Hd.out]⟩
      case measure => simp [intOf]; omega
    · have htk : l.take k = l := List.take_of_length_le (by omega)
      rw [htk]
      rw [htk] at hul
      clear htk
      have hn := not_u32 _ hul
      generalize Crc.upd s2 l = c at *
      go_wp2
      go_ret
      exact ⟨ret_u32 (by rw [hfin.out]), rfl⟩
theorem refUpdate_none (s : Nat) (hs : s < 4294967296) (a : Option Addr) (cap : Nat) (w : World) :
    Calls Try.prog 70 #[.int .u32 s, .slice a 0 cap] w fun e w' => e = .returned (.int .u32 (Crc.update s [] : Nat)) ∧ w' = w := by
  have hsg : IntKind.u32.signed = false := rfl
  have hmx : IntKind.u32.max = 4294967295 := rfl
  have hn := not_u32 s hs
  have hs2 : 4294967295 ^^^ s < 4294967296 := Nat.xor_lt_two_pow (n := 32) (by decide) hs
  have hfin : Hid (Crc.update s [] = 4294967295 ^^^ (4294967295 ^^^ s)) := hide rfl
  generalize hg : 4294967295 ^^^ s = s2 at *
  clear hg
  have hn2 := not_u32 s2 hs2
  go_enter Try.func70, Try.ntmps70
  go_wp2_with fail
  clear hn
  go_loop [5, 12] (fun c i => c = .int .u32 s2 ∧ i = .int .i64 0) (fun _ _ => 0)
  case atStart => exact ⟨rfl, rfl⟩
  case round =>
    obtain ⟨rfl, rfl⟩ := hrel
    go_wp2
    go_ret
    exact ⟨ret_u32 (by rw [hfin.out]), rfl⟩
/-- ladingref02.Update -/
theorem refUpdate_any (s : Nat) (hs : s < 4294967296) (a : Option Addr) (len cap : Nat) (l : List Nat) (w : World) (h : IsB w a len cap l) :
    Calls Try.prog 70 #[.int .u32 s, .slice a len cap] w fun e w' => e = .returned (.int .u32 (Crc.update s l : Nat)) ∧ w' = w := by
  obtain ⟨hl, hcl, hc, hx, h⟩ := h
  rcases h with ⟨rfl, _⟩ | ⟨b, off, rfl, hb, hcell⟩
  · obtain rfl : l = [] := List.length_eq_zero_iff.1 hl
    exact refUpdate_none s hs a cap w
  · exact refUpdate_some s hs b off len cap l w hl hcl hc hx hcell
/-- ladingref02.Of -/
theorem refOf_any (a : Option Addr) (len cap : Nat) (l : List Nat) (w : World) (h : IsB w a len cap l) :
    Calls Try.prog 62 #[.slice a len cap] w fun e w' => e = .returned (.int .u32 (Crc.update 0 l : Nat)) ∧ w' = w := by
  go_enter Try.func62, Try.ntmps62
  go_wp2_with fail
  refine (refUpdate_any 0 (by decide) a len cap l _ h).mono ?_
  rintro e w1 ⟨rfl, rfl⟩
  go_wp2
  go_ret
  exact ⟨rfl, rfl⟩
end Go.Proofs.Ytecmfpgccmmlpaa
