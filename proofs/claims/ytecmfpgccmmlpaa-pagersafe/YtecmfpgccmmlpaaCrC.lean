/- contracts: Update and Of -/
import Derived.Test.YtecmfpgccmmlpaaCrB
namespace Go.Proofs.Ytecmfpgccmmlpaa
open Go.RowKit
set_option maxRecDepth 40000
set_option maxRecDepth 100000 in
theorem store_tab (W : World) : Sem.run Try.prog (storeCells { block := W.heap.size, off := 0 } (tab 16).toList) (W.alloc (.cells #[.int .u32 0, .int .u32 0, .int .u32 0, .int .u32 0, .int .u32 0, .int .u32 0, .int .u32 0, .int .u32 0, .int .u32 0, .int .u32 0, .int .u32 0, .int .u32 0, .int .u32 0, .int .u32 0, .int .u32 0, .int .u32 0] 110)) = .ok () (W.alloc (.cells (tab 16) 110)) := by
  rw [tab_full]
  go_simp
theorem and_15 (d : Nat) (hd : d < 4294967296) : bits .and .u32 (d : Int) 15 = ((d % 16 : Nat) : Int) := by
  have h := u32_and_nat d 15 hd (by decide)
  have e : d &&& 15 = d % 16 := Nat.and_two_pow_sub_one_eq_mod d 4
  rw [e] at h
  exact h
theorem nib (d : Nat) (hd : d < 4294967296) : ∃ q t d1 : Nat, q < 16 ∧ t < 4294967296 ∧ d1 < 4294967296 ∧ Hid (d1 = Crc.shN 4 d) ∧ bits .and .u32 (d : Int) 15 = (q : Int) ∧ (tab 16)[q]? = some (.int .u32 (t : Int)) ∧
    bits .xor .u32 ((d : Int) / 16) (t : Int) = (d1 : Int) := by
  refine ⟨d % 16, Crc.shN 4 (d % 16), Crc.shN 4 d, by omega, Crc.shN_lt _ _ (by omega), Crc.shN_lt _ _ hd, hide rfl, and_15 d hd, ?_, ?_⟩
  · rw [tab_get 16 (d % 16) (by omega), if_pos (by omega)]
  · have h := u32_xor_nat (d / 16) (Crc.shN 4 (d % 16)) (by omega) (Crc.shN_lt _ _ (by omega))
    have e : d / 16 ^^^ Crc.shN 4 (d % 16) = Crc.shN 4 d := (Crc.shN_low 4 d).symm
    rw [e] at h
    rw [← h]; rfl
theorem xor_byte (c x : Nat) (hc : c < 4294967296) (hx : x < 256) : ∃ d : Nat, d < 4294967296 ∧ Hid (d = c ^^^ x) ∧ bits .xor .u32 (c : Int) (x : Int) = (d : Int) :=
  ⟨c ^^^ x, Nat.xor_lt_two_pow (n := 32) hc (by omega), hide rfl, u32_xor_nat c x hc (by omega)⟩
theorem not_u32 (c : Nat) (hc : c < 4294967296) : bits .xor .u32 4294967295 (c : Int) = ((4294967295 ^^^ c : Nat) : Int) := u32_xor_nat 4294967295 c (by decide) hc
theorem upd_take (c : Nat) (l : List Nat) (k : Nat) (h : k < l.length) : Crc.upd c (l.take (k + 1)) = Crc.shN 8 (Crc.upd c (l.take k) ^^^ l.getD k 0) := by
  rw [List.take_succ_eq_append_getElem h, Crc.upd_append, Crc.upd, Crc.upd, List.getD_eq_getElem?_getD, List.getElem?_eq_getElem h]; rfl
set_option maxHeartbeats 400000 in
theorem update_some (s : Nat) (hs : s < 4294967296) (b off len cap : Nat) (l : List Nat) (w : World) (hl : l.length = len) (hcl : len ≤ cap) (hc : cap ≤ maxLen) (hx : ∀ x ∈ l, x < 256)
    (hb : b < w.heap.size) (hcell : ∀ i, i < len → w.cell? ⟨b, off + i, none⟩ = some (.int .u8 (l.getD i 0 : Nat))) :
    Calls Try.prog 69 #[.int .u32 s, .slice (some ⟨b, off, none⟩) len cap] w fun e w' => e = .returned (.int .u32 (Crc.update s l : Nat)) ∧ Below w.heap.size w w' := by
  unfold maxLen at hc
  have hst := store_tab
  have hts := tab_size 16
  have hsg : IntKind.u32.signed = false := rfl
  have hmx : IntKind.u32.max = 4294967295 := rfl
  have hn := not_u32 s hs
  have hs2 : 4294967295 ^^^ s < 4294967296 := Nat.xor_lt_two_pow (n := 32) (by decide) hs
  have hfin : Hid (Crc.update s l = 4294967295 ^^^ Crc.upd (4294967295 ^^^ s) l) := hide rfl
  generalize hg : 4294967295 ^^^ s = s2 at *
  clear hg
  go_enter Try.func69, Try.ntmps69
  go_wp2_with fail
  refine (nibbles_any _).mono ?_
  rintro e w1 ⟨rfl, hb1⟩
  have hbw : b < w1.heap.size := Nat.lt_of_lt_of_le hb hb1.size
  go_wp2_with fail
  clear hst hn hts
  go_loop [6, 8, 14] (fun c _ i => ∃ k : Nat, k ≤ len ∧ i = .int .i64 k ∧ c = .int .u32 (Crc.upd s2 (l.take k) : Nat)) (fun _ _ i => len - (intOf i).toNat)
  case atStart => exact ⟨0, Nat.zero_le _, rfl, rfl⟩
  case round =>
    obtain ⟨k, hk, rfl, rfl⟩ := hrel
    have hul := Crc.upd_lt s2 (l.take k) hs2 (mem_take hx)
    by_cases hlt : k < len
    · have hcx : w1.cell? ⟨b, off + k, none⟩ = some (.int .u8 (l.getD k 0 : Nat)) := (hb1.cell (p := ⟨b, off + k, none⟩) hb).trans (hcell k hlt)
      have hx1 := getD_lt l k hx
      have HU : Hid (Crc.upd s2 (l.take (k + 1)) = Crc.shN 8 (Crc.upd s2 (l.take k) ^^^ l.getD k 0)) := hide (upd_take s2 l k (by omega))
      clear hcell hx
      generalize l.getD k 0 = x at *
      generalize Crc.upd s2 (l.take k) = c at *
      obtain ⟨d, hd, Hd, e1⟩ := xor_byte c x hul hx1
      obtain ⟨q, t, d1, hq, ht, hd1, Hd1, e2, e3, e4⟩ := nib d hd
      obtain ⟨q', t', d2, hq', ht', hd2, Hd2, e2', e3', e4'⟩ := nib d1 hd1
      go_wp2
      go_round
      case rel => exact ⟨k + 1, by omega, by go_num, by rw [HU.out, ← Hd.out, show 8 = 4 + 4 from rfl, Crc.shN_add, ← Hd1.out, ← Hd2.out]⟩
      case measure => simp [intOf]; omega
    · have htk : l.take k = l := List.take_of_length_le (by omega)
      rw [htk]
      rw [htk] at hul
      clear htk
      have hn := not_u32 _ hul
      generalize Crc.upd s2 l = c at *
      go_wp2
      go_ret
      exact ⟨ret_u32 (by rw [hfin.out]), hb1.alloc hb1.size _⟩
set_option maxHeartbeats 400000 in
theorem update_none (s : Nat) (hs : s < 4294967296) (a : Option Addr) (cap : Nat) (w : World) :
    Calls Try.prog 69 #[.int .u32 s, .slice a 0 cap] w fun e w' => e = .returned (.int .u32 (Crc.update s [] : Nat)) ∧ Below w.heap.size w w' := by
  have hst := store_tab
  have hts := tab_size 16
  have hsg : IntKind.u32.signed = false := rfl
  have hmx : IntKind.u32.max = 4294967295 := rfl
  have hn := not_u32 s hs
  have hs2 : 4294967295 ^^^ s < 4294967296 := Nat.xor_lt_two_pow (n := 32) (by decide) hs
  have hfin : Hid (Crc.update s [] = 4294967295 ^^^ (4294967295 ^^^ s)) := hide rfl
  generalize hg : 4294967295 ^^^ s = s2 at *
  clear hg
  have hn2 := not_u32 s2 hs2
  go_enter Try.func69, Try.ntmps69
  go_wp2_with fail
  refine (nibbles_any _).mono ?_
  rintro e w1 ⟨rfl, hb1⟩
  go_wp2_with fail
  clear hst hn hts
  go_loop [6, 14] (fun c i => c = .int .u32 s2 ∧ i = .int .i64 0) (fun _ _ => 0)
  case atStart => exact ⟨rfl, rfl⟩
  case round =>
    obtain ⟨rfl, rfl⟩ := hrel
    go_wp2
    go_ret
    exact ⟨ret_u32 (by rw [hfin.out]), hb1.alloc hb1.size _⟩
/-- crc.Update -/
theorem update_any (s : Nat) (hs : s < 4294967296) (a : Option Addr) (len cap : Nat) (l : List Nat) (w : World) (h : IsB w a len cap l) :
    Calls Try.prog 69 #[.int .u32 s, .slice a len cap] w fun e w' => e = .returned (.int .u32 (Crc.update s l : Nat)) ∧ Below w.heap.size w w' := by
  obtain ⟨hl, hcl, hc, hx, h⟩ := h
  rcases h with ⟨rfl, _⟩ | ⟨b, off, rfl, hb, hcell⟩
  · obtain rfl : l = [] := List.length_eq_zero_iff.1 hl
    exact update_none s hs a cap w
  · exact update_some s hs b off len cap l w hl hcl hc hx hb hcell
/-- crc.Of -/
theorem of_any (a : Option Addr) (len cap : Nat) (l : List Nat) (w : World) (h : IsB w a len cap l) :
    Calls Try.prog 61 #[.slice a len cap] w fun e w' => e = .returned (.int .u32 (Crc.update 0 l : Nat)) ∧ Below w.heap.size w w' := by
  go_enter Try.func61, Try.ntmps61
  go_wp2_with fail
  refine (update_any 0 (by decide) a len cap l _ h).mono ?_
  rintro e w1 ⟨rfl, hb1⟩
  go_wp2
  go_ret
  exact ⟨rfl, hb1⟩
end Go.Proofs.Ytecmfpgccmmlpaa
