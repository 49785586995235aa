/- RC RD -/
import Derived.Test.YtebikoekpbnpbaaMD
import Derived.Laws.CopyOwn
import Derived.Laws.AppendOwnNone
import Derived.Deep.DeepAppendRoom
/- contracts: Update and Of -/
namespace Go.Proofs.Ytebikoekpbnpbaa
open Go.RowKit
set_option maxRecDepth 40000
set_option maxRecDepth 100000 in
theorem store_tab (W : World) : Sem.run Try.prog (storeCells { block := W.heap.size, off := 0 } (tab 16).toList) (W.alloc (.cells #[.int .u32 0, .int .u32 0, .int .u32 0, .int .u32 0, .int .u32 0, .int .u32 0, .int .u32 0, .int .u32 0, .int .u32 0, .int .u32 0, .int .u32 0, .int .u32 0, .int .u32 0, .int .u32 0, .int .u32 0, .int .u32 0] 105)) = .ok () (W.alloc (.cells (tab 16) 105)) := by
  rw [tab_full]
  go_simp
theorem and_15 (d : Nat) (hd : d < 4294967296) : bits .and .u32 (d : Int) 15 = ((d % 16 : Nat) : Int) := by
  have h := u32_and_nat d 15 hd (by decide)
  have e : d &&& 15 = d % 16 := Nat.and_two_pow_sub_one_eq_mod d 4
  rw [e] at h
  exact h
theorem nib (d : Nat) (hd : d < 4294967296) : ∃ q t d1 : Nat, q < 16 ∧ t < 4294967296 ∧ d1 < 4294967296 ∧ Hid (d1 = Crc.shN 4 d) ∧ bits .and .u32 (d : Int) 15 = (q : Int) ∧ (tab 16)[q]? = some (.int .u32 (t : Int)) ∧
    bits .xor .u32 ((d : Int) / 16) (t : Int) = (d1 : Int) := by
  refine ⟨d % 16, Crc.shN 4 (d % 16), Crc.shN 4 d, by omega, Crc.shN_lt _ _ (by omega), Crc.shN_lt _ _ hd, hide rfl, and_15 d hd, ?_, ?_⟩
  · rw [tab_get 16 (d % 16) (by omega), if_pos (by omega)]
  · have h := u32_xor_nat (d / 16) (Crc.shN 4 (d % 16)) (by omega) (Crc.shN_lt _ _ (by omega))
    have e : d / 16 ^^^ Crc.shN 4 (d % 16) = Crc.shN 4 d := (Crc.shN_low 4 d).symm
    rw [e] at h
    rw [← h]; rfl
theorem xor_byte (c x : Nat) (hc : c < 4294967296) (hx : x < 256) : ∃ d : Nat, d < 4294967296 ∧ Hid (d = c ^^^ x) ∧ bits .xor .u32 (c : Int) (x : Int) = (d : Int) :=
  ⟨c ^^^ x, Nat.xor_lt_two_pow (n := 32) hc (by omega), hide rfl, u32_xor_nat c x hc (by omega)⟩
theorem not_u32 (c : Nat) (hc : c < 4294967296) : bits .xor .u32 4294967295 (c : Int) = ((4294967295 ^^^ c : Nat) : Int) := u32_xor_nat 4294967295 c (by decide) hc
theorem upd_take (c : Nat) (l : List Nat) (k : Nat) (h : k < l.length) : Crc.upd c (l.take (k + 1)) = Crc.shN 8 (Crc.upd c (l.take k) ^^^ l.getD k 0) := by
  rw [List.take_succ_eq_append_getElem h, Crc.upd_append, Crc.upd, Crc.upd, List.getD_eq_getElem?_getD, List.getElem?_eq_getElem h]; rfl
set_option maxHeartbeats 400000 in
theorem update_some (s : Nat) (hs : s < 4294967296) (b off len cap : Nat) (l : List Nat) (w : World) (hl : l.length = len) (hcl : len ≤ cap) (hc : cap ≤ maxLen) (hx : ∀ x ∈ l, x < 256)
    (hb : b < w.heap.size) (hcell : ∀ i, i < len → w.cell? ⟨b, off + i, none⟩ = some (.int .u8 (l.getD i 0 : Nat))) :
    Calls Try.prog 90 #[.int .u32 s, .slice (some ⟨b, off, none⟩) len cap] w fun e w' => e = .returned (.int .u32 (Crc.update s l : Nat)) ∧ Below w.heap.size w w' := by
  unfold maxLen at hc
  have hst := store_tab
  have hts := tab_size 16
  have hsg : IntKind.u32.signed = false := rfl
  have hmx : IntKind.u32.max = 4294967295 := rfl
  have hn := not_u32 s hs
  have hs2 : 4294967295 ^^^ s < 4294967296 := Nat.xor_lt_two_pow (n := 32) (by decide) hs
  have hfin : Hid (Crc.update s l = 4294967295 ^^^ Crc.upd (4294967295 ^^^ s) l) := hide rfl
  generalize hg : 4294967295 ^^^ s = s2 at *
  clear hg
  go_enter Try.func90, Try.ntmps90
  go_wp2_with fail
  refine (nibbles_any _).mono ?_
  rintro e w1 ⟨rfl, hb1⟩
  have hbw : b < w1.heap.size := Nat.lt_of_lt_of_le hb hb1.size
  go_wp2_with fail
  clear hst hn hts
  go_loop [6, 8, 14] (fun c _ i => ∃ k : Nat, k ≤ len ∧ i = .int .i64 k ∧ c = .int .u32 (Crc.upd s2 (l.take k) : Nat)) (fun _ _ i => len - (intOf i).toNat)
  case atStart => exact ⟨0, Nat.zero_le _, rfl, rfl⟩
  case round =>
    obtain ⟨k, hk, rfl, rfl⟩ := hrel
    have hul := Crc.upd_lt s2 (l.take k) hs2 (mem_take hx)
    by_cases hlt : k < len
    · have hcx : w1.cell? ⟨b, off + k, none⟩ = some (.int .u8 (l.getD k 0 : Nat)) := (hb1.cell (p := ⟨b, off + k, none⟩) hb).trans (hcell k hlt)
      have hx1 := getD_lt l k hx
      have HU : Hid (Crc.upd s2 (l.take (k + 1)) = Crc.shN 8 (Crc.upd s2 (l.take k) ^^^ l.getD k 0)) := hide (upd_take s2 l k (by omega))
      clear hcell hx
      generalize l.getD k 0 = x at *
      generalize Crc.upd s2 (l.take k) = c at *
      obtain ⟨d, hd, Hd, e1⟩ := xor_byte c x hul hx1
      obtain ⟨q, t, d1, hq, ht, hd1, Hd1, e2, e3, e4⟩ := nib d hd
      obtain ⟨q', t', d2, hq', ht', hd2, Hd2, e2', e3', e4'⟩ := nib d1 hd1
      go_wp2
      go_round
      case rel => exact ⟨k + 1, by omega, by go_num, by rw [HU.out, ← Hd.out, show 8 = 4 + 4 from rfl, Crc.shN_add, ← Hd1.out, ← Hd2.out]⟩
      case measure => simp [intOf]; omega
    · have htk : l.take k = l := List.take_of_length_le (by omega)
      rw [htk]
      rw [htk] at hul
      clear htk
      have hn := not_u32 _ hul
      generalize Crc.upd s2 l = c at *
      go_wp2
      go_ret
      exact ⟨ret_u32 (by rw [hfin.out]), hb1.alloc hb1.size _⟩
set_option maxHeartbeats 400000 in
theorem update_none (s : Nat) (hs : s < 4294967296) (a : Option Addr) (cap : Nat) (w : World) :
    Calls Try.prog 90 #[.int .u32 s, .slice a 0 cap] w fun e w' => e = .returned (.int .u32 (Crc.update s [] : Nat)) ∧ Below w.heap.size w w' := by
  have hst := store_tab
  have hts := tab_size 16
  have hsg : IntKind.u32.signed = false := rfl
  have hmx : IntKind.u32.max = 4294967295 := rfl
  have hn := not_u32 s hs
  have hs2 : 4294967295 ^^^ s < 4294967296 := Nat.xor_lt_two_pow (n := 32) (by decide) hs
  have hfin : Hid (Crc.update s [] = 4294967295 ^^^ (4294967295 ^^^ s)) := hide rfl
  generalize hg : 4294967295 ^^^ s = s2 at *
  clear hg
  have hn2 := not_u32 s2 hs2
  go_enter Try.func90, Try.ntmps90
  go_wp2_with fail
  refine (nibbles_any _).mono ?_
  rintro e w1 ⟨rfl, hb1⟩
  go_wp2_with fail
  clear hst hn hts
  go_loop [6, 14] (fun c i => c = .int .u32 s2 ∧ i = .int .i64 0) (fun _ _ => 0)
  case atStart => exact ⟨rfl, rfl⟩
  case round =>
    obtain ⟨rfl, rfl⟩ := hrel
    go_wp2
    go_ret
    exact ⟨ret_u32 (by rw [hfin.out]), hb1.alloc hb1.size _⟩
/-- crc.Update -/
theorem update_any (s : Nat) (hs : s < 4294967296) (a : Option Addr) (len cap : Nat) (l : List Nat) (w : World) (h : IsB w a len cap l) :
    Calls Try.prog 90 #[.int .u32 s, .slice a len cap] w fun e w' => e = .returned (.int .u32 (Crc.update s l : Nat)) ∧ Below w.heap.size w w' := by
  obtain ⟨hl, hcl, hc, hx, h⟩ := h
  rcases h with ⟨rfl, _⟩ | ⟨b, off, rfl, hb, hcell⟩
  · obtain rfl : l = [] := List.length_eq_zero_iff.1 hl
    exact update_none s hs a cap w
  · exact update_some s hs b off len cap l w hl hcl hc hx hb hcell
/-- crc.Of -/
theorem of_any (a : Option Addr) (len cap : Nat) (l : List Nat) (w : World) (h : IsB w a len cap l) :
    Calls Try.prog 65 #[.slice a len cap] w fun e w' => e = .returned (.int .u32 (Crc.update 0 l : Nat)) ∧ Below w.heap.size w w' := by
  go_enter Try.func65, Try.ntmps65
  go_wp2_with fail
  refine (update_any 0 (by decide) a len cap l _ h).mono ?_
  rintro e w1 ⟨rfl, hb1⟩
  go_wp2
  go_ret
  exact ⟨rfl, hb1⟩
end Go.Proofs.Ytebikoekpbnpbaa
/- contracts: Seal -/
namespace Go.Proofs.Ytebikoekpbnpbaa
open Go.RowKit
set_option maxRecDepth 40000
/-- the four bytes of a checksum, the lowest one first -/
def le (c : Nat) : List Nat := [c % 256, c / 256 % 256, c / 65536 % 256, c / 16777216 % 256]
theorem run_cp (W : World) (a : Option Addr) (len cap : Nat) (l : List Nat) (h : IsB W a len cap l) :
    (Builtin.copy_ #[26, 26] 3 #[.slice (some ⟨W.heap.size, 0, none⟩) len (len + 4), .slice a len cap]).run Try.prog (W.alloc (.cells (zeros (len + 4)).toArray 5)) = .ok (.int .i64 (len : Int)) (W.alloc (.cells (bv l ++ zeros 4).toArray 5)) := by
  obtain ⟨h1, h2, h3, h4, h5⟩ := h
  have hsz : (Try.prog.info? 5).map (·.size) = some 1 := by kernel_rfl
  rcases h5 with ⟨h5, _⟩ | ⟨b, off, rfl, hlt, hc⟩
  · subst h5
    obtain rfl : l = [] := List.length_eq_zero_iff.1 h1
    exact run_copy_none (P := Try.prog) _ 26 26 3 5 _ _ _ _ _ _ Try.underlying26 hsz (by simp)
  · have hr := run_copy_row (P := Try.prog) (W.alloc (.cells (zeros (len + 4)).toArray 5)) 26 26 3 5 W.heap.size 0 len (len + 4) ⟨b, off, none⟩ len cap (zeros (len + 4)).toArray 5 (bv l) Try.underlying26 hsz (heap_alloc_new W _) (by rw [bv_length, h1]; simp)
      (by
        intro j v hj
        have hjl : j < l.length := by
          rw [← bv_length]
          exact (List.getElem?_eq_some_iff.1 hj).1
        rw [bv_get l j hjl] at hj
        cases hj
        rw [addr_add]
        exact (((Below.refl W.heap.size W).alloc (Nat.le_refl _) (.cells (zeros (len + 4)).toArray 5)).cell (p := ⟨b, off + j, none⟩) hlt).trans (hc j (by omega)))
      (by rw [bv_length]; simp [zeros, h1]) (bv_one l)
    rw [hr, setRow_alloc]
    congr 2
    · rw [bv_length, h1]
    · congr 2
      simp only [List.take_zero, List.nil_append, bv_length, h1, Nat.zero_add]
      simp [zeros]
theorem getD_le (c k : Nat) : (le c).getD k 0 = if k < 4 then c / 2 ^ (8 * k) % 256 else 0 := by
  match k with
  | 0 => simp [le]
  | 1 => simp [le]
  | 2 => simp [le]
  | 3 => simp [le]
  | k + 4 =>
    rw [if_neg (by omega)]; simp [le]
set_option maxHeartbeats 400000 in
theorem seal_any (a : Option Addr) (len cap : Nat) (l : List Nat) (w : World) (h : IsB w a len cap l) (hr : len ≤ 140737488355328) :
    Calls Try.prog 35 #[.slice a len cap] w fun e w' => ∃ g, e = .returned (.slice (some ⟨g, 0, none⟩) (len + 4) (len + 4)) ∧ w'.ownsRow w.heap.size 5 1 (.slice (some ⟨g, 0, none⟩) (len + 4) (len + 4)) (len + 4) (bv (l ++ le (Crc.update 0 l))) ∧ Below w.heap.size w w' := by
  have hof := fun W hW => of_any a len cap l W hW
  have hcl : len ≤ cap := h.2.1
  have hl : Hid (l.length = len) := h.1
  have hmk : ∀ W : World, (Instr.makeSlice 26 (.int .i64 (len : Int)) (.int .i64 ((len : Int) + 4))).run Try.prog W = .ok (.slice (some ⟨W.heap.size, 0, none⟩) len (len + 4)) (W.alloc (.cells (zeros (len + 4)).toArray 5)) := fun W => run_mk W len (len + 4) (by omega) (by omega)
  obtain ⟨i0, hi, hz0, hz1, hz2⟩ := info_parts Try.info5
  go_enter Try.func35, Try.ntmps35
  go_wp2_with fail
  refine (hof _ h).mono ?_
  rintro e w1 ⟨rfl, hb1⟩
  have hcp := run_cp w1 a len cap l (h.below hb1)
  clear hof
  go_wp2_with fail
  have hb2 : Below w.heap.size w (w1.alloc (.cells (bv l ++ zeros 4).toArray 5)) := hb1.alloc hb1.size _
  have hown : (w1.alloc (.cells (bv l ++ zeros 4).toArray 5)).ownsRow w.heap.size 5 1 (.slice (some ⟨w1.heap.size, 0, none⟩) len (len + 4)) len (bv l) := by
    refine ⟨by rw [bv_length, hl.out]; omega, .inr ⟨w1.heap.size, len + 4, _, rfl, hb1.size, heap_alloc_new w1 _, by omega, by unfold maxLen; omega, ?_, ?_⟩⟩
    · simp [bv_length, hl.out, zeros]
    · simp only [Nat.mul_one]
      rw [List.take_append_of_le_length (by rw [bv_length, hl.out]; omega), List.take_of_length_le (by rw [bv_length, hl.out]; omega)]
  have hg1 : w.heap.size ≤ w1.heap.size := hb1.size
  clear hmk hcp h hb1
  generalize hcu : Crc.update 0 l = c at *
  have Hcu := hide hcu
  clear hcu
  generalize hG : w1.heap.size = g at *
  clear hG
  generalize w1.alloc (.cells (bv l ++ zeros 4).toArray 5) = w2 at *
  go_loopw [4, 5, 17] (fun v _ i wr => ∃ k : Nat, k ≤ 4 ∧ i = .int .i64 k ∧ v = .slice (some ⟨g, 0, none⟩) (len + k) (len + 4) ∧ wr.ownsRow w.heap.size 5 1 (.slice (some ⟨g, 0, none⟩) (len + k) (len + 4)) (len + k) (bv (l ++ (le c).take k)) ∧ Below w.heap.size w wr) (fun _ _ i _ => 4 - (intOf i).toNat)
  case atStart => exact ⟨0, by omega, rfl, rfl, by simpa using hown, hb2⟩
  case round =>
    obtain ⟨k, hk, rfl, rfl, hown, hb⟩ := hrel
    clear hb2
    by_cases hlt : k < 4
    · have hgd := getD_le c k
      rw [if_pos hlt] at hgd
      have HT : Hid ((le c).take (k + 1) = (le c).take k ++ [(le c).getD k 0]) := hide (by
        rw [List.take_succ_eq_append_getElem (by simp [le]; omega), List.getD_eq_getElem?_getD, List.getElem?_eq_getElem (by simp [le]; omega)]; rfl)
      have HG : Hid (((le c).getD k 0 : Nat) = c / 2 ^ (8 * k) % 256) := hgd
      clear hgd
      go_wp2_with (at_builtin; refine wpList_append_own_spare _ rfl _ _ 26 rfl w.heap.size 5 i0 1 Try.underlying26 hi hz1 g (len + k) (len + 4) _ rfl (hown.alloc _) ⟨wr.heap.size, 0, none⟩ 1 1 [.int .u8 ((c : Int) / 2 ^ (8 * k) % 256)] rfl rfl (cell_one_new _ _ _) ?h1 (by omega) ?_)
      case h1 => intro u hu; simp at hu; subst hu; rfl
      intro w3 hown3 hg3
      have hb3 : Below w.heap.size w w3 := (hb.alloc (by have := hb.size; omega) _).grown hg3 (by have := hb.size; simp; omega) (by intro k hk; cases hk; exact hg1)
      have hown4 : w3.ownsRow w.heap.size 5 1 (.slice (some ⟨g, 0, none⟩) (len + (k + 1)) (len + 4)) (len + (k + 1)) (bv (l ++ (le c).take (k + 1))) := by
        have e : bv (l ++ (le c).take (k + 1)) = bv (l ++ (le c).take k) ++ [.int .u8 ((c : Int) / 2 ^ (8 * k) % 256)] := by
          rw [HT.out, ← List.append_assoc, bv_append (l ++ (le c).take k), HG.out]
          simp [bv]
        rw [e, ← Nat.add_assoc]
        exact hown3
      clear hown3 hg3 hown hb
      go_wp2
      go_roundw
      case rel => exact ⟨k + 1, by omega, by go_num, by go_num, hown4, hb3⟩
      case measure => simp [intOf]; omega
    · obtain rfl : k = 4 := by omega
      go_wp2
      go_ret
      exact ⟨_, rfl, by rw [Hcu.out]; exact hown, hb⟩
end Go.Proofs.Ytebikoekpbnpbaa
