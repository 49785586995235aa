/- what the journal's seat lacks of crc -/
import Derived.Test.YtecmfpgccmmlpaaCrH
namespace Go.Proofs.Ytecmfpgccmmlpaa
open Go.RowKit
set_option maxRecDepth 40000
set_option maxHeartbeats 400000 in
theorem seal_any (a : Option Addr) (len cap : Nat) (l : List Nat) (w : World) (h : IsB w a len cap l) (hr : len ≤ 140737488355328) :
    Calls Try.prog 32 #[.slice a len cap] w fun e w' => ∃ g, e = .returned (.slice (some ⟨g, 0, none⟩) (len + 4) (len + 4)) ∧ w'.ownsRow w.heap.size 5 1 (.slice (some ⟨g, 0, none⟩) (len + 4) (len + 4)) (len + 4) (bv (l ++ le (Crc.update 0 l))) ∧ Below w.heap.size w w' := by
  have hof := fun W hW => of_any a len cap l W hW
  have hcl : len ≤ cap := h.2.1
  have hl : Hid (l.length = len) := h.1
  have hmk : ∀ W : World, (Instr.makeSlice 25 (.int .i64 (len : Int)) (.int .i64 ((len : Int) + 4))).run Try.prog W = .ok (.slice (some ⟨W.heap.size, 0, none⟩) len (len + 4)) (W.alloc (.cells (zeros (len + 4)).toArray 5)) := fun W => run_mk W len (len + 4) (by omega) (by omega)
  obtain ⟨i0, hi, hz0, hz1, hz2⟩ := info_parts Try.info5
  go_enter Try.func32, Try.ntmps32
  go_wp2_with fail
  refine (hof _ h).mono ?_
  rintro e w1 ⟨rfl, hb1⟩
  have hcp := run_cp w1 a len cap l (h.below hb1)
  clear hof
  go_wp2_with fail
  have hb2 : Below w.heap.size w (w1.alloc (.cells (bv l ++ zeros 4).toArray 5)) := hb1.alloc hb1.size _
  have hown : (w1.alloc (.cells (bv l ++ zeros 4).toArray 5)).ownsRow w.heap.size 5 1 (.slice (some ⟨w1.heap.size, 0, none⟩) len (len + 4)) len (bv l) := by
    refine ⟨by rw [bv_length, hl.out]; omega, .inr ⟨w1.heap.size, len + 4, _, rfl, hb1.size, heap_alloc_new w1 _, by omega, by unfold maxLen; omega, ?_, ?_⟩⟩
    · simp [bv_length, hl.out, zeros]
    · simp only [Nat.mul_one]
      rw [List.take_append_of_le_length (by rw [bv_length, hl.out]; omega), List.take_of_length_le (by rw [bv_length, hl.out]; omega)]
  have hg1 : w.heap.size ≤ w1.heap.size := hb1.size
  clear hmk hcp h hb1
  generalize hcu : Crc.update 0 l = c at *
  have Hcu := hide hcu
  clear hcu
  generalize hG : w1.heap.size = g at *
  clear hG
  generalize w1.alloc (.cells (bv l ++ zeros 4).toArray 5) = w2 at *
  go_loopw [4, 5, 17] (fun v _ i wr => ∃ k : Nat, k ≤ 4 ∧ i = .int .i64 k ∧ v = .slice (some ⟨g, 0, none⟩) (len + k) (len + 4) ∧ wr.ownsRow w.heap.size 5 1 (.slice (some ⟨g, 0, none⟩) (len + k) (len + 4)) (len + k) (bv (l ++ (le c).take k)) ∧ Below w.heap.size w wr) (fun _ _ i _ => 4 - (intOf i).toNat)
  case atStart => exact ⟨0, by omega, rfl, rfl, by simpa using hown, hb2⟩
  case round =>
    obtain ⟨k, hk, rfl, rfl, hown, hb⟩ := hrel
    clear hb2
    by_cases hlt : k < 4
    · have hgd := getD_le c k
      rw [if_pos hlt] at hgd
      have HT : Hid ((le c).take (k + 1) = (le c).take k ++ [(le c).getD k 0]) := hide (by
        rw [List.take_succ_eq_append_getElem (by simp [le]; omega), List.getD_eq_getElem?_getD, List.getElem?_eq_getElem (by simp [le]; omega)]; rfl)
      have HG : Hid (((le c).getD k 0 : Nat) = c / 2 ^ (8 * k) % 256) := hgd
      clear hgd
      go_wp2_with (at_builtin; refine wpList_append_own_spare _ rfl _ _ 25 rfl w.heap.size 5 i0 1 Try.underlying25 hi hz1 g (len + k) (len + 4) _ rfl (hown.alloc _) ⟨wr.heap.size, 0, none⟩ 1 1 [.int .u8 ((c : Int) / 2 ^ (8 * k) % 256)] rfl rfl (cell_one_new _ _ _) ?h1 (by omega) ?_)
      case h1 => intro u hu; simp at hu; subst hu; rfl
      intro w3 hown3 hg3
      have hb3 : Below w.heap.size w w3 := (hb.alloc (by have := hb.size; omega) _).grown hg3 (by have := hb.size; simp; omega) (by intro k hk; cases hk; exact hg1)
      have hown4 : w3.ownsRow w.heap.size 5 1 (.slice (some ⟨g, 0, none⟩) (len + (k + 1)) (len + 4)) (len + (k + 1)) (bv (l ++ (le c).take (k + 1))) := by
        have e : bv (l ++ (le c).take (k + 1)) = bv (l ++ (le c).take k) ++ [.int .u8 ((c : Int) / 2 ^ (8 * k) % 256)] := by
          rw [HT.out, ← List.append_assoc, bv_append (l ++ (le c).take k), HG.out]
          simp [bv]
        rw [e, ← Nat.add_assoc]
        exact hown3
      clear hown3 hg3 hown hb
      go_wp2
      go_roundw
      case rel => exact ⟨k + 1, by omega, by go_num, by go_num, hown4, hb3⟩
      case measure => simp [intOf]; omega
    · obtain rfl : k = 4 := by omega
      go_wp2
      go_ret
      exact ⟨_, rfl, by rw [Hcu.out]; exact hown, hb⟩
theorem update_lt (s : Nat) (l : List Nat) (hs : s < 4294967296) (hl : ∀ x ∈ l, x < 256) : Crc.update s l < 4294967296 :=
  Nat.xor_lt_two_pow (n := 32) (by decide) (Crc.upd_lt _ _ (Nat.xor_lt_two_pow (n := 32) (by decide) hs) hl)
set_option maxHeartbeats 400000 in
/-- ladingref02.Seal -/
theorem refSeal_any (a : Option Addr) (len cap : Nat) (l : List Nat) (w : World) (h : IsB w a len cap l) (hr : cap ≤ 140737488351232) :
    Calls Try.prog 35 #[.slice a len cap] w fun e w' => ∃ v, e = .returned v ∧ w'.ownsRow w.heap.size 5 1 v (len + 4) (bv (l ++ le (Crc.update 0 l))) ∧ Below w.heap.size w w' := by
  have hcl : len ≤ cap := h.2.1
  obtain ⟨i0, hi, hz0, hz1, hz2⟩ := info_parts Try.info5
  go_enter Try.func35, Try.ntmps35
  go_wp2_with fail
  refine (refOf_any a len cap l _ h).mono ?_
  rintro e w' ⟨rfl, rfl⟩
  go_wp2_with (at_builtin; refine wpList_clone rfl (.tmp 7) (.tmp 8) rfl w'.heap.size _ 0 [] rfl (owns_empty w' _ (Nat.le_refl _)) a len cap l rfl ?hB ?hb ?hbase w'.heap.size w' ?bel (Nat.le_refl _) ?_)
  case hB => exact h.below ((Below.refl _ _).alloc (Nat.le_refl _) _)
  case hb => omega
  case hbase => simp
  case bel => exact (Below.refl _ _).alloc (Nat.le_refl _) _
  intro v w1 hown0 hb1
  have hown : w1.ownsRow w'.heap.size 5 1 v len (bv l) := by simpa using hown0
  clear hown0
  have hsz := hb1.size
  generalize hcu : Crc.update 0 l = c at *
  have Hcu := hide hcu
  clear hcu h
  go_wp2_with (at_builtin; refine wpList_append_own _ rfl (.tmp 10) (.tmp 22) 25 rfl w'.heap.size 5 i0 (.int .u8 0) 1 1 Try.underlying25 hi hz0 hz1 hz2 rfl (by decide) _ len (bv l) rfl (hown.alloc _) ⟨w1.heap.size, 0, none⟩ 4 4 [.int .u8 ((c : Int) % 256), .int .u8 ((c : Int) / 256 % 256), .int .u8 ((c : Int) / 65536 % 256), .int .u8 ((c : Int) / 16777216 % 256)] rfl rfl (src_lit w1 _) ?c2 ?c3 ?c4 ?c5 ?_)
  case c2 => intro u hu; simp at hu; rcases hu with rfl | rfl | rfl | rfl <;> rfl
  case c3 => unfold maxLen; omega
  case c4 => omega
  case c5 => simp; omega
  intro v2 w2 hown2 hg2 _
  have hb2 : Below w'.heap.size w' w2 := (hb1.alloc hsz _).grown hg2 (by simp; omega) (fun k hk => (hown.lt k hk).1)
  have el : bv (le c) = [.int .u8 ((c : Int) % 256), .int .u8 ((c : Int) / 256 % 256), .int .u8 ((c : Int) / 65536 % 256), .int .u8 ((c : Int) / 16777216 % 256)] := by simp [bv, le]
  rw [← el, ← bv_append] at hown2
  clear el
  clear hg2 hown
  go_wp2
  go_ret
  exact ⟨_, rfl, by rw [Hcu.out]; exact hown2, hb2⟩
theorem bne_of_ne {x c : Int} (h : x ≠ c) : (x != c) = true := by simpa using h
theorem bne_of_eq {x c : Int} (h : x = c) : (x != c) = false := by simpa using h
end Go.Proofs.Ytecmfpgccmmlpaa
