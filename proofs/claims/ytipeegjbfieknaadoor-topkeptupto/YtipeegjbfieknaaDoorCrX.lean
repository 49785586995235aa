/- what the seat of TopKept has besides -/
import Derived.Test.YtipeegjbfieknaaDoorCrF
namespace Go.Proofs.YtipeegjbfieknaaDoor
open Go.RowKit
set_option maxRecDepth 40000
set_option maxHeartbeats 400000 in
theorem seal_any (a : Option Addr) (len cap : Nat) (l : List Nat) (w : World) (h : IsB w a len cap l) (hr : len ≤ 140737488355328) :
    Calls Tryd.prog 7 #[.slice a len cap] w fun e w' => ∃ g, e = .returned (.slice (some ⟨g, 0, none⟩) (len + 4) (len + 4)) ∧ w'.ownsRow w.heap.size 5 1 (.slice (some ⟨g, 0, none⟩) (len + 4) (len + 4)) (len + 4) (bv (l ++ le (Crc.update 0 l))) ∧ Below w.heap.size w w' := by
  have hof := fun W hW => of_any a len cap l W hW
  have hcl : len ≤ cap := h.2.1
  have hl : Hid (l.length = len) := h.1
  have hmk : ∀ W : World, (Instr.makeSlice 25 (.int .i64 (len : Int)) (.int .i64 ((len : Int) + 4))).run Tryd.prog W = .ok (.slice (some ⟨W.heap.size, 0, none⟩) len (len + 4)) (W.alloc (.cells (zeros (len + 4)).toArray 5)) := fun W => run_mk W len (len + 4) (by omega) (by omega)
  obtain ⟨i0, hi, hz0, hz1, hz2⟩ := info_parts Tryd.info5
  go_enter Tryd.func7, Tryd.ntmps7
  go_wp2_with fail
  refine (hof _ h).mono ?_
  rintro e w1 ⟨rfl, hb1⟩
  have hcp := run_cp w1 a len cap l (h.below hb1)
  clear hof
  go_wp2_with fail
  have hb2 : Below w.heap.size w (w1.alloc (.cells (bv l ++ zeros 4).toArray 5)) := hb1.alloc hb1.size _
  have hown : (w1.alloc (.cells (bv l ++ zeros 4).toArray 5)).ownsRow w.heap.size 5 1 (.slice (some ⟨w1.heap.size, 0, none⟩) len (len + 4)) len (bv l) := by
    refine ⟨by rw [bv_length, hl.out]; omega, .inr ⟨w1.heap.size, len + 4, _, rfl, hb1.size, heap_alloc_new w1 _, by omega, by unfold maxLen; omega, ?_, ?_⟩⟩
    · simp [bv_length, hl.out, zeros]
    · simp only [Nat.mul_one]
      rw [List.take_append_of_le_length (by rw [bv_length, hl.out]; omega), List.take_of_length_le (by rw [bv_length, hl.out]; omega)]
  have hg1 : w.heap.size ≤ w1.heap.size := hb1.size
  clear hmk hcp h hb1
  generalize hcu : Crc.update 0 l = c at *
  have Hcu := hide hcu
  clear hcu
  generalize hG : w1.heap.size = g at *
  clear hG
  generalize w1.alloc (.cells (bv l ++ zeros 4).toArray 5) = w2 at *
  go_loopw [4, 5, 17] (fun v _ i wr => ∃ k : Nat, k ≤ 4 ∧ i = .int .i64 k ∧ v = .slice (some ⟨g, 0, none⟩) (len + k) (len + 4) ∧ wr.ownsRow w.heap.size 5 1 (.slice (some ⟨g, 0, none⟩) (len + k) (len + 4)) (len + k) (bv (l ++ (le c).take k)) ∧ Below w.heap.size w wr) (fun _ _ i _ => 4 - (intOf i).toNat)
  case atStart => exact ⟨0, by omega, rfl, rfl, by simpa using hown, hb2⟩
  case round =>
    obtain ⟨k, hk, rfl, rfl, hown, hb⟩ := hrel
    clear hb2
    by_cases hlt : k < 4
    · have hgd := getD_le c k
      rw [if_pos hlt] at hgd
      have HT : Hid ((le c).take (k + 1) = (le c).take k ++ [(le c).getD k 0]) := hide (by
        rw [List.take_succ_eq_append_getElem (by simp [le]; omega), List.getD_eq_getElem?_getD, List.getElem?_eq_getElem (by simp [le]; omega)]; rfl)
      have HG : Hid (((le c).getD k 0 : Nat) = c / 2 ^ (8 * k) % 256) := hgd
      clear hgd
      go_wp2_with (at_builtin; refine wpList_append_own_spare _ rfl _ _ 25 rfl w.heap.size 5 i0 1 Tryd.underlying25 hi hz1 g (len + k) (len + 4) _ rfl (hown.alloc _) ⟨wr.heap.size, 0, none⟩ 1 1 [.int .u8 ((c : Int) / 2 ^ (8 * k) % 256)] rfl rfl (cell_one_new _ _ _) ?h1 (by omega) ?_)
      case h1 => intro u hu; simp at hu; subst hu; rfl
      intro w3 hown3 hg3
      have hb3 : Below w.heap.size w w3 := (hb.alloc (by have := hb.size; omega) _).grown hg3 (by have := hb.size; simp; omega) (by intro k hk; cases hk; exact hg1)
      have hown4 : w3.ownsRow w.heap.size 5 1 (.slice (some ⟨g, 0, none⟩) (len + (k + 1)) (len + 4)) (len + (k + 1)) (bv (l ++ (le c).take (k + 1))) := by
        have e : bv (l ++ (le c).take (k + 1)) = bv (l ++ (le c).take k) ++ [.int .u8 ((c : Int) / 2 ^ (8 * k) % 256)] := by
          rw [HT.out, ← List.append_assoc, bv_append (l ++ (le c).take k), HG.out]
          simp [bv]
        rw [e, ← Nat.add_assoc]
        exact hown3
      clear hown3 hg3 hown hb
      go_wp2
      go_roundw
      case rel => exact ⟨k + 1, by omega, by go_num, by go_num, hown4, hb3⟩
      case measure => simp [intOf]; omega
    · obtain rfl : k = 4 := by omega
      go_wp2
      go_ret
      exact ⟨_, rfl, by rw [Hcu.out]; exact hown, hb⟩
theorem open_short (a : Option Addr) (len cap : Nat) (hl : len < 4) (w : World) :
    Calls Tryd.prog 15 #[.slice a len cap] w fun e w' => e = .returned (.tuple #[.slice none 0 0, .int .i64 6]) ∧ w' = w := by
  have h4 : (len : Int) < 4 := by omega
  go_enter Tryd.func15, Tryd.ntmps15
  go_wp2
  go_ret2
  exact ⟨rfl, rfl⟩
set_option maxHeartbeats 400000 in
theorem open_any (b off len cap : Nat) (l : List Nat) (w : World) (h : IsB w (some ⟨b, off, none⟩) len cap l) (hr : len ≤ 140737488355328) (hl4 : 4 ≤ len) :
    Calls Tryd.prog 15 #[.slice (some ⟨b, off, none⟩) len cap] w fun e w' =>
      ((l.drop (len - 4) = le (Crc.update 0 (l.take (len - 4))) ∧ ∃ v, e = .returned (.tuple #[v, .int .i64 0]) ∧ w'.ownsRow w.heap.size 5 1 v (len - 4) (bv (l.take (len - 4)))) ∨
       (l.drop (len - 4) ≠ le (Crc.update 0 (l.take (len - 4))) ∧ e = .returned (.tuple #[.slice none 0 0, .int .i64 6]))) ∧ Below w.heap.size w w' := by
  have hcl : len ≤ cap := h.2.1
  have hcm : cap ≤ 9223372036854775807 := h.2.2.1
  have h4 : (4 : Int) ≤ (len : Int) := by omega
  have h4' : ¬ (len : Int) < 4 := by omega
  obtain ⟨n, rfl⟩ : ∃ n, len = n + 4 := ⟨len - 4, by omega⟩
  have e0 : n + 4 - 4 = n := by omega
  rw [e0]
  have hfr := h.front n (by omega)
  obtain ⟨b', off', hbe, hlt, hcell⟩ := h.2.2.2.2.resolve_left (by omega)
  cases hbe
  have hdec : decide ((n : Int) + 4 < 4) = false := by simp; omega
  have HE : Hid (l.drop n = le (Crc.update 0 (l.take n)) ↔ ∀ j, j < 4 → l.getD (n + j) 0 = (Crc.update 0 (l.take n)) / 2 ^ (8 * j) % 256) := hide (end_eq l n _ h.1)
  obtain ⟨i0, hi, hz0, hz1, hz2⟩ := info_parts Tryd.info5
  have hn : Hid ((l.take n).length = n) := hfr.1
  go_enter Tryd.func15, Tryd.ntmps15
  go_wp2
  go_quiet (fail)
  go_wp2_with fail
  refine (of_any _ n cap (l.take n) _ (hfr.below (below_drewN (Below.refl _ _) nq))).mono ?_
  rintro e w1 ⟨rfl, hb1⟩
  have hb2 : Below w.heap.size w w1 := (below_drewN (Below.refl _ _) nq).trans hb1
  clear hb1
  go_wp2_with fail
  generalize hcu : Crc.update 0 (l.take n) = c at *
  have Hcu := hide hcu
  clear hcu h4 h4' h hl4
  go_loopw [7, 23] (fun _ i wr => ∃ k : Nat, k ≤ 4 ∧ i = .int .i64 k ∧ (∀ j, j < k → Hid (l.getD (n + j) 0 = c / 2 ^ (8 * j) % 256)) ∧ Below w.heap.size w wr) (fun _ i _ => 4 - (intOf i).toNat)
  case atStart => exact ⟨0, by omega, rfl, fun j hj => absurd hj (by omega), hb2⟩
  case round =>
    obtain ⟨k, hk, rfl, hgood, hb⟩ := hrel
    clear hb2
    by_cases hlt4 : k < 4
    · have hcx : wr.cell? ⟨b, off + n + k, none⟩ = some (.int .u8 (l.getD (n + k) 0 : Nat)) := by
        have := hcell (n + k) (by omega)
        rw [← Nat.add_assoc] at this
        exact (hb.cell (p := ⟨b, off + n + k, none⟩) hlt).trans this
      by_cases hxy : l.getD (n + k) 0 = c / 2 ^ (8 * k) % 256
      · have hne : (((l.getD (n + k) 0 : Nat) : Int) != (c : Int) / 2 ^ (8 * k) % 256) = false := by rw [hxy]; simp
        have HG1 : Hid (∀ j, j < k + 1 → Hid (l.getD (n + j) 0 = c / 2 ^ (8 * j) % 256)) := hide (fun j hj => by
          by_cases e : j = k
          · subst e; exact hxy
          · exact hgood j (by omega))
        clear hxy hcell hgood
        generalize hG : l.getD (n + k) 0 = x at *
        clear hG
        go_wp2
        go_quiet (fail)
        go_wp2
        go_roundw
        case rel => exact ⟨k + 1, by omega, by go_num, HG1.out, below_drewN hb nq⟩
        case measure => simp [intOf]; omega
      · have hne : (((l.getD (n + k) 0 : Nat) : Int) != (c : Int) / 2 ^ (8 * k) % 256) = true := by
          simp only [bne_iff_ne, ne_eq]; intro h0; apply hxy; exact Int.ofNat.inj (h0.trans (by simp))
        have HN : Hid (¬ (l.drop n = le c)) := hide (fun h0 => hxy (HE.out.1 h0 k hlt4))
        clear hxy hcell hgood
        generalize hG : l.getD (n + k) 0 = x at *
        clear hG
        go_wp2
        go_quiet (fail)
        go_wp2
        go_ret2
        exact ⟨.inr ⟨by rw [Hcu.out]; exact HN.out, rfl⟩, below_drewN hb nq⟩
    · obtain rfl : k = 4 := by omega
      have HY : Hid (l.drop n = le c) := hide (HE.out.2 (fun j hj => hgood j hj))
      have hsrc := (hfr.below hb)
      have hz := hb.size
      clear hgood hcell
      go_wp2_with (at_builtin; refine wpList_append_own _ rfl _ _ 25 rfl w.heap.size 5 i0 (.int .u8 0) 1 1 Tryd.underlying25 hi hz0 hz1 hz2 rfl (by decide) _ 0 [] rfl (World.ownsRow_nil _ _ _ _) ⟨b, off, none⟩ n cap (bv (l.take n)) rfl ?c0 ?c1 (bv_one _) ?c3 ?c4 ?c5 ?_)
      case c0 => rw [bv_length, hn.out]; omega
      case c1 => exact hsrc.src
      case c3 => unfold maxLen; omega
      case c4 => omega
      case c5 => exact hz
      intro v' w2 hown' hgrow _
      have hown2 : w2.ownsRow w.heap.size 5 1 v' n (bv (l.take n)) := by simpa using hown'
      have hb3 : Below w.heap.size w w2 := hb.grown hgrow hz (by intro k hk; cases hk)
      clear hown' hgrow
      go_wp2
      go_ret2
      exact ⟨.inl ⟨by rw [Hcu.out]; exact HY.out, _, rfl, hown2⟩, hb3⟩
end Go.Proofs.YtipeegjbfieknaaDoor
