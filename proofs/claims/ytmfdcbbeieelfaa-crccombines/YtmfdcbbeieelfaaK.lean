/- contracts: the document's Combine, by matrices -/
import Derived.Test.YtmfdcbbeieelfaaG
import Derived.Deep.RegionHeld3
import Derived.Deep.MidRow
import Derived.Laws.Tables
namespace Go.Proofs.Ytmfdcbbeieelfaa
open Go.RowKit
/-- the columns of a matrix that shifts by e, the first k of them; the others nought -/
def cols (e k : Nat) : Array Value := ((List.range 32).map fun i => Value.int .u32 ((if i < k then Crc.shN e (2 ^ i) else 0 : Nat) : Nat)).toArray
theorem cols_size (e k : Nat) : (cols e k).size = 32 := by simp [cols]
theorem cols_get (e k j : Nat) (h : j < 32) : (cols e k)[j]? = some (Value.int .u32 ((if j < k then Crc.shN e (2 ^ j) else 0 : Nat) : Nat)) := by
  simp [cols, h]
theorem cols_set (e k : Nat) (h : k < 32) : (cols e k).setIfInBounds k (.int .u32 (Crc.shN e (2 ^ k) : Nat)) = cols e (k + 1) := by
  apply Array.ext_getElem?
  intro j
  rw [Array.getElem?_setIfInBounds]
  by_cases hj : j < 32
  · rw [cols_get e (k + 1) j hj]
    by_cases e' : k = j
    · subst e'; simp [cols_size, h]
    · rw [if_neg e', cols_get e k j hj]
      have : (j < k) ↔ (j < k + 1) := by omega
      simp only [this]
  · have h1 : (cols e k)[j]? = none := by simp [cols_size]; omega
    have h2 : (cols e (k + 1))[j]? = none := by simp [cols_size]; omega
    rw [h2]
    have : k ≠ j := by omega
    simp [this, h1]
theorem cols_zero (e : Nat) : cols e 0 = #[.int .u32 0, .int .u32 0, .int .u32 0, .int .u32 0, .int .u32 0, .int .u32 0, .int .u32 0, .int .u32 0, .int .u32 0, .int .u32 0, .int .u32 0, .int .u32 0, .int .u32 0, .int .u32 0, .int .u32 0, .int .u32 0, .int .u32 0, .int .u32 0, .int .u32 0, .int .u32 0, .int .u32 0, .int .u32 0, .int .u32 0, .int .u32 0, .int .u32 0, .int .u32 0, .int .u32 0, .int .u32 0, .int .u32 0, .int .u32 0, .int .u32 0, .int .u32 0] := rfl
theorem two_lt (k : Nat) (h : k < 32) : 2 ^ k < 4294967296 := by
  have := Nat.pow_le_pow_right (n := 2) (by decide) (show k ≤ 31 by omega)
  omega
/-- the lowest k bits, shifted -/
theorem low_step (e v k : Nat) : Crc.shN e (v % 2 ^ (k + 1)) = Crc.shN e (v % 2 ^ k) ^^^ (if v / 2 ^ k % 2 = 1 then Crc.shN e (2 ^ k) else 0) := by
  have h : v % 2 ^ (k + 1) = v % 2 ^ k ^^^ (if v / 2 ^ k % 2 = 1 then 2 ^ k else 0) := by
    apply Nat.eq_of_testBit_eq
    intro i
    have hb : (v / 2 ^ k % 2 = 1) ↔ v.testBit k = true := by
      rw [Nat.testBit_eq_decide_div_mod_eq]; simp
    rw [Nat.testBit_xor, Nat.testBit_mod_two_pow, Nat.testBit_mod_two_pow]
    by_cases hk : v.testBit k = true
    · rw [if_pos (hb.2 hk), Nat.testBit_two_pow]
      by_cases hi : i = k
      · subst hi; simp [hk]
      · have : (i < k + 1) ↔ i < k := by omega
        have : ¬ k = i := fun h => hi h.symm
        simp [*]
    · rw [if_neg (fun h => hk (hb.1 h)), Nat.zero_testBit]
      by_cases hi : i = k
      · subst hi; simp [hk]
      · have : (i < k + 1) ↔ i < k := by omega
        simp [*]
  rw [h, Crc.shN_xor]
  congr 1
  split <;> simp [Crc.shN_zero]
theorem tmod2 (q k : Nat) : ((q : Int) / 2 ^ k).tmod 2 = ((q / 2 ^ k % 2 : Nat) : Int) := by
  have e : (q : Int) / 2 ^ k = ((q / 2 ^ k : Nat) : Int) := by simp
  rw [e, Int.tmod_eq_emod_of_nonneg (Int.natCast_nonneg _)]
  simp
set_option maxHeartbeats 400000 in
theorem refTimes_any (e v : Nat) (hv : v < 4294967296) (w : World) :
    Calls Try.prog 27 #[.agg (cols e 32), .int .u32 v] w fun r w' => r = .returned (.int .u32 (Crc.shN e v : Nat)) ∧ Below w.heap.size w w' := by
  have hsz := cols_size e 32
  have hfull : Hid (v % 2 ^ 32 = v) := hide (Nat.mod_eq_of_lt hv)
  go_enter Try.func27, Try.ntmps27
  go_wp2
  clear hsz
  go_loop [5, 6] (fun o i => ∃ k : Nat, k ≤ 32 ∧ i = .int .i64 k ∧ o = .int .u32 (Crc.shN e (v % 2 ^ k) : Nat)) (fun _ i => 32 - (intOf i).toNat)
  case atStart => exact ⟨0, by omega, rfl, by simp [Nat.mod_one, Crc.shN_zero]⟩
  case round =>
    obtain ⟨k, hk, rfl, rfl⟩ := hrel
    by_cases hlt : k < 32
    · have hs := hide (low_step e v k)
      have l1 := Crc.shN_lt e (v % 2 ^ k) (Nat.lt_of_le_of_lt (Nat.mod_le _ _) hv)
      have l2 := Crc.shN_lt e (2 ^ k) (two_lt k hlt)
      have hg := cols_get e 32 k hlt
      rw [if_pos hlt] at hg
      by_cases hbit : v / 2 ^ k % 2 = 1
      · have t : (((v : Int) / 2 ^ k).tmod 2 == 1) = true := by rw [tmod2, hbit]; rfl
        have hx := u32_xor_nat _ _ l1 l2
        have Hs : Hid (Crc.shN e (v % 2 ^ (k + 1)) = Crc.shN e (v % 2 ^ k) ^^^ Crc.shN e (2 ^ k)) := hide (by rw [hs.out, if_pos hbit])
        clear hs hbit
        generalize Crc.shN e (v % 2 ^ k) = o at *
        generalize Crc.shN e (2 ^ k) = x at *
        go_wp2
        go_round
        case rel => exact ⟨k + 1, by omega, by go_num, by rw [Hs.out]⟩
        case measure => simp [intOf]; omega
      · have h0 : v / 2 ^ k % 2 = 0 := by omega
        have t : (((v : Int) / 2 ^ k).tmod 2 == 1) = false := by rw [tmod2, h0]; rfl
        have Hs : Hid (Crc.shN e (v % 2 ^ (k + 1)) = Crc.shN e (v % 2 ^ k)) := hide (by rw [hs.out, if_neg hbit, Nat.xor_zero])
        clear hs hbit h0
        generalize Crc.shN e (v % 2 ^ k) = o at *
        go_wp2
        go_round
        case rel => exact ⟨k + 1, by omega, by go_num, by rw [Hs.out]⟩
        case measure => simp [intOf]; omega
    · obtain rfl : k = 32 := by omega
      go_wp2
      go_ret
      exact ⟨ret_u32 (by rw [hfull.out]), (Below.refl _ _).alloc (Nat.le_refl _) _⟩
theorem Try.info47 : (Try.prog.info? 47).map (·.size) = some 32 := by kernel_rfl
theorem cols_range (w : World) (B e k : Nat) (h : w.heap[B]? = some (.cells (cols e k) 47 (0, 0))) : w.rangeAt B 0 (cols e k).toList := by
  intro j v hj
  rw [Nat.zero_add, cell_of_row w B j _ 47 _ h]
  simpa using hj
theorem cols_one (e k : Nat) : (cols e k).all (·.oneCell') = true := by
  rw [Array.all_eq_true_iff_forall_mem]
  intro v hv
  simp only [cols, List.mem_toArray, List.mem_map] at hv
  obtain ⟨i, _, rfl⟩ := hv
  rfl
def cellOr (w : World) (b k : Nat) : Value := (w.cell? ⟨b, k, none⟩).getD undef
theorem cellOr_eq {w : World} {b k : Nat} {v : Value} (h : w.cell? ⟨b, k, none⟩ = some v) : w.cell? ⟨b, k, none⟩ = some (cellOr w b k) := by
  rw [cellOr, h]; rfl
theorem keep_range {w : World} {B o : Nat} {cs : List Value} (h : w.rangeAt B o cs) (k : Nat) (v : Value) : (w.setCell ⟨B + 1 + 1, k, none⟩ v).rangeAt B o cs := fun j u hu => by
  rw [World.cell?_setCell_other _ _ _ _ (by simp)]; exact h j u hu
theorem keep_cell {w : World} {B j : Nat} {u : Value} (h : w.cell? ⟨B, j, none⟩ = some u) (k : Nat) (v : Value) : (w.setCell ⟨B + 1 + 1, k, none⟩ v).cell? ⟨B, j, none⟩ = some u := by
  rw [World.cell?_setCell_other _ _ _ _ (by simp)]; exact h
theorem keep_or {w : World} {B k : Nat} {u : Value} (h : w.cell? ⟨B, k, none⟩ = some u) (k' : Nat) (v : Value) : (w.setCell ⟨B, k', none⟩ v).cell? ⟨B, k, none⟩ = some (cellOr (w.setCell ⟨B, k', none⟩ v) B k) := by
  by_cases e : k' = k
  · subst e; exact cellOr_eq (World.cell?_setCell_same _ _ _ h)
  · exact cellOr_eq ((World.cell?_setCell_other _ _ _ _ (by simp)).trans h)
theorem keep_frozen {w : World} {a : Addr} (h : w.frozen? a = false) (b : Addr) (v : Value) : (w.setCell b v).frozen? a = false := by simpa using h
set_option maxRecDepth 100000 in
set_option maxHeartbeats 1000000 in
theorem squared_any (e : Nat) (w : World) :
    Calls Try.prog 28 #[.agg (cols e 32)] w fun r w' => r = .returned (.agg (cols (e + e) 32)) ∧ Below w.heap.size w w' := by
  have hsz := cols_size e 32
  have hsl : (Try.prog.info? 47).map (·.size) = some (cols e 32).toList.length := by rw [Try.info47]; simp [cols_size]
  have hu := Try.underlying47
  go_enter Try.func28, Try.ntmps28
  go_wp2
  rw [← cols_zero (e + e)]
  have q0 : (((w.alloc (.cells (cols e 32) 47)).alloc (.cells (cols (e + e) 0) 47)).alloc (.cells (cols (e + e) 0) 47)).heap[w.heap.size]? = some (.cells (cols e 32) 47 (0, 0)) := by
    rw [heap_alloc_old _ _ (by simp; omega), heap_alloc_old _ _ (by simp), heap_alloc_new]
  have q1 : (((w.alloc (.cells (cols e 32) 47)).alloc (.cells (cols (e + e) 0) 47)).alloc (.cells (cols (e + e) 0) 47)).heap[w.heap.size + 1]? = some (.cells (cols (e + e) 0) 47 (0, 0)) := by
    rw [heap_alloc_old _ _ (by simp)]
    have := heap_alloc_new (w.alloc (.cells (cols e 32) 47)) (.cells (cols (e + e) 0) 47)
    simpa using this
  have q2 : (((w.alloc (.cells (cols e 32) 47)).alloc (.cells (cols (e + e) 0) 47)).alloc (.cells (cols (e + e) 0) 47)).heap[w.heap.size + 2]? = some (.cells (cols (e + e) 0) 47 (0, 0)) := by
    have := heap_alloc_new ((w.alloc (.cells (cols e 32) 47)).alloc (.cells (cols (e + e) 0) 47)) (.cells (cols (e + e) 0) 47)
    simpa using this
  have q3 : Below w.heap.size w (((w.alloc (.cells (cols e 32) 47)).alloc (.cells (cols (e + e) 0) 47)).alloc (.cells (cols (e + e) 0) 47)) := (((Below.refl _ _).alloc (Nat.le_refl _) _).alloc (by simp) _).alloc (by simp; omega) _
  generalize ((w.alloc (.cells (cols e 32) 47)).alloc (.cells (cols (e + e) 0) 47)).alloc (.cells (cols (e + e) 0) 47) = w3 at *
  clear hsz
  go_loopw [4] (fun i wr => ∃ k : Nat, k ≤ 32 ∧ i = .int .i64 k ∧ wr.heap[w.heap.size]? = some (.cells (cols e 32) 47 (0, 0)) ∧ wr.heap[w.heap.size + 1]? = some (.cells (cols (e + e) 0) 47 (0, 0)) ∧ wr.heap[w.heap.size + 2]? = some (.cells (cols (e + e) k) 47 (0, 0)) ∧ Below w.heap.size w wr) (fun i _ => 32 - (intOf i).toNat)
  case atStart => exact ⟨0, by omega, rfl, q0, q1, q2, q3⟩
  case round =>
    obtain ⟨k, hk, rfl, r0, r1, r2, hb⟩ := hrel
    clear q0 q1 q2 q3
    by_cases hlt : k < 32
    · have hR := cols_range wr _ e 32 r0
      have hC : wr.cell? ⟨w.heap.size, k, none⟩ = some (.int .u32 (Crc.shN e (2 ^ k) : Nat)) := by
        rw [cell_of_row wr _ k _ 47 _ r0, cols_get e 32 k hlt, if_pos hlt]
      have hO : wr.cell? ⟨w.heap.size + 1 + 1, k, none⟩ = some (.int .u32 0) := by
        rw [cell_of_row wr _ k _ 47 _ r2, cols_get (e + e) k k hlt, if_neg (by omega)]; rfl
      have hF : wr.frozen? ⟨w.heap.size + 1 + 1, k, none⟩ = false := frozen_of_row wr (w.heap.size + 2) k _ 47 r2
      have hl2 := Crc.shN_lt e (2 ^ k) (two_lt k hlt)
      have E := hide (show Crc.shN (e + e) (2 ^ k) = Crc.shN e (Crc.shN e (2 ^ k)) from Crc.shN_add e e (2 ^ k))
      have i0 : (0 : Int) ≤ (k : Int) := by omega
      have i1 : (k : Int) < 32 := by omega
      have S0 : wr.rangeAt w.heap.size 0 (cols e 32).toList ∧ wr.cell? ⟨w.heap.size, k, none⟩ = some (.int .u32 (Crc.shN e (2 ^ k) : Nat)) ∧ wr.cell? ⟨w.heap.size + 1 + 1, k, none⟩ = some (cellOr wr (w.heap.size + 1 + 1) k) ∧ wr.frozen? ⟨w.heap.size + 1 + 1, k, none⟩ = false := ⟨hR, hC, cellOr_eq hO, hF⟩
      have G : Hid (Calls Try.prog 27 #[.agg (cols e 32), .int .u32 (Crc.shN e (2 ^ k) : Nat)] wr.drew fun r w' => r = .returned (.int .u32 (Crc.shN e (Crc.shN e (2 ^ k)) : Nat)) ∧ (w'.rangeAt w.heap.size 0 (cols e 32).toList ∧ w'.cell? ⟨w.heap.size, k, none⟩ = some (.int .u32 (Crc.shN e (2 ^ k) : Nat)) ∧ w'.cell? ⟨w.heap.size + 1 + 1, k, none⟩ = some (cellOr w' (w.heap.size + 1 + 1) k) ∧ w'.frozen? ⟨w.heap.size + 1 + 1, k, none⟩ = false) ∧ Below wr.heap.size wr w') := hide (by
        refine (refTimes_any e _ hl2 wr.drew).mono ?_
        rintro r w' ⟨rfl, hb'⟩
        have hb2 : Below wr.heap.size wr w' := (Below.refl _ _).drew.trans hb'
        have hlt0 : w.heap.size < wr.heap.size := block_lt_of_cell hC
        have hlt2 : w.heap.size + 1 + 1 < wr.heap.size := block_lt_of_cell hO
        exact ⟨rfl, ⟨fun j v hv => (hb2.cell (p := ⟨w.heap.size, 0 + j, none⟩) hlt0).trans (hR j v hv), (hb2.cell (p := ⟨w.heap.size, k, none⟩) hlt0).trans hC, cellOr_eq ((hb2.cell (p := ⟨w.heap.size + 1 + 1, k, none⟩) hlt2).trans hO), (hb2.frozen (p := ⟨w.heap.size + 1 + 1, k, none⟩) hlt2).trans hF⟩, hb2⟩)
      go_wp2
      go_region_held3 (fun w' => w'.rangeAt w.heap.size 0 (cols e 32).toList ∧ w'.cell? ⟨w.heap.size, k, none⟩ = some (.int .u32 (Crc.shN e (2 ^ k) : Nat)) ∧ w'.cell? ⟨w.heap.size + 1 + 1, k, none⟩ = some (cellOr w' (w.heap.size + 1 + 1) k) ∧ w'.frozen? ⟨w.heap.size + 1 + 1, k, none⟩ = false) (first | assumption | exact S0 | exact ⟨keep_range hSS.1 _ _, keep_cell hSS.2.1 _ _, keep_or hSS.2.2.1 _ _, keep_frozen hSS.2.2.2 _ _⟩) (first | (go_at_call 27; refine (G.out).mono ?_; rintro r w' ⟨rfl, hSS, hBB⟩))
      have hlt2 : w.heap.size + 1 + 1 < wr.heap.size := block_lt_of_cell hO
      have n2 := heap_setCell_same w' (w.heap.size + 2) k _ 47 (.int .u32 (Crc.shN e (Crc.shN e (2 ^ k)) : Nat)) ((hBB.block _ hlt2).trans r2)
      rw [← E.out, cols_set (e + e) k hlt] at n2
      have n0 := (heap_setCell_other w' ⟨w.heap.size + 2, k, none⟩ w.heap.size (.int .u32 (Crc.shN (e + e) (2 ^ k) : Nat)) (by simp)).trans ((hBB.block _ (by omega)).trans r0)
      have n1 := (heap_setCell_other w' ⟨w.heap.size + 2, k, none⟩ (w.heap.size + 1) (.int .u32 (Crc.shN (e + e) (2 ^ k) : Nat)) (by simp)).trans ((hBB.block _ (by omega)).trans r1)
      have nb : Below w.heap.size w (w'.setCell ⟨w.heap.size + 2, k, none⟩ (.int .u32 (Crc.shN (e + e) (2 ^ k) : Nat))) := (hb.trans (hBB.mono hb.size)).setCell (by simp) _
      rw [← E.out]
      clear G S0 hSS hBB hR hC hO hF r0 r1 r2
      go_wp2
      go_roundw
      case rel => exact ⟨k + 1, by omega, by go_num, n0, n1, n2, nb⟩
      case measure => simp [intOf]; omega
    · obtain rfl : k = 32 := by omega
      have hs1 : (Try.prog.info? 47).map (·.size) = some (cols (e + e) 32).size := by rw [Try.info47, cols_size]
      go_wp2_with (first | (refine wpList_load_row rfl 47 (.tmp 3) rfl (w.heap.size + 1 + 1) rfl 47 _ (0, 0) _ r2 Try.underlying47 rfl hs1 ?_) | (refine wpList_store_row rfl 47 (.tmp 2) (.tmp 16) rfl (w.heap.size + 1) (cols (e + e) 32) rfl rfl 47 _ r1 hs1 (by rw [cols_size, cols_size]) (cols_one _ _) ?_))
      have hf := setRow_heap wr (w.heap.size + 1) _ (cols (e + e) 32) 47 _ r1
      exact bodyPost_ret (v := .agg (cols (e + e) 32)) (results_cell_row Try.results28 _ _ (w.heap.size + 1) 47 _ (0, 0) _ rfl hf Try.underlying47 rfl hs1) rfl ⟨rfl, hb.trans ⟨rfl, rfl, rfl, by simp, fun k hk => setRow_other wr _ k _ (by omega)⟩⟩
end Go.Proofs.Ytmfdcbbeieelfaa
