/- amounts that are written, sealed and read -/
import Derived.Test.YtipeegjbfieknaaDoorDx
import Derived.Test.YtipeegjbfieknaaDoorCdX
import Derived.Test.YtipeegjbfieknaaDoorCrX
import Derived.Test.YtipeegjbfieknaaDoorMnT1
namespace Go.Proofs.YtipeegjbfieknaaDoor
open Go.RowKit Cod
set_option maxRecDepth 40000
/-- an amount's text -/
def amt (z : Int) : ByteArray := ⟨(Mn.txt z).toArray⟩
theorem amt_size (z : Int) (h : Mn.In64 z) : (amt z).size ≤ 30 := by
  have e : (amt z).size = (Mn.txt z).length := by simp [amt, ByteArray.size]
  rw [e]
  unfold Mn.In64 at h
  have hd : (Lib.decDigits (z.natAbs / 100)).length ≤ 20 := Mn.dec_len _ (by omega)
  unfold Mn.txt Mn.body
  split <;> simp <;> omega
/-- what is written of an amount -/
def recA (z : Int) : List Nat := num (amt z).size ++ bl (amt z)
def encL (zs : List Int) : List Nat := zs.flatMap recA
theorem recA_len (z : Int) (h : Mn.In64 z) : (recA z).length ≤ 31 := by
  have := amt_size z h
  unfold recA
  rw [num_small (by omega), List.length_append, bl_length]
  simp
  omega
theorem recA_lt (z : Int) : ∀ x ∈ recA z, x < 256 := by
  intro x hx
  rcases List.mem_append.1 hx with hx | hx
  · exact num_lt _ x hx
  · exact bl_lt _ x hx
theorem encL_lt (zs : List Int) : ∀ x ∈ encL zs, x < 256 := by
  intro x hx
  obtain ⟨z, _, hx⟩ := List.mem_flatMap.1 hx
  exact recA_lt z x hx
theorem encL_len : ∀ zs : List Int, (∀ z ∈ zs, Mn.In64 z) → (encL zs).length ≤ 31 * zs.length
  | [], _ => by simp [encL]
  | z :: r, h => by
    have h1 := recA_len z (h z (by simp))
    have h2 := encL_len r (fun y hy => h y (List.mem_cons_of_mem _ hy))
    unfold encL at h2 ⊢
    rw [List.flatMap_cons, List.length_append, List.length_cons]
    omega
theorem encL_step (zs : List Int) (k : Nat) (h : k < zs.length) : encL (zs.take (k + 1)) = encL (zs.take k) ++ num (amt (zs.getD k 0)).size ++ bl (amt (zs.getD k 0)) := by
  unfold encL
  rw [List.take_add_one, List.getElem?_eq_getElem h, List.flatMap_append, List.getD_eq_getElem?_getD, List.getElem?_eq_getElem h]
  simp [recA]
theorem encL_drop (zs : List Int) (k : Nat) (h : k < zs.length) : encL (zs.drop k) = recA (zs.getD k 0) ++ encL (zs.drop (k + 1)) := by
  unfold encL
  rw [List.drop_eq_getElem_cons h, List.flatMap_cons, List.getD_eq_getElem?_getD, List.getElem?_eq_getElem h]
  rfl
theorem recA_read (z : Int) (h : Mn.In64 z) (r : List Nat) : rdText 1024 (recA z ++ r) = .ok (bl (amt z), r) := by
  have hs := amt_size z h
  have := rdText_text (most := 1024) (s := bl (amt z)) (by rw [bl_length]; omega) (by rw [bl_length]; omega) r
  unfold text at this
  rw [bl_length] at this
  exact this
theorem sealed_ok (l : List Nat) (n : Nat) (hl : l.length = n) : (l ++ le (Crc.update 0 l)).drop (n + 4 - 4) = le (Crc.update 0 ((l ++ le (Crc.update 0 l)).take (n + 4 - 4))) := by
  rw [Nat.add_sub_cancel, ← hl, List.drop_left, List.take_left]
theorem sealed_take (l : List Nat) (n : Nat) (hl : l.length = n) : (l ++ le (Crc.update 0 l)).take (n + 4 - 4) = l := by
  rw [Nat.add_sub_cancel, ← hl, List.take_left]
theorem readText_of (a : Option Addr) (len cap : Nat) (l : List Nat) (w : World) (h : IsB w a len cap l) (hr : len ≤ 140737488355328) (s r : List Nat) (hn : rdText 1024 l = .ok (s, r)) :
    Calls Tryd.prog 16 #[.slice a len cap] w fun e w' => (∃ a' c', e = .returned (.tuple #[.string (str s), .slice a' r.length c', .int .i64 0]) ∧ IsB w' a' r.length c' r) ∧ Below w.heap.size w w' := by
  refine (readText_any a len cap l w h hr).mono ?_
  rintro e w2 ⟨(⟨s', p', q, hn', hp, hs, rfl, hq, hrow⟩ | ⟨k, hn', _⟩), hb⟩
  case inr => rw [hn] at hn'; cases hn'
  rw [hn] at hn'
  simp only [Except.ok.injEq, Prod.mk.injEq] at hn'
  obtain ⟨rfl, rfl⟩ := hn'
  have e : (l.drop p').length = len - p' := by have := h.1; simp; omega
  rw [e]
  exact ⟨⟨_, _, rfl, hrow.isB (fun x hx => h.2.2.2.1 x (List.mem_of_mem_drop hx))⟩, hb⟩
theorem begins_any (w : World) (hP : Mn.POW w) : Calls Tryd.prog 4 #[] w fun e w' => e = .returned (.bool true) ∧ Below w.heap.size w w' := by
  have T := hide (Mn.text_any (-5) (by unfold Mn.In64; omega) w hP)
  rw [show (Mn.txt (-5)) = [45, 48, 46, 48, 53] by decide +kernel] at T
  clear hP
  go_enter Tryd.func4, Tryd.ntmps4
  go_wp2_with fail
  refine T.out.mono ?_
  rintro e w1 ⟨rfl, hb1⟩
  go_wp2
  go_ret
  exact ⟨rfl, hb1⟩
def junk : List Nat := [106, 117, 110, 107]
/-- the disk behind the cut -/
def cutSt (i j : Nat) (l : List Nat) : St := ((((st0.goes i l).syncs).goes j junk).cuts)
theorem fated_far (fr : Nat → Option (List Nat)) (l : List (Nat × Nat)) (us : List Nat) (f : Nat → List Nat) (i : Nat) (hi : i ∉ us) : ∀ k, k ≤ us.length → fated fr l us f k i = f i
  | 0, _ => rfl
  | k + 1, hk => by
    have ih := fated_far fr l us f i hi k (by omega)
    show setSyn _ _ _ i = _
    unfold setSyn
    rw [if_neg]
    · exact ih
    · intro e
      apply hi
      rw [e, List.getD_eq_getElem?_getD, List.getElem?_eq_getElem (by omega)]
      exact List.getElem_mem _
theorem kept_reads (i j : Nat) (l : List Nat) (fs : List (Nat × Nat)) (hij : i ≠ j) : (((cutSt i j l).fates fs ((cutSt i j l).uns 8) ((cutSt i j l).uns 8).length).back).reads i = l := by
  have hfr : (cutSt i j l).fr i = none := by
    simp [cutSt, St.cuts, St.goes, St.syncs, St.puts, st0, hij]
  have hu : i ∉ (cutSt i j l).uns 8 := by
    intro h
    have := (uns_mem.1 h).2
    rw [hfr] at this; cases this
  have hs : (cutSt i j l).syn i = l := by
    simp [cutSt, St.cuts, St.goes, St.syncs, St.puts, st0, St.reads]
  show ((none : Option (List Nat)).getD (fated _ fs _ _ _ i)) = l
  rw [fated_far _ _ _ _ _ hu _ (Nat.le_refl _)]
  exact hs
theorem w_out (z : Int) (l : List Nat) (h : ¬ (0 ≤ z ∧ z < 8)) : st0.write 8 z l = (st0, 2) := by
  unfold St.write
  rw [if_neg (by simp [st0]), if_pos (by simpa using h)]
theorem w_in (i : Nat) (l : List Nat) (hi : i < 8) (hl : l.length ≤ 4096) : st0.write 8 (i : Int) l = (st0.goes i l, 0) := by
  unfold St.write
  rw [if_neg (by simp [st0]), if_neg (by simp; omega), if_neg (by omega), if_neg (by simp [st0])]
  rfl
theorem s_in (i : Nat) (l : List Nat) : (st0.goes i l).sync = ((st0.goes i l).syncs, 0) := by
  unfold St.sync
  rw [if_neg (by simp [St.goes, St.puts, st0])]
theorem w_junk (i j : Nat) (l : List Nat) (hj : j < 8) : ((st0.goes i l).syncs).write 8 (j : Int) junk = (((st0.goes i l).syncs).goes j junk, 0) := by
  unfold St.write
  rw [if_neg (by simp [St.goes, St.puts, St.syncs, st0]), if_neg (by simp; omega), if_neg (by simp [junk]), if_neg (by simp [St.goes, St.puts, St.syncs, st0])]
  rfl
theorem c_in (i j : Nat) (l : List Nat) : (((st0.goes i l).syncs).goes j junk).cut = (cutSt i j l, 0) := by
  unfold St.cut
  rw [if_neg (by simp [St.goes, St.puts, St.syncs, st0])]
  rfl
/-- the disk behind the restore -/
def backSt (i j : Nat) (l : List Nat) (fs : List (Nat × Nat)) : St := ((cutSt i j l).fates fs ((cutSt i j l).uns 8) ((cutSt i j l).uns 8).length).back
theorem r_in (i j : Nat) (l : List Nat) (fs : List (Nat × Nat)) : ((cutSt i j l).rest 8 fs = (cutSt i j l, 3) ∨ (cutSt i j l).rest 8 fs = (cutSt i j l, 15)) ∨ (cutSt i j l).rest 8 fs = (backSt i j l fs, 0) := by
  unfold St.rest
  rw [if_pos (by rfl)]
  by_cases h1 : 1024 < fs.length
  · rw [if_pos h1]; exact .inl (.inl rfl)
  · rw [if_neg h1]
    by_cases h2 : goodB fs = true
    · rw [if_pos h2]; exact .inr rfl
    · rw [if_neg h2]; exact .inl (.inr rfl)
theorem e_in (i j : Nat) (l : List Nat) (fs : List (Nat × Nat)) (hi : i < 8) (hij : i ≠ j) : (backSt i j l fs).readE 8 (i : Int) = 0 ∧ (backSt i j l fs).readL 8 (i : Int) = full l := by
  unfold St.readE St.readL
  rw [if_neg (by simp [backSt, St.back]), if_neg (by simp; omega), if_neg (by simp [backSt, St.back]), if_neg (by simp; omega)]
  refine ⟨rfl, ?_⟩
  rw [Int.toNat_natCast]
  unfold backSt
  rw [kept_reads i j l fs hij]
theorem full_take (l : List Nat) : (full l).take l.length = l := by
  unfold full fullN
  rw [List.take_left]
theorem full_len (l : List Nat) (h : l.length ≤ 4096) : (full l).length = 4096 := fullN_length h
end Go.Proofs.YtipeegjbfieknaaDoor
