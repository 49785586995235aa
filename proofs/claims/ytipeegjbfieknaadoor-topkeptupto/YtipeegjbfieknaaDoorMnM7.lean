/- contracts: isDigit, areDigits, isWhole, readAmount -/
import Derived.Test.YtipeegjbfieknaaDoorMnM6
import Derived.Laws.RangeString
namespace Go.Proofs.YtipeegjbfieknaaDoor.Mn
open Go.RowKit Go.Shelf Go.Sort Go.Lib
set_option maxRecDepth 40000
theorem decode_hi (s : ByteArray) (i : Nat) (h : 128 ≤ (s.get! (i + 0)).toNat) : 128 ≤ (Utf8.decode s i).1 := by
  unfold Utf8.decode
  simp only [Utf8.runeError]
  split
  · omega
  · repeat' split
    all_goals simp_all
    all_goals omega
theorem run_next_any {P : Program} (w : World) (s : ByteArray) (pos : Nat) (ty : TypeId) (h : pos < s.size) :
    (Instr.next (.pointer (some ⟨w.heap.size, 0, none⟩)) true ty).run P (w.iter s pos) =
      .ok (.tuple #[.bool true, .int .i64 pos, .int .i32 (Utf8.decode s pos).1]) (w.iter s (pos + (Utf8.decode s pos).2)) := by
  simp only [Instr.next, getObj, setObj, Sem.run_bind, Sem.run, World.iter_heap, Result.andThen, h, if_true, World.iter_set]
  simp [goInt]
theorem isDigit_yes (r : Int) (h1 : 48 ≤ r) (h2 : r ≤ 57) (w : World) : Calls Tryd.prog 48 #[.int .i32 r] w fun e w' => e = .returned (.bool true) ∧ w' = w := by
  go_enter Tryd.func48, Tryd.ntmps48
  go_wp2
  go_ret
  exact ⟨rfl, rfl⟩
theorem isDigit_no (r : Int) (h : r < 48 ∨ 57 < r) (w : World) : Calls Tryd.prog 48 #[.int .i32 r] w fun e w' => e = .returned (.bool false) ∧ w' = w := by
  by_cases h1 : 48 ≤ r
  · have h2 : ¬ r ≤ 57 := by omega
    have d2 : decide (r ≤ 57) = false := by simpa using h2
    clear h
    go_enter Tryd.func48, Tryd.ntmps48
    go_wp2
    go_ret
    exact ⟨rfl, rfl⟩
  · have d1 : decide (48 ≤ r) = false := by simpa using h1
    clear h
    go_enter Tryd.func48, Tryd.ntmps48
    go_wp2
    go_ret
    exact ⟨rfl, rfl⟩
def dig (L : List UInt8) : Bool := L.all fun b => decide (48 ≤ b.toNat) && decide (b.toNat ≤ 57)
theorem dig_no (L : List UInt8) (k : Nat) (h : k < L.length) (hb : (L[k]).toNat < 48 ∨ 57 < (L[k]).toNat) : dig L = false := by
  unfold dig
  rw [List.all_eq_false]
  refine ⟨L[k], List.getElem_mem h, ?_⟩
  simp; omega
theorem dig_snoc (L : List UInt8) (k : Nat) (h : k < L.length) (h1 : 48 ≤ (L[k]).toNat) (h2 : (L[k]).toNat ≤ 57) (hd : dig (L.take k) = true) : dig (L.take (k + 1)) = true := by
  unfold dig at *
  rw [List.take_succ_eq_append_getElem h, List.all_append, hd]
  simp [h1, h2]
theorem get_str (L : List UInt8) (k : Nat) (h : k < L.length) : (⟨L.toArray⟩ : ByteArray)[k]'(by simpa [ByteArray.size] using h) = L[k] := rfl
theorem below_iter (w : World) (s : ByteArray) (k : Nat) : Below w.heap.size w (w.iter s k) := (Below.refl _ _).alloc (Nat.le_refl _) _
set_option maxHeartbeats 400000 in
/-- money.areDigits -/
theorem areDigits_any (L : List UInt8) (w : World) :
    Calls Tryd.prog 35 #[.string ⟨L.toArray⟩] w fun e w' => e = .returned (.bool (dig L && !L.isEmpty)) ∧ Below w.heap.size w w' := by
  have hsz : (⟨L.toArray⟩ : ByteArray).size = L.length := by simp [ByteArray.size]
  have HG : Hid (∀ k (h : k < L.length), (⟨L.toArray⟩ : ByteArray)[k]'(by rw [hsz]; exact h) = L[k]) := hide (fun k h => rfl)
  have HE : Hid (L.isEmpty = true → (⟨L.toArray⟩ : ByteArray) = ⟨#[]⟩) := hide (fun h => by rw [List.isEmpty_iff.1 h])
  go_enter Tryd.func35, Tryd.ntmps35
  go_wp2_with fail
  go_loopw [4] (fun _ wr => ∃ k : Nat, k ≤ L.length ∧ wr = w.iter ⟨L.toArray⟩ k ∧ Hid (dig (L.take k) = true)) (fun _ wr => L.length - wr.iterPos w.heap.size)
  case atStart => exact ⟨0, by omega, rfl, hide rfl⟩
  case round =>
    obtain ⟨k, hk, rfl, hd⟩ := hrel
    by_cases hlt : k < L.length
    · have hlt' : k < (⟨L.toArray⟩ : ByteArray).size := by rw [hsz]; exact hlt
      by_cases ha : (L[k]).toNat < 128
      · have hnx := fun ty => run_next_ascii (P := Tryd.prog) w ⟨L.toArray⟩ k ty hlt' (by rw [HG.out k hlt]; exact ha)
        rw [HG.out k hlt] at hnx
        by_cases hb : 48 ≤ (L[k]).toNat ∧ (L[k]).toNat ≤ 57
        · have HD := hide (dig_snoc L k hlt hb.1 hb.2 hd.out)
          have D := hide (fun W => isDigit_yes ((L[k]).toNat : Int) (by omega) (by omega) W)
          generalize hx : (L[k]).toNat = x at *
          clear hb ha hd hx hlt'
          generalize (⟨L.toArray⟩ : ByteArray) = s at *
          go_wp2_with (go_at_call 48; refine (D.out _).mono ?_; rintro e w' ⟨rfl, rfl⟩)
          go_roundw
          case rel => exact ⟨k + 1, by omega, rfl, HD⟩
          case measure => rw [iterPos_of (World.iter_heap w s (k + 1)), iterPos_of (World.iter_heap w s k)]; omega
        · have HD := hide (dig_no L k hlt (by omega))
          have D := hide (fun W => isDigit_no ((L[k]).toNat : Int) (by omega) W)
          generalize hx : (L[k]).toNat = x at *
          clear hb ha hd hx hlt'
          generalize (⟨L.toArray⟩ : ByteArray) = s at *
          go_wp2_with (go_at_call 48; refine (D.out _).mono ?_; rintro e w' ⟨rfl, rfl⟩)
          go_ret
          exact ⟨by rw [HD.out]; rfl, below_iter _ _ _⟩
      · have hnx := fun ty => run_next_any (P := Tryd.prog) w ⟨L.toArray⟩ k ty hlt'
        have hr := decode_hi ⟨L.toArray⟩ k (by
          have : (⟨L.toArray⟩ : ByteArray).get! (k + 0) = L[k] := by
            show (⟨L.toArray⟩ : ByteArray).get! k = L[k]
            simp [ByteArray.get!, hlt]
          rw [this]; omega)
        have HD := hide (dig_no L k hlt (by omega))
        have D := hide (fun W => isDigit_no ((Utf8.decode ⟨L.toArray⟩ k).1 : Int) (by omega) W)
        generalize (Utf8.decode ⟨L.toArray⟩ k).1 = x at *
        generalize k + (Utf8.decode ⟨L.toArray⟩ k).2 = k2 at *
        clear ha hd hlt' hr
        generalize (⟨L.toArray⟩ : ByteArray) = s at *
        go_wp2_with (go_at_call 48; refine (D.out _).mono ?_; rintro e w' ⟨rfl, rfl⟩)
        go_ret
        exact ⟨by rw [HD.out]; rfl, below_iter _ _ _⟩
    · have hnx := fun ty => run_next_end (P := Tryd.prog) w ⟨L.toArray⟩ k ty (by rw [hsz]; exact hlt)
      have htk : L.take k = L := List.take_of_length_le (by omega)
      rw [htk] at hd
      clear htk
      cases he : L.isEmpty
      · have HF : Hid ((dig L && !L.isEmpty) = true) := hide (by rw [hd.out, he]; rfl)
        go_wp2
        go_ret
        exact ⟨by rw [HF.out]; rfl, below_iter _ _ _⟩
      · have HF : Hid ((dig L && !L.isEmpty) = false) := hide (by rw [he]; simp)
        go_wp2
        go_ret
        exact ⟨by rw [HF.out]; rfl, below_iter _ _ _⟩
def whole (L : List UInt8) : Bool := dig L && !L.isEmpty && (L == [48] || !(L.headD 0 == 48))
set_option maxHeartbeats 400000 in
/-- money.isWhole -/
theorem isWhole_any (L : List UInt8) (w : World) :
    Calls Tryd.prog 34 #[.string ⟨L.toArray⟩] w fun e w' => e = .returned (.bool (whole L)) ∧ Below w.heap.size w w' := by
  have A := hide (fun W => areDigits_any L W)
  cases hd : (dig L && !L.isEmpty)
  · rw [hd] at A
    have HW : Hid (whole L = false) := hide (by unfold whole; rw [hd]; rfl)
    clear hd
    generalize (⟨L.toArray⟩ : ByteArray) = s at *
    go_enter Tryd.func34, Tryd.ntmps34
    go_wp2_with fail
    refine (A.out _).mono ?_
    rintro e w1 ⟨rfl, hb⟩
    go_wp2
    go_ret
    exact ⟨by rw [HW.out]; rfl, hb⟩
  · rw [hd] at A
    cases L with
    | nil => simp at hd
    | cons b r =>
      by_cases h1 : (b :: r) = [48]
      · have HW : Hid (whole (b :: r) = true) := hide (by unfold whole; rw [hd, h1]; rfl)
        rw [h1] at A HW
        rw [h1]
        clear hd h1
        go_enter Tryd.func34, Tryd.ntmps34
        go_wp2_with fail
        refine (A.out _).mono ?_
        rintro e w1 ⟨rfl, hb⟩
        go_wp2
        go_ret
        exact ⟨by rw [HW.out]; rfl, hb⟩
      · have hne : (b == 48 && r.isEmpty) = false := by
          cases r with
          | nil => simp at h1 ⊢; exact h1
          | cons c r => simp
        have HW : Hid (whole (b :: r) = ((b.toNat : Int) != 48)) := hide (by
          unfold whole
          rw [hd, beq_eq_false_iff_ne.2 h1]
          simp only [Bool.true_and, Bool.false_or, List.headD_cons]
          by_cases e : b = 48
          · subst e; rfl
          · have : (b.toNat : Int) ≠ 48 := fun h => e (UInt8.toNat_inj.1 (by simpa using (by omega : b.toNat = 48)))
            rw [beq_eq_false_iff_ne.2 e, bne_iff_ne.2 this]; rfl)
        clear hd h1
        go_enter Tryd.func34, Tryd.ntmps34
        go_wp2_with fail
        refine (A.out _).mono ?_
        rintro e w1 ⟨rfl, hb⟩
        go_wp2
        go_ret
        exact ⟨by rw [HW.out]; rfl, hb⟩
/-- digits, read on from a number; none: it is far beyond -/
def rd : Nat → List UInt8 → Option Nat
  | n, [] => some n
  | n, b :: r => if 922337203685477580 < n then none else rd (n * 10 + (b.toNat - 48)) r
theorem rd_step (n : Nat) (L : List UInt8) (k : Nat) (h : k < L.length) : rd n (L.drop k) = if 922337203685477580 < n then none else rd (n * 10 + ((L[k]).toNat - 48)) (L.drop (k + 1)) := by
  rw [List.drop_eq_getElem_cons h]; rfl
theorem dig_at (L : List UInt8) (k : Nat) (h : k < L.length) (hd : dig L = true) : 48 ≤ (L[k]).toNat ∧ (L[k]).toNat ≤ 57 := by
  unfold dig at hd
  rw [List.all_eq_true] at hd
  have := hd _ (List.getElem_mem h)
  simpa using this
set_option maxHeartbeats 400000 in
/-- money.readAmount -/
theorem readAmount_any (L : List UInt8) (w : World) (hd : dig L = true) :
    Calls Tryd.prog 36 #[.string ⟨L.toArray⟩] w fun e w' => e = .returned (.tuple #[.int .u64 ((rd 0 L).getD 0 : Nat), .bool (rd 0 L).isSome]) ∧ Below w.heap.size w w' := by
  have hsz : (⟨L.toArray⟩ : ByteArray).size = L.length := by simp [ByteArray.size]
  have HG : Hid (∀ k (h : k < L.length), (⟨L.toArray⟩ : ByteArray)[k]'(by rw [hsz]; exact h) = L[k]) := hide (fun k h => rfl)
  go_enter Tryd.func36, Tryd.ntmps36
  go_wp2_with fail
  go_loopw [4, 6] (fun v _ wr => ∃ (k n : Nat), k ≤ L.length ∧ wr = w.iter ⟨L.toArray⟩ k ∧ v = .int .u64 n ∧ n ≤ 9223372036854775809 ∧ Hid (rd 0 L = rd n (L.drop k))) (fun _ _ wr => L.length - wr.iterPos w.heap.size)
  case atStart => exact ⟨0, 0, by omega, rfl, rfl, by omega, hide (by simp)⟩
  case round =>
    obtain ⟨k, n, hk, rfl, rfl, hn, hrd⟩ := hrel
    by_cases hlt : k < L.length
    · have hlt' : k < (⟨L.toArray⟩ : ByteArray).size := by rw [hsz]; exact hlt
      obtain ⟨ha1, ha2⟩ := dig_at L k hlt hd
      have hnx := fun ty => run_next_ascii (P := Tryd.prog) w ⟨L.toArray⟩ k ty hlt' (by rw [HG.out k hlt]; omega)
      rw [HG.out k hlt] at hnx
      have HS := hide (rd_step n L k hlt)
      generalize hx : (L[k]).toNat = x at *
      clear hx hlt'
      by_cases hov : 922337203685477580 < n
      · have HR : Hid (rd 0 L = none) := hide (by rw [hrd.out, HS.out, if_pos hov])
        have t : (922337203685477580 : Int) < (n : Int) := by omega
        clear HS hrd
        generalize (⟨L.toArray⟩ : ByteArray) = s at *
        go_wp2
        go_ret2
        exact ⟨by rw [HR.out]; rfl, below_iter _ _ _⟩
      · have HR : Hid (rd 0 L = rd (n * 10 + (x - 48)) (L.drop (k + 1))) := hide (by rw [hrd.out, HS.out, if_neg hov])
        have t : ¬ (922337203685477580 : Int) < (n : Int) := by omega
        have EN : Hid ((n : Int) * 10 + ((x : Int) - 48) = ((n * 10 + (x - 48) : Nat) : Int)) := hide (by omega)
        clear HS hrd
        generalize (⟨L.toArray⟩ : ByteArray) = s at *
        go_wp2
        go_roundw
        case rel => exact ⟨k + 1, n * 10 + (x - 48), by omega, rfl, by rw [EN.out], by omega, HR⟩
        case measure => rw [iterPos_of (World.iter_heap w s (k + 1)), iterPos_of (World.iter_heap w s k)]; omega
    · have hnx := fun ty => run_next_end (P := Tryd.prog) w ⟨L.toArray⟩ k ty (by rw [hsz]; exact hlt)
      have HR : Hid (rd 0 L = some n) := hide (by rw [hrd.out, List.drop_of_length_le (by omega)]; rfl)
      generalize (⟨L.toArray⟩ : ByteArray) = s at *
      go_wp2
      go_ret2
      exact ⟨by rw [HR.out]; rfl, below_iter _ _ _⟩
end Go.Proofs.YtipeegjbfieknaaDoor.Mn
