/- where an order's pay stands -/
import Derived.Test.YtffhkljegopjmaaDoorGJ
namespace Go.Proofs.YtffhkljegopjmaaDoor.Lg
open Go.RowKit
set_option maxRecDepth 40000
/-- how many pays stand ahead -/
def lowP (l : List Py) (n : Int) : Nat := (l.takeWhile (fun x => decide (cmpI x.o n < 0))).length
def hasP (l : List Py) (n : Int) : Bool := decide (lowP l n < l.length) && decide (cmpI (l.getD (lowP l n) Py0).o n = 0)
theorem takeWhile_len {α : Type} (p : α → Bool) (d : α) : ∀ (l : List α) (k : Nat), k ≤ l.length → (∀ j, j < k → p (l.getD j d) = true) → (k < l.length → p (l.getD k d) = false) → (l.takeWhile p).length = k
  | [], k, hk, _, _ => by simp at hk; simp [hk]
  | a :: r, 0, _, _, h2 => by
    have := h2 (by simp)
    simp only [List.getD_cons_zero] at this
    rw [List.takeWhile_cons_of_neg (by simp [this])]; rfl
  | a :: r, k + 1, hk, h1, h2 => by
    have h0 := h1 0 (by omega)
    simp only [List.getD_cons_zero] at h0
    rw [List.takeWhile_cons_of_pos h0, List.length_cons, takeWhile_len p d r k (by simpa using hk) (fun j hj => by simpa using h1 (j + 1) (by omega)) (fun h => by simpa using h2 (by simpa using h))]
/-- what precedes the order stands ahead of what does not -/
def MonoP (l : List Py) (n : Int) : Prop := ∀ a b, a ≤ b → b < l.length → cmpI (l.getD b Py0).o n < 0 → cmpI (l.getD a Py0).o n < 0
set_option maxHeartbeats 2000000 in
theorem search_any (a : Option Addr) (len cap : Nat) (l : List Py) (n : Int) (w : World) (h : IsP w a len cap l) (hM : MonoP l n) (hlen : len ≤ 100000) : Calls Tryd.prog 45 #[.slice a len cap, .int .i64 n, .func (.func 46) #[] #[]] w fun e w' => e = .returned (.tuple #[.int .i64 (lowP l n), .bool (hasP l n)]) ∧ Below w.heap.size w w' := by
  have HV := hide h
  have HM := hide hM
  have HLN := hide h.1
  have hcap := h.2.1
  have hcm : cap ≤ 9223372036854775807 := h.2.2.1
  have hcm' : (cap : Int) ≤ 9223372036854775807 := by omega
  have HL : Hid (∀ k, k ≤ l.length → (∀ j, j < k → cmpI (l.getD j Py0).o n < 0) → (k < l.length → 0 ≤ cmpI (l.getD k Py0).o n) → lowP l n = k) := hide (fun k hk h1 h2 => takeWhile_len _ Py0 l k hk (fun j hj => decide_eq_true (h1 j hj)) (fun h => decide_eq_false (by have := h2 h; omega)))
  have HH : Hid (hasP l n = (decide (lowP l n < l.length) && decide (cmpI (l.getD (lowP l n) Py0).o n = 0))) := hide rfl
  generalize hasP l n = hb at *
  generalize lowP l n = lo at *
  have HOD := hide (fun x W => ordp_any x n W)
  clear h hM
  go_enter Tryd.func45, Tryd.ntmps45
  go_wp2
  go_loopw [9, 10] (fun i j wr => ∃ lo hi : Nat, i = .int .i64 lo ∧ j = .int .i64 hi ∧ lo ≤ hi ∧ hi ≤ len ∧ Hid (∀ t', t' < lo → cmpI (l.getD t' Py0).o n < 0) ∧ Hid (∀ t', hi ≤ t' → t' < len → 0 ≤ cmpI (l.getD t' Py0).o n) ∧ Hid (Below w.heap.size w wr)) (fun i j _ => (intOf j).toNat - (intOf i).toNat)
  case atStart => exact ⟨0, len, by simp, by simp, by omega, by omega, hide (fun t' h => by omega), hide (fun t' h h' => by omega), hide (Below.refl _ _)⟩
  case round =>
    obtain ⟨i, j, rfl, rfl, hij, hj, HA, HZ, HW⟩ := hrel
    by_cases hlt : i < j
    · obtain ⟨m, hm⟩ : ∃ m, m = (i + j) / 2 := ⟨_, rfl⟩
      have hm' : ((i : Int) + (j : Int)) / 2 = (m : Int) := by omega
      have hmj : m < j := by omega
      have him : i ≤ m := by omega
      have hml : m < len := by omega
      have HM' := hide hm
      clear hm
      obtain ⟨bs, off, rfl, hbs, y0⟩ := (HV.out.below' HW.out).2.2.2.2.1 m (by omega)
      generalize hy : l.getD m Py0 = y at *
      have HY := hide hy
      clear hy
      obtain ⟨y1, y2, y3, y4⟩ := y
      have HD := hide (HOD.out ⟨y1, y2, y3, y4⟩)
      obtain ⟨d1, d2, d3, d4⟩ := y0
      dsimp only at d1 d2 d3 d4 HD
      generalize hod : cmpI y1 n = od at *
      have HODE := hide hod
      clear hod
      by_cases ho : od < 0
      · go_wp2_with (first | (go_at_call 46; refine (HD.out _).mono ?_; rintro e w' ⟨rfl, HBo⟩))
        go_roundw
        case rel => exact ⟨m + 1, j, by simp, by simp, by omega, by omega, hide (fun t' ht => HM.out t' m (by omega) (by rw [HLN.out]; omega) (by rw [HY.out]; dsimp only; rw [HODE.out]; exact ho)), HZ, hide (HW.out.trans (HBo.mono HW.out.size))⟩
        case measure => simp [intOf]; omega
      · go_wp2_with (first | (go_at_call 46; refine (HD.out _).mono ?_; rintro e w' ⟨rfl, HBo⟩))
        go_roundw
        case rel => exact ⟨i, m, by simp, by simp, by omega, by omega, HA, hide (fun t' ht ht' => Int.not_lt.1 fun hn => by have := HM.out m t' ht (by rw [HLN.out]; omega) hn; rw [HY.out] at this; dsimp only at this; rw [HODE.out] at this; omega), hide (HW.out.trans (HBo.mono HW.out.size))⟩
        case measure => simp [intOf]; omega
    · obtain rfl : i = j := by omega
      have HE := hide (HL.out i (by rw [HLN.out]; omega) HA.out (fun h => HZ.out i (by omega) (by rw [HLN.out] at h; exact h)))
      clear hlt
      by_cases hi : i < len
      · obtain ⟨bs, off, rfl, hbs, y0⟩ := (HV.out.below' HW.out).2.2.2.2.1 i hi
        rw [HE.out, HLN.out, decide_eq_true hi, Bool.true_and] at HH
        generalize l.getD i Py0 = y at *
        obtain ⟨y1, y2, y3, y4⟩ := y
        have HD := hide (HOD.out ⟨y1, y2, y3, y4⟩)
        obtain ⟨d1, d2, d3, d4⟩ := y0
        dsimp only at d1 d2 d3 d4 HD HH
        have hiI : (i : Int) < (len : Int) := by omega
        generalize cmpI y1 n = od at *
        go_wp2_with (first | (go_at_call 46; refine (HD.out _).mono ?_; rintro e w' ⟨rfl, HBo⟩))
        go_ret2
        refine ⟨?_, HW.out.trans (HBo.mono HW.out.size)⟩
        rw [HE.out, HH.out]
        congr 3
      · rw [HE.out, HLN.out, decide_eq_false hi, Bool.false_and] at HH
        have hin : ¬ (i : Int) < (len : Int) := by omega
        go_wp2
        go_ret2
        exact ⟨by rw [HE.out, HH.out]; rfl, HW.out⟩
end Go.Proofs.YtffhkljegopjmaaDoor.Lg
