/- arithmetic of shares -/
import Derived.Test.YtjhlilamnbbkbaaDoorS1
namespace Go.Proofs.YtjhlilamnbbkbaaDoor
open Go.RowKit Go.Shelf Go.Sort Go.Lib
/-- how many have a weight -/
def cnt : List Int → Int
  | [] => 0
  | x :: r => (if 0 < x then 1 else 0) + cnt r
theorem cnt_nonneg (l : List Int) : 0 ≤ cnt l := by
  induction l with
  | nil => simp [cnt]
  | cons x r ih => simp only [cnt]; split <;> omega
theorem hand_len (W : List Int) : ∀ (n : Int) (S : List Int), (hand n S W).length = S.length := by
  induction W with
  | nil => intro n S; cases S <;> simp [hand]
  | cons x r ih =>
    intro n S
    cases S with
    | nil => simp [hand]
    | cons s ss =>
      simp only [hand]
      split <;> simp [ih]
theorem hand_sum (W : List Int) : ∀ (n : Int) (S : List Int), S.length = W.length → 0 ≤ n → n ≤ cnt W → (hand n S W).sum = S.sum + n := by
  induction W with
  | nil =>
    intro n S hl h0 h1
    obtain rfl : S = [] := List.length_eq_zero_iff.1 hl
    simp only [cnt] at h1
    simp [hand]; omega
  | cons x r ih =>
    intro n S hl h0 h1
    cases S with
    | nil => simp at hl
    | cons s ss =>
      have hl' : ss.length = r.length := by simpa using hl
      simp only [cnt] at h1
      simp only [hand]
      by_cases hc : 0 < n ∧ 0 < x
      · rw [if_pos hc] at *
        rw [if_pos hc.2] at h1
        rw [List.sum_cons, ih (n - 1) ss hl' (by omega) (by omega), List.sum_cons]; omega
      · rw [if_neg hc]
        have h2 : n ≤ cnt r := by
          have := cnt_nonneg r
          by_cases hx : 0 < x
          · have : ¬ 0 < n := fun h => hc ⟨h, hx⟩
            omega
          · rw [if_neg hx] at h1; omega
        rw [List.sum_cons, ih n ss hl' h0 h2, List.sum_cons]; omega
theorem hand_get (W : List Int) : ∀ (n : Int) (S : List Int) (i : Nat), (hand n S W).getD i 0 = S.getD i 0 ∨ (0 < W.getD i 0 ∧ (hand n S W).getD i 0 = S.getD i 0 + 1) := by
  induction W with
  | nil => intro n S i; left; cases S <;> simp [hand]
  | cons x r ih =>
    intro n S i
    cases S with
    | nil => left; simp [hand]
    | cons s ss =>
      simp only [hand]
      by_cases hc : 0 < n ∧ 0 < x
      · rw [if_pos hc]
        cases i with
        | zero => right; exact ⟨by simpa using hc.2, by simp⟩
        | succ i => simpa using ih (n - 1) ss i
      · rw [if_neg hc]
        cases i with
        | zero => left; simp
        | succ i => simpa using ih n ss i
theorem rest_le (T A : Int) (hA : 0 < A) (l : List Int) (hl : ∀ x ∈ l, 0 ≤ x) : T * l.sum - (l.map fun x => T * x / A).sum * A ≤ cnt l * A := by
  induction l with
  | nil => simp [cnt]
  | cons x r ih =>
    have h1 := ih (fun y hy => hl y (List.mem_cons_of_mem _ hy))
    have hx := hl x List.mem_cons_self
    simp only [List.map_cons, List.sum_cons, cnt]
    rw [Int.mul_add, Int.add_mul, Int.add_mul]
    have h2 : T * x - T * x / A * A ≤ (if 0 < x then 1 else 0) * A := by
      by_cases h0 : 0 < x
      · rw [if_pos h0]
        have h3 := Int.emod_lt_of_pos (T * x) hA
        have h4 := Int.mul_ediv_add_emod (T * x) A
        rw [Int.mul_comm A] at h4
        generalize T * x / A * A = z at *
        omega
      · obtain rfl : x = 0 := by omega
        simp
    omega
theorem share_len (T : Int) (l : List Int) : (share T l).length = l.length := by
  unfold share; rw [hand_len, parts_len]
theorem share_sum {T : Int} {l : List Int} (hT : 0 ≤ T) (h : aw l = true) : (share T l).sum = T := by
  unfold share
  have h1 := parts_sum hT h
  have h2 := rest_le T l.sum (aw_pos h) l (aw_nonneg h)
  have h3 : T - (parts T l).sum ≤ cnt l := by
    refine Int.le_of_mul_le_mul_right (a := l.sum) ?_ (aw_pos h)
    rw [Int.sub_mul]
    exact h2
  rw [hand_sum l _ _ (parts_len T l) (by omega) h3]
  omega
theorem parts_get0 (T : Int) (l : List Int) (k : Nat) : (parts T l).getD k 0 = T * l.getD k 0 / l.sum := by
  by_cases h : k < l.length
  · exact parts_get T l k h
  · rw [List.getD_eq_getElem?_getD, List.getElem?_eq_none (by rw [parts_len]; omega), List.getD_eq_getElem?_getD, List.getElem?_eq_none (by omega)]
    simp
theorem getD_nonneg (l : List Int) (h : ∀ x ∈ l, 0 ≤ x) (k : Nat) : 0 ≤ l.getD k 0 := by
  rw [List.getD_eq_getElem?_getD]
  by_cases hk : k < l.length
  · rw [List.getElem?_eq_getElem hk]; exact h _ (List.getElem_mem hk)
  · rw [List.getElem?_eq_none (by omega)]; decide
theorem share_get {T : Int} {l : List Int} (hT : 0 ≤ T) (h : aw l = true) (k : Nat) : 0 ≤ (share T l).getD k 0 ∧ (l.getD k 0 = 0 → (share T l).getD k 0 = 0) := by
  have h1 := hand_get l (T - (parts T l).sum) (parts T l) k
  have h2 := getD_nonneg _ (parts_nonneg hT h) k
  have h3 := parts_get0 T l k
  unfold share
  constructor
  · omega
  · intro h0
    rw [h0, Int.mul_zero, Int.zero_ediv] at h3
    omega
theorem share_mono {T : Int} {l : List Int} (hT : 0 ≤ T) (h : aw l = true) (i k : Nat) (hik : l.getD i 0 < l.getD k 0) : (share T l).getD i 0 - 1 ≤ (share T l).getD k 0 := by
  have h1 := hand_get l (T - (parts T l).sum) (parts T l) i
  have h2 := hand_get l (T - (parts T l).sum) (parts T l) k
  have h3 := parts_get0 T l i
  have h4 := parts_get0 T l k
  have h5 : T * l.getD i 0 / l.sum ≤ T * l.getD k 0 / l.sum := Int.ediv_le_ediv (aw_pos h) (Int.mul_le_mul_of_nonneg_left (Int.le_of_lt hik) hT)
  unfold share
  omega
theorem mem_getD (l : List Int) {x : Int} (h : x ∈ l) : ∃ k, x = l.getD k 0 := by
  obtain ⟨k, hk, rfl⟩ := List.mem_iff_getElem.1 h
  exact ⟨k, by rw [List.getD_eq_getElem?_getD, List.getElem?_eq_getElem hk]; rfl⟩
theorem share_bd {T : Int} {l : List Int} (hT : In64 T) (h0 : 0 ≤ T) (h : aw l = true) : ∀ x ∈ share T l, -9223372036854775808 ≤ x ∧ x ≤ 9223372036854775807 := by
  have hn : ∀ x ∈ share T l, 0 ≤ x := fun x hx => by
    obtain ⟨k, rfl⟩ := mem_getD _ hx
    exact (share_get h0 h k).1
  intro x hx
  have h1 := mem_le_sum _ hn x hx
  rw [share_sum h0 h] at h1
  have h2 := hn x hx
  have := hT.2
  omega
theorem share_sums {T : Int} {l : List Int} (hT : In64 T) (h0 : 0 ≤ T) (h : aw l = true) (hl : l.length ≤ 4096) : sums (share T l) = (T, 0) := by
  unfold sums
  rw [if_neg (by rw [share_len]; omega), share_sum h0 h, num_in hT, err_in hT]
end Go.Proofs.YtjhlilamnbbkbaaDoor
