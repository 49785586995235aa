/- contracts: handOut, Share -/
import Derived.Test.YtipeegjbfieknaaDoorMnM3
namespace Go.Proofs.YtipeegjbfieknaaDoor.Mn
open Go.RowKit Go.Shelf
set_option maxRecDepth 40000
theorem set_split (m : List Int) (k : Nat) (x : Int) (h : k < m.length) : (m.set k x).take (k + 1) = m.take k ++ [x] ∧ (m.set k x).drop (k + 1) = m.drop (k + 1) := by
  constructor
  · rw [List.take_succ_eq_append_getElem (by simpa using h)]
    simp [List.take_set_of_le]
  · rw [List.drop_set_of_lt (by omega)]
theorem get_le {l : List Int} {T : Int} (k : Nat) (h : ∀ x ∈ l, x + 1 ≤ T) (hk : k < l.length) : l.getD k 0 + 1 ≤ T := by
  rw [List.getD_eq_getElem?_getD, List.getElem?_eq_getElem hk]; exact h _ (List.getElem_mem hk)
def parts (T : Int) (l : List Int) : List Int := l.map fun x => T * x / l.sum
def share (T : Int) (l : List Int) : List Int := hand (T - (parts T l).sum) (parts T l) l
theorem sum_map_le (T A : Int) (hT : 0 ≤ T) (hA : 0 < A) (l : List Int) (hl : ∀ x ∈ l, 0 ≤ x) : 0 ≤ (l.map fun x => T * x / A).sum ∧ (l.map fun x => T * x / A).sum * A ≤ T * l.sum := by
  induction l with
  | nil => simp
  | cons x r ih =>
    obtain ⟨h1, h2⟩ := ih (fun y hy => hl y (List.mem_cons_of_mem _ hy))
    simp only [List.map_cons, List.sum_cons]
    have hx := hl x List.mem_cons_self
    have h3 : 0 ≤ T * x := Int.mul_nonneg hT hx
    have h4 := Int.ediv_nonneg h3 (Int.le_of_lt hA)
    have h5 : T * x / A * A ≤ T * x := Int.ediv_mul_le _ (by omega)
    rw [Int.add_mul, Int.mul_add]
    constructor
    · omega
    · omega
theorem sum_nonneg (l : List Int) (hl : ∀ x ∈ l, 0 ≤ x) : 0 ≤ l.sum := by
  induction l with
  | nil => simp
  | cons x r ih =>
    have := ih (fun y hy => hl y (List.mem_cons_of_mem _ hy))
    have := hl x List.mem_cons_self
    simp only [List.sum_cons]; omega
theorem mem_le_sum (l : List Int) (hl : ∀ x ∈ l, 0 ≤ x) : ∀ x ∈ l, x ≤ l.sum := by
  induction l with
  | nil => simp
  | cons y r ih =>
    intro x hx
    have h1 := sum_nonneg r (fun z hz => hl z (List.mem_cons_of_mem _ hz))
    have h2 := hl y List.mem_cons_self
    simp only [List.sum_cons]
    rcases List.mem_cons.1 hx with rfl | hx
    · omega
    · have := ih (fun z hz => hl z (List.mem_cons_of_mem _ hz)) x hx
      omega
theorem aw_nonneg {l : List Int} (h : aw l = true) : ∀ x ∈ l, 0 ≤ x := by
  unfold aw at h
  rw [Bool.and_eq_true, List.all_eq_true] at h
  intro x hx
  simpa using h.1 x hx
theorem aw_pos {l : List Int} (h : aw l = true) : 0 < l.sum := by
  have hn := aw_nonneg h
  unfold aw at h
  rw [Bool.and_eq_true, List.any_eq_true] at h
  obtain ⟨x, hx, h0⟩ := h.2
  have := mem_le_sum l hn x hx
  simp at h0
  omega
theorem parts_len (T : Int) (l : List Int) : (parts T l).length = l.length := by simp [parts]
theorem parts_nonneg {T : Int} {l : List Int} (hT : 0 ≤ T) (h : aw l = true) : ∀ x ∈ parts T l, 0 ≤ x := by
  intro x hx
  simp only [parts, List.mem_map] at hx
  obtain ⟨y, hy, rfl⟩ := hx
  exact Int.ediv_nonneg (Int.mul_nonneg hT (aw_nonneg h y hy)) (Int.le_of_lt (aw_pos h))
theorem parts_sum {T : Int} {l : List Int} (hT : 0 ≤ T) (h : aw l = true) : (parts T l).sum ≤ T := by
  have h1 := (sum_map_le T l.sum hT (aw_pos h) l (aw_nonneg h)).2
  exact Int.le_of_mul_le_mul_right h1 (aw_pos h)
theorem take_sum_le (l : List Int) (hl : ∀ x ∈ l, 0 ≤ x) (k : Nat) : 0 ≤ (l.take k).sum ∧ (l.take k).sum ≤ l.sum := by
  constructor
  · exact sum_nonneg _ (fun x hx => hl x (List.mem_of_mem_take hx))
  · have h1 := sum_nonneg (l.drop k) (fun x hx => hl x (List.mem_of_mem_drop hx))
    have h2 : l.sum = (l.take k).sum + (l.drop k).sum := by rw [← List.sum_append, List.take_append_drop]
    omega
def zer (n : Nat) : List Value := List.replicate n (.int .i64 0)
theorem zer_made (n : Nat) : madeCells #[Value.int .i64 0] n = (zer n).toArray := by
  simp [madeCells, zer, Nat.mod_one, Array.ext_iff]
theorem Tryd.info2 : (Tryd.prog.info? 2).map (fun i => (i.zero, i.size, i.bytes)) = some (some (.int .i64 0), 1, 8) := by kernel_rfl
theorem run_mkI (W : World) (n : Nat) (hb : n ≤ 35184372088832) :
    (Instr.makeSlice 22 (.int .i64 (n : Int)) (.int .i64 (n : Int))).run Tryd.prog W = .ok (.slice (some ⟨W.heap.size, 0, none⟩) n n) (W.alloc (.cells (zer n).toArray 2)) := by
  obtain ⟨i0, hi, hz0, hz1, hz2⟩ := info_parts Tryd.info2
  have hr := run_make (P := Tryd.prog) W 22 2 i0 _ Tryd.underlying22 hi hz0 .i64 .i64 (n : Int) (n : Int) (by omega) (by omega) (by rw [hz2]; omega) (by omega)
  rw [hr, hz1]
  simp only [Int.toNat_natCast, Nat.mul_one]
  rw [show (Value.int IntKind.i64 0).cells = #[Value.int .i64 0] from rfl, zer_made]
/-- the first k parts, noughts behind -/
def pz (T : Int) (l : List Int) (k : Nat) : List Int := (parts T l).take k ++ List.replicate (l.length - k) 0
theorem pz_len (T : Int) (l : List Int) (k : Nat) (h : k ≤ l.length) : (pz T l k).length = l.length := by simp [pz, parts_len]; omega
theorem pz_set (T : Int) (l : List Int) (k : Nat) (h : k < l.length) : (pz T l k).set k ((parts T l).getD k 0) = pz T l (k + 1) := by
  unfold pz
  rw [take_snocI (parts T l) k (by rw [parts_len]; exact h), List.set_append, if_neg (by simp [parts_len]; omega)]
  have e : k - ((parts T l).take k).length = 0 := by simp [parts_len]; omega
  rw [e, show l.length - k = (l.length - (k + 1)) + 1 by omega, List.replicate_succ, List.set_cons_zero, List.append_assoc]; rfl
theorem pz_full (T : Int) (l : List Int) : pz T l l.length = parts T l := by
  unfold pz; rw [List.take_of_length_le (by rw [parts_len]; omega)]; simp
theorem parts_get (T : Int) (l : List Int) (k : Nat) (h : k < l.length) : (parts T l).getD k 0 = T * l.getD k 0 / l.sum := by
  simp [parts, List.getD_eq_getElem?_getD, List.getElem?_eq_getElem h]
theorem RowI.drewN {w : World} {g len cap : Nat} {m : List Int} (h : RowI w g len cap m) (n : Nat) : RowI (w.drewN n) g len cap m := h
end Go.Proofs.YtipeegjbfieknaaDoor.Mn
