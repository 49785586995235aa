/- lines that a call makes, and lines that are turned round -/
import Derived.Test.YtjhlilamnbbkbaaDoorWTotals
namespace Go.Proofs.YtjhlilamnbbkbaaDoor
open Go.RowKit Go.Shelf Go.Sort Go.Lib
def lv1 (x : Ln) : List Value := [.int .i64 x.item, .int .i64 x.ware, .int .i64 x.qty, .int .i64 x.unit]
def lv (m : List Ln) : List Value := m.flatMap lv1
theorem lv_len (m : List Ln) : (lv m).length = m.length * 4 := by
  induction m with
  | nil => rfl
  | cons x r ih =>
    have e : lv (x :: r) = lv1 x ++ lv r := rfl
    rw [e, List.length_append, ih, List.length_cons]
    simp [lv1]; omega
theorem lv_snoc (m : List Ln) (x : Ln) : lv m ++ lv1 x = lv (m ++ [x]) := by simp [lv]
theorem lv_get (m : List Ln) : ∀ i, i < m.length → (lv m)[i * 4]? = some (.int .i64 (m.getD i Ln0).item) ∧ (lv m)[i * 4 + 1]? = some (.int .i64 (m.getD i Ln0).ware) ∧ (lv m)[i * 4 + 2]? = some (.int .i64 (m.getD i Ln0).qty) ∧ (lv m)[i * 4 + 3]? = some (.int .i64 (m.getD i Ln0).unit) := by
  induction m with
  | nil => intro i hi; simp at hi
  | cons x r ih =>
    intro i hi
    have e : lv (x :: r) = lv1 x ++ lv r := rfl
    rw [e]
    cases i with
    | zero => exact ⟨rfl, rfl, rfl, rfl⟩
    | succ i =>
      have h := ih i (by simpa using hi)
      have g : ∀ t, (lv1 x ++ lv r)[(i + 1) * 4 + t]? = (lv r)[i * 4 + t]? := fun t => by
        rw [List.getElem?_append_right (by simp [lv1]; omega)]
        congr 1
        simp [lv1]; omega
      have g0 := g 0
      rw [Nat.add_zero, Nat.add_zero] at g0
      rw [g0, g 1, g 2, g 3]
      exact h
theorem lv1_one (x : Ln) : ∀ u ∈ lv1 x, u.oneCell' = true := by
  intro u hu
  simp only [lv1, List.mem_cons, List.not_mem_nil, or_false] at hu
  rcases hu with rfl | rfl | rfl | rfl <;> rfl
theorem lv1_new (W : World) (x : Ln) (f : Nat × Nat) : ∀ j u, (lv1 x)[j]? = some u → (W.alloc (.cells #[.int .i64 x.item, .int .i64 x.ware, .int .i64 x.qty, .int .i64 x.unit] 41 f)).cell? ((⟨W.heap.size, 0, none⟩ : Addr).add j) = some u := by
  intro j u hj
  rw [adr_add]
  simp only [World.cell?]
  rw [heap_alloc_new]
  simpa [lv1] using hj
/-- what is owned reads as lines -/
theorem own_isL {w : World} {base n : Nat} {v : Value} {m : List Ln} (h : w.ownsRow base 41 4 v n (lv m)) (hx : ∀ x ∈ m, In64 x.item ∧ In64 x.ware ∧ In64 x.qty ∧ In64 x.unit) : ∃ a c, v = .slice a n c ∧ IsL w a n c m := by
  obtain ⟨h1, h2⟩ := id h
  have hml : m.length = n := by rw [lv_len] at h1; omega
  rcases h2 with ⟨rfl, rfl⟩ | ⟨g, c, cur, h3, h4, h5, h6, h7, h8, h9⟩
  · obtain rfl : m = [] := List.length_eq_zero_iff.1 hml
    exact ⟨none, 0, rfl, rfl, Nat.le_refl _, Nat.zero_le _, by simp, .inl ⟨rfl, fun _ => rfl⟩⟩
  · refine ⟨_, c, h3, hml, h6, h7, hx, ?_⟩
    by_cases h0 : n = 0
    · exact .inl ⟨h0, by intro h; cases h⟩
    · refine .inr ⟨g, 0, rfl, (Array.getElem?_eq_some_iff.1 h5).1, fun i hi => ?_⟩
      have hg := lv_get m i (by omega)
      rw [← h9] at hg
      have key : ∀ t u, t < 4 → (cur.toList.take (n * 4))[i * 4 + t]? = some u → w.cell? ⟨g, 0 + i * 4 + t, none⟩ = some u := fun t u ht hu => by
        rw [List.getElem?_take, if_pos (by omega)] at hu
        simp only [World.cell?, h5]
        rw [Nat.zero_add]
        simpa using hu
      exact ⟨key 0 _ (by omega) hg.1, key 1 _ (by omega) hg.2.1, key 2 _ (by omega) hg.2.2.1, key 3 _ (by omega) hg.2.2.2⟩
/-- rows of unlike elements lie apart -/
theorem own_ne {w : World} {b1 b2 s1 s2 n1 n2 : Nat} {e1 e2 : TypeId} {v1 v2 : Value} {x1 x2 : List Value} (he : e1 ≠ e2) (h1 : w.ownsRow b1 e1 s1 v1 n1 x1) (h2 : w.ownsRow b2 e2 s2 v2 n2 x2) : v1.ownBlock = none ∨ v1.ownBlock ≠ v2.ownBlock := by
  rcases h1.2 with ⟨rfl, _⟩ | ⟨g, c, cur, rfl, _, hg, _⟩
  · exact .inl rfl
  · right
    rcases h2.2 with ⟨rfl, _⟩ | ⟨g', c', cur', rfl, _, hg', _⟩
    · simp [Value.ownBlock]
    · simp only [Value.ownBlock, ne_eq, Option.some.injEq]
      rintro rfl
      rw [hg] at hg'
      simp at hg'
      exact he hg'.2
theorem Tryd.info41 : (Tryd.prog.info? 41).map (fun i => (i.zero, i.size, i.bytes)) = some (some (.agg #[.int .i64 0, .int .i64 0, .int .i64 0, .int .i64 0]), 4, 32) := by kernel_rfl
/-- lines, turned round by c -/
def turn (l : List Ln) (c : Nat) : List Ln := l.drop c ++ l.take c
theorem turn_len (l : List Ln) (c : Nat) : (turn l c).length = l.length := by simp [turn]; omega
theorem turn_mem {l : List Ln} {c : Nat} {x : Ln} (h : x ∈ turn l c) : x ∈ l := by
  rcases List.mem_append.1 h with h | h
  · exact List.mem_of_mem_drop h
  · exact List.mem_of_mem_take h
theorem turn_fit {l : List Ln} (c : Nat) (h : fit l = true) : fit (turn l c) = true := by
  unfold fit at h ⊢
  rw [List.all_eq_true] at h ⊢
  exact fun x hx => h x (turn_mem hx)
theorem turn_sum (l : List Ln) (c : Nat) : (prods (turn l c)).sum = (prods l).sum := by
  have e : prods l = prods (l.take c) ++ prods (l.drop c) := by
    unfold prods; rw [← List.map_append, List.take_append_drop]
  rw [e]
  unfold turn prods
  rw [List.map_append, List.sum_append, List.sum_append, Int.add_comm]
theorem turn_get (l : List Ln) (c i j : Nat) (hc : c < l.length) (hi : i < l.length) (hj : j = (i + c) % l.length) : (turn l c).getD i Ln0 = l.getD j Ln0 := by
  unfold turn
  rw [List.getD_eq_getElem?_getD, List.getD_eq_getElem?_getD]
  by_cases h : i + c < l.length
  · rw [List.getElem?_append_left (by simp; omega), List.getElem?_drop, hj, Nat.mod_eq_of_lt h, Nat.add_comm c i]
  · have hm : (i + c) % l.length = i + c - l.length := by
      rw [Nat.mod_eq_sub_mod (by omega), Nat.mod_eq_of_lt (by omega)]
    rw [List.getElem?_append_right (by simp; omega), hj, hm, List.getElem?_take, if_pos (by simp; omega)]
    congr 2
    simp; omega
/-- where the line stands that comes to i -/
theorem turn_at (by_ : Int) (len : Nat) (h : 0 < len) : ∃ (r : Int) (c : Nat), by_.tmod (len : Int) = r ∧ -(len : Int) < r ∧ r < (len : Int) ∧ c < len ∧ ∀ i : Nat, i < len → ∃ j : Nat, j < len ∧ ((i : Int) + r + (len : Int)) % (len : Int) = (j : Int) ∧ j = (i + c) % len := by
  have h1 : (by_.tmod (len : Int)).natAbs < (len : Int).natAbs := by
    rw [Int.natAbs_tmod]; exact Nat.mod_lt _ (by omega)
  refine ⟨by_.tmod (len : Int), ((by_.tmod (len : Int) + (len : Int)) % (len : Int)).toNat, rfl, by omega, by omega, ?_, ?_⟩
  · have := Int.emod_lt_of_pos (by_.tmod (len : Int) + (len : Int)) (show (0 : Int) < len by omega)
    have := Int.emod_nonneg (by_.tmod (len : Int) + (len : Int)) (show (len : Int) ≠ 0 by omega)
    omega
  · intro i hi
    generalize by_.tmod (len : Int) = r at *
    have a1 := Int.emod_nonneg ((i : Int) + r + (len : Int)) (show (len : Int) ≠ 0 by omega)
    have a2 := Int.emod_lt_of_pos ((i : Int) + r + (len : Int)) (show (0 : Int) < len by omega)
    have b1 := Int.emod_nonneg (r + (len : Int)) (show (len : Int) ≠ 0 by omega)
    refine ⟨(((i : Int) + r + (len : Int)) % (len : Int)).toNat, by omega, by omega, ?_⟩
    have e : ((i : Int) + r + (len : Int)) % (len : Int) = ((i : Int) + (r + (len : Int)) % (len : Int)) % (len : Int) := by
      rw [Int.add_emod_emod, Int.add_assoc]
    rw [e]
    generalize (r + (len : Int)) % (len : Int) = z at *
    obtain ⟨z, rfl⟩ := Int.eq_ofNat_of_zero_le b1
    rw [Int.toNat_natCast]
    have : ((i : Int) + (z : Int)) % (len : Int) = (((i + z) % len : Nat) : Int) := by simp
    rw [this, Int.toNat_natCast]
theorem tot_turn {l : List Ln} (c : Nat) (h : (tot l).2 = 0) : tot (turn l c) = tot l ∧ l.length ≤ 16 ∧ fit l = true ∧ tot l = ((prods l).sum, 0) ∧ In64 (prods l).sum := by
  unfold tot at h
  split at h
  · cases h
  · rename_i h1
    split at h
    · rename_i h2
      have h3 : In64 (prods l).sum := by
        unfold err at h
        split at h
        · assumption
        · cases h
      have e1 := tot_fit (show l.length ≤ 16 by omega) h2
      refine ⟨?_, by omega, h2, ?_, h3⟩
      · rw [e1, tot_fit (by rw [turn_len]; omega) (turn_fit c h2), turn_sum]
      · rw [e1, num_in h3, err_in h3]
    · cases h
end Go.Proofs.YtjhlilamnbbkbaaDoor
