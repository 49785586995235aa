/- Append where the power stays on: what the numbers read as then (pure) -/
import Derived.Test.YteckglnfkgfefaaJoD
namespace Go.Proofs.Yteckglnfkgfefaa
open Go.RowKit Cod
set_option maxRecDepth 40000
theorem sec_apart {j : Jn} {x y : Nat} (h0 : 1 ≤ x) (hxy : x < y) (hy : y < x + j.count) : j.sec x ≠ j.sec y := by
  have := sec_ne (j := j) (s := x) (i := 0) (k := y - x) h0 (by omega) (by omega)
  rw [Nat.add_zero, show x + (y - x) = y by omega] at this
  exact this
theorem frL_len {rs : List ByteArray} {s : Nat} : ∀ q ∈ frL rs s, q.length = 4096 := by
  intro q hq
  obtain ⟨i, hi, rfl⟩ := List.mem_map.1 hq
  have h := pcAt_len (List.mem_range.1 hi)
  rw [secL_eq _ h.2.1, rsecL_length _ h.2.1]
theorem frL_getlen {rs : List ByteArray} {s i : Nat} (h : i < (frL rs s).length) : ((frL rs s).getD i []).length = 4096 := by
  rw [List.getD_eq_getElem?_getD, List.getElem?_eq_getElem h]
  exact frL_len _ (List.getElem_mem _)
/-- Append of a batch for which there is room, the power on -/
theorem append_up {n : Nat} {rs : List ByteArray} {j : Jn} {st : St} (hd : st.down = false) (ha : st.arm = false) (hf : j.failed = false) (hc : j.first + j.count ≤ n) (hc0 : 0 < j.count) (hok : okB rs) (hst : startB j.nxt = true) (hr : (frL rs j.nxt).length ≤ j.room) :
    ∃ st', Jn.append n rs j st = ({ j with nxt := j.nxt + (frL rs j.nxt).length }, st', 0) ∧ st'.down = false ∧ st'.arm = false ∧ st'.wr = st.wr + (frL rs j.nxt).length ∧ st'.left = st.left ∧ (∀ k, st'.fr k = none) ∧
      (∀ i, i < (frL rs j.nxt).length → j.rd st' (j.nxt + i) = (frL rs j.nxt).getD i []) ∧
      (∀ s, 1 ≤ s → j.nxt + (frL rs j.nxt).length ≤ s + j.count → s < j.nxt + j.count → ¬ (j.nxt ≤ s ∧ s < j.nxt + (frL rs j.nxt).length) → j.rd st' s = j.rd st s) ∧
      (∀ k, (∀ i, i < (frL rs j.nxt).length → k ≠ j.sec (j.nxt + i)) → st'.reads k = st.reads k) := by
  have h1 : 1 ≤ j.nxt := by
    have : startB j.nxt = decide (1 ≤ j.nxt ∧ j.nxt ≤ 4611686018427387904) := rfl
    rw [this] at hst
    exact (of_decide_eq_true hst).1
  have hrc : (frL rs j.nxt).length ≤ j.count := by unfold Jn.room at hr; omega
  obtain ⟨st', g1, g2, g3, g4, g5, g6, g7, g8⟩ := wrs_up n j.sec (frL rs j.nxt) j.nxt st hd ha (fun i _ => Nat.lt_of_lt_of_le (sec_lt hc0 _) hc) (fun b hb => by rw [frL_len b hb]; exact Nat.le_refl _) (fun i k hik hk => sec_ne h1 hik (by omega))
  refine ⟨st', ?_, g2, g3, g7, g8, g6, ?_, ?_, g5⟩
  · unfold Jn.append
    rw [if_neg (by simp [hf]), if_neg (fun e => e (frE_of hok hst)), if_neg (by omega), g1, if_neg (fun e => e rfl)]
  · intro i hi
    unfold Jn.rd
    rw [g4 i hi, full_of (frL_getlen hi)]
  · intro s hs1 hs2 hs3 hs4
    unfold Jn.rd
    rw [g5]
    intro i hi e
    by_cases h : s < j.nxt + i
    · exact sec_apart hs1 h (by omega) e
    · by_cases h2 : j.nxt + i < s
      · exact sec_apart (by omega) h2 (by omega) e.symm
      · omega
/-- a batch that has been appended is found -/
theorem bat_of {rd : Nat → List Nat} {rs : List ByteArray} {s m : Nat} (hok : okB rs) (h : ∀ i, i < (frL rs s).length → rd (s + i) = (frL rs s).getD i []) (hm : (frL rs s).length ≤ m) : Bat rd s m rs (frL rs s).length := by
  refine ⟨hok, ?_, fr_pos rs s, hm⟩
  apply List.ext_getElem?
  intro i
  by_cases hi : i < (frL rs s).length
  · have h1 := rds_get (rd := rd) (s := s) hi
    rw [h i hi, List.getD_eq_getElem?_getD, List.getD_eq_getElem?_getD, List.getElem?_eq_getElem hi, List.getElem?_eq_getElem (by rw [rds_length]; exact hi)] at h1
    rw [List.getElem?_eq_getElem hi, List.getElem?_eq_getElem (by rw [rds_length]; exact hi)]
    simpa using h1.symm
  · rw [List.getElem?_eq_none (by omega), List.getElem?_eq_none (by rw [rds_length]; omega)]
theorem no_bat_first {rd : Nat → List Nat} {s m : Nat} (h : (rd s).getD 0 0 ≠ 76) : ∀ rs n, ¬ Bat rd s m rs n := fun _ _ hb => h hb.first
end Go.Proofs.Yteckglnfkgfefaa
