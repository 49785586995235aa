/- JoD JoO -/
import Derived.Test.YteckglnfkgfefaaJnA
import Derived.Test.YteckglnfkgfefaaJoA
/- a journal's write as what it makes of the disk (pure) -/
namespace Go.Proofs.Yteckglnfkgfefaa
open Go.RowKit Cod
set_option maxRecDepth 40000
/-- sectors are written, one behind the other, and synced -/
def St.wrs (n : Nat) (sec : Nat → Nat) : Nat → List (List Nat) → St → St × Int
  | _, [], st => st.sync
  | s, b :: bs, st => if (st.write n (sec s : Nat) b).2 = 0 then St.wrs n sec (s + 1) bs (st.write n (sec s : Nat) b).1 else st.write n (sec s : Nat) b
theorem write_up {st : St} {n i : Nat} {l : List Nat} (hd : st.down = false) (ha : st.arm = false) (hi : i < n) (hl : l.length ≤ 4096) : st.write n (i : Nat) l = (st.puts i l, 0) := by
  unfold St.write St.goes
  rw [if_neg (by simp [hd]), if_neg (by omega), if_neg (by omega), if_neg (by simp [ha]), if_neg (by simp [ha]), Int.toNat_natCast]
theorem sync_up {st : St} (hd : st.down = false) : st.sync = (st.syncs, 0) := by
  unfold St.sync
  rw [if_neg (by simp [hd])]
theorem reads_puts (st : St) (i : Nat) (l : List Nat) (k : Nat) : (st.puts i l).reads k = if k = i then l else st.reads k := by
  unfold St.reads St.puts
  by_cases h : k = i
  · simp [h]
  · simp [h]
/-- where the power stays on -/
theorem wrs_up (n : Nat) (sec : Nat → Nat) : ∀ (bs : List (List Nat)) (s : Nat) (st : St), st.down = false → st.arm = false → (∀ i, i < bs.length → sec (s + i) < n) → (∀ b ∈ bs, b.length ≤ 4096) → (∀ i k, i < k → k < bs.length → sec (s + i) ≠ sec (s + k)) →
    ∃ st', St.wrs n sec s bs st = (st', 0) ∧ st'.down = false ∧ st'.arm = false ∧ (∀ i, i < bs.length → st'.reads (sec (s + i)) = bs.getD i []) ∧ (∀ k, (∀ i, i < bs.length → k ≠ sec (s + i)) → st'.reads k = st.reads k) ∧ (∀ k, st'.fr k = none) ∧ st'.wr = st.wr + bs.length ∧ st'.left = st.left := by
  intro bs
  induction bs with
  | nil =>
    intro s st hd ha _ _ _
    exact ⟨st.syncs, sync_up hd, hd, ha, fun i hi => by simp at hi, fun k _ => rfl, fun k => rfl, rfl, rfl⟩
  | cons b bs ih =>
    intro s st hd ha hn hl hne
    have h0 := write_up hd ha (by simpa using hn 0 (by simp)) (hl b (List.mem_cons_self ..))
    have e1 : ∀ i, s + 1 + i = s + (i + 1) := fun i => by omega
    obtain ⟨st', g1, g2, g3, g4, g5, g6, g7, g8⟩ := ih (s + 1) (st.puts (sec s) b) hd ha (fun i hi => by rw [e1]; exact hn (i + 1) (by simpa using hi)) (fun x hx => hl x (List.mem_cons_of_mem _ hx)) (fun i k hi hk => by rw [e1, e1]; exact hne (i + 1) (k + 1) (by omega) (by simpa using hk))
    refine ⟨st', ?_, g2, g3, ?_, ?_, g6, ?_, g8⟩
    · rw [St.wrs, h0, if_pos rfl]
      exact g1
    · intro i hi
      cases i with
      | zero =>
        have := g5 (sec s) (fun i hi => by rw [e1]; have := hne 0 (i + 1) (by omega) (by simpa using hi); simpa using this)
        rw [reads_puts, if_pos rfl] at this
        simpa using this
      | succ i =>
        have := g4 i (by simpa using hi)
        rw [e1] at this
        simpa using this
    · intro k hk
      have := g5 k (fun i hi => by rw [e1]; exact hk (i + 1) (by simpa using hi))
      rw [this, reads_puts, if_neg (by simpa using hk 0 (by simp))]
    · rw [g7]
      simp only [St.puts, List.length_cons]
      omega
/-- an Errno that Frame answers -/
def frE (rs : List ByteArray) (s : Nat) : Int := if 4096 < rs.length then 3 else if ¬ (∀ r ∈ rs, r.size ≤ 4096) then 4 else if startB s = true then 0 else 2
theorem frE_ok {rs : List ByteArray} {s : Nat} (h : frE rs s = 0) : okB rs ∧ startB s = true := by
  unfold frE at h
  by_cases h1 : 4096 < rs.length
  · rw [if_pos h1] at h; cases h
  · rw [if_neg h1] at h
    by_cases h2 : ∀ r ∈ rs, r.size ≤ 4096
    · rw [if_neg (fun e => e h2)] at h
      by_cases h3 : startB s = true
      · exact ⟨⟨by omega, h2⟩, h3⟩
      · rw [if_neg h3] at h; cases h
    · rw [if_pos h2] at h; cases h
theorem frE_of {rs : List ByteArray} {s : Nat} (h : okB rs) (hs : startB s = true) : frE rs s = 0 := by
  unfold frE
  rw [if_neg (by have := h.1; omega), if_neg (fun e => e h.2), if_pos hs]
/-- Append, on the journal and its disk -/
def Jn.append (n : Nat) (rs : List ByteArray) (j : Jn) (st : St) : Jn × St × Int :=
  if j.failed = true then (j, st, 9) else if frE rs j.nxt ≠ 0 then (j, st, frE rs j.nxt) else if j.room < (frL rs j.nxt).length then (j, st, 7) else
  if (St.wrs n j.sec j.nxt (frL rs j.nxt) st).2 ≠ 0 then ({ j with failed := true }, (St.wrs n j.sec j.nxt (frL rs j.nxt) st).1, (St.wrs n j.sec j.nxt (frL rs j.nxt) st).2) else ({ j with nxt := j.nxt + (frL rs j.nxt).length }, (St.wrs n j.sec j.nxt (frL rs j.nxt) st).1, 0)
/-- what the number s reads as -/
def Jn.rd (j : Jn) (st : St) (s : Nat) : List Nat := full (st.reads (j.sec s))
theorem sec_ne {j : Jn} {s i k : Nat} (h1 : 1 ≤ s) (hik : i < k) (hk : k < j.count) : j.sec (s + i) ≠ j.sec (s + k) := by
  unfold Jn.sec
  intro e
  have e2 : (s + i - 1) % j.count = (s + k - 1) % j.count := by omega
  have h3 := Nat.mod_add_div (s + i - 1) j.count
  have h4 := Nat.mod_add_div (s + k - 1) j.count
  rw [e2] at h3
  have h5 : j.count * ((s + k - 1) / j.count) = j.count * ((s + i - 1) / j.count) + (k - i) := by omega
  have h6 : (k - i) % j.count = 0 := by
    have : (k - i) = j.count * ((s + k - 1) / j.count) - j.count * ((s + i - 1) / j.count) := by omega
    rw [this, ← Nat.mul_sub]
    exact Nat.mul_mod_right _ _
  rw [Nat.mod_eq_of_lt (by omega)] at h6
  omega
theorem sec_lt {j : Jn} (h : 0 < j.count) (s : Nat) : j.sec s < j.first + j.count := by
  unfold Jn.sec
  have := Nat.mod_lt (s - 1) h
  omega
theorem full_of {l : List Nat} (h : l.length = 4096) : full l = l := by
  unfold full fullN
  rw [h]
  simp
end Go.Proofs.Yteckglnfkgfefaa
/- Append where the power stays on: what the numbers read as then (pure) -/
namespace Go.Proofs.Yteckglnfkgfefaa
open Go.RowKit Cod
set_option maxRecDepth 40000
theorem sec_apart {j : Jn} {x y : Nat} (h0 : 1 ≤ x) (hxy : x < y) (hy : y < x + j.count) : j.sec x ≠ j.sec y := by
  have := sec_ne (j := j) (s := x) (i := 0) (k := y - x) h0 (by omega) (by omega)
  rw [Nat.add_zero, show x + (y - x) = y by omega] at this
  exact this
theorem frL_len {rs : List ByteArray} {s : Nat} : ∀ q ∈ frL rs s, q.length = 4096 := by
  intro q hq
  obtain ⟨i, hi, rfl⟩ := List.mem_map.1 hq
  have h := pcAt_len (List.mem_range.1 hi)
  rw [secL_eq _ h.2.1, rsecL_length _ h.2.1]
theorem frL_getlen {rs : List ByteArray} {s i : Nat} (h : i < (frL rs s).length) : ((frL rs s).getD i []).length = 4096 := by
  rw [List.getD_eq_getElem?_getD, List.getElem?_eq_getElem h]
  exact frL_len _ (List.getElem_mem _)
/-- Append of a batch for which there is room, the power on -/
theorem append_up {n : Nat} {rs : List ByteArray} {j : Jn} {st : St} (hd : st.down = false) (ha : st.arm = false) (hf : j.failed = false) (hc : j.first + j.count ≤ n) (hc0 : 0 < j.count) (hok : okB rs) (hst : startB j.nxt = true) (hr : (frL rs j.nxt).length ≤ j.room) :
    ∃ st', Jn.append n rs j st = ({ j with nxt := j.nxt + (frL rs j.nxt).length }, st', 0) ∧ st'.down = false ∧ st'.arm = false ∧ st'.wr = st.wr + (frL rs j.nxt).length ∧ st'.left = st.left ∧ (∀ k, st'.fr k = none) ∧
      (∀ i, i < (frL rs j.nxt).length → j.rd st' (j.nxt + i) = (frL rs j.nxt).getD i []) ∧
      (∀ s, 1 ≤ s → j.nxt + (frL rs j.nxt).length ≤ s + j.count → s < j.nxt + j.count → ¬ (j.nxt ≤ s ∧ s < j.nxt + (frL rs j.nxt).length) → j.rd st' s = j.rd st s) ∧
      (∀ k, (∀ i, i < (frL rs j.nxt).length → k ≠ j.sec (j.nxt + i)) → st'.reads k = st.reads k) := by
  have h1 : 1 ≤ j.nxt := by
    have : startB j.nxt = decide (1 ≤ j.nxt ∧ j.nxt ≤ 4611686018427387904) := rfl
    rw [this] at hst
    exact (of_decide_eq_true hst).1
  have hrc : (frL rs j.nxt).length ≤ j.count := by unfold Jn.room at hr; omega
  obtain ⟨st', g1, g2, g3, g4, g5, g6, g7, g8⟩ := wrs_up n j.sec (frL rs j.nxt) j.nxt st hd ha (fun i _ => Nat.lt_of_lt_of_le (sec_lt hc0 _) hc) (fun b hb => by rw [frL_len b hb]; exact Nat.le_refl _) (fun i k hik hk => sec_ne h1 hik (by omega))
  refine ⟨st', ?_, g2, g3, g7, g8, g6, ?_, ?_, g5⟩
  · unfold Jn.append
    rw [if_neg (by simp [hf]), if_neg (fun e => e (frE_of hok hst)), if_neg (by omega), g1, if_neg (fun e => e rfl)]
  · intro i hi
    unfold Jn.rd
    rw [g4 i hi, full_of (frL_getlen hi)]
  · intro s hs1 hs2 hs3 hs4
    unfold Jn.rd
    rw [g5]
    intro i hi e
    by_cases h : s < j.nxt + i
    · exact sec_apart hs1 h (by omega) e
    · by_cases h2 : j.nxt + i < s
      · exact sec_apart (by omega) h2 (by omega) e.symm
      · omega
/-- a batch that has been appended is found -/
theorem bat_of {rd : Nat → List Nat} {rs : List ByteArray} {s m : Nat} (hok : okB rs) (h : ∀ i, i < (frL rs s).length → rd (s + i) = (frL rs s).getD i []) (hm : (frL rs s).length ≤ m) : Bat rd s m rs (frL rs s).length := by
  refine ⟨hok, ?_, fr_pos rs s, hm⟩
  apply List.ext_getElem?
  intro i
  by_cases hi : i < (frL rs s).length
  · have h1 := rds_get (rd := rd) (s := s) hi
    rw [h i hi, List.getD_eq_getElem?_getD, List.getD_eq_getElem?_getD, List.getElem?_eq_getElem hi, List.getElem?_eq_getElem (by rw [rds_length]; exact hi)] at h1
    rw [List.getElem?_eq_getElem hi, List.getElem?_eq_getElem (by rw [rds_length]; exact hi)]
    simpa using h1.symm
  · rw [List.getElem?_eq_none (by omega), List.getElem?_eq_none (by rw [rds_length]; omega)]
theorem no_bat_first {rd : Nat → List Nat} {s m : Nat} (h : (rd s).getD 0 0 ≠ 76) : ∀ rs n, ¬ Bat rd s m rs n := fun _ _ hb => h hb.first
/-- a run to which a batch is put -/
theorem run_snoc {rd : Nat → List Nat} {e : Nat} {r : List ByteArray} {n : Nat} : ∀ (l : List (List ByteArray)) (s t u : Nat), (∃ q, Run rd t s l q ∧ q = t) → Bat rd t (e - t) r n → Run rd e (t + n) [] u → t ≤ e → Run rd e s (l ++ [r]) u := by
  intro l
  induction l with
  | nil =>
    rintro s t u ⟨q, ⟨h1, _⟩, h2⟩ hb hr _
    have : s = t := h1.symm.trans h2
    subst this
    exact ⟨n, hb, hr⟩
  | cons x l ih =>
    rintro s t u ⟨q, ⟨k, hk, h1⟩, h2⟩ hb hr hte
    exact ⟨k, ⟨hk.1, hk.2.1, hk.2.2.1, by have := hk.2.2.2; omega⟩, ih (s + k) t u ⟨q, h1, h2⟩ hb hr hte⟩
end Go.Proofs.Yteckglnfkgfefaa
