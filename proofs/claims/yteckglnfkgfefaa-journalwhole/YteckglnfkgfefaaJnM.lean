/- a batch's pieces and sectors as lists: there and back (pure) -/
import Derived.Test.YteckglnfkgfefaaJnF
import Derived.Test.YteckglnfkgfefaaJnL
namespace Go.Proofs.Yteckglnfkgfefaa
open Go.RowKit Cod
set_option maxRecDepth 40000
/-- how many pieces a text has, and which -/
def pcN (n : Nat) : Nat := (n + 4063) / 4064
def pcAt (t : List Nat) (i : Nat) : List Nat := (t.drop (4064 * i)).take 4064
def pcs (t : List Nat) : List (List Nat) := (List.range (pcN t.length)).map (pcAt t)
theorem pcs_length (t : List Nat) : (pcs t).length = pcN t.length := by simp [pcs]
theorem pcs_nil : pcs [] = [] := by simp [pcs, pcN]
theorem pcs_get {t : List Nat} {i : Nat} (h : i < pcN t.length) : (pcs t).getD i [] = pcAt t i := by
  simp [pcs, List.getD_eq_getElem?_getD, h]
theorem pcAt_len {t : List Nat} {i : Nat} (h : i < pcN t.length) : 1 ≤ (pcAt t i).length ∧ (pcAt t i).length ≤ 4064 ∧ (i + 1 < pcN t.length → (pcAt t i).length = 4064) := by
  unfold pcN at h ⊢
  simp only [pcAt, List.length_take, List.length_drop]
  omega
theorem pcs_cons {p : List Nat} (hp : p.length = 4064) (t : List Nat) : pcs (p ++ t) = p :: pcs t := by
  unfold pcs
  have e : pcN (p ++ t).length = pcN t.length + 1 := by unfold pcN; rw [List.length_append, hp]; omega
  rw [e, List.range_succ_eq_map, List.map_cons, List.map_map]
  congr 1
  · simp [pcAt, hp]
  · apply List.map_congr_left
    intro j _
    simp only [Function.comp_apply, pcAt]
    rw [show 4064 * j.succ = p.length + 4064 * j by rw [hp]; simp only [Nat.succ_eq_add_one]; omega, List.drop_append, List.drop_of_length_le (by omega), List.nil_append, Nat.add_sub_cancel_left]
theorem pcs_one {p : List Nat} (h0 : 1 ≤ p.length) (h1 : p.length ≤ 4064) : pcs p = [p] := by
  unfold pcs
  have e : pcN p.length = 1 := by unfold pcN; omega
  rw [e]
  simp [pcAt, List.take_of_length_le h1]
/-- right pieces are those of what they are together -/
theorem pcs_of : ∀ (l : List (List Nat)), (∀ i, i < l.length → 1 ≤ (l.getD i []).length ∧ (l.getD i []).length ≤ 4064 ∧ (i + 1 < l.length → (l.getD i []).length = 4064)) → pcs l.flatten = l := by
  intro l
  induction l with
  | nil => intro _; exact pcs_nil
  | cons p r ih =>
    intro h
    have h0 := h 0 (by simp)
    simp only [List.getD_cons_zero, List.length_cons] at h0
    cases r with
    | nil =>
      rw [List.flatten_cons, List.flatten_nil, List.append_nil]
      exact pcs_one h0.1 h0.2.1
    | cons q s =>
      rw [List.flatten_cons, pcs_cons (h0.2.2 (by simp)), ih (fun i hi => ?_)]
      have h2 := h (i + 1) (by simpa using hi)
      simp only [List.getD_cons_succ, List.length_cons] at h2 ⊢
      exact ⟨h2.1, h2.2.1, fun h3 => h2.2.2 (by omega)⟩
/-- what is cut into pieces is what they are together -/
theorem pcs_flat (t : List Nat) : (pcs t).flatten = t := by
  induction hn : t.length using Nat.strongRecOn generalizing t with
  | ind n ih =>
    by_cases h : t.length ≤ 4064
    · by_cases h0 : t.length = 0
      · obtain rfl := List.length_eq_zero_iff.1 h0
        rw [pcs_nil]
        rfl
      · rw [pcs_one (by omega) h]
        simp
    · have e : t = t.take 4064 ++ t.drop 4064 := (List.take_append_drop 4064 t).symm
      have hl : (t.take 4064).length = 4064 := by rw [List.length_take]; omega
      have h2 := ih (t.drop 4064).length (by rw [List.length_drop]; omega) (t.drop 4064) rfl
      rw [e, pcs_cons hl, List.flatten_cons]
      rw [List.take_append_drop] at *
      rw [h2, List.take_append_drop]
/-- the sectors of a batch -/
def frL (rs : List ByteArray) (s : Nat) : List (List Nat) := (List.range (pcN (batL rs).length)).map (fun i => secL (pcAt (batL rs) i) s i (pcN (batL rs).length))
/-- a batch that may be framed -/
def okB (rs : List ByteArray) : Prop := rs.length ≤ 4096 ∧ ∀ r ∈ rs, r.size ≤ 4096
theorem batL_pos (rs : List ByteArray) : 1 ≤ (batL rs).length := by
  unfold batL
  have := List.length_pos_iff.2 (num_ne rs.length)
  rw [List.length_append]
  omega
theorem frL_length (rs : List ByteArray) (s : Nat) : (frL rs s).length = pcN (batL rs).length := by simp [frL]
theorem frL_get {rs : List ByteArray} {s i : Nat} (h : i < pcN (batL rs).length) : (frL rs s).getD i [] = secL (pcAt (batL rs) i) s i (pcN (batL rs).length) := by
  simp [frL, List.getD_eq_getElem?_getD, h]
/-- texts of batches lie apart -/
theorem recL_apart : ∀ (a b : List ByteArray) (x y : List Nat), a.length = b.length → (∀ r ∈ a, r.size ≤ 4096) → (∀ r ∈ b, r.size ≤ 4096) → recL a ++ x = recL b ++ y → a = b ∧ x = y := by
  intro a
  induction a with
  | nil =>
    intro b x y hl _ _ h
    cases b with
    | nil => exact ⟨rfl, h⟩
    | cons _ _ => cases hl
  | cons r a ih =>
    intro b x y hl ha hb h
    cases b with
    | nil => cases hl
    | cons q b =>
      simp only [recL, List.append_assoc] at h
      have h1 := ha r (List.mem_cons_self ..)
      have h2 := hb q (List.mem_cons_self ..)
      obtain ⟨e1, e2⟩ := num_apart (by omega) (by omega) h
      obtain ⟨e3, e4⟩ := List.append_inj e2 (by rw [bl_length, bl_length, e1])
      obtain ⟨e5, e6⟩ := ih b x y (by simpa using hl) (fun r hr => ha r (List.mem_cons_of_mem _ hr)) (fun r hr => hb r (List.mem_cons_of_mem _ hr)) e4
      refine ⟨?_, e6⟩
      rw [e5]
      congr 1
      rw [← str_bl r, ← str_bl q, e3]
theorem batL_inj {a b : List ByteArray} (ha : okB a) (hb : okB b) (h : batL a = batL b) : a = b := by
  unfold batL at h
  have h1 := ha.1
  have h2 := hb.1
  obtain ⟨e1, e2⟩ := num_apart (by omega) (by omega) h
  have := recL_apart a b [] [] e1 ha.2 hb.2 (by rw [List.append_nil, List.append_nil]; exact e2)
  exact this.1
end Go.Proofs.Yteckglnfkgfefaa
