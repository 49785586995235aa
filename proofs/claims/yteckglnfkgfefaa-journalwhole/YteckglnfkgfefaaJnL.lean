/- JnL JnM -/
import Derived.Test.YteckglnfkgfefaaCdD
import Derived.Test.YteckglnfkgfefaaJnD
/- a number read off ten bytes, a record read off a text (pure) -/
namespace Go.Proofs.Yteckglnfkgfefaa
open Go.RowKit Cod
set_option maxRecDepth 40000
/-- a number, read off ten bytes at most -/
theorem rd_take : ∀ (l : List Nat) (i acc m : Nat) (r : List Nat), i ≤ 10 → rd i acc (l.take (10 - i)) = some (m, r) → rd i acc l = some (m, r ++ l.drop (10 - i)) := by
  intro l
  induction l with
  | nil => intro i acc m r _ h; rw [List.take_nil, rd_nil] at h; cases h
  | cons x t ih =>
    intro i acc m r hi h
    by_cases h10 : i = 10
    · subst h10
      rw [Nat.sub_self, List.take_zero, rd_nil] at h
      cases h
    · rw [show 10 - i = (10 - (i + 1)) + 1 by omega, List.take_succ_cons] at h
      rw [show 10 - i = (10 - (i + 1)) + 1 by omega, List.drop_succ_cons]
      rw [rd] at h ⊢
      by_cases g1 : 10 ≤ i
      · omega
      · rw [if_neg g1] at h ⊢
        by_cases g2 : i = 9 ∧ 1 < x % 128
        · rw [if_pos g2] at h; cases h
        · rw [if_neg g2] at h ⊢
          by_cases g3 : x < 128
          · rw [if_pos g3] at h ⊢
            by_cases g4 : x = 0 ∧ 0 < i
            · rw [if_pos g4] at h; cases h
            · rw [if_neg g4] at h ⊢
              cases h
              rw [List.take_append_drop]
          · rw [if_neg g3] at h ⊢
            exact ih _ _ _ _ (by omega) h
theorem rdNum_take {l r : List Nat} {m : Nat} (h : rdNum (l.take 10) = some (m, r)) : rdNum l = some (m, r ++ l.drop 10) := rd_take l 0 0 m r (by omega) h
/-- ten bytes tell of a number all that there is to tell -/
theorem rdNum_ahead {l : List Nat} {n p : Nat} (hp : p ≤ (l.take 10).length) (h : rdNum (l.take 10) = some (n, (l.take 10).drop p)) : rdNum l = some (n, l.drop p) := by
  rw [rdNum_take h, ← List.drop_append_of_le_length hp, List.take_append_drop]
theorem rdNum_none {l : List Nat} (hx : ∀ x ∈ l, x < 256) (h : rdNum (l.take 10) = none) : rdNum l = none := by
  cases e : rdNum l with
  | none => rfl
  | some nr =>
    obtain ⟨n, r⟩ := nr
    obtain ⟨e1, e2⟩ := rdNum_some hx e
    have h10 := num_len10 e2
    rw [e1, List.take_append, List.take_of_length_le h10, rdNum_num e2] at h
    cases h
/-- one record, read -/
def rdR (l : List Nat) : Option (ByteArray × List Nat) :=
  match rdNum l with
  | some (n, r) => if n ≤ 4096 ∧ n ≤ r.length then some (str (r.take n), r.drop n) else none
  | none => none
theorem rdR_num {l r : List Nat} {n : Nat} (h : rdNum l = some (n, r)) : rdR l = if n ≤ 4096 ∧ n ≤ r.length then some (str (r.take n), r.drop n) else none := by
  rw [rdR, h]
theorem rdR_none {l : List Nat} (h : rdNum l = none) : rdR l = none := by rw [rdR, h]
theorem rdR_ok {l r : List Nat} {x : ByteArray} (hx : ∀ y ∈ l, y < 256) (h : rdR l = some (x, r)) : l = num x.size ++ bl x ++ r ∧ x.size ≤ 4096 := by
  cases e : rdNum l with
  | none => rw [rdR_none e] at h; cases h
  | some nr =>
    obtain ⟨n, t⟩ := nr
    obtain ⟨e1, _⟩ := rdNum_some hx e
    rw [rdR_num e] at h
    by_cases g : n ≤ 4096 ∧ n ≤ t.length
    · rw [if_pos g] at h
      obtain ⟨rfl, rfl⟩ := Prod.mk.inj (Option.some.inj h)
      have hb : bl (str (t.take n)) = t.take n := bl_str (fun y hy => hx y (by rw [e1]; exact List.mem_append_right _ (List.mem_of_mem_take hy)))
      have hs : (str (t.take n)).size = n := by rw [← bl_length, hb, List.length_take]; omega
      rw [hs, hb, List.append_assoc, List.take_append_drop]
      exact ⟨e1, g.1⟩
    · rw [if_neg g] at h; cases h
theorem rdR_rec {x : ByteArray} (hx : x.size ≤ 4096) (r : List Nat) : rdR (num x.size ++ bl x ++ r) = some (x, r) := by
  rw [List.append_assoc, rdR_num (rdNum_num (by omega) _), if_pos ⟨hx, by rw [List.length_append, bl_length]; omega⟩, List.take_left' (bl_length x), List.drop_left' (bl_length x), str_bl]
end Go.Proofs.Yteckglnfkgfefaa
/- a batch's pieces and sectors as lists: there and back (pure) -/
namespace Go.Proofs.Yteckglnfkgfefaa
open Go.RowKit Cod
set_option maxRecDepth 40000
/-- how many pieces a text has, and which -/
def pcN (n : Nat) : Nat := (n + 4063) / 4064
def pcAt (t : List Nat) (i : Nat) : List Nat := (t.drop (4064 * i)).take 4064
def pcs (t : List Nat) : List (List Nat) := (List.range (pcN t.length)).map (pcAt t)
theorem pcs_length (t : List Nat) : (pcs t).length = pcN t.length := by simp [pcs]
theorem pcs_nil : pcs [] = [] := by simp [pcs, pcN]
theorem pcs_get {t : List Nat} {i : Nat} (h : i < pcN t.length) : (pcs t).getD i [] = pcAt t i := by
  simp [pcs, List.getD_eq_getElem?_getD, h]
theorem pcAt_len {t : List Nat} {i : Nat} (h : i < pcN t.length) : 1 ≤ (pcAt t i).length ∧ (pcAt t i).length ≤ 4064 ∧ (i + 1 < pcN t.length → (pcAt t i).length = 4064) := by
  unfold pcN at h ⊢
  simp only [pcAt, List.length_take, List.length_drop]
  omega
theorem pcs_cons {p : List Nat} (hp : p.length = 4064) (t : List Nat) : pcs (p ++ t) = p :: pcs t := by
  unfold pcs
  have e : pcN (p ++ t).length = pcN t.length + 1 := by unfold pcN; rw [List.length_append, hp]; omega
  rw [e, List.range_succ_eq_map, List.map_cons, List.map_map]
  congr 1
  · simp [pcAt, hp]
  · apply List.map_congr_left
    intro j _
    simp only [Function.comp_apply, pcAt]
    rw [show 4064 * j.succ = p.length + 4064 * j by rw [hp]; simp only [Nat.succ_eq_add_one]; omega, List.drop_append, List.drop_of_length_le (by omega), List.nil_append, Nat.add_sub_cancel_left]
theorem pcs_one {p : List Nat} (h0 : 1 ≤ p.length) (h1 : p.length ≤ 4064) : pcs p = [p] := by
  unfold pcs
  have e : pcN p.length = 1 := by unfold pcN; omega
  rw [e]
  simp [pcAt, List.take_of_length_le h1]
/-- right pieces are those of what they are together -/
theorem pcs_of : ∀ (l : List (List Nat)), (∀ i, i < l.length → 1 ≤ (l.getD i []).length ∧ (l.getD i []).length ≤ 4064 ∧ (i + 1 < l.length → (l.getD i []).length = 4064)) → pcs l.flatten = l := by
  intro l
  induction l with
  | nil => intro _; exact pcs_nil
  | cons p r ih =>
    intro h
    have h0 := h 0 (by simp)
    simp only [List.getD_cons_zero, List.length_cons] at h0
    cases r with
    | nil =>
      rw [List.flatten_cons, List.flatten_nil, List.append_nil]
      exact pcs_one h0.1 h0.2.1
    | cons q s =>
      rw [List.flatten_cons, pcs_cons (h0.2.2 (by simp)), ih (fun i hi => ?_)]
      have h2 := h (i + 1) (by simpa using hi)
      simp only [List.getD_cons_succ, List.length_cons] at h2 ⊢
      exact ⟨h2.1, h2.2.1, fun h3 => h2.2.2 (by omega)⟩
/-- what is cut into pieces is what they are together -/
theorem pcs_flat (t : List Nat) : (pcs t).flatten = t := by
  induction hn : t.length using Nat.strongRecOn generalizing t with
  | ind n ih =>
    by_cases h : t.length ≤ 4064
    · by_cases h0 : t.length = 0
      · obtain rfl := List.length_eq_zero_iff.1 h0
        rw [pcs_nil]
        rfl
      · rw [pcs_one (by omega) h]
        simp
    · have e : t = t.take 4064 ++ t.drop 4064 := (List.take_append_drop 4064 t).symm
      have hl : (t.take 4064).length = 4064 := by rw [List.length_take]; omega
      have h2 := ih (t.drop 4064).length (by rw [List.length_drop]; omega) (t.drop 4064) rfl
      rw [e, pcs_cons hl, List.flatten_cons]
      rw [List.take_append_drop] at *
      rw [h2, List.take_append_drop]
/-- the sectors of a batch -/
def frL (rs : List ByteArray) (s : Nat) : List (List Nat) := (List.range (pcN (batL rs).length)).map (fun i => secL (pcAt (batL rs) i) s i (pcN (batL rs).length))
/-- a batch that may be framed -/
def okB (rs : List ByteArray) : Prop := rs.length ≤ 4096 ∧ ∀ r ∈ rs, r.size ≤ 4096
theorem batL_pos (rs : List ByteArray) : 1 ≤ (batL rs).length := by
  unfold batL
  have := List.length_pos_iff.2 (num_ne rs.length)
  rw [List.length_append]
  omega
theorem frL_length (rs : List ByteArray) (s : Nat) : (frL rs s).length = pcN (batL rs).length := by simp [frL]
theorem frL_get {rs : List ByteArray} {s i : Nat} (h : i < pcN (batL rs).length) : (frL rs s).getD i [] = secL (pcAt (batL rs) i) s i (pcN (batL rs).length) := by
  simp [frL, List.getD_eq_getElem?_getD, h]
/-- texts of batches lie apart -/
theorem recL_apart : ∀ (a b : List ByteArray) (x y : List Nat), a.length = b.length → (∀ r ∈ a, r.size ≤ 4096) → (∀ r ∈ b, r.size ≤ 4096) → recL a ++ x = recL b ++ y → a = b ∧ x = y := by
  intro a
  induction a with
  | nil =>
    intro b x y hl _ _ h
    cases b with
    | nil => exact ⟨rfl, h⟩
    | cons _ _ => cases hl
  | cons r a ih =>
    intro b x y hl ha hb h
    cases b with
    | nil => cases hl
    | cons q b =>
      simp only [recL, List.append_assoc] at h
      have h1 := ha r (List.mem_cons_self ..)
      have h2 := hb q (List.mem_cons_self ..)
      obtain ⟨e1, e2⟩ := num_apart (by omega) (by omega) h
      obtain ⟨e3, e4⟩ := List.append_inj e2 (by rw [bl_length, bl_length, e1])
      obtain ⟨e5, e6⟩ := ih b x y (by simpa using hl) (fun r hr => ha r (List.mem_cons_of_mem _ hr)) (fun r hr => hb r (List.mem_cons_of_mem _ hr)) e4
      refine ⟨?_, e6⟩
      rw [e5]
      congr 1
      rw [← str_bl r, ← str_bl q, e3]
theorem batL_inj {a b : List ByteArray} (ha : okB a) (hb : okB b) (h : batL a = batL b) : a = b := by
  unfold batL at h
  have h1 := ha.1
  have h2 := hb.1
  obtain ⟨e1, e2⟩ := num_apart (by omega) (by omega) h
  have := recL_apart a b [] [] e1 ha.2 hb.2 (by rw [List.append_nil, List.append_nil]; exact e2)
  exact this.1
end Go.Proofs.Yteckglnfkgfefaa
