/- lists of slices: turned, longer, shorter -/
import Derived.Test.YtebikoekpbnpbaaNK
namespace Go.Proofs.Ytebikoekpbnpbaa
open Go.RowKit Go.Lib Cod
set_option maxRecDepth 40000
set_option linter.unusedVariables false
set_option linter.unusedSimpArgs false
theorem Els.mono {w : World} {g g' : Nat} {sv : List Value} {L : List (List Nat)} (h : Els w g sv L) (hg : g' ≤ g) : Els w g' sv L := ⟨h.1, fun i hi => by
  obtain ⟨a, n, c, e, hB, hf⟩ := h.2 i hi
  exact ⟨a, n, c, e, hB, fun b off e => ⟨Nat.lt_of_le_of_lt hg (hf b off e).1, (hf b off e).2⟩⟩⟩
theorem Els.below {w w' : World} {g : Nat} {sv : List Value} {L : List (List Nat)} (h : Els w g sv L) (hb : Below w.heap.size w w') : Els w' g sv L := h.kept hb.size (fun b _ hlt => hb.block b hlt)
theorem Els.one {w : World} {g : Nat} {sv : List Value} {L : List (List Nat)} (h : Els w g sv L) : ∀ v ∈ sv, v.oneCell' = true := fun v hv => by
  obtain ⟨i, hi, rfl⟩ := List.getElem_of_mem hv
  obtain ⟨a, n, c, e, _⟩ := h.2 i (by rw [← h.1]; exact hi)
  rw [List.getElem?_eq_getElem hi] at e
  rw [Option.some.inj e]
  rfl
theorem isL_row {w : World} {g c G : Nat} {sv xs : List Value} {L : List (List Nat)} (hr : w.heap[g]? = some (.cells (sv ++ xs).toArray 26 (0, 0))) (he : Els w G sv L) (hc : L.length ≤ c) (hm : c ≤ maxLen) : IsL w (some ⟨g, 0, none⟩) L.length c L := by
  refine ⟨rfl, hc, hm, nofun, fun i hi => ?_⟩
  obtain ⟨a, n, c', e, hB, _⟩ := he.2 i hi
  refine ⟨g, 0, a, n, c', rfl, heap_ltN hr, ?_, hB⟩
  rw [Nat.zero_add]
  refine cell_blkN hr ?_
  rw [List.getElem?_toArray, List.getElem?_append_left (by rw [he.1]; exact hi), e]
def insL {α : Type} (l : List α) (i : Nat) (x : α) : List α := l.take i ++ x :: l.drop i
def delL {α : Type} (l : List α) (i : Nat) : List α := l.take i ++ l.drop (i + 1)
theorem insL_len {α : Type} (l : List α) (i : Nat) (x : α) : (insL l i x).length = l.length + 1 := by simp [insL]; omega
theorem delL_len {α : Type} {l : List α} {i : Nat} (h : i < l.length) : (delL l i).length = l.length - 1 := by simp [delL]; omega
theorem insL_get {α : Type} (l : List α) {i : Nat} (h : i ≤ l.length) (x : α) (j : Nat) : (insL l i x)[j]? = if j < i then l[j]? else if j = i then some x else l[j - 1]? := by
  unfold insL
  have hl : (l.take i).length = i := by rw [List.length_take]; omega
  by_cases h1 : j < i
  · rw [if_pos h1, List.getElem?_append_left (by omega), List.getElem?_take, if_pos h1]
  · rw [if_neg h1, List.getElem?_append_right (by omega), hl]
    by_cases h2 : j = i
    · rw [if_pos h2, h2, Nat.sub_self]; rfl
    · rw [if_neg h2, show j - i = (j - i - 1) + 1 by omega, List.getElem?_cons_succ, List.getElem?_drop]
      congr 1
      omega
theorem delL_get {α : Type} (l : List α) {i : Nat} (h : i < l.length) (j : Nat) : (delL l i)[j]? = if j < i then l[j]? else l[j + 1]? := by
  unfold delL
  have hl : (l.take i).length = i := by rw [List.length_take]; omega
  by_cases h1 : j < i
  · rw [if_pos h1, List.getElem?_append_left (by omega), List.getElem?_take, if_pos h1]
  · rw [if_neg h1, List.getElem?_append_right (by omega), hl, List.getElem?_drop]
    congr 1
    omega
theorem Els.ins {w : World} {g : Nat} {sv : List Value} {L : List (List Nat)} (h : Els w g sv L) {i : Nat} (hi : i ≤ L.length) {a : Option Addr} {n c : Nat} {l : List Nat} (hB : IsB w a n c l) (hF : ∀ b off, a = some ⟨b, off, none⟩ → g < b ∧ FzB w b) : Els w g (insL sv i (.slice a n c)) (insL L i l) := by
  refine ⟨by rw [insL_len, insL_len, h.1], fun j hj => ?_⟩
  rw [insL_len] at hj
  rw [insL_get sv (by rw [h.1]; exact hi), List.getD_eq_getElem?_getD, insL_get L hi]
  by_cases h1 : j < i
  · rw [if_pos h1, if_pos h1, ← List.getD_eq_getElem?_getD]
    exact h.2 j (by omega)
  · rw [if_neg h1, if_neg h1]
    by_cases h2 : j = i
    · rw [if_pos h2, if_pos h2]
      exact ⟨a, n, c, rfl, hB, hF⟩
    · rw [if_neg h2, if_neg h2, ← List.getD_eq_getElem?_getD]
      exact h.2 (j - 1) (by omega)
theorem Els.del {w : World} {g : Nat} {sv : List Value} {L : List (List Nat)} (h : Els w g sv L) {i : Nat} (hi : i < L.length) : Els w g (delL sv i) (delL L i) := by
  refine ⟨by rw [delL_len (by rw [h.1]; exact hi), delL_len hi, h.1], fun j hj => ?_⟩
  rw [delL_len hi] at hj
  rw [delL_get sv (by rw [h.1]; exact hi), List.getD_eq_getElem?_getD, delL_get L hi]
  by_cases h1 : j < i
  · rw [if_pos h1, if_pos h1, ← List.getD_eq_getElem?_getD]
    exact h.2 j (by omega)
  · rw [if_neg h1, if_neg h1, ← List.getD_eq_getElem?_getD]
    exact h.2 (j + 1) (by omega)
theorem Els.set {w : World} {g : Nat} {sv : List Value} {L : List (List Nat)} (h : Els w g sv L) (i : Nat) {a : Option Addr} {n c : Nat} {l : List Nat} (hB : IsB w a n c l) (hF : ∀ b off, a = some ⟨b, off, none⟩ → g < b ∧ FzB w b) : Els w g (sv.set i (.slice a n c)) (L.set i l) := by
  refine ⟨by rw [List.length_set, List.length_set, h.1], fun j hj => ?_⟩
  rw [List.length_set] at hj
  by_cases h1 : i = j
  · subst h1
    refine ⟨a, n, c, List.getElem?_set_self (by rw [h.1]; exact hj), ?_⟩
    rw [List.getD_eq_getElem?_getD, List.getElem?_set_self hj]
    exact ⟨hB, hF⟩
  · rw [List.getElem?_set_ne h1, List.getD_eq_getElem?_getD, List.getElem?_set_ne h1, ← List.getD_eq_getElem?_getD]
    exact h.2 j hj
/-- what is kept where one row alone is turned, and the slices lie behind it -/
theorem Els.turned {w w' : World} {g : Nat} {sv : List Value} {L : List (List Nat)} (h : Els w g sv L) (hs : w.heap.size ≤ w'.heap.size) (hk : ∀ b, b ≠ g → w'.heap[b]? = w.heap[b]?) : Els w' g sv L := h.kept hs (fun b hb _ => hk b (by omega))
theorem nLen_pos (n : Nat) : 1 ≤ nLen n := List.length_pos_iff.2 (num_ne n)
theorem sumB_ge (l : List (List Nat)) : l.length ≤ sumB l := by
  induction l with
  | nil => simp
  | cons b r ih =>
    have : sumB (b :: r) = bSize b + sumB r := by simp [sumB]
    have h := nLen_pos b.length
    rw [this, List.length_cons]
    unfold bSize
    omega
theorem sumK_ge (l : List Int) : l.length ≤ sumK l := by
  induction l with
  | nil => simp
  | cons b r ih =>
    have : sumK (b :: r) = nLen b.toNat + sumK r := by simp [sumK]
    have h := nLen_pos b.toNat
    rw [this, List.length_cons]
    omega
/-- a right page has few -/
theorem check_few {p : Pg} (h : checkE p = 0) : p.keys.length ≤ 4096 ∧ p.vals.length ≤ 4096 ∧ p.kids.length ≤ 4096 := by
  have hs : sizeP p ≤ 4096 := by
    unfold checkE at h
    split at h
    · split at h
      · cases h
      · omega
    · cases h
  have h1 := sumB_ge p.keys
  have h2 := sumB_ge p.vals
  have h3 := sumK_ge p.kids
  unfold sizeP at hs
  omega
/-- a list of slices in memory behind a block -/
structure NwL (w : World) (G : Nat) (a : Option Addr) (n c : Nat) (L : List (List Nat)) : Prop where
  is : IsL w a n c L
  row : ∀ b off, a = some ⟨b, off, none⟩ → G < b
  far : ∀ i, i < n → ∀ b off b' off' n' c', a = some ⟨b, off, none⟩ → w.cell? ⟨b, off + i, none⟩ = some (.slice (some ⟨b', off', none⟩) n' c') → G < b' ∧ FzB w b'
theorem nwL_nil (w : World) (G : Nat) : NwL w G none 0 0 [] := ⟨isL_nil w, nofun, fun i hi => absurd hi (Nat.not_lt_zero _)⟩
theorem NwL.kept {w w' : World} {G : Nat} {a : Option Addr} {n c : Nat} {L : List (List Nat)} (h : NwL w G a n c L) (hs : w.heap.size ≤ w'.heap.size) (hk : ∀ b, G < b → b < w.heap.size → w'.heap[b]? = w.heap[b]?) : NwL w' G a n c L := by
  obtain ⟨⟨h1, h2, h3, h4, h5⟩, h6, h7⟩ := h
  refine ⟨⟨h1, h2, h3, h4, fun i hi => ?_⟩, h6, fun i hi b off b' off' n' c' e hc => ?_⟩
  · obtain ⟨b, off, a', n', c', e, hlt, hc, hB⟩ := h5 i hi
    refine ⟨b, off, a', n', c', e, Nat.lt_of_lt_of_le hlt hs, (World.cell?_of_block (hk b (h6 b off e) hlt)).trans hc, ?_⟩
    obtain ⟨g1, g2, g3, g4, g5⟩ := hB
    refine ⟨g1, g2, g3, g4, g5.imp id ?_⟩
    rintro ⟨b2, off2, rfl, hlt2, hc2⟩
    exact ⟨b2, off2, rfl, Nat.lt_of_lt_of_le hlt2 hs, fun j hj => (World.cell?_of_block (hk b2 (h7 i hi b off b2 off2 n' c' e hc).1 hlt2)).trans (hc2 j hj)⟩
  · obtain ⟨b1, off1, a1, n1, c1, e1, hlt, hc1, hB⟩ := h5 i hi
    rw [e] at e1
    cases e1
    have h8 := h7 i hi b off b' off' n' c' e ((World.cell?_of_block (hk b (h6 b off e) hlt)).symm.trans hc)
    exact ⟨h8.1, h8.2.kept (hk b' h8.1 h8.2.lt)⟩
theorem NwL.below {w w' : World} {G : Nat} {a : Option Addr} {n c : Nat} {L : List (List Nat)} (h : NwL w G a n c L) (hb : Below w.heap.size w w') : NwL w' G a n c L := h.kept hb.size (fun b _ hlt => hb.block b hlt)
theorem NwL.mono {w : World} {G G' : Nat} {a : Option Addr} {n c : Nat} {L : List (List Nat)} (h : NwL w G a n c L) (hG : G' ≤ G) : NwL w G' a n c L := ⟨h.is, fun b off e => Nat.lt_of_le_of_lt hG (h.row b off e), fun i hi b off b' off' n' c' e hc => ⟨Nat.lt_of_le_of_lt hG (h.far i hi b off b' off' n' c' e hc).1, (h.far i hi b off b' off' n' c' e hc).2⟩⟩
theorem nwL_row {w : World} {g c G : Nat} {sv xs : List Value} {L : List (List Nat)} (hr : w.heap[g]? = some (.cells (sv ++ xs).toArray 26 (0, 0))) (he : Els w G sv L) (hG : G < g) (hc : L.length ≤ c) (hm : c ≤ maxLen) : NwL w G (some ⟨g, 0, none⟩) L.length c L := by
  refine ⟨isL_row hr he hc hm, fun b off e => by cases e; exact hG, fun i hi b off b' off' n' c' e hcell => ?_⟩
  cases e
  obtain ⟨a, n, c1, e, hB, hF⟩ := he.2 i hi
  have h2 : w.cell? ⟨g, 0 + i, none⟩ = some (.slice a n c1) := by
    rw [Nat.zero_add]
    refine cell_blkN hr ?_
    rw [List.getElem?_toArray, List.getElem?_append_left (by rw [he.1]; exact hi), e]
  rw [h2] at hcell
  cases hcell
  exact hF b' off' rfl
theorem OwnL.full {w : World} {g n : Nat} {sv : List Value} {L : List (List Nat)} (h : OwnL w g n sv L) (hL : L.length = n) : w.heap[g]? = some (.cells sv.toArray 26 (0, 0)) := by
  obtain ⟨xs, hr, hl⟩ := h.row
  have : xs = [] := List.length_eq_zero_iff.1 (by have := h.els.1; omega)
  rw [hr, this, List.append_nil]
/-- a page in memory behind a block -/
structure NwG (w : World) (G : Nat) (v : Pv) (p : Pg) : Prop where
  keys : NwL w G v.ka v.kn v.kc p.keys
  vals : NwL w G v.va v.vn v.vc p.vals
  kids : IsK w v.ia v.inn v.ic p.kids
  far : ∀ b off, v.ia = some ⟨b, off, none⟩ → G < b ∧ FzK w b
theorem NwG.is {w : World} {G : Nat} {v : Pv} {p : Pg} (h : NwG w G v p) : IsG w v p := ⟨h.keys.is, h.vals.is, h.kids⟩
theorem nwG_0 (w : World) (G : Nat) : NwG w G Pv0 Pg0 := ⟨nwL_nil w G, nwL_nil w G, isK_nil w, nofun⟩
theorem NwG.kept {w w' : World} {G : Nat} {v : Pv} {p : Pg} (h : NwG w G v p) (hs : w.heap.size ≤ w'.heap.size) (hk : ∀ b, G < b → b < w.heap.size → w'.heap[b]? = w.heap[b]?) : NwG w' G v p := by
  refine ⟨h.keys.kept hs hk, h.vals.kept hs hk, ?_, fun b off e => ⟨(h.far b off e).1, (h.far b off e).2.kept (hk b (h.far b off e).1 (h.far b off e).2.lt)⟩⟩
  obtain ⟨h1, h2, h3, h4, h5⟩ := h.kids
  refine ⟨h1, h2, h3, h4, fun i hi => ?_⟩
  obtain ⟨ht, b, off, e, hlt, hc⟩ := h5 i hi
  exact ⟨ht, b, off, e, Nat.lt_of_lt_of_le hlt hs, (World.cell?_of_block (hk b (h.far b off e).1 hlt)).trans hc⟩
theorem NwG.below {w w' : World} {G : Nat} {v : Pv} {p : Pg} (h : NwG w G v p) (hb : Below w.heap.size w w') : NwG w' G v p := h.kept hb.size (fun b _ hlt => hb.block b hlt)
theorem NwG.mono {w : World} {G G' : Nat} {v : Pv} {p : Pg} (h : NwG w G v p) (hG : G' ≤ G) : NwG w G' v p := ⟨h.keys.mono hG, h.vals.mono hG, h.kids, fun b off e => ⟨Nat.lt_of_le_of_lt hG (h.far b off e).1, (h.far b off e).2⟩⟩
theorem NwG.set4 {w : World} {G B : Nat} {v : Pv} {p : Pg} (h : NwG w G v p) (hB : B ≤ G) (a b c d : Value) : NwG (set4 w B a b c d) G v p := h.kept (by rw [size4]; exact Nat.le_refl _) (fun b' hb _ => out4 (by omega) _ _ _ _)
end Go.Proofs.Ytebikoekpbnpbaa
