/- DI DJ DK -/
import Derived.Test.YtebikoekpbnpbaaPB
/- the document's Copy -/
namespace Go.Proofs.Ytebikoekpbnpbaa
open Go.RowKit Cod
set_option maxRecDepth 100000
set_option linter.unusedVariables false
set_option linter.unusedSimpArgs false
/-- a row of slices of bytes, all in memory that is new -/
structure RowT (w : World) (base n : Nat) (v : Value) (xs : List Value) (L : List (List Nat)) : Prop where
  own : w.ownsRow base 26 1 v n xs
  els : ElT w base xs L
theorem RowT.below {w w' : World} {base n : Nat} {v : Value} {xs : List Value} {L : List (List Nat)} (h : RowT w base n v xs L) (hb : Below w.heap.size w w') : RowT w' base n v xs L := ⟨own_below h.own hb, h.els.below hb⟩
theorem RowT.mono {w : World} {base base' n : Nat} {v : Value} {xs : List Value} {L : List (List Nat)} (h : RowT w base n v xs L) (hb : base' ≤ base) : RowT w base' n v xs L := ⟨own_le h.own hb, h.els.1, fun i hi => by
  obtain ⟨a, n, c, e, hB, hf⟩ := h.els.2 i hi
  exact ⟨a, n, c, e, hB, fun b off e => ⟨Nat.le_trans hb (hf b off e).1, (hf b off e).2⟩⟩⟩
theorem RowT.kept {w w' : World} {base n : Nat} {v : Value} {xs : List Value} {L : List (List Nat)} (h : RowT w base n v xs L) (hs : w.heap.size ≤ w'.heap.size) (hk : ∀ (b : Nat) (cs : Array Value) (t : TypeId) (f : Nat × Nat), base ≤ b → (t = 5 ∨ t = 26) → w.heap[b]? = some (Obj.cells cs t f) → w'.heap[b]? = w.heap[b]?) : RowT w' base n v xs L := by
  refine ⟨⟨h.own.1, ?_⟩, h.els.1, fun i hi => ?_⟩
  · rcases h.own.2 with h1 | ⟨g, cap, cur, e, hb, hg, r⟩
    · exact .inl h1
    · exact .inr ⟨g, cap, cur, e, hb, (hk g cur 26 _ hb (.inr rfl) hg).trans hg, r⟩
  · obtain ⟨a, n, c, e, hB, hf⟩ := h.els.2 i hi
    refine ⟨a, n, c, e, hB.keptN hs (fun b off e2 => ?_), fun b off e2 => ?_⟩
    · obtain ⟨h1, cs, f, h2⟩ := hf b off e2
      exact hk b cs 5 f h1 (.inl rfl) h2
    · obtain ⟨h1, cs, f, h2⟩ := hf b off e2
      exact ⟨h1, cs, f, (hk b cs 5 f h1 (.inl rfl) h2).trans h2⟩
theorem RowT.grownK {w w' : World} {base base' n m : Nat} {v v0 : Value} {xs ys : List Value} {L : List (List Nat)} (h : RowT w base n v xs L) (hg : w.grownBy w' v0.ownBlock) (ho : w.ownsRow base' 3 1 v0 m ys) : RowT w' base n v xs L := h.kept hg.size (fun b cs t f _ ht hb => hg.block b (heap_ltN hb) (fun e => by
  rcases ho.2 with ⟨rfl, _⟩ | ⟨g, cap, cur, rfl, _, h2, _⟩
  · cases e
  · have e' : b = g := by simpa [Value.ownBlock] using e
    rw [e', h2] at hb
    cases hb
    rcases ht with ht | ht <;> cases ht))
theorem RowT.set4 {w : World} {base n B : Nat} {v : Value} {xs : List Value} {L : List (List Nat)} (h : RowT w base n v xs L) (hB : B < base) (a b c d : Value) : RowT (set4 w B a b c d) base n v xs L := h.kept (by rw [size4]; exact Nat.le_refl _) (fun k _ _ _ hk _ _ => out4 (by omega) _ _ _ _)
theorem RowT.isL {w : World} {base n : Nat} {v : Value} {xs : List Value} {L : List (List Nat)} (h : RowT w base n v xs L) (hl : L.length = n) : ∃ a c, v = .slice a n c ∧ IsL w a n c L ∧ (a = none ∨ ∃ b off, a = some ⟨b, off, none⟩) ∧ ∀ b off, a = some ⟨b, off, none⟩ → base ≤ b ∧ b < w.heap.size := by
  obtain ⟨a, c, e, hL⟩ := own_isL hl h.els.elB h.own
  refine ⟨a, c, e, hL, ?_, fun b off e2 => ?_⟩
  · rcases h.own.2 with ⟨e3, _⟩ | ⟨g, cap, cur, e3, _⟩
    · rw [e] at e3; cases e3; exact .inl rfl
    · rw [e] at e3; cases e3; exact .inr ⟨g, 0, rfl⟩
  · exact h.own.lt b (by rw [e, e2]; rfl)
/-- a copy of a page -/
structure Cpy (w : World) (G : Nat) (v : Pv) (p : Pg) (xs ys : List Value) (M : Nat) : Prop where
  rk : RowT w G v.kn (.slice v.ka v.kn v.kc) xs p.keys
  rv : RowT w G v.vn (.slice v.va v.vn v.vc) ys p.vals
  ki : IsK w v.ia v.inn v.ic p.kids
  kf : ∀ b off, v.ia = some ⟨b, off, none⟩ → G ≤ b ∧ ∃ cs f, w.heap[b]? = some (.cells cs 3 f)
  lk : p.keys.length = v.kn ∧ p.vals.length = v.vn
  am : ∀ b off, v.ka = some ⟨b, off, none⟩ → b < M
  bm : ∀ b off, v.va = some ⟨b, off, none⟩ → M ≤ b
theorem Cpy.is {w : World} {G : Nat} {v : Pv} {p : Pg} {xs ys : List Value} {M : Nat} (h : Cpy w G v p xs ys M) : IsG w v p := by
  obtain ⟨a, c, e, hL, _⟩ := h.rk.isL h.lk.1
  obtain ⟨a', c', e', hL', _⟩ := h.rv.isL h.lk.2
  cases e
  cases e'
  exact ⟨hL, hL', h.ki⟩
theorem Cpy.below {w w' : World} {G : Nat} {v : Pv} {p : Pg} {xs ys : List Value} {M : Nat} (h : Cpy w G v p xs ys M) (hb : Below w.heap.size w w') : Cpy w' G v p xs ys M := ⟨h.rk.below hb, h.rv.below hb, h.ki.below hb, fun b off e => by
  obtain ⟨h1, cs, f, h2⟩ := h.kf b off e
  exact ⟨h1, cs, f, (hb.block _ (heap_ltN h2)).trans h2⟩, h.lk, h.am, h.bm⟩
end Go.Proofs.Ytebikoekpbnpbaa
/- the document's with, without, at rows that are new -/
namespace Go.Proofs.Ytebikoekpbnpbaa
open Go.RowKit Cod
set_option maxRecDepth 100000
set_option linter.unusedVariables false
set_option linter.unusedSimpArgs false
theorem ElT.front {w : World} {base : Nat} {xs : List Value} {L : List (List Nat)} (h : ElT w base xs L) (k : Nat) : ElT w base (xs.take k) (L.take k) := by
  refine ⟨by rw [List.length_take, List.length_take, h.1], fun i hi => ?_⟩
  rw [List.length_take] at hi
  obtain ⟨a, n, c, e, hB, hf⟩ := h.2 i (by omega)
  refine ⟨a, n, c, by rw [List.getElem?_take, if_pos (by omega)]; exact e, ?_, hf⟩
  rwa [List.getD_eq_getElem?_getD, List.getElem?_take, if_pos (by omega), ← List.getD_eq_getElem?_getD]
theorem ElT.back {w : World} {base : Nat} {xs : List Value} {L : List (List Nat)} (h : ElT w base xs L) (k : Nat) : ElT w base (xs.drop k) (L.drop k) := by
  refine ⟨by rw [List.length_drop, List.length_drop, h.1], fun i hi => ?_⟩
  rw [List.length_drop] at hi
  obtain ⟨a, n, c, e, hB, hf⟩ := h.2 (k + i) (by omega)
  refine ⟨a, n, c, by rw [List.getElem?_drop]; exact e, ?_, hf⟩
  rwa [List.getD_eq_getElem?_getD, List.getElem?_drop, ← List.getD_eq_getElem?_getD]
end Go.Proofs.Ytebikoekpbnpbaa
/- the document's Cut -/
namespace Go.Proofs.Ytebikoekpbnpbaa
open Go.RowKit Cod
set_option maxRecDepth 100000
set_option linter.unusedVariables false
set_option linter.unusedSimpArgs false
theorem RowT.setX {w : World} {base n X : Nat} {v : Value} {xs : List Value} {L : List (List Nat)} (h : RowT w base n v xs L) {cs : Array Value} {f : Nat × Nat} (hX : w.heap[X]? = some (.cells cs 25 f)) (j : Nat) (u : Value) : RowT (w.setCell ⟨X, j, none⟩ u) base n v xs L := h.kept (by simp [World.setCell]) (fun b cs' t f' _ ht hb => Below.heap_setCell _ _ _ _ (fun e => by
  have e' : b = X := e
  rw [e', hX] at hb
  cases hb
  rcases ht with ht | ht <;> cases ht))
/-- a page whose lists lie in new memory -/
structure PgT (w : World) (G : Nat) (v : Pv) (p : Pg) : Prop where
  k : ∃ xs, RowT w G v.kn (.slice v.ka v.kn v.kc) xs p.keys
  x : ∃ xs, RowT w G v.vn (.slice v.va v.vn v.vc) xs p.vals
  i : v.inn = 0 ∧ p.kids = [] ∧ v.inn ≤ v.ic ∧ v.ic ≤ maxLen ∧ (v.ia = none → v.ic = 0)
  l : p.keys.length = v.kn ∧ p.vals.length = v.vn
theorem PgT.is {w : World} {G : Nat} {v : Pv} {p : Pg} (h : PgT w G v p) : IsG w v p := by
  obtain ⟨xs, hk⟩ := h.k
  obtain ⟨ys, hx⟩ := h.x
  obtain ⟨a, c, e, hL, _⟩ := hk.isL h.l.1
  obtain ⟨a', c', e', hL', _⟩ := hx.isL h.l.2
  cases e
  cases e'
  exact ⟨hL, hL', by rw [h.i.2.1]; exact h.i.1.symm, h.i.2.2.1, h.i.2.2.2.1, h.i.2.2.2.2, fun i hi => by have := h.i.1; omega⟩
theorem PgT.below {w w' : World} {G : Nat} {v : Pv} {p : Pg} (h : PgT w G v p) (hb : Below w.heap.size w w') : PgT w' G v p := by
  obtain ⟨xs, hk⟩ := h.k
  obtain ⟨ys, hx⟩ := h.x
  exact ⟨⟨xs, hk.below hb⟩, ⟨ys, hx.below hb⟩, h.i, h.l⟩
theorem PgT.set4 {w : World} {G B : Nat} {v : Pv} {p : Pg} (h : PgT w G v p) (hB : B < G) (a b c d : Value) : PgT (set4 w B a b c d) G v p := by
  obtain ⟨xs, hk⟩ := h.k
  obtain ⟨ys, hx⟩ := h.x
  exact ⟨⟨xs, hk.set4 hB _ _ _ _⟩, ⟨ys, hx.set4 hB _ _ _ _⟩, h.i, h.l⟩
end Go.Proofs.Ytebikoekpbnpbaa
