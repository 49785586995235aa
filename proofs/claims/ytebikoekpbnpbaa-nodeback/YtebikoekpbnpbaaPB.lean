/- PB MG DC DA DG -/
import Derived.Test.YtebikoekpbnpbaaLawFound
import Derived.Test.YtebikoekpbnpbaaNQ
import Derived.Test.YtebikoekpbnpbaaMF
import Derived.Test.YtebikoekpbnpbaaMD
import Derived.Test.YtebikoekpbnpbaaNU
/- a page that a call answers, laid into a box that is made ahead of it or behind it -/
namespace Go.Proofs.Ytebikoekpbnpbaa
open Go.RowKit Cod
set_option maxRecDepth 100000
set_option linter.unusedVariables false
set_option linter.unusedSimpArgs false
structure Boxed (wr W : World) (G bx : Nat) (lf : Bool) (v : Pv) (p : Pg) : Prop where
  blk : BlkG W bx lf v
  nw : NwG W G v p
  bel : Below wr.heap.size wr W
  low : wr.heap.size ≤ bx
end Go.Proofs.Ytebikoekpbnpbaa
/- Split and Merge, as laws ask them; strings in order -/
namespace Go.Proofs.Ytebikoekpbnpbaa
open Go.RowKit Cod
set_option maxRecDepth 100000
set_option linter.unusedVariables false
set_option linter.unusedSimpArgs false
/-- the halves of a split -/
structure Halves (p a b : Pg) (k : List Nat) : Prop where
  ca : checkE a = 0
  cb : checkE b = 0
  la : a.leaf = p.leaf
  lb : b.leaf = p.leaf
  na : 0 < a.keys.length
  nb : 0 < b.keys.length
  kl : k.length ≤ 256
  mg : mergeP a k b = p
  last : ltN (a.keys.getD (a.keys.length - 1) []) k = true
  first : (p.leaf = true → b.keys.getD 0 [] = k) ∧ (p.leaf = false → ltN k (b.keys.getD 0 []) = true)
theorem halves {p : Pg} {m : Nat} (hp : checkE p = 0) (hs : SplitAt p m) : Halves p (partP p 0 m) (partP p (m + offP p) p.keys.length) (p.keys.getD m []) := by
  obtain ⟨h1, h2⟩ := hs
  have hsr := check_srt hp
  have l1 : (partP p 0 m).keys.length = m := by rw [part_len (by omega)]; omega
  have l2 : (partP p (m + offP p) p.keys.length).keys.length = p.keys.length - (m + offP p) := part_len (Nat.le_refl _)
  refine ⟨part_check hp (by omega) (by omega), part_check hp h2 (Nat.le_refl _), part_leaf .., part_leaf .., by omega, by omega, key_short hp (by omega), ?_, ?_, fun hl => ?_, fun hl => ?_⟩
  · rw [part_merge hp (by omega) (by omega) (Nat.le_refl _), part_all hp]
  · rw [l1, part_key (by omega), Nat.zero_add]
    exact srt_getD hsr (by omega) (by omega)
  · rw [part_key (by omega)]
    unfold offP
    rw [if_pos hl]
    rfl
  · rw [part_key (by omega)]
    unfold offP at h2 ⊢
    rw [if_neg (by rw [hl]; decide)] at h2 ⊢
    exact srt_getD hsr (by omega) (by omega)
end Go.Proofs.Ytebikoekpbnpbaa
/- the document's made -/
namespace Go.Proofs.Ytebikoekpbnpbaa
open Go.RowKit Cod
set_option maxRecDepth 100000
set_option linter.unusedVariables false
set_option linter.unusedSimpArgs false
def madeB (p : Pg) : Bool := leafB p || innerB p
end Go.Proofs.Ytebikoekpbnpbaa
/- the document's bytes, lists -/
namespace Go.Proofs.Ytebikoekpbnpbaa
open Go.RowKit Cod
set_option maxRecDepth 100000
set_option linter.unusedVariables false
set_option linter.unusedSimpArgs false
/-- a block of bytes that is new -/
def NewB (w : World) (base : Nat) (a : Option Addr) : Prop := ∀ b off, a = some ⟨b, off, none⟩ → base ≤ b ∧ ∃ cs f, w.heap[b]? = some (.cells cs 5 f)
theorem NewB.below {w w' : World} {base : Nat} {a : Option Addr} (h : NewB w base a) (hb : Below w.heap.size w w') : NewB w' base a := fun b off e => by
  obtain ⟨h1, cs, f, h2⟩ := h b off e
  exact ⟨h1, cs, f, (hb.block _ (heap_ltN h2)).trans h2⟩
/-- values that are slices of bytes in memory that is new -/
def ElT (w : World) (base : Nat) (xs : List Value) (L : List (List Nat)) : Prop := xs.length = L.length ∧ ∀ i, i < L.length → ∃ a n c, xs[i]? = some (.slice a n c) ∧ IsB w a n c (L.getD i []) ∧ NewB w base a
theorem ElT.elB {w : World} {base : Nat} {xs : List Value} {L : List (List Nat)} (h : ElT w base xs L) : ElB w xs L := ⟨h.1, fun i hi => by
  obtain ⟨a, n, c, e, hB, _⟩ := h.2 i hi
  exact ⟨a, n, c, e, hB⟩⟩
theorem ElT.below {w w' : World} {base : Nat} {xs : List Value} {L : List (List Nat)} (h : ElT w base xs L) (hb : Below w.heap.size w w') : ElT w' base xs L := ⟨h.1, fun i hi => by
  obtain ⟨a, n, c, e, hB, hf⟩ := h.2 i hi
  exact ⟨a, n, c, e, hB.below hb, hf.below hb⟩⟩
theorem ElT.kept {w w' : World} {base : Nat} {xs : List Value} {L : List (List Nat)} (h : ElT w base xs L) (hs : w.heap.size ≤ w'.heap.size) (hk : ∀ (b : Nat) (cs : Array Value) (f : Nat × Nat), w.heap[b]? = some (Obj.cells cs 5 f) → w'.heap[b]? = w.heap[b]?) : ElT w' base xs L := ⟨h.1, fun i hi => by
  obtain ⟨a, n, c, e, hB, hf⟩ := h.2 i hi
  refine ⟨a, n, c, e, hB.keptN hs (fun b off e2 => ?_), fun b off e2 => ?_⟩
  · obtain ⟨_, cs, f, h2⟩ := hf b off e2
    exact hk b cs f h2
  · obtain ⟨h1, cs, f, h2⟩ := hf b off e2
    exact ⟨h1, cs, f, (hk b cs f h2).trans h2⟩⟩
theorem ElT.grown {w w' : World} {base base' : Nat} {xs ys : List Value} {L : List (List Nat)} {v : Value} {n : Nat} (h : ElT w base xs L) (hg : w.grownBy w' v.ownBlock) (ho : w.ownsRow base' 26 1 v n ys) : ElT w' base xs L := h.kept hg.size (fun b cs f hb => hg.block b (heap_ltN hb) (fun e => by
  rcases ho.2 with ⟨rfl, _⟩ | ⟨g, cap, cur, rfl, _, h2, _⟩
  · cases e
  · have e' : b = g := by simpa [Value.ownBlock] using e
    rw [e', h2] at hb
    cases hb))
theorem ElT.push {w : World} {base : Nat} {xs : List Value} {L : List (List Nat)} {a : Option Addr} {n c : Nat} {l : List Nat} (h : ElT w base xs L) (hB : IsB w a n c l) (hf : NewB w base a) : ElT w base (xs ++ [.slice a n c]) (L ++ [l]) := by
  refine ⟨by simp [h.1], fun i hi => ?_⟩
  rw [List.length_append] at hi
  simp only [List.length_singleton] at hi
  by_cases hl : i < L.length
  · obtain ⟨a', n', c', e, hB', hf'⟩ := h.2 i hl
    refine ⟨a', n', c', by rw [List.getElem?_append_left (by rw [h.1]; exact hl)]; exact e, ?_, hf'⟩
    rwa [List.getD_eq_getElem?_getD, List.getElem?_append_left hl, ← List.getD_eq_getElem?_getD]
  · obtain rfl : i = L.length := by omega
    refine ⟨a, n, c, by rw [List.getElem?_append_right (by rw [h.1]; omega), h.1]; simp, ?_, hf⟩
    rw [List.getD_eq_getElem?_getD, List.getElem?_append_right (by omega)]
    simpa using hB
theorem take_step {L : List (List Nat)} {k : Nat} (h : k < L.length) : L.take (k + 1) = L.take k ++ [L.getD k []] := by
  rw [List.take_add_one, List.getD_eq_getElem?_getD, List.getElem?_eq_getElem h]
  rfl
end Go.Proofs.Ytebikoekpbnpbaa
/- the document's Find, with, without -/
namespace Go.Proofs.Ytebikoekpbnpbaa
open Go.RowKit Cod
set_option maxRecDepth 100000
set_option linter.unusedVariables false
set_option linter.unusedSimpArgs false
theorem Vs.front {w : World} {a : Option Addr} {n c : Nat} {xs : List Value} (h : Vs w a n c xs) {k : Nat} (hk : k ≤ n) : Vs w a k c (xs.take k) := by
  obtain ⟨h1, h2, h3, h4, h5, h6⟩ := h
  refine ⟨by rw [List.length_take, h1]; omega, by omega, h3, h4, fun u hu => h5 u (List.mem_of_mem_take hu), fun i hi => ?_⟩
  obtain ⟨b, off, e, hlt, hc⟩ := h6 i (by omega)
  exact ⟨b, off, e, hlt, by rw [hc, List.getElem?_take, if_pos hi]⟩
theorem Vs.back {w : World} {b off n c : Nat} {xs : List Value} (h : Vs w (some ⟨b, off, none⟩) n c xs) {f : Nat} (hf : f ≤ n) :
    ∃ A : Addr, (if c = f then some (⟨b, off, none⟩ : Addr) else some ⟨b, off + f, none⟩) = some A ∧ Vs w (some A) (n - f) (c - f) (xs.drop f) := by
  obtain ⟨h1, h2, h3, h4, h5, h6⟩ := h
  by_cases he : c = f
  · exact ⟨⟨b, off, none⟩, by rw [if_pos he], by rw [List.length_drop, h1], by omega, by omega, nofun, fun u hu => h5 u (List.mem_of_mem_drop hu), fun i hi => by omega⟩
  · refine ⟨⟨b, off + f, none⟩, by rw [if_neg he], by rw [List.length_drop, h1], by omega, by omega, nofun, fun u hu => h5 u (List.mem_of_mem_drop hu), fun i hi => ?_⟩
    obtain ⟨b', off', e, hlt, hc⟩ := h6 (f + i) (by omega)
    cases e
    exact ⟨b, off + f, rfl, hlt, by rw [List.getElem?_drop, Nat.add_assoc]; exact hc⟩
theorem ElB.front {w : World} {xs : List Value} {L : List (List Nat)} (h : ElB w xs L) (k : Nat) : ElB w (xs.take k) (L.take k) := by
  refine ⟨by rw [List.length_take, List.length_take, h.1], fun i hi => ?_⟩
  rw [List.length_take] at hi
  obtain ⟨a, n, c, e, hB⟩ := h.2 i (by omega)
  refine ⟨a, n, c, by rw [List.getElem?_take, if_pos (by omega)]; exact e, ?_⟩
  rwa [List.getD_eq_getElem?_getD, List.getElem?_take, if_pos (by omega), ← List.getD_eq_getElem?_getD]
theorem ElB.back {w : World} {xs : List Value} {L : List (List Nat)} (h : ElB w xs L) (k : Nat) : ElB w (xs.drop k) (L.drop k) := by
  refine ⟨by rw [List.length_drop, List.length_drop, h.1], fun i hi => ?_⟩
  rw [List.length_drop] at hi
  obtain ⟨a, n, c, e, hB⟩ := h.2 (k + i) (by omega)
  refine ⟨a, n, c, by rw [List.getElem?_drop]; exact e, ?_⟩
  rwa [List.getD_eq_getElem?_getD, List.getElem?_drop, ← List.getD_eq_getElem?_getD]
end Go.Proofs.Ytebikoekpbnpbaa
