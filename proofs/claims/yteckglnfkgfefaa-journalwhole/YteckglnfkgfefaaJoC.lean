/- a row of sectors that is one's own -/
import Derived.Test.YteckglnfkgfefaaJnU
namespace Go.Proofs.Yteckglnfkgfefaa
open Go.RowKit Cod
set_option maxRecDepth 40000
theorem info34 : (Try.prog.info? 34).map (fun i => (i.zero, i.size, i.bytes)) = some (some (.slice none 0 0), 1, 24) := by kernel_rfl
/-- where the elements of a row of sectors lie -/
def LieBB (w : World) (B : Nat) (vs : List Value) (qs : Nat → Nat) (bs : List (List Nat)) : Prop :=
  ∀ i, i < bs.length → vs[i]? = some (.slice (some ⟨qs i, 0, none⟩) 4096 4096) ∧ B ≤ qs i ∧ Row w (qs i) 4096 4096 (bs.getD i []) ∧ ∀ k, k < i → qs k < qs i
/-- a row of sectors that is one's own, each in a block of its own -/
def OwnBB (w : World) (B : Nat) (v : Value) (bs : List (List Nat)) : Prop :=
  ∃ vs qs, w.ownsRow B 34 1 v bs.length vs ∧ LieBB w B vs qs bs
theorem OwnBB.nil (w : World) (B : Nat) : OwnBB w B (.slice none 0 0) [] := ⟨[], fun _ => 0, World.ownsRow_nil _ _ _ _, fun i hi => by simp at hi⟩
theorem Row.low {w w' : World} {g len cap : Nat} {m : List Nat} (h : Row w g len cap m) (hb : Below w.heap.size w w') : Row w' g len cap m := h.below hb h.lt
theorem LieBB.below {w w' : World} {B : Nat} {vs : List Value} {qs : Nat → Nat} {bs : List (List Nat)} (h : LieBB w B vs qs bs) (hb : Below w.heap.size w w') : LieBB w' B vs qs bs :=
  fun i hi => ⟨(h i hi).1, (h i hi).2.1, (h i hi).2.2.1.low hb, (h i hi).2.2.2⟩
theorem own34_below {w w' : World} {base : Nat} {v : Value} {n : Nat} {l : List Value} (h : w.ownsRow base 34 1 v n l) (hb : Below w.heap.size w w') : w'.ownsRow base 34 1 v n l :=
  h.kept (row := none) ⟨hb.os, hb.tape, hb.output, hb.size, fun k hk _ => hb.block k hk⟩ (by cases hv : v.ownBlock <;> simp)
theorem own34_le {w : World} {B B' n : Nat} {v : Value} {l : List Value} (h : w.ownsRow B 34 1 v n l) (hb : B' ≤ B) : w.ownsRow B' 34 1 v n l :=
  ⟨h.1, h.2.imp id (fun ⟨g, cap, cur, h1, h2, h3⟩ => ⟨g, cap, cur, h1, Nat.le_trans hb h2, h3⟩)⟩
theorem OwnBB.below {w w' : World} {B : Nat} {v : Value} {bs : List (List Nat)} (h : OwnBB w B v bs) (hb : Below w.heap.size w w') : OwnBB w' B v bs := by
  obtain ⟨vs, qs, h1, h2⟩ := h
  exact ⟨vs, qs, own34_below h1 hb, h2.below hb⟩
theorem OwnBB.mono {w : World} {B B' : Nat} {v : Value} {bs : List (List Nat)} (h : OwnBB w B v bs) (hb : B' ≤ B) : OwnBB w B' v bs := by
  obtain ⟨vs, qs, h1, h2⟩ := h
  exact ⟨vs, qs, own34_le h1 hb, fun i hi => ⟨(h2 i hi).1, Nat.le_trans hb (h2 i hi).2.1, (h2 i hi).2.2⟩⟩
theorem Row.beside {w w' : World} {B n q len cap : Nat} {v : Value} {vs : List Value} {m : List Nat} (h : Row w q len cap m) (ho : w.ownsRow B 34 1 v n vs) (hg : w.grownBy w' v.ownBlock) : Row w' q len cap m := by
  obtain ⟨h1, h2, h3, cur, h4, h5, h6⟩ := h
  refine ⟨h1, h2, h3, cur, (hg.block q (heap_lt h4) (fun e => ?_)).trans h4, h5, h6⟩
  rcases ho.2 with ⟨rfl, _⟩ | ⟨g, c, cu, rfl, _, hh, _⟩
  · cases e
  · have e' : q = g := by simpa [Value.ownBlock] using e
    rw [e', hh] at h4
    cases h4
theorem OwnBB.push {w w' : World} {B q : Nat} {v v' : Value} {bs : List (List Nat)} {vs : List Value} {qs : Nat → Nat} {l : List Nat} (ho : w.ownsRow B 34 1 v bs.length vs) (hl : LieBB w B vs qs bs) (hq : B ≤ q) (hqs : ∀ i, i < bs.length → qs i < q) (hr : Row w q 4096 4096 l)
    (ho' : w'.ownsRow B 34 1 v' (bs.length + 1) (vs ++ [.slice (some ⟨q, 0, none⟩) 4096 4096])) (hg : w.grownBy w' v.ownBlock) : OwnBB w' B v' (bs ++ [l]) := by
  have hvl : vs.length = bs.length := by have := ho.1; omega
  refine ⟨vs ++ [.slice (some ⟨q, 0, none⟩) 4096 4096], fun i => if i < bs.length then qs i else q, by simpa using ho', fun i hi => ?_⟩
  rw [List.length_append, List.length_cons, List.length_nil] at hi
  by_cases h : i < bs.length
  · obtain ⟨e1, e2, e3, e4⟩ := hl i h
    simp only [if_pos h]
    refine ⟨by rw [List.getElem?_append_left (by omega)]; exact e1, e2, ?_, fun k hk => by rw [if_pos (by omega)]; exact e4 k hk⟩
    rw [List.getD_eq_getElem?_getD, List.getElem?_append_left h, ← List.getD_eq_getElem?_getD]
    exact e3.beside ho hg
  · have : i = bs.length := by omega
    subst this
    simp only [if_neg h]
    refine ⟨by rw [List.getElem?_append_right (by omega), hvl, Nat.sub_self]; rfl, hq, ?_, fun k hk => by rw [if_pos hk]; exact hqs k hk⟩
    rw [List.getD_eq_getElem?_getD, List.getElem?_append_right (Nat.le_refl _), Nat.sub_self]
    exact hr.beside ho hg
theorem LieBB.lt {w : World} {B : Nat} {vs : List Value} {qs : Nat → Nat} {bs : List (List Nat)} (h : LieBB w B vs qs bs) : ∀ i, i < bs.length → qs i < w.heap.size := fun i hi => (h i hi).2.2.1.lt
theorem one_slice (a : Option Addr) (n c : Nat) : ∀ u ∈ [Value.slice a n c], u.oneCell' = true := by
  intro u hu
  rw [List.mem_singleton.1 hu]
  rfl
theorem OwnBB.isBB {w : World} {B : Nat} {v : Value} {bs : List (List Nat)} (h : OwnBB w B v bs) (hx : ∀ b ∈ bs, ∀ x ∈ b, x < 256) : ∃ a cap, v = .slice a bs.length cap ∧ IsBB w a bs.length cap bs := by
  obtain ⟨vs, qs, ho, hl⟩ := h
  rcases ho.2 with ⟨rfl, h0⟩ | ⟨g, cap, cur, rfl, hb, hg, hn, hc, hs, ht⟩
  · refine ⟨none, 0, by rw [h0], rfl, by omega, Nat.zero_le _, .inl h0⟩
  · refine ⟨some ⟨g, 0, none⟩, cap, rfl, rfl, hn, hc, .inr ⟨g, 0, rfl, heap_lt hg, fun i hi => ?_⟩⟩
    obtain ⟨e1, _, e3, _⟩ := hl i hi
    refine ⟨_, _, _, ?_, e3.isB (hx _ (by rw [List.getD_eq_getElem?_getD, List.getElem?_eq_getElem hi]; exact List.getElem_mem _))⟩
    rw [← ht, List.getElem?_take, if_pos (by omega)] at e1
    simp only [World.cell?, hg]
    simpa using e1
theorem OwnBB.lit {w : World} {B q : Nat} {l : List Nat} (hB : B ≤ w.heap.size) (hq : B ≤ q) (hr : Row w q 4096 4096 l) : OwnBB (w.alloc (.cells #[.slice (some ⟨q, 0, none⟩) 4096 4096] 34)) B (.slice (some ⟨w.heap.size, 0, none⟩) 1 1) [l] := by
  refine ⟨[.slice (some ⟨q, 0, none⟩) 4096 4096], fun _ => q, World.ownsRow_lit w #[.slice (some ⟨q, 0, none⟩) 4096 4096] 1 hB (by unfold maxLen; omega) rfl, fun i hi => ?_⟩
  have : i = 0 := by simpa using hi
  subst this
  exact ⟨rfl, hq, hr.low ((Below.refl _ _).alloc (Nat.le_refl _) _), fun k hk => by omega⟩
end Go.Proofs.Yteckglnfkgfefaa
