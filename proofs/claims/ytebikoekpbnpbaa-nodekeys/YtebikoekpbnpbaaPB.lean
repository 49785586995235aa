/- PB MG -/
import Derived.Test.YtebikoekpbnpbaaLawFound
import Derived.Test.YtebikoekpbnpbaaNQ
import Derived.Test.YtebikoekpbnpbaaMF
import Derived.Test.YtebikoekpbnpbaaMD
/- a page that a call answers, laid into a box that is made ahead of it or behind it -/
namespace Go.Proofs.Ytebikoekpbnpbaa
open Go.RowKit Cod
set_option maxRecDepth 100000
set_option linter.unusedVariables false
set_option linter.unusedSimpArgs false
theorem hTwo {P : Program} {ops : Array Oper} {Q : Exit → Act → World → Prop} {md : Region.Mode} {S : World → Prop} {i j : Nat} {o o' : Oper} {fuel : Nat} {listed : Array Bool} {a : Act} {w : World} (ho : ops[i]? = some o) (ho' : ops[j]? = some o') (hr : Region.ready md ops listed = [i, j])
    (h : ∀ K' : Act → World → Prop, Shut (∀ a w, S w → (S w → wpAnyH P md ops Q S fuel (listed.setIfInBounds i true) a w) → K' a w) → if Region.wanted o (yielded ops a.tmps) = true then Oper.wp P o a w K' Q else K' (a.put o.dst undef) w)
    (h' : ∀ K' : Act → World → Prop, Shut (∀ a w, S w → (S w → wpAnyH P md ops Q S fuel (listed.setIfInBounds j true) a w) → K' a w) → if Region.wanted o' (yielded ops a.tmps) = true then Oper.wp P o' a w K' Q else K' (a.put o'.dst undef) w) : wpAnyH P md ops Q S (fuel + 1) listed a w :=
  wpAnyH_ready hr (by simp) (AllReadyH.cons ho h (AllReadyH.cons ho' h' AllReadyH.nil))
structure Boxed (wr W : World) (G bx : Nat) (lf : Bool) (v : Pv) (p : Pg) : Prop where
  blk : BlkG W bx lf v
  nw : NwG W G v p
  bel : Below wr.heap.size wr W
  low : wr.heap.size ≤ bx
end Go.Proofs.Ytebikoekpbnpbaa
/- Split and Merge, as laws ask them; strings in order -/
namespace Go.Proofs.Ytebikoekpbnpbaa
open Go.RowKit Cod
set_option maxRecDepth 100000
set_option linter.unusedVariables false
set_option linter.unusedSimpArgs false
theorem less_mapN (l : List Nat) : ∀ m : List Nat, (∀ x ∈ l, x < 256) → (∀ x ∈ m, x < 256) → Op.bytesLess (l.map UInt8.ofNat) (m.map UInt8.ofNat) = ltN l m := by
  induction l with
  | nil =>
    intro m _ _
    cases m with
    | nil => rfl
    | cons y s => rfl
  | cons x r ih =>
    intro m hl hm
    cases m with
    | nil => rfl
    | cons y s =>
      have hx : x < 256 := hl x (List.mem_cons_self ..)
      have hy : y < 256 := hm y (List.mem_cons_self ..)
      have i0 := ih s (fun z hz => hl z (List.mem_cons_of_mem _ hz)) (fun z hz => hm z (List.mem_cons_of_mem _ hz))
      rw [List.map_cons, List.map_cons, Op.bytesLess, ltN, i0]
      have e1 : (UInt8.ofNat x < UInt8.ofNat y) ↔ x < y := by
        rw [UInt8.lt_iff_toNat_lt]; simp; omega
      have e2 : (UInt8.ofNat x == UInt8.ofNat y) = decide (x = y) := by
        rw [Bool.eq_iff_iff]
        simp only [beq_iff_eq, decide_eq_true_eq]
        constructor
        · intro h
          have := congrArg UInt8.toNat h
          simp at this; omega
        · intro h; rw [h]
      simp only [e1, e2]
theorem less_strN {l m : List Nat} (hl : ∀ x ∈ l, x < 256) (hm : ∀ x ∈ m, x < 256) : Op.bytesLess (str l).toList (str m).toList = ltN l m := by
  rw [ByteArray.toList_eq, ByteArray.toList_eq]
  exact less_mapN l m hl hm
/-- the halves of a split -/
structure Halves (p a b : Pg) (k : List Nat) : Prop where
  ca : checkE a = 0
  cb : checkE b = 0
  la : a.leaf = p.leaf
  lb : b.leaf = p.leaf
  na : 0 < a.keys.length
  nb : 0 < b.keys.length
  kl : k.length ≤ 256
  mg : mergeP a k b = p
  last : ltN (a.keys.getD (a.keys.length - 1) []) k = true
  first : (p.leaf = true → b.keys.getD 0 [] = k) ∧ (p.leaf = false → ltN k (b.keys.getD 0 []) = true)
theorem halves {p : Pg} {m : Nat} (hp : checkE p = 0) (hs : SplitAt p m) : Halves p (partP p 0 m) (partP p (m + offP p) p.keys.length) (p.keys.getD m []) := by
  obtain ⟨h1, h2⟩ := hs
  have hsr := check_srt hp
  have l1 : (partP p 0 m).keys.length = m := by rw [part_len (by omega)]; omega
  have l2 : (partP p (m + offP p) p.keys.length).keys.length = p.keys.length - (m + offP p) := part_len (Nat.le_refl _)
  refine ⟨part_check hp (by omega) (by omega), part_check hp h2 (Nat.le_refl _), part_leaf .., part_leaf .., by omega, by omega, key_short hp (by omega), ?_, ?_, fun hl => ?_, fun hl => ?_⟩
  · rw [part_merge hp (by omega) (by omega) (Nat.le_refl _), part_all hp]
  · rw [l1, part_key (by omega), Nat.zero_add]
    exact srt_getD hsr (by omega) (by omega)
  · rw [part_key (by omega)]
    unfold offP
    rw [if_pos hl]
    rfl
  · rw [part_key (by omega)]
    unfold offP at h2 ⊢
    rw [if_neg (by rw [hl]; decide)] at h2 ⊢
    exact srt_getD hsr (by omega) (by omega)
end Go.Proofs.Ytebikoekpbnpbaa
