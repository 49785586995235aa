/- PB MG -/
import Derived.Test.YtebikoekpbnpbaaLawFound
import Derived.Test.YtebikoekpbnpbaaNQ
import Derived.Test.YtebikoekpbnpbaaMF
import Derived.Test.YtebikoekpbnpbaaMD
/- a page that a call answers, laid into a box that is made ahead of it or behind it -/
namespace Go.Proofs.Ytebikoekpbnpbaa
open Go.RowKit Cod
set_option maxRecDepth 100000
set_option linter.unusedVariables false
set_option linter.unusedSimpArgs false
theorem hTwo {P : Program} {ops : Array Oper} {Q : Exit → Act → World → Prop} {md : Region.Mode} {S : World → Prop} {i j : Nat} {o o' : Oper} {fuel : Nat} {listed : Array Bool} {a : Act} {w : World} (ho : ops[i]? = some o) (ho' : ops[j]? = some o') (hr : Region.ready md ops listed = [i, j])
    (h : ∀ K' : Act → World → Prop, Shut (∀ a w, S w → (S w → wpAnyH P md ops Q S fuel (listed.setIfInBounds i true) a w) → K' a w) → if Region.wanted o (yielded ops a.tmps) = true then Oper.wp P o a w K' Q else K' (a.put o.dst undef) w)
    (h' : ∀ K' : Act → World → Prop, Shut (∀ a w, S w → (S w → wpAnyH P md ops Q S fuel (listed.setIfInBounds j true) a w) → K' a w) → if Region.wanted o' (yielded ops a.tmps) = true then Oper.wp P o' a w K' Q else K' (a.put o'.dst undef) w) : wpAnyH P md ops Q S (fuel + 1) listed a w :=
  wpAnyH_ready hr (by simp) (AllReadyH.cons ho h (AllReadyH.cons ho' h' AllReadyH.nil))
structure Boxed (wr W : World) (G bx : Nat) (lf : Bool) (v : Pv) (p : Pg) : Prop where
  blk : BlkG W bx lf v
  nw : NwG W G v p
  bel : Below wr.heap.size wr W
  low : wr.heap.size ≤ bx
end Go.Proofs.Ytebikoekpbnpbaa
/- Split and Merge, as laws ask them; strings in order -/
namespace Go.Proofs.Ytebikoekpbnpbaa
open Go.RowKit Cod
set_option maxRecDepth 100000
set_option linter.unusedVariables false
set_option linter.unusedSimpArgs false
theorem splitE_0 {p : Pg} (h : splitE p = 0) : checkE p = 0 ∧ (p.leaf = true → 2 ≤ p.keys.length) ∧ (p.leaf = false → 3 ≤ p.keys.length) := by
  unfold splitE at h
  by_cases hc : checkE p = 0
  · rw [if_pos hc] at h
    refine ⟨hc, fun hl => ?_, fun hl => ?_⟩
    · rw [if_pos hl] at h
      by_cases h2 : p.keys.length < 2
      · rw [if_pos h2] at h; cases h
      · omega
    · rw [hl, if_neg (show ¬ false = true by decide)] at h
      by_cases h2 : p.keys.length < 3
      · rw [if_pos h2] at h; cases h
      · omega
  · rw [if_neg hc] at h
    exact absurd h hc
theorem split_yes (v : Pv) (p : Pg) (w : World) (h : IsG w v p) (hc : FewP v) (hE : splitE p = 0) :
    Calls Try.prog 29 #[.agg (pgc p.leaf v)] w fun e w' => ∃ (m : Nat) (v1 v2 : Pv) (xa : Option Addr) (xc : Nat), e = .returned (.tuple #[.agg (pgc p.leaf v1), .slice xa (p.keys.getD m []).length xc, .agg (pgc p.leaf v2), .int .i64 0]) ∧ SplitAt p m ∧ NwG w' (w.heap.size + 2) v1 (partP p 0 m) ∧ NwG w' (w.heap.size + 2) v2 (partP p (m + offP p) p.keys.length) ∧ IsB w' xa (p.keys.getD m []).length xc (p.keys.getD m []) ∧ (∀ b off, xa = some ⟨b, off, none⟩ → w.heap.size + 2 < b ∧ FzB w' b) ∧ Below w.heap.size w w' := by
  obtain ⟨hce, h2, h3⟩ := splitE_0 hE
  have hkn : p.keys.length = v.kn := h.keys.1
  cases hl : p.leaf with
  | true =>
    have h2' := h2 hl
    refine (splitL_any v p w h (by omega) (leafE_of hce hl) hc).mono ?_
    rintro e w' ⟨k, v1, v2, xa, xc, rfl, hk, n1, n2, hB, hF, hb⟩
    have e0 : offP p = 0 := by unfold offP; rw [if_pos hl]
    have e1 : ∀ f t, partP p f t = lpP p f t := fun f t => by unfold partP; rw [if_pos hl]
    refine ⟨1 + k, v1, v2, xa, xc, rfl, ⟨by omega, by rw [e0]; omega⟩, ?_, ?_, hB, hF, hb⟩
    · rw [e1]; exact n1
    · rw [e1, e0, hkn]; exact n2
  | false =>
    have h3' := h3 hl
    refine (splitI_any v p w h (by omega) hce hl hc).mono ?_
    rintro e w' ⟨v1, v2, xa, xc, rfl, n1, n2, hB, hF, hb⟩
    have e0 : offP p = 1 := by unfold offP; rw [if_neg (by rw [hl]; decide)]
    have e1 : ∀ f t, partP p f t = ipP p f t := fun f t => by unfold partP; rw [if_neg (by rw [hl]; decide)]
    refine ⟨v.kn / 2, v1, v2, xa, xc, rfl, ⟨by omega, by rw [e0]; omega⟩, ?_, ?_, hB, hF, hb⟩
    · rw [e1]; exact n1
    · rw [e1, e0, hkn]; exact n2
theorem less_mapN (l : List Nat) : ∀ m : List Nat, (∀ x ∈ l, x < 256) → (∀ x ∈ m, x < 256) → Op.bytesLess (l.map UInt8.ofNat) (m.map UInt8.ofNat) = ltN l m := by
  induction l with
  | nil =>
    intro m _ _
    cases m with
    | nil => rfl
    | cons y s => rfl
  | cons x r ih =>
    intro m hl hm
    cases m with
    | nil => rfl
    | cons y s =>
      have hx : x < 256 := hl x (List.mem_cons_self ..)
      have hy : y < 256 := hm y (List.mem_cons_self ..)
      have i0 := ih s (fun z hz => hl z (List.mem_cons_of_mem _ hz)) (fun z hz => hm z (List.mem_cons_of_mem _ hz))
      rw [List.map_cons, List.map_cons, Op.bytesLess, ltN, i0]
      have e1 : (UInt8.ofNat x < UInt8.ofNat y) ↔ x < y := by
        rw [UInt8.lt_iff_toNat_lt]; simp; omega
      have e2 : (UInt8.ofNat x == UInt8.ofNat y) = decide (x = y) := by
        rw [Bool.eq_iff_iff]
        simp only [beq_iff_eq, decide_eq_true_eq]
        constructor
        · intro h
          have := congrArg UInt8.toNat h
          simp at this; omega
        · intro h; rw [h]
      simp only [e1, e2]
theorem less_strN {l m : List Nat} (hl : ∀ x ∈ l, x < 256) (hm : ∀ x ∈ m, x < 256) : Op.bytesLess (str l).toList (str m).toList = ltN l m := by
  rw [ByteArray.toList_eq, ByteArray.toList_eq]
  exact less_mapN l m hl hm
/-- the halves of a split -/
structure Halves (p a b : Pg) (k : List Nat) : Prop where
  ca : checkE a = 0
  cb : checkE b = 0
  la : a.leaf = p.leaf
  lb : b.leaf = p.leaf
  na : 0 < a.keys.length
  nb : 0 < b.keys.length
  kl : k.length ≤ 256
  mg : mergeP a k b = p
  last : ltN (a.keys.getD (a.keys.length - 1) []) k = true
  first : (p.leaf = true → b.keys.getD 0 [] = k) ∧ (p.leaf = false → ltN k (b.keys.getD 0 []) = true)
theorem halves {p : Pg} {m : Nat} (hp : checkE p = 0) (hs : SplitAt p m) : Halves p (partP p 0 m) (partP p (m + offP p) p.keys.length) (p.keys.getD m []) := by
  obtain ⟨h1, h2⟩ := hs
  have hsr := check_srt hp
  have l1 : (partP p 0 m).keys.length = m := by rw [part_len (by omega)]; omega
  have l2 : (partP p (m + offP p) p.keys.length).keys.length = p.keys.length - (m + offP p) := part_len (Nat.le_refl _)
  refine ⟨part_check hp (by omega) (by omega), part_check hp h2 (Nat.le_refl _), part_leaf .., part_leaf .., by omega, by omega, key_short hp (by omega), ?_, ?_, fun hl => ?_, fun hl => ?_⟩
  · rw [part_merge hp (by omega) (by omega) (Nat.le_refl _), part_all hp]
  · rw [l1, part_key (by omega), Nat.zero_add]
    exact srt_getD hsr (by omega) (by omega)
  · rw [part_key (by omega)]
    unfold offP
    rw [if_pos hl]
    rfl
  · rw [part_key (by omega)]
    unfold offP at h2 ⊢
    rw [if_neg (by rw [hl]; decide)] at h2 ⊢
    exact srt_getD hsr (by omega) (by omega)
end Go.Proofs.Ytebikoekpbnpbaa
