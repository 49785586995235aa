/- J Qx Rx Xx Yx -/
import Derived.Shelf.SlGeneric
import Derived.Shelf.SlIterI.Nil
import Derived.Shelf.SortM.Plain
import Derived.Shelf.SortM.SortNone
import Derived.Ground.GgzProg
import Derived.Ground.SlgmProg
import Derived.Test.YteckglnfkgfefaaRows
import Derived.Test.YteckglnfkgfefaaPx
import Derived.Lib.SlKeysI
import Derived.Deep.RegionHeld
/-
  DERIVED: THE SHELF's CONTRACTS AT THIS DUMP, IN PLAIN WORDS (tools/lay-plain.mjs out of 'YteckglnfkgfefaaJ0.lean', which tools/lay-shelf.mjs wrote): THE SAME DECLARATIONS UNDER THE SAME NAMES: 'import', 'namespace', 'open', 'def', 'theorem' AND NOTHING ELSE: no command of the shelf's: FOR A HAND-IN. Each laying: the table of numbers ('.._ren') and one theorem, a field a fact of the dump's own or the kernel's comparison; each contract: ONE APPLICATION.
-/
namespace Go.Proofs
open Go.Shelf
def Try.keysA_ren : Go.Shelf.Ren := ⟨fun | 7 => 75 | 10 => 88 | n => n, fun | 23 => 74 | 26 => 3 | 3 => 34 | 28 => 119 | 0 => 0 | 27 => 118 | 33 => 122 | 4 => 4 | n => n, fun | n => n⟩
def Try.sortedA_ren : Go.Shelf.Ren := ⟨fun | 6 => 74 | 8 => 86 | 9 => 87 | 11 => 93 | 13 => 95 | 12 => 94 | 23 => 108 | 24 => 109 | 14 => 99 | 15 => 100 | 16 => 101 | 17 => 102 | 18 => 103 | 19 => 104 | 20 => 105 | 21 => 106 | 22 => 107 | 25 => 111 | 26 => 112 | 27 => 113 | 28 => 114 | 29 => 115 | 30 => 116 | 31 => 117 | n => n, fun | 26 => 3 | 28 => 119 | 24 => 88 | 0 => 0 | 3 => 3 | 37 => 110 | 48 => 99 | 50 => 23 | 4 => 4 | 40 => 143 | 39 => 142 | 45 => 148 | 5 => 5 | 9 => 9 | 51 => 151 | 55 => 154 | 57 => 156 | 58 => 157 | 33 => 122 | n => n, fun | n => n⟩
def Try.sortA_ren : Go.Shelf.Ren := ⟨fun | 5 => 87 | 8 => 95 | 7 => 94 | 19 => 108 | 20 => 109 | 10 => 99 | 11 => 100 | 12 => 101 | 13 => 102 | 14 => 103 | 15 => 104 | 16 => 105 | 17 => 106 | 18 => 107 | 30 => 111 | 31 => 112 | 32 => 113 | 33 => 114 | 34 => 115 | 35 => 116 | 40 => 117 | n => n, fun | 23 => 88 | 25 => 3 | 3 => 3 | 32 => 110 | 22 => 88 | 0 => 0 | 44 => 99 | 46 => 23 | 4 => 4 | 36 => 143 | 35 => 142 | 41 => 148 | 5 => 5 | 9 => 9 | 53 => 151 | 57 => 154 | 63 => 156 | 64 => 157 | n => n, fun | n => n⟩
end Go.Proofs
/- contracts: Unsynced -/
namespace Go.Proofs.Yteckglnfkgfefaa
open Go.RowKit Go.Maps Go.Sort Go.Shelf
variable {X : Nat → Prop}
def St.uns (st : St) (n : Nat) : List Nat := (List.range n).filter (fun k => (st.fr k).isSome)
def St.unsI (st : St) (n : Nat) : List Int := (st.uns n).map (fun k : Nat => (k : Int))
end Go.Proofs.Yteckglnfkgfefaa
/- contracts: what a round of Restore reads -/
namespace Go.Proofs.Yteckglnfkgfefaa
open Go.RowKit
open Go.ChangeMaps (setBlock)
open Go.Maps (Keyed has size)
variable {X : Nat → Prop}
def St.back (st : St) : St := { st with fr := fun _ => none, arm := false, left := 0, down := false }
theorem IsD.same {w : World} {g gs b n : Nat} {st : St} (h : IsD X w g gs b n st) {k : Nat} {v : Value} (hk : k < n) (hD : Dat X w v (st.syn k)) : IsD X (w.setCell ⟨gs, k, none⟩ v) g gs b n st := by
  obtain ⟨n1, n2, n3⟩ := h.ne
  obtain ⟨cur, hc, hsz, hd⟩ := h.syn
  obtain ⟨m, D, hown, hm, hfr⟩ := h.map
  have hK : K5 w (w.setCell ⟨gs, k, none⟩ v) := fun j cur' m' hj => by
    have hne : j ≠ gs := by rintro rfl; rw [hc] at hj; simp at hj
    exact (Below.heap_setCell _ _ _ _ hne).trans hj
  refine ⟨h.n0, h.n1, (Below.heap_setCell _ _ _ _ n1).trans h.blk, ⟨cur.setIfInBounds k v, blk_set hc _, hsz.set hk, fun i hi => ?_⟩, ⟨m, D, ?_, hm, hfr.kept hK⟩, h.wr, h.left, fun i hi => by have := h.xb i hi; simpa [World.setCell] using this⟩
  · by_cases hik : i = k
    · subst hik
      exact ⟨v, by simp [hsz.lt hi], hD.kept hK⟩
    · obtain ⟨u, hu, hdu⟩ := hd i hi
      exact ⟨u, by simp [Ne.symm hik, hu], hdu.kept hK⟩
  · obtain ⟨es, clock, hb, rest⟩ := hown
    exact ⟨es, clock, (Below.heap_setCell _ _ _ _ (Ne.symm n3)).trans hb, rest⟩
/-- the list of the sectors that are unsynced, in memory -/
def IsU (w : World) (base : Nat) (a : Option Addr) (l : List Nat) : Prop := ∀ i, i < l.length → ∃ q, a = some ⟨q, 0, none⟩ ∧ base ≤ q ∧ q < w.heap.size ∧ ∃ x, l[i]? = some x ∧ w.cell? ⟨q, i, none⟩ = some (.int .i64 (x : Nat))
theorem IsU.frm {w w' : World} {base : Nat} {a : Option Addr} {l : List Nat} {g gs b : Nat} (h : IsU w base a l) (hf : Frm (SD g gs b) w w') (hs : g < base ∧ gs < base ∧ b < base) : IsU w' base a l := by
  intro i hi
  obtain ⟨q, e, hq, hlt, x, hx, hc⟩ := h i hi
  refine ⟨q, e, hq, Nat.lt_of_lt_of_le hlt hf.size, x, hx, ?_⟩
  rw [World.cell?_of_block (hf.block q hlt (by rintro (rfl | rfl | rfl) <;> omega))]
  exact hc
end Go.Proofs.Yteckglnfkgfefaa
/- contracts: fates -/
namespace Go.Proofs.Yteckglnfkgfefaa
open Go.RowKit
/-- fates in memory: kind and mask -/
def IsF (w : World) (a : Option Addr) (len cap : Nat) (l : List (Nat × Nat)) : Prop :=
  l.length = len ∧ len ≤ cap ∧ cap ≤ maxLen ∧ (∀ x ∈ l, x.1 < 256 ∧ x.2 < 256) ∧ ∀ i, i < len → ∃ b off, a = some ⟨b, off, none⟩ ∧ b < w.heap.size ∧ w.cell? ⟨b, off + i * 2, none⟩ = some (.int .u8 ((l.getD i (0, 0)).1 : Nat)) ∧ w.cell? ⟨b, off + i * 2 + 1, none⟩ = some (.int .u8 ((l.getD i (0, 0)).2 : Nat))
theorem IsF.below {w w' : World} {a : Option Addr} {len cap : Nat} {l : List (Nat × Nat)} (h : IsF w a len cap l) (hb : Below w.heap.size w w') : IsF w' a len cap l := by
  refine ⟨h.1, h.2.1, h.2.2.1, h.2.2.2.1, fun i hi => ?_⟩
  obtain ⟨b, off, e, hlt, h1, h2⟩ := h.2.2.2.2 i hi
  exact ⟨b, off, e, Nat.lt_of_lt_of_le hlt hb.size, (World.cell?_of_block (hb.block b hlt)).trans h1, (World.cell?_of_block (hb.block b hlt)).trans h2⟩
/-- fates that are good ones -/
def GoodF (l : List (Nat × Nat)) : Prop := ∀ x ∈ l, x.1 < 3
end Go.Proofs.Yteckglnfkgfefaa
/- contracts: torn -/
namespace Go.Proofs.Yteckglnfkgfefaa
open Go.RowKit
variable {X : Nat → Prop}
/-- bytes of a row put over another's -/
def patch (m m2 : List Nat) (f G : Nat) : List Nat := m.take f ++ (m2.drop f).take G ++ m.drop (f + G)
/-- whether grain k is torn anew -/
def bitB (mask k : Nat) : Bool := bits BinOp.and IntKind.u8 ((mask : Int) / 2 ^ k) 1 == 1
def tornK (mask : Nat) (m m2 : List Nat) : Nat → List Nat
  | 0 => m
  | k + 1 => if bitB mask k = true then patch (tornK mask m m2 k) m2 (k * 512) 512 else tornK mask m m2 k
def outL (k m : Nat) (lo lf : List Nat) : List Nat := if k = 1 then lf else if k = 2 then tornK m (full lo) (full lf) 8 else lo
end Go.Proofs.Yteckglnfkgfefaa
