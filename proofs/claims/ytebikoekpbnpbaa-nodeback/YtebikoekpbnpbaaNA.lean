/- lists of bytes, numbers and pages in memory -/
import Derived.Test.YtebikoekpbnpbaaCD
import Derived.Test.YtebikoekpbnpbaaCMath2
import Derived.Maps.AppendAt
import Derived.Laws.OwnMore
namespace Go.Proofs.Ytebikoekpbnpbaa
open Go.RowKit Cod
set_option maxRecDepth 40000
set_option linter.unusedVariables false
set_option linter.unusedSimpArgs false
theorem wrapN {n : Int} (h0 : 0 ≤ n) (h1 : n ≤ 9223372036854775807) : IntKind.i64.wrap n = n := by rw [IntKind.wrap_i64]; omega
theorem cell_blkN {w : World} {g : Nat} {cs : Array Value} {t : TypeId} {f : Nat × Nat} (h : w.heap[g]? = some (.cells cs t f)) {j : Nat} {u : Value} (hj : cs[j]? = some u) : w.cell? ⟨g, j, none⟩ = some u := by
  simp [World.cell?, h, hj]
theorem heap_ltN {w : World} {g : Nat} {o : Obj} (h : w.heap[g]? = some o) : g < w.heap.size := (Array.getElem?_eq_some_iff.1 h).1
theorem own_formN {w : World} {base e size n : Nat} {v : Value} {xs : List Value} (h : w.ownsRow base e size v n xs) : ∃ a c, v = .slice a n c := by
  rcases h.2 with ⟨rfl, rfl⟩ | ⟨g, cap, cur, rfl, _⟩
  · exact ⟨none, 0, rfl⟩
  · exact ⟨_, cap, rfl⟩
/-- a list of slices of bytes in memory -/
def IsL (w : World) (a : Option Addr) (n c : Nat) (L : List (List Nat)) : Prop :=
  L.length = n ∧ n ≤ c ∧ c ≤ maxLen ∧ (a = none → c = 0) ∧ ∀ i, i < n → ∃ b off a' n' c', a = some ⟨b, off, none⟩ ∧ b < w.heap.size ∧ w.cell? ⟨b, off + i, none⟩ = some (.slice a' n' c') ∧ IsB w a' n' c' (L.getD i [])
theorem IsL.below {w w' : World} {a : Option Addr} {n c : Nat} {L : List (List Nat)} (h : IsL w a n c L) (hb : Below w.heap.size w w') : IsL w' a n c L := by
  refine ⟨h.1, h.2.1, h.2.2.1, h.2.2.2.1, fun i hi => ?_⟩
  obtain ⟨b, off, a', n', c', e, hlt, h0, h1⟩ := h.2.2.2.2 i hi
  exact ⟨b, off, a', n', c', e, Nat.lt_of_lt_of_le hlt hb.size, (World.cell?_of_block (hb.block b hlt)).trans h0, h1.below hb⟩
/-- numbers in memory -/
def i64B (t : Int) : Prop := -9223372036854775808 ≤ t ∧ t ≤ 9223372036854775807
def IsK (w : World) (a : Option Addr) (n c : Nat) (l : List Int) : Prop :=
  l.length = n ∧ n ≤ c ∧ c ≤ maxLen ∧ (a = none → c = 0) ∧ ∀ i, i < n → i64B (l.getD i 0) ∧ ∃ b off, a = some ⟨b, off, none⟩ ∧ b < w.heap.size ∧ w.cell? ⟨b, off + i, none⟩ = some (.int .i64 (l.getD i 0))
theorem IsK.below {w w' : World} {a : Option Addr} {n c : Nat} {l : List Int} (h : IsK w a n c l) (hb : Below w.heap.size w w') : IsK w' a n c l := by
  refine ⟨h.1, h.2.1, h.2.2.1, h.2.2.2.1, fun i hi => ?_⟩
  obtain ⟨ht, b, off, e, hlt, h0⟩ := h.2.2.2.2 i hi
  exact ⟨ht, b, off, e, Nat.lt_of_lt_of_le hlt hb.size, (World.cell?_of_block (hb.block b hlt)).trans h0⟩
theorem isL_nil (w : World) : IsL w none 0 0 [] := ⟨rfl, Nat.le_refl _, Nat.zero_le _, fun _ => rfl, fun _ hi => absurd hi (Nat.not_lt_zero _)⟩
theorem isK_nil (w : World) : IsK w none 0 0 [] := ⟨rfl, Nat.le_refl _, Nat.zero_le _, fun _ => rfl, fun _ hi => absurd hi (Nat.not_lt_zero _)⟩
/-- a page -/
structure Pg where
  leaf : Bool
  keys : List (List Nat)
  vals : List (List Nat)
  kids : List Int
def Pg0 : Pg := ⟨false, [], [], []⟩
/-- where a page's lists lie -/
structure Pv where
  ka : Option Addr
  kn : Nat
  kc : Nat
  va : Option Addr
  vn : Nat
  vc : Nat
  ia : Option Addr
  inn : Nat
  ic : Nat
abbrev pgc (b : Bool) (v : Pv) : Array Value := #[.bool b, .slice v.ka v.kn v.kc, .slice v.va v.vn v.vc, .slice v.ia v.inn v.ic]
/-- a page in memory -/
structure IsG (w : World) (v : Pv) (p : Pg) : Prop where
  keys : IsL w v.ka v.kn v.kc p.keys
  vals : IsL w v.va v.vn v.vc p.vals
  kids : IsK w v.ia v.inn v.ic p.kids
theorem IsG.below {w w' : World} {v : Pv} {p : Pg} (h : IsG w v p) (hb : Below w.heap.size w w') : IsG w' v p := ⟨h.keys.below hb, h.vals.below hb, h.kids.below hb⟩
/-- a page's own block -/
abbrev BlkG (w : World) (g : Nat) (b : Bool) (v : Pv) : Prop := w.heap[g]? = some (.cells (pgc b v) 25 (0, 0))
theorem BlkG.cells {w : World} {g : Nat} {b : Bool} {v : Pv} (h : BlkG w g b v) : w.cell? ⟨g, 0, none⟩ = some (.bool b) ∧ w.cell? ⟨g, 1, none⟩ = some (.slice v.ka v.kn v.kc) ∧ w.cell? ⟨g, 2, none⟩ = some (.slice v.va v.vn v.vc) ∧ w.cell? ⟨g, 3, none⟩ = some (.slice v.ia v.inn v.ic) :=
  ⟨cell_blkN h rfl, cell_blkN h rfl, cell_blkN h rfl, cell_blkN h rfl⟩
/-- how many bytes a number has -/
def nLen (n : Nat) : Nat := (num n).length
theorem nLen_le {n : Nat} (h : n < 18446744073709551616) : nLen n ≤ 10 := num_len10 h
def bSize (b : List Nat) : Nat := nLen b.length + b.length
def sumB (l : List (List Nat)) : Nat := (l.map bSize).sum
def sumK (l : List Int) : Nat := (l.map (fun k => nLen k.toNat)).sum
/-- how great a page is -/
def sizeP (p : Pg) : Nat := 1 + nLen p.keys.length + 4 + sumB p.keys + sumB p.vals + sumK p.kids
/-- '<' of bytes -/
def ltN : List Nat → List Nat → Bool
  | _, [] => false
  | [], _ :: _ => true
  | x :: r, y :: s => decide (x < y) || (decide (x = y) && ltN r s)
def shortB (most : Nat) (l : List (List Nat)) : Bool := l.all (fun b => decide (b.length ≤ most))
def riseAt (l : List (List Nat)) (i : Nat) : Bool := decide (i = 0) || ltN (l.getD (i - 1) []) (l.getD i [])
def riseB (l : List (List Nat)) : Bool := (List.range l.length).all (riseAt l)
def keysB (l : List (List Nat)) : Bool := riseB l && shortB 256 l
def kidsB (l : List Int) : Bool := l.all (fun k => decide (1 ≤ k ∧ k < 1024))
def leafB (p : Pg) : Bool := p.leaf && decide (p.vals.length = p.keys.length) && decide (p.kids.length = 0) && keysB p.keys && shortB 512 p.vals
def innerB (p : Pg) : Bool := !p.leaf && decide (0 < p.keys.length) && decide (p.kids.length = p.keys.length + 1) && decide (p.vals.length = 0) && keysB p.keys && kidsB p.kids
/-- why a page is not right -/
def checkE (p : Pg) : Int := if leafB p = true ∨ innerB p = true then (if 4096 < sizeP p then 7 else 0) else 2
end Go.Proofs.Ytebikoekpbnpbaa
