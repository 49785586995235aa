/- CB CD NA -/
import Derived.Test.YtebikoekpbnpbaaCA
import Derived.Deep.QuietTactic
import Derived.BigQuiet
import Derived.Deep.RegionWith
import Derived.Test.YtebikoekpbnpbaaCMath2
import Derived.Maps.AppendAt
import Derived.Laws.OwnMore
/- contracts: the cursor -/
namespace Go.Proofs.Ytebikoekpbnpbaa
open Go.RowKit Cod
set_option maxRecDepth 40000
theorem grown_trans {a b c : World} {g : Nat} (h : a.grownBy b (some g)) (k : b.grownBy c (some g)) : a.grownBy c (some g) :=
  ⟨k.os.trans h.os, k.tape.trans h.tape, k.output.trans h.output, Nat.le_trans h.size k.size, fun i hi hne => (k.block i (Nat.lt_of_lt_of_le hi h.size) hne).trans (h.block i hi hne)⟩
theorem grown_drewN {a b : World} {r : Option Nat} (h : a.grownBy b r) (n : Nat) : a.grownBy (b.drewN n) r := ⟨h.os, h.tape, h.output, h.size, h.block⟩
theorem grown_drew {a b : World} {r : Option Nat} (h : a.grownBy b r) : a.grownBy b.drew r := ⟨h.os, h.tape, h.output, h.size, h.block⟩
theorem grown_set {a b : World} {g j : Nat} (h : a.grownBy b (some g)) (v : Value) : a.grownBy (b.setCell ⟨g, j, none⟩ v) (some g) :=
  grown_trans h ⟨rfl, rfl, rfl, by simp [World.setCell], fun i _ hne => Below.heap_setCell _ _ _ _ (fun e => hne (by rw [e]))⟩
theorem grown_any {a b : World} {g : Nat} (h : a.grownBy b none) : a.grownBy b (some g) := ⟨h.os, h.tape, h.output, h.size, fun k hk _ => h.block k hk (by simp)⟩
theorem IsB.kept {w w' : World} {a : Option Addr} {len cap : Nat} {l : List Nat} {g : Nat} (h : IsB w a len cap l) (hg : w.grownBy w' (some g)) (hne : ∀ b off, a = some ⟨b, off, none⟩ → 0 < len → b ≠ g) : IsB w' a len cap l := by
  obtain ⟨h1, h2, h3, h4, h5⟩ := h
  refine ⟨h1, h2, h3, h4, ?_⟩
  rcases h5 with h5 | ⟨b, off, rfl, hlt, hc⟩
  · exact .inl h5
  · by_cases h0 : len = 0
    · exact .inl ⟨h0, by intro h; cases h⟩
    · exact .inr ⟨b, off, rfl, Nat.lt_of_lt_of_le hlt hg.size, fun i hi => hg.cell (hc i hi) (by have := hne b off rfl (by omega); simpa using this)⟩
/-- a cursor at block g, over the bytes l, at place p -/
structure Cur (w : World) (g : Nat) (a : Option Addr) (len cap : Nat) (l : List Nat) (p : Nat) : Prop where
  c0 : w.cell? ⟨g, 0, none⟩ = some (.slice a len cap)
  c1 : w.cell? ⟨g, 1, none⟩ = some (.int .i64 (p : Nat))
  fr : w.frozen? ⟨g, 1, none⟩ = false
  isb : IsB w a len cap l
  ne : ∀ b off, a = some ⟨b, off, none⟩ → 0 < len → b ≠ g
  le : p ≤ len
theorem Cur.lt {w : World} {g : Nat} {a : Option Addr} {len cap : Nat} {l : List Nat} {p : Nat} (h : Cur w g a len cap l p) : g < w.heap.size := block_lt_of_cell h.c0
theorem Cur.drewN {w : World} {g : Nat} {a : Option Addr} {len cap : Nat} {l : List Nat} {p : Nat} (h : Cur w g a len cap l p) (n : Nat) : Cur (w.drewN n) g a len cap l p :=
  ⟨h.c0, h.c1, h.fr, h.isb.kept (g := g) (grown_drewN (World.grownBy.refl _ _) n) h.ne, h.ne, h.le⟩
theorem Cur.kept {w w' : World} {g : Nat} {a : Option Addr} {len cap : Nat} {l : List Nat} {p : Nat} (h : Cur w g a len cap l p) (hg : w.grownBy w' none) : Cur w' g a len cap l p :=
  ⟨hg.cell h.c0 (by simp), hg.cell h.c1 (by simp), (World.frozen?_of_block (hg.block g h.lt (by simp))).trans h.fr, h.isb.kept (grown_any hg) h.ne, h.ne, h.le⟩
theorem Cur.set {w : World} {g : Nat} {a : Option Addr} {len cap : Nat} {l : List Nat} {p : Nat} (h : Cur w g a len cap l p) (q : Nat) (hq : q ≤ len) : Cur (w.setCell ⟨g, 1, none⟩ (.int .i64 (q : Nat))) g a len cap l q := by
  have hb : w.grownBy (w.setCell ⟨g, 1, none⟩ (.int .i64 (q : Nat))) (some g) := grown_set (World.grownBy.refl _ _) _
  refine ⟨?_, ?_, ?_, h.isb.kept hb h.ne, h.ne, hq⟩
  · rw [World.cell?_setCell_other (h := by simp)]; exact h.c0
  · exact World.cell?_setCell_same w ⟨g, 1, none⟩ _ h.c1
  · have := h.fr; simpa using this
theorem Cur.byte {w : World} {g : Nat} {a : Option Addr} {len cap : Nat} {l : List Nat} {p : Nat} (h : Cur w g a len cap l p) (hp : p < len) : ∃ b off, a = some ⟨b, off, none⟩ ∧ w.cell? ⟨b, off + p, none⟩ = some (.int .u8 (l.getD p 0 : Nat)) := by
  obtain ⟨h1, h2, h3, h4, h5⟩ := h.isb
  rcases h5 with ⟨h5, _⟩ | ⟨b, off, rfl, hlt, hc⟩
  · omega
  · exact ⟨b, off, rfl, hc p hp⟩
theorem Row.set_far {w : World} {q len cap : Nat} {m : List Nat} {g j : Nat} {v : Value} (h : Row w q len cap m) (hne : q ≠ g) : Row (w.setCell ⟨g, j, none⟩ v) q len cap m := by
  obtain ⟨h1, h2, h3, cur, h4, h5, h6⟩ := h
  exact ⟨h1, h2, h3, cur, by rw [Below.heap_setCell _ _ _ _ hne]; exact h4, h5, h6⟩
set_option maxHeartbeats 400000 in
theorem take_zero (w : World) (g : Nat) (a : Option Addr) (len cap : Nat) (l : List Nat) (p : Nat) (h : Cur w g a len cap l p) :
    Calls Try.prog 107 #[.pointer (some ⟨g, 0, none⟩), .int .i64 0] w fun e w' => ∃ q, e = .returned (.tuple #[.slice (some ⟨q, 0, none⟩) 0 0, .bool true]) ∧ w.heap.size ≤ q ∧ Row w' q 0 0 [] ∧ Cur w' g a len cap l p ∧ w.grownBy w' (some g) := by
  have hlc : len ≤ cap := h.isb.2.1
  have hcm : cap ≤ 9223372036854775807 := h.isb.2.2.1
  have hle := h.le
  have c0 := h.c0
  have c1 := h.c1
  have hd : decide ((len : Int) - (p : Int) < 0) = false := by simp; omega
  have hmk : ∀ W : World, (Instr.makeSlice 26 (.int .i64 0) (.int .i64 0)).run Try.prog W = .ok (.slice (some ⟨W.heap.size, 0, none⟩) 0 0) (W.alloc (.cells (zeros 0).toArray 5)) := fun W => run_mk W 0 0 (Nat.le_refl _) (by omega)
  have hsz : (Try.prog.info? 5).map (·.size) = some 1 := by kernel_rfl
  have hcp := fun (W : World) (d a : Option Addr) (s c : Nat) => run_copy_none (P := Try.prog) W 26 26 3 5 d a 0 0 s c Try.underlying26 hsz (by simp)
  clear hsz
  have H := hide h
  clear h
  go_enter Try.func107, Try.ntmps107
  go_wp2
  go_quiet (fail)
  go_wp2
  have hq : ((w.drewN nq).alloc (.cells (zeros 0).toArray 5)).heap[w.heap.size]? = some (.cells (zeros 0).toArray 5 (0, 0)) := heap_alloc_new (w.drewN nq) _
  have hgr : w.grownBy ((w.drewN nq).alloc (.cells (zeros 0).toArray 5)) none := ⟨rfl, rfl, rfl, by simp, fun k hk _ => Below.heap_alloc _ _ _ hk⟩
  have hcur := H.out.kept hgr
  generalize (w.drewN nq).alloc (.cells (zeros 0).toArray 5) = W0 at *
  have e0 := hcur.c0
  have e1 := hcur.c1
  have fr := hcur.fr
  have H1 := hide hcur
  have HG := hide hgr
  have HQ := hide hq
  have hgs : g < w.heap.size := H.out.lt
  clear hcur hgr hq H c0 c1 hmk
  by_cases hcp0 : cap = p <;> cases a <;>
    (go_region
     go_wp2
     go_ret2
     refine ⟨_, rfl, Nat.le_refl _, ?_, (H1.out.drewN 1).set p hle, grown_set (grown_any (grown_drew HG.out)) _⟩
     exact Row.set_far (w := W0.drew) ⟨rfl, Nat.le_refl _, Nat.zero_le _, _, HQ.out, by simp [zeros], by simp [bv]⟩ (by omega))
end Go.Proofs.Ytebikoekpbnpbaa
/- contracts: ReadNum, ReadInt, ReadText -/
namespace Go.Proofs.Ytebikoekpbnpbaa
open Go.RowKit Cod
set_option maxRecDepth 40000
theorem Row.kept {w w' : World} {q len cap : Nat} {m : List Nat} {r : Option Nat} (h : Row w q len cap m) (hg : w.grownBy w' r) (hne : some q ≠ r) : Row w' q len cap m := by
  have hlt := h.lt
  obtain ⟨h1, h2, h3, cur, h4, h5, h6⟩ := h
  exact ⟨h1, h2, h3, cur, by rw [hg.block q hlt hne]; exact h4, h5, h6⟩
/-- a fresh cursor over an argument -/
theorem Cur.new {w : World} {a : Option Addr} {len cap : Nat} {l : List Nat} (h : IsB w a len cap l) : Cur (w.alloc (.cells #[.slice a len cap, .int .i64 0] 109)) w.heap.size a len cap l 0 := by
  have hn := heap_alloc_new w (.cells #[.slice a len cap, .int .i64 0] 109)
  refine ⟨?_, ?_, ?_, h.below ((Below.refl _ _).alloc (Nat.le_refl _) _), ?_, Nat.zero_le _⟩
  · rw [World.cell?_alloc_new]; rfl
  · rw [World.cell?_alloc_new]; rfl
  · unfold World.frozen?; rw [hn]; rfl
  · intro b off hb hlen
    rcases h.2.2.2.2 with ⟨h0, _⟩ | ⟨b', off', hb', hlt, _⟩
    · omega
    · rw [hb] at hb'; cases hb'; omega
/-- a number read as a whole one -/
def zag (n : Nat) : Int := if n % 2 = 1 then -1 - (n / 2 : Nat) else (n / 2 : Nat)
end Go.Proofs.Ytebikoekpbnpbaa
/- lists of bytes, numbers and pages in memory -/
namespace Go.Proofs.Ytebikoekpbnpbaa
open Go.RowKit Cod
set_option maxRecDepth 40000
set_option linter.unusedVariables false
set_option linter.unusedSimpArgs false
theorem wrapN {n : Int} (h0 : 0 ≤ n) (h1 : n ≤ 9223372036854775807) : IntKind.i64.wrap n = n := by rw [IntKind.wrap_i64]; omega
theorem cell_blkN {w : World} {g : Nat} {cs : Array Value} {t : TypeId} {f : Nat × Nat} (h : w.heap[g]? = some (.cells cs t f)) {j : Nat} {u : Value} (hj : cs[j]? = some u) : w.cell? ⟨g, j, none⟩ = some u := by
  simp [World.cell?, h, hj]
theorem heap_ltN {w : World} {g : Nat} {o : Obj} (h : w.heap[g]? = some o) : g < w.heap.size := (Array.getElem?_eq_some_iff.1 h).1
theorem own_formN {w : World} {base e size n : Nat} {v : Value} {xs : List Value} (h : w.ownsRow base e size v n xs) : ∃ a c, v = .slice a n c := by
  rcases h.2 with ⟨rfl, rfl⟩ | ⟨g, cap, cur, rfl, _⟩
  · exact ⟨none, 0, rfl⟩
  · exact ⟨_, cap, rfl⟩
/-- a list of slices of bytes in memory -/
def IsL (w : World) (a : Option Addr) (n c : Nat) (L : List (List Nat)) : Prop :=
  L.length = n ∧ n ≤ c ∧ c ≤ maxLen ∧ (a = none → c = 0) ∧ ∀ i, i < n → ∃ b off a' n' c', a = some ⟨b, off, none⟩ ∧ b < w.heap.size ∧ w.cell? ⟨b, off + i, none⟩ = some (.slice a' n' c') ∧ IsB w a' n' c' (L.getD i [])
theorem IsL.below {w w' : World} {a : Option Addr} {n c : Nat} {L : List (List Nat)} (h : IsL w a n c L) (hb : Below w.heap.size w w') : IsL w' a n c L := by
  refine ⟨h.1, h.2.1, h.2.2.1, h.2.2.2.1, fun i hi => ?_⟩
  obtain ⟨b, off, a', n', c', e, hlt, h0, h1⟩ := h.2.2.2.2 i hi
  exact ⟨b, off, a', n', c', e, Nat.lt_of_lt_of_le hlt hb.size, (World.cell?_of_block (hb.block b hlt)).trans h0, h1.below hb⟩
/-- numbers in memory -/
def i64B (t : Int) : Prop := -9223372036854775808 ≤ t ∧ t ≤ 9223372036854775807
def IsK (w : World) (a : Option Addr) (n c : Nat) (l : List Int) : Prop :=
  l.length = n ∧ n ≤ c ∧ c ≤ maxLen ∧ (a = none → c = 0) ∧ ∀ i, i < n → i64B (l.getD i 0) ∧ ∃ b off, a = some ⟨b, off, none⟩ ∧ b < w.heap.size ∧ w.cell? ⟨b, off + i, none⟩ = some (.int .i64 (l.getD i 0))
theorem IsK.below {w w' : World} {a : Option Addr} {n c : Nat} {l : List Int} (h : IsK w a n c l) (hb : Below w.heap.size w w') : IsK w' a n c l := by
  refine ⟨h.1, h.2.1, h.2.2.1, h.2.2.2.1, fun i hi => ?_⟩
  obtain ⟨ht, b, off, e, hlt, h0⟩ := h.2.2.2.2 i hi
  exact ⟨ht, b, off, e, Nat.lt_of_lt_of_le hlt hb.size, (World.cell?_of_block (hb.block b hlt)).trans h0⟩
theorem isL_nil (w : World) : IsL w none 0 0 [] := ⟨rfl, Nat.le_refl _, Nat.zero_le _, fun _ => rfl, fun _ hi => absurd hi (Nat.not_lt_zero _)⟩
theorem isK_nil (w : World) : IsK w none 0 0 [] := ⟨rfl, Nat.le_refl _, Nat.zero_le _, fun _ => rfl, fun _ hi => absurd hi (Nat.not_lt_zero _)⟩
/-- a page -/
structure Pg where
  leaf : Bool
  keys : List (List Nat)
  vals : List (List Nat)
  kids : List Int
def Pg0 : Pg := ⟨false, [], [], []⟩
/-- where a page's lists lie -/
structure Pv where
  ka : Option Addr
  kn : Nat
  kc : Nat
  va : Option Addr
  vn : Nat
  vc : Nat
  ia : Option Addr
  inn : Nat
  ic : Nat
abbrev pgc (b : Bool) (v : Pv) : Array Value := #[.bool b, .slice v.ka v.kn v.kc, .slice v.va v.vn v.vc, .slice v.ia v.inn v.ic]
/-- a page in memory -/
structure IsG (w : World) (v : Pv) (p : Pg) : Prop where
  keys : IsL w v.ka v.kn v.kc p.keys
  vals : IsL w v.va v.vn v.vc p.vals
  kids : IsK w v.ia v.inn v.ic p.kids
theorem IsG.below {w w' : World} {v : Pv} {p : Pg} (h : IsG w v p) (hb : Below w.heap.size w w') : IsG w' v p := ⟨h.keys.below hb, h.vals.below hb, h.kids.below hb⟩
/-- a page's own block -/
abbrev BlkG (w : World) (g : Nat) (b : Bool) (v : Pv) : Prop := w.heap[g]? = some (.cells (pgc b v) 25 (0, 0))
theorem BlkG.cells {w : World} {g : Nat} {b : Bool} {v : Pv} (h : BlkG w g b v) : w.cell? ⟨g, 0, none⟩ = some (.bool b) ∧ w.cell? ⟨g, 1, none⟩ = some (.slice v.ka v.kn v.kc) ∧ w.cell? ⟨g, 2, none⟩ = some (.slice v.va v.vn v.vc) ∧ w.cell? ⟨g, 3, none⟩ = some (.slice v.ia v.inn v.ic) :=
  ⟨cell_blkN h rfl, cell_blkN h rfl, cell_blkN h rfl, cell_blkN h rfl⟩
/-- how many bytes a number has -/
def nLen (n : Nat) : Nat := (num n).length
theorem nLen_le {n : Nat} (h : n < 18446744073709551616) : nLen n ≤ 10 := num_len10 h
def bSize (b : List Nat) : Nat := nLen b.length + b.length
def sumB (l : List (List Nat)) : Nat := (l.map bSize).sum
def sumK (l : List Int) : Nat := (l.map (fun k => nLen k.toNat)).sum
/-- how great a page is -/
def sizeP (p : Pg) : Nat := 1 + nLen p.keys.length + 4 + sumB p.keys + sumB p.vals + sumK p.kids
/-- '<' of bytes -/
def ltN : List Nat → List Nat → Bool
  | _, [] => false
  | [], _ :: _ => true
  | x :: r, y :: s => decide (x < y) || (decide (x = y) && ltN r s)
def shortB (most : Nat) (l : List (List Nat)) : Bool := l.all (fun b => decide (b.length ≤ most))
def riseAt (l : List (List Nat)) (i : Nat) : Bool := decide (i = 0) || ltN (l.getD (i - 1) []) (l.getD i [])
def riseB (l : List (List Nat)) : Bool := (List.range l.length).all (riseAt l)
def keysB (l : List (List Nat)) : Bool := riseB l && shortB 256 l
def kidsB (l : List Int) : Bool := l.all (fun k => decide (1 ≤ k ∧ k < 1024))
def leafB (p : Pg) : Bool := p.leaf && decide (p.vals.length = p.keys.length) && decide (p.kids.length = 0) && keysB p.keys && shortB 512 p.vals
def innerB (p : Pg) : Bool := !p.leaf && decide (0 < p.keys.length) && decide (p.kids.length = p.keys.length + 1) && decide (p.vals.length = 0) && keysB p.keys && kidsB p.kids
/-- why a page is not right -/
def checkE (p : Pg) : Int := if leafB p = true ∨ innerB p = true then (if 4096 < sizeP p then 7 else 0) else 2
end Go.Proofs.Ytebikoekpbnpbaa
