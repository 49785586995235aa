/- paysOf -/
import Derived.Test.YtffhkljegopjmaaDoorGF
import Derived.OwnWalk
import Derived.Shelf.Abstract
namespace Go.Proofs.YtffhkljegopjmaaDoor.Lg
open Go.RowKit
set_option maxRecDepth 40000
/-- one posting more -/
def stepR (A : List Py) (x : Pg) : Option (List Py) := if postB x = true then (if beyB (behR (A.getD x.o.toNat Py0) x) = true then none else some (A.set x.o.toNat (behR (A.getD x.o.toNat Py0) x))) else none
def foldR : List Pg → List Py → Option (List Py)
  | [], A => some A
  | x :: r, A => match stepR A x with
    | none => none
    | some B => foldR r B
theorem foldR_append : ∀ (xs ys : List Pg) (A : List Py), foldR (xs ++ ys) A = (foldR xs A).bind (foldR ys)
  | [], _, _ => rfl
  | x :: r, ys, A => by
    simp only [List.cons_append, foldR]
    cases stepR A x with
    | none => rfl
    | some B => exact foldR_append r ys B
/-- the pays that postings come to -/
def paysR (ps : List Pg) : Option (List Py) :=
  if ps.length ≤ 16384 then (foldR ps (List.replicate 1025 Py0)).bind (fun A => if (A.filter (fun x => !noneB x)).any owesB = true then none else some (A.filter (fun x => !noneB x))) else none
/-- no amount goes round -/
def inB (x : Py) : Prop := i64B x.o ∧ (-1152921504606846976 ≤ x.op ∧ x.op ≤ 1152921504606846976) ∧ (0 ≤ x.ca ∧ x.ca ≤ 1152921504606846976) ∧ (0 ≤ x.re ∧ x.re ≤ 1152921504606846976)
theorem inB_beh {p : Py} {x : Pg} (hp : inB p) (hx : postB x = true) (hb : beyB (behR p x) = false) : inB (behR p x) := by
  simp only [postB, Bool.and_eq_true, ordB, amtB, decide_eq_true_eq] at hx
  simp only [beyB, decide_eq_false_iff_not] at hb
  unfold inB i64B at *
  unfold behR at *
  dsimp only at *
  split at hb <;> split at hb <;> simp_all <;> omega
theorem inB_small {p : Py} (h : inB p) : SmallP p := by
  unfold inB at h
  unfold SmallP SmallN
  omega
theorem inB_ok {p : Py} (h : inB p) : okP p := by
  unfold inB i64B at h
  unfold okP i64B
  omega
/-- what paysOf answers -/
def PaysP (ps : List Pg) (w : World) (e : Ending) (w' : World) : Prop :=
  (∃ b m c P, e = .returned (.tuple #[.slice b m c, .bool true]) ∧ paysR ps = some P ∧ IsP w' b m c P ∧ Below w.heap.size w w') ∨ (e = .returned (.tuple #[.slice none 0 0, .bool false]) ∧ paysR ps = none ∧ Below w.heap.size w w')
theorem info30 : (Tryd.prog.info? 47).map (fun i => (i.zero, i.size, i.bytes)) = some (some (vp Py0), 4, 32) := by kernel_rfl
theorem info_partsC {i? : Option TypeInfo} {z : Option Value} {s b : Nat} (h : i?.map (fun i => (i.zero, i.size, i.bytes)) = some (z, s, b)) : ∃ i, i? = some i ∧ i.zero = z ∧ i.size = s ∧ i.bytes = b := by
  cases i? with
  | none => cases h
  | some i => simp at h; exact ⟨i, rfl, h.1, h.2.1, h.2.2⟩
theorem made_list (a b c d : Value) : ∀ n, (madeCells #[a, b, c, d] (n * 4)).toList = (List.replicate n ()).flatMap (fun _ => [a, b, c, d])
  | 0 => by simp [madeCells]
  | n + 1 => by
    have h := made_list a b c d n
    rw [List.replicate_succ', List.flatMap_append, ← h]
    simp only [madeCells, Array.toList_map, Array.toList_range, Nat.succ_mul, List.range_add, List.map_append, List.map_map]
    congr 1
    simp [List.range_succ, Nat.add_mod]
theorem rep_flat {α β : Type} (f : α → List β) (x : α) : ∀ n, (List.replicate n x).flatMap f = (List.replicate n ()).flatMap (fun _ => f x)
  | 0 => rfl
  | n + 1 => by
    simp only [List.replicate_succ, List.flatMap_cons]
    rw [rep_flat f x n]
theorem vp0 : (vp Py0).cells = #[(pyc Py0)[0]!, (pyc Py0)[1]!, (pyc Py0)[2]!, (pyc Py0)[3]!] := by rfl
theorem pyc0 : pyc Py0 = [(pyc Py0)[0]!, (pyc Py0)[1]!, (pyc Py0)[2]!, (pyc Py0)[3]!] := by rfl
theorem made_row {w : World} {base q n : Nat} (h : w.ownsRow base 47 4 (.slice (some ⟨q, 0, none⟩) n n) n (madeCells (vp Py0).cells (n * 4)).toList) : RowP w q (List.replicate n Py0) := by
  rcases h.2 with ⟨h0, _⟩ | ⟨g, cap, cur, he, hb, hg, hn, hm, hs, ht⟩
  · cases h0
  · cases he
    unfold RowP
    rw [hg]
    have hl : cur.toList = ((List.replicate n Py0).flatMap pyc) := by
      have h1 : cur.toList = cur.toList.take (n * 4) := by rw [List.take_of_length_le (by rw [Array.length_toList, hs]; exact Nat.le_refl _)]
      rw [h1, ht, vp0, made_list, rep_flat pyc Py0 n]
      rfl
    rw [← hl]
end Go.Proofs.YtffhkljegopjmaaDoor.Lg
