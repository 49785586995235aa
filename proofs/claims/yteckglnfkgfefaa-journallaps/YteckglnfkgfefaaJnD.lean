/- JnD JnF JnH -/
import Derived.Test.YteckglnfkgfefaaJnC
import Derived.Lib.AppendZeros
import Derived.ArgAppend
/- the document's little -/
namespace Go.Proofs.Yteckglnfkgfefaa
open Go.RowKit
set_option maxRecDepth 40000
/-- n in i bytes, the lowest first -/
def leB (n : Nat) : Nat → List Nat
  | 0 => []
  | i + 1 => leB n i ++ [n / 2 ^ (8 * i) % 256]
theorem leB_length (n i : Nat) : (leB n i).length = i := by
  induction i with
  | zero => rfl
  | succ i ih => simp [leB, ih]
end Go.Proofs.Yteckglnfkgfefaa
/- the document's sector, as bytes; literals as own rows -/
namespace Go.Proofs.Yteckglnfkgfefaa
open Go.RowKit
set_option maxRecDepth 40000
/-- what lies behind the checksum -/
def secB (l : List Nat) (s i n : Nat) : List Nat := leB (s + i) 8 ++ leB s 8 ++ leB n 4 ++ leB l.length 4 ++ l ++ List.replicate (4064 - l.length) 0
def markL : List Nat := [76, 68, 78, 71]
/-- the document's sector, as bytes -/
def rsecL (l : List Nat) (s i n : Nat) : List Nat := markL ++ leB (Crc.update 0 (markL ++ [0, 0, 0, 0] ++ secB l s i n)) 4 ++ secB l s i n
theorem own_below {w w' : World} {base : Nat} {v : Value} {n : Nat} {l : List Value} (h : w.ownsRow base 5 1 v n l) (hb : Below w.heap.size w w') : w'.ownsRow base 5 1 v n l :=
  h.kept (row := none) ⟨hb.os, hb.tape, hb.output, hb.size, fun k hk _ => hb.block k hk⟩ (by cases hv : v.ownBlock <;> simp)
theorem own_isB {w : World} {base : Nat} {v : Value} {n : Nat} {l : List Nat} (h : w.ownsRow base 5 1 v n (bv l)) (hl : ∀ x ∈ l, x < 256) (hn : 0 < n) : ∃ g cap, v = .slice (some ⟨g, 0, none⟩) n cap ∧ base ≤ g ∧ IsB w (some ⟨g, 0, none⟩) n cap l := by
  obtain ⟨g, cap, rfl, hb, hr⟩ := Row.of_owns h hn
  exact ⟨g, cap, rfl, hb, hr.isB hl⟩
end Go.Proofs.Yteckglnfkgfefaa
/- the program's sector is the document's -/
namespace Go.Proofs.Yteckglnfkgfefaa
open Go.RowKit
set_option maxRecDepth 40000
theorem putN_eq (m : List Nat) (off n i : Nat) (h : off + i ≤ m.length) : putN m off n i = m.take off ++ (leB n i ++ m.drop (off + i)) := by
  induction i with
  | zero => simp [putN, leB]
  | succ i ih =>
    rw [putN, ih (by omega), leB]
    have hd : m.drop (off + i) = m.getD (off + i) 0 :: m.drop (off + (i + 1)) := drop_cons m (off + i) (by omega)
    have h1 : (m.take off).length = off := by simp; omega
    rw [List.set_append_right _ _ (by omega), h1, Nat.add_sub_cancel_left, List.set_append_right _ _ (by rw [leB_length]; exact Nat.le_refl _), leB_length, Nat.sub_self, hd, List.set_cons_zero]
    simp
theorem put_mid (A Z B : List Nat) (off n k : Nat) (ha : A.length = off) (hz : Z.length = k) : putN (A ++ (Z ++ B)) off n k = A ++ (leB n k ++ B) := by
  rw [putN_eq _ _ _ _ (by simp; omega), List.take_left' ha, ← List.append_assoc A Z B, List.drop_left' (by simp; omega)]
theorem splice_mid (A Z B cs : List Nat) (off : Nat) (ha : A.length = off) (hz : Z.length = cs.length) : splice (A ++ (Z ++ B)) off cs = A ++ (cs ++ B) := by
  rw [splice, List.take_left' ha, ← List.append_assoc A Z B, List.drop_left' (by simp; omega)]
theorem rep_split (r k : Nat) (h : k ≤ r) : List.replicate r (0 : Nat) = List.replicate k 0 ++ List.replicate (r - k) 0 := by
  rw [List.replicate_append_replicate]; congr 1; omega
theorem put_rep (A : List Nat) (off n k r : Nat) (ha : A.length = off) (hk : k ≤ r) : putN (A ++ List.replicate r 0) off n k = (A ++ leB n k) ++ List.replicate (r - k) 0 := by
  rw [rep_split r k hk, put_mid A _ _ off n k ha (List.length_replicate), List.append_assoc]
theorem splice_rep (A cs : List Nat) (off r : Nat) (ha : A.length = off) (hk : cs.length ≤ r) : splice (A ++ List.replicate r 0) off cs = (A ++ cs) ++ List.replicate (r - cs.length) 0 := by
  rw [rep_split r cs.length hk, splice_mid A _ _ cs off ha (List.length_replicate), List.append_assoc]
theorem secH_eq (l : List Nat) (hl : l.length ≤ 4064) (s i n : Nat) : secH l s i n = markL ++ [0, 0, 0, 0] ++ secB l s i n := by
  have h0 : splice (List.replicate 4096 0) 0 [76, 68, 78, 71] = (markL ++ [0, 0, 0, 0]) ++ List.replicate 4088 0 := by
    have := splice_rep [] [76, 68, 78, 71] 0 4096 rfl (by simp)
    rw [List.nil_append] at this
    rw [this, List.nil_append, show 4096 - [76, 68, 78, 71].length = 4092 from rfl, rep_split 4092 4 (by omega), ← List.append_assoc]
    rfl
  rw [secH, h0, put_rep _ 8 _ 8 4088 rfl (by omega), put_rep _ 16 _ 8 _ (by simp [leB_length, markL]) (by omega), put_rep _ 24 _ 4 _ (by simp [leB_length, markL]) (by omega), put_rep _ 28 _ 4 _ (by simp [leB_length, markL]) (by omega), splice_rep _ l 32 _ (by simp [leB_length, markL]) (by omega)]
  simp only [secB, List.append_assoc]
theorem secL_eq (l : List Nat) (hl : l.length ≤ 4064) (s i n : Nat) : secL l s i n = rsecL l s i n := by
  rw [secL, secH_eq l hl, rsecL]
  generalize Crc.update 0 (markL ++ [0, 0, 0, 0] ++ secB l s i n) = c
  rw [List.append_assoc, put_mid markL [0, 0, 0, 0] _ 4 c 4 rfl rfl, List.append_assoc]
end Go.Proofs.Yteckglnfkgfefaa
