/- CMath CK -/
import Derived.RowKit3
import Derived.Test.YtebikoekpbnpbaaRows
import Derived.WalkKit
import Derived.WalkSpells
import Derived.WalkLawsBesides
import Derived.Outline
import Derived.Laws.CopyOwn
import Derived.Laws.AppendOwnNone
import Derived.Deep.DeepAppendRoom
import Derived.OpenShut
import Derived.Deep.QuietTactic
import Derived.BigQuiet
import Derived.Lib.SlBytesConst
import Derived.Laws.BytesArg
/- what the bytes of numbers, texts and entries are, as lists -/
namespace Cod
/-- a number's bytes -/
def num (n : Nat) : List Nat := if h : n < 128 then [n] else (n % 128 + 128) :: num (n / 128)
theorem num_small {n : Nat} (h : n < 128) : num n = [n] := by rw [num, dif_pos h]
theorem num_great {n : Nat} (h : 128 ≤ n) : num n = (n % 128 + 128) :: num (n / 128) := by rw [num, dif_neg (by omega)]
theorem num_lt (n : Nat) : ∀ x ∈ num n, x < 256 := by
  induction n using Nat.strongRecOn with
  | ind n ih =>
    intro x hx
    by_cases h : n < 128
    · rw [num_small h] at hx; simp at hx; omega
    · rw [num_great (by omega)] at hx
      rcases List.mem_cons.1 hx with rfl | hx
      · omega
      · exact ih (n / 128) (by omega) x hx
theorem num_ne (n : Nat) : num n ≠ [] := by
  by_cases h : n < 128
  · rw [num_small h]; simp
  · rw [num_great (by omega)]; simp
/-- reading a number, from the group i on, acc being what the groups ahead say -/
def rd : Nat → Nat → List Nat → Option (Nat × List Nat)
  | _, _, [] => none
  | i, acc, x :: t =>
    if 10 ≤ i then none else
    if i = 9 ∧ 1 < x % 128 then none else
    if x < 128 then (if x = 0 ∧ 0 < i then none else some (acc + x % 128 * 128 ^ i, t))
    else rd (i + 1) (acc + x % 128 * 128 ^ i) t
def rdNum (l : List Nat) : Option (Nat × List Nat) := rd 0 0 l
/-- a text's bytes -/
def text (s : List Nat) : List Nat := num s.length ++ s
/-- reading a text of so many bytes at most: its bytes and what is behind, or the error -/
def rdText (most : Nat) (l : List Nat) : Except Nat (List Nat × List Nat) :=
  match rdNum l with
  | none => .error 6
  | some (n, r) => if most < n then .error 4 else if r.length < n then .error 6 else .ok (r.take n, r.drop n)
end Cod
/- bytes in memory: the kit of this seat -/
namespace Go.Proofs.Ytebikoekpbnpbaa
open Go.RowKit
set_option maxRecDepth 40000
theorem hide {p : Prop} (h : p) : Hid p := h
/-- a slice of bytes reads as l -/
def IsB (w : World) (a : Option Addr) (len cap : Nat) (l : List Nat) : Prop :=
  l.length = len ∧ len ≤ cap ∧ cap ≤ maxLen ∧ (∀ x ∈ l, x < 256) ∧ (len = 0 ∧ (a = none → cap = 0) ∨ ∃ b off, a = some ⟨b, off, none⟩ ∧ b < w.heap.size ∧ ∀ i, i < len → w.cell? ⟨b, off + i, none⟩ = some (.int .u8 (l.getD i 0 : Nat)))
theorem getD_lt (l : List Nat) (k : Nat) (hx : ∀ x ∈ l, x < 256) : l.getD k 0 < 256 := by
  rw [List.getD_eq_getElem?_getD]
  by_cases h : k < l.length
  · rw [List.getElem?_eq_getElem h]; exact hx _ (List.getElem_mem h)
  · rw [List.getElem?_eq_none (by omega)]; decide
theorem mem_take {l : List Nat} {k : Nat} (hx : ∀ x ∈ l, x < 256) : ∀ x ∈ l.take k, x < 256 := fun x h => hx x (List.mem_of_mem_take h)
def bv (l : List Nat) : List Value := l.map fun x => Value.int .u8 (x : Nat)
theorem bv_length (l : List Nat) : (bv l).length = l.length := by simp [bv]
theorem bv_append (l m : List Nat) : bv (l ++ m) = bv l ++ bv m := by simp [bv]
theorem bv_get (l : List Nat) (i : Nat) (h : i < l.length) : (bv l)[i]? = some (.int .u8 (l.getD i 0 : Nat)) := by
  simp [bv, List.getElem?_eq_getElem h]
theorem bv_one (l : List Nat) : ∀ u ∈ bv l, u.oneCell' = true := by
  intro u hu; simp only [bv, List.mem_map] at hu; obtain ⟨x, _, rfl⟩ := hu; rfl
theorem owns_isB {w : World} {base : Nat} {v : Value} {n : Nat} {l : List Nat} (h : w.ownsRow base 5 1 v n (bv l)) (hl : ∀ x ∈ l, x < 256) :
    ∃ a cap, v = .slice a n cap ∧ IsB w a n cap l := by
  obtain ⟨h1, h2⟩ := h
  rw [bv_length, Nat.mul_one] at h1
  rcases h2 with ⟨rfl, rfl⟩ | ⟨g, cap, cur, rfl, hb, hg, hn, hc, hs, ht⟩
  · exact ⟨none, 0, rfl, h1, Nat.le_refl _, Nat.zero_le _, hl, .inl ⟨rfl, fun _ => rfl⟩⟩
  · refine ⟨_, cap, rfl, h1, hn, hc, hl, .inr ⟨g, 0, rfl, ?_, ?_⟩⟩
    · by_cases h : g < w.heap.size
      · exact h
      · rw [Array.getElem?_eq_none (by omega)] at hg; cases hg
    · intro i hi
      have hv := bv_get l i (by omega)
      rw [← ht, List.getElem?_take, if_pos (by omega)] at hv
      simp only [World.cell?, hg]
      simpa using hv
theorem Try.info5 : (Try.prog.info? 5).map (fun i => (i.zero, i.size, i.bytes)) = some (some (.int .u8 0), 1, 1) := by kernel_rfl
def zeros (n : Nat) : List Value := List.replicate n (.int .u8 0)
theorem zeros_made (n : Nat) : madeCells #[Value.int .u8 0] n = (zeros n).toArray := by
  simp [madeCells, zeros, Nat.mod_one, Array.ext_iff]
theorem run_mk (W : World) (n m : Nat) (h : n ≤ m) (hb : m ≤ 281474976710656) :
    (Instr.makeSlice 26 (.int .i64 (n : Int)) (.int .i64 (m : Int))).run Try.prog W = .ok (.slice (some ⟨W.heap.size, 0, none⟩) n m) (W.alloc (.cells (zeros m).toArray 5)) := by
  obtain ⟨i0, hi, hz0, hz1, hz2⟩ := info_parts Try.info5
  have hr := run_make (P := Try.prog) W 26 5 i0 _ Try.underlying26 hi hz0 .i64 .i64 (n : Int) (m : Int) (by omega) (by omega) (by rw [hz2]; omega) (by omega)
  rw [hr, hz1]
  simp only [Int.toNat_natCast, Nat.mul_one]
  rw [show (Value.int IntKind.u8 0).cells = #[Value.int .u8 0] from rfl, zeros_made]
theorem IsB.below {w w1 : World} {a : Option Addr} {len cap : Nat} {l : List Nat} (h : IsB w a len cap l) (hb : Below w.heap.size w w1) : IsB w1 a len cap l := by
  obtain ⟨h1, h2, h3, h4, h5⟩ := h
  refine ⟨h1, h2, h3, h4, ?_⟩
  rcases h5 with h5 | ⟨b, off, rfl, hlt, hc⟩
  · exact .inl h5
  · exact .inr ⟨b, off, rfl, Nat.lt_of_lt_of_le hlt hb.size, fun i hi => (hb.cell (p := ⟨b, off + i, none⟩) hlt).trans (hc i hi)⟩
theorem setRow_alloc (W : World) (cs ds : Array Value) (t : TypeId) : (W.alloc (.cells cs t)).setRow W.heap.size ds = W.alloc (.cells ds t) := by
  simp only [World.setRow, World.alloc]
  congr 1
  apply Array.ext_getElem?
  intro i
  rw [Array.getElem?_modify]
  by_cases h : W.heap.size = i
  · subst h; simp
  · simp [Array.getElem?_push, h, Ne.symm h]
theorem addr_add (b off j : Nat) : (⟨b, off, none⟩ : Addr).add j = ⟨b, off + j, none⟩ := by
  unfold Addr.add; by_cases h : j = 0 <;> simp [h]
theorem isB_nil (w : World) : IsB w none 0 0 [] := ⟨rfl, Nat.le_refl _, Nat.zero_le _, by simp, .inl ⟨rfl, fun _ => rfl⟩⟩
/-- append(own, b...), b whatever came in -/
theorem wpList_clone {w : World} {ops : Array Oper} {rest : List Oper} {o : Oper} {a : Act} {Q : Exit → Act → World → Prop} (hgd : o.guard = none) (s x : Operand)
    (ho : o.op = .call { callee := .builtin .append, args := #[s, x], argTypes := #[26, 26] }) (base : Nat) (v : Value) (n : Nat) (xs : List Value) (hs : a.eval s = v) (hown : w.ownsRow base 5 1 v n xs)
    (src : Option Addr) (len cap : Nat) (l : List Nat) (hx : a.eval x = .slice src len cap) (hB : IsB w src len cap l) (hb : n + len ≤ 140737488355328) (hbase : base ≤ w.heap.size)
    (B : Nat) (w0 : World) (hbel : Below B w0 w) (hB0 : B ≤ base)
    (h : ∀ v' w', w'.ownsRow base 5 1 v' (n + len) (xs ++ bv l) → Below B w0 w' → wpList Try.prog ops Q rest (a.put o.dst v') w') : wpList Try.prog ops Q (o :: rest) a w := by
  obtain ⟨i0, hi, hz0, hz1, hz2⟩ := info_parts Try.info5
  obtain ⟨h1, h2, h3, h4, h5⟩ := id hB
  have key : ∀ ad : Addr, src = some ad → (∀ j u, (bv l)[j]? = some u → w.cell? (ad.add j) = some u) → wpList Try.prog ops Q (o :: rest) a w := by
    intro ad had hsrc
    refine wpList_append_own w hgd s x 26 ho base 5 i0 (.int .u8 0) 1 1 Try.underlying26 hi hz0 hz1 hz2 rfl (by decide) v n xs hs hown ad len cap (bv l) (by rw [hx, had]) (by rw [bv_length, h1]; omega) hsrc (bv_one l) (by unfold maxLen; omega) (by omega) hbase ?_
    intro v' w' ho' hg _
    refine h v' w' ho' (hbel.grown hg (by omega) ?_)
    intro k hk
    have := (hown.lt k hk).1
    omega
  rcases h5 with ⟨h5, h6⟩ | ⟨b, off, rfl, hlt, hc⟩
  · subst h5
    obtain rfl : l = [] := List.length_eq_zero_iff.1 h1
    cases src with
    | none =>
      obtain rfl := h6 rfl
      refine wpList_append_own_none hgd s x 26 ho base 5 i0 1 Try.underlying26 hi v n xs hs hown hx ?_
      exact h v w (by simpa [bv] using hown) hbel
    | some ad => exact key ad rfl (by simp [bv])
  · refine key _ rfl ?_
    intro j u hj
    have hjl : j < l.length := by
      rw [← bv_length]
      exact (List.getElem?_eq_some_iff.1 hj).1
    rw [bv_get l j hjl] at hj
    cases hj
    rw [addr_add]
    exact hc j (by omega)
theorem owns_empty (w : World) (base : Nat) (h : base ≤ w.heap.size) : (w.alloc (.cells #[] 5)).ownsRow base 5 1 (.slice (some ⟨w.heap.size, 0, none⟩) 0 0) 0 [] :=
  World.ownsRow_made w #[] 0 h (Nat.zero_le _) rfl
theorem IsB.front {w : World} {b off len cap : Nat} {l : List Nat} (h : IsB w (some ⟨b, off, none⟩) len cap l) (n : Nat) (hn : n ≤ len) : IsB w (some ⟨b, off, none⟩) n cap (l.take n) := by
  obtain ⟨h1, h2, h3, h4, h5⟩ := h
  refine ⟨by simp; omega, by omega, h3, mem_take h4, ?_⟩
  rcases h5 with ⟨h5, _⟩ | ⟨b', off', e, hlt, hc⟩
  · exact .inl ⟨by omega, by intro h; cases h⟩
  · cases e
    refine .inr ⟨b, off, rfl, hlt, fun i hi => ?_⟩
    rw [hc i (by omega)]
    simp [List.getD_eq_getElem?_getD, hi]
theorem IsB.src {w : World} {b off len cap : Nat} {l : List Nat} (h : IsB w (some ⟨b, off, none⟩) len cap l) : ∀ j u, (bv l)[j]? = some u → w.cell? ((⟨b, off, none⟩ : Addr).add j) = some u := by
  obtain ⟨h1, h2, h3, h4, h5⟩ := h
  intro j u hj
  have hjl : j < l.length := by
    rw [← bv_length]
    exact (List.getElem?_eq_some_iff.1 hj).1
  rw [bv_get l j hjl] at hj
  cases hj
  rcases h5 with ⟨h5, _⟩ | ⟨b', off', e, hlt, hc⟩
  · omega
  · cases e
    rw [addr_add]
    exact hc j (by omega)
def str (l : List Nat) : ByteArray := ⟨(l.map UInt8.ofNat).toArray⟩
theorem strOf (l : List Nat) : strOfNums (l.map fun x => ((x : Nat) : Int)) = str l := by
  simp [strOfNums, str, List.map_map, Function.comp_def]
theorem conv_str {w : World} {a : Option Addr} {len cap : Nat} {l : List Nat} (h : IsB w a len cap l) : (convert 26 9 (.slice a len cap)).run Try.prog w = .ok (.string (str l)) w := by
  obtain ⟨h1, h2, h3, h4, h5⟩ := h
  rcases h5 with ⟨h5, _⟩ | ⟨b, off, rfl, hlt, hc⟩
  · subst h5
    obtain rfl : l = [] := List.length_eq_zero_iff.1 h1
    cases a with
    | none => exact run_convert_bytes_nil w 26 5 Try.underlying26 Try.underlying5 0 cap 9 Try.underlying9
    | some x =>
      have hl : (loadCells x 0).run Try.prog w = .ok (([] : List Int).map (Value.int .u8)).toArray w := by simpa using run_loadCells_list (P := Try.prog) w x [] (by simp)
      rw [run_convert_bytes_string w 26 9 5 _ 0 cap Try.underlying26 Try.underlying5 Try.underlying9, run_bytesToString w _ 0 cap [] hl]
      rfl
  · have := run_convert_bytes_arg (P := Try.prog) w 26 5 Try.underlying26 Try.underlying5 b off len cap (l.map fun x => ((x : Nat) : Int)) (by simpa using h1) (fun i hi => by
      rw [hc i hi]
      have : i < l.length := by omega
      simp [List.getD_eq_getElem?_getD, List.getElem?_eq_getElem this]) 9 Try.underlying9
    rw [strOf] at this
    exact this
def Row (w : World) (g len cap : Nat) (m : List Nat) : Prop :=
  m.length = len ∧ len ≤ cap ∧ cap ≤ maxLen ∧ ∃ cur : Array Value, w.heap[g]? = some (.cells cur 5 (0, 0)) ∧ cur.size = cap ∧ cur.toList.take len = bv m
theorem Row.lt {w : World} {g len cap : Nat} {m : List Nat} (h : Row w g len cap m) : g < w.heap.size := by
  obtain ⟨_, _, _, cur, hg, _⟩ := h
  by_cases h : g < w.heap.size
  · exact h
  · rw [Array.getElem?_eq_none (by omega)] at hg; cases hg
theorem Row.cell {w : World} {g len cap : Nat} {m : List Nat} (h : Row w g len cap m) {j : Nat} (hj : j < len) : w.cell? ⟨g, j, none⟩ = some (.int .u8 (m.getD j 0 : Nat)) := by
  obtain ⟨h1, h2, h3, cur, hg, hs, ht⟩ := h
  have hv := bv_get m j (by omega)
  rw [← ht, List.getElem?_take, if_pos (by omega)] at hv
  simp only [World.cell?, hg]
  simpa using hv
theorem Row.frozen {w : World} {g len cap : Nat} {m : List Nat} (h : Row w g len cap m) (j : Nat) : w.frozen? ⟨g, j, none⟩ = false := by
  obtain ⟨h1, h2, h3, cur, hg, hs, ht⟩ := h
  simp [World.frozen?, hg]
theorem Row.set {w : World} {g len cap : Nat} {m : List Nat} (h : Row w g len cap m) (j : Nat) (x : Nat) : Row (w.setCell ⟨g, j, none⟩ (.int .u8 (x : Nat))) g len cap (m.set j x) := by
  obtain ⟨h1, h2, h3, cur, hg, hs, ht⟩ := h
  refine ⟨by simpa using h1, h2, h3, cur.setIfInBounds j (.int .u8 (x : Nat)), ?_, by simpa using hs, ?_⟩
  · simp [World.setCell, Array.getElem?_modify, hg]
  · simp only [Array.toList_setIfInBounds, List.take_set, ht]
    simp [bv, List.map_set]
theorem Row.below {B : Nat} {w w1 : World} {g len cap : Nat} {m : List Nat} (h : Row w g len cap m) (hb : Below B w w1) (hg : g < B) : Row w1 g len cap m := by
  obtain ⟨h1, h2, h3, cur, hg', hs, ht⟩ := h
  exact ⟨h1, h2, h3, cur, by rw [hb.block g hg]; exact hg', hs, ht⟩
end Go.Proofs.Ytebikoekpbnpbaa
