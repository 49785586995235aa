/- MA MB MC NW -/
import Derived.Test.YtebikoekpbnpbaaNQ
import Derived.Laws.AppendOwnNone
import Derived.Lib.AppendZeros
import Derived.Test.YtebikoekpbnpbaaNT
import Derived.Test.YtebikoekpbnpbaaNN
/- rows of one-cell values: what is appended, grown, put together (slices of bytes, and numbers) -/
namespace Go.Proofs.Ytebikoekpbnpbaa
open Go.RowKit Cod
set_option maxRecDepth 100000
set_option linter.unusedVariables false
set_option linter.unusedSimpArgs false
theorem info_partsM {i? : Option TypeInfo} {z : Option Value} {s b : Nat} (h : i?.map (fun i => (i.zero, i.size, i.bytes)) = some (z, s, b)) : ∃ i, i? = some i ∧ i.zero = z ∧ i.size = s ∧ i.bytes = b := by
  cases i? with
  | none => cases h
  | some i =>
    simp only [Option.map_some, Option.some.injEq, Prod.mk.injEq] at h
    exact ⟨i, rfl, h.1, h.2.1, h.2.2⟩
theorem addr_addM (b off j : Nat) : (⟨b, off, none⟩ : Addr).add j = ⟨b, off + j, none⟩ := by
  unfold Addr.add; by_cases h : j = 0 <;> simp [h]
/-- a slice of one-cell values in memory -/
def Vs (w : World) (a : Option Addr) (n c : Nat) (xs : List Value) : Prop :=
  xs.length = n ∧ n ≤ c ∧ c ≤ maxLen ∧ (a = none → c = 0) ∧ (∀ u ∈ xs, u.oneCell' = true) ∧ ∀ i, i < n → ∃ b off, a = some ⟨b, off, none⟩ ∧ b < w.heap.size ∧ w.cell? ⟨b, off + i, none⟩ = xs[i]?
theorem Vs.below' {w w' : World} {a : Option Addr} {n c m : Nat} {xs : List Value} (h : Vs w a n c xs) (hb : Below m w w') (hm : ∀ b off, a = some ⟨b, off, none⟩ → b < w.heap.size → b < m) : Vs w' a n c xs := by
  obtain ⟨h1, h2, h3, h4, h5, h6⟩ := h
  refine ⟨h1, h2, h3, h4, h5, fun i hi => ?_⟩
  obtain ⟨b, off, e, hlt, hc⟩ := h6 i hi
  exact ⟨b, off, e, Nat.lt_of_lt_of_le hlt hb.size, (World.cell?_of_block (hb.block b (hm b off e hlt))).trans hc⟩
theorem Vs.below {w w' : World} {a : Option Addr} {n c : Nat} {xs : List Value} (h : Vs w a n c xs) (hb : Below w.heap.size w w') : Vs w' a n c xs := h.below' hb (fun _ _ _ hlt => hlt)
/-- how many there are ahead of a slice -/
def preN (n : Nat → Nat) : Nat → Nat
  | 0 => 0
  | k + 1 => preN n k + n k
/-- what there is ahead of a slice -/
def preL {α : Type} (l : Nat → List α) : Nat → List α
  | 0 => []
  | k + 1 => preL l k ++ l k
theorem info3 : (Try.prog.info? 3).map (fun i => (i.zero, i.size, i.bytes)) = some (some (.int .i64 0), 1, 8) := by kernel_rfl
/-- slices in a row -/
def RowsV (w : World) (q m : Nat) (a : Nat → Option Addr) (n c : Nat → Nat) (l : Nat → List Value) : Prop :=
  q < w.heap.size ∧ ∀ k, k < m → w.cell? ⟨q, k, none⟩ = some (.slice (a k) (n k) (c k)) ∧ Vs w (a k) (n k) (c k) (l k)
end Go.Proofs.Ytebikoekpbnpbaa
/- innerPart; numbers as one-cell values -/
namespace Go.Proofs.Ytebikoekpbnpbaa
open Go.RowKit Go.Lib Cod
set_option maxRecDepth 100000
set_option linter.unusedVariables false
set_option linter.unusedSimpArgs false
def kv (l : List Int) : List Value := l.map (Value.int .i64)
theorem kv_len (l : List Int) : (kv l).length = l.length := by simp [kv]
theorem kv_one (l : List Int) : ∀ u ∈ kv l, u.oneCell' = true := fun u hu => by
  obtain ⟨x, _, rfl⟩ := List.mem_map.1 hu
  rfl
theorem kv_get {l : List Int} {i : Nat} (h : i < l.length) : (kv l)[i]? = some (.int .i64 (l.getD i 0)) := by
  simp [kv, List.getD_eq_getElem?_getD, List.getElem?_eq_getElem h]
theorem IsK.vs {w : World} {a : Option Addr} {n c : Nat} {l : List Int} (h : IsK w a n c l) : Vs w a n c (kv l) := by
  obtain ⟨h1, h2, h3, h4, h5⟩ := h
  refine ⟨by rw [kv_len, h1], h2, h3, h4, kv_one l, fun i hi => ?_⟩
  obtain ⟨_, b, off, e, hlt, hc⟩ := h5 i hi
  exact ⟨b, off, e, hlt, by rw [hc, kv_get (by omega)]⟩
theorem own_isK {w : World} {base n : Nat} {v : Value} {l : List Int} (hl : l.length = n) (hb : ∀ i, i < n → i64B (l.getD i 0)) (h : w.ownsRow base 3 1 v n (kv l)) : ∃ a cap, v = .slice a n cap ∧ IsK w a n cap l ∧ ∀ b off, a = some ⟨b, off, none⟩ → base ≤ b := by
  rcases h.2 with ⟨rfl, rfl⟩ | ⟨g, cap, cur, rfl, hbs, hg, hn, hm, hs, ht⟩
  · exact ⟨none, 0, rfl, ⟨hl, Nat.le_refl _, Nat.zero_le _, fun _ => rfl, fun i hi => absurd hi (Nat.not_lt_zero _)⟩, nofun⟩
  · refine ⟨_, cap, rfl, ⟨hl, hn, hm, nofun, fun i hi => ⟨hb i hi, g, 0, rfl, heap_ltN hg, ?_⟩⟩, fun b off e => by cases e; exact hbs⟩
    rw [Nat.zero_add]
    refine cell_blkN hg ?_
    have h1 : cur.toList[i]? = (kv l)[i]? := by
      rw [← ht, List.getElem?_take, if_pos (by omega)]
    rw [kv_get (by omega)] at h1
    simpa using h1
def ipP (p : Pg) (f t : Nat) : Pg := ⟨false, subL p.keys f t, [], subL p.kids f (t + 1)⟩
end Go.Proofs.Ytebikoekpbnpbaa
/- Split of inner pages; what Split refuses -/
namespace Go.Proofs.Ytebikoekpbnpbaa
open Go.RowKit Go.Lib Cod
set_option maxRecDepth 100000
set_option linter.unusedVariables false
set_option linter.unusedSimpArgs false
/-- why Split refuses -/
def splitE (p : Pg) : Int := if checkE p = 0 then (if p.keys.length < (if p.leaf = true then 2 else 3) then 2 else 0) else checkE p
end Go.Proofs.Ytebikoekpbnpbaa
/- NodeFound: what is put is found, what is cut is not -/
namespace Go.Proofs.Ytebikoekpbnpbaa
open Go.RowKit Cod
set_option linter.unusedVariables false
set_option linter.unusedSimpArgs false
theorem srt_rise {l : List (List Nat)} (h : SrtK l) : riseB l = true := by
  unfold riseB
  rw [List.all_eq_true]
  intro i hi
  unfold riseAt
  by_cases h0 : i = 0
  · simp [h0]
  · rw [srt_getD h (i := i - 1) (j := i) (by omega) (List.mem_range.1 hi)]
    simp
theorem sumB_app (a b : List (List Nat)) : sumB (a ++ b) = sumB a + sumB b := by simp only [sumB, List.map_append, List.sum_append]
theorem sumB_drop (l : List (List Nat)) (i : Nat) : sumB (l.drop i) ≤ sumB l := by
  have h := sumB_app (l.take i) (l.drop i)
  rw [List.take_append_drop] at h
  omega
theorem num_mono : ∀ (b a : Nat), a ≤ b → nLen a ≤ nLen b := by
  intro b
  induction b using Nat.strongRecOn with
  | ind b ih =>
    intro a h
    unfold nLen at *
    by_cases h1 : a < 128
    · rw [num_small h1]
      have := List.length_pos_iff.2 (num_ne b)
      simp only [List.length_cons, List.length_nil]
      omega
    · rw [num_great (by omega : 128 ≤ a), num_great (by omega : 128 ≤ b)]
      simp only [List.length_cons]
      have := ih (b / 128) (by omega) (a / 128) (Nat.div_le_div_right h)
      omega
theorem leaf_of {p : Pg} (h : checkE p = 0) (hl : p.leaf = true) : leafB p = true := by
  rcases check_kind h with h | h
  · exact h
  · simp [innerB, hl] at h
theorem size_of {p : Pg} (h : checkE p = 0) : sizeP p ≤ 4096 := by
  have hk := check_kind h
  unfold checkE at h
  rw [if_pos hk] at h
  split at h
  · cases h
  · omega
theorem check_leaf {p : Pg} (h : leafB p = true) (hs : sizeP p ≤ 4096) : checkE p = 0 := by
  unfold checkE
  rw [if_pos (.inl h), if_neg (by omega)]
theorem leaf_eq {p : Pg} (h : leafB p = true) : p = ⟨true, p.keys, p.vals, []⟩ ∧ p.vals.length = p.keys.length := by
  simp only [leafB, Bool.and_eq_true, decide_eq_true_eq] at h
  obtain ⟨⟨⟨⟨h1, h2⟩, h3⟩, _⟩, _⟩ := h
  obtain ⟨lf, ks, vs, is⟩ := p
  dsimp only at *
  rw [h1, List.length_eq_zero_iff.1 h3]
  exact ⟨rfl, h2⟩
/-- what NodeFound asks, of a page a that was put into and the page b that was cut from it -/
structure FoundP (p a b : Pg) (key val : List Nat) : Prop where
  aleaf : a.leaf = true
  ach : checkE a = 0
  bleaf : b.leaf = true
  bch : checkE b = 0
  afind : ∃ n, findR a key = (n, true, 0) ∧ n < a.vals.length ∧ a.vals.getD n [] = val
  cut : cutR a key = (b, true, 0)
  bfind : ∃ n, findR b key = (n, false, 0)
  lens : b.keys.length + 1 = a.keys.length
  rest : ∀ other, ¬ other = key → ∃ i j x, findR p other = (i, x, 0) ∧ findR b other = (j, x, 0) ∧ (x = true → i < p.vals.length ∧ j < b.vals.length ∧ p.vals.getD i [] = b.vals.getD j [])
end Go.Proofs.Ytebikoekpbnpbaa
