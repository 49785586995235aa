/- MA MB NS -/
import Derived.Test.YtebikoekpbnpbaaNQ
import Derived.Laws.AppendOwnNone
import Derived.Lib.AppendZeros
import Derived.Test.YtebikoekpbnpbaaNN
import Derived.RangeFuncBox
/- rows of one-cell values: what is appended, grown, put together (slices of bytes, and numbers) -/
namespace Go.Proofs.Ytebikoekpbnpbaa
open Go.RowKit Cod
set_option maxRecDepth 100000
set_option linter.unusedVariables false
set_option linter.unusedSimpArgs false
theorem info_partsM {i? : Option TypeInfo} {z : Option Value} {s b : Nat} (h : i?.map (fun i => (i.zero, i.size, i.bytes)) = some (z, s, b)) : ∃ i, i? = some i ∧ i.zero = z ∧ i.size = s ∧ i.bytes = b := by
  cases i? with
  | none => cases h
  | some i =>
    simp only [Option.map_some, Option.some.injEq, Prod.mk.injEq] at h
    exact ⟨i, rfl, h.1, h.2.1, h.2.2⟩
theorem addr_addM (b off j : Nat) : (⟨b, off, none⟩ : Addr).add j = ⟨b, off + j, none⟩ := by
  unfold Addr.add; by_cases h : j = 0 <;> simp [h]
/-- a slice of one-cell values in memory -/
def Vs (w : World) (a : Option Addr) (n c : Nat) (xs : List Value) : Prop :=
  xs.length = n ∧ n ≤ c ∧ c ≤ maxLen ∧ (a = none → c = 0) ∧ (∀ u ∈ xs, u.oneCell' = true) ∧ ∀ i, i < n → ∃ b off, a = some ⟨b, off, none⟩ ∧ b < w.heap.size ∧ w.cell? ⟨b, off + i, none⟩ = xs[i]?
theorem Vs.below' {w w' : World} {a : Option Addr} {n c m : Nat} {xs : List Value} (h : Vs w a n c xs) (hb : Below m w w') (hm : ∀ b off, a = some ⟨b, off, none⟩ → b < w.heap.size → b < m) : Vs w' a n c xs := by
  obtain ⟨h1, h2, h3, h4, h5, h6⟩ := h
  refine ⟨h1, h2, h3, h4, h5, fun i hi => ?_⟩
  obtain ⟨b, off, e, hlt, hc⟩ := h6 i hi
  exact ⟨b, off, e, Nat.lt_of_lt_of_le hlt hb.size, (World.cell?_of_block (hb.block b (hm b off e hlt))).trans hc⟩
theorem Vs.below {w w' : World} {a : Option Addr} {n c : Nat} {xs : List Value} (h : Vs w a n c xs) (hb : Below w.heap.size w w') : Vs w' a n c xs := h.below' hb (fun _ _ _ hlt => hlt)
/-- how many there are ahead of a slice -/
def preN (n : Nat → Nat) : Nat → Nat
  | 0 => 0
  | k + 1 => preN n k + n k
/-- what there is ahead of a slice -/
def preL {α : Type} (l : Nat → List α) : Nat → List α
  | 0 => []
  | k + 1 => preL l k ++ l k
theorem info3 : (Try.prog.info? 3).map (fun i => (i.zero, i.size, i.bytes)) = some (some (.int .i64 0), 1, 8) := by kernel_rfl
/-- slices in a row -/
def RowsV (w : World) (q m : Nat) (a : Nat → Option Addr) (n c : Nat → Nat) (l : Nat → List Value) : Prop :=
  q < w.heap.size ∧ ∀ k, k < m → w.cell? ⟨q, k, none⟩ = some (.slice (a k) (n k) (c k)) ∧ Vs w (a k) (n k) (c k) (l k)
end Go.Proofs.Ytebikoekpbnpbaa
/- innerPart; numbers as one-cell values -/
namespace Go.Proofs.Ytebikoekpbnpbaa
open Go.RowKit Go.Lib Cod
set_option maxRecDepth 100000
set_option linter.unusedVariables false
set_option linter.unusedSimpArgs false
def kv (l : List Int) : List Value := l.map (Value.int .i64)
theorem kv_len (l : List Int) : (kv l).length = l.length := by simp [kv]
theorem kv_one (l : List Int) : ∀ u ∈ kv l, u.oneCell' = true := fun u hu => by
  obtain ⟨x, _, rfl⟩ := List.mem_map.1 hu
  rfl
theorem kv_get {l : List Int} {i : Nat} (h : i < l.length) : (kv l)[i]? = some (.int .i64 (l.getD i 0)) := by
  simp [kv, List.getD_eq_getElem?_getD, List.getElem?_eq_getElem h]
theorem IsK.vs {w : World} {a : Option Addr} {n c : Nat} {l : List Int} (h : IsK w a n c l) : Vs w a n c (kv l) := by
  obtain ⟨h1, h2, h3, h4, h5⟩ := h
  refine ⟨by rw [kv_len, h1], h2, h3, h4, kv_one l, fun i hi => ?_⟩
  obtain ⟨_, b, off, e, hlt, hc⟩ := h5 i hi
  exact ⟨b, off, e, hlt, by rw [hc, kv_get (by omega)]⟩
theorem own_isK {w : World} {base n : Nat} {v : Value} {l : List Int} (hl : l.length = n) (hb : ∀ i, i < n → i64B (l.getD i 0)) (h : w.ownsRow base 3 1 v n (kv l)) : ∃ a cap, v = .slice a n cap ∧ IsK w a n cap l ∧ ∀ b off, a = some ⟨b, off, none⟩ → base ≤ b := by
  rcases h.2 with ⟨rfl, rfl⟩ | ⟨g, cap, cur, rfl, hbs, hg, hn, hm, hs, ht⟩
  · exact ⟨none, 0, rfl, ⟨hl, Nat.le_refl _, Nat.zero_le _, fun _ => rfl, fun i hi => absurd hi (Nat.not_lt_zero _)⟩, nofun⟩
  · refine ⟨_, cap, rfl, ⟨hl, hn, hm, nofun, fun i hi => ⟨hb i hi, g, 0, rfl, heap_ltN hg, ?_⟩⟩, fun b off e => by cases e; exact hbs⟩
    rw [Nat.zero_add]
    refine cell_blkN hg ?_
    have h1 : cur.toList[i]? = (kv l)[i]? := by
      rw [← ht, List.getElem?_take, if_pos (by omega)]
    rw [kv_get (by omega)] at h1
    simpa using h1
def ipP (p : Pg) (f t : Nat) : Pg := ⟨false, subL p.keys f t, [], subL p.kids f (t + 1)⟩
end Go.Proofs.Ytebikoekpbnpbaa
/- putNum, putText -/
namespace Go.Proofs.Ytebikoekpbnpbaa
open Go.RowKit Cod
set_option maxRecDepth 100000
set_option linter.unusedVariables false
set_option linter.unusedSimpArgs false
theorem own_below {w w1 : World} {base e size n : Nat} {v : Value} {xs : List Value} (h : w.ownsRow base e size v n xs) (hb : Below w.heap.size w w1) : w1.ownsRow base e size v n xs := by
  have hlt := h.lt
  obtain ⟨h1, h2⟩ := h
  refine ⟨h1, h2.imp id ?_⟩
  rintro ⟨g, cap, cur, rfl, hr⟩
  have hg := (hlt g rfl).2
  refine ⟨g, cap, cur, rfl, ?_⟩
  rw [hb.block g hg]
  exact hr
set_option maxHeartbeats 1000000 in
theorem nNum_any (v : Value) (base n k : Nat) (l : List Nat) (w : World) (h : w.ownsRow base 5 1 v n (bv l)) (hb : base ≤ w.heap.size) (hn : n ≤ 1000000) (hk : k ≤ 9223372036854775807) :
    Calls Try.prog 88 #[v, .int .i64 (k : Nat)] w fun e w' => ∃ v', e = .returned v' ∧ w'.ownsRow base 5 1 v' (n + nLen k) (bv (l ++ num k)) ∧ Below base w w' := by
  obtain ⟨i0, hi, hz0, hz1, hz2⟩ := info_parts Try.info5
  have HN := hide (num_any none 0 0 k [] w (isB_nil w) (by omega) (by omega))
  have HO := hide h
  have hw1 : IntKind.u64.wrap (k : Int) = (k : Int) := by rw [IntKind.wrap_u64]; omega
  have HL : Hid (nLen k ≤ 10) := hide (nLen_le (by omega))
  have HP : Hid (1 ≤ nLen k) := hide (nLen_pos k)
  clear h
  go_enter Try.func88, Try.ntmps88
  go_wp2_with fail
  refine HN.out.mono ?_
  rintro e w1 ⟨v1, rfl, ho1, hb1⟩
  rw [Nat.zero_add, List.nil_append] at ho1
  have hl := HL.out
  have hp := HP.out
  unfold nLen at hl hp
  obtain ⟨m, hm⟩ : ∃ m, (num k).length = m + 1 := ⟨(num k).length - 1, by omega⟩
  rw [hm] at ho1
  have HM : Hid (nLen k = m + 1) := hide hm
  obtain ⟨g, cap, rfl, _⟩ := ownsRow_succ ho1
  have hown := own_below HO.out hb1
  have hsz := hb1.size
  go_wp2_with (at_builtin; refine wpList_append_own _ rfl _ _ 26 rfl base 5 i0 (.int .u8 0) 1 1 Try.underlying26 hi hz0 hz1 hz2 rfl (by decide) _ n _ rfl hown ⟨g, 0, none⟩ (m + 1) cap (bv (num k)) rfl (by rw [bv_length, hm, Nat.mul_one]) (ho1.cells rfl) (bv_one _) (by unfold maxLen; omega) (by omega) (by omega) ?_)
  intro v2 w2 ho2 hg2 _
  have hb2 : Below base w w2 := (hb1.mono hb).grown hg2 (by omega) (fun k hk => (hown.lt k hk).1)
  rw [← bv_append] at ho2
  have HO2 : Hid (w2.ownsRow base 5 1 v2 (n + nLen k) (bv (l ++ num k))) := hide (by rw [HM.out]; exact ho2)
  have HB2 := hide hb2
  clear hg2 hown ho1 ho2 hb2 hm
  go_wp2
  go_ret
  exact ⟨_, rfl, HO2.out, HB2.out⟩
set_option maxHeartbeats 1000000 in
theorem nText_any (v : Value) (base n : Nat) (l : List Nat) (xa : Option Addr) (xn xc : Nat) (s : List Nat) (w : World) (h : w.ownsRow base 5 1 v n (bv l)) (hb : base ≤ w.heap.size) (hn : n ≤ 1000000) (hs : IsB w xa xn xc s) (hx : xn ≤ 1024) :
    Calls Try.prog 89 #[v, .slice xa xn xc] w fun e w' => ∃ v', e = .returned v' ∧ w'.ownsRow base 5 1 v' (n + bSize s) (bv (l ++ (num s.length ++ s))) ∧ Below base w w' := by
  obtain ⟨i0, hi, hz0, hz1, hz2⟩ := info_parts Try.info5
  have hcv := conv_str hs
  have hss : (str s).size = s.length := str_size s
  have hsl := hs.1
  have hbl : bl (str s) = s := bl_str hs.2.2.2.1
  have HN := hide (text_any none 0 0 (str s) [] w (isB_nil w) (by omega))
  rw [hss, hbl] at HN
  have HO := hide h
  have HL : Hid ((num s.length).length + s.length ≤ 2000) := hide (by have := nLen_le (n := s.length) (by omega); unfold nLen at this; omega)
  have HP : Hid (1 ≤ (num s.length).length + s.length) := hide (by have := nLen_pos s.length; unfold nLen at this; omega)
  clear h hs hsl hbl hss
  go_enter Try.func89, Try.ntmps89
  go_wp2_with fail
  refine HN.out.mono ?_
  rintro e w1 ⟨v1, rfl, ho1, hb1⟩
  rw [Nat.zero_add, List.nil_append] at ho1
  have hl := HL.out
  have hp := HP.out
  obtain ⟨m, hm⟩ : ∃ m, (num s.length).length + s.length = m + 1 := ⟨(num s.length).length + s.length - 1, by omega⟩
  rw [hm] at ho1
  have HM : Hid (bSize s = m + 1) := hide hm
  obtain ⟨g, cap, rfl, _⟩ := ownsRow_succ ho1
  have hown := own_below HO.out hb1
  have hsz := hb1.size
  go_wp2_with (at_builtin; refine wpList_append_own _ rfl _ _ 26 rfl base 5 i0 (.int .u8 0) 1 1 Try.underlying26 hi hz0 hz1 hz2 rfl (by decide) _ n _ rfl hown ⟨g, 0, none⟩ (m + 1) cap (bv (num s.length ++ s)) rfl (by rw [bv_length, List.length_append, hm, Nat.mul_one]) (ho1.cells rfl) (bv_one _) (by unfold maxLen; omega) (by omega) (by omega) ?_)
  intro v2 w2 ho2 hg2 _
  have hb2 : Below base w w2 := (hb1.mono hb).grown hg2 (by omega) (fun k hk => (hown.lt k hk).1)
  rw [← bv_append] at ho2
  have HO2 : Hid (w2.ownsRow base 5 1 v2 (n + bSize s) (bv (l ++ (num s.length ++ s)))) := hide (by rw [HM.out]; exact ho2)
  have HB2 := hide hb2
  clear hg2 hown ho1 ho2 hb2 hm
  go_wp2
  go_ret
  exact ⟨_, rfl, HO2.out, HB2.out⟩
end Go.Proofs.Ytebikoekpbnpbaa
