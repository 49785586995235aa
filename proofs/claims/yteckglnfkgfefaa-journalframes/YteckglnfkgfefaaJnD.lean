/- JnD JnE JnF -/
import Derived.Test.YteckglnfkgfefaaJnC
import Derived.Lib.AppendZeros
/- the document's little -/
namespace Go.Proofs.Yteckglnfkgfefaa
open Go.RowKit
set_option maxRecDepth 40000
/-- n in i bytes, the lowest first -/
def leB (n : Nat) : Nat → List Nat
  | 0 => []
  | i + 1 => leB n i ++ [n / 2 ^ (8 * i) % 256]
theorem leB_length (n i : Nat) : (leB n i).length = i := by
  induction i with
  | zero => rfl
  | succ i ih => simp [leB, ih]
theorem leB_lt (n i : Nat) : ∀ x ∈ leB n i, x < 256 := by
  induction i with
  | zero => simp [leB]
  | succ i ih =>
    intro x hx
    simp only [leB, List.mem_append, List.mem_singleton] at hx
    rcases hx with h | rfl
    · exact ih x h
    · exact Nat.mod_lt _ (by decide)
theorem little_any (n k : Nat) (hk : k ≤ 8) (w : World) :
    Calls Try.prog 62 #[.int .u64 (n : Nat), .int .i64 (k : Nat)] w fun e w' => ∃ v, e = .returned v ∧ w'.ownsRow w.heap.size 5 1 v k (bv (leB n k)) ∧ Below w.heap.size w w' := by
  obtain ⟨i0, hi, hz0, hz1, hz2⟩ := info_parts Try.info5
  go_enter Try.func62, Try.ntmps62
  go_wp2_with fail
  go_loopw [6, 5] (fun i x wr => ∃ j : Nat, j ≤ k ∧ i = .int .i64 (j : Nat) ∧ wr.ownsRow w.heap.size 5 1 x j (bv (leB n j)) ∧ Below w.heap.size w wr) (fun i _ _ => k - (intOf i).toNat)
  case atStart => exact ⟨0, Nat.zero_le _, rfl, ⟨rfl, .inl ⟨rfl, rfl⟩⟩, Below.refl _ _⟩
  case round =>
    obtain ⟨j, hj, rfl, hown, hb⟩ := hrel
    by_cases hjk : j < k
    · have HE : Hid (((n : Int) / 2 ^ (8 * j) % 256) = ((n / 2 ^ (8 * j) % 256 : Nat) : Int)) := hide (by simp)
      have HX : Hid (n / 2 ^ (8 * j) % 256 < 256) := hide (Nat.mod_lt _ (by decide))
      have HL : Hid (leB n (j + 1) = leB n j ++ [n / 2 ^ (8 * j) % 256]) := hide rfl
      have hbs := hb.size
      go_wp2_with (at_builtin; refine wpList_append_own _ rfl _ _ 34 rfl w.heap.size 5 i0 (.int .u8 0) 1 1 Try.underlying34 hi hz0 hz1 hz2 rfl (by decide) _ j (bv (leB n j)) rfl (hown.alloc _) ⟨wr.heap.size, 0, none⟩ 1 1 [.int .u8 ((n : Int) / 2 ^ (8 * j) % 256)] rfl rfl (cell_one_new _ _ _) (u8_one _) ?c3 ?c4 ?c5 ?_)
      case c3 => unfold maxLen; omega
      case c4 => omega
      case c5 => simp; omega
      intro v2 w2 hown2 hg2 _
      have hb2 : Below w.heap.size w w2 := (hb.alloc (by omega) _).grown hg2 (by simp; omega) (fun k hk => (hown.lt k hk).1)
      have hown3 : w2.ownsRow w.heap.size 5 1 v2 (j + 1) (bv (leB n (j + 1))) := by rw [HL.out, bv_append]; rw [HE.out] at hown2; exact hown2
      clear hown2 hg2 hown hb HE HL HX
      go_wp2
      go_roundw
      case rel => exact ⟨j + 1, by omega, by go_num, hown3, hb2⟩
      case measure => simp [intOf]; omega
    · have : j = k := by omega
      subst this
      go_wp2_with fail
      go_ret
      exact ⟨_, rfl, hown, hb⟩
end Go.Proofs.Yteckglnfkgfefaa
/- append of noughts to an own row -/
namespace Go.Proofs.Yteckglnfkgfefaa
open Go.RowKit
set_option maxRecDepth 40000
theorem zeroCells5 (n : Nat) : Builtin.zeroCells (Value.int .u8 0).cells n = (zeros n).toArray := by
  simp [Builtin.zeroCells, zeros, show (Value.int .u8 0).cells = #[Value.int .u8 0] from rfl, Nat.mod_one, Array.ext_iff]
theorem zeros_one (n : Nat) : ∀ u ∈ zeros n, u.oneCell' = true := by
  intro u hu
  rw [List.eq_of_mem_replicate hu]
  rfl
/-- append(own, make([]byte, m)...) -/
theorem run_own_zeros (w : World) (ty : TypeId) (base g n cap m : Nat) (xs : List Value) (hown : w.ownsRow base 5 1 (.slice (some ⟨g, 0, none⟩) n cap) n xs) (hm : n + m ≤ 4096) (hbase : base ≤ w.heap.size) :
    ∃ v' w', (Builtin.append_ #[34, 3] ty #[.slice (some ⟨g, 0, none⟩) n cap, .int .i64 (m : Int)]).run Try.prog w = .ok v' w' ∧ w'.ownsRow base 5 1 v' (n + m) (xs ++ zeros m) ∧ w.grownBy w' (some g) := by
  obtain ⟨i0, hi, hz0, hz1, hz2⟩ := info_parts Try.info5
  have hw : IntKind.i64.wrap (m : Int) = m := by rw [IntKind.wrap_i64]; omega
  have hneg : ¬ ((m : Int) < 0) := by omega
  have h48i : ¬ (281474976710656 < (m : Int) * (i0.bytes : Int)) := by rw [hz2]; omega
  have hzl : (zeros m).length = m := by simp [zeros]
  rcases hown.2 with ⟨h0, _⟩ | ⟨g', cap', cur, he, hbg, hg, hnc, hcm, hcs, htake⟩
  · cases h0
  cases he
  have hlen : (xs ++ zeros m).length = (n + m) * 1 := by rw [List.length_append, hown.1, hzl, Nat.add_mul]; omega
  by_cases hroom : n + m ≤ cap
  · by_cases hm0 : m = 0
    · subst hm0
      refine ⟨.slice (some ⟨g, 0, none⟩) n cap, w, ?_, by simpa [zeros] using hown, World.grownBy.refl _ _⟩
      have hw0 : IntKind.i64.wrap 0 = 0 := rfl
      simp [Builtin.append_, run_underlying Try.underlying34, run_underlying Try.underlying3, sizeOf, typeInfo, zeroValue, hi, hz0, asInt, asIntOf, hw0, hnc, storeCells]
    · have hst := run_storeCells_at Try.prog g n 5 (zeros m) 0 cur w hg (by rw [hzl]; omega) (zeros_one m)
      simp only [Nat.add_zero] at hst
      have hns : ¬ (m * i0.size = 0) := by rw [hz1]; omega
      refine ⟨.slice (some ⟨g, 0, none⟩) (n + m) cap, w.setRow g (cur.toList.take n ++ zeros m ++ cur.toList.drop (n + (zeros m).length)).toArray, ?_, ⟨hlen, .inr ⟨g, cap, _, rfl, hbg, setRow_heap w g cur _ 5 _ hg, hroom, hcm, ?_, ?_⟩⟩, ⟨rfl, rfl, rfl, by simp, fun k _ hk => setRow_other w g k _ (fun e => hk (by rw [e]))⟩⟩
      · simp [Builtin.append_, run_underlying Try.underlying34, run_underlying Try.underlying3, sizeOf, typeInfo, zeroValue, hi, hz0, hz1, asInt, asIntOf, hw, hneg, h48i, hm0, hroom, zeroCells5, Addr.add_lit, hst]
      · simp only [List.size_toArray, List.length_append, List.length_take, List.length_drop, Array.length_toList, hzl]
        omega
      · rw [Nat.mul_one] at htake
        rw [htake, ← hlen]
        exact List.take_left
  · have hm0 : m ≠ 0 := by omega
    have hns : ¬ (m * i0.size = 0) := by rw [hz1]; omega
    have holds : ∀ j u, xs[j]? = some u → w.cell? ((⟨g, 0, none⟩ : Addr).add j) = some u := hown.cells (g := g) rfl
    have hfo := run_firstCells_some (P := Try.prog) w.drew i0.size n ⟨g, 0, none⟩ n cap xs (by rw [hz1]; exact hown.1) (by simpa using holds)
    have h63' : ¬ (9223372036854775807 < ((n : Int) + (m : Int))) := by omega
    have hnc48 := growslice_fits (need := n + m) (old := cap) (bytes := i0.bytes) (by omega) (by rw [hz2]; omega)
    have h48' : ¬ (281474976710656 < Builtin.nextslicecap (n + m) cap * i0.bytes) := by omega
    have hge := grownCap_ge w (n + m) cap 5
    refine ⟨.slice (some ⟨w.heap.size, 0, none⟩) (n + m) (grownCap w (n + m) cap 5), w.drew.alloc (.cells (xs.toArray ++ (zeros m).toArray ++ (zeros (grownCap w (n + m) cap 5 - (n + m))).toArray) 5), ?_, ⟨hlen, .inr ⟨w.heap.size, _, _, rfl, hbase, heap_alloc_new w.drew _, hge, grownCap_le_maxLen _ _ _ _ (by unfold maxLen; omega), ?_, ?_⟩⟩, ⟨rfl, rfl, rfl, by simp, fun k hk _ => Below.heap_alloc w.drew _ k hk⟩⟩
    · simp [Builtin.append_, run_underlying Try.underlying34, run_underlying Try.underlying3, sizeOf, typeInfo, zeroValue, hi, hz0, asInt, asIntOf, hw, hneg, h48i, hm0, hz1, hroom, h63', h48', Question.forced, zeroCells5, newRow, grownCap]
      rw [hz1] at hfo
      simp [hfo]
    · have h1 := hown.1
      simp [zeros] at h1 ⊢
      omega
    · simp only [Array.toList_append, List.append_assoc]
      rw [← List.append_assoc, ← hlen]
      exact List.take_left
theorem run_own_zeros_any (w : World) (ty : TypeId) (base n m : Nat) (v : Value) (xs : List Value) (hown : w.ownsRow base 5 1 v n xs) (hm : n + m ≤ 4096) (h0 : 0 < n) (hbase : base ≤ w.heap.size) :
    ∃ v' w', (Builtin.append_ #[34, 3] ty #[v, .int .i64 (m : Int)]).run Try.prog w = .ok v' w' ∧ w'.ownsRow base 5 1 v' (n + m) (xs ++ zeros m) ∧ Below base w w' := by
  rcases hown.2 with ⟨rfl, rfl⟩ | ⟨g, cap, cur, rfl, hbg, _⟩
  · omega
  · obtain ⟨v', w', h1, h2, h3⟩ := run_own_zeros w ty base g n cap m xs hown (by omega) hbase
    exact ⟨v', w', h1, h2, h3.os, h3.tape, h3.output, h3.size, fun k hk => h3.block k (by omega) (by simp; omega)⟩
end Go.Proofs.Yteckglnfkgfefaa
/- the document's sector, as bytes; literals as own rows -/
namespace Go.Proofs.Yteckglnfkgfefaa
open Go.RowKit
set_option maxRecDepth 40000
/-- what lies behind the checksum -/
def secB (l : List Nat) (s i n : Nat) : List Nat := leB (s + i) 8 ++ leB s 8 ++ leB n 4 ++ leB l.length 4 ++ l ++ List.replicate (4064 - l.length) 0
def markL : List Nat := [76, 68, 78, 71]
/-- the document's sector, as bytes -/
def rsecL (l : List Nat) (s i n : Nat) : List Nat := markL ++ leB (Crc.update 0 (markL ++ [0, 0, 0, 0] ++ secB l s i n)) 4 ++ secB l s i n
theorem own_below {w w' : World} {base : Nat} {v : Value} {n : Nat} {l : List Value} (h : w.ownsRow base 5 1 v n l) (hb : Below w.heap.size w w') : w'.ownsRow base 5 1 v n l :=
  h.kept (row := none) ⟨hb.os, hb.tape, hb.output, hb.size, fun k hk _ => hb.block k hk⟩ (by cases hv : v.ownBlock <;> simp)
theorem own_isB {w : World} {base : Nat} {v : Value} {n : Nat} {l : List Nat} (h : w.ownsRow base 5 1 v n (bv l)) (hl : ∀ x ∈ l, x < 256) (hn : 0 < n) : ∃ g cap, v = .slice (some ⟨g, 0, none⟩) n cap ∧ base ≤ g ∧ IsB w (some ⟨g, 0, none⟩) n cap l := by
  obtain ⟨g, cap, rfl, hb, hr⟩ := Row.of_owns h hn
  exact ⟨g, cap, rfl, hb, hr.isB hl⟩
end Go.Proofs.Yteckglnfkgfefaa
