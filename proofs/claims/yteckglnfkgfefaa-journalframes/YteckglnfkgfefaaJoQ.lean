/- JoQ JoO -/
import Derived.Test.YteckglnfkgfefaaJoJ
import Derived.WalkKit
import Derived.Deep.Slices
import Derived.ChangeSame
import Derived.ProofKit
import Derived.OpenShut
import Derived.ShutString
import Derived.ChangeOld
import Derived.Below
import Derived.JoinedCond
import Derived.SizedLaws
import Derived.SliceStrings
import Derived.Test.YteckglnfkgfefaaJoA
/- strings and sectors that are handed in -/
namespace Go.Proofs.Yteckglnfkgfefaa
open Go.RowKit Go.ChangeShapes Go.WideShapes Go.Deep Cod
set_option maxRecDepth 40000
set_option linter.unusedVariables false
set_option linter.unusedSimpArgs false
theorem ocells9 : Try.prog.cellsOf 9 = 1 := by kernel_rfl
theorem ocells5 : Try.prog.cellsOf 5 = 1 := by kernel_rfl
theorem ocells34 : Try.prog.cellsOf 34 = 1 := by kernel_rfl
theorem oadd (a : Addr) (i j : Nat) : (a.add i).add j = a.add (i + j) := by
  cases a with
  | mk b off sp => by_cases hi : i = 0 <;> by_cases hj : j = 0 <;> simp [Addr.add, hi, hj] <;> omega
theorem oadd0 (b off i : Nat) : (⟨b, off, none⟩ : Addr).add i = ⟨b, off + i, none⟩ := by
  by_cases hi : i = 0 <;> simp [Addr.add, hi]
theorem ochoose {α : Type} (d : α) {n : Nat} {Pr : Nat → α → Prop} (h : ∀ i, i < n → ∃ x, Pr i x) : ∃ f : Nat → α, ∀ i, i < n → Pr i (f i) :=
  ⟨fun i => if hi : i < n then Classical.choose (h i hi) else d, fun i hi => by simp only [dif_pos hi]; exact Classical.choose_spec (h i hi)⟩
theorem owf_u8 {n : Int} (h : (Lit.int .u8 n).wf = true) : 0 ≤ n ∧ n < 256 := by
  simp [Lit.wf, IntKind.min, IntKind.max, IntKind.bits, IntKind.signed] at h
  omega
theorem wf_u64 {n : Int} (h : (Lit.int .u64 n).wf = true) : 0 ≤ n ∧ n < 18446744073709551616 := by
  simp [Lit.wf, IntKind.min, IntKind.max, IntKind.bits, IntKind.signed] at h
  omega
theorem obulk_one {H : Type} (d : DataW H) : 1 ≤ Rows.uptoBulk d := by
  cases d with
  | lit l => cases l <;> simp [Rows.uptoBulk]
  | nil => simp [Rows.uptoBulk]
  | ptr d => simp [Rows.uptoBulk]
  | slice elems spare => simp [Rows.uptoBulk]
  | agg parts => simp [Rows.uptoBulk]
  | iface t d => simp [Rows.uptoBulk]
  | map entries => simp [Rows.uptoBulk]
  | held h => simp [Rows.uptoBulk]
theorem obulk_len {H : Type} (l : List (DataW H)) : l.length ≤ Rows.uptoBulkAll l := by
  induction l with
  | nil => simp [Rows.uptoBulkAll]
  | cons x r ih => have := obulk_one x; simp only [Rows.uptoBulkAll, List.length_cons]; omega
section
variable {H : Type} {enc : TypeId × Value → H} {W : World} {base : Nat} {spare : Nat → Bool} {held : Bool}
/-- bytes, opened -/
theorem open_bs {fuel : Nat} {cs : List Value} {x : DataW H × List MemPlace} (h : DataW.trod enc Try.prog W base spare held fuel 34 cs = some x) (hlt : ∀ p ∈ x.2, p.block < W.heap.size) :
    ∃ a len cap l, cs = [.slice a len cap] ∧ IsB W a len cap l := by
  rcases open_ints Try.underlying34 Try.underlying5 ocells5 h with ⟨rfl, _⟩ | ⟨y, len, cap, zs, rfl, _, hl, hm, hz, rfl, hcell, hwz⟩
  · exact ⟨none, 0, 0, [], rfl, isB_nil W⟩
  · have hz' : len ≤ zs.length := by rw [hz]; split <;> omega
    refine ⟨some y, len, cap, (zs.take len).map Int.toNat, rfl, ⟨by simp; omega, hl, hm, ?_, ?_⟩⟩
    · intro z hz2
      simp only [List.mem_map] at hz2
      obtain ⟨n, hn, rfl⟩ := hz2
      have := owf_u8 (hwz n (List.mem_of_mem_take hn))
      omega
    · by_cases h0 : len = 0
      · exact .inl ⟨h0, nofun⟩
      · obtain ⟨b, off, spot⟩ := y
        have hspot : spot = none := by
          have := World.cell?_spot (hcell 0 (by omega))
          simpa [Addr.add] using this
        subst hspot
        refine .inr ⟨b, off, rfl, hlt (.cell b off) (MemPlace.mem_row.2 ⟨0, by omega, by simp⟩), fun i hi => ?_⟩
        have hi' : i < zs.length := by omega
        have hc := hcell i hi'
        rw [oadd0] at hc
        rw [hc]
        have hb := owf_u8 (hwz zs[i] (List.getElem_mem hi'))
        have e : ((zs.take len).map Int.toNat).getD i 0 = (zs[i]).toNat := by
          simp [List.getD_eq_getElem?_getD, hi, List.getElem?_eq_getElem hi']
        rw [e, List.getD_eq_getElem?_getD, List.getElem?_eq_getElem hi']
        simp only [Option.getD_some]
        rw [Int.toNat_of_nonneg hb.1]
/-- lists of bytes, opened -/
theorem open_bb {fuel : Nat} {cs : List Value} {x : DataW H × List MemPlace} (h : DataW.trod enc Try.prog W base spare held fuel 24 cs = some x) (hlt : ∀ p ∈ x.2, p.block < W.heap.size) :
    ∃ a len cap l, cs = [.slice a len cap] ∧ IsBB W a len cap l ∧ len ≤ Rows.uptoBulk x.1 := by
  rcases open_slice Try.underlying24 h with ⟨rfl, _⟩ | ⟨a, len, cap, m, n, D, Pl, rfl, hb, hl, hm, hmm, rfl, hx⟩
  · exact ⟨none, 0, 0, [], rfl, ⟨rfl, Nat.le_refl _, Nat.zero_le _, .inl rfl⟩, Nat.zero_le _⟩
  · have hlm : len ≤ m := by rw [hmm]; split <;> omega
    have each : ∀ i, i < len → ∃ e : Value × List Nat, W.cell? (a.add i) = some e.1 ∧ ∃ a' n' c', e.1 = .slice a' n' c' ∧ IsB W a' n' c' e.2 := by
      intro i hi
      obtain ⟨cs', h1, h2⟩ := hx i (by omega)
      rw [ocells34] at h1
      obtain ⟨a', n', c', l', rfl, hI⟩ := open_bs h2 (fun p hp => hlt p (List.mem_append_right _ (List.mem_flatMap.2 ⟨i, List.mem_range.2 (by omega), hp⟩)))
      obtain ⟨_, _, hcell⟩ := World.cells?_some h1
      have e0 := hcell 0 (by omega)
      rw [oadd] at e0
      exact ⟨(.slice a' n' c', l'), by simpa using e0, a', n', c', rfl, hI⟩
    obtain ⟨f, hf⟩ := ochoose (Value.bool false, []) each
    refine ⟨some a, len, cap, (List.range len).map (fun i => (f i).2), rfl, ⟨by simp, hl, hm, ?_⟩, ?_⟩
    · by_cases h0 : len = 0
      · exact .inl h0
      · obtain ⟨b, off, spot⟩ := a
        have hspot : spot = none := by
          have := World.cell?_spot (hf 0 (by omega)).1
          simpa [Addr.add] using this
        subst hspot
        refine .inr ⟨b, off, rfl, hlt (.cell b off) (List.mem_append_left _ (MemPlace.mem_row.2 ⟨0, by rw [ocells34]; omega, by simp⟩)), fun i hi => ?_⟩
        obtain ⟨hc, a', n', c', he, hI⟩ := hf i hi
        have hg : ((List.range len).map (fun i => (f i).2)).getD i [] = (f i).2 := by simp [List.getD_eq_getElem?_getD, hi]
        rw [hg]
        rw [oadd0] at hc
        exact ⟨a', n', c', by rw [hc, he], hI⟩
    · have := obulk_len ((List.range len).map D)
      simp only [List.length_map, List.length_range] at this
      simp only [Rows.uptoBulk]
      omega
end
end Go.Proofs.Yteckglnfkgfefaa
/- Append where the power stays on: what the numbers read as then (pure) -/
namespace Go.Proofs.Yteckglnfkgfefaa
open Go.RowKit Cod
set_option maxRecDepth 40000
theorem sec_apart {j : Jn} {x y : Nat} (h0 : 1 ≤ x) (hxy : x < y) (hy : y < x + j.count) : j.sec x ≠ j.sec y := by
  have := sec_ne (j := j) (s := x) (i := 0) (k := y - x) h0 (by omega) (by omega)
  rw [Nat.add_zero, show x + (y - x) = y by omega] at this
  exact this
theorem frL_len {rs : List ByteArray} {s : Nat} : ∀ q ∈ frL rs s, q.length = 4096 := by
  intro q hq
  obtain ⟨i, hi, rfl⟩ := List.mem_map.1 hq
  have h := pcAt_len (List.mem_range.1 hi)
  rw [secL_eq _ h.2.1, rsecL_length _ h.2.1]
theorem frL_getlen {rs : List ByteArray} {s i : Nat} (h : i < (frL rs s).length) : ((frL rs s).getD i []).length = 4096 := by
  rw [List.getD_eq_getElem?_getD, List.getElem?_eq_getElem h]
  exact frL_len _ (List.getElem_mem _)
/-- Append of a batch for which there is room, the power on -/
theorem append_up {n : Nat} {rs : List ByteArray} {j : Jn} {st : St} (hd : st.down = false) (ha : st.arm = false) (hf : j.failed = false) (hc : j.first + j.count ≤ n) (hc0 : 0 < j.count) (hok : okB rs) (hst : startB j.nxt = true) (hr : (frL rs j.nxt).length ≤ j.room) :
    ∃ st', Jn.append n rs j st = ({ j with nxt := j.nxt + (frL rs j.nxt).length }, st', 0) ∧ st'.down = false ∧ st'.arm = false ∧ st'.wr = st.wr + (frL rs j.nxt).length ∧ st'.left = st.left ∧ (∀ k, st'.fr k = none) ∧
      (∀ i, i < (frL rs j.nxt).length → j.rd st' (j.nxt + i) = (frL rs j.nxt).getD i []) ∧
      (∀ s, 1 ≤ s → j.nxt + (frL rs j.nxt).length ≤ s + j.count → s < j.nxt + j.count → ¬ (j.nxt ≤ s ∧ s < j.nxt + (frL rs j.nxt).length) → j.rd st' s = j.rd st s) ∧
      (∀ k, (∀ i, i < (frL rs j.nxt).length → k ≠ j.sec (j.nxt + i)) → st'.reads k = st.reads k) := by
  have h1 : 1 ≤ j.nxt := by
    have : startB j.nxt = decide (1 ≤ j.nxt ∧ j.nxt ≤ 4611686018427387904) := rfl
    rw [this] at hst
    exact (of_decide_eq_true hst).1
  have hrc : (frL rs j.nxt).length ≤ j.count := by unfold Jn.room at hr; omega
  obtain ⟨st', g1, g2, g3, g4, g5, g6, g7, g8⟩ := wrs_up n j.sec (frL rs j.nxt) j.nxt st hd ha (fun i _ => Nat.lt_of_lt_of_le (sec_lt hc0 _) hc) (fun b hb => by rw [frL_len b hb]; exact Nat.le_refl _) (fun i k hik hk => sec_ne h1 hik (by omega))
  refine ⟨st', ?_, g2, g3, g7, g8, g6, ?_, ?_, g5⟩
  · unfold Jn.append
    rw [if_neg (by simp [hf]), if_neg (fun e => e (frE_of hok hst)), if_neg (by omega), g1, if_neg (fun e => e rfl)]
  · intro i hi
    unfold Jn.rd
    rw [g4 i hi, full_of (frL_getlen hi)]
  · intro s hs1 hs2 hs3 hs4
    unfold Jn.rd
    rw [g5]
    intro i hi e
    by_cases h : s < j.nxt + i
    · exact sec_apart hs1 h (by omega) e
    · by_cases h2 : j.nxt + i < s
      · exact sec_apart (by omega) h2 (by omega) e.symm
      · omega
/-- a batch that has been appended is found -/
theorem bat_of {rd : Nat → List Nat} {rs : List ByteArray} {s m : Nat} (hok : okB rs) (h : ∀ i, i < (frL rs s).length → rd (s + i) = (frL rs s).getD i []) (hm : (frL rs s).length ≤ m) : Bat rd s m rs (frL rs s).length := by
  refine ⟨hok, ?_, fr_pos rs s, hm⟩
  apply List.ext_getElem?
  intro i
  by_cases hi : i < (frL rs s).length
  · have h1 := rds_get (rd := rd) (s := s) hi
    rw [h i hi, List.getD_eq_getElem?_getD, List.getD_eq_getElem?_getD, List.getElem?_eq_getElem hi, List.getElem?_eq_getElem (by rw [rds_length]; exact hi)] at h1
    rw [List.getElem?_eq_getElem hi, List.getElem?_eq_getElem (by rw [rds_length]; exact hi)]
    simpa using h1.symm
  · rw [List.getElem?_eq_none (by omega), List.getElem?_eq_none (by rw [rds_length]; omega)]
theorem no_bat_first {rd : Nat → List Nat} {s m : Nat} (h : (rd s).getD 0 0 ≠ 76) : ∀ rs n, ¬ Bat rd s m rs n := fun _ _ hb => h hb.first
end Go.Proofs.Yteckglnfkgfefaa
