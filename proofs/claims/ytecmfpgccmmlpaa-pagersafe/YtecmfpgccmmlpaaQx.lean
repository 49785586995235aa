/- contracts: Unsynced -/
import Derived.Test.YtecmfpgccmmlpaaPx
import Derived.Test.YtecmfpgccmmlpaaJ
import Derived.Lib.SlKeysI
namespace Go.Proofs.Ytecmfpgccmmlpaa
open Go.RowKit Go.Maps Go.Sort Go.Shelf
variable {X : Nat → Prop}
/-- slices.Sort, at the fence that asks nothing -/
theorem sortsA (m : Nat) : AnyZI.SortsIn Try.prog Try.sortedA_ren Fence.wide m :=
  ⟨fun blk off cap ss W hH hblk hsz => callsIn_wide.2 (AnyM.slices_Sort_int Try.sortA blk off cap ss W hH hblk hsz),
   fun p cap W => callsIn_wide.2 (AnyM.slices_Sort_int_none Try.sortA p cap W)⟩
def St.uns (st : St) (n : Nat) : List Nat := (List.range n).filter (fun k => (st.fr k).isSome)
def St.unsI (st : St) (n : Nat) : List Int := (st.uns n).map (fun k : Nat => (k : Int))
theorem uns_sorted (st : St) (n : Nat) : (st.uns n).Pairwise (· < ·) := List.Pairwise.filter _ List.pairwise_lt_range
theorem uns_mem {st : St} {n k : Nat} : k ∈ st.uns n ↔ k < n ∧ (st.fr k).isSome = true := by simp [St.uns]
theorem uns_len (st : St) (n : Nat) : (st.uns n).length ≤ n := by
  have := List.length_filter_le (fun k => (st.fr k).isSome) (List.range n)
  simpa [St.uns] using this
theorem unsI_perm {w : World} {b m n : Nat} {D : DataW Value} {st : St} (hown : w.ownsMap Try.prog 3 heldR b m D) (hfr : FrD X w D n st.fr) : (st.unsI n).Perm (intKeys D) := by
  obtain ⟨es, hD, hpw, _⟩ := hown.entries kint
  obtain ⟨es', hD', hko⟩ := hown.keysOf
  obtain rfl : es = es' := by rw [hD] at hD'; simpa using hD'
  subst hD
  refine perm_intKeys hpw (fun p hp => by obtain ⟨v, hv⟩ := hko p hp; obtain ⟨x, _, hx, _⟩ := Maps.keyOf_i64 Try.underlying3 hv; exact ⟨x, hx⟩) ?_ (fun x => ?_)
  · refine List.pairwise_map.2 ((uns_sorted st n).imp fun {a b} h => ?_)
    intro e
    have : a = b := by exact_mod_cast e
    omega
  · constructor
    · intro hx
      obtain ⟨k, hk, rfl⟩ := List.mem_map.1 hx
      obtain ⟨hkn, hs⟩ := uns_mem.1 hk
      rcases hfr.1 k hkn with ⟨h1, _⟩ | ⟨l, v, _, h2, _⟩
      · rw [h1] at hs; cases hs
      · exact h2
    · intro hh
      obtain ⟨k, hk, hkk⟩ := hfr.2 _ hh
      have hxk : x = k := by unfold ky at hkk; cases hkk; rfl
      subst hxk
      refine List.mem_map.2 ⟨k, uns_mem.2 ⟨hk, ?_⟩, rfl⟩
      rcases hfr.1 k hk with ⟨_, h2⟩ | ⟨l, v, h1, _⟩
      · rw [← hkk, hh] at h2; cases h2
      · rw [h1]; rfl
theorem unsI_sort {ss : List Int} {st : St} {n : Nat} (h : ss.Perm (st.unsI n)) : ss.mergeSort (fun x y => decide (x ≤ y)) = st.unsI n := by
  have h1 : ss.mergeSort leI = (st.unsI n).mergeSort leI := mergeSort_of_perm_i h
  have h2 : (st.unsI n).mergeSort leI = st.unsI n := by
    refine List.mergeSort_of_pairwise ?_
    refine List.pairwise_map.2 ((uns_sorted st n).imp fun {a b} h => ?_)
    simp only [leI, decide_eq_true_eq]
    omega
  exact h1.trans h2
theorem size_uns {w : World} {b m n : Nat} {D : DataW Value} {st : St} (hown : w.ownsMap Try.prog 3 heldR b m D) (hfr : FrD X w D n st.fr) : Maps.size D ≤ n := by
  have h := (unsI_perm hown hfr).length_eq
  obtain ⟨es, hD, _, _⟩ := hown.entries kint
  subst hD
  have : (intKeys (DataW.map es)).length = Maps.size (DataW.map es) := by simp [intKeys, Maps.size]
  have h2 := uns_len st n
  simp only [St.unsI, List.length_map] at h
  omega
set_option maxHeartbeats 1000000 in
/-- (*Disk).Unsynced -/
theorem uns_any (w : World) (g gs b n : Nat) (st : St) (h : IsD X w g gs b n st) :
    Calls Try.prog 53 #[.pointer (some ⟨g, 0, none⟩)] w fun e w' => ∃ v, e = .returned v ∧ w'.ownsRow w.heap.size 3 1 v (st.uns n).length ((st.unsI n).map encZ) ∧ Below w.heap.size w w' := by
  refine (callsIn_wide (n := 6)).1 ?_
  obtain ⟨nn, D0, hown, hm, hfr⟩ := h.map
  have hbl := hown.lt
  have hsz := size_uns hown hfr
  have hn1 := h.n1
  have HP := hide (unsI_perm hown hfr)
  have c1 := h.cells.c1
  have hmax : Maps.size D0 ≤ maxLen := Nat.le_trans hsz (Nat.le_trans hn1 (by decide))
  have hbytes : Maps.size D0 * 8 ≤ 140737488355328 := by omega
  have hseq : SeqGives Fence.wide 2 Try.prog 73 #[.pointer (some ⟨w.heap.size, 0, none⟩)] encZ (fun ss => ss.Perm (intKeys D0)) (Maps.size D0) (w.alloc (.cells #[.map (some b)] 66)) :=
    AnyZI.keys_gives (ρ := Try.keysA_ren) { Try.keysA with } Fence.wide _ trivial rfl (by omega) w.heap.size b nn D0 _ (by simp) (by simp) (by
      obtain ⟨es, clock, hb, Ft, hs, hD⟩ := hown
      exact ⟨es, clock, (Below.heap_alloc _ _ b hbl).trans hb, Ft, hs, hD⟩)
  have cK : ∀ mb W, CallsIn Fence.wide 5 Try.prog 67 #[.map mb] W fun e w' => e = .returned (.func (.func 73) #[] #[.pointer (some ⟨W.heap.size, 0, none⟩)]) ∧ w' = W.alloc (.cells #[.map mb] 66) := fun mb W => AnyZI.keys_in Try.keysA Fence.wide 5 trivial rfl mb W
  have cS := AnyZI.sorted_in Try.sortedA Fence.wide 5 trivial trivial trivial trivial rfl (by omega) (sortsA _) (enters_of Try.func72 (by kernel_rfl) rfl) 73 #[.pointer (some ⟨w.heap.size, 0, none⟩)] trivial (enters_of Try.func73 (by kernel_rfl) rfl) _ _ hmax hbytes _ hseq
  change CallsIn _ _ Try.prog 66 _ _ _ at cS
  have hfK : Fence.wide.fn 67 := trivial
  have hfS : Fence.wide.fn 66 := trivial
  clear h hown hm hfr hmax hbytes hsz hn1
  refine callsIn_of_wp Try.func53 rfl trivial ?_ rfl
  simp only [Try.ntmps53, List.size_toArray, List.length_cons, List.length_nil, Nat.reduceAdd, Nat.reduceSub, Array.replicate_succ, Array.replicate_zero, List.push_toArray, List.append_toArray, List.nil_append, List.cons_append]
  gi_wp2_with (first
    | (gi_at_call 67; refine (cK _ _).mono ?_; rintro e w' ⟨rfl, rfl⟩)
    | (gi_at_call 66; refine cS.mono ?_; rintro e w' ⟨v, ss, rfl, hS, hrow, hnil, hb⟩))
  go_ret
  have hp : ss.Perm (st.unsI n) := hS.trans HP.out.symm
  rw [unsI_sort hp, hp.length_eq] at hrow
  simp only [St.unsI, List.length_map] at hrow
  exact ⟨v, rfl, ownsRow_base_a hrow (by simp), ((Below.refl _ w).alloc (Nat.le_refl _) _).trans (hb.mono (by simp))⟩
theorem uns_nil (w : World) : Calls Try.prog 53 #[.pointer none] w fun e w' => e = .returned (.slice none 0 0) ∧ w' = w := by
  go_enter Try.func53, Try.ntmps53
  go_wp2
  go_ret
  exact ⟨rfl, rfl⟩
end Go.Proofs.Ytecmfpgccmmlpaa
