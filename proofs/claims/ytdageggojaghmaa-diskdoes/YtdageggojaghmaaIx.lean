/- what fates make of sectors -/
import Derived.Test.YtdageggojaghmaaDx
namespace Go.Proofs.Ytdageggojaghmaa
open Go.RowKit
theorem fated_any (fr : Nat → Option (List Nat)) (l : List (Nat × Nat)) (us : List Nat) (f : Nat → List Nat) (hnd : us.Pairwise (· < ·)) : ∀ k, k ≤ us.length → ∀ i, fated fr l us f k i = f i ∨ ((∃ j, j < k ∧ us[j]? = some i) ∧ ∃ x y, fated fr l us f k i = outL x y (f i) ((fr i).getD []))
  | 0, _, i => .inl rfl
  | k + 1, hk, i => by
    have ih := fated_any fr l us f hnd k (by omega)
    have hu : us[k]? = some (us.getD k 0) := by rw [List.getD_eq_getElem?_getD, List.getElem?_eq_getElem (by omega)]; rfl
    generalize us.getD k 0 = u at *
    have e : fated fr l us f (k + 1) i = setSyn (fated fr l us f k) (us.getD k 0) (outL (l.getD k (0, 0)).1 (l.getD k (0, 0)).2 (fated fr l us f k (us.getD k 0)) ((fr (us.getD k 0)).getD [])) i := rfl
    have hg : us.getD k 0 = u := by rw [List.getD_eq_getElem?_getD, hu]; rfl
    rw [e, hg]
    unfold setSyn
    by_cases hi : i = u
    · subst hi
      rw [if_pos rfl]
      have h0 : fated fr l us f k i = f i := by
        rcases ih i with h | ⟨⟨j, hj, hji⟩, _⟩
        · exact h
        · exfalso
          have h1 := (List.getElem?_eq_some_iff.1 hji)
          have h2 := (List.getElem?_eq_some_iff.1 hu)
          obtain ⟨a1, a2⟩ := h1
          obtain ⟨b1, b2⟩ := h2
          have := List.pairwise_iff_getElem.1 hnd j k a1 b1 hj
          omega
      rw [h0]
      exact .inr ⟨⟨k, by omega, hu⟩, _, _, rfl⟩
    · rw [if_neg hi]
      rcases ih i with h | ⟨⟨j, hj, hji⟩, x, y, h⟩
      · exact .inl h
      · exact .inr ⟨⟨j, by omega, hji⟩, x, y, h⟩
/-- a grain -/
def grain (l : List Nat) (t : Nat) : List Nat := (l.drop (t * 512)).take 512
theorem patch_length {m m2 : List Nat} {f G N : Nat} (h : m.length = N) (h2 : m2.length = N) (hf : f + G ≤ N) : (patch m m2 f G).length = N := by
  simp [patch]; omega
theorem tornK_length {mask : Nat} {m m2 : List Nat} (h : m.length = 4096) (h2 : m2.length = 4096) : ∀ k, k ≤ 8 → (tornK mask m m2 k).length = 4096
  | 0, _ => h
  | k + 1, hk => by
    rw [tornK]
    split
    · exact patch_length (tornK_length h h2 k (by omega)) h2 (by omega)
    · exact tornK_length h h2 k (by omega)
theorem grain_get {l : List Nat} {t j : Nat} (hj : j < 512) : (grain l t)[j]? = l[t * 512 + j]? := by
  unfold grain
  rw [List.getElem?_take_of_lt hj, List.getElem?_drop]
theorem grain_ext {l m : List Nat} {t : Nat} (h : ∀ j, j < 512 → l[t * 512 + j]? = m[t * 512 + j]?) : grain l t = grain m t := by
  apply List.ext_getElem?
  intro j
  by_cases hj : j < 512
  · rw [grain_get hj, grain_get hj]; exact h j hj
  · rw [List.getElem?_eq_none (by simp [grain]; omega), List.getElem?_eq_none (by simp [grain]; omega)]
theorem patch_get {m m2 : List Nat} {f G N : Nat} (h : m.length = N) (h2 : m2.length = N) (hf : f + G ≤ N) (j : Nat) : (patch m m2 f G)[j]? = if f ≤ j ∧ j < f + G then m2[j]? else m[j]? := by
  unfold patch
  have l1 : (m.take f).length = f := by simp; omega
  have l2 : ((m2.drop f).take G).length = G := by simp; omega
  by_cases h1 : j < f
  · rw [if_neg (by omega), List.getElem?_append_left (by simp only [List.length_append]; omega), List.getElem?_append_left (by omega), List.getElem?_take_of_lt h1]
  · by_cases h3 : j < f + G
    · rw [if_pos ⟨by omega, h3⟩, List.getElem?_append_left (by simp only [List.length_append]; omega), List.getElem?_append_right (by omega), l1, List.getElem?_take_of_lt (by omega), List.getElem?_drop]
      congr 1
      omega
    · rw [if_neg (by omega), List.getElem?_append_right (by simp only [List.length_append]; omega), List.getElem?_drop]
      congr 1
      simp only [List.length_append]
      omega
theorem tornK_grain {mask : Nat} {m m2 : List Nat} (h : m.length = 4096) (h2 : m2.length = 4096) : ∀ k, k ≤ 8 → ∀ t, grain (tornK mask m m2 k) t = grain m t ∨ grain (tornK mask m m2 k) t = grain m2 t
  | 0, _, t => .inl rfl
  | k + 1, hk, t => by
    rw [tornK]
    split
    · by_cases htk : t = k
      · subst htk
        right
        apply grain_ext
        intro j hj
        rw [patch_get (tornK_length h h2 t (by omega)) h2 (by omega), if_pos ⟨by omega, by omega⟩]
      · have e : grain (patch (tornK mask m m2 k) m2 (k * 512) 512) t = grain (tornK mask m m2 k) t := by
          apply grain_ext
          intro j hj
          rw [patch_get (tornK_length h h2 k (by omega)) h2 (by omega), if_neg (by omega)]
        rw [e]
        exact tornK_grain h h2 k (by omega) t
    · exact tornK_grain h h2 k (by omega) t
theorem full_full {l : List Nat} (h : l.length = 4096) : full l = l := by
  unfold full fullN
  rw [h]
  simp
theorem outL_grain {x y : Nat} {lo lf : List Nat} (ho : lo.length ≤ 4096) (hf : lf.length ≤ 4096) (t : Nat) : grain (full (outL x y lo lf)) t = grain (full lo) t ∨ grain (full (outL x y lo lf)) t = grain (full lf) t := by
  unfold outL
  split
  · exact .inr rfl
  · split
    · rw [full_full (tornK_length (full_length ho) (full_length hf) 8 (Nat.le_refl _))]
      exact tornK_grain (full_length ho) (full_length hf) 8 (Nat.le_refl _) t
    · exact .inl rfl
/-- only what was written is unlike what was synced, and each grain is one of two -/
theorem fates_safe (sw : St) (n : Nat) (l : List (Nat × Nat)) (i : Nat) (hlo : (sw.syn i).length ≤ 4096) (hlr : (sw.reads i).length ≤ 4096) :
    (i ∉ sw.uns n → (sw.fates l (sw.uns n) (sw.uns n).length).syn i = sw.syn i) ∧ ∀ t, grain (full ((sw.fates l (sw.uns n) (sw.uns n).length).syn i)) t = grain (full (sw.syn i)) t ∨ grain (full ((sw.fates l (sw.uns n) (sw.uns n).length).syn i)) t = grain (full (sw.reads i)) t := by
  have key := fated_any sw.fr l (sw.uns n) sw.syn (uns_sorted sw n) (sw.uns n).length (Nat.le_refl _) i
  have e : (sw.fates l (sw.uns n) (sw.uns n).length).syn i = fated sw.fr l (sw.uns n) sw.syn (sw.uns n).length i := rfl
  rw [e]
  rcases key with h | ⟨⟨j, hj, hji⟩, x, y, h⟩
  · rw [h]
    exact ⟨fun _ => rfl, fun t => .inl rfl⟩
  · have hmem := List.mem_of_getElem? hji
    refine ⟨fun hn => absurd hmem hn, fun t => ?_⟩
    obtain ⟨_, h2⟩ := uns_mem.1 hmem
    obtain ⟨lf, hlf⟩ := Option.isSome_iff_exists.1 h2
    have hr : sw.reads i = lf := by unfold St.reads; rw [hlf]; rfl
    rw [h, hlf, hr]
    rw [hr] at hlr
    exact outL_grain hlo hlr t
theorem write_quiet (s : St) (n : Nat) (i : Int) (l : List Nat) (hd : s.down = false) (ha : s.arm = false) :
    (s.write n i l).1.arm = false ∧ (s.write n i l).1.down = false ∧ (s.write n i l).1.syn = s.syn := by
  have hd' : ¬ s.down = true := by rw [hd]; simp
  unfold St.write
  rw [if_neg hd']
  split
  · exact ⟨ha, hd, rfl⟩
  · split
    · exact ⟨ha, hd, rfl⟩
    · rw [if_neg (by rw [ha]; simp)]
      unfold St.goes
      rw [ha]
      exact ⟨ha, hd, rfl⟩
/-- the writes among steps -/
def St.wsteps (n : Nat) (l : List Stp) (st : St) : Nat → St
  | 0 => st
  | k + 1 => if (l.getD k Stp0).kind = 1 then ((st.wsteps n l k).step n (l.getD k Stp0)).1 else st.wsteps n l k
theorem wsteps_inv (n : Nat) (l : List Stp) (st : St) (hd : st.down = false) (ha : st.arm = false) : ∀ k, (st.wsteps n l k).arm = false ∧ (st.wsteps n l k).down = false ∧ (st.wsteps n l k).syn = st.syn ∧ (st.wsteps n l k).wr ≤ st.wr + k
  | 0 => ⟨ha, hd, rfl, Nat.le_refl _⟩
  | k + 1 => by
    obtain ⟨h1, h2, h3, h4⟩ := wsteps_inv n l st hd ha k
    simp only [St.wsteps]
    split
    · rename_i hk
      have hw := step_wr (st.wsteps n l k) n (l.getD k Stp0)
      have e : (st.wsteps n l k).step n (l.getD k Stp0) = (st.wsteps n l k).write n (l.getD k Stp0).sec (l.getD k Stp0).dat := by
        unfold St.step; rw [if_pos hk]
      rw [e] at hw ⊢
      obtain ⟨g1, g2, g3⟩ := write_quiet (st.wsteps n l k) n (l.getD k Stp0).sec (l.getD k Stp0).dat h2 h1
      exact ⟨g1, g2, g3.trans h3, by omega⟩
    · exact ⟨h1, h2, h3, by omega⟩
theorem rest_cases (s : St) (n : Nat) (l : List (Nat × Nat)) (hd : s.down = true) :
    s.rest n l = (s, 3) ∨ s.rest n l = (s, 15) ∨ s.rest n l = ((s.fates l (s.uns n) (s.uns n).length).back, 0) := by
  unfold St.rest
  rw [if_pos hd]
  split
  · exact .inl rfl
  · split
    · exact .inr (.inr rfl)
    · exact .inr (.inl rfl)
theorem IsU.below {w w' : World} {base : Nat} {a : Option Addr} {l : List Nat} (h : IsU w base a l) (hb : Below w.heap.size w w') : IsU w' base a l := by
  intro i hi
  obtain ⟨q, e, hq, hlt, x, hx, hc⟩ := h i hi
  exact ⟨q, e, hq, Nat.lt_of_lt_of_le hlt hb.size, x, hx, (World.cell?_of_block (hb.block q hlt)).trans hc⟩
/-- a grain of a sector, as a slice -/
theorem grain_isB {w : World} {q : Nat} {l : List Nat} (h : Row w q 4096 4096 l) (hx : ∀ x ∈ l, x < 256) (t : Nat) (ht : t < 8) : IsB w (some ⟨q, t * 512, none⟩) 512 (4096 - t * 512) (grain l t) := by
  have h1 := ((h.isB hx).back (t * 512) (by omega)).front 512 (by omega)
  rw [Nat.zero_add] at h1
  exact h1
end Go.Proofs.Ytdageggojaghmaa
