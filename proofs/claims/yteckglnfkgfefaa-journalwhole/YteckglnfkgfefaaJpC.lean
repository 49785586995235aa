/- keep: a disk on which all is kept -/
import Derived.Test.YteckglnfkgfefaaJoW
import Derived.Test.YteckglnfkgfefaaEx
namespace Go.Proofs.Yteckglnfkgfefaa
open Go.RowKit Cod
set_option maxRecDepth 40000
set_option linter.unusedSimpArgs false
set_option linter.unusedVariables false
theorem Try.info87 : (Try.prog.info? 87).map (fun i => (i.zero, i.size, i.bytes)) = some (some (.agg #[.int .u8 0, .int .u8 0]), 2, 2) := by kernel_rfl
theorem run_mk37 (W : World) (n : Nat) (hb : n ≤ 1024) :
    (Instr.makeSlice 37 (.int .i64 (n : Int)) (.int .i64 (n : Int))).run Try.prog W = .ok (.slice (some ⟨W.heap.size, 0, none⟩) n n) (W.alloc (.cells (madeCells #[.int .u8 0, .int .u8 0] (n * 2)) 87)) := by
  obtain ⟨i0, hi, hz0, hz1, hz2⟩ := info_parts Try.info87
  have hr := run_make (P := Try.prog) W 37 87 i0 _ Try.underlying37 hi hz0 .i64 .i64 (n : Int) (n : Int) (by omega) (by omega) (by rw [hz2]; omega) (by omega)
  rw [hr, hz1]
  simp only [Int.toNat_natCast]
  rfl
/-- a row of fates, of which the first k are to keep -/
structure Fk (W : World) (r n k : Nat) : Prop where
  ex : ∃ cur : Array Value, W.heap[r]? = some (.cells cur 87 (0, 0)) ∧ cur.size = n * 2 ∧ ∀ i, i < n → cur[i * 2]? = some (.int .u8 ((if i < k then 1 else 0 : Nat) : Int)) ∧ cur[i * 2 + 1]? = some (.int .u8 0)
theorem Fk.made (W : World) (n : Nat) : Fk (W.alloc (.cells (madeCells #[.int .u8 0, .int .u8 0] (n * 2)) 87)) W.heap.size n 0 := by
  refine ⟨_, heap_alloc_new W _, size_madeCells _ _, fun i hi => ⟨?_, ?_⟩⟩
  · simp [madeCells, show i * 2 < n * 2 by omega]
  · simp [madeCells, show i * 2 + 1 < n * 2 by omega, Nat.add_mod]
theorem Fk.step {W : World} {r n k : Nat} (h : Fk W r n k) (hk : k < n) : Fk (W.setCell ⟨r, k * 2, none⟩ (.int .u8 1)) r n (k + 1) := by
  obtain ⟨cur, h1, h2, h3⟩ := h.ex
  refine ⟨_, blk_set h1 _, by simp [h2], fun i hi => ⟨?_, ?_⟩⟩
  · by_cases e : i = k
    · subst e
      rw [Array.getElem?_setIfInBounds_self_of_lt (by omega), if_pos (Nat.lt_succ_self _)]
      rfl
    · rw [Array.getElem?_setIfInBounds_ne (by omega), (h3 i hi).1]
      by_cases hlt : i < k
      · rw [if_pos hlt, if_pos (by omega)]
      · rw [if_neg hlt, if_neg (by omega)]
  · rw [Array.getElem?_setIfInBounds_ne (by omega), (h3 i hi).2]
theorem Fk.cell {W : World} {r n k i : Nat} (h : Fk W r n k) (hi : i < n) : W.cell? ⟨r, i * 2, none⟩ = some (.int .u8 ((if i < k then 1 else 0 : Nat) : Int)) ∧ W.cell? ⟨r, i * 2 + 1, none⟩ = some (.int .u8 0) ∧ W.frozen? ⟨r, i * 2, none⟩ = false := by
  obtain ⟨cur, h1, h2, h3⟩ := h.ex
  refine ⟨?_, ?_, ?_⟩
  · simp only [World.cell?, h1]; exact (h3 i hi).1
  · simp only [World.cell?, h1]; exact (h3 i hi).2
  · simp [World.frozen?, h1]
theorem Fk.isF {W : World} {r n : Nat} (h : Fk W r n n) (hr : r < W.heap.size) (hn : n ≤ 1024) : IsF W (some ⟨r, 0, none⟩) n n (List.replicate n (1, 0)) := by
  refine ⟨by simp, Nat.le_refl _, by unfold maxLen; omega, fun x hx => by rw [List.eq_of_mem_replicate hx]; decide, fun i hi => ⟨r, 0, rfl, hr, ?_, ?_⟩⟩
  · have := (h.cell hi).1
    rw [if_pos hi] at this
    rw [Nat.zero_add, this]
    simp [List.getD_eq_getElem?_getD, List.getElem?_replicate, hi]
  · have := (h.cell hi).2.1
    rw [Nat.zero_add, this]
    simp [List.getD_eq_getElem?_getD, List.getElem?_replicate, hi]
theorem good_keep (n : Nat) : GoodF (List.replicate n (1, 0)) := fun x hx => by rw [List.eq_of_mem_replicate hx]; decide
theorem fated_keep (fr : Nat → Option (List Nat)) (n : Nat) (us : List Nat) (f : Nat → List Nat) (hn : us.length ≤ n) (x : Nat) : ∀ k, k ≤ us.length → fated fr (List.replicate n (1, 0)) us f k x = if x ∈ us.take k then (fr x).getD [] else f x := by
  intro k
  induction k with
  | zero => intro _; simp [fated]
  | succ k ih =>
    intro hk
    have hg : us.getD k 0 = us[k] := by rw [List.getD_eq_getElem?_getD, List.getElem?_eq_getElem (by omega)]; rfl
    have hl : (List.replicate n ((1 : Nat), (0 : Nat))).getD k (0, 0) = (1, 0) := by simp [List.getD_eq_getElem?_getD, List.getElem?_replicate, show k < n by omega]
    show setSyn _ _ _ x = _
    unfold setSyn
    rw [hl, List.take_succ_eq_append_getElem (by omega)]
    by_cases e : x = us.getD k 0
    · rw [if_pos e, if_pos (by rw [e, hg]; exact List.mem_append_right _ (List.mem_singleton.2 rfl)), e]
      rfl
    · rw [if_neg e, ih (by omega)]
      have : (x ∈ us.take k ++ [us[k]]) ↔ x ∈ us.take k := by
        rw [List.mem_append, List.mem_singleton, ← hg]
        exact ⟨fun h => h.elim id (fun h => absurd h e), .inl⟩
      by_cases h2 : x ∈ us.take k
      · rw [if_pos h2, if_pos (this.2 h2)]
      · rw [if_neg h2, if_neg (fun h => h2 (this.1 h))]
theorem over_keep {n x : Nat} {st : St} (hx : x < n) : (st.over n (List.replicate n (1, 0))).reads x = st.reads x := by
  show fated st.fr _ (st.uns n) st.syn (st.uns n).length x = (st.fr x).getD (st.syn x)
  rw [fated_keep _ _ _ _ (uns_len st n) _ _ (Nat.le_refl _), List.take_length]
  by_cases h : x ∈ st.uns n
  · rw [if_pos h]
    obtain ⟨l, hl⟩ := Option.isSome_iff_exists.1 (uns_mem.1 h).2
    rw [hl]; rfl
  · rw [if_neg h]
    cases hf : st.fr x with
    | none => rfl
    | some l => exact absurd (uns_mem.2 ⟨hx, by rw [hf]; rfl⟩) h
/-- what keep answers -/
def KpPost (X : Nat → Prop) (w : World) (n : Nat) (st : St) (e : Ending) (w' : World) : Prop :=
  (∃ g gs b st', e = .returned (.pointer (some ⟨g, 0, none⟩)) ∧ IsD X w' g gs b n st' ∧ st'.down = false ∧ (∀ x, x < n → st'.reads x = st.reads x) ∧ ∀ i, SD g gs b i → w.heap.size ≤ i) ∧ Below w.heap.size w w'
theorem KpPost.ok {X : Nat → Prop} {w w' : World} {g gs b n : Nat} {st st' : St} (h : IsD X w' g gs b n st') (hd : st'.down = false) (hr : ∀ x, x < n → st'.reads x = st.reads x) (hs : ∀ i, SD g gs b i → w.heap.size ≤ i) (hb : Below w.heap.size w w') : KpPost X w n st (.returned (.pointer (some ⟨g, 0, none⟩))) w' :=
  ⟨⟨g, gs, b, st', rfl, h, hd, hr, hs⟩, hb⟩
theorem cut_down (st : St) : st.cut.1.down = true := by
  unfold St.cut
  by_cases h : st.down = true
  · rw [if_pos h]; exact h
  · rw [if_neg h]; rfl
set_option maxHeartbeats 4000000 in
theorem keep_any {X : Nat → Prop} (w : World) (g gs b n : Nat) (st : St) (h : IsD X w g gs b n st) :
    Calls Try.prog 23 #[.pointer (some ⟨g, 0, none⟩)] w (KpPost X w n st) := by
  have HK := hide (fork_any w g gs b n st h)
  have hn1 := h.n1
  clear h
  have hmk := fun W => run_mk37 W n hn1
  go_enter Try.func23, Try.ntmps23
  go_wp2_with fail
  refine HK.out.mono ?_
  rintro e w1 ⟨g', gs', b', Y, rfl, hI1, hb1, hS⟩
  have HB1 := hide hb1
  have HS := hide hS
  have HC := hide (cut_any w1 g' gs' b' n _ hI1)
  clear hI1 hb1 hS HK
  go_wp2_with fail
  refine HC.out.mono ?_
  rintro e w2 ⟨rfl, hI2, hf2⟩
  have HB2 : Hid (Below w.heap.size w w2) := hide (HB1.out.trans (hf2.toBelow HB1.out.size HS.out))
  have HD2 : Hid ((St.cut { st with xs := Y }).1.down = true) := hide (cut_down _)
  have HI2 := hide hI2
  have HN := hide (sectors_any w2 g' gs' b' n _ hI2)
  generalize hst2 : (St.cut { st with xs := Y }).1 = st2 at *
  have HR2 : Hid (st2.reads = st.reads) := hide (by rw [← hst2, cut_reads]; rfl)
  clear hst2 hI2 hf2 HC HB1
  go_wp2_with fail
  refine HN.out.mono ?_
  rintro e w3 ⟨rfl, rfl⟩
  clear HN
  have HFK := hide (Fk.made w3 n)
  have HB3 : Hid (Below w.heap.size w (w3.alloc (.cells (madeCells #[.int .u8 0, .int .u8 0] (n * 2)) 87))) := hide (HB2.out.alloc HB2.out.size _)
  have HR3 : Hid (w3.heap.size < (w3.alloc (.cells (madeCells #[.int .u8 0, .int .u8 0] (n * 2)) 87)).heap.size) := hide (by simp)
  have HBW := hide ((Below.refl w3.heap.size w3).alloc (Nat.le_refl _) (.cells (madeCells #[.int .u8 0, .int .u8 0] (n * 2)) 87))
  have HBE : Hid (∀ V, Below w3.heap.size w3 V → IsD X V g' gs' b' n st2) := hide (fun V hV => HI2.out.below hV)
  have HBV : Hid (∀ V, Below w3.heap.size w3 V → Below w.heap.size w V) := hide (fun V hV => HB2.out.trans (hV.mono HB2.out.size))
  have HB0 := hide HB2.out.size
  go_wp2_with fail
  generalize hW : w3.alloc (.cells (madeCells #[.int .u8 0, .int .u8 0] (n * 2)) 87) = W at *
  generalize hr : w3.heap.size = r at *
  clear hW HB2 HI2 HB3
  go_loopw [15] (fun i wr => ∃ j : Nat, j ≤ n ∧ i = .int .i64 (j : Nat) ∧ Fk wr r n j ∧ Below r w3 wr ∧ r < wr.heap.size) (fun i _ => n - (intOf i).toNat)
  case atStart => exact ⟨0, Nat.zero_le _, rfl, HFK.out, HBW.out, HR3.out⟩
  case round =>
    obtain ⟨j, hj, rfl, hk, hb, hlt⟩ := hrel
    have HKj := hide hk
    have HBj := hide hb
    clear hk hb
    by_cases hjn : j < n
    · have d1 : decide ((j : Int) < (n : Int)) = true := decide_eq_true (by omega)
      obtain ⟨z1, z2, z3⟩ := HKj.out.cell hjn
      have HK2 := hide (HKj.out.step hjn)
      have HB5 : Hid (Below r w3 (wr.setCell ⟨r, j * 2, none⟩ (.int .u8 1)) ∧ r < (wr.setCell ⟨r, j * 2, none⟩ (.int .u8 1)).heap.size) := hide ⟨HBj.out.setCell (p := ⟨r, j * 2, none⟩) (Nat.le_refl _) _, by simpa using hlt⟩
      go_wp2_with fail
      go_roundw
      case rel => exact ⟨j + 1, by omega, by go_num, HK2.out, HB5.out⟩
      case measure => simp [intOf]; omega
    · have d1 : decide ((j : Int) < (n : Int)) = false := decide_eq_false (by omega)
      have hjn' : j = n := by omega
      have HF : Hid (IsF wr (some ⟨r, 0, none⟩) n n (List.replicate n (1, 0))) := hide (by
        have := HKj.out
        rw [hjn'] at this
        exact this.isF hlt hn1)
      have HRS := hide (rest_good wr g' gs' b' n st2 (HBE.out wr HBj.out) HD2.out (some ⟨r, 0, none⟩) n n (List.replicate n (1, 0)) HF.out hn1 (good_keep n))
      clear hjn'
      go_wp2_with fail
      refine HRS.out.mono ?_
      rintro e w5 ⟨rfl, hI5, hf5⟩
      have HI5 := hide hI5
      have hbv := HBV.out wr HBj.out
      have HB5 : Hid (Below w.heap.size w w5) := hide (hbv.trans (hf5.toBelow hbv.size HS.out))
      clear hI5 hf5 hbv HRS
      go_wp2_with fail
      go_ret
      exact KpPost.ok HI5.out rfl (fun x hx => by rw [← HR2.out]; exact over_keep hx) HS.out HB5.out
end Go.Proofs.Yteckglnfkgfefaa
