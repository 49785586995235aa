/- NJ NG -/
import Derived.Test.YtebikoekpbnpbaaNI
import Derived.Test.YtebikoekpbnpbaaNF
/- slices.Delete of one, over a list of slices of its own -/
namespace Go.Proofs.Ytebikoekpbnpbaa
open Go.RowKit Go.Lib Cod
set_option maxRecDepth 100000
set_option linter.unusedVariables false
set_option linter.unusedSimpArgs false
theorem setCells_blk {g : Nat} {t : TypeId} : ∀ (vs : List Value) (o : Nat) (w : World) (cs : Array Value), w.heap[g]? = some (.cells cs t (0, 0)) → o + vs.length ≤ cs.size →
    (w.setCells g o vs).heap[g]? = some (.cells (cs.toList.take o ++ vs ++ cs.toList.drop (o + vs.length)).toArray t (0, 0))
  | [], o, w, cs, h, _ => by simp [World.setCells, h]
  | v :: r, o, w, cs, h, hl => by
    rw [World.setCells, setCells_blk r (o + 1) _ _ (blk_setN h v) (by simp at hl ⊢; omega)]
    have e := list_seg_step cs.toList o v r (by simp at hl ⊢; omega)
    rw [Array.toList_setIfInBounds]
    simp only [List.length_cons]
    rw [← e, Nat.add_assoc, Nat.add_comm 1]
theorem setCells_out {g : Nat} : ∀ (vs : List Value) (o : Nat) (w : World) (b : Nat), b ≠ g → (w.setCells g o vs).heap[b]? = w.heap[b]?
  | [], o, w, b, _ => rfl
  | v :: r, o, w, b, h => by rw [World.setCells, setCells_out r _ _ b h]; exact Below.heap_setCell _ _ _ _ h
theorem setCells_size {g : Nat} : ∀ (vs : List Value) (o : Nat) (w : World), (w.setCells g o vs).heap.size = w.heap.size
  | [], o, w => rfl
  | v :: r, o, w => by rw [World.setCells, setCells_size r]; simp [World.setCell]
theorem setCells_below {B g : Nat} (hg : B ≤ g) {a : World} : ∀ (vs : List Value) (o : Nat) (w : World), Below B a w → Below B a (w.setCells g o vs)
  | [], o, w, h => h
  | v :: r, o, w, h => setCells_below hg r _ _ (h.setCell hg v)
theorem zero26 (w : World) : (zeroValue 26).run Try.prog w = .ok (Value.slice none 0 0) w := by
  obtain ⟨i0, hi0, hz0, hzs, hzb⟩ := info_parts info26
  simp [zeroValue, typeInfo, hi0, hz0]
set_option maxHeartbeats 4000000 in
theorem del_any (g n i : Nat) (sv : List Value) (w : World) (hr : w.heap[g]? = some (.cells sv.toArray 26 (0, 0))) (hn : sv.length = n) (hi : i < n) (hb : n ≤ 2000000) (h1c : ∀ v ∈ sv, v.oneCell' = true) :
    Calls Try.prog 55 #[.slice (some ⟨g, 0, none⟩) n n, .int .i64 (i : Nat), .int .i64 ((i + 1 : Nat) : Int)] w fun e w' => e = .returned (.slice (some ⟨g, 0, none⟩) (n - 1) n) ∧
      w'.heap[g]? = some (.cells (sv.take i ++ sv.drop (i + 1) ++ [Value.slice none 0 0]).toArray 26 (0, 0)) ∧ (∀ b, b ≠ g → w'.heap[b]? = w.heap[b]?) ∧ w'.heap.size = w.heap.size ∧ Below g w w' := by
  obtain ⟨i0, hi0, hz0, hzs, hzb⟩ := info_parts info26
  obtain ⟨j, hj⟩ : ∃ j, j = i + 1 := ⟨_, rfl⟩
  have hjn : j ≤ n := by omega
  rw [← hj]
  obtain ⟨news, hnews⟩ : ∃ news, news = sv.drop j := ⟨_, rfl⟩
  have hlen : news.length = n - j := by rw [hnews, List.length_drop, hn]
  obtain ⟨A, hA, hsrc⟩ : ∃ A : Addr, (if n = j then some (⟨g, 0, none⟩ : Addr) else some ⟨g, j, none⟩) = some A ∧ Hid (∀ t u, news[t]? = some u → w.drew.cell? (A.add t) = some u) := by
    by_cases h : n = j
    · refine ⟨⟨g, 0, none⟩, by simp [h], fun t u hu => ?_⟩
      have h0 : news.length = 0 := by rw [hlen]; omega
      rw [List.length_eq_zero_iff.1 h0] at hu
      simp at hu
    · refine ⟨⟨g, j, none⟩, by simp [h], fun t u hu => ?_⟩
      rw [Addr.add_lit]
      exact cell_blkN (w := w) hr (by rw [List.getElem?_toArray]; rw [hnews, List.getElem?_drop] at hu; exact hu)
  have hcw : ∀ t, t < n → (w.cell? ⟨g, t, none⟩).isSome = true := fun t ht => by rw [cell_blkN hr (u := sv[t]) (by rw [List.getElem?_toArray, List.getElem?_eq_getElem (by omega)])]; rfl
  have s1 : Hid (news.length = (n - j) * 1) := by rw [Nat.mul_one]; exact hlen
  have s2 : Hid (∀ u ∈ news, u.oneCell' = true) := hide (fun u hu => h1c u (by rw [hnews] at hu; exact List.mem_of_mem_drop hu))
  have s3 : Hid (∀ t, t < news.length → (w.drew.cell? ⟨g, 0 + i * 1 + t, none⟩).isSome = true ∧ w.drew.frozen? ⟨g, 0 + i * 1 + t, none⟩ = false) := hide (fun t ht => by
    rw [hlen] at ht
    rw [Nat.mul_one, Nat.zero_add]
    exact ⟨hcw _ (by omega), frzN (w := w) hr _⟩)
  obtain ⟨W1, hW1⟩ : ∃ W1, W1 = w.drew.setCells g (0 + i * 1) news := ⟨_, rfl⟩
  have hR1 : W1.heap[g]? = some (.cells (sv.take i ++ news ++ sv.drop (i + news.length)).toArray 26 (0, 0)) := by
    rw [hW1, setCells_blk news _ w.drew sv.toArray hr (by simp [hlen, hn]; omega)]
    simp
  have hle1 : (sv.take i ++ news ++ sv.drop (i + news.length)).length = n := by simp [hlen, hn]; omega
  have hin : i + (n - j) = n - 1 := by omega
  have hcl : ∀ ty, (Builtin.clear_ #[22] ty #[.slice (some ⟨g, n - 1, none⟩) 1 1]).run Try.prog W1 = .ok (.tuple #[]) (W1.setCells g (n - 1) [Value.slice none 0 0]) := fun ty =>
    Lib.run_clear_slice W1 22 26 ty _ Try.underlying22 zero26 rfl rfl g (n - 1) 1 1 (by omega) (fun t ht => by
      rw [cell_blkN hR1 (u := (sv.take i ++ news ++ sv.drop (i + news.length))[n - 1 + t]'(by rw [hle1]; omega)) (by rw [List.getElem?_toArray, List.getElem?_eq_getElem])]; rfl) (fun t _ => frzN hR1 _)
  have HF : Hid ((W1.setCells g (n - 1) [Value.slice none 0 0]).heap[g]? = some (.cells (sv.take i ++ sv.drop j ++ [Value.slice none 0 0]).toArray 26 (0, 0)) ∧ (∀ b, b ≠ g → (W1.setCells g (n - 1) [Value.slice none 0 0]).heap[b]? = w.heap[b]?) ∧ (W1.setCells g (n - 1) [Value.slice none 0 0]).heap.size = w.heap.size ∧ Below g w (W1.setCells g (n - 1) [Value.slice none 0 0])) := hide (by
    refine ⟨?_, fun b hb => ?_, ?_, ?_⟩
    · rw [setCells_blk _ _ _ _ hR1 (by simp [hlen, hn]; omega)]
      have e : (sv.take i ++ news).length = n - 1 := by simp [hlen, hn]; omega
      have e1 : (sv.take i ++ news ++ sv.drop (i + news.length)).take (n - 1) = sv.take i ++ news := by
        rw [List.take_append_of_le_length (by omega), List.take_of_length_le (by omega)]
      have e2 : (sv.take i ++ news ++ sv.drop (i + news.length)).drop (n - 1 + 1) = [] := List.drop_of_length_le (by rw [hle1]; omega)
      simp only [List.length_singleton]
      rw [e1, e2, hnews]
      simp
    · rw [setCells_out _ _ _ _ hb, hW1, setCells_out _ _ _ _ hb]; rfl
    · rw [setCells_size, hW1, setCells_size]; rfl
    · refine setCells_below (Nat.le_refl _) _ _ _ ?_
      rw [hW1]
      exact setCells_below (Nat.le_refl _) _ _ _ (Below.refl _ w).drew)
  have hn1 : n - (n - 1) = 1 := by omega
  have hW : Hid (W1 = w.drew.setCells g (0 + i * 1) news) := hW1
  have hw1 : ((n : Int) - 1) = ((n - 1 : Nat) : Int) := by omega
  have hij : ¬ (i : Int) = (j : Int) := by omega
  have hij1 : (i : Int) ≤ (j : Int) := by omega
  have hjn1 : (j : Int) ≤ (n : Int) := by omega
  have hin1 : i ≤ n := by omega
  have HIN := hide hin
  have mixed : Try.prog.follows .mixedOrders = true := by kernel_rfl
  clear hW1 hR1 hle1 hr hnews hlen hcw hw1 hin hj
  go_enter Try.func55, Try.ntmps55
  go_wp2_with fail
  go_region_law_o (refine step_append_room rfl (.tmp 22) (.tmp 25) 22 rfl 26 i0 1 Try.underlying22 hi0 hzs g 0 i n (by simp [Act.eval, Act.put]) A (n - j) (n - j) news (by simp [Act.eval, Act.put]) s1.out hsrc.out s2.out (by omega) s3.out ?_; rw [← hW.out, HIN.out])
  go_wp2
  go_ret
  exact ⟨rfl, HF.out⟩
end Go.Proofs.Ytebikoekpbnpbaa
/- Find; clones -/
namespace Go.Proofs.Ytebikoekpbnpbaa
open Go.RowKit Cod
set_option maxRecDepth 40000
set_option linter.unusedVariables false
set_option linter.unusedSimpArgs false
theorem check_kind {p : Pg} (h : checkE p = 0) : leafB p = true ∨ innerB p = true := by
  unfold checkE at h
  split at h
  · assumption
  · cases h
theorem check_srt {p : Pg} (h : checkE p = 0) : SrtK p.keys := by
  rcases check_kind h with h | h
  · unfold leafB keysB at h
    simp only [Bool.and_eq_true] at h
    exact rise_srt h.1.2.1
  · unfold innerB keysB at h
    simp only [Bool.and_eq_true] at h
    exact rise_srt h.1.2.1
/-- what Find answers -/
def findR (p : Pg) (key : List Nat) : Nat × Bool × Int := if checkE p = 0 then (lowK p.keys key + (if hasK p.keys key = true ∧ p.leaf = false then 1 else 0), hasK p.keys key, 0) else (0, false, checkE p)
set_option maxHeartbeats 2000000 in
theorem find_any (v : Pv) (p : Pg) (xa : Option Addr) (xn xc : Nat) (key : List Nat) (w : World) (h : IsG w v p) (hc : FewP v) (hk : IsB w xa xn xc key) :
    Calls Try.prog 23 #[.agg (pgc p.leaf v), .slice xa xn xc] w fun e w' => e = .returned (.tuple #[.int .i64 ((findR p key).1 : Nat), .bool (findR p key).2.1, .int .i64 (findR p key).2.2]) ∧ Below w.heap.size w w' := by
  have HB0 : Hid (Below w.heap.size w (w.alloc (.cells (pgc p.leaf v) 25))) := hide ((Below.refl _ w).alloc (Nat.le_refl _) _)
  have HX : Hid (BlkG (w.alloc (.cells (pgc p.leaf v) 25)) w.heap.size p.leaf v) := hide (heap_alloc_new _ _)
  have HCK := hide (check_any v p _ (h.below HB0.out) hc)
  have HPL : Hid (checkE p = 0 → ∀ W : World, Below w.heap.size w W → Calls Try.prog 46 #[.slice v.ka v.kn v.kc, .slice xa xn xc] W fun e w' => e = .returned (.tuple #[.int .i64 (lowK p.keys key : Nat), .bool (hasK p.keys key)]) ∧ Below W.heap.size W w') := hide (fun h0 W hW => place_any v.ka v.kn v.kc p.keys xa xn xc key W (h.keys.below hW) (hk.below hW) (check_srt h0) hc.1)
  have HLK : Hid (lowK p.keys key ≤ 2000000) := hide (Nat.le_trans (lowK_le _ _) (by rw [h.keys.1]; exact hc.1))
  have HR : Hid (findR p key = if checkE p = 0 then (lowK p.keys key + (if hasK p.keys key = true ∧ p.leaf = false then 1 else 0), hasK p.keys key, 0) else (0, false, checkE p)) := hide rfl
  generalize findR p key = R at *
  obtain ⟨lf, hlf⟩ : ∃ lf, p.leaf = lf := ⟨_, rfl⟩
  rw [hlf] at HB0 HX HCK HR
  rw [hlf]
  clear hlf h hc hk
  generalize checkE p = E at *
  generalize lowK p.keys key = lo at *
  generalize hasK p.keys key = is at *
  obtain ⟨ka, kn, kc, va, vn, vc, ia, inn, ic⟩ := v
  try dsimp only at HB0 HX HCK HPL
  try dsimp only
  obtain ⟨q0, q1, q2, q3⟩ := HX.out.cells
  try dsimp only at q0 q1 q2 q3
  go_enter Try.func23, Try.ntmps23
  go_wp2_with fail
  generalize hV0 : (w.alloc (.cells #[.bool lf, .slice ka kn kc, .slice va vn vc, .slice ia inn ic] 25)) = V0 at *
  refine HCK.out.mono ?_
  rintro e w1 ⟨rfl, hb1⟩
  have HB1 : Hid (Below w.heap.size w w1) := hide (HB0.out.trans (hb1.mono HB0.out.size))
  have HX1 : Hid (w1.heap[w.heap.size]? = some (.cells #[.bool lf, .slice ka kn kc, .slice va vn vc, .slice ia inn ic] 25 (0, 0))) := hide ((hb1.block _ (heap_ltN HX.out)).trans HX.out)
  clear hb1 HCK q0 q1 q2 q3 hV0
  have q0 : w1.cell? ⟨w.heap.size, 0, none⟩ = some (.bool lf) := cell_blkN HX1.out rfl
  have q1 : w1.cell? ⟨w.heap.size, 1, none⟩ = some (.slice ka kn kc) := cell_blkN HX1.out rfl
  by_cases hE : E = 0
  · subst hE
    have HP2 := hide (HPL.out rfl w1 HB1.out)
    clear HPL
    go_wp2_with fail
    refine HP2.out.mono ?_
    rintro e w2 ⟨rfl, hb2⟩
    have HB2 : Hid (Below w.heap.size w w2) := hide (HB1.out.trans (hb2.mono HB1.out.size))
    have HX2 : Hid (w2.heap[w.heap.size]? = some (.cells #[.bool lf, .slice ka kn kc, .slice va vn vc, .slice ia inn ic] 25 (0, 0))) := hide ((hb2.block _ (heap_ltN HX1.out)).trans HX1.out)
    clear hb2 HP2 q0 q1
    have q0 : w2.cell? ⟨w.heap.size, 0, none⟩ = some (.bool lf) := cell_blkN HX2.out rfl
    have hw : IntKind.i64.wrap ((lo : Int) + 1) = (lo : Int) + 1 := wrapN (by omega) (by have := HLK.out; omega)
    cases is <;> cases lf
    case false.false =>
      have HE : Hid (R = (lo, false, 0)) := hide (by rw [HR.out]; simp)
      go_wp2
      go_ret3
      exact ⟨by rw [HE.out]; rfl, HB2.out⟩
    case false.true =>
      have HE : Hid (R = (lo, false, 0)) := hide (by rw [HR.out]; simp)
      go_wp2
      go_ret3
      exact ⟨by rw [HE.out]; rfl, HB2.out⟩
    case true.false =>
      have HE : Hid (R = (lo + 1, true, 0)) := hide (by rw [HR.out]; simp)
      go_wp2
      go_ret3
      exact ⟨by rw [HE.out]; rfl, HB2.out⟩
    case true.true =>
      have HE : Hid (R = (lo, true, 0)) := hide (by rw [HR.out]; simp)
      go_wp2
      go_ret3
      exact ⟨by rw [HE.out]; rfl, HB2.out⟩
  · have hE2 : (E == 0) = false := by simpa using hE
    have hE4 : (E != 0) = true := by simpa using hE
    have HE : Hid (R = (0, false, E)) := hide (by rw [HR.out, if_neg hE])
    go_wp2
    go_ret3
    exact ⟨by rw [HE.out]; rfl, HB1.out⟩
/-- why a page is no right leaf -/
def leafE (p : Pg) : Int := if checkE p = 0 then (if p.leaf = true then 0 else 15) else checkE p
set_option maxHeartbeats 2000000 in
theorem checkLeaf_any (v : Pv) (p : Pg) (w : World) (h : IsG w v p) (hc : FewP v) : Calls Try.prog 48 #[.agg (pgc p.leaf v)] w fun e w' => e = .returned (.int .i64 (leafE p)) ∧ Below w.heap.size w w' := by
  have HB0 : Hid (Below w.heap.size w (w.alloc (.cells (pgc p.leaf v) 25))) := hide ((Below.refl _ w).alloc (Nat.le_refl _) _)
  have HX : Hid (BlkG (w.alloc (.cells (pgc p.leaf v) 25)) w.heap.size p.leaf v) := hide (heap_alloc_new _ _)
  have HCK := hide (check_any v p _ (h.below HB0.out) hc)
  have HR : Hid (leafE p = if checkE p = 0 then (if p.leaf = true then 0 else 15) else checkE p) := hide rfl
  generalize leafE p = R at *
  obtain ⟨lf, hlf⟩ : ∃ lf, p.leaf = lf := ⟨_, rfl⟩
  rw [hlf] at HB0 HX HCK HR
  rw [hlf]
  clear hlf h hc
  generalize checkE p = E at *
  obtain ⟨ka, kn, kc, va, vn, vc, ia, inn, ic⟩ := v
  try dsimp only at HB0 HX HCK
  try dsimp only
  obtain ⟨q0, q1, q2, q3⟩ := HX.out.cells
  try dsimp only at q0 q1 q2 q3
  go_enter Try.func48, Try.ntmps48
  go_wp2_with fail
  generalize hV0 : (w.alloc (.cells #[.bool lf, .slice ka kn kc, .slice va vn vc, .slice ia inn ic] 25)) = V0 at *
  refine HCK.out.mono ?_
  rintro e w1 ⟨rfl, hb1⟩
  have HB1 : Hid (Below w.heap.size w w1) := hide (HB0.out.trans (hb1.mono HB0.out.size))
  have q4 : w1.cell? ⟨w.heap.size, 0, none⟩ = some (.bool lf) := cell_blkN ((hb1.block _ (heap_ltN HX.out)).trans HX.out) rfl
  clear hb1 HCK q0 q1 q2 q3 hV0
  by_cases hE : E = 0
  · subst hE
    cases lf with
    | true =>
      have HE : Hid (R = 0) := hide (by rw [HR.out]; simp)
      go_wp2
      go_ret
      exact ⟨by rw [HE.out]; rfl, HB1.out⟩
    | false =>
      have HE : Hid (R = 15) := hide (by rw [HR.out]; simp)
      go_wp2
      go_ret
      exact ⟨by rw [HE.out]; rfl, HB1.out⟩
  · have hE2 : (E == 0) = false := by simpa using hE
    have hE4 : (E != 0) = true := by simpa using hE
    have HE : Hid (R = E) := hide (by rw [HR.out, if_neg hE])
    go_wp2
    go_ret
    exact ⟨by rw [HE.out]; rfl, HB1.out⟩
end Go.Proofs.Ytebikoekpbnpbaa
