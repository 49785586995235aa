/- innerPart; numbers as one-cell values -/
import Derived.Test.YtebikoekpbnpbaaMA
namespace Go.Proofs.Ytebikoekpbnpbaa
open Go.RowKit Go.Lib Cod
set_option maxRecDepth 100000
set_option linter.unusedVariables false
set_option linter.unusedSimpArgs false
def kv (l : List Int) : List Value := l.map (Value.int .i64)
theorem kv_len (l : List Int) : (kv l).length = l.length := by simp [kv]
theorem kv_one (l : List Int) : ∀ u ∈ kv l, u.oneCell' = true := fun u hu => by
  obtain ⟨x, _, rfl⟩ := List.mem_map.1 hu
  rfl
theorem kv_get {l : List Int} {i : Nat} (h : i < l.length) : (kv l)[i]? = some (.int .i64 (l.getD i 0)) := by
  simp [kv, List.getD_eq_getElem?_getD, List.getElem?_eq_getElem h]
theorem IsK.vs {w : World} {a : Option Addr} {n c : Nat} {l : List Int} (h : IsK w a n c l) : Vs w a n c (kv l) := by
  obtain ⟨h1, h2, h3, h4, h5⟩ := h
  refine ⟨by rw [kv_len, h1], h2, h3, h4, kv_one l, fun i hi => ?_⟩
  obtain ⟨_, b, off, e, hlt, hc⟩ := h5 i hi
  exact ⟨b, off, e, hlt, by rw [hc, kv_get (by omega)]⟩
theorem subL_getK {l : List Int} {f t i : Nat} (hi : i < t - f) : (subL l f t).getD i 0 = l.getD (f + i) 0 := by
  simp [subL, List.getD_eq_getElem?_getD, List.getElem?_take, List.getElem?_drop, hi]
theorem isK_sub {w : World} {b off n c : Nat} {L : List Int} (h : IsK w (some ⟨b, off, none⟩) n c L) {f t : Nat} (h1 : f ≤ t) (h2 : t ≤ n) :
    ∃ A : Addr, (if c = f then some (⟨b, off, none⟩ : Addr) else some ⟨b, off + f, none⟩) = some A ∧ IsK w (some A) (t - f) (c - f) (subL L f t) := by
  obtain ⟨g1, g2, g3, g4, g5⟩ := h
  by_cases hf : c = f
  · refine ⟨⟨b, off, none⟩, by rw [if_pos hf], subL_len (by omega), by omega, by omega, nofun, fun i hi => by omega⟩
  · refine ⟨⟨b, off + f, none⟩, by rw [if_neg hf], subL_len (by omega), by omega, by omega, nofun, fun i hi => ?_⟩
    obtain ⟨hB, b', off', e, hlt, hc⟩ := g5 (f + i) (by omega)
    cases e
    rw [subL_getK hi]
    exact ⟨hB, b, off + f, rfl, hlt, by rw [Nat.add_assoc]; exact hc⟩
theorem own_isK {w : World} {base n : Nat} {v : Value} {l : List Int} (hl : l.length = n) (hb : ∀ i, i < n → i64B (l.getD i 0)) (h : w.ownsRow base 3 1 v n (kv l)) : ∃ a cap, v = .slice a n cap ∧ IsK w a n cap l ∧ ∀ b off, a = some ⟨b, off, none⟩ → base ≤ b ∧ FzK w b := by
  rcases h.2 with ⟨rfl, rfl⟩ | ⟨g, cap, cur, rfl, hbs, hg, hn, hm, hs, ht⟩
  · exact ⟨none, 0, rfl, ⟨hl, Nat.le_refl _, Nat.zero_le _, fun _ => rfl, fun i hi => absurd hi (Nat.not_lt_zero _)⟩, nofun⟩
  · refine ⟨_, cap, rfl, ⟨hl, hn, hm, nofun, fun i hi => ⟨hb i hi, g, 0, rfl, heap_ltN hg, ?_⟩⟩, fun b off e => by cases e; exact ⟨hbs, _, hg⟩⟩
    rw [Nat.zero_add]
    refine cell_blkN hg ?_
    have h1 : cur.toList[i]? = (kv l)[i]? := by
      rw [← ht, List.getElem?_take, if_pos (by omega)]
    rw [kv_get (by omega)] at h1
    simpa using h1
def ipP (p : Pg) (f t : Nat) : Pg := ⟨false, subL p.keys f t, [], subL p.kids f (t + 1)⟩
theorem heap_alN (W : World) (o : Obj) (k : Nat) : (W.alloc o).heap[k]? = if k = W.heap.size then some o else W.heap[k]? := by
  show (W.heap.push o)[k]? = _
  rw [Array.getElem?_push]
set_option maxHeartbeats 2000000 in
theorem innerPart_any (v : Pv) (p : Pg) (f t : Nat) (w : World) (h : IsG w v p) (h0 : 0 < v.kn) (h1 : f ≤ t) (h2 : t ≤ v.kn) (hvk : v.inn = v.kn + 1) (hn : v.kn ≤ 4096) (hs : ∀ b ∈ p.keys, b.length ≤ 1024) (lf : Bool) :
    Calls Try.prog 59 #[.agg (pgc lf v), .int .i64 (f : Nat), .int .i64 (t : Nat)] w fun e w' => ∃ v', e = .returned (.agg (pgc false v')) ∧ NwG w' (w.heap.size + 1) v' (ipP p f t) ∧ Below w.heap.size w w' := by
  obtain ⟨ka, kn, kc, va, vn, vc, ia, inn, ic⟩ := v
  try dsimp only at h0 h2 hvk hn
  have HVK := hide hvk
  have h0v : 0 < inn := by omega
  have h2v : t + 1 ≤ inn := by omega
  have hin : inn ≤ 4097 := by omega
  clear hvk
  have hK := h.keys
  have hI := h.kids
  try dsimp only at hK hI
  obtain ⟨b1, o1, _, _, _, rfl, _, _, _⟩ := hK.2.2.2.2 0 h0
  obtain ⟨_, b3, o3, rfl, _, _⟩ := hI.2.2.2.2 0 (by omega)
  obtain ⟨A1, hA1, hI1⟩ := isL_sub hK h1 h2
  obtain ⟨A3, hA3, hI3⟩ := isK_sub (f := f) (t := t + 1) hI (by omega) (by omega)
  have hk2 := hK.2.1
  have hk3 : kc ≤ 9223372036854775807 := hK.2.2.1
  have hi2 := hI.2.1
  have hi3 : ic ≤ 9223372036854775807 := hI.2.2.1
  have hw1 : IntKind.i64.wrap ((t : Int) + 1) = (t : Int) + 1 := wrapN (by omega) (by omega)
  have HL1 : Hid ((subL p.keys f t).length = t - f) := hide hI1.1
  have HL3 : Hid ((subL p.kids f (t + 1)).length = t + 1 - f ∧ ∀ i, i < t + 1 - f → i64B ((subL p.kids f (t + 1)).getD i 0)) := hide ⟨hI3.1, fun i hi => (hI3.2.2.2.2 i hi).1⟩
  have HB0 : Hid (Below w.heap.size w ((w.alloc (.cells #[.bool lf, .slice (some ⟨b1, o1, none⟩) kn kc, .slice va vn vc, .slice (some ⟨b3, o3, none⟩) inn ic] 25)).alloc (.cells #[.bool false, .slice none 0 0, .slice none 0 0, .slice none 0 0] 25))) := hide (((Below.refl _ w).alloc (Nat.le_refl _) _).alloc (by simp) _)
  have HX : Hid (((w.alloc (.cells #[.bool lf, .slice (some ⟨b1, o1, none⟩) kn kc, .slice va vn vc, .slice (some ⟨b3, o3, none⟩) inn ic] 25)).alloc (.cells #[.bool false, .slice none 0 0, .slice none 0 0, .slice none 0 0] 25)).heap[w.heap.size]? = some (.cells #[.bool lf, .slice (some ⟨b1, o1, none⟩) kn kc, .slice va vn vc, .slice (some ⟨b3, o3, none⟩) inn ic] 25 (0, 0))) := hide (by rw [heap_alN, heap_alN, World.size_alloc, if_neg (by omega), if_pos rfl])
  have HY : Hid (((w.alloc (.cells #[.bool lf, .slice (some ⟨b1, o1, none⟩) kn kc, .slice va vn vc, .slice (some ⟨b3, o3, none⟩) inn ic] 25)).alloc (.cells #[.bool false, .slice none 0 0, .slice none 0 0, .slice none 0 0] 25)).heap[w.heap.size + 1]? = some (.cells #[.bool false, .slice none 0 0, .slice none 0 0, .slice none 0 0] 25 (0, 0))) := hide (by rw [heap_alN, World.size_alloc, if_pos rfl])
  have HC1 : Hid (∀ W : World, Below w.heap.size w W → Calls Try.prog 49 #[.slice (some A1) (t - f) (kc - f)] W fun e w' => ∃ sv, e = .returned (.slice (some ⟨W.heap.size, 0, none⟩) (t - f) (t - f)) ∧ OwnL w' W.heap.size (t - f) sv (subL p.keys f t) ∧ Below W.heap.size W w') := hide (fun W hW => clones_any (some A1) (t - f) (kc - f) _ W (hI1.below hW) (by omega) (fun b hb => Nat.le_trans (hs b (List.mem_of_mem_drop (List.mem_of_mem_take hb))) (by decide)))
  have HC3 : Hid (∀ W : World, Below w.heap.size w W → Calls Try.prog 85 #[.slice (some A3) (t + 1 - f) (ic - f)] W fun e w' => ∃ v, e = .returned v ∧ w'.ownsRow W.heap.size 3 1 v (t + 1 - f) (kv (subL p.kids f (t + 1))) ∧ Below W.heap.size W w') := hide (fun W hW => cloneK_any A3 (t + 1 - f) (ic - f) _ W (hI3.vs.below hW) (by omega))
  have q1 : (f : Int) ≤ (t : Int) := by omega
  have q2 : (t : Int) ≤ (kc : Int) := by omega
  have q3 : (t : Int) + 1 ≤ (ic : Int) := by omega
  have q4 : t ≤ kc := by omega
  have q5 : t + 1 ≤ ic := by omega
  have q6 : f ≤ kc := by omega
  have q7 : f ≤ ic := by omega
  have q8 : (f : Int) ≤ (kc : Int) := by omega
  have q9 : (f : Int) ≤ (ic : Int) := by omega
  have q10 : (f : Int) ≤ (t : Int) + 1 := by omega
  have q11 : f ≤ t + 1 := by omega
  clear hK hI hI1 hI3 h hs hi2 hk2
  go_enter Try.func59, Try.ntmps59
  go_wp2_with fail
  generalize hV0 : ((w.alloc (.cells #[.bool lf, .slice (some ⟨b1, o1, none⟩) kn kc, .slice va vn vc, .slice (some ⟨b3, o3, none⟩) inn ic] 25)).alloc (.cells #[.bool false, .slice none 0 0, .slice none 0 0, .slice none 0 0] 25)) = V0 at *
  have HS : Hid (∀ W : World, Below (w.heap.size + 1) V0 W → W.cell? ⟨w.heap.size, 1, none⟩ = some (.slice (some ⟨b1, o1, none⟩) kn kc) ∧ W.cell? ⟨w.heap.size, 3, none⟩ = some (.slice (some ⟨b3, o3, none⟩) inn ic)) := hide (fun W hW => ⟨cell_blkN ((hW.block _ (by omega)).trans HX.out) rfl, cell_blkN ((hW.block _ (by omega)).trans HX.out) rfl⟩)
  have HW0 : Hid (w.heap.size + 1 < V0.heap.size) := hide (heap_ltN HY.out)
  have HT1 := hide (HC1.out _ HB0.out.drew)
  have HT2 : Hid (∀ w2 : World, Below V0.drew.heap.size V0.drew w2 → Hid (Below V0.heap.size V0 w2)) := hide (fun w2 hb2 => hide ((Below.refl _ V0).drew.trans hb2))
  have HT3 : Hid (∀ w2 : World, Below V0.heap.size V0 w2 → Below w.heap.size w w2 ∧ Below (w.heap.size + 1) V0 w2) := hide (fun w2 hb2 => ⟨HB0.out.trans (hb2.mono HB0.out.size), hb2.mono (Nat.le_of_lt HW0.out)⟩)
  have HT4 : Hid (∀ w3 : World, Below V0.heap.size V0 w3 → w3.cell? ⟨w.heap.size + 1, 0, none⟩ = some (.bool false) ∧ w3.cell? ⟨w.heap.size + 1, 1, none⟩ = some (.slice none 0 0) ∧ w3.cell? ⟨w.heap.size + 1, 2, none⟩ = some (.slice none 0 0) ∧ w3.cell? ⟨w.heap.size + 1, 3, none⟩ = some (.slice none 0 0) ∧ (∀ j, w3.frozen? ⟨w.heap.size + 1, j, none⟩ = false)) := hide (fun w3 hb3 => by
    have hy := (hb3.block _ (heap_ltN HY.out)).trans HY.out
    exact ⟨cell_blkN hy rfl, cell_blkN hy rfl, cell_blkN hy rfl, cell_blkN hy rfl, fun j => frzN hy j⟩)
  go_region_held (fun W : World => W.cell? ⟨w.heap.size, 1, none⟩ = some (.slice (some ⟨b1, o1, none⟩) kn kc) ∧ W.cell? ⟨w.heap.size, 3, none⟩ = some (.slice (some ⟨b3, o3, none⟩) inn ic)) (first | with_reducible exact HS.out _ (Below.refl _ _).drew | with_reducible exact HS.out _ (HT3.out _ HQ2.out).2 | with_reducible exact HS.out _ (HT3.out _ HQ1.out).2 | with_reducible exact HS.out _ (below4 (HT3.out _ HQ2.out).2 (Nat.le_refl _) _ _ _ _)) (first | (go_at_call 49; with_reducible refine HT1.out.mono ?_; rintro e w2 ⟨sv1, rfl, ho1, hb2⟩; have HQ1 := HT2.out w2 hb2) | (go_at_call 85; with_reducible refine (HC3.out _ (HT3.out _ HQ1.out).1).mono ?_; rintro e w3 ⟨v3, rfl, ho3, hb3⟩; obtain ⟨i5, c5, rfl⟩ := own_formN ho3; have HQ2 : Hid (Below V0.heap.size V0 w3) := hide (HQ1.out.trans (hb3.mono HQ1.out.size)); obtain ⟨y0, y1, y2, y3, fz⟩ := HT4.out w3 HQ2.out; have f0 := fz 0; have f1 := fz 1; have f2 := fz 2; have f3 := fz 3))
  have HNW : Hid (NwG w3 (w.heap.size + 1) ⟨some ⟨V0.heap.size, 0, none⟩, t - f, t - f, none, 0, 0, i5, t + 1 - f, c5⟩ (ipP p f t)) := hide (by
    have hw0 := HW0.out
    have h12 := HQ1.out.size
    have ho1' : OwnL w2 V0.heap.size (t - f) sv1 (subL p.keys f t) := ho1
    obtain ⟨a5, cp5, e5, hK5, hF5⟩ := own_isK HL3.out.1 HL3.out.2 ho3
    cases e5
    refine ⟨?_, nwL_nil _ _, hK5, fun b off e => ⟨Nat.lt_of_lt_of_le (by omega) (hF5 b off e).1, (hF5 b off e).2⟩⟩
    have hk := ho1'.full HL1.out
    rw [← List.append_nil sv1] at hk
    have h0 := nwL_row (G := w.heap.size + 1) (c := t - f) hk (ho1'.els.mono (by omega)) (by omega) (by rw [HL1.out]; exact Nat.le_refl _) (by unfold maxLen; omega)
    rw [HL1.out] at h0
    exact h0.below hb3)
  have HYF : Hid (w3.heap[w.heap.size + 1]? = some (.cells #[.bool false, .slice none 0 0, .slice none 0 0, .slice none 0 0] 25 (0, 0))) := hide ((HQ2.out.block _ HW0.out).trans HY.out)
  have HBF : Hid (Below w.heap.size w w3) := hide (HT3.out _ HQ2.out).1
  clear ho1 ho3 hb2 hb3 HC1 HC3 HT1 HT2 HT3 HT4 HS y0 y1 y2 y3 fz f0 f1 f2 f3
  go_wp2
  (try simp only [Exit.inBlock, Exit.then])
  refine bodyPost_ret (resP1 rfl _ _ (w.heap.size + 1) #[.bool false, .slice (some ⟨V0.heap.size, 0, none⟩) (t - f) (t - f), .slice none 0 0, .slice i5 (t + 1 - f) c5] (blk4 HYF.out _ _ _ _) rfl rfl) rfl ?_
  exact ⟨⟨some ⟨V0.heap.size, 0, none⟩, t - f, t - f, none, 0, 0, i5, t + 1 - f, c5⟩, rfl, HNW.out.set4 (Nat.le_refl _) _ _ _ _, below4 HBF.out (by omega) _ _ _ _⟩
end Go.Proofs.Ytebikoekpbnpbaa
