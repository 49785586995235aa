/- DG DH -/
import Derived.Test.YtebikoekpbnpbaaDF
import Derived.Test.YtebikoekpbnpbaaDA
/- the document's Find, with, without -/
namespace Go.Proofs.Ytebikoekpbnpbaa
open Go.RowKit Cod
set_option maxRecDepth 100000
set_option linter.unusedVariables false
set_option linter.unusedSimpArgs false
set_option maxHeartbeats 2000000 in
/-- ladingref06.Find -/
theorem rfind_any (v : Pv) (p : Pg) (xa : Option Addr) (xn xc : Nat) (key : List Nat) (w : World) (h : IsG w v p) (hc : FewP v) (hk : IsB w xa xn xc key) :
    Calls Try.prog 24 #[.agg (pgc p.leaf v), .slice xa xn xc] w fun e w' => e = .returned (.tuple #[.int .i64 ((findR p key).1 : Nat), .bool (findR p key).2.1, .int .i64 (findR p key).2.2]) ∧ Below w.heap.size w w' := by
  have HB0 : Hid (Below w.heap.size w (w.alloc (.cells (pgc p.leaf v) 25))) := hide ((Below.refl _ w).alloc (Nat.le_refl _) _)
  have HX : Hid (BlkG (w.alloc (.cells (pgc p.leaf v) 25)) w.heap.size p.leaf v) := hide (heap_alloc_new _ _)
  have HCK := hide (rcheck_any v p _ (h.below HB0.out) hc)
  have HPL : Hid (∀ W : World, Below w.heap.size w W → Calls Try.prog 47 #[.agg (pgc p.leaf v), .slice xa xn xc] W fun e w' => e = .returned (.tuple #[.int .i64 (lowK p.keys key : Nat), .bool (hasK p.keys key)]) ∧ Below W.heap.size W w') := hide (fun W hW => rbelow_any v p xa xn xc key W (h.below hW) hc (hk.below hW) p.leaf)
  have HLK : Hid (lowK p.keys key ≤ 2000000) := hide (Nat.le_trans (lowK_le _ _) (by rw [h.keys.1]; exact hc.1))
  have HR : Hid (findR p key = if checkE p = 0 then (lowK p.keys key + (if hasK p.keys key = true ∧ p.leaf = false then 1 else 0), hasK p.keys key, 0) else (0, false, checkE p)) := hide rfl
  generalize findR p key = R at *
  obtain ⟨lf, hlf⟩ : ∃ lf, p.leaf = lf := ⟨_, rfl⟩
  rw [hlf] at HB0 HX HCK HR HPL
  rw [hlf]
  clear hlf h hc hk
  generalize checkE p = E at *
  generalize lowK p.keys key = lo at *
  generalize hasK p.keys key = is at *
  obtain ⟨ka, kn, kc, va, vn, vc, ia, inn, ic⟩ := v
  try dsimp only at HB0 HX HCK HPL
  try dsimp only
  obtain ⟨q0, q1, q2, q3⟩ := HX.out.cells
  try dsimp only at q0 q1 q2 q3
  go_enter Try.func24, Try.ntmps24
  go_wp2_with fail
  generalize hV0 : (w.alloc (.cells #[.bool lf, .slice ka kn kc, .slice va vn vc, .slice ia inn ic] 25)) = V0 at *
  refine HCK.out.mono ?_
  rintro e w1 ⟨rfl, hb1⟩
  have HB1 : Hid (Below w.heap.size w w1) := hide (HB0.out.trans (hb1.mono HB0.out.size))
  have HX1 : Hid (w1.heap[w.heap.size]? = some (.cells #[.bool lf, .slice ka kn kc, .slice va vn vc, .slice ia inn ic] 25 (0, 0))) := hide ((hb1.block _ (heap_ltN HX.out)).trans HX.out)
  clear hb1 HCK q0 q1 q2 q3 hV0
  have q0 : w1.cell? ⟨w.heap.size, 0, none⟩ = some (.bool lf) := cell_blkN HX1.out rfl
  have q1 : w1.cell? ⟨w.heap.size, 1, none⟩ = some (.slice ka kn kc) := cell_blkN HX1.out rfl
  have q2 : w1.cell? ⟨w.heap.size, 2, none⟩ = some (.slice va vn vc) := cell_blkN HX1.out rfl
  have q3 : w1.cell? ⟨w.heap.size, 3, none⟩ = some (.slice ia inn ic) := cell_blkN HX1.out rfl
  by_cases hE : E = 0
  · subst hE
    have HP2 := hide (HPL.out w1 HB1.out)
    clear HPL
    go_wp2_with fail
    refine HP2.out.mono ?_
    rintro e w2 ⟨rfl, hb2⟩
    have HB2 : Hid (Below w.heap.size w w2) := hide (HB1.out.trans (hb2.mono HB1.out.size))
    have HX2 : Hid (w2.heap[w.heap.size]? = some (.cells #[.bool lf, .slice ka kn kc, .slice va vn vc, .slice ia inn ic] 25 (0, 0))) := hide ((hb2.block _ (heap_ltN HX1.out)).trans HX1.out)
    clear hb2 HP2 q0 q1 q2 q3
    have q0 : w2.cell? ⟨w.heap.size, 0, none⟩ = some (.bool lf) := cell_blkN HX2.out rfl
    have hw : IntKind.i64.wrap ((lo : Int) + 1) = (lo : Int) + 1 := wrapN (by omega) (by have := HLK.out; omega)
    cases is <;> cases lf
    case false.false =>
      have HE : Hid (R = (lo, false, 0)) := hide (by rw [HR.out]; simp)
      go_wp2
      go_ret3
      exact ⟨by rw [HE.out]; rfl, HB2.out⟩
    case false.true =>
      have HE : Hid (R = (lo, false, 0)) := hide (by rw [HR.out]; simp)
      go_wp2
      go_ret3
      exact ⟨by rw [HE.out]; rfl, HB2.out⟩
    case true.false =>
      have HE : Hid (R = (lo + 1, true, 0)) := hide (by rw [HR.out]; simp)
      go_wp2
      go_ret3
      exact ⟨by rw [HE.out]; rfl, HB2.out⟩
    case true.true =>
      have HE : Hid (R = (lo, true, 0)) := hide (by rw [HR.out]; simp)
      go_wp2
      go_ret3
      exact ⟨by rw [HE.out]; rfl, HB2.out⟩
  · have hE2 : (E == 0) = false := by simpa using hE
    have hE4 : (E != 0) = true := by simpa using hE
    have HE : Hid (R = (0, false, E)) := hide (by rw [HR.out, if_neg hE])
    go_wp2
    go_ret3
    exact ⟨by rw [HE.out]; rfl, HB1.out⟩
theorem Vs.front {w : World} {a : Option Addr} {n c : Nat} {xs : List Value} (h : Vs w a n c xs) {k : Nat} (hk : k ≤ n) : Vs w a k c (xs.take k) := by
  obtain ⟨h1, h2, h3, h4, h5, h6⟩ := h
  refine ⟨by rw [List.length_take, h1]; omega, by omega, h3, h4, fun u hu => h5 u (List.mem_of_mem_take hu), fun i hi => ?_⟩
  obtain ⟨b, off, e, hlt, hc⟩ := h6 i (by omega)
  exact ⟨b, off, e, hlt, by rw [hc, List.getElem?_take, if_pos hi]⟩
theorem Vs.back {w : World} {b off n c : Nat} {xs : List Value} (h : Vs w (some ⟨b, off, none⟩) n c xs) {f : Nat} (hf : f ≤ n) :
    ∃ A : Addr, (if c = f then some (⟨b, off, none⟩ : Addr) else some ⟨b, off + f, none⟩) = some A ∧ Vs w (some A) (n - f) (c - f) (xs.drop f) := by
  obtain ⟨h1, h2, h3, h4, h5, h6⟩ := h
  by_cases he : c = f
  · exact ⟨⟨b, off, none⟩, by rw [if_pos he], by rw [List.length_drop, h1], by omega, by omega, nofun, fun u hu => h5 u (List.mem_of_mem_drop hu), fun i hi => by omega⟩
  · refine ⟨⟨b, off + f, none⟩, by rw [if_neg he], by rw [List.length_drop, h1], by omega, by omega, nofun, fun u hu => h5 u (List.mem_of_mem_drop hu), fun i hi => ?_⟩
    obtain ⟨b', off', e, hlt, hc⟩ := h6 (f + i) (by omega)
    cases e
    exact ⟨b, off + f, rfl, hlt, by rw [List.getElem?_drop, Nat.add_assoc]; exact hc⟩
theorem ElB.front {w : World} {xs : List Value} {L : List (List Nat)} (h : ElB w xs L) (k : Nat) : ElB w (xs.take k) (L.take k) := by
  refine ⟨by rw [List.length_take, List.length_take, h.1], fun i hi => ?_⟩
  rw [List.length_take] at hi
  obtain ⟨a, n, c, e, hB⟩ := h.2 i (by omega)
  refine ⟨a, n, c, by rw [List.getElem?_take, if_pos (by omega)]; exact e, ?_⟩
  rwa [List.getD_eq_getElem?_getD, List.getElem?_take, if_pos (by omega), ← List.getD_eq_getElem?_getD]
theorem ElB.back {w : World} {xs : List Value} {L : List (List Nat)} (h : ElB w xs L) (k : Nat) : ElB w (xs.drop k) (L.drop k) := by
  refine ⟨by rw [List.length_drop, List.length_drop, h.1], fun i hi => ?_⟩
  rw [List.length_drop] at hi
  obtain ⟨a, n, c, e, hB⟩ := h.2 (k + i) (by omega)
  refine ⟨a, n, c, by rw [List.getElem?_drop]; exact e, ?_⟩
  rwa [List.getD_eq_getElem?_getD, List.getElem?_drop, ← List.getD_eq_getElem?_getD]
theorem ElB.one1 {w : World} {a : Option Addr} {n c : Nat} {l : List Nat} (h : IsB w a n c l) : ElB w [.slice a n c] [l] := ⟨rfl, fun i hi => by
  obtain rfl : i = 0 := by simpa using hi
  exact ⟨a, n, c, rfl, h⟩⟩
theorem owns_emptyL (w : World) : (w.alloc (.cells #[] 26)).ownsRow w.heap.size 26 1 (.slice (some ⟨w.heap.size, 0, none⟩) 0 0) 0 [] := World.ownsRow_made w #[] 0 (Nat.le_refl _) (Nat.zero_le _) rfl
end Go.Proofs.Ytebikoekpbnpbaa
/- appends in drawn regions; the document's with -/
namespace Go.Proofs.Ytebikoekpbnpbaa
open Go.RowKit Cod
set_option maxRecDepth 100000
set_option linter.unusedVariables false
set_option linter.unusedSimpArgs false
theorem wp_valsL {w : World} {o : Oper} {a : Act} {K : Act → World → Prop} {Q : Exit → Act → World → Prop} (s x : Operand)
    (ho : o.op = .call { callee := .builtin .append, args := #[s, x], argTypes := #[22, 22] }) (base : Nat) (v : Value) (n : Nat) (xs : List Value) (hs : a.eval s = v) (hown : w.ownsRow base 26 1 v n xs)
    (src : Option Addr) (len cap : Nat) (l : List Value) (hx : a.eval x = .slice src len cap) (hB : Vs w src len cap l) (hb : (n + len) * 24 ≤ 140737488355328) (hbase : base ≤ w.heap.size)
    (h : ∀ v' w', Hid (w'.ownsRow base 26 1 v' (n + len) (xs ++ l) ∧ w.grownBy w' v.ownBlock) → K (a.put o.dst v') w') : o.wp Try.prog a w K Q := by
  obtain ⟨i0, hi, hz0, hz1, hz2⟩ := info_partsM info26
  obtain ⟨h1, h2, h3, h4, h5, h6⟩ := hB
  cases src with
  | none =>
    obtain rfl := h4 rfl
    obtain rfl : len = 0 := by omega
    obtain rfl : l = [] := List.length_eq_zero_iff.1 h1
    have hrun := run_append_owned_none (P := Try.prog) (w := w) base 22 o.type 26 i0 1 Try.underlying22 hi v n xs hown
    unfold Oper.wp
    simp [execOp, ho, resolve, invoke, builtin, hs, hx, hrun, Result.andThen]
    exact h v w (hide ⟨by simpa using hown, ⟨rfl, rfl, rfl, Nat.le_refl _, fun _ _ _ => rfl⟩⟩)
  | some ad =>
    refine wp_append_own w s x 22 ho base 26 i0 (Value.slice none 0 0) 1 24 Try.underlying22 hi hz0 hz1 hz2 rfl (by decide) v n _ hs hown ad len cap l hx (by omega) ?_ h5 (by unfold maxLen; omega) hb hbase ?_
    · intro j u hj
      have hjl : j < len := by rw [← h1]; exact (List.getElem?_eq_some_iff.1 hj).1
      obtain ⟨b', off', e, _, hc⟩ := h6 j hjl
      cases e
      rw [addr_addM, hc, hj]
    · intro v' w' ho' hg _
      exact h v' w' (hide ⟨ho', hg⟩)
theorem wp_valsK {w : World} {o : Oper} {a : Act} {K : Act → World → Prop} {Q : Exit → Act → World → Prop} (s x : Operand)
    (ho : o.op = .call { callee := .builtin .append, args := #[s, x], argTypes := #[23, 23] }) (base : Nat) (v : Value) (n : Nat) (xs : List Value) (hs : a.eval s = v) (hown : w.ownsRow base 3 1 v n xs)
    (src : Option Addr) (len cap : Nat) (l : List Value) (hx : a.eval x = .slice src len cap) (hB : Vs w src len cap l) (hb : (n + len) * 8 ≤ 140737488355328) (hbase : base ≤ w.heap.size)
    (h : ∀ v' w', Hid (w'.ownsRow base 3 1 v' (n + len) (xs ++ l) ∧ w.grownBy w' v.ownBlock) → K (a.put o.dst v') w') : o.wp Try.prog a w K Q := by
  obtain ⟨i0, hi, hz0, hz1, hz2⟩ := info_partsM info3
  obtain ⟨h1, h2, h3, h4, h5, h6⟩ := hB
  cases src with
  | none =>
    obtain rfl := h4 rfl
    obtain rfl : len = 0 := by omega
    obtain rfl : l = [] := List.length_eq_zero_iff.1 h1
    have hrun := run_append_owned_none (P := Try.prog) (w := w) base 23 o.type 3 i0 1 Try.underlying23 hi v n xs hown
    unfold Oper.wp
    simp [execOp, ho, resolve, invoke, builtin, hs, hx, hrun, Result.andThen]
    exact h v w (hide ⟨by simpa using hown, ⟨rfl, rfl, rfl, Nat.le_refl _, fun _ _ _ => rfl⟩⟩)
  | some ad =>
    refine wp_append_own w s x 23 ho base 3 i0 (Value.int .i64 0) 1 8 Try.underlying23 hi hz0 hz1 hz2 rfl (by decide) v n _ hs hown ad len cap l hx (by omega) ?_ h5 (by unfold maxLen; omega) hb hbase ?_
    · intro j u hj
      have hjl : j < len := by rw [← h1]; exact (List.getElem?_eq_some_iff.1 hj).1
      obtain ⟨b', off', e, _, hc⟩ := h6 j hjl
      cases e
      rw [addr_addM, hc, hj]
    · intro v' w' ho' hg _
      exact h v' w' (hide ⟨ho', hg⟩)
theorem vs_one {w : World} {q : Nat} {u : Value} (hq : w.heap[q]? = some (.cells #[u] 26 (0, 0))) (h1 : u.oneCell' = true) : Vs w (some ⟨q, 0, none⟩) 1 1 [u] := by
  refine ⟨rfl, Nat.le_refl _, by unfold maxLen; decide, nofun, by simpa using h1, fun i hi => ?_⟩
  obtain rfl : i = 0 := by omega
  exact ⟨q, 0, rfl, heap_ltN hq, cell_blkN hq rfl⟩
end Go.Proofs.Ytebikoekpbnpbaa
