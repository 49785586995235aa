/- the document's Lines; lines that are copied and compared -/
import Derived.Test.YtjochdmhhhhgiaaU
import Derived.Test.YtjochdmhhhhgiaaOl
import Derived.Test.YtjochdmhhhhgiaaS
namespace Go.Proofs.Ytjochdmhhhhgiaa
open Go.RowKit
set_option maxRecDepth 40000 in
set_option maxHeartbeats 4000000 in
/-- the document's Lines -/
theorem rlines_any (HCK : ∀ (a : Option Addr) (len cap : Nat) (l : List Cl) (w : World), IsC w a len cap l → Calls Try.prog 20 #[.slice a len cap] w fun e w' => e = .returned (.int .i64 (checkE l)) ∧ Below w.heap.size w w') (k : Nat) (hk : k < 5) (a : Option Addr) (len cap : Nat) (l : List Cl) (b : Option Addr) (ln lc : Nat) (xs : List Ln) (w : World) (h : IsC w a len cap l) (hbig : len * 48 ≤ 140737488355328) (hx : IsL w b ln lc xs) : Calls Try.prog 22 #[.int .i64 (k : Int), .slice a len cap, .slice b ln lc] w fun e w' => ∃ a' c', e = .returned (.tuple #[.slice a' (linesR k l xs).1.length c', .int .i64 (linesR k l xs).2]) ∧ IsC w' a' (linesR k l xs).1.length c' (linesR k l xs).1 ∧ Below w.heap.size w w' := by
  have HV := hide h
  have HX := hide hx
  have HOKL := hide h.2.2.2.1
  have hxc := hx.2.1
  have hxm : lc ≤ 9223372036854775807 := hx.2.2.1
  have HBIG : Hid ((0 + len) * 48 ≤ 140737488355328) := hide (by omega)
  have HO0 : Hid ((w.alloc (.cells #[] 31)).ownsRow w.heap.size 31 6 (.slice (some ⟨w.heap.size, 0, none⟩) 0 0) 0 (([] : List Cl).flatMap clc)) := hide (World.ownsRow_made w #[] 0 (Nat.le_refl _) (by decide) rfl)
  have HB0 : Hid (Below w.heap.size w (w.alloc (.cells #[] 31))) := hide ((Below.refl _ w).alloc (Nat.le_refl _) _)
  have HI0 := hide (HV.out.below' HB0.out)
  have HST : Hid (∀ j, j < ln → linesR k l (xs.take (j + 1)) = if (linesR k l (xs.take j)).2 = 0 then (if (moveR k (linesR k l (xs.take j)).1 (xs.getD j Ln0).it (xs.getD j Ln0).wa (xs.getD j Ln0).q).2 = 0 then (moveR k (linesR k l (xs.take j)).1 (xs.getD j Ln0).it (xs.getD j Ln0).wa (xs.getD j Ln0).q).1 else [], (moveR k (linesR k l (xs.take j)).1 (xs.getD j Ln0).it (xs.getD j Ln0).wa (xs.getD j Ln0).q).2) else ([], (linesR k l (xs.take j)).2)) := hide (fun j hj => by
    have e : xs.take (j + 1) = xs.take j ++ [xs.getD j Ln0] := by
      rw [List.take_add_one, List.getD_eq_getElem?_getD, List.getElem?_eq_getElem (by rw [hx.1]; exact hj)]; rfl
    rw [e, linesR_append]
    split
    · simp only [linesR]
      split
      · rename_i h0; rw [h0]
      · rfl
    · rfl)
  have HER : Hid (∀ j, j ≤ ln → (linesR k l (xs.take j)).2 ≠ 0 → linesR k l xs = ([], (linesR k l (xs.take j)).2)) := hide (fun j _ hne => by
    have e : xs = xs.take j ++ xs.drop j := (List.take_append_drop j xs).symm
    conv => lhs; rw [e]
    rw [linesR_append, if_neg hne])
  have HEN : Hid (linesR k l (xs.take ln) = linesR k l xs) := hide (by rw [← hx.1, List.take_length])
  have HL0 : Hid (linesR k l (xs.take 0) = (l, 0)) := hide rfl
  have HCALL := hide (fun a len cap l it wa n w h => rmove_any HCK k hk a len cap l it wa n w h)
  have HLN := hide h.1
  clear h hx hbig HCK
  go_enter Try.func22, Try.ntmps22
  go_wp2_with (at_builtin; refine wpList_cells rfl _ _ rfl w.heap.size (.slice (some ⟨w.heap.size, 0, none⟩) 0 0) 0 [] rfl HO0.out a len cap l rfl HI0.out HBIG.out HB0.out.size ?_)
  intro v1 w1 HN
  have hN := HN.out
  have HB1 := hide (HB0.out.trans hN.2)
  obtain ⟨a1, c1, rfl, hI9, _⟩ := own_isC HLN.out HOKL.out (by simpa using hN.1)
  have HI1 := hide hI9
  clear HN hN hI9 HO0 HB0 HI0
  go_wp2
  go_loopw [8, 18] (fun lv iv wr => ∃ (j : Nat) (aL : Option Addr) (cL : Nat), j ≤ ln ∧ iv = .int .i64 j ∧ lv = .slice aL (linesR k l (xs.take j)).1.length cL ∧ Hid ((linesR k l (xs.take j)).2 = 0 ∧ IsC wr aL (linesR k l (xs.take j)).1.length cL (linesR k l (xs.take j)).1 ∧ Below w.heap.size w wr)) (fun _ iv _ => ln - (intOf iv).toNat)
  case atStart => exact ⟨0, a1, c1, by omega, rfl, by rw [HL0.out, HLN.out], hide ⟨by rw [HL0.out], by rw [HL0.out, HLN.out]; exact HI1.out, HB1.out⟩⟩
  case round =>
    obtain ⟨j, aL, cL, hj, rfl, rfl, HW⟩ := hrel
    by_cases hlt : j < ln
    · obtain ⟨bb, off, rfl, hbb, z0⟩ := (HX.out.below' HW.out.2.2).2.2.2.1 j hlt
      have HSTj := hide (HST.out j hlt)
      have HERj := hide (HER.out (j + 1) (by omega))
      generalize xs.getD j Ln0 = x at *
      obtain ⟨x1, x2, x3, x4⟩ := x
      obtain ⟨z1, z2, z3, z4⟩ := z0
      dsimp only at z1 z2 z3 z4 HSTj
      rw [if_pos HW.out.1] at HSTj
      have HLW := hide (And.intro HW.out.2.1 HW.out.2.2)
      clear HW
      generalize (linesR k l (xs.take j)).1 = L at *
      have HAL : Hid (Below wr.heap.size wr (wr.alloc (.cells #[.int .i64 x1, .int .i64 x2, .int .i64 x3, .int .i64 x4] 41))) := hide ((Below.refl _ _).alloc (Nat.le_refl _) _)
      have HC := hide (HCALL.out aL L.length cL L x1 x2 x3 _ (HLW.out.1.below' HAL.out))
      have HBv : Hid (Below w.heap.size w (wr.alloc (.cells #[.int .i64 x1, .int .i64 x2, .int .i64 x3, .int .i64 x4] 41))) := hide (HLW.out.2.trans (HAL.out.mono HLW.out.2.size))
      generalize moveR k L x1 x2 x3 = M at *
      obtain ⟨M1, M2⟩ := M
      dsimp only at HSTj HC
      obtain ⟨Ln', hLn⟩ : ∃ q, L.length = q := ⟨_, rfl⟩
      obtain ⟨Mn, hMn⟩ : ∃ q, M1.length = q := ⟨_, rfl⟩
      rw [hLn, hMn] at HC
      rw [hLn]
      have HMN := hide hMn
      clear hLn hMn HLW HAL
      go_wp2_with fail
      refine HC.out.mono ?_
      rintro e v ⟨a7, c7, rfl, hI7, hb7⟩
      have HI7 := hide hI7
      have HBw := hide (HBv.out.trans (hb7.mono HBv.out.size))
      clear hI7 hb7 HC HBv z1 z2 z3 z4
      by_cases hM : M2 = 0
      · subst hM
        simp only [if_true] at HSTj
        go_wp2
        go_roundw
        case rel => exact ⟨j + 1, a7, c7, by omega, by simp, by rw [HSTj.out, HMN.out], hide ⟨by rw [HSTj.out], by rw [HSTj.out]; rw [HMN.out]; exact HI7.out, HBw.out⟩⟩
        case measure => simp [intOf]; omega
      · rw [if_neg hM] at HSTj
        have HFE : Hid (linesR k l xs = ([], M2)) := hide (by
          have := HERj.out (by rw [HSTj.out]; exact hM)
          rw [HSTj.out] at this
          exact this)
        have hd : decide (M2 = 0) = false := decide_eq_false hM
        have hd2 : (M2 == 0) = false := by simpa using hM
        clear HERj HSTj
        go_wp2
        go_ret2
        rw [HFE.out]
        exact ⟨none, 0, rfl, isC_nil _, HBw.out⟩
    · obtain rfl : j = ln := by omega
      rw [HEN.out] at HW ⊢
      obtain ⟨R, hR0⟩ : ∃ R, linesR k l xs = R := ⟨_, rfl⟩
      rw [hR0] at HW ⊢
      obtain ⟨R1, R2⟩ := R
      have HRE := hide hR0
      clear hR0 HEN HER HST
      dsimp only at HW ⊢
      obtain ⟨rfl, hI, hB⟩ := HW.out
      have HIr := hide hI
      have HBw := hide hB
      clear HW hI hB
      go_wp2
      go_ret2
      rw [HRE.out]
      exact ⟨aL, cL, rfl, HIr.out, HBw.out⟩
theorem info41 : (Try.prog.info? 41).map (fun i => (i.zero, i.size, i.bytes)) = some (some (.agg #[.int .i64 0, .int .i64 0, .int .i64 0, .int .i64 0]), 4, 32) := by kernel_rfl
theorem lflat_get (l : List Ln) : ∀ (i j : Nat), j < 4 → i < l.length → (l.flatMap lnc)[i * 4 + j]? = (lnc (l.getD i Ln0))[j]? := by
  induction l with
  | nil => intro i j _ hi; simp at hi
  | cons x r ih =>
    intro i j hj hi
    cases i with
    | zero => simp only [List.flatMap_cons, List.getD_cons_zero]; rw [List.getElem?_append_left (by simp; omega)]; simp
    | succ i =>
      simp only [List.flatMap_cons, List.getD_cons_succ]
      rw [List.getElem?_append_right (by simp; omega)]
      rw [← ih i j hj (by simpa using hi)]
      congr 1
      simp
      omega
theorem lflat_len (l : List Ln) : (l.flatMap lnc).length = l.length * 4 := by
  induction l with
  | nil => rfl
  | cons x r ih => simp only [List.flatMap_cons, List.length_append, ih, List.length_cons]; simp; omega
theorem lflat_one (l : List Ln) : ∀ u ∈ l.flatMap lnc, u.oneCell' = true := by
  intro u hu
  obtain ⟨x, _, hx⟩ := List.mem_flatMap.1 hu
  simp only [List.mem_cons, List.not_mem_nil, or_false] at hx
  rcases hx with rfl | rfl | rfl | rfl <;> rfl
theorem IsL.cells {w : World} {b off len cap : Nat} {l : List Ln} (h : IsL w (some ⟨b, off, none⟩) len cap l) : ∀ j u, (l.flatMap lnc)[j]? = some u → w.cell? ((⟨b, off, none⟩ : Addr).add j) = some u := by
  intro j u hj
  have hjl : j < l.length * 4 := by rw [← lflat_len]; exact (List.getElem?_eq_some_iff.1 hj).1
  have hl := h.1
  obtain ⟨b', o', e, _, hc⟩ := h.2.2.2.1 (j / 4) (by omega)
  cases e
  have key : ∀ i, i < 4 → w.cell? ⟨b, off + j / 4 * 4 + i, none⟩ = (lnc (l.getD (j / 4) Ln0))[i]? := by
    intro i hi
    obtain ⟨h1, h2, h3, h4⟩ := hc
    rcases (by omega : i = 0 ∨ i = 1 ∨ i = 2 ∨ i = 3) with rfl | rfl | rfl | rfl
    · simpa using h1
    · simpa using h2
    · simpa using h3
    · simpa using h4
  have := key (j % 4) (by omega)
  rw [← lflat_get l (j / 4) (j % 4) (by omega) (by omega), show j / 4 * 4 + j % 4 = j by omega, hj] at this
  rw [addr_add, ← this]
  congr 2
  omega
theorem own_isL {w : World} {base : Nat} {v : Value} {n : Nat} {l : List Ln} (hl : l.length = n) (h : w.ownsRow base 41 4 v n (l.flatMap lnc)) : ∃ a cap, v = .slice a n cap ∧ IsL w a n cap l := by
  rcases h.2 with ⟨rfl, rfl⟩ | ⟨g, cap, cur, rfl, hb, hg, hn, hm, hs, ht⟩
  · exact ⟨none, 0, rfl, ⟨hl, Nat.le_refl _, Nat.zero_le _, fun i hi => by omega, fun _ => rfl⟩⟩
  · refine ⟨_, cap, rfl, ⟨hl, hn, hm, fun i hi => ?_, by intro h; cases h⟩⟩
    refine ⟨g, 0, rfl, heap_lt hg, lineAt_of fun j hj => ?_⟩
    have h1 : cur.toList[i * 4 + j]? = (l.flatMap lnc)[i * 4 + j]? := by
      rw [← ht, List.getElem?_take]
      rw [if_pos (by omega)]
    rw [Nat.zero_add, ← lflat_get l i j hj (by omega), ← h1]
    simp only [World.cell?, hg]
    simp
/-- append([]Line{}, lines...) -/
theorem wpList_lines {w : World} {ops : Array Oper} {rest : List Oper} {o : Oper} {a : Act} {Q : Exit → Act → World → Prop} (hgd : o.guard = none) (s x : Operand)
    (ho : o.op = .call { callee := .builtin .append, args := #[s, x], argTypes := #[37, 37] }) (base : Nat) (v : Value) (hs : a.eval s = v) (hown : w.ownsRow base 41 4 v 0 [])
    (src : Option Addr) (len cap : Nat) (l : List Ln) (hx : a.eval x = .slice src len cap) (hB : IsL w src len cap l) (hb : len * 32 ≤ 140737488355328) (hbase : base ≤ w.heap.size)
    (h : ∀ v' w', Hid (w'.ownsRow base 41 4 v' len (l.flatMap lnc) ∧ Below base w w') → wpList Try.prog ops Q rest (a.put o.dst v') w') : wpList Try.prog ops Q (o :: rest) a w := by
  obtain ⟨i0, hi, hz0, hz1, hz2⟩ := info_partsC info41
  cases src with
  | none =>
    obtain rfl := hB.2.2.2.2 rfl
    obtain rfl : len = 0 := by have := hB.2.1; omega
    obtain rfl : l = [] := List.length_eq_zero_iff.1 hB.1
    refine wpList_append_own_none hgd s x 37 ho base 41 i0 4 Try.underlying37 hi v 0 _ hs hown hx ?_
    exact h v w (hide ⟨hown, Below.refl _ _⟩)
  | some ad =>
    have fin : (∀ j u, (l.flatMap lnc)[j]? = some u → w.cell? (ad.add j) = some u) → wpList Try.prog ops Q (o :: rest) a w := fun hcells => by
      refine wpList_append_own w hgd s x 37 ho base 41 i0 (.agg #[.int .i64 0, .int .i64 0, .int .i64 0, .int .i64 0]) 4 32 Try.underlying37 hi hz0 hz1 hz2 rfl (by decide) v 0 _ hs hown ad len cap (l.flatMap lnc) hx (by rw [lflat_len, hB.1]) hcells (lflat_one l) (by unfold maxLen; omega) (by omega) hbase ?_
      intro v' w' ho' hg _
      refine h v' w' (hide ⟨by simpa using ho', (Below.refl _ _).grown hg hbase ?_⟩)
      intro k hk
      exact (hown.lt k hk).1
    by_cases h0 : len = 0
    · subst h0
      obtain rfl : l = [] := List.length_eq_zero_iff.1 hB.1
      exact fin (by simp)
    · obtain ⟨b, off, e, _⟩ := hB.2.2.2.1 0 (by omega)
      cases e
      exact fin hB.cells
theorem struct41 : Try.prog.underlying 41 = some (.struct (Try.prog.fieldsOf 41)) := by kernel_rfl
theorem stood41 : Try.prog.stoodInHeld 41 = false := by kernel_rfl
theorem guard41 : Try.prog.eqGuardType Try.prog.depth 41 = false := by kernel_rfl
theorem equal41 (a1 a2 a3 a4 : Int) (w : World) :
    (Op.equalIn 10000 41 (.agg #[.int .i64 a1, .int .i64 a2, .int .i64 a3, .int .i64 a4]) (.agg #[.int .i64 a1, .int .i64 a2, .int .i64 a3, .int .i64 a4])).run Try.prog w = .ok true w := by
  have u3 := Try.underlying3
  have a3' := Try.isAgg3
  have z3 := Try.sizeOf3
  have u9 := Try.underlying2
  have a9 := Try.isAgg2
  have z9 := Try.sizeOf2
  rw [show (10000 : Nat) = 9999 + 1 from rfl, run_equalIn_agg w 9999 41 _ _ struct41 stood41]
  simp only [Program.fieldsOf, Try.underlying41]
  go_simp
theorem eqg41 (op : BinOp) (a b : Operand) (xs ys : Array Value) (w : World) : (eqGuard op 41 a b (.agg xs) (.agg ys)).run Try.prog w = .ok () w := run_eqGuard_agg w op 41 a b xs ys guard41
end Go.Proofs.Ytjochdmhhhhgiaa
