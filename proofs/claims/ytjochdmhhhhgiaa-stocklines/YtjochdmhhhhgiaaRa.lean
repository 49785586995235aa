/- the document's with -/
import Derived.Test.YtjochdmhhhhgiaaK
import Derived.Test.YtjochdmhhhhgiaaM
namespace Go.Proofs.Ytjochdmhhhhgiaa
open Go.RowKit
/-- append(own, cells...), what it keeps told -/
theorem wpList_cells2 {w : World} {ops : Array Oper} {rest : List Oper} {o : Oper} {a : Act} {Q : Exit → Act → World → Prop} (hgd : o.guard = none) (s x : Operand)
    (ho : o.op = .call { callee := .builtin .append, args := #[s, x], argTypes := #[22, 22] }) (base : Nat) (v : Value) (n : Nat) (xs : List Cl) (hs : a.eval s = v) (hown : w.ownsRow base 31 6 v n (xs.flatMap clc))
    (b off cap : Nat) (c : Cl) (hx : a.eval x = .slice (some ⟨b, off, none⟩) 1 cap) (hB : CellAt w b off c) (hb : (n + 1) * 48 ≤ 140737488355328) (hbase : base ≤ w.heap.size)
    (h : ∀ v' w', Hid (w'.ownsRow base 31 6 v' (n + 1) ((xs ++ [c]).flatMap clc) ∧ Below base w w' ∧ w.heap.size ≤ w'.heap.size ∧ ∀ g, g < w.heap.size → v.ownBlock ≠ some g → w'.heap[g]? = w.heap[g]?) → wpList Try.prog ops Q rest (a.put o.dst v') w') : wpList Try.prog ops Q (o :: rest) a w := by
  obtain ⟨i0, hi, hz0, hz1, hz2⟩ := info_partsC info31
  refine wpList_append_own w hgd s x 22 ho base 31 i0 (vc Cl0) 6 48 Try.underlying22 hi hz0 hz1 hz2 rfl (by decide) v n _ hs hown ⟨b, off, none⟩ 1 cap ([c].flatMap clc) hx rfl ?_ (flat_one [c]) (by unfold maxLen; omega) hb hbase ?_
  · intro j u hj
    have hj6 : j < 6 := by simpa using (List.getElem?_eq_some_iff.1 hj).1
    rw [addr_add, hB.get j hj6]
    simpa using hj
  · intro v' w' ho' hg _
    refine h v' w' (hide ⟨by rw [List.flatMap_append]; exact ho', (Below.refl _ _).grown hg hbase (fun k hk => (hown.lt k hk).1), hg.size, fun g hg' hne => hg.block g hg' (fun e => hne e.symm)⟩)
/-- what stands where -/
theorem at_facts {l : List Cl} (h : l.Pairwise ltC) (t : Cl) (j : Nat) (hj : j < l.length) :
    (j < lowN l t → ltC (l.getD j Cl0) t) ∧ (j = lowN l t → hasB l t = true → (l.getD j Cl0).it = t.it ∧ (l.getD j Cl0).wa = t.wa) ∧ (j = lowN l t → hasB l t = false → ltC t (l.getD j Cl0)) ∧ (lowN l t < j → ltC t (l.getD j Cl0)) := by
  obtain ⟨A, D, hl, hAl, _, _, hA, hD⟩ := split_at h t
  have hlt : ∀ i, i < A.length → l.getD i Cl0 ∈ A := fun i hi => by
    rw [List.getD_eq_getElem?_getD, hl, List.getElem?_append_left hi, List.getElem?_eq_getElem hi]; simp
  have hge : ∀ i, A.length ≤ i → i < l.length → l.getD i Cl0 = D.getD (i - A.length) Cl0 := fun i hi _ => by
    rw [List.getD_eq_getElem?_getD, List.getD_eq_getElem?_getD, hl, List.getElem?_append_right hi]
  have hDl : l.length = A.length + D.length := by rw [hl, List.length_append]
  refine ⟨fun h1 => hA _ (hlt j (by omega)), fun h1 h2 => ?_, fun h1 h2 => ?_, fun h1 => ?_⟩
  · rcases hD with ⟨_, d, D', rfl, e1, e2, hg, _, _⟩ | ⟨hb, _⟩
    · rw [h1, hg]; exact ⟨e1, e2⟩
    · rw [h2] at hb; cases hb
  · rcases hD with ⟨hb, _⟩ | ⟨_, hr⟩
    · rw [h2] at hb; cases hb
    · rw [hge j (by omega) hj]; exact hr _ (getD_mem (by omega))
  · rw [hge j (by omega) hj]
    rcases hD with ⟨_, d, D', rfl, e1, e2, hg, _, hr⟩ | ⟨_, hr⟩
    · obtain ⟨i, hi⟩ : ∃ i, j - A.length = i + 1 := ⟨j - A.length - 1, by omega⟩
      rw [hi, List.getD_cons_succ]
      exact hr _ (getD_mem (by rw [List.length_cons] at hDl; omega))
    · exact hr _ (getD_mem (by omega))
/-- what with has made behind k cells -/
def wL (l : List Cl) (lo : Nat) (hb : Bool) (c : Cl) (k : Nat) : List Cl := if k ≤ lo then l.take k else l.take lo ++ [c] ++ (l.take k).drop (lo + if hb = true then 1 else 0)
theorem take_succ' {l : List Cl} {k : Nat} (h : k < l.length) : l.take (k + 1) = l.take k ++ [l.getD k Cl0] := by
  rw [List.take_add_one, List.getD_eq_getElem?_getD, List.getElem?_eq_getElem h]; rfl
theorem wL_lt {l : List Cl} {lo : Nat} {hb : Bool} {c : Cl} {k : Nat} (h : k < l.length) (hk : k < lo) : wL l lo hb c (k + 1) = wL l lo hb c k ++ [l.getD k Cl0] := by
  unfold wL
  rw [if_pos (by omega), if_pos (by omega), take_succ' h]
theorem wL_eq {l : List Cl} {lo : Nat} {hb : Bool} {c : Cl} {k : Nat} (h : k < l.length) (hk : k = lo) : wL l lo hb c (k + 1) = wL l lo hb c k ++ [c] ++ (if hb = true then [] else [l.getD k Cl0]) := by
  unfold wL
  subst hk
  rw [if_neg (by omega), if_pos (Nat.le_refl _), take_succ' h]
  cases hb
  · simp only [Bool.false_eq_true, if_false, Nat.add_zero]
    rw [List.drop_append_of_le_length (by rw [List.length_take]; omega)]
    rw [show (l.take k).drop k = [] from List.drop_eq_nil_of_le (by rw [List.length_take]; omega)]
    simp
  · simp only [if_true]
    rw [List.drop_eq_nil_of_le (by simp; omega)]
theorem wL_gt {l : List Cl} {lo : Nat} {hb : Bool} {c : Cl} {k : Nat} (h : k < l.length) (hk : lo < k) : wL l lo hb c (k + 1) = wL l lo hb c k ++ [l.getD k Cl0] := by
  unfold wL
  rw [if_neg (show ¬ k + 1 ≤ lo by omega), if_neg (show ¬ k ≤ lo by omega), take_succ' h]
  have : (lo + if hb = true then 1 else 0) ≤ (l.take k).length := by
    rw [List.length_take]
    split <;> omega
  rw [List.drop_append_of_le_length this]
  simp only [List.append_assoc]
theorem wL_len {l : List Cl} {lo : Nat} {hb : Bool} {c : Cl} {k : Nat} (h : k ≤ l.length) : (wL l lo hb c k).length ≤ k + 1 := by
  unfold wL
  split
  · rw [List.length_take]; omega
  · simp only [List.length_append, List.length_take, List.length_drop, List.length_cons, List.length_nil]; omega
set_option maxHeartbeats 8000000 in
theorem rwith_any (a : Option Addr) (len cap : Nat) (l : List Cl) (c : Cl) (w : World) (h : IsC w a len cap l) (hg : Good l) (hoc : okC c) : Calls Try.prog 33 #[.slice a len cap, vc c] w fun e w' => ∃ a' c', e = .returned (.slice a' (putC l c.it c.wa c).length c') ∧ IsC w' a' (putC l c.it c.wa c).length c' (putC l c.it c.wa c) ∧ Below w.heap.size w w' := by
  have HV := hide h
  have HLN := hide h.1
  have HOC := hide hoc
  have hcap := h.2.1
  have hcm : cap ≤ 9223372036854775807 := h.2.2.1
  have hcm' : (cap : Int) ≤ 9223372036854775807 := by omega
  have HLE : Hid (len ≤ 4096) := hide (by rw [← h.1]; exact hg.len)
  have HAT : Hid (∀ j, j < len → (j < lowN l (noC c.it c.wa) → ltC (l.getD j Cl0) c) ∧ (j = lowN l (noC c.it c.wa) → hasB l (noC c.it c.wa) = true → (l.getD j Cl0).it = c.it ∧ (l.getD j Cl0).wa = c.wa) ∧ (j = lowN l (noC c.it c.wa) → hasB l (noC c.it c.wa) = false → ltC c (l.getD j Cl0)) ∧ (lowN l (noC c.it c.wa) < j → ltC c (l.getD j Cl0))) := hide (fun j hj => at_facts hg.pw (noC c.it c.wa) j (by rw [h.1]; exact hj))
  have HPT : Hid (putC l c.it c.wa c = l.take (lowN l (noC c.it c.wa)) ++ [c] ++ l.drop (lowN l (noC c.it c.wa) + if hasB l (noC c.it c.wa) = true then 1 else 0)) := hide rfl
  have HLO := hide (lowN_le l (noC c.it c.wa))
  have HHB := hide (hasB_lt (l := l) (t := noC c.it c.wa))
  have HOK : Hid (∀ x ∈ putC l c.it c.wa c, okC x) := hide (fun x hx => by
    rcases (mem_putC hg.pw _ _ _ _).1 hx with e | e
    · rw [e]; exact hoc
    · exact h.2.2.2.1 x e.1)
  generalize putC l c.it c.wa c = PU at *
  generalize lowN l (noC c.it c.wa) = lo at *
  generalize hasB l (noC c.it c.wa) = hb at *
  clear h hg hoc
  obtain ⟨t1, t2, t3, t4, t5, t6⟩ := c
  have HB1 : Hid (Below w.heap.size w (w.alloc (.cells #[.int .i64 t1, .int .i64 t2, .int .i64 t3, .int .i64 t4, .int .i64 t5, .int .i64 t6] 31))) := hide ((Below.refl _ w).alloc (Nat.le_refl _) _)
  have HT1 : Hid (Blk (w.alloc (.cells #[.int .i64 t1, .int .i64 t2, .int .i64 t3, .int .i64 t4, .int .i64 t5, .int .i64 t6] 31)) w.heap.size ⟨t1, t2, t3, t4, t5, t6⟩) := hide (heap_alloc_new _ _)
  have HZ1 : Hid ((w.alloc (.cells #[.int .i64 t1, .int .i64 t2, .int .i64 t3, .int .i64 t4, .int .i64 t5, .int .i64 t6] 31)).heap.size = w.heap.size + 1) := hide (by simp)
  go_enter Try.func33, Try.ntmps33
  go_wp2
  generalize w.alloc (.cells #[.int .i64 t1, .int .i64 t2, .int .i64 t3, .int .i64 t4, .int .i64 t5, .int .i64 t6] 31) = w1 at *
  go_loopw [5, 6, 11] (fun ov pv i wr => ∃ k : Nat, k ≤ len ∧ i = .int .i64 k ∧ pv = .bool (decide (lo < k)) ∧ Hid (wr.ownsRow (w.heap.size + 1) 31 6 ov (wL l lo hb ⟨t1, t2, t3, t4, t5, t6⟩ k).length ((wL l lo hb ⟨t1, t2, t3, t4, t5, t6⟩ k).flatMap clc) ∧ Below (w.heap.size + 1) w1 wr)) (fun _ _ i _ => len - (intOf i).toNat)
  case atStart => exact ⟨0, by omega, rfl, by simp, hide ⟨by simpa [wL] using World.ownsRow_nil w1 (w.heap.size + 1) 31 6, Below.refl _ _⟩⟩
  case round =>
    obtain ⟨k, hk, rfl, rfl, HW⟩ := hrel
    have HBw : Hid (Below w.heap.size w wr) := hide (HB1.out.trans (HW.out.2.mono (by omega)))
    have HTr : Hid (Blk wr w.heap.size ⟨t1, t2, t3, t4, t5, t6⟩) := hide (HT1.out.below (by omega) HW.out.2)
    have HSr : Hid (w.heap.size + 1 ≤ wr.heap.size) := hide (HZ1.out ▸ HW.out.2.size)
    by_cases hlt : k < len
    · obtain ⟨bs, off, rfl, hbs, z0⟩ := (HV.out.below' HBw.out).2.2.2.2.1 k hlt
      have HATk := hide (HAT.out k hlt)
      have HL1 := hide (fun h => wL_lt (hb := hb) (c := ⟨t1, t2, t3, t4, t5, t6⟩) (lo := lo) (show k < l.length by rw [HLN.out]; exact hlt) h)
      have HL2 := hide (fun h => wL_eq (hb := hb) (c := ⟨t1, t2, t3, t4, t5, t6⟩) (lo := lo) (show k < l.length by rw [HLN.out]; exact hlt) h)
      have HL3 := hide (fun h => wL_gt (hb := hb) (c := ⟨t1, t2, t3, t4, t5, t6⟩) (lo := lo) (show k < l.length by rw [HLN.out]; exact hlt) h)
      have HLL := hide (wL_len (l := l) (lo := lo) (hb := hb) (c := ⟨t1, t2, t3, t4, t5, t6⟩) (k := k) (by rw [HLN.out]; omega))
      generalize l.getD k Cl0 = x at *
      obtain ⟨x1, x2, x3, x4, x5, x6⟩ := x
      obtain ⟨z1, z2, z3, z4, z5, z6⟩ := z0
      unfold ltC at HATk
      simp only at z1 z2 z3 z4 z5 z6
      dsimp only at HATk
      obtain ⟨WK, HWK⟩ : ∃ L, Hid (wL l lo hb ⟨t1, t2, t3, t4, t5, t6⟩ k = L) := ⟨_, hide rfl⟩
      rw [HWK.out] at HW HL1 HL2 HL3 HLL
      have HTx : Hid (Blk (wr.alloc (.cells #[.int .i64 x1, .int .i64 x2, .int .i64 x3, .int .i64 x4, .int .i64 x5, .int .i64 x6] 31)) w.heap.size ⟨t1, t2, t3, t4, t5, t6⟩) := hide ((Below.heap_alloc _ _ _ (by have := HSr.out; omega)).trans HTr.out)
      obtain ⟨q1, q2, q3, q4, q5, q6⟩ := HTx.out.cells
      simp only [Nat.zero_add] at q1 q2 q3 q4 q5 q6
      have HBS : Hid (w.heap.size + 1 ≤ wr.heap.size + 2) := hide (by have := HSr.out; omega)
      have HBN : Hid ((WK.length + 1) * 48 ≤ 140737488355328) := hide (by have := HLL.out; have := HLE.out; omega)
      have HBX : ∀ o o', Hid (Below (w.heap.size + 1) w1 ((wr.alloc o).alloc o')) := fun o o' => hide ((HW.out.2.alloc HSr.out _).alloc (by have := HSr.out; simp; omega) _)
      have HOX : ∀ o o', Hid (((wr.alloc o).alloc o').ownsRow (w.heap.size + 1) 31 6 u5 WK.length (WK.flatMap clc)) := fun o o' => hide ((HW.out.1.alloc _).alloc _)
      have HSZ : ∀ o o' : Obj, Hid (((wr.alloc o).alloc o').heap.size = wr.heap.size + 2) := fun o o' => hide (by simp)
      have HCX : ∀ y : Cl, Hid (CellAt ((wr.alloc (.cells #[.int .i64 x1, .int .i64 x2, .int .i64 x3, .int .i64 x4, .int .i64 x5, .int .i64 x6] 31)).alloc (.cells #[.int .i64 y.it, .int .i64 y.wa, .int .i64 y.fr, .int .i64 y.he, .int .i64 y.ou, .int .i64 y.al] 31)) (wr.heap.size + 1) 0 y) := fun y => hide (Blk.cells (by
        have := heap_alloc_new (wr.alloc (.cells #[.int .i64 x1, .int .i64 x2, .int .i64 x3, .int .i64 x4, .int .i64 x5, .int .i64 x6] 31)) (.cells #[.int .i64 y.it, .int .i64 y.wa, .int .i64 y.fr, .int .i64 y.he, .int .i64 y.ou, .int .i64 y.al] 31)
        rwa [show (wr.alloc (.cells #[.int .i64 x1, .int .i64 x2, .int .i64 x3, .int .i64 x4, .int .i64 x5, .int .i64 x6] 31)).heap.size = wr.heap.size + 1 by simp] at this))
      rcases Nat.lt_trichotomy k lo with hkl | hkl | hkl
      · have hpd : decide (lo < k) = false := decide_eq_false (by omega)
        have hpd2 : decide (lo < k + 1) = false := decide_eq_false (by omega)
        have hcmp := HATk.out.1 hkl
        have HST := hide (HL1.out hkl)
        clear HL1 HL2 HL3 HATk
        rw [hpd]
        rcases hcmp with h1 | ⟨h1, h2⟩
        · have h1a : ¬ t1 < x1 := by omega
          have h1b : ¬ x1 = t1 := by omega
          go_wp2_with (at_builtin; refine wpList_cells2 rfl _ _ rfl (w.heap.size + 1) u5 WK.length WK rfl (HOX _ _).out (wr.heap.size + 1) 0 1 ⟨x1, x2, x3, x4, x5, x6⟩ rfl (HCX ⟨x1, x2, x3, x4, x5, x6⟩).out HBN.out (by rw [(HSZ _ _).out]; exact HBS.out) ?_)
          intro v' w' HN
          have HN1 := hide (show w'.ownsRow (w.heap.size + 1) 31 6 v' (WK ++ [(⟨x1, x2, x3, x4, x5, x6⟩ : Cl)]).length ((WK ++ [(⟨x1, x2, x3, x4, x5, x6⟩ : Cl)]).flatMap clc) by simpa using HN.out.1)
          rw [← HST.out] at HN1
          have HN2 := hide ((HBX _ _).out.trans HN.out.2.1)
          clear HN
          go_wp2
          go_roundw
          case rel => exact ⟨k + 1, by omega, by simp, by rw [hpd2], hide ⟨HN1.out, HN2.out⟩⟩
          case measure => simp [intOf]; omega
        · subst h1
          have h2a : ¬ t2 ≤ x2 := by omega
          have h2b : ¬ x2 = t2 := by omega
          go_wp2_with (at_builtin; refine wpList_cells2 rfl _ _ rfl (w.heap.size + 1) u5 WK.length WK rfl (HOX _ _).out (wr.heap.size + 1) 0 1 ⟨x1, x2, x3, x4, x5, x6⟩ rfl (HCX ⟨x1, x2, x3, x4, x5, x6⟩).out HBN.out (by rw [(HSZ _ _).out]; exact HBS.out) ?_)
          intro v' w' HN
          have HN1 := hide (show w'.ownsRow (w.heap.size + 1) 31 6 v' (WK ++ [(⟨x1, x2, x3, x4, x5, x6⟩ : Cl)]).length ((WK ++ [(⟨x1, x2, x3, x4, x5, x6⟩ : Cl)]).flatMap clc) by simpa using HN.out.1)
          rw [← HST.out] at HN1
          have HN2 := hide ((HBX _ _).out.trans HN.out.2.1)
          clear HN
          go_wp2
          go_roundw
          case rel => exact ⟨k + 1, by omega, by simp, by rw [hpd2], hide ⟨HN1.out, HN2.out⟩⟩
          case measure => simp [intOf]; omega
      · have hpd : decide (lo < k) = false := decide_eq_false (by omega)
        have hpd2 : decide (lo < k + 1) = true := decide_eq_true (by omega)
        rw [hpd]
        have HST := hide (HL2.out hkl)
        cases hb
        · have hcmp := HATk.out.2.2.1 hkl rfl
          have HKL := hide hkl
          clear hkl
          simp only [Bool.false_eq_true, if_false] at HST
          clear HL1 HL2 HL3 HATk
          rcases hcmp with h1 | ⟨h1, h2⟩
          · have h1b : ¬ x1 = t1 := by omega
            go_wp2_with (at_builtin; refine wpList_cells2 rfl _ _ rfl (w.heap.size + 1) u5 WK.length WK rfl (HOX _ _).out (wr.heap.size + 1) 0 1 ⟨t1, t2, t3, t4, t5, t6⟩ rfl (HCX ⟨t1, t2, t3, t4, t5, t6⟩).out HBN.out (by rw [(HSZ _ _).out]; exact HBS.out) ?_)
            intro v' w' HN
            have HN1 := hide (show w'.ownsRow (w.heap.size + 1) 31 6 v' (WK ++ [(⟨t1, t2, t3, t4, t5, t6⟩ : Cl)]).length ((WK ++ [(⟨t1, t2, t3, t4, t5, t6⟩ : Cl)]).flatMap clc) by simpa using HN.out.1)
            have HN2 := hide ((HBX _ _).out.trans HN.out.2.1)
            have HNT : Hid (Blk w' w.heap.size ⟨t1, t2, t3, t4, t5, t6⟩) := hide (HT1.out.below (by omega) HN2.out)
            obtain ⟨r1, r2, r3, r4, r5, r6⟩ := HNT.out.cells
            simp only [Nat.zero_add] at r1 r2 r3 r4 r5 r6
            have HNX : Hid (Blk w' wr.heap.size ⟨x1, x2, x3, x4, x5, x6⟩) := hide ((HN.out.2.2.2 wr.heap.size (by first | omega | (simp; omega)) (fun e => by have := (HW.out.1.lt _ e).2; omega)).trans ((Below.heap_alloc _ _ _ (by simp)).trans (heap_alloc_new _ _)))
            obtain ⟨e1, e2, e3, e4, e5, e6⟩ := HNX.out.cells
            simp only [Nat.zero_add] at e1 e2 e3 e4 e5 e6
            clear HN q1 q2 q3 q4 q5 q6
            have HNS : Hid (w.heap.size + 1 ≤ w'.heap.size) := hide (HZ1.out ▸ HN2.out.size)
            have HM : Hid ((w'.alloc (.cells #[.int .i64 x1, .int .i64 x2, .int .i64 x3, .int .i64 x4, .int .i64 x5, .int .i64 x6] 31)).ownsRow (w.heap.size + 1) 31 6 v' (WK ++ [(⟨t1, t2, t3, t4, t5, t6⟩ : Cl)]).length ((WK ++ [(⟨t1, t2, t3, t4, t5, t6⟩ : Cl)]).flatMap clc)) := hide (HN1.out.alloc _)
            have HMC : Hid (CellAt (w'.alloc (.cells #[.int .i64 x1, .int .i64 x2, .int .i64 x3, .int .i64 x4, .int .i64 x5, .int .i64 x6] 31)) w'.heap.size 0 ⟨x1, x2, x3, x4, x5, x6⟩) := hide (Blk.cells (heap_alloc_new _ _))
            have HMB : Hid (((WK ++ [(⟨t1, t2, t3, t4, t5, t6⟩ : Cl)]).length + 1) * 48 ≤ 140737488355328) := hide (by have := HLL.out; have := HLE.out; simp; omega)
            go_wp2_with (at_builtin; refine wpList_cells2 rfl _ _ rfl (w.heap.size + 1) v' (WK ++ [(⟨t1, t2, t3, t4, t5, t6⟩ : Cl)]).length (WK ++ [(⟨t1, t2, t3, t4, t5, t6⟩ : Cl)]) rfl HM.out w'.heap.size 0 1 ⟨x1, x2, x3, x4, x5, x6⟩ rfl HMC.out HMB.out (by have := HNS.out; simp; omega) ?_)
            intro v'' w'' HQ
            have HQ1 := hide (show w''.ownsRow (w.heap.size + 1) 31 6 v'' (WK ++ [(⟨t1, t2, t3, t4, t5, t6⟩ : Cl)] ++ [(⟨x1, x2, x3, x4, x5, x6⟩ : Cl)]).length ((WK ++ [(⟨t1, t2, t3, t4, t5, t6⟩ : Cl)] ++ [(⟨x1, x2, x3, x4, x5, x6⟩ : Cl)]).flatMap clc) by simpa using HQ.out.1)
            rw [← HST.out] at HQ1
            have HQ2 := hide ((HN2.out.alloc HNS.out (.cells #[.int .i64 x1, .int .i64 x2, .int .i64 x3, .int .i64 x4, .int .i64 x5, .int .i64 x6] 31)).trans HQ.out.2.1)
            clear HQ
            go_wp2
            go_roundw
            case rel => exact ⟨k + 1, by omega, by simp, by rw [hpd2], hide ⟨HQ1.out, HQ2.out⟩⟩
            case measure => simp [intOf]; omega
          · have h1' := h1.symm
            subst h1'
            have h2a : t2 ≤ x2 := by omega
            have h2b : ¬ x2 = t2 := by omega
            go_wp2_with (at_builtin; refine wpList_cells2 rfl _ _ rfl (w.heap.size + 1) u5 WK.length WK rfl (HOX _ _).out (wr.heap.size + 1) 0 1 ⟨x1, t2, t3, t4, t5, t6⟩ rfl (HCX ⟨x1, t2, t3, t4, t5, t6⟩).out HBN.out (by rw [(HSZ _ _).out]; exact HBS.out) ?_)
            intro v' w' HN
            have HN1 := hide (show w'.ownsRow (w.heap.size + 1) 31 6 v' (WK ++ [(⟨x1, t2, t3, t4, t5, t6⟩ : Cl)]).length ((WK ++ [(⟨x1, t2, t3, t4, t5, t6⟩ : Cl)]).flatMap clc) by simpa using HN.out.1)
            have HN2 := hide ((HBX _ _).out.trans HN.out.2.1)
            have HNT : Hid (Blk w' w.heap.size ⟨x1, t2, t3, t4, t5, t6⟩) := hide (HT1.out.below (by omega) HN2.out)
            obtain ⟨r1, r2, r3, r4, r5, r6⟩ := HNT.out.cells
            simp only [Nat.zero_add] at r1 r2 r3 r4 r5 r6
            have HNX : Hid (Blk w' wr.heap.size ⟨x1, x2, x3, x4, x5, x6⟩) := hide ((HN.out.2.2.2 wr.heap.size (by first | omega | (simp; omega)) (fun e => by have := (HW.out.1.lt _ e).2; omega)).trans ((Below.heap_alloc _ _ _ (by simp)).trans (heap_alloc_new _ _)))
            obtain ⟨e1, e2, e3, e4, e5, e6⟩ := HNX.out.cells
            simp only [Nat.zero_add] at e1 e2 e3 e4 e5 e6
            clear HN q1 q2 q3 q4 q5 q6
            have HNS : Hid (w.heap.size + 1 ≤ w'.heap.size) := hide (HZ1.out ▸ HN2.out.size)
            have HM : Hid ((w'.alloc (.cells #[.int .i64 x1, .int .i64 x2, .int .i64 x3, .int .i64 x4, .int .i64 x5, .int .i64 x6] 31)).ownsRow (w.heap.size + 1) 31 6 v' (WK ++ [(⟨x1, t2, t3, t4, t5, t6⟩ : Cl)]).length ((WK ++ [(⟨x1, t2, t3, t4, t5, t6⟩ : Cl)]).flatMap clc)) := hide (HN1.out.alloc _)
            have HMC : Hid (CellAt (w'.alloc (.cells #[.int .i64 x1, .int .i64 x2, .int .i64 x3, .int .i64 x4, .int .i64 x5, .int .i64 x6] 31)) w'.heap.size 0 ⟨x1, x2, x3, x4, x5, x6⟩) := hide (Blk.cells (heap_alloc_new _ _))
            have HMB : Hid (((WK ++ [(⟨x1, t2, t3, t4, t5, t6⟩ : Cl)]).length + 1) * 48 ≤ 140737488355328) := hide (by have := HLL.out; have := HLE.out; simp; omega)
            go_wp2_with (at_builtin; refine wpList_cells2 rfl _ _ rfl (w.heap.size + 1) v' (WK ++ [(⟨x1, t2, t3, t4, t5, t6⟩ : Cl)]).length (WK ++ [(⟨x1, t2, t3, t4, t5, t6⟩ : Cl)]) rfl HM.out w'.heap.size 0 1 ⟨x1, x2, x3, x4, x5, x6⟩ rfl HMC.out HMB.out (by have := HNS.out; simp; omega) ?_)
            intro v'' w'' HQ
            have HQ1 := hide (show w''.ownsRow (w.heap.size + 1) 31 6 v'' (WK ++ [(⟨x1, t2, t3, t4, t5, t6⟩ : Cl)] ++ [(⟨x1, x2, x3, x4, x5, x6⟩ : Cl)]).length ((WK ++ [(⟨x1, t2, t3, t4, t5, t6⟩ : Cl)] ++ [(⟨x1, x2, x3, x4, x5, x6⟩ : Cl)]).flatMap clc) by simpa using HQ.out.1)
            rw [← HST.out] at HQ1
            have HQ2 := hide ((HN2.out.alloc HNS.out (.cells #[.int .i64 x1, .int .i64 x2, .int .i64 x3, .int .i64 x4, .int .i64 x5, .int .i64 x6] 31)).trans HQ.out.2.1)
            clear HQ
            go_wp2
            go_roundw
            case rel => exact ⟨k + 1, by omega, by simp, by rw [hpd2], hide ⟨HQ1.out, HQ2.out⟩⟩
            case measure => simp [intOf]; omega
        · obtain ⟨h1, h2⟩ := HATk.out.2.1 hkl rfl
          have HKL := hide hkl
          clear hkl
          simp only [if_true, List.append_nil] at HST
          clear HL1 HL2 HL3 HATk
          subst h1 h2
          go_wp2_with (at_builtin; refine wpList_cells2 rfl _ _ rfl (w.heap.size + 1) u5 WK.length WK rfl (HOX _ _).out (wr.heap.size + 1) 0 1 ⟨x1, x2, t3, t4, t5, t6⟩ rfl (HCX ⟨x1, x2, t3, t4, t5, t6⟩).out HBN.out (by rw [(HSZ _ _).out]; exact HBS.out) ?_)
          intro v' w' HN
          have HN1 := hide (show w'.ownsRow (w.heap.size + 1) 31 6 v' (WK ++ [(⟨x1, x2, t3, t4, t5, t6⟩ : Cl)]).length ((WK ++ [(⟨x1, x2, t3, t4, t5, t6⟩ : Cl)]).flatMap clc) by simpa using HN.out.1)
          have HN2 := hide ((HBX _ _).out.trans HN.out.2.1)
          have HNT : Hid (Blk w' w.heap.size ⟨x1, x2, t3, t4, t5, t6⟩) := hide (HT1.out.below (by omega) HN2.out)
          obtain ⟨r1, r2, r3, r4, r5, r6⟩ := HNT.out.cells
          simp only [Nat.zero_add] at r1 r2 r3 r4 r5 r6
          have HNX : Hid (Blk w' wr.heap.size ⟨x1, x2, x3, x4, x5, x6⟩) := hide ((HN.out.2.2.2 wr.heap.size (by first | omega | (simp; omega)) (fun e => by have := (HW.out.1.lt _ e).2; omega)).trans ((Below.heap_alloc _ _ _ (by simp)).trans (heap_alloc_new _ _)))
          obtain ⟨e1, e2, e3, e4, e5, e6⟩ := HNX.out.cells
          simp only [Nat.zero_add] at e1 e2 e3 e4 e5 e6
          clear HN q1 q2 q3 q4 q5 q6
          rw [← HST.out] at HN1
          go_wp2
          go_roundw
          case rel => exact ⟨k + 1, by omega, by simp, by rw [hpd2], hide ⟨HN1.out, HN2.out⟩⟩
          case measure => simp [intOf]; omega
      · have hpd : decide (lo < k) = true := decide_eq_true hkl
        have hpd2 : decide (lo < k + 1) = true := decide_eq_true (by omega)
        have hcmp := HATk.out.2.2.2 hkl
        have HST := hide (HL3.out hkl)
        clear HL1 HL2 HL3 HATk
        rw [hpd]
        rcases hcmp with h1 | ⟨h1, h2⟩
        · have h1b : ¬ x1 = t1 := by omega
          go_wp2_with (at_builtin; refine wpList_cells2 rfl _ _ rfl (w.heap.size + 1) u5 WK.length WK rfl (HOX _ _).out (wr.heap.size + 1) 0 1 ⟨x1, x2, x3, x4, x5, x6⟩ rfl (HCX ⟨x1, x2, x3, x4, x5, x6⟩).out HBN.out (by rw [(HSZ _ _).out]; exact HBS.out) ?_)
          intro v' w' HN
          have HN1 := hide (show w'.ownsRow (w.heap.size + 1) 31 6 v' (WK ++ [(⟨x1, x2, x3, x4, x5, x6⟩ : Cl)]).length ((WK ++ [(⟨x1, x2, x3, x4, x5, x6⟩ : Cl)]).flatMap clc) by simpa using HN.out.1)
          rw [← HST.out] at HN1
          have HN2 := hide ((HBX _ _).out.trans HN.out.2.1)
          clear HN
          go_wp2
          go_roundw
          case rel => exact ⟨k + 1, by omega, by simp, by rw [hpd2], hide ⟨HN1.out, HN2.out⟩⟩
          case measure => simp [intOf]; omega
        · have h1' := h1.symm
          subst h1'
          have h2b : ¬ x2 = t2 := by omega
          go_wp2_with (at_builtin; refine wpList_cells2 rfl _ _ rfl (w.heap.size + 1) u5 WK.length WK rfl (HOX _ _).out (wr.heap.size + 1) 0 1 ⟨x1, x2, x3, x4, x5, x6⟩ rfl (HCX ⟨x1, x2, x3, x4, x5, x6⟩).out HBN.out (by rw [(HSZ _ _).out]; exact HBS.out) ?_)
          intro v' w' HN
          have HN1 := hide (show w'.ownsRow (w.heap.size + 1) 31 6 v' (WK ++ [(⟨x1, x2, x3, x4, x5, x6⟩ : Cl)]).length ((WK ++ [(⟨x1, x2, x3, x4, x5, x6⟩ : Cl)]).flatMap clc) by simpa using HN.out.1)
          rw [← HST.out] at HN1
          have HN2 := hide ((HBX _ _).out.trans HN.out.2.1)
          clear HN
          go_wp2
          go_roundw
          case rel => exact ⟨k + 1, by omega, by simp, by rw [hpd2], hide ⟨HN1.out, HN2.out⟩⟩
          case measure => simp [intOf]; omega
    · obtain rfl : k = len := by omega
      have hlol : lo ≤ k := by have := HLO.out; rw [HLN.out] at this; exact this
      by_cases hlo : lo < k
      · have hpd : decide (lo < k) = true := decide_eq_true hlo
        have HE : Hid (wL l lo hb ⟨t1, t2, t3, t4, t5, t6⟩ k = PU) := hide (by
          unfold wL
          rw [if_neg (by omega), HPT.out, show l.take k = l from by rw [← HLN.out]; exact List.take_length])
        rw [HE.out] at HW
        rw [hpd]
        go_wp2
        go_ret
        obtain ⟨a', c', e, hI, _⟩ := own_isC rfl HOK.out HW.out.1
        exact ⟨a', c', by rw [← e]; rfl, hI, HBw.out⟩
      · have hpd : decide (lo < k) = false := decide_eq_false hlo
        have hbF : hb = false := by
          cases hb
          · rfl
          · exact absurd (HHB.out rfl) (by rw [HLN.out]; exact hlo)
        have HE : Hid (wL l lo hb ⟨t1, t2, t3, t4, t5, t6⟩ k = l) := hide (by
          unfold wL
          rw [if_pos (by omega)]
          rw [← HLN.out]; exact List.take_length)
        have HE2 : Hid (l ++ [(⟨t1, t2, t3, t4, t5, t6⟩ : Cl)] = PU) := hide (by
          rw [HPT.out, hbF, show lo = l.length from by rw [HLN.out]; omega]
          simp)
        rw [HE.out] at HW
        rw [hpd]
        have HTo : ∀ o, Hid ((wr.alloc o).ownsRow (w.heap.size + 1) 31 6 u5 l.length (l.flatMap clc)) := fun o => hide (HW.out.1.alloc _)
        have HTC : Hid (CellAt (wr.alloc (.cells #[.int .i64 t1, .int .i64 t2, .int .i64 t3, .int .i64 t4, .int .i64 t5, .int .i64 t6] 31)) wr.heap.size 0 ⟨t1, t2, t3, t4, t5, t6⟩) := hide (Blk.cells (heap_alloc_new _ _))
        have HTB : Hid ((l.length + 1) * 48 ≤ 140737488355328) := hide (by rw [HLN.out]; have := HLE.out; omega)
        have HTS : ∀ o, Hid (w.heap.size + 1 ≤ (wr.alloc o).heap.size) := fun o => hide (by have := HSr.out; simp; omega)
        have HTW : ∀ o, Hid (Below (w.heap.size + 1) w1 (wr.alloc o)) := fun o => hide (HW.out.2.alloc HSr.out _)
        obtain ⟨q1, q2, q3, q4, q5, q6⟩ := HTr.out.cells
        simp only [Nat.zero_add] at q1 q2 q3 q4 q5 q6
        clear hlo hlol
        go_wp2_with (at_builtin; refine wpList_cells2 rfl _ _ rfl (w.heap.size + 1) u5 l.length l rfl (HTo _).out wr.heap.size 0 1 ⟨t1, t2, t3, t4, t5, t6⟩ rfl HTC.out HTB.out (HTS _).out ?_)
        intro v' w' HN
        have HN1 := hide (show w'.ownsRow (w.heap.size + 1) 31 6 v' (l ++ [(⟨t1, t2, t3, t4, t5, t6⟩ : Cl)]).length ((l ++ [(⟨t1, t2, t3, t4, t5, t6⟩ : Cl)]).flatMap clc) by simpa using HN.out.1)
        rw [HE2.out] at HN1
        have HN2 := hide (HB1.out.trans (((HTW _).out.trans HN.out.2.1).mono (Nat.le_succ _)))
        clear HN
        go_wp2
        go_ret
        obtain ⟨a', c', e, hI, _⟩ := own_isC rfl HOK.out HN1.out
        exact ⟨a', c', by rw [← e]; rfl, hI, HN2.out⟩
end Go.Proofs.Ytjochdmhhhhgiaa
