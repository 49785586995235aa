/- the document's Check -/
import Derived.Test.YtggbaanoagbmdaaWm
namespace Go.Proofs.Ytggbaanoagbmdaa
open Go.RowKit
set_option maxRecDepth 40000 in
set_option maxHeartbeats 1000000 in
/-- the document's Check -/
theorem rcheck_any (a : Option Addr) (len cap : Nat) (l : List Ev) (w : World) (h : IsE w a len cap l) :
    Calls Try.prog 15 #[.slice a len cap] w fun e w' => e = .returned (.int .i64 (checkE l)) ∧ Below w.heap.size w w' := by
  have HV := hide h
  have HLN := hide h.1
  have hcap := h.2.1
  have hcm : cap ≤ 9223372036854775807 := h.2.2.1
  clear h
  by_cases h1 : len ≤ 16384
  case neg =>
    have d1 : decide ((16384 : Int) < (len : Int)) = true := decide_eq_true (by omega)
    have HE : Hid (checkE l = 2) := hide (by unfold checkE; rw [if_neg (fun h => by have := (goodB_iff.1 h).1; have := HLN.out; omega)])
    go_enter Try.func15, Try.ntmps15
    go_wp2
    go_ret
    exact ⟨by rw [HE.out]; rfl, Below.refl _ _⟩
  case pos =>
    have d1 : decide ((16384 : Int) < (len : Int)) = false := decide_eq_false (by omega)
    go_enter Try.func15, Try.ntmps15
    go_wp2
    go_loopw [12] (fun i wr => ∃ (k : Nat), k ≤ len ∧ i = .int .i64 k ∧ Hid (∀ j, j < k → okAt l j = true) ∧ Hid (Below w.heap.size w wr)) (fun i _ => len - (intOf i).toNat)
    case atStart => exact ⟨0, Nat.zero_le _, rfl, hide (fun j hj => by omega), hide (Below.refl _ _)⟩
    case round =>
      obtain ⟨k, hk, rfl, HA, HB⟩ := hrel
      by_cases hlt : k < len
      case neg =>
        obtain rfl : k = len := by omega
        have HE : Hid (checkE l = 0) := hide (by unfold checkE; rw [if_pos (goodB_iff.2 ⟨by rw [HLN.out]; exact h1, fun i hi => HA.out i (by rw [← HLN.out]; exact hi)⟩)])
        go_wp2
        go_ret
        exact ⟨by rw [HE.out]; rfl, HB.out⟩
      case pos =>
        have HLL : Hid (k < l.length) := hide (by rw [HLN.out]; exact hlt)
        obtain ⟨bs, off, rfl, hbs, z0, z1, z2, z3, z4⟩ := (HV.out.below' HB.out).2.2.2.2 k hlt
        have HLNUM := hide (fun r => last_num (l := l) (k := k) (r := r) HLL.out HA.out)
        have HTI := hide (twice_iff HLL.out)
        generalize hx : l.getD k Ev0 = x at *
        have HX := hide hx
        clear hx
        have HKA := hide (okAt_x HX.out HLL.out)
        generalize cntS l k x.st = c at *
        generalize cntM l k x.st x.ma = d at *
        have hwr3 : IntKind.i64.wrap ((k : Int) + 1) = (k : Int) + 1 := wrap_nat _ (by omega)
        have HBAD : Hid (okAt l k = false → checkE l = 2) := hide (fun hf => by unfold checkE; rw [if_neg (fun h => by have := (goodB_iff.1 h).2 k HLL.out; rw [hf] at this; cases this)])
        have HGOOD : Hid (okAt l k = true → ∀ j, j < k + 1 → okAt l j = true) := hide (fun ht j hj => by
          by_cases e : j = k
          · rw [e]; exact ht
          · exact HA.out j (by omega))
        have G1 : Hid (¬ x.glob = (k : Int) + 1 → checkE l = 2) := hide (fun h => HBAD.out (by rw [HKA.out, decide_eq_false h]; simp))
        have G2 : Hid (x.st.toList = [] → checkE l = 2) := hide (fun h => HBAD.out (by rw [HKA.out, h]; rfl))
        have G3 : Hid (¬ x.num = (c : Int) + 1 → checkE l = 2) := hide (fun h => HBAD.out (by rw [HKA.out, decide_eq_false h]; simp))
        have GL : Hid (∀ y, y ∈ [x.st, x.ma, x.dt] → (1024 : Int) < (y.size : Int) → checkE l = 2) := hide (fun y hy h => HBAD.out (by
          rw [HKA.out, List.any_eq_true.2 ⟨y, hy, decide_eq_true (by omega)⟩]; simp))
        have G4 : Hid ((1024 : Int) < (x.st.size : Int) → checkE l = 2) := hide (GL.out _ (by simp))
        have G5 : Hid ((1024 : Int) < (x.ma.size : Int) → checkE l = 2) := hide (GL.out _ (by simp))
        have G6 : Hid ((1024 : Int) < (x.dt.size : Int) → checkE l = 2) := hide (GL.out _ (by simp))
        have G9 : Hid ((((x.st.toList.isEmpty = true ∨ (1024 : Int) < (x.st.size : Int)) ∨ (1024 : Int) < (x.ma.size : Int)) ∨ (1024 : Int) < (x.dt.size : Int)) → checkE l = 2) := hide (fun h => by
          rcases h with ((h | h) | h) | h
          · exact G2.out (by simpa using h)
          · exact G4.out h
          · exact G5.out h
          · exact G6.out h)
        have G7 : Hid ((x.ma.toList.isEmpty = false ∧ 1 < d + 1) → checkE l = 2) := hide (fun h => HBAD.out (by rw [HKA.out, h.1, decide_eq_true h.2]; simp))
        have G8 : Hid (x.glob = (k : Int) + 1 → x.num = (c : Int) + 1 → ¬ x.st.toList = [] → ¬ (1024 : Int) < (x.st.size : Int) → ¬ (1024 : Int) < (x.ma.size : Int) → ¬ (1024 : Int) < (x.dt.size : Int) → ¬ (x.ma.toList.isEmpty = false ∧ 1 < d + 1) → okAt l k = true) := hide (fun e1 e2 e3 e4 e5 e6 e7 => by
          rw [HKA.out, decide_eq_true e1, decide_eq_true e2]
          have f1 : [x.st, x.ma, x.dt].any longB = false := by
            simp only [List.any_cons, List.any_nil, longB, decide_eq_false (show ¬ 1024 < x.st.size by omega), decide_eq_false (show ¬ 1024 < x.ma.size by omega), decide_eq_false (show ¬ 1024 < x.dt.size by omega)]
            rfl
          rw [f1]
          have f2 : x.st.toList.isEmpty = false := by simpa using e3
          rw [f2]
          cases hme : x.ma.toList.isEmpty
          · rw [decide_eq_false (fun h => e7 ⟨hme, h⟩)]; rfl
          · rfl)
        have HK9 : Hid (k + 1 ≤ len) := hide hlt
        have hnew := heap_alloc_new wr (.cells #[.string x.st, .int .i64 x.num, .int .i64 x.glob, .string x.ma, .string x.dt] 41)
        have HBX : Hid (Below w.heap.size w (wr.alloc (.cells #[.string x.st, .int .i64 x.num, .int .i64 x.glob, .string x.ma, .string x.dt] 41))) := hide (HB.out.alloc HB.out.size _)
        have CL := hide (rlast_any _ len cap l k _ (HV.out.below' HBX.out) hlt)
        go_wp2_with fail
        refine CL.out.mono ?_
        rintro e W2 ⟨⟨r0, rfl, hr0⟩, hb2⟩
        have CB : ∀ j v, (wr.alloc (.cells #[.string x.st, .int .i64 x.num, .int .i64 x.glob, .string x.ma, .string x.dt] 41)).cell? ⟨wr.heap.size, j, none⟩ = some v → W2.cell? ⟨wr.heap.size, j, none⟩ = some v := fun j v hv => (hb2.cell (p := ⟨wr.heap.size, j, none⟩) (by simp)).trans hv
        rcases HLNUM.out r0 hr0 with ⟨rfl, hEQN⟩ | ⟨q, rfl, hq, hEQN, hQ1, hQ2⟩
        case inl =>
            clear hr0 CL HLNUM z0 z1 z2 z3 z4
            have HNUM2 : Hid ((1 : Int) = (c : Int) + 1) := hide hEQN.symm
            have HS2 : Hid (Below w.heap.size w W2) := hide (HBX.out.trans (hb2.mono HBX.out.size))
            have q0 := CB 0 _ (cell_blk hnew rfl)
            have q1 := CB 1 _ (cell_blk hnew rfl)
            have q2 := CB 2 _ (cell_blk hnew rfl)
            have q3 := CB 3 _ (cell_blk hnew rfl)
            have q4 := CB 4 _ (cell_blk hnew rfl)
            simp only [List.getElem_toArray, List.getElem_cons_zero, List.getElem_cons_succ] at q0 q1 q2 q3 q4
            have CT := hide (rtwice_any _ len cap l k W2 (HV.out.below' HS2.out) hlt)
            clear hb2 CB hnew
            generalize wr.heap.size = r at *
            go_wp2_with (go_at_call 31; refine CT.out.mono ?_; rintro e W3 ⟨⟨tw, rfl, htw⟩, hb3⟩; have HTW2 := hide (htw.trans HTI.out); have HB3 : Hid (Below w.heap.size w W3) := hide (HS2.out.trans (hb3.mono HS2.out.size)); clear htw hb3; cases tw)
            all_goals first
              | (go_ret
                 refine ⟨?_, ?_⟩
                 · first
                   | rw [G1.out (by assumption)]; rfl
                   | rw [G2.out (by assumption)]; rfl
                   | rw [G3.out (by rw [HNUM2.out] at *; assumption)]; rfl
                   | rw [G3.out (by rw [← HNUM2.out]; assumption)]; rfl
                   | rw [G4.out (by assumption)]; rfl
                   | rw [G5.out (by assumption)]; rfl
                   | rw [G6.out (by assumption)]; rfl
                   | rw [G9.out (by assumption)]; rfl
                   | rw [G7.out (HTW2.out.1 (by trivial))]; rfl
                 · first
                   | exact HB3.out
                   | exact HS2.out)
              | (have HOKK : okAt l k = true := by
                   refine G8.out ?_ ?_ ?_ ?_ ?_ ?_ (fun h => ?_)
                   · assumption
                   · first
                     | (rw [← HNUM2.out]; assumption)
                     | assumption
                   · assumption
                   · first | assumption | omega
                   · first | assumption | omega
                   · first | assumption | omega
                   · exact absurd (HTW2.out.2 h) (by simp)
                 go_roundw
                 case rel => exact ⟨k + 1, HK9.out, by simp, hide (HGOOD.out HOKK), HB3⟩
                 case measure => have := HK9.out; simp [intOf]; omega)
        case inr =>
            obtain ⟨b', off', e, _, t0, t1, t2, t3, t4⟩ := (HV.out.below' HB.out).2.2.2.2 q (by omega)
            cases e
            have t1' : W2.cell? ⟨bs, off + q * 5 + 1, none⟩ = some (.int .i64 (l.getD q Ev0).num) := ((hb2.cell (p := ⟨bs, off + q * 5 + 1, none⟩) (by simp; omega)).trans ((World.grownBy_alloc wr _ none).cell t1 (by simp)))
            generalize (l.getD q Ev0).num = nq at *
            have hwq : IntKind.i64.wrap (nq + 1) = nq + 1 := by simp [IntKind.wrap, IntKind.bits, IntKind.signed]; omega
            have hq0 : (0 : Int) ≤ (q : Int) := by omega
            have hqd : decide ((0 : Int) ≤ (q : Int)) = true := decide_eq_true hq0
            have hql : (q : Int) < len := by omega
            have hEQ2 := hide hEQN
            clear hr0 CL HLNUM z0 z1 z2 z3 z4 t0 t1 t2 t3 t4 hQ1 hQ2 hEQN
            have HNUM2 : Hid (nq + 1 = (c : Int) + 1) := hide hEQ2.out
            have HS2 : Hid (Below w.heap.size w W2) := hide (HBX.out.trans (hb2.mono HBX.out.size))
            have q0 := CB 0 _ (cell_blk hnew rfl)
            have q1 := CB 1 _ (cell_blk hnew rfl)
            have q2 := CB 2 _ (cell_blk hnew rfl)
            have q3 := CB 3 _ (cell_blk hnew rfl)
            have q4 := CB 4 _ (cell_blk hnew rfl)
            simp only [List.getElem_toArray, List.getElem_cons_zero, List.getElem_cons_succ] at q0 q1 q2 q3 q4
            have CT := hide (rtwice_any _ len cap l k W2 (HV.out.below' HS2.out) hlt)
            clear hb2 CB hnew
            generalize wr.heap.size = r at *
            go_wp2_with (go_at_call 31; refine CT.out.mono ?_; rintro e W3 ⟨⟨tw, rfl, htw⟩, hb3⟩; have HTW2 := hide (htw.trans HTI.out); have HB3 : Hid (Below w.heap.size w W3) := hide (HS2.out.trans (hb3.mono HS2.out.size)); clear htw hb3; cases tw)
            all_goals first
              | (go_ret
                 refine ⟨?_, ?_⟩
                 · first
                   | rw [G1.out (by assumption)]; rfl
                   | rw [G2.out (by assumption)]; rfl
                   | rw [G3.out (by rw [HNUM2.out] at *; assumption)]; rfl
                   | rw [G3.out (by rw [← HNUM2.out]; assumption)]; rfl
                   | rw [G4.out (by assumption)]; rfl
                   | rw [G5.out (by assumption)]; rfl
                   | rw [G6.out (by assumption)]; rfl
                   | rw [G9.out (by assumption)]; rfl
                   | rw [G7.out (HTW2.out.1 (by trivial))]; rfl
                 · first
                   | exact HB3.out
                   | exact HS2.out)
              | (have HOKK : okAt l k = true := by
                   refine G8.out ?_ ?_ ?_ ?_ ?_ ?_ (fun h => ?_)
                   · assumption
                   · first
                     | (rw [← HNUM2.out]; assumption)
                     | assumption
                   · assumption
                   · first | assumption | omega
                   · first | assumption | omega
                   · first | assumption | omega
                   · exact absurd (HTW2.out.2 h) (by simp)
                 go_roundw
                 case rel => exact ⟨k + 1, HK9.out, by simp, hide (HGOOD.out HOKK), HB3⟩
                 case measure => have := HK9.out; simp [intOf]; omega)
end Go.Proofs.Ytggbaanoagbmdaa
