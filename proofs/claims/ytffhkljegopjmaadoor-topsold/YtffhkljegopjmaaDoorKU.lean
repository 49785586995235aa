/- Lines -/
import Derived.Test.YtffhkljegopjmaaDoorKT
namespace Go.Proofs.YtffhkljegopjmaaDoor
open Go.RowKit
set_option maxRecDepth 40000
theorem eqf23 (w : World) (fn : Fn) (x y : Array Value) : (binOp .eql 31 (.func fn x y) .nilFunc).run Tryd.prog w = .ok (.bool false) w := by
  have h : ∀ d : Nat, (Op.equalIn (d + 1) 31 (.func fn x y) .nilFunc).run Tryd.prog w = .ok false w := fun d => by
    simp [Op.equalIn, run_underlying Tryd.underlying31]
  simp only [binOp]
  simp [Op.equal, Op.maxDepth, h 9999]
theorem eqn23 (w : World) : (binOp .eql 31 .nilFunc .nilFunc).run Tryd.prog w = .ok (.bool true) w := by
  have h : ∀ d : Nat, (Op.equalIn (d + 1) 31 .nilFunc .nilFunc).run Tryd.prog w = .ok true w := fun d => by
    simp [Op.equalIn, run_underlying Tryd.underlying31]
  simp only [binOp]
  simp [Op.equal, Op.maxDepth, h 9999]
/-- the two results of Lines, in their blocks -/
def Res (w : World) (g : Nat) (v : Value) (e : Int) : Prop := w.heap[g]? = some (.cells #[v] 22 (0, 0)) ∧ w.heap[g + 1]? = some (.cells #[.int .i64 e] 25 (0, 0))
theorem Res.below {w w' : World} {g : Nat} {v : Value} {e : Int} (h : Res w g v e) (hb : Below w.heap.size w w') : Res w' g v e := ⟨(hb.block _ (heap_lt h.1)).trans h.1, (hb.block _ (heap_lt h.2)).trans h.2⟩
theorem Res.set7 {w : World} {g : Nat} {v : Value} {e : Int} (h : Res w g v e) (e' : Int) : Res (w.setCell ⟨g + 1, 0, none⟩ (.int .i64 e')) g v e' := ⟨(Below.heap_setCell _ _ _ _ (by simp)).trans h.1, blk_set h.2 _⟩
theorem Res.set6 {w : World} {g : Nat} {v : Value} {e : Int} (h : Res w g v e) (v' : Value) : Res (w.setCell ⟨g, 0, none⟩ v') g v' e := ⟨blk_set h.1 _, (Below.heap_setCell _ _ _ _ (by simp)).trans h.2⟩
theorem Res.c6 {w : World} {g : Nat} {v : Value} {e : Int} (h : Res w g v e) : w.cell? ⟨g, 0, none⟩ = some v := cell_blk h.1 rfl
theorem Res.c7 {w : World} {g : Nat} {v : Value} {e : Int} (h : Res w g v e) : w.cell? ⟨g + 1, 0, none⟩ = some (.int .i64 e) := cell_blk h.2 rfl
theorem Res.f6 {w : World} {g : Nat} {v : Value} {e : Int} (h : Res w g v e) : w.frozen? ⟨g, 0, none⟩ = false := froz_blk h.1 0
theorem Res.f7 {w : World} {g : Nat} {v : Value} {e : Int} (h : Res w g v e) : w.frozen? ⟨g + 1, 0, none⟩ = false := froz_blk h.2 0
theorem results_cell2 {fn : Func} {p q : Tmp} {t u : TypeId} (h : fn.results = #[.cell p t, .cell q u]) (tmps : Array Value) (P : Program) (w : World) :
    (results fn tmps).run P w =
      ((asAddr (tmps.getD p undef)).run P w).andThen fun a w₁ => ((loadVar t a).run P w₁).andThen fun x w₂ => ((asAddr (tmps.getD q undef)).run P w₂).andThen fun a' w₃ => ((loadVar u a').run P w₃).andThen fun y w₄ => .ok (.tuple #[x, y]) w₄ := by
  simp only [results, h]
  simp [Sem.run_bind, Result.andThen]
theorem resL {fn : Func} {p q : Tmp} (h : fn.results = #[.cell p 22, .cell q 25]) (tmps : Array Value) (W : World) (g : Nat) (a : Option Addr) (n c : Nat) (e : Int) (hr : Res W g (.slice a n c) e) (hp : tmps.getD p undef = .pointer (some ⟨g, 0, none⟩)) (hq : tmps.getD q undef = .pointer (some ⟨g + 1, 0, none⟩)) :
    (results fn tmps).run Tryd.prog W = .ok (.tuple #[.slice a n c, .int .i64 e]) W := by
  rw [results_cell2 h, hp, hq]
  have h6 := hr.c6
  have h7 := hr.c7
  have a22 := Tryd.isAgg22
  have a25 := Tryd.isAgg25
  simp [asAddr, Result.andThen, loadVar, go_sem, h6, h7, a22, a25]
set_option maxRecDepth 40000 in
set_option maxHeartbeats 4000000 in
theorem lines_any (k fk : Nat) (hent : ∀ args W, (callFunc fk args).run Tryd.prog W = .ok (.enter fk args) W) (hcall : ∀ (a : Option Addr) (len cap : Nat) (l : List Cl) (it wa n : Int) (w : World), IsC w a len cap l → Calls Tryd.prog fk #[.slice a len cap, .int .i64 it, .int .i64 wa, .int .i64 n] w fun e w' => ∃ a' c', e = .returned (.tuple #[.slice a' (moveR k l it wa n).1.length c', .int .i64 (moveR k l it wa n).2]) ∧ IsC w' a' (moveR k l it wa n).1.length c' (moveR k l it wa n).1 ∧ Below w.heap.size w w') (a : Option Addr) (len cap : Nat) (l : List Cl) (b : Option Addr) (ln lc : Nat) (xs : List Ln) (w : World) (h : IsC w a len cap l) (hbig : len * 48 ≤ 140737488355328) (hx : IsL w b ln lc xs) : Calls Tryd.prog 7 #[.slice a len cap, .slice b ln lc, .func (.func fk) #[] #[]] w fun e w' => ∃ a' c', e = .returned (.tuple #[.slice a' (linesR k l xs).1.length c', .int .i64 (linesR k l xs).2]) ∧ IsC w' a' (linesR k l xs).1.length c' (linesR k l xs).1 ∧ Below w.heap.size w w' := by
  have HV := hide h
  have HX := hide hx
  have HXN := hide hx.1
  have hxc := hx.2.1
  have hxm : lc ≤ 9223372036854775807 := hx.2.2.1
  have HBL : Hid (∀ j, (linesR k l (xs.take j)).1.length * 48 ≤ 140737488355328) := hide (fun j => linesR_len k _ l (by rw [h.1]; exact hbig))
  have HC0 := hide (fun W (hW : IsC W a len cap l) => clone_any a len cap l W hW hbig)
  have HST : Hid (∀ j, j < ln → linesR k l (xs.take (j + 1)) = if (linesR k l (xs.take j)).2 = 0 then (if (moveR k (linesR k l (xs.take j)).1 (xs.getD j Ln0).it (xs.getD j Ln0).wa (xs.getD j Ln0).q).2 = 0 then (moveR k (linesR k l (xs.take j)).1 (xs.getD j Ln0).it (xs.getD j Ln0).wa (xs.getD j Ln0).q).1 else [], (moveR k (linesR k l (xs.take j)).1 (xs.getD j Ln0).it (xs.getD j Ln0).wa (xs.getD j Ln0).q).2) else ([], (linesR k l (xs.take j)).2)) := hide (fun j hj => by
    have e : xs.take (j + 1) = xs.take j ++ [xs.getD j Ln0] := by
      rw [List.take_add_one, List.getD_eq_getElem?_getD, List.getElem?_eq_getElem (by rw [hx.1]; exact hj)]; rfl
    rw [e, linesR_append]
    split
    · simp only [linesR]
      split
      · rename_i h0; rw [h0]
      · rfl
    · rfl)
  have HER : Hid (∀ j, j ≤ ln → (linesR k l (xs.take j)).2 ≠ 0 → linesR k l xs = ([], (linesR k l (xs.take j)).2)) := hide (fun j _ hne => by
    have e : xs = xs.take j ++ xs.drop j := (List.take_append_drop j xs).symm
    conv => lhs; rw [e]
    rw [linesR_append, if_neg hne])
  have HEN : Hid (linesR k l (xs.take ln) = linesR k l xs) := hide (by rw [← hx.1, List.take_length])
  have HL0 : Hid (linesR k l (xs.take 0) = (l, 0)) := hide rfl
  have HCALL := hide hcall
  have hmf : ∀ (fn : Fn) (first cap : Array Value) (w : World), (Instr.makeFunc fn first cap).run Tryd.prog w = .ok (.func fn first cap) w := fun _ _ _ _ => rfl
  have HLN := hide h.1
  have heq := eqf23
  clear h hx hbig hcall
  go_enter_defers Tryd.func7, Tryd.ntmps7
  go_wp2_with fail
  generalize hW0 : (w.alloc (.cells #[.slice none 0 0] 22)).alloc (.cells #[.int .i64 0] 25) = W0
  have HR0 : Hid (Res W0 w.heap.size (.slice none 0 0) 0) := hide (by
    rw [← hW0]
    refine ⟨(Below.heap_alloc _ _ _ (by simp)).trans (heap_alloc_new _ _), ?_⟩
    have := heap_alloc_new (w.alloc (.cells #[.slice none 0 0] 22)) (.cells #[.int .i64 0] 25)
    rwa [show (w.alloc (.cells #[.slice none 0 0] 22)).heap.size = w.heap.size + 1 by simp] at this)
  have HB0 : Hid (Below w.heap.size w W0) := hide (hW0 ▸ ((Below.refl _ w).alloc (Nat.le_refl _) _).alloc (by simp) _)
  clear hW0
  refine (HC0.out W0 (HV.out.below' HB0.out)).mono ?_
  rintro e w1 ⟨a1, c1, rfl, hI1, hb1⟩
  have HI1 := hide hI1
  have HB1 := hide (HB0.out.trans (hb1.mono HB0.out.size))
  have HR1 := hide (HR0.out.below hb1)
  clear hI1 hb1 HC0 HR0 HB0
  go_wp2
  go_loopw [8, 18] (fun lv iv wr => ∃ (j : Nat) (aL : Option Addr) (cL : Nat), j ≤ ln ∧ iv = .int .i64 j ∧ lv = .slice aL (linesR k l (xs.take j)).1.length cL ∧ Hid ((linesR k l (xs.take j)).2 = 0 ∧ IsC wr aL (linesR k l (xs.take j)).1.length cL (linesR k l (xs.take j)).1 ∧ Below w.heap.size w wr ∧ Res wr w.heap.size (.slice none 0 0) 0)) (fun _ iv _ => ln - (intOf iv).toNat)
  case atStart => exact ⟨0, a1, c1, by omega, rfl, by rw [HL0.out, HLN.out], hide ⟨by rw [HL0.out], by rw [HL0.out, HLN.out]; exact HI1.out, HB1.out, HR1.out⟩⟩
  case round =>
    obtain ⟨j, aL, cL, hj, rfl, rfl, HW⟩ := hrel
    by_cases hlt : j < ln
    · obtain ⟨bb, off, rfl, hbb, z0⟩ := (HX.out.below' HW.out.2.2.1).2.2.2.1 j hlt
      have HSTj := hide (HST.out j hlt)
      have HERj := hide (HER.out (j + 1) (by omega))
      generalize xs.getD j Ln0 = x at *
      obtain ⟨x1, x2, x3, x4⟩ := x
      obtain ⟨z1, z2, z3, z4⟩ := z0
      dsimp only at z1 z2 z3 z4 HSTj
      rw [if_pos HW.out.1] at HSTj
      have HLW := hide (And.intro HW.out.2.1 (And.intro HW.out.2.2.1 HW.out.2.2.2))
      clear HW
      generalize (linesR k l (xs.take j)).1 = L at *
      have HAL : Hid (Below wr.heap.size wr (wr.alloc (.cells #[.int .i64 x1, .int .i64 x2, .int .i64 x3, .int .i64 x4] 41))) := hide ((Below.refl _ _).alloc (Nat.le_refl _) _)
      have HC := hide (HCALL.out aL L.length cL L x1 x2 x3 _ (HLW.out.1.below' HAL.out))
      have HRv := hide (HLW.out.2.2.below HAL.out)
      have HBv : Hid (Below w.heap.size w (wr.alloc (.cells #[.int .i64 x1, .int .i64 x2, .int .i64 x3, .int .i64 x4] 41))) := hide (HLW.out.2.1.trans (HAL.out.mono HLW.out.2.1.size))
      generalize moveR k L x1 x2 x3 = M at *
      obtain ⟨M1, M2⟩ := M
      dsimp only at HSTj HC
      obtain ⟨Ln', hLn⟩ : ∃ q, L.length = q := ⟨_, rfl⟩
      obtain ⟨Mn, hMn⟩ : ∃ q, M1.length = q := ⟨_, rfl⟩
      rw [hLn, hMn] at HC
      rw [hLn]
      have HMN := hide hMn
      clear hLn hMn HLW HAL
      go_wp2_with fail
      refine HC.out.mono ?_
      rintro e v ⟨a7, c7, rfl, hI7, hb7⟩
      have HI7 := hide hI7
      have HRw := hide (HRv.out.below hb7)
      have HBw := hide (HBv.out.trans (hb7.mono HBv.out.size))
      clear hI7 hb7 HC HRv HBv z1 z2 z3 z4
      have c6 := HRw.out.c6
      have c7' := HRw.out.c7
      have f6 := HRw.out.f6
      have f7 := HRw.out.f7
      by_cases hM : M2 = 0
      · subst hM
        simp only [if_true] at HSTj
        go_wp2
        go_roundw
        case rel => exact ⟨j + 1, a7, c7, by omega, by simp, by rw [HSTj.out, HMN.out], hide ⟨by rw [HSTj.out], by rw [HSTj.out]; rw [HMN.out]; exact HI7.out.setOther HRw.out.2, HBw.out.setCell (by simp) _, HRw.out.set7 0⟩⟩
        case measure => simp [intOf]; omega
      · rw [if_neg hM] at HSTj
        have HFE : Hid (linesR k l xs = ([], M2)) := hide (by
          have := HERj.out (by rw [HSTj.out]; exact hM)
          rw [HSTj.out] at this
          exact this)
        have hd : decide (M2 = 0) = false := decide_eq_false hM
        have hd2 : (M2 == 0) = false := by simpa using hM
        clear HERj HSTj
        go_wp2_with fail
        generalize hv2 : v.setCell ⟨w.heap.size + 1, 0, none⟩ (.int .i64 M2) = v2
        have HR2 : Hid (Res v2 w.heap.size (.slice none 0 0) M2) := hide (hv2 ▸ HRw.out.set7 M2)
        have HB2 : Hid (Below w.heap.size w v2) := hide (hv2 ▸ HBw.out.setCell (by simp) _)
        clear hv2 c6 c7' f6 f7 HRw HBw HI7
        have HSr : Hid (∀ W : World, Res W w.heap.size (.slice none 0 0) M2 → (W.cell? ⟨w.heap.size, 0, none⟩ = some (.slice none 0 0) ∧ W.cell? ⟨w.heap.size + 1, 0, none⟩ = some (.int .i64 M2) ∧ W.frozen? ⟨w.heap.size, 0, none⟩ = false ∧ W.frozen? ⟨w.heap.size + 1, 0, none⟩ = false)) := hide (fun W h => ⟨h.c6, h.c7, h.f6, h.f7⟩)
        have c6 := HR2.out.c6
        have c7' := HR2.out.c7
        have f6 := HR2.out.f6
        have f7 := HR2.out.f7
        go_region_with (fail)
        all_goals go_wp2
        all_goals refine leaves_cons (f := 22) (args := #[.pointer (some ⟨w.heap.size, 0, none⟩), .pointer (some ⟨w.heap.size + 1, 0, none⟩)]) (by simp) (by simp [go_sem]) ?_
        all_goals refine (catch_idle ⟨w.heap.size, 0, none⟩ ⟨w.heap.size + 1, 0, none⟩ _).mono ?_
        all_goals rintro e u' w'' ⟨rfl, rfl, rfl⟩
        all_goals exact ⟨_, resL rfl _ _ w.heap.size none 0 0 M2 ((HR2.out.set6 _).set7 _) rfl rfl, none, 0, by rw [HFE.out]; rfl, by rw [HFE.out]; exact isC_nil _, ((HB2.out.setCell (Nat.le_refl _) _).setCell (by simp) _).drew⟩
    · obtain rfl : j = ln := by omega
      rw [HEN.out] at HW ⊢
      have HLB : Hid ((linesR k l xs).1.length * 48 ≤ 140737488355328) := hide (HEN.out ▸ HBL.out j)
      obtain ⟨R, hR0⟩ : ∃ R, linesR k l xs = R := ⟨_, rfl⟩
      rw [hR0] at HW HLB ⊢
      obtain ⟨R1, R2⟩ := R
      have HRE := hide hR0
      clear hR0 HEN HER HST
      dsimp only at HW HLB ⊢
      obtain ⟨rfl, hI, hB, hR⟩ := HW.out
      have HBw := hide hB
      obtain ⟨Rn, hRn⟩ : ∃ q, R1.length = q := ⟨_, rfl⟩
      rw [hRn] at hI HLB ⊢
      have HRN := hide hRn
      have HC := hide (clone_any aL Rn cL R1 wr hI HLB.out)
      have HRr := hide hR
      clear HW hI hB hR hRn
      go_wp2_with fail
      refine HC.out.mono ?_
      rintro e v ⟨a7, c7, rfl, hI7, hb7⟩
      have HI7 := hide hI7
      have HRw := hide (HRr.out.below hb7)
      have HBv := hide (HBw.out.trans (hb7.mono HBw.out.size))
      clear hI7 hb7 HC HRr HBw
      have c6 := HRw.out.c6
      have c7' := HRw.out.c7
      have f6 := HRw.out.f6
      have f7 := HRw.out.f7
      go_wp2
      refine leaves_cons (f := 22) (args := #[.pointer (some ⟨w.heap.size, 0, none⟩), .pointer (some ⟨w.heap.size + 1, 0, none⟩)]) (by simp) (by simp [go_sem]) ?_
      refine (catch_idle ⟨w.heap.size, 0, none⟩ ⟨w.heap.size + 1, 0, none⟩ _).mono ?_
      rintro e u' w'' ⟨rfl, rfl, rfl⟩
      exact ⟨_, resL rfl _ _ w.heap.size a7 Rn c7 0 ((HRw.out.set6 _).set7 _) rfl rfl, a7, c7, by rw [HRE.out, HRN.out], by rw [HRE.out, HRN.out]; exact (HI7.out.setOther HRw.out.1).setOther (HRw.out.set6 _).2, (HBv.out.setCell (Nat.le_refl _) _).setCell (by simp) _⟩
theorem res_new (w : World) (e : Int) : Res ((w.alloc (.cells #[.slice none 0 0] 22)).alloc (.cells #[.int .i64 e] 25)) w.heap.size (.slice none 0 0) e := by
  refine ⟨(Below.heap_alloc _ _ _ (by simp)).trans (heap_alloc_new _ _), ?_⟩
  have := heap_alloc_new (w.alloc (.cells #[.slice none 0 0] 22)) (.cells #[.int .i64 e] 25)
  rwa [show (w.alloc (.cells #[.slice none 0 0] 22)).heap.size = w.heap.size + 1 by simp] at this
theorem lines_nil (a : Option Addr) (len cap : Nat) (b : Option Addr) (ln lc : Nat) (w : World) : Calls Tryd.prog 7 #[.slice a len cap, .slice b ln lc, .nilFunc] w fun e w' => e = .returned (.tuple #[.slice none 0 0, .int .i64 1]) ∧ Below w.heap.size w w' := by
  have heq := eqn23
  go_enter_defers Tryd.func7, Tryd.ntmps7
  go_wp2
  exact ⟨_, resL rfl _ _ w.heap.size none 0 0 1 (res_new w 1) rfl rfl, rfl, ((Below.refl _ w).alloc (Nat.le_refl _) _).alloc (by simp) _⟩
end Go.Proofs.YtffhkljegopjmaaDoor
