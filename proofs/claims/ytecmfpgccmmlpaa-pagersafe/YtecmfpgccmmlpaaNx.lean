/- contracts: Clone, passes, Write, Read, New -/
import Derived.Test.YtecmfpgccmmlpaaMx
namespace Go.Proofs.Ytecmfpgccmmlpaa
open Go.RowKit
open Go.Maps (Keyed has size)
variable {X : Nat → Prop}
/-- append([]byte{}, b...), at the operation -/
theorem wpList_fresh {w : World} {ops : Array Oper} {rest : List Oper} {o : Oper} {a : Act} {Q : Exit → Act → World → Prop} (hgd : o.guard = none) (s x : Operand)
    (ho : o.op = .call { callee := .builtin .append, args := #[s, x], argTypes := #[25, 25] }) (ad : Addr) (hs : a.eval s = .slice (some ad) 0 0) (src : Option Addr) (len cap : Nat) (l : List Nat) (hx : a.eval x = .slice src len cap)
    (hB : IsB w src len cap l) (hb : len ≤ 140737488355328)
    (h : ∀ a' c' w', IsB w' a' len c' l → (0 < len → At5 w' w.heap.size a') → Below w.heap.size w w' → wpList Try.prog ops Q rest (a.put o.dst (.slice a' len c')) w') : wpList Try.prog ops Q (o :: rest) a w := by
  refine wpList_plain hgd fun _ hK => ?_
  obtain ⟨a', c', w', hr, h1, h2, h3⟩ := run_fresh w o.type ad src len cap l hB hb
  unfold Oper.wp execOp
  simp only [ho, resolve, invoke, builtin, Sem.run_bind, Sem.run_pure, Result.andThen_ok, List.map_toArray, List.map_cons, List.map_nil, hs, hx, hr]
  exact hK _ _ (h a' c' w' h1 h2 h3)
set_option maxRecDepth 20000 in
/-- bytes.Clone -/
theorem clone_any (a : Option Addr) (len cap : Nat) (l : List Nat) (w : World) (h : IsB w a len cap l) (hl : len ≤ 4096) (hX : ∀ i, X i → i < w.heap.size) :
    Calls Try.prog 118 #[.slice a len cap] w fun e w' => ∃ v, e = .returned v ∧ Dat X w' v l ∧ Below w.heap.size w w' := by
  cases a with
  | none =>
    obtain rfl : len = 0 := by
      rcases h.2.2.2.2 with ⟨h0, _⟩ | ⟨b, off, hb, _⟩
      · exact h0
      · cases hb
    obtain rfl : l = [] := List.length_eq_zero_iff.1 h.1
    have hq := fun W => Go.Lib.run_eql_slice_nil (P := Try.prog) W 25 5 none 0 cap 0 0 Try.underlying25
    clear hl h hX
    go_enter Try.func118, Try.ntmps118
    go_wp2
    go_ret
    exact ⟨_, rfl, dat_nil w, Below.refl _ _⟩
  | some x =>
    have hB0 := h.below ((Below.refl _ w).alloc (Nat.le_refl _) (.cells #[] 5))
    have hq := fun W => Go.Lib.run_eql_slice_nil (P := Try.prog) W 25 5 (some x) len cap 0 0 Try.underlying25
    have HL := hide hl
    have HX := hide hX
    clear h hl hX
    go_enter Try.func118, Try.ntmps118
    go_wp2_with (at_builtin; refine wpList_fresh rfl _ _ rfl ⟨w.heap.size, 0, none⟩ rfl (some x) len cap l rfl hB0 (by have := HL.out; omega) ?_)
    intro a' c' W' hI h5 hb
    have HB : Hid (Below w.heap.size w W') := hide (((Below.refl _ w).alloc (Nat.le_refl _) _).trans (hb.mono (by simp)))
    have HD : Hid (Dat X W' (.slice a' len c') l) := hide ⟨a', len, c', rfl, hI, HL.out, fun h0 b off hb' => by obtain ⟨g1, _, h⟩ := h5 h0 b off hb'; exact ⟨h, fun hx => by have := HX.out b hx; first | omega | (simp at g1; omega)⟩⟩
    clear hB0 hI h5 hb
    go_wp2
    go_ret
    exact ⟨_, rfl, HD.out, HB.out⟩
/-- (*Disk).passes -/
theorem passes_off (w : World) (g gs b n : Nat) (st : St) (h : IsD X w g gs b n st) (ha : st.arm = false) :
    Calls Try.prog 117 #[.pointer (some ⟨g, 0, none⟩)] w fun e w' => e = .returned (.bool true) ∧ w' = w := by
  have c3 := h.cells.c3
  rw [ha] at c3
  clear h ha
  go_enter Try.func117, Try.ntmps117
  go_wp2
  go_ret
  exact ⟨rfl, rfl⟩
theorem passes_no (w : World) (g gs b n : Nat) (st : St) (h : IsD X w g gs b n st) (ha : st.arm = true) (hl : st.left = 0) :
    Calls Try.prog 117 #[.pointer (some ⟨g, 0, none⟩)] w fun e w' => e = .returned (.bool false) ∧ w' = w := by
  have c3 := h.cells.c3
  have c4 : w.cell? ⟨g, 4, none⟩ = some (.int .i64 0) := by have := h.cells.c4; rw [hl] at this; exact this
  rw [ha] at c3
  clear h ha hl
  go_enter Try.func117, Try.ntmps117
  go_wp2
  go_ret
  exact ⟨rfl, rfl⟩
def St.less (st : St) : St := { st with left := st.left - 1 }
theorem passes_yes (w : World) (g gs b n : Nat) (st : St) (h : IsD X w g gs b n st) (ha : st.arm = true) (hl : 0 < st.left) :
    Calls Try.prog 117 #[.pointer (some ⟨g, 0, none⟩)] w fun e w' => e = .returned (.bool true) ∧ IsD X w' g gs b n st.less ∧ Frm (SD g gs b) w w' := by
  have c3 := h.cells.c3
  have c4 := h.cells.c4
  have f4 := h.cells.fz 4
  have hlm := h.left
  rw [ha] at c3
  have HI : Hid (IsD X (w.setCell ⟨g, 4, none⟩ (.int .i64 ((st.left - 1 : Nat) : Int))) g gs b n st.less) := hide (h.upd (Frm.set (S := fun i => i = g) (Frm.refl _ _) rfl _) (by rw [blk_set h.blk]; rfl) rfl rfl (Nat.le_refl _) h.wr (by simp only [St.less]; omega))
  have HF : Hid (Frm (SD g gs b) w (w.setCell ⟨g, 4, none⟩ (.int .i64 ((st.left - 1 : Nat) : Int)))) := hide (Frm.set (Frm.refl _ _) (.inl rfl) _)
  have e1 : ((st.left - 1 : Nat) : Int) = (st.left : Int) - 1 := by omega
  rw [e1] at HI HF
  have hz : ((st.left : Int) == 0) = false := by simp; omega
  clear h ha e1
  generalize st.left = L at *
  go_enter Try.func117, Try.ntmps117
  go_wp2
  go_ret
  exact ⟨rfl, HI.out, HF.out⟩
/-- what was written to a sector is there -/
def St.puts (st : St) (i : Nat) (l : List Nat) : St := { st with fr := fun k => if k = i then some l else st.fr k, wr := st.wr + 1 }
theorem zero32 (W : World) : (zeroValue 25).run Try.prog W = .ok (.slice none 0 0) W := Try.zeroValue25 W
theorem IsD.put {w w' : World} {g gs b n m : Nat} {st : St} {D : DataW Value} (h : IsD X w g gs b n st) (hfr : FrD X w D n st.fr) (hm : m ≤ st.wr) (i : Nat) (hi : i < n) (v : Value) (l : List Nat) (hv : Dat X w v l)
    (hown : w'.ownsMap Try.prog 3 heldR b (m + 1) (D.put (ky i) (.held v))) (hg : w.grownBy w' (some b)) (hw : st.wr < 4611686018427387904) (hD : Go.Maps.IsMap D) :
    IsD X (w'.setCell ⟨g, 2, none⟩ (.int .i64 ((st.wr + 1 : Nat) : Int))) g gs b n (st.puts i l) := by
  have hk : K5 w w' := K5.of_frm (Frm.grown (S := fun j => j = b) hg (fun k hk => by cases hk; rfl)) (fun j cur m' hj => h.no5 j cur m' (.inr (.inr hj)))
  obtain ⟨n1, n2, n3⟩ := h.ne
  obtain ⟨cur, hc, hsz, hd⟩ := h.syn
  have hblk' : w'.heap[g]? = w.heap[g]? := hg.block g (heap_lt h.blk) (by simpa using n2)
  have hblk := hblk'.trans h.blk
  have hk2 : K5 w' (w'.setCell ⟨g, 2, none⟩ (.int .i64 ((st.wr + 1 : Nat) : Int))) := fun j cur' m' hj => by
    have hne : j ≠ g := by rintro rfl; rw [hblk] at hj; simp at hj
    exact (Below.heap_setCell _ _ _ _ hne).trans hj
  obtain ⟨es, clock, hes, hfit, hle, hDD⟩ := hown
  refine ⟨h.n0, h.n1, ?_, ⟨cur, (Below.heap_setCell _ _ _ _ (Ne.symm n1)).trans ((hg.block gs (heap_lt hc) (by simpa using n3)).trans hc), hsz, fun j hj => ?_⟩, ⟨m + 1, _, ⟨es, clock, (Below.heap_setCell _ _ _ _ (Ne.symm n2)).trans hes, hfit, hle, hDD⟩, by simp only [St.puts]; omega, ?_⟩, by simp only [St.puts]; omega, h.left, fun i hi => by have := h.xb i hi; have := hg.size; simp; omega⟩
  · rw [blk_set hblk]; rfl
  · obtain ⟨u, hu, hdu⟩ := hd j hj
    exact ⟨u, hu, (hdu.kept hk).kept hk2⟩
  · have hkey : WideAt.IsKeyLit (ky i) := trivial
    refine ⟨fun j hj => ?_, fun kl hkl => ?_⟩
    · by_cases hji : j = i
      · subst hji
        refine .inr ⟨l, v, by simp [St.puts], Go.Maps.has_put_same hD hkey _, (hv.kept hk).kept hk2, fun z => Go.Maps.atKey_put_same hD hkey _ z⟩
      · have hne : ky j ≠ ky i := fun e => hji (ky_inj e)
        rcases hfr.1 j hj with ⟨h1, h2⟩ | ⟨l', v', h1, h2, h3, h4⟩
        · exact .inl ⟨by simp [St.puts, hji, h1], by rw [Go.Maps.has_put_other hne]; exact h2⟩
        · exact .inr ⟨l', v', by simp [St.puts, hji, h1], by rw [Go.Maps.has_put_other hne]; exact h2, (h3.kept hk).kept hk2, fun z => by rw [Go.Maps.atKey_put_other hne]; exact h4 z⟩
    · by_cases hki : kl = ky i
      · exact ⟨i, hi, hki⟩
      · rw [Go.Maps.has_put_other hki] at hkl
        exact hfr.2 kl hkl
theorem ownsMap_isMap {w : World} {b m : Nat} {D : DataW Value} (h : w.ownsMap Try.prog 3 heldR b m D) : Go.Maps.IsMap D := h.isMap
/-- (*Disk).Write -/
theorem write_dn (w : World) (g gs b n : Nat) (st : St) (h : IsD X w g gs b n st) (hd : st.down = true) (i : Int) (d : Value) :
    Calls Try.prog 115 #[.pointer (some ⟨g, 0, none⟩), .int .i64 i, d] w fun e w' => e = .returned (.int .i64 8) ∧ w' = w := by
  have RD := hide (ready_dn w g gs b n st h hd)
  clear h hd
  go_enter Try.func115, Try.ntmps115
  go_wp2_with fail
  refine RD.out.mono ?_
  rintro e w' ⟨rfl, rfl⟩
  go_wp2
  go_ret
  exact ⟨rfl, rfl⟩
theorem write_nil (w : World) (i : Int) (d : Value) : Calls Try.prog 115 #[.pointer none, .int .i64 i, d] w fun e w' => e = .returned (.int .i64 1) ∧ w' = w := by
  go_enter Try.func115, Try.ntmps115
  go_wp2_with fail
  refine (ready_nil w).mono ?_
  rintro e w' ⟨rfl, rfl⟩
  go_wp2
  go_ret
  exact ⟨rfl, rfl⟩
theorem write_range (w : World) (g gs b n : Nat) (st : St) (h : IsD X w g gs b n st) (hd : st.down = false) (i : Int) (hi : ¬ (0 ≤ i ∧ i < n)) (d : Value) :
    Calls Try.prog 115 #[.pointer (some ⟨g, 0, none⟩), .int .i64 i, d] w fun e w' => e = .returned (.int .i64 2) ∧ w' = w := by
  have RD := hide (ready_up w g gs b n st h hd)
  have HA := hide (has_any w g gs b n st h i)
  rw [hasB_false hi] at HA
  clear h hd hi
  go_enter Try.func115, Try.ntmps115
  go_wp2_with fail
  refine RD.out.mono ?_
  rintro e w' ⟨rfl, rfl⟩
  go_wp2_with fail
  refine HA.out.mono ?_
  rintro e w' ⟨rfl, rfl⟩
  go_wp2
  go_ret
  exact ⟨rfl, rfl⟩
theorem write_long (w : World) (g gs b n : Nat) (st : St) (h : IsD X w g gs b n st) (hd : st.down = false) (i : Nat) (hi : i < n) (a : Option Addr) (len cap : Nat) (hl : 4096 < len) :
    Calls Try.prog 115 #[.pointer (some ⟨g, 0, none⟩), .int .i64 (i : Int), .slice a len cap] w fun e w' => e = .returned (.int .i64 4) ∧ w' = w := by
  have RD := hide (ready_up w g gs b n st h hd)
  have HA := hide (has_any w g gs b n st h i)
  rw [hasB_true (by omega) (by omega)] at HA
  have d1 : decide ((4096 : Int) < (len : Int)) = true := decide_eq_true (by omega)
  have d2 : decide (4096 < len) = true := decide_eq_true hl
  clear h hd hi hl
  go_enter Try.func115, Try.ntmps115
  go_wp2_with fail
  refine RD.out.mono ?_
  rintro e w' ⟨rfl, rfl⟩
  go_wp2_with fail
  refine HA.out.mono ?_
  rintro e w' ⟨rfl, rfl⟩
  go_wp2
  go_ret
  exact ⟨rfl, rfl⟩
theorem write_cut (w : World) (g gs b n : Nat) (st : St) (h : IsD X w g gs b n st) (hd : st.down = false) (i : Nat) (hi : i < n) (a : Option Addr) (len cap : Nat) (hl : len ≤ 4096) (ha : st.arm = true) (h0 : st.left = 0) :
    Calls Try.prog 115 #[.pointer (some ⟨g, 0, none⟩), .int .i64 (i : Int), .slice a len cap] w fun e w' => e = .returned (.int .i64 8) ∧ IsD X w' g gs b n st.cuts ∧ Frm (SD g gs b) w w' := by
  have RD := hide (ready_up w g gs b n st h hd)
  have HA := hide (has_any w g gs b n st h i)
  rw [hasB_true (by omega) (by omega)] at HA
  have PA := hide (passes_no w g gs b n st h ha h0)
  have d1 : decide ((4096 : Int) < (len : Int)) = false := decide_eq_false (by omega)
  have d2 : decide (4096 < len) = false := decide_eq_false (by omega)
  have c5 := h.cells.c5
  have fz := h.cells.fz 5
  have HI : Hid (IsD X (w.setCell ⟨g, 5, none⟩ (.bool true)) g gs b n st.cuts) := hide (h.upd (Frm.set (S := fun i => i = g) (Frm.refl _ _) rfl _) (by rw [blk_set h.blk]; rfl) rfl rfl (Nat.le_refl _) h.wr h.left)
  have HF : Hid (Frm (SD g gs b) w (w.setCell ⟨g, 5, none⟩ (.bool true))) := hide (Frm.set (Frm.refl _ _) (.inl rfl) _)
  clear h hd hi hl ha h0
  go_enter Try.func115, Try.ntmps115
  go_wp2_with fail
  refine RD.out.mono ?_
  rintro e w' ⟨rfl, rfl⟩
  go_wp2_with fail
  refine HA.out.mono ?_
  rintro e w' ⟨rfl, rfl⟩
  go_wp2_with fail
  refine PA.out.mono ?_
  rintro e w' ⟨rfl, rfl⟩
  go_wp2
  go_ret
  exact ⟨rfl, HI.out, HF.out⟩
/-- the write itself, behind passes -/
theorem write_tail (w : World) (g gs b n : Nat) (st : St) (h : IsD X w g gs b n st) (hd : st.down = false) (i : Nat) (hi : i < n) (a : Option Addr) (len cap : Nat) (l : List Nat) (hl : len ≤ 4096) (hw : st.wr < 4611686018427387904)
    (st2 : St) (w2 : World) (h2 : IsD X w2 g gs b n st2) (hf2 : Frm (SD g gs b) w w2) (hB2 : IsB w2 a len cap l) (e1 : st2.wr = st.wr)
    (PA : Calls Try.prog 117 #[.pointer (some ⟨g, 0, none⟩)] w fun e w' => e = .returned (.bool true) ∧ w' = w2) :
    Calls Try.prog 115 #[.pointer (some ⟨g, 0, none⟩), .int .i64 (i : Int), .slice a len cap] w fun e w' => e = .returned (.int .i64 0) ∧ IsD X w' g gs b n (st2.puts i l) ∧ Frm (SD g gs b) w w' := by
  have RD := hide (ready_up w g gs b n st h hd)
  have HA := hide (has_any w g gs b n st h i)
  rw [hasB_true (by omega) (by omega)] at HA
  have PA := hide PA
  have d1 : decide ((4096 : Int) < (len : Int)) = false := decide_eq_false (by omega)
  have d2 : decide (4096 < len) = false := decide_eq_false (by omega)
  have hn1 := h.n1
  have CL := hide (clone_any a len cap l w2.drew (hB2.below (Below.drew (Below.refl _ _))) hl h2.xb)
  have hc1 := h2.cells.c1
  have HC : Hid (∀ W, Below w2.heap.size w2 W → W.cell? ⟨g, 1, none⟩ = some (.map (some b))) := hide (fun W hW => (hW.cell (p := ⟨g, 1, none⟩) (heap_lt h2.blk)).trans hc1)
  have H2 := hide h2
  have HF2 := hide hf2
  have HI := hide hi
  have hw2 : st2.wr < 4611686018427387904 := by omega
  clear h hd hi hB2 hl h2 hf2 hc1 e1 hw
  go_enter Try.func115, Try.ntmps115
  go_wp2_with fail
  refine RD.out.mono ?_
  rintro e w' ⟨rfl, rfl⟩
  go_wp2_with fail
  refine HA.out.mono ?_
  rintro e w' ⟨rfl, rfl⟩
  go_wp2_with fail
  refine PA.out.mono ?_
  rintro e w' ⟨rfl, rfl⟩
  have hc1 := HC.out _ (Below.refl _ _)
  have HUP : Hid (∀ (W : World) (v : Value), IsD X W g gs b n st2 → Dat X W v l → ∃ w4, (Instr.mapUpdate 66 (.map (some b)) (.int .i64 (i : Int)) v).run Try.prog W = .ok () w4 ∧ w4.cell? ⟨g, 2, none⟩ = some (.int .i64 (st2.wr : Nat)) ∧ w4.frozen? ⟨g, 2, none⟩ = false ∧ IsD X (w4.setCell ⟨g, 2, none⟩ (.int .i64 ((st2.wr : Int) + 1))) g gs b n (st2.puts i l) ∧ Frm (SD g gs b) W (w4.setCell ⟨g, 2, none⟩ (.int .i64 ((st2.wr : Int) + 1)))) := hide (by
    intro W v hI hD
    obtain ⟨m3, D3, hown3, hm3, hfr3⟩ := hI.map
    obtain ⟨w4, hmu, hown4, hg4⟩ := hown3.update (val := v) (d := .held v) (ps := []) kint Try.underlying66 (by unfold maxLen; have := hI.wr; omega) (keyOf_ky i (by have := HI.out; omega)) rfl
    have hblk4 : w4.heap[g]? = W.heap[g]? := hg4.block g (heap_lt hI.blk) (by have := hI.ne.2.1; simpa using this)
    exact ⟨w4, hmu, (World.cell?_of_block hblk4).trans hI.cells.c2, (World.frozen?_of_block hblk4).trans (hI.cells.fz 2), hI.put hfr3 hm3 i HI.out v l hD hown4 hg4 hw2 hown3.isMap, Frm.set (Frm.grown hg4 (fun k hk => by cases hk; exact .inr (.inr rfl))) (.inl rfl) _⟩)
  go_wp2_with fail
  go_region_with (go_at_call 118; refine CL.out.mono ?_; rintro e w3 ⟨v, rfl, hD3, hb3⟩; have hb3' : Below w'.heap.size w' w3 := (Below.drew (Below.refl _ _)).trans hb3; obtain ⟨w4, hmu, hc4, hf4, hI4, hF4⟩ := HUP.out w3 v (H2.out.below hb3') hD3; have hc3 := HC.out w3 hb3'; have HI4 := hide hI4; have HF4 := hide (HF2.out.trans ((Frm.below hb3').trans hF4)); clear hI4 hF4 hD3 hb3 hb3')
  all_goals
    generalize st2.wr = W2 at *
    go_wp2
    go_ret
    exact ⟨rfl, HI4.out, HF4.out⟩
end Go.Proofs.Ytecmfpgccmmlpaa
