/- find, Of -/
import Derived.Test.YtfbfmhfceemkgaaDoorSE
import Derived.Laws.ResultCell
namespace Go.Proofs.YtfbfmhfceemkgaaDoor
open Go.RowKit
theorem cmpI_neg {a b : Int} : cmpI a b < 0 ↔ a < b := by unfold cmpI; split <;> (try split) <;> omega
theorem cmpI_zero {a b : Int} : cmpI a b = 0 ↔ a = b := by unfold cmpI; split <;> (try split) <;> omega
theorem ordS_neg {a b : Sh} : ordS a b < 0 ↔ a.od < b.od := cmpI_neg
theorem ordS_zero {a b : Sh} : ordS a b = 0 ↔ a.od = b.od := cmpI_zero
theorem getD_mem {α : Type} {l : List α} {i : Nat} {d : α} (h : i < l.length) : l.getD i d ∈ l := by
  rw [List.getD_eq_getElem?_getD, List.getElem?_eq_getElem h]; simp
/-- a right shipment -/
def okX (x : Sh) : Prop := 1 ≤ x.od ∧ x.od ≤ 1024 ∧ 1 ≤ x.st ∧ x.st < 7
/-- shipments that are right, with orders above a -/
def Good : Int → List Sh → Prop
  | _, [] => True
  | a, x :: r => a < x.od ∧ x.od ≤ 1024 ∧ 0 < x.od ∧ x.st < 7 ∧ x.st ≠ 0 ∧ Good x.od r
theorem goodL_iff : ∀ (l : List Sh) (a : Int), goodL a l = true ↔ Good a l
  | [], _ => by simp [goodL, Good]
  | x :: r, a => by
    simp only [goodL, Good, Bool.and_eq_true, decide_eq_true_eq, goodL_iff r, orB, stB]
    constructor
    · rintro ⟨h1, h2, h3, h4, h5⟩; exact ⟨h1, by omega, by omega, h3, h4, h5⟩
    · rintro ⟨h1, h2, h3, h4, h5, h6⟩; exact ⟨h1, ⟨by omega, h2⟩, h4, h5, h6⟩
theorem checkE_cases (l : List Sh) : (Good 0 l ∧ checkE l = 0) ∨ (¬ Good 0 l ∧ checkE l = 2) := by
  by_cases h : Good 0 l
  · exact .inl ⟨h, by unfold checkE; rw [if_pos ((goodL_iff l 0).2 h)]⟩
  · exact .inr ⟨h, by unfold checkE; rw [if_neg (fun e => h ((goodL_iff l 0).1 e))]⟩
theorem Good.le : ∀ {l : List Sh} {a : Int}, Good a l → ∀ i, i < l.length → a < (l.getD i Sh0).od
  | [], _, _, i, hi => by simp at hi
  | x :: r, a, h, 0, _ => by simpa using h.1
  | x :: r, a, h, i + 1, hi => by
    have := Good.le h.2.2.2.2.2 i (by simpa using hi)
    have h1 := h.1
    simp only [List.getD_cons_succ]
    omega
theorem Good.sorted : ∀ {l : List Sh} {a : Int}, Good a l → ∀ i j, i < j → j < l.length → (l.getD i Sh0).od < (l.getD j Sh0).od
  | [], _, _, i, j, _, hj => by simp at hj
  | x :: r, a, h, 0, j + 1, _, hj => by
    have := Good.le h.2.2.2.2.2 j (by simpa using hj)
    simpa using this
  | x :: r, a, h, i + 1, j + 1, hij, hj => by
    have := Good.sorted h.2.2.2.2.2 i j (by omega) (by simpa using hj)
    simpa using this
theorem Good.len : ∀ {l : List Sh} {a : Int}, Good a l → a ≤ 1024 → a + l.length ≤ 1024
  | [], _, _, ha => by simpa using ha
  | x :: r, a, h, ha => by
    have := Good.len h.2.2.2.2.2 h.2.1
    have h1 := h.1
    simp only [List.length_cons]
    omega
theorem Good.len0 {l : List Sh} (h : Good 0 l) : l.length ≤ 1024 := by
  have := h.len (by omega)
  omega
theorem Good.mono {l : List Sh} {a : Int} (h : Good a l) (t : Sh) : MonoB l t := by
  intro i j hij hj hlt
  rcases Nat.lt_or_eq_of_le hij with h1 | h1
  · have h3 := h.sorted i j h1 hj
    rw [ordS_neg] at hlt ⊢
    omega
  · rw [h1]; exact hlt
theorem Good.mem : ∀ {l : List Sh} {a : Int}, Good a l → ∀ x ∈ l, a < x.od ∧ 0 < x.od ∧ x.od ≤ 1024 ∧ x.st < 7 ∧ x.st ≠ 0
  | [], _, _, x, hx => by simp at hx
  | y :: r, a, h, x, hx => by
    rcases List.mem_cons.1 hx with rfl | hx
    · exact ⟨h.1, h.2.2.1, h.2.1, h.2.2.2.1, h.2.2.2.2.1⟩
    · have := Good.mem h.2.2.2.2.2 x hx
      have h1 := h.1
      exact ⟨by omega, this.2⟩
/-- the shipment of an order -/
def shOf (l : List Sh) (n : Int) : Sh := if hasB l (noS n) = true then l.getD (lowN l (noS n)) Sh0 else noS n
theorem hasB_lt {l : List Sh} {t : Sh} (h : hasB l t = true) : lowN l t < l.length := by
  unfold hasB at h
  simp only [Bool.and_eq_true, decide_eq_true_eq] at h
  exact h.1
theorem lowN_le (l : List Sh) (t : Sh) : lowN l t ≤ l.length := by
  unfold lowN
  exact (List.takeWhile_sublist _).length_le
theorem blk_set {w : World} {g j : Nat} {cs : Array Value} {t : TypeId} {m : Nat × Nat} (h : w.heap[g]? = some (.cells cs t m)) (v : Value) : (w.setCell ⟨g, j, none⟩ v).heap[g]? = some (.cells (cs.setIfInBounds j v) t m) := by
  simp [World.setCell, Array.getElem?_modify, h]
theorem froz_blk {w : World} {b : Nat} {cs : Array Value} {t : TypeId} (h : w.heap[b]? = some (.cells cs t (0, 0))) (j : Nat) : w.frozen? ⟨b, j, none⟩ = false := by
  simp [World.frozen?, h]
/-- a block has a shipment -/
def Blk (w : World) (g : Nat) (x : Sh) : Prop := w.heap[g]? = some (.cells #[.int .i64 x.od, .int .u8 x.st] 55 (0, 0))
theorem Blk.cells {w : World} {g : Nat} {x : Sh} (h : Blk w g x) : ShAt w g 0 x := ⟨cell_blk h rfl, cell_blk h rfl⟩
theorem Blk.froz {w : World} {g : Nat} {x : Sh} (h : Blk w g x) (j : Nat) : w.frozen? ⟨g, j, none⟩ = false := froz_blk h j
theorem Blk.below {n : Nat} {w w' : World} {g : Nat} {x : Sh} (h : Blk w g x) (hn : g < n) (hb : Below n w w') : Blk w' g x := (hb.block g hn).trans h
/-- a shipment is stored -/
def put2 (w : World) (g : Nat) (x : Sh) : World := (w.setCell ⟨g, 0, none⟩ (.int .i64 x.od)).setCell ⟨g, 1, none⟩ (.int .u8 x.st)
theorem put2_blk {w : World} {g : Nat} {x : Sh} (h : Blk w g x) (y : Sh) : Blk (put2 w g y) g y := by
  unfold put2 Blk
  rw [blk_set (blk_set h _) _]
  rfl
theorem put2_below {n : Nat} {a w : World} {g : Nat} (h : Below n a w) (hn : n ≤ g) (y : Sh) : Below n a (put2 w g y) :=
  (h.setCell hn _).setCell hn _
theorem put2_other {w : World} {g g' : Nat} {x : Sh} (h : Blk w g' x) (hn : g' ≠ g) (y : Sh) : Blk (put2 w g y) g' x := by
  unfold put2 Blk
  rw [Below.heap_setCell _ _ _ _ hn, Below.heap_setCell _ _ _ _ hn]
  exact h
theorem results_cell_tmp2 {fn : Func} {p u v : Tmp} {ty : TypeId} (h : fn.results = #[.cell p ty, .tmp u, .tmp v]) (tmps : Array Value) (P : Program) (w : World) :
    (results fn tmps).run P w =
      ((asAddr (tmps.getD p undef)).run P w).andThen fun a w₁ => ((loadVar ty a).run P w₁).andThen fun x w₂ => .ok (.tuple #[x, tmps.getD u undef, tmps.getD v undef]) w₂ := by
  simp only [results, h]
  simp [Sem.run_bind, Result.andThen]
/-- what a function answers whose first of three results is a shipment's own block -/
theorem res3 {fn : Func} {p u v : Tmp} (h : fn.results = #[.cell p 55, .tmp u, .tmp v]) (tmps : Array Value) (W : World) (B : Nat) (x : Sh) (hb : Blk W B x) (hp : tmps.getD p undef = .pointer (some ⟨B, 0, none⟩)) :
    (results fn tmps).run Tryd.prog W = .ok (.tuple #[vs x, tmps.getD u undef, tmps.getD v undef]) W := by
  rw [results_cell_tmp2 h, hp]
  have hl := run_loadVar_row (P := Tryd.prog) W B 55 55 _ (0, 0) _ hb Tryd.underlying55 rfl (by kernel_rfl)
  simp [asAddr, Result.andThen, hl]
set_option maxHeartbeats 1000000 in
theorem find_any (a : Option Addr) (len cap : Nat) (l : List Sh) (n : Int) (w : World) (h : IsH w a len cap l) (hM : Good 0 l) : Calls Tryd.prog 18 #[.slice a len cap, .int .i64 n] w fun e w' => e = .returned (.tuple #[vs (shOf l n), .int .i64 (lowN l (noS n)), .bool (hasB l (noS n))]) ∧ Below w.heap.size w w' := by
  have HV := hide h
  have HSE := hide (fun W (hW : IsH W a len cap l) => search_any a len cap l (noS n) W hW (hM.mono _) (h.1 ▸ hM.len0))
  have HLT := hide (fun h' : hasB l (noS n) = true => h.1 ▸ hasB_lt h')
  have HCO : Hid (shOf l n = if hasB l (noS n) = true then l.getD (lowN l (noS n)) Sh0 else noS n) := hide rfl
  have HB0 := hide (Below.refl w.heap.size w)
  have hcap := h.2.1
  have hcm : cap ≤ 9223372036854775807 := h.2.2.1
  have hcm' : (cap : Int) ≤ 9223372036854775807 := by omega
  clear h hM
  generalize hasB l (noS n) = hb at *
  generalize lowN l (noS n) = lo at *
  generalize shOf l n = c at *
  go_enter Tryd.func18, Tryd.ntmps18
  go_wp2_with fail
  generalize hW0 : (w.alloc (.cells #[.int .i64 0, .int .u8 0] 55)).alloc (.cells #[.int .i64 n, .int .u8 0] 55) = W0
  have HB1 : Hid (Below w.heap.size w W0) := hide (hW0 ▸ (HB0.out.alloc (Nat.le_refl _) _).alloc (by simp) _)
  have HSZ : Hid (W0.heap.size = w.heap.size + 2) := hide (by rw [← hW0]; simp)
  have HG0 : Hid (Blk W0 w.heap.size (noS 0) ∧ Blk W0 (w.heap.size + 1) (noS n)) := hide (by
    rw [← hW0]
    refine ⟨(Below.heap_alloc _ _ _ (by simp)).trans (heap_alloc_new _ _), ?_⟩
    have := heap_alloc_new (w.alloc (.cells #[.int .i64 0, .int .u8 0] 55)) (.cells #[.int .i64 n, .int .u8 0] 55)
    rwa [show (w.alloc (.cells #[.int .i64 0, .int .u8 0] 55)).heap.size = w.heap.size + 1 by simp] at this)
  clear hW0
  refine (HSE.out W0 (HV.out.below' HB1.out)).mono ?_
  rintro e w' ⟨rfl, HBs⟩
  have HG0' := hide (HG0.out.1.below (by rw [HSZ.out]; omega) HBs)
  have HG1' := hide (HG0.out.2.below (by rw [HSZ.out]; omega) HBs)
  have HBW := hide (HB1.out.trans (HBs.mono (by rw [HSZ.out]; omega)))
  clear HBs HG0
  obtain ⟨c1, c2⟩ := HG0'.out.cells
  obtain ⟨d1, d2⟩ := HG1'.out.cells
  have f1 := HG0'.out.froz
  have f2 := HG1'.out.froz
  simp only [noS, Nat.zero_add] at c1 c2 d1 d2
  cases hb
  · simp only [Bool.false_eq_true, if_false] at HCO
    go_wp2
    refine bodyPost_ret (res3 rfl _ (put2 w' w.heap.size (noS n)) w.heap.size (noS n) (put2_blk HG0'.out _) rfl) rfl ?_
    exact ⟨by rw [HCO.out]; rfl, put2_below HBW.out (Nat.le_refl _) (noS n)⟩
  · simp only [if_true] at HCO
    have hlo : lo < len := HLT.out rfl
    have hloI : (lo : Int) < len := by omega
    obtain ⟨bs, off, rfl, hbs, y0⟩ := HV.out.2.2.2.2.1 lo hlo
    rw [← HCO.out] at y0
    obtain ⟨y1, y2⟩ := c
    obtain ⟨z1, z2⟩ := y0.below hbs HBW.out
    rename_i a1 a0
    have HA1 := hide a1
    clear a1
    go_wp2
    refine HA1.out _ _ ?_
    clear HA1
    refine wp_seq_k (fun K hK => ?_)
    have HK := hide hK
    clear hK c1 c2 f1
    go_wp2
    generalize hW2 : (w'.setCell ⟨w.heap.size + 1, 0, none⟩ (.int .i64 y1)).setCell ⟨w.heap.size + 1, 1, none⟩ (.int .u8 y2) = W2
    have hW2' : W2 = put2 w' (w.heap.size + 1) ⟨y1, y2⟩ := hW2.symm
    have HX0 : Hid (Blk W2 w.heap.size (noS 0)) := hide (hW2' ▸ put2_other HG0'.out (by omega) _)
    have HX1 : Hid (Blk W2 (w.heap.size + 1) ⟨y1, y2⟩) := hide (hW2' ▸ put2_blk HG1'.out _)
    have HXW : Hid (Below w.heap.size w W2) := hide (hW2' ▸ put2_below HBW.out (by omega) _)
    clear hW2 hW2' HG0' HG1' HBW d1 d2 f2 z1 z2
    obtain ⟨c1, c2⟩ := HX0.out.cells
    obtain ⟨d1, d2⟩ := HX1.out.cells
    have f1 := HX0.out.froz
    have f2 := HX1.out.froz
    simp only [noS, Nat.zero_add] at c1 c2 d1 d2
    refine HK.out _ _ ?_
    go_wp2
    refine bodyPost_ret (res3 rfl _ (put2 W2 w.heap.size ⟨y1, y2⟩) w.heap.size ⟨y1, y2⟩ (put2_blk HX0.out _) rfl) rfl ?_
    exact ⟨rfl, put2_below HXW.out (Nat.le_refl _) ⟨y1, y2⟩⟩
/-- what Of answers -/
def ofR (l : List Sh) (n : Int) : Int × Int := if checkE l = 0 ∧ orB n = true then ((shOf l n).st, 0) else (0, 2)
set_option maxHeartbeats 1000000 in
theorem of_any (a : Option Addr) (len cap : Nat) (l : List Sh) (n : Int) (w : World) (h : IsH w a len cap l) : Calls Tryd.prog 6 #[.slice a len cap, .int .i64 n] w fun e w' => e = .returned (.tuple #[.int .u8 (ofR l n).1, .int .i64 (ofR l n).2]) ∧ Below w.heap.size w w' := by
  have HV := hide h
  have HR : Hid (ofR l n = if checkE l = 0 ∧ orB n = true then ((shOf l n).st, 0) else (0, 2)) := hide rfl
  generalize ofR l n = R at *
  obtain ⟨R1, R2⟩ := R
  have HCK := hide (fun W (hW : IsH W a len cap l) => check_any a len cap l W hW)
  have HOR := hide (or_any n)
  have HFI := hide (fun (hG : Good 0 l) W (hW : IsH W a len cap l) => find_any a len cap l n W hW hG)
  have HC9 := hide (checkE_cases l)
  clear h
  generalize orB n = ob at *
  generalize shOf l n = co at *
  go_enter Tryd.func6, Tryd.ntmps6
  go_wp2_with fail
  refine (HCK.out w HV.out).mono ?_
  rintro e w1 ⟨rfl, hb1⟩
  have HB1 := hide hb1
  clear hb1
  rcases HC9.out with ⟨hg, h0⟩ | ⟨hg, h0⟩
  · rw [h0]
    rw [h0] at HR
    have HGD := hide hg
    clear h0 hg
    cases ob
    · simp only [Bool.false_eq_true, and_false, if_false, Prod.mk.injEq] at HR
      go_wp2_with (first | (go_at_call 17; refine (HOR.out _).mono ?_; rintro e w' ⟨rfl, he'⟩; obtain rfl := he'.symm; clear he'))
      go_ret2
      exact ⟨ret_nx HR.out.1.symm HR.out.2.symm, HB1.out⟩
    · simp only [true_and, if_true, Prod.mk.injEq] at HR
      go_wp2_with (first | (go_at_call 17; refine (HOR.out _).mono ?_; rintro e w' ⟨rfl, he'⟩; obtain rfl := he'.symm; clear he'))
      refine (HFI.out HGD.out w1 (HV.out.below' HB1.out)).mono ?_
      rintro e w2 ⟨rfl, hb2⟩
      have HB2 := hide (HB1.out.trans (hb2.mono HB1.out.size))
      clear hb2
      obtain ⟨y1, y2⟩ := co
      dsimp only at HR
      have HB3 : Hid (Below w.heap.size w (w2.alloc (.cells #[.int .i64 y1, .int .u8 y2] 55))) := hide (HB2.out.alloc HB2.out.size _)
      go_wp2
      go_ret2
      exact ⟨ret_nx HR.out.1.symm HR.out.2.symm, HB3.out⟩
  · rw [h0]
    rw [h0] at HR
    simp only [show ¬ ((2 : Int) = 0) by decide, false_and, if_false, Prod.mk.injEq] at HR
    clear h0
    go_wp2
    go_ret2
    exact ⟨ret_nx HR.out.1.symm HR.out.2.symm, HB1.out⟩
end Go.Proofs.YtfbfmhfceemkgaaDoor
