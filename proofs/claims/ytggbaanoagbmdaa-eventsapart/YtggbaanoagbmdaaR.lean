/- events.some -/
import Derived.Test.YtggbaanoagbmdaaQ
namespace Go.Proofs.Ytggbaanoagbmdaa
open Go.RowKit Go.Shelf
attribute [local go_sem] Oper.semAt_some
/-- the first of those that stand from a place on -/
def pick (pl : Ev → Int) (fr : Int) (mo : Nat) (xs : List Ev) : List Ev := (xs.filter (fun e => decide (fr ≤ pl e))).take mo
theorem pick_full {pl : Ev → Int} {fr : Int} {mo : Nat} {pre xs : List Ev} (h : pre <+: xs) (hl : (pick pl fr mo pre).length = mo) : pick pl fr mo xs = pick pl fr mo pre := by
  obtain ⟨r, rfl⟩ := h
  unfold pick at *
  rw [List.filter_append, List.take_append_of_le_length]
  rw [List.length_take] at hl
  omega
theorem pick_hit {pl : Ev → Int} {fr : Int} {mo : Nat} {pre : List Ev} {x : Ev} (hl : ¬ (pick pl fr mo pre).length = mo) (hx : fr ≤ pl x) : pick pl fr mo (pre ++ [x]) = pick pl fr mo pre ++ [x] := by
  unfold pick at *
  rw [List.length_take] at hl
  rw [List.filter_append, List.take_append, List.take_of_length_le (by omega)]
  congr 1
  simp only [List.filter_cons, decide_eq_true hx, if_true, List.filter_nil]
  rw [List.take_of_length_le (by simp; omega)]
theorem pick_miss {pl : Ev → Int} {fr : Int} {mo : Nat} {pre : List Ev} {x : Ev} (hx : ¬ fr ≤ pl x) : pick pl fr mo (pre ++ [x]) = pick pl fr mo pre := by
  unfold pick
  rw [List.filter_append]
  simp [hx]
theorem pick_nil (pl : Ev → Int) (fr : Int) (mo : Nat) : pick pl fr mo [] = [] := by simp [pick]
theorem pick_le (pl : Ev → Int) (fr : Int) (mo : Nat) (xs : List Ev) : (pick pl fr mo xs).length ≤ xs.length := by
  unfold pick
  rw [List.length_take]
  exact Nat.le_trans (Nat.min_le_right _ _) (List.length_filter_le _ _)
theorem pick_mem {pl : Ev → Int} {fr : Int} {mo : Nat} {xs : List Ev} {x : Ev} (h : x ∈ pick pl fr mo xs) : x ∈ xs := (List.mem_filter.1 (List.mem_of_mem_take h)).1
/-- what some answers -/
def someR (l zs : List Ev) (fr mo : Int) (pl : Ev → Int) : List Ev × Int := if goodB l = false then ([], 2) else if fr < 1 ∨ mo < 0 then ([], 2) else (pick pl fr mo.toNat zs, 0)
/-- where a loop was left since enough was found -/
def Brk (pl : Ev → Int) (fr : Int) (mn F : Nat) (pre : List Ev) (W : World) : Prop := ∃ pre' x, pre = pre' ++ [x] ∧ (pick pl fr mn pre').length = mn ∧ ∃ v, Boxed W F 22 v ∧ W.ownsRow F 41 5 v (pick pl fr mn pre').length ((pick pl fr mn pre').flatMap evc) ∧ True
theorem mixed : Try.prog.follows .mixedOrders = true := by kernel_rfl
theorem kp_of_below {F : Nat} {W W' : World} (h : Below F W W') : Kp (fun b => decide (b = F)) (F + 1) W W' := by
  refine ⟨h.size, fun b hb hx => h.block b ?_⟩
  have : b ≠ F := by simpa using hx
  omega

set_option maxRecDepth 40000 in
set_option maxHeartbeats 2000000 in
theorem someN_any (gf : Nat) (lb : Array Value) (hgf : gf = 42) (a : Option Addr) (len cap : Nat) (l zs : List Ev) (fr mo : Int) (w : World) (hL : IsE w a len cap l) (hz : ∀ x ∈ zs, x ∈ l) (hzl : zs.length ≤ l.length)
    (hseq : ∀ (W : World) (n₀ : Nat) (X : Nat → Bool), Below w.heap.size w W → n₀ ≤ W.heap.size → w.heap.size ≤ n₀ → (∀ b, b < w.heap.size → X b = false) → SeqStopsK Fence.wide 5 Try.prog 42 lb (fun x : Ev => #[vv x]) (Kp X n₀) (fun ys => ys = zs) (fun pre => pre <+: zs) zs.length W) :
    Calls Try.prog 32 #[.slice a len cap, .func (.func gf) #[] lb, .int .i64 fr, .int .i64 mo, .func (.func 34) #[] #[]] w fun e w' => ∃ a' c', e = .returned (.tuple #[.slice a' (someR l zs fr mo (·.num)).1.length c', .int .i64 (someR l zs fr mo (·.num)).2]) ∧ IsE w' a' (someR l zs fr mo (·.num)).1.length c' (someR l zs fr mo (·.num)).1 ∧ Below w.heap.size w w' := by
  subst hgf
  have HV := hide hL
  have HSQ := hide hseq
  have HZ := hide hz
  have HZL := hide hzl
  obtain ⟨i0, hi, hz0, hz1, hz2⟩ := info_parts info41
  clear hL hseq hz hzl
  have HW3 : Hid (Below w.heap.size w (((w.alloc (.cells #[.int .i64 fr] 3)).alloc (.cells #[.int .i64 mo] 3)).alloc (.cells #[.func (.func 34) #[] #[]] 61))) := hide ((((Below.refl _ w).alloc (Nat.le_refl _) _).alloc (by simp) _).alloc (by simp; omega) _)
  have bF := hide (((Boxed.new w 3 (.int .i64 fr)).alloc (.cells #[.int .i64 mo] 3)).alloc (.cells #[.func (.func 34) #[] #[]] 61))
  have bM := hide ((Boxed.new (w.alloc (.cells #[.int .i64 fr] 3)) 3 (.int .i64 mo)).alloc (.cells #[.func (.func 34) #[] #[]] 61))
  have bP := hide (Boxed.new ((w.alloc (.cells #[.int .i64 fr] 3)).alloc (.cells #[.int .i64 mo] 3)) 61 (.func (.func 34) #[] #[]))
  simp only [World.size_alloc] at bM bP
  have CK := hide (check_any a len cap l _ (HV.out.below' HW3.out))
  cases hg : goodB l
  case false =>
    have HE : Hid (checkE l = 2) := hide (by unfold checkE; rw [hg]; rfl)
    have HR : Hid (someR l zs fr mo (·.num) = ([], 2)) := hide (by unfold someR; rw [if_pos hg])
    clear hg
    go_enter Try.func32, Try.ntmps32
    go_wp2_with fail
    refine CK.out.mono ?_
    rintro e w1 ⟨rfl, hb1⟩
    rw [HE.out]
    have HB1 : Hid (Below w.heap.size w w1) := hide (HW3.out.trans (hb1.mono HW3.out.size))
    clear hb1
    go_wp2
    go_ret2
    rw [HR.out]
    exact ⟨none, 0, rfl, isE_nil _, HB1.out⟩
  case true =>
    have HE : Hid (checkE l = 0) := hide (by unfold checkE; rw [hg]; rfl)
    have HLE : Hid (l.length ≤ 16384) := hide (good_len hg)
    by_cases hfm : fr < 1 ∨ mo < 0
    case pos =>
      have HR : Hid (someR l zs fr mo (·.num) = ([], 2)) := hide (by unfold someR; rw [if_neg (by rw [hg]; simp), if_pos hfm])
      clear hg
      go_enter Try.func32, Try.ntmps32
      go_wp2_with fail
      refine CK.out.mono ?_
      rintro e w1 ⟨rfl, hb1⟩
      rw [HE.out]
      have HB1 : Hid (Below w.heap.size w w1) := hide (HW3.out.trans (hb1.mono HW3.out.size))
      have cF : w1.cell? ⟨w.heap.size, 0, none⟩ = some (.int .i64 fr) := (hb1.cell (p := ⟨w.heap.size, 0, none⟩) bF.out.lt).trans bF.out.cell
      have cM : w1.cell? ⟨w.heap.size + 1, 0, none⟩ = some (.int .i64 mo) := (hb1.cell (p := ⟨w.heap.size + 1, 0, none⟩) bM.out.lt).trans bM.out.cell
      clear hb1
      have hfm2 : fr < 1 ∨ (¬ fr < 1 ∧ mo < 0) := by
        rcases hfm with h | h
        · exact .inl h
        · by_cases h1 : fr < 1
          · exact .inl h1
          · exact .inr ⟨h1, h⟩
      clear hfm
      rcases hfm2 with h1 | ⟨h1, h2⟩
      · have d1 : decide (fr < 1) = true := decide_eq_true h1
        go_wp2
        go_ret2
        rw [HR.out]
        exact ⟨none, 0, rfl, isE_nil _, HB1.out⟩
      · have d1 : decide (fr < 1) = false := decide_eq_false h1
        have d2 : decide (mo < 0) = true := decide_eq_true h2
        go_wp2
        go_ret2
        rw [HR.out]
        exact ⟨none, 0, rfl, isE_nil _, HB1.out⟩
    case neg =>
      have h1 : ¬ fr < 1 := fun h => hfm (.inl h)
      have h2 : ¬ mo < 0 := fun h => hfm (.inr h)
      obtain ⟨mn, rfl⟩ := Int.eq_ofNat_of_zero_le (show (0 : Int) ≤ mo by omega)
      have HR : Hid (someR l zs fr mn (·.num) = (pick (·.num) fr mn zs, 0)) := hide (by unfold someR; rw [if_neg (by rw [hg]; simp), if_neg hfm]; rfl)
      have d1 : decide (fr < 1) = false := decide_eq_false h1
      have d2 : decide ((mn : Int) < 0) = false := decide_eq_false h2
      clear hg hfm
      refine (callsIn_wide (n := 6)).1 ?_
      refine callsIn_of_wp_marks Try.func32 rfl trivial ?_ rfl
      simp only [Try.ntmps32, List.size_toArray, List.length_cons, List.length_nil, Nat.reduceAdd, Nat.reduceSub, Array.replicate_succ, Array.replicate_zero, List.push_toArray, List.append_toArray, List.nil_append, List.cons_append]
      gi_wp2_with fail
      refine ⟨trivial, (callsIn_wide.2 CK.out).mono ?_⟩
      rintro e w1 ⟨rfl, hb1⟩
      rw [HE.out]
      have HB1 : Hid (Below w.heap.size w w1) := hide (HW3.out.trans (hb1.mono HW3.out.size))
      have kF : Hid (Boxed w1 w.heap.size 3 (.int .i64 fr)) := hide ((hb1.block _ bF.out.lt).trans bF.out)
      have kM : Hid (Boxed w1 (w.heap.size + 1) 3 (.int .i64 mn)) := hide ((hb1.block _ bM.out.lt).trans bM.out)
      have kP : Hid (Boxed w1 (w.heap.size + 1 + 1) 61 (.func (.func 34) #[] #[])) := hide ((hb1.block _ bP.out.lt).trans bP.out)
      have hS1 : w.heap.size + 3 ≤ w1.heap.size := by have := hb1.size; simpa using this
      have cF := kF.out.cell
      have cM := kM.out.cell
      clear hb1
      gi_wp2_with fail
      have bO := Boxed.new w1 22 (.slice none 0 0)
      have hB0 : Below w.heap.size w (w1.alloc (.cells #[.slice none 0 0] 22)) := HB1.out.alloc HB1.out.size _
      have hZ0 : (w1.alloc (.cells #[.slice none 0 0] 22)).heap.size = w1.heap.size + 1 := by simp
      obtain ⟨W0, hW0⟩ : ∃ W0, w1.alloc (.cells #[.slice none 0 0] 22) = W0 := ⟨_, rfl⟩
      have k1 := kF.out.alloc (.cells #[.slice none 0 0] 22)
      have k2 := kM.out.alloc (.cells #[.slice none 0 0] 22)
      have k3 := kP.out.alloc (.cells #[.slice none 0 0] 22)
      rw [hW0] at bO hB0 hZ0 k1 k2 k3 ⊢
      clear hW0 cF cM kF kM kP
      generalize w1.heap.size = F at *
      refine wpIn_rangeFunc_ownH rfl (by omega) (gf := 42) (lb := lb) rfl trivial (enters_of Try.func42 (by kernel_rfl) rfl)
        (HSQ.out W0 (F + 1) (fun b => decide (b = F)) hB0 (by omega) (by omega) (fun b hb => by simp; omega)) Kp.trans (kp_b (by omega)) (Below.refl _ _) (fun _ => rfl)
        (fun pre W => (((∃ v, Boxed W F 22 v ∧ W.ownsRow F 41 5 v (pick (·.num) fr mn pre).length ((pick (·.num) fr mn pre).flatMap evc) ∧ True) ∧ (Boxed W w.heap.size 3 (.int .i64 fr) ∧ Boxed W (w.heap.size + 1) 3 (.int .i64 mn) ∧ Boxed W (w.heap.size + 1 + 1) 61 (.func (.func 34) #[] #[]))) ∧ F + 1 ≤ W.heap.size) ∧ Below w.heap.size w W)
        (fun c pre W => (c = .exit 0 ∧ Brk (·.num) fr mn F pre W) ∧ Below w.heap.size w W)
        (OwnFrom.and (OwnFrom.and (OwnFrom.and (Own.from (holdsRow_own F F 22 41 5 (fun pre => (pick (·.num) fr mn pre).length) (fun pre => (pick (·.num) fr mn pre).flatMap evc) (fun _ _ => True)) _) (OwnFrom.and (Own.from (boxed_own _ _ _) _) (OwnFrom.and (Own.from (boxed_own _ _ _) _) (Own.from (boxed_own _ _ _) _)))) (fun _ _ _ _ hs hg _ => Nat.le_trans hs hg.size)) (ownFrom_below (Nat.le_refl _) (by omega)))
        (fun c => OwnFrom.and (fun s X Y row hs hg hr => by obtain ⟨e1, pre', x, e2, e3, e4⟩ := hs; exact ⟨e1, pre', x, e2, e3, holdsRow_own F F 22 41 5 (fun (_ : Unit) => (pick (·.num) fr mn pre').length) (fun _ => (pick (·.num) fr mn pre').flatMap evc) (fun _ _ => True) () X Y row e4 hg (fun r e => (hr r e).2)⟩) (ownFrom_below (Nat.le_refl _) (by omega)))
        ⟨⟨⟨⟨_, bO, by rw [pick_nil]; exact World.ownsRow_nil _ _ _ _, trivial⟩, k1, k2, k3⟩, by omega⟩, hB0⟩
        (fun x a' W => ∃ Bx, F + 1 ≤ Bx ∧ (W.cell? ⟨Bx, 0, none⟩ = some (.string x.st) ∧ W.cell? ⟨Bx, 1, none⟩ = some (.int .i64 x.num) ∧ W.cell? ⟨Bx, 2, none⟩ = some (.int .i64 x.glob) ∧ W.cell? ⟨Bx, 3, none⟩ = some (.string x.ma) ∧ W.cell? ⟨Bx, 4, none⟩ = some (.string x.dt)) ∧ a' = { tmps := #[.slice a len cap, .func (.func 42) #[] lb, .int .i64 fr, .int .i64 mn, .func (.func 34) #[] #[], undef, undef, .pointer (some ⟨w.heap.size, 0, none⟩), .pointer (some ⟨w.heap.size + 1, 0, none⟩), .pointer (some ⟨w.heap.size + 1 + 1, 0, none⟩), .slice none 0 0, .int .i64 0, .int .i64 0, .pointer (some ⟨F, 0, none⟩), .pointer (some ⟨Bx, 0, none⟩), .slice a len cap, .int .i64 0, .int .i64 0, .bool false, undef, .int .i64 fr, .bool false, .bool false, .int .i64 mn, .bool (decide ((mn : Int) < 0)), .bool (decide ((mn : Int) < 0)), .func (.func 42) #[] lb, vv x, undef, undef, undef, undef, undef, undef, undef, undef, undef, undef, undef, undef, undef, undef], defers := [] })
        (fun x a' _ X Y row hs hg hr => by obtain ⟨Bx, h1, ⟨c0, c1, c2, c3, c4⟩, h3⟩ := hs; exact ⟨Bx, h1, ⟨cell_kept c0 hg (fun r e => (hr r e).2), cell_kept c1 hg (fun r e => (hr r e).2), cell_kept c2 hg (fun r e => (hr r e).2), cell_kept c3 hg (fun r e => (hr r e).2), cell_kept c4 hg (fun r e => (hr r e).2)⟩, h3⟩)
        ?assign ?body ?done ?stop
      case assign =>
        rintro l pre x W K ⟨⟨⟨⟨v, hv, hrow, _⟩, b1, b2, b3⟩, hsW⟩, hB1⟩ hK
        have hnew := heap_alloc_new W (.cells #[.string x.st, .int .i64 x.num, .int .i64 x.glob, .string x.ma, .string x.dt] 41)
        have HK := hide (fun a' => hK a' (W.alloc (.cells #[.string x.st, .int .i64 x.num, .int .i64 x.glob, .string x.ma, .string x.dt] 41)) ((KeepsOthers.alloc _ _).from _) (Kp.alloc hsW _) ⟨⟨⟨⟨v, hv.alloc _, hrow.alloc _, trivial⟩, b1.alloc _, b2.alloc _, b3.alloc _⟩, by simp; omega⟩, hB1.alloc hB1.size _⟩)
        have HC := hide (And.intro hsW (show _ ∧ _ ∧ _ ∧ _ ∧ _ from ⟨cell_blk (j := 0) hnew rfl, cell_blk (j := 1) hnew rfl, cell_blk (j := 2) hnew rfl, cell_blk (j := 3) hnew rfl, cell_blk (j := 4) hnew rfl⟩))
        clear hK hnew hv hrow
        gi_wp2
        refine HK.out _ ?_
        obtain ⟨h1, h2, h3, h4, h5, h6⟩ := HC.out
        exact ⟨W.heap.size, h1, ⟨h2, h3, h4, h5, h6⟩, by simp⟩
      case body =>
        rintro l pre x a' W hl ⟨r, hr⟩ ⟨⟨⟨⟨v, hv, hrow, _⟩, b1, b2, b3⟩, hsW⟩, hB1⟩ ⟨Bx, hBx, ⟨c0, c1, c2, c3, c4⟩, rfl⟩ hlt
        obtain ⟨av, cv, rfl⟩ := own_form hrow
        have cV := hv.cell
        have e1 := b1.cell
        have e2 := b2.cell
        have e3 := b3.cell
        by_cases hfull : (pick (·.num) fr mn pre).length = mn
        case pos =>
          have hq : ((((pick (·.num) fr mn pre).length : Nat) : Int) == (mn : Int)) = true := by rw [hfull]; simp
          gi_wp2
          exact ⟨KeepsFrom.refl _ _, ⟨rfl, pre, x, rfl, hfull, _, hv, hrow, trivial⟩, hB1⟩
        case neg =>
          have hq : ((((pick (·.num) fr mn pre).length : Nat) : Int) == (mn : Int)) = false := by simp only [beq_eq_false_iff_ne, ne_eq, Int.natCast_inj]; exact hfull
          have h1n : 1 ≤ 6 - 1 - 1 := by omega
          have hmix := mixed
          have HQ : Hid (∀ w2, w2 = W.drew.alloc (.cells #[.string x.st, .int .i64 x.num, .int .i64 x.glob, .string x.ma, .string x.dt] 41) → (w2.cell? ⟨w.heap.size, 0, none⟩ = some (.int .i64 fr) ∧ w2.cell? ⟨F, 0, none⟩ = some (.slice av (pick (·.num) fr mn pre).length cv) ∧ w2.cell? ⟨Bx, 0, none⟩ = some (.string x.st) ∧ w2.cell? ⟨Bx, 1, none⟩ = some (.int .i64 x.num) ∧ w2.cell? ⟨Bx, 2, none⟩ = some (.int .i64 x.glob) ∧ w2.cell? ⟨Bx, 3, none⟩ = some (.string x.ma) ∧ w2.cell? ⟨Bx, 4, none⟩ = some (.string x.dt)) ∧ Hid (Boxed w2 F 22 (.slice av (pick (·.num) fr mn pre).length cv) ∧ w2.ownsRow F 41 5 (.slice av (pick (·.num) fr mn pre).length cv) (pick (·.num) fr mn pre).length ((pick (·.num) fr mn pre).flatMap evc) ∧ (Boxed w2 w.heap.size 3 (.int .i64 fr) ∧ Boxed w2 (w.heap.size + 1) 3 (.int .i64 mn) ∧ Boxed w2 (w.heap.size + 1 + 1) 61 (.func (.func 34) #[] #[])) ∧ F + 1 ≤ w2.heap.size ∧ Below F W w2 ∧ KeepsOthers W w2)) := hide (fun w2 e => by
            subst e
            have g := World.grownBy_alloc W.drew (.cells #[.string x.st, .int .i64 x.num, .int .i64 x.glob, .string x.ma, .string x.dt] 41) none
            exact ⟨⟨g.cell (a := ⟨w.heap.size, 0, none⟩) e1 (by simp), g.cell (a := ⟨F, 0, none⟩) cV (by simp), g.cell (a := ⟨Bx, 0, none⟩) c0 (by simp), g.cell (a := ⟨Bx, 1, none⟩) c1 (by simp), g.cell (a := ⟨Bx, 2, none⟩) c2 (by simp), g.cell (a := ⟨Bx, 3, none⟩) c3 (by simp), g.cell (a := ⟨Bx, 4, none⟩) c4 (by simp)⟩, hide ⟨Boxed.alloc (W := W.drew) hv _, World.ownsRow.alloc (w := W.drew) hrow _, ⟨Boxed.alloc (W := W.drew) b1 _, Boxed.alloc (W := W.drew) b2 _, Boxed.alloc (W := W.drew) b3 _⟩, by simp; omega, ((Below.refl _ W).drew).alloc (by simp; omega) _, (KeepsOthers.drew _).trans (KeepsOthers.alloc _ _)⟩⟩)
          clear hv hrow b1 b2 b3
          by_cases hx : fr ≤ x.num
          case neg =>
            have hxd : decide (fr ≤ x.num) = false := decide_eq_false hx
            have HPM := hide (pick_miss (pl := (·.num)) (fr := fr) (mo := mn) (pre := pre) (x := x) hx)
            gi_wp2_with fail
            gi_region_with_o (refine ⟨trivial, ?_⟩; gi_at_call 34; refine (CallsIn.inRound l (callsIn_wide.2 (num_any x _))).mono ?_; rintro e w2 ⟨rfl, hw2⟩; obtain ⟨⟨p1, p2, p3, p4, p5, p6, p7⟩, HP⟩ := HQ.out w2 hw2; clear hw2)
            all_goals gi_wp2
            all_goals
              obtain ⟨g1, g2, g3, g4, g5, g6⟩ := HP.out
              exact ⟨g6.from _, kp_of_below g5, ⟨⟨⟨_, g1, by rw [HPM.out]; exact g2, trivial⟩, g3⟩, g4⟩, hB1.trans (g5.mono (by omega))⟩
          case pos =>
            have hxd : decide (fr ≤ x.num) = true := decide_eq_true hx
            have HPH := hide (pick_hit (pl := (·.num)) (fr := fr) (mo := mn) (pre := pre) (x := x) hfull hx)
            have HLP : Hid ((pick (·.num) fr mn pre).length + 1 ≤ 16384) := hide (by
              have q1 := pick_le (·.num) fr mn pre
              have q2 := HZL.out
              have q3 := HLE.out
              omega)
            gi_wp2_with fail
            gi_region_with_o (refine ⟨trivial, ?_⟩; gi_at_call 34; refine (CallsIn.inRound l (callsIn_wide.2 (num_any x _))).mono ?_; rintro e w2 ⟨rfl, hw2⟩; obtain ⟨⟨p1, p2, p3, p4, p5, p6, p7⟩, HP⟩ := HQ.out w2 hw2; clear hw2)
            all_goals gi_wp2_with (gi_at_builtin; refine wpListIn_append_own _ rfl _ _ 22 rfl F 41 i0 _ 5 64 Try.underlying22 hi hz0 hz1 hz2 rfl (by decide) _ _ _ rfl (HP.out.2.1.alloc _) ⟨w2.heap.size, 0, none⟩ 1 1 (evc x) rfl rfl (evc_news x (heap_alloc_new w2 _)) (evc_one1 x) (by have := HLP.out; show _ ≤ 9223372036854775807; omega) (by have := HLP.out; omega) (by have := HP.out.2.2.2.1; simp; omega) ?_; intro v' w3 hown' hgrow _; obtain ⟨g', cap', rfl⟩ := ownsRow_succ hown'; obtain ⟨hv1, hv2, hr2, hk2, hb2⟩ := HP.out.1.appended (by decide) HP.out.2.1 (by have := HP.out.2.2.2.1; omega) (Nat.le_refl _) hown' hgrow; have hc1 := hv1.cell; have hf1 := hv1.frozen)
            all_goals
              obtain ⟨g1, g2, ⟨g31, g32, g33⟩, g4, g5, g6⟩ := HP.out
              refine ⟨(g6.trans hk2).from _, kp_of_below (g5.trans hb2), ⟨⟨⟨_, hv2, ?_⟩, (hb2.block _ (by omega)).trans g31, (hb2.block _ (by omega)).trans g32, (hb2.block _ (by omega)).trans g33⟩, Nat.le_trans g4 hb2.size⟩, hB1.trans ((g5.trans hb2).mono (by omega))⟩
              rw [HPH.out, flat_snoc, List.length_append]
              exact hr2
      case done =>
        rintro D ys W hD rfl ⟨⟨⟨⟨v, hv, hrow, _⟩, _, _, _⟩, hsW⟩, hB⟩ hK
        obtain ⟨av, cv, rfl⟩ := own_form hrow
        have hc := hv.cell
        gi_wp2
        refine ⟨by simp, .inl ⟨_, _, rfl, run_takeDeferred hK, ?_⟩⟩
        obtain ⟨a', c', he, hI, _⟩ := own_isE rfl (fun x hx => HV.out.2.2.2.1 x (HZ.out x (pick_mem hx))) (ownsRow_putObj hrow (.deferred none) hK rfl)
        cases he
        refine ⟨.tuple #[.slice av (pick (·.num) fr mn ys).length cv, .int .i64 0], by simp [results, Try.f32, go_sem], ?_⟩
        rw [HR.out]
        exact ⟨av, cv, rfl, hI, hB.trans (belowK_b (w := w) (Nat.le_refl _) W D _ _ (by omega) hK rfl rfl)⟩
      case stop =>
        rintro D c pre W hD hpre ⟨⟨rfl, pre', x, rfl, hfull, v, hv, hrow, _⟩, hB⟩ hK
        obtain ⟨av, cv, rfl⟩ := own_form hrow
        have hc := hv.cell
        have HPK := hide (pick_full (List.IsPrefix.trans (List.prefix_append pre' [x]) hpre) hfull)
        clear hfull hpre
        gi_wp2
        refine ⟨by simp, .inl ⟨_, _, rfl, run_takeDeferred hK, ?_⟩⟩
        obtain ⟨a', c', he, hI, _⟩ := own_isE rfl (fun x hx => HV.out.2.2.2.1 x (HZ.out x (by rw [← HPK.out] at hx; exact pick_mem hx))) (ownsRow_putObj hrow (.deferred none) hK rfl)
        cases he
        refine ⟨.tuple #[.slice av (pick (·.num) fr mn pre').length cv, .int .i64 0], by simp [results, Try.f32, go_sem], ?_⟩
        rw [HR.out, HPK.out]
        exact ⟨av, cv, rfl, hI, hB.trans (belowK_b (w := w) (Nat.le_refl _) W D _ _ (by omega) hK rfl rfl)⟩
end Go.Proofs.Ytggbaanoagbmdaa
