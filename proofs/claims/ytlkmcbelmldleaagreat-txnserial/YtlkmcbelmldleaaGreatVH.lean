/- slices.Backward; asOf -/
import Derived.Test.YtlkmcbelmldleaaGreatVG
namespace Go.Proofs.YtlkmcbelmldleaaGreat
open Go.RowKit Go.Shelf
set_option maxRecDepth 40000
attribute [local go_sem] Oper.semAt_some
theorem back_in (n : Nat) (a : Option Addr) (len cap : Nat) (w : World) : CallsIn Fence.wide n Tryz.prog 114 #[.slice a len cap] w fun e w' => e = .returned (.func (.func 158) #[] #[.pointer (some ⟨w.heap.size, 0, none⟩)]) ∧ w' = w.alloc (.cells #[.slice a len cap] 28) := by
  refine callsIn_of_wp Tryz.func114 rfl trivial ?_ rfl
  simp only [Tryz.ntmps114, List.size_toArray, List.length_cons, List.length_nil, Nat.reduceAdd, Nat.reduceSub, Array.replicate_succ, Array.replicate_zero, List.push_toArray, List.append_toArray, List.nil_append, List.cons_append]
  gi_wp2
  go_ret
  exact ⟨rfl, rfl⟩
/-- versions from the last one on, each with its place -/
def bwd (l : List Vr) : List (Nat × Vr) := (List.range l.length).map (fun k => (l.length - 1 - k, l.getD (l.length - 1 - k) Vr0))
theorem bwd_length (l : List Vr) : (bwd l).length = l.length := by simp [bwd]
theorem bwd_at (l : List Vr) (k : Nat) (h : k < l.length) : (bwd l)[k]? = some (l.length - 1 - k, l.getD (l.length - 1 - k) Vr0) := by
  simp [bwd, h]
abbrev encB (x : Nat × Vr) : Array Value := #[.int .i64 (x.1 : Nat), vv x.2]
set_option maxRecDepth 40000 in
set_option maxHeartbeats 2000000 in
theorem back_gives (n : Nat) (_hn : 1 ≤ n) (Bl n₀ : Nat) (X : Nat → Bool) (a : Option Addr) (len cap : Nat) (l : List Vr) (w : World)
    (hBl : Boxed w Bl 28 (.slice a len cap)) (hl0 : Bl < n₀) (_hn₀ : n₀ ≤ w.heap.size) (hxl : X Bl = false)
    (hL : IsV w a len cap l) (ha : ∀ b off, a = some ⟨b, off, none⟩ → 0 < len → b < n₀ ∧ X b = false) :
    Gives n Tryz.prog 158 #[.pointer (some ⟨Bl, 0, none⟩)] encB (bwd l) none (Kp X n₀) w := by
  intro lo J E W hW hJ hE hY h0
  have hcap := hL.2.1
  have hcm : cap ≤ 9223372036854775807 := hL.2.2.1
  have HLN := hide hL.1
  have HY := hide hY
  have HJ := hide hJ
  have HA := hide ha
  have HBL : Hid (Boxed W Bl 28 (.slice a len cap)) := hide ((hW.block Bl hBl.lt).trans hBl)
  have cl := HBL.out.cell
  have HLW : Hid (IsV W a len cap l) := hide (hL.below hW)
  clear hY hJ hE ha hL hBl hW
  have hw1 : IntKind.i64.wrap ((len : Int) - 1) = (len : Int) - 1 := by
    unfold IntKind.wrap; simp [IntKind.signed, IntKind.bits]; omega
  refine callsIn_of_wp Tryz.func158 rfl trivial ?_ rfl
  simp only [Tryz.ntmps158, List.size_toArray, List.length_cons, List.length_nil, Nat.reduceAdd, Nat.reduceSub, Array.replicate_succ, Array.replicate_zero, List.push_toArray, List.append_toArray, List.nil_append, List.cons_append]
  gi_wp2
  gi_loopw [3] (fun v wr => ∃ k : Nat, k ≤ len ∧ v = .int .i64 ((len : Int) - 1 - (k : Int)) ∧ Hid (J k wr) ∧ Hid (IsV wr a len cap l) ∧ Hid (Boxed wr Bl 28 (.slice a len cap))) (fun v _ => (intOf v + 1).toNat)
  case atStart => exact ⟨0, Nat.zero_le _, by simp, hide h0, HLW, HBL⟩
  case round =>
    obtain ⟨k, hk, rfl, HJk, HV, HB⟩ := hrel
    clear h0 HLW HBL cl
    have cl := HB.out.cell
    by_cases hlt : k < len
    · obtain ⟨i, hi⟩ : ∃ i : Nat, len = i + 1 + k := ⟨len - 1 - k, by omega⟩
      have hii : (len : Int) - 1 - (k : Int) = (i : Int) := by omega
      rw [hii]
      obtain ⟨b, off, rfl, hb, z0, z1, z2, z3⟩ := HV.out.2.2.2 i (by omega)
      have hYk := HY.out k _ wr (bwd_at l k (by rw [HLN.out]; exact hlt)) HJk.out
      rw [show l.length - 1 - k = i by rw [HLN.out]; omega] at hYk
      generalize l.getD i Vr0 = x at *
      obtain ⟨x1, x2, x3, x4⟩ := x
      obtain ⟨fn, tmps, assign, body, hy, hR⟩ := hYk
      dsimp only at z0 z1 z2 z3 hy hR
      have hi0 : (0 : Int) ≤ (i : Int) := by omega
      have hil : (i : Int) < (len : Int) := by omega
      have hw2 : IntKind.i64.wrap ((i : Int) - 1) = (i : Int) - 1 := by
        unfold IntKind.wrap; simp [IntKind.signed, IntKind.bits]; omega
      have HI := hide hi
      have HII := hide hii
      clear hi hii
      gi_wp2
      refine hR.mono ?_
      rintro e W3 (⟨rfl, hJ3, hk3⟩ | ⟨rfl, hE3⟩)
      · have HV3 : Hid (IsV W3 (some ⟨b, off, none⟩) len cap l) := hide (HV.out.blk hk3.size (fun b' off' e h => hk3.block _ (HA.out b' off' e h).1 (HA.out b' off' e h).2))
        have HB3 : Hid (Boxed W3 Bl 28 (.slice (some ⟨b, off, none⟩) len cap)) := hide ((hk3.block _ hl0 hxl).trans HB.out)
        have HJ3 := hide hJ3
        clear hJ3 hk3 hR hy cl z0 z1 z2 z3
        gi_wp2
        go_roundw
        case rel => exact ⟨k + 1, by omega, by have := HI.out; simp; omega, HJ3, HV3, HB3⟩
        case measure => simp [intOf]
      · have HE3 := hide hE3
        clear hE3 hy hR
        gi_wp2
        refine bodyPost_ret (results_none rfl _ _ _) rfl ?_
        exact ⟨⟨_, rfl⟩, .inr ⟨k, by rw [bwd_length, HLN.out]; exact hlt, HE3.out⟩⟩
    · obtain rfl : k = len := by omega
      rw [show (k : Int) - 1 - (k : Int) = -1 by omega]
      gi_wp2
      go_end0
      exact ⟨⟨_, rfl⟩, .inl (by rw [bwd_length, HLN.out]; exact HJk.out)⟩
/-- the last of versions up to a time -/
def lastTo (l : List Vr) (t : Nat) : Option Vr := l.reverse.find? (fun x => decide (x.at_ ≤ t))
/-- what it says -/
def seenR : Option Vr → ByteArray × Bool
  | none => (⟨#[]⟩, false)
  | some x => (x.val, !x.gone)
theorem rev_find (l : List Vr) (t k : Nat) (h : k < l.length) (hall : ∀ j, j < k → t < (l.getD (l.length - 1 - j) Vr0).at_) (hk : (l.getD (l.length - 1 - k) Vr0).at_ ≤ t) : lastTo l t = some (l.getD (l.length - 1 - k) Vr0) := by
  unfold lastTo
  have e : ∀ j, j < l.length → l.reverse[j]? = some (l.getD (l.length - 1 - j) Vr0) := fun j hj => by
    rw [List.getElem?_reverse hj, List.getD_eq_getElem?_getD, List.getElem?_eq_getElem (by omega)]; rfl
  rw [List.find?_eq_some_iff_getElem]
  refine ⟨decide_eq_true hk, k, by simpa using h, ?_, ?_⟩
  · have := e k h
    rw [List.getElem?_eq_getElem (by simpa using h)] at this
    exact Option.some.inj this
  · intro j hj
    have := e j (by omega)
    rw [List.getElem?_eq_getElem (by simp; omega)] at this
    rw [Option.some.inj this]
    have := hall j hj
    simp only [Bool.not_eq_eq_eq_not, Bool.not_true, decide_eq_false_iff_not]; omega
theorem rev_none (l : List Vr) (t : Nat) (hall : ∀ j, j < l.length → t < (l.getD (l.length - 1 - j) Vr0).at_) : lastTo l t = none := by
  unfold lastTo
  rw [List.find?_eq_none]
  intro x hx
  obtain ⟨i, hi, rfl⟩ := List.getElem_of_mem (List.mem_reverse.1 hx)
  have := hall (l.length - 1 - i) (by omega)
  rw [show l.length - 1 - (l.length - 1 - i) = i by omega, List.getD_eq_getElem?_getD, List.getElem?_eq_getElem hi] at this
  simp only [Option.getD_some] at this
  simp; omega
theorem turn_boxed {box : Option Nat} {A B : World} {b : Nat} {t : TypeId} {v : Value} (h : Turn box A B) (hv : Boxed A b t v) (hne : box ≠ some b) : Boxed B b t v := by
  cases h with
  | lay o => exact hv.alloc o
  | draw => exact hv
  | put c u hc => exact (Below.heap_setCell A ⟨c, 0, none⟩ u b (fun e => hne (by rw [hc]; exact congrArg some e.symm))).trans hv
theorem turn_below {box : Option Nat} {A B w : World} {n : Nat} (h : Turn box A B) (hb : Below n w A) (hn : n ≤ w.heap.size) (hne : ∀ b, box = some b → n ≤ b) : Below n w B := by
  cases h with
  | lay o => exact hb.alloc (Nat.le_trans hn hb.size) o
  | draw => exact hb.drew
  | put c u hc => exact hb.setCell (p := ⟨c, 0, none⟩) (hne c hc) u
theorem put_boxed {A : World} {l b : Nat} {o o' : Obj} {t : TypeId} {v : Value} (ho : A.heap[l]? = some o) (hc : o.isCells = false) (hv : Boxed A b t v) : Boxed (A.putObj l o') b t v := by
  refine (World.putObj_heap_other ?_).trans hv
  rintro rfl
  rw [show A.heap[b]? = _ from hv] at ho
  cases ho
  cases hc
theorem put_below {A w : World} {l n : Nat} {o' : Obj} (hn : n ≤ l) (hb : Below n w A) (hl : l < A.heap.size) : Below n w (A.putObj l o') :=
  hb.trans ((Below.refl n A).grown (grownBy_putObj' A l o') (by omega) (fun k e => by cases e; exact hn))
theorem Below.keepsOthers {w W : World} (h : Below w.heap.size w W) : KeepsOthers w W := ⟨h.size, fun k _ hk _ => (h.block k (Array.getElem?_eq_some_iff.1 hk).1).trans hk⟩
theorem cells_of_blk {w : World} {g : Nat} {a b c d : Value} {t : TypeId} (h : w.heap[g]? = some (.cells #[a, b, c, d] t)) : w.cell? ⟨g, 0, none⟩ = some a ∧ w.cell? ⟨g, 1, none⟩ = some b ∧ w.cell? ⟨g, 2, none⟩ = some c ∧ w.cell? ⟨g, 3, none⟩ = some d :=
  ⟨cell_blk h rfl, cell_blk h rfl, cell_blk h rfl, cell_blk h rfl⟩
theorem mixed : Tryz.prog.follows .mixedOrders = true := by kernel_rfl
set_option maxRecDepth 40000 in
set_option maxHeartbeats 2000000 in
theorem asOf_any (a : Option Addr) (len cap t : Nat) (l : List Vr) (w : World) (hL : IsV w a len cap l) : Calls Tryz.prog 85 #[.slice a len cap, .int .u64 (t : Nat)] w fun e w' =>
    e = .returned (.tuple #[.string (seenR (lastTo l t)).1, .bool (seenR (lastTo l t)).2]) ∧ Below w.heap.size w w' := by
  have HV := hide hL
  have HLN := hide hL.1
  clear hL
  refine (callsIn_wide (n := 4)).1 ?_
  refine callsIn_of_wp_marks Tryz.func85 rfl trivial ?_ rfl
  simp only [Tryz.ntmps85, List.size_toArray, List.length_cons, List.length_nil, Nat.reduceAdd, Nat.reduceSub, Array.replicate_succ, Array.replicate_zero, List.push_toArray, List.append_toArray, List.nil_append, List.cons_append]
  gi_wp2_with fail
  refine ⟨trivial, (back_in _ a len cap _).mono ?_⟩
  rintro e w1 ⟨rfl, rfl⟩
  gi_wp2_with fail
  have bT := hide ((((Boxed.new w 29 (.int .u64 (t : Nat))).alloc (.cells #[.string ⟨#[]⟩] 9)).alloc (.cells #[.bool false] 4)).alloc (.cells #[.slice a len cap] 28))
  have bS := hide (((Boxed.new (w.alloc (.cells #[.int .u64 (t : Nat)] 29)) 9 (.string ⟨#[]⟩)).alloc (.cells #[.bool false] 4)).alloc (.cells #[.slice a len cap] 28))
  have bB := hide ((Boxed.new ((w.alloc (.cells #[.int .u64 (t : Nat)] 29)).alloc (.cells #[.string ⟨#[]⟩] 9)) 4 (.bool false)).alloc (.cells #[.slice a len cap] 28))
  have bL := hide (Boxed.new (((w.alloc (.cells #[.int .u64 (t : Nat)] 29)).alloc (.cells #[.string ⟨#[]⟩] 9)).alloc (.cells #[.bool false] 4)) 28 (.slice a len cap))
  simp only [World.size_alloc] at bS bB bL
  have hBW : Hid (Below w.heap.size w ((((w.alloc (.cells #[.int .u64 (t : Nat)] 29)).alloc (.cells #[.string ⟨#[]⟩] 9)).alloc (.cells #[.bool false] 4)).alloc (.cells #[.slice a len cap] 28))) := hide (((((Below.refl _ w).alloc (Nat.le_refl _) _).alloc (by simp) _).alloc (by simp; omega) _).alloc (by simp; omega) _)
  have hSZ : ((((w.alloc (.cells #[.int .u64 (t : Nat)] 29)).alloc (.cells #[.string ⟨#[]⟩] 9)).alloc (.cells #[.bool false] 4)).alloc (.cells #[.slice a len cap] 28)).heap.size = w.heap.size + 4 := by simp
  generalize ((((w.alloc (.cells #[.int .u64 (t : Nat)] 29)).alloc (.cells #[.string ⟨#[]⟩] 9)).alloc (.cells #[.bool false] 4)).alloc (.cells #[.slice a len cap] 28)) = V at *
  have HSZ := hide hSZ
  clear hSZ
  refine wp_gives (gf := 158) (lb := #[.pointer (some ⟨w.heap.size + 1 + 1 + 1, 0, none⟩)]) (encs := encB) (xs := bwd l) (box := none) (w0 := V) (Kp := Kp (fun _ => false) (w.heap.size + 4)) rfl (enters_of Tryz.func158 (by kernel_rfl) rfl)
    (back_gives 3 (by omega) (w.heap.size + 1 + 1 + 1) (w.heap.size + 4) (fun _ => false) a len cap l V bL.out (by omega) (by rw [HSZ.out]; exact Nat.le_refl _) rfl (HV.out.below hBW.out) (fun b off e h => by
      obtain ⟨b', off', e', hb, _⟩ := HV.out.2.2.2 0 h
      rw [e] at e'; cases e'
      exact ⟨by omega, rfl⟩))
    (Below.refl _ _) (fun _ => rfl) Kp.trans (kp_put (by rw [HSZ.out]; exact Nat.le_refl _))
    (fun k W => (Boxed W w.heap.size 29 (.int .u64 (t : Nat)) ∧ Boxed W (w.heap.size + 1) 9 (.string ⟨#[]⟩) ∧ Boxed W (w.heap.size + 1 + 1) 4 (.bool false)) ∧ Below w.heap.size w W ∧ w.heap.size + 4 ≤ W.heap.size ∧ ∀ j, j < k → t < (l.getD (l.length - 1 - j) Vr0).at_)
    (fun c k W => c = .ret ∧ Below w.heap.size w W ∧ lastTo l t = some (l.getD (l.length - 1 - k) Vr0) ∧ Boxed W (w.heap.size + 1) 9 (.string (l.getD (l.length - 1 - k) Vr0).val) ∧ Boxed W (w.heap.size + 1 + 1) 4 (.bool (!(l.getD (l.length - 1 - k) Vr0).gone)))
    (fun k A B tu h => ⟨⟨turn_boxed tu h.1.1 (by simp), turn_boxed tu h.1.2.1 (by simp), turn_boxed tu h.1.2.2 (by simp)⟩, turn_below tu h.2.1 (Nat.le_refl _) (by simp), Nat.le_trans h.2.2.1 tu.others.size, h.2.2.2⟩)
    (fun c k A B tu h => ⟨h.1, turn_below tu h.2.1 (Nat.le_refl _) (by simp), h.2.2.1, turn_boxed tu h.2.2.2.1 (by simp), turn_boxed tu h.2.2.2.2 (by simp)⟩)
    (fun k A r o o' hr ho hc h => ⟨⟨put_boxed ho hc h.1.1, put_boxed ho hc h.1.2.1, put_boxed ho hc h.1.2.2⟩, put_below (by have := HSZ.out; omega) h.2.1 (Array.getElem?_eq_some_iff.1 ho).1, by simpa using h.2.2.1, h.2.2.2⟩)
    (fun c k A r o o' hr ho hc h => ⟨h.1, put_below (by have := HSZ.out; omega) h.2.1 (Array.getElem?_eq_some_iff.1 ho).1, h.2.2.1, put_boxed ho hc h.2.2.2.1, put_boxed ho hc h.2.2.2.2⟩)
    ⟨⟨bT.out, bS.out, bB.out⟩, hBW.out, by rw [HSZ.out]; exact Nat.le_refl _, fun j hj => absurd hj (Nat.not_lt_zero _)⟩
    (fun x a' W => ∃ Bx, w.heap.size + 4 ≤ Bx ∧ W.heap[Bx]? = some (.cells #[.string x.2.key, .int .u64 (x.2.at_ : Nat), .string x.2.val, .bool x.2.gone] 66 (0, 0)) ∧ a' = { tmps := #[.slice a len cap, .int .u64 (t : Nat), undef, .pointer (some ⟨w.heap.size, 0, none⟩), .pointer (some ⟨w.heap.size + 1, 0, none⟩), .pointer (some ⟨w.heap.size + 1 + 1, 0, none⟩), undef, .pointer (some ⟨Bx, 0, none⟩), .slice a len cap, .func (.func 158) #[] #[.pointer (some ⟨w.heap.size + 1 + 1 + 1, 0, none⟩)], .int .i64 (x.1 : Nat), vv x.2, undef, undef, undef, undef, undef, undef, undef, undef, undef], defers := [] })
    (fun x a' A r o o' hr ho hc h => by
      obtain ⟨Bx, h1, h2, h3⟩ := h
      refine ⟨Bx, h1, (World.putObj_heap_other ?_).trans h2, h3⟩
      rintro rfl
      rw [h2] at ho; cases ho; cases hc)
    ?assign ?body ?all ?left
  case assign =>
    rintro lo k ⟨i, x⟩ W K hx ⟨⟨b1, b2, b3⟩, hB, hS, hj⟩ hK
    obtain ⟨x1, x2, x3, x4⟩ := x
    have hnew := heap_alloc_new W (.cells #[.string x1, .int .u64 (x2 : Nat), .string x3, .bool x4] 66)
    have HK := hide (fun a' => hK a' (W.alloc (.cells #[.string x1, .int .u64 (x2 : Nat), .string x3, .bool x4] 66)) (KeepsOthers.alloc _ _) (Kp.of_below ((Below.refl _ W).alloc hS _)) ⟨⟨b1.alloc _, b2.alloc _, b3.alloc _⟩, hB.alloc hB.size _, by simp; omega, hj⟩)
    have HN := hide (And.intro hS hnew)
    clear hK hnew b1 b2 b3 hx hj
    gi_wp2
    refine HK.out _ ?_
    exact ⟨W.heap.size, HN.out.1, HN.out.2, by simp⟩
  case body =>
    rintro lo k ⟨i, x⟩ a' W hx ⟨⟨b1, b2, b3⟩, hB, hS, hj⟩ ⟨Bx, hBx, hb, rfl⟩
    have hkl : k < l.length := by have := (List.getElem?_eq_some_iff.1 hx).1; rwa [bwd_length] at this
    rw [bwd_at l k hkl] at hx
    simp only [Option.some.injEq, Prod.mk.injEq] at hx
    obtain ⟨rfl, hx⟩ := hx
    have HX := hide hx
    have HJ := hide hj
    have HB := hide hB
    have HB1 := hide b1
    have HB2 := hide b2
    have HB3 := hide b3
    clear hx hj hB
    obtain ⟨x1, x2, x3, x4⟩ := x
    obtain ⟨c0, c1, c2, c3⟩ := cells_of_blk hb
    have cT := b1.cell
    have cS := b2.cell
    have fS := b2.frozen
    have cB := b3.cell
    have fB := b3.frozen
    dsimp only at c0 c1 c2 c3 ⊢
    by_cases hle : x2 ≤ t
    · have HLT : Hid (lastTo l t = some (l.getD (l.length - 1 - k) Vr0)) := hide (rev_find l t k hkl HJ.out (by rw [HX.out]; exact hle))
      have hd1 : decide ((x2 : Int) ≤ (t : Int)) = true := decide_eq_true (by omega)
      have hmix := mixed
      have ne1 : ¬ (Bx = w.heap.size + 1) := by omega
      have ne2 : ¬ (Bx = w.heap.size + 1 + 1) := by omega
      have ne3 : ¬ (w.heap.size + 1 = Bx) := by omega
      have ne4 : ¬ (w.heap.size + 1 + 1 = Bx) := by omega
      clear b1 b2 b3 hb
      have HFIN : Hid (KeepsOthers W ((W.setCell ⟨w.heap.size + 1, 0, none⟩ (.string x3)).setCell ⟨w.heap.size + 1 + 1, 0, none⟩ (.bool (!x4))) ∧ (Below w.heap.size w ((W.setCell ⟨w.heap.size + 1, 0, none⟩ (.string x3)).setCell ⟨w.heap.size + 1 + 1, 0, none⟩ (.bool (!x4))) ∧ lastTo l t = some (l.getD (l.length - 1 - k) Vr0) ∧ Boxed ((W.setCell ⟨w.heap.size + 1, 0, none⟩ (.string x3)).setCell ⟨w.heap.size + 1 + 1, 0, none⟩ (.bool (!x4))) (w.heap.size + 1) 9 (.string (l.getD (l.length - 1 - k) Vr0).val) ∧ Boxed ((W.setCell ⟨w.heap.size + 1, 0, none⟩ (.string x3)).setCell ⟨w.heap.size + 1 + 1, 0, none⟩ (.bool (!x4))) (w.heap.size + 1 + 1) 4 (.bool (!(l.getD (l.length - 1 - k) Vr0).gone)))) := hide (by
        refine ⟨(KeepsOthers.setCell _ _ _).trans (KeepsOthers.setCell _ _ _), (HB.out.setCell (p := ⟨w.heap.size + 1, 0, none⟩) (Nat.le_succ _) _).setCell (p := ⟨w.heap.size + 1 + 1, 0, none⟩) (by show _ ≤ w.heap.size + 1 + 1; omega) _, HLT.out, ?_, ?_⟩
        · rw [HX.out]
          exact (Below.heap_setCell _ _ _ _ (by show w.heap.size + 1 ≠ w.heap.size + 1 + 1; omega)).trans (HB2.out.set _)
        · rw [HX.out]
          have : Boxed (W.setCell ⟨w.heap.size + 1, 0, none⟩ (.string x3)) (w.heap.size + 1 + 1) 4 (.bool false) := (Below.heap_setCell _ _ _ _ (by show w.heap.size + 1 + 1 ≠ w.heap.size + 1; omega)).trans HB3.out
          exact this.set _)
      gi_wp2_with fail
      gi_region_with_o (fail)
      all_goals gi_wp2
      all_goals exact ⟨HFIN.out.1.trans (KeepsOthers.drew _), rfl, HFIN.out.2.1.drew, HFIN.out.2.2.1, HFIN.out.2.2.2.1, HFIN.out.2.2.2.2⟩
    · have hd1 : decide ((x2 : Int) ≤ (t : Int)) = false := decide_eq_false (by omega)
      have HGT : Hid (∀ j, j < k + 1 → t < (l.getD (l.length - 1 - j) Vr0).at_) := hide (fun j h => by
        by_cases h' : j < k
        · exact HJ.out j h'
        · obtain rfl : j = k := by omega
          rw [HX.out]; show t < x2; omega)
      clear b1 b2 b3 hb
      gi_wp2
      exact ⟨KeepsOthers.refl _, ⟨Nat.le_refl _, fun _ _ _ => rfl⟩, ⟨HB1.out, HB2.out, HB3.out⟩, HB.out, hS, HGT.out⟩
  case all =>
    rintro D W hD hK ⟨⟨b1, b2, b3⟩, hB, hS, hj⟩
    have cS := b2.cell
    have fS := b2.frozen
    have cB := b3.cell
    have fB := b3.frozen
    have HLT : Hid (lastTo l t = none) := hide (rev_none l t (by rw [bwd_length] at hj; exact hj))
    have HB := hide hB
    have HN : Hid (w.heap.size ≤ D ∧ D ≠ w.heap.size + 1 ∧ D ≠ w.heap.size + 1 + 1) := hide (by have := HSZ.out; omega)
    clear hj hB b1
    have HB2 := hide b2
    have HB3 := hide b3
    clear b2 b3
    gi_wp2
    have hK2 := ((KeepsOthers.setCell W ⟨w.heap.size + 1, 0, none⟩ (.string ⟨#[]⟩)).trans (KeepsOthers.setCell _ ⟨w.heap.size + 1 + 1, 0, none⟩ (.bool false))).same _ _ hK rfl
    refine ⟨by simp, .inl ⟨_, _, rfl, run_takeDeferred hK2, ?_⟩⟩
    have hb2 : Boxed ((W.setCell ⟨w.heap.size + 1, 0, none⟩ (.string ⟨#[]⟩)).setCell ⟨w.heap.size + 1 + 1, 0, none⟩ (.bool false)) (w.heap.size + 1) 9 (.string ⟨#[]⟩) := (Below.heap_setCell _ _ _ _ (by show w.heap.size + 1 ≠ w.heap.size + 1 + 1; omega)).trans (HB2.out.set _)
    have hb3 : Boxed ((W.setCell ⟨w.heap.size + 1, 0, none⟩ (.string ⟨#[]⟩)).setCell ⟨w.heap.size + 1 + 1, 0, none⟩ (.bool false)) (w.heap.size + 1 + 1) 4 (.bool false) := Boxed.set (v := .bool false) _ ((Below.heap_setCell _ _ _ _ (by show w.heap.size + 1 + 1 ≠ w.heap.size + 1; omega)).trans HB3.out)
    have hc2 := (put_boxed (o' := .deferred none) hK2 rfl hb2).cell
    have hc3 := (put_boxed (o' := .deferred none) hK2 rfl hb3).cell
    refine ⟨.tuple #[.string ⟨#[]⟩, .bool false], by simp [results, Tryz.f85, go_sem, hc2, hc3], ?_⟩
    rw [HLT.out]
    exact ⟨rfl, put_below HN.out.1 ((HB.out.setCell (p := ⟨w.heap.size + 1, 0, none⟩) (Nat.le_succ _) _).setCell (p := ⟨w.heap.size + 1 + 1, 0, none⟩) (by show _ ≤ w.heap.size + 1 + 1; omega) _) (Array.getElem?_eq_some_iff.1 hK2).1⟩
  case left =>
    rintro D c k W hD hK hk ⟨rfl, hB, hl, b2, b3⟩
    have HB := hide hB
    have HN : Hid (w.heap.size ≤ D) := hide (by have := HSZ.out; omega)
    gi_wp2
    refine ⟨by simp, .inl ⟨_, _, rfl, run_takeDeferred hK, ?_⟩⟩
    have hc2 := (put_boxed (o' := .deferred none) hK rfl b2).cell
    have hc3 := (put_boxed (o' := .deferred none) hK rfl b3).cell
    rw [hl]
    generalize l.getD (l.length - 1 - k) Vr0 = y at *
    refine ⟨.tuple #[.string y.val, .bool (!y.gone)], by simp [results, Tryz.f85, go_sem, hc2, hc3], ?_⟩
    exact ⟨rfl, put_below HN.out HB.out (Array.getElem?_eq_some_iff.1 hK).1⟩
end Go.Proofs.YtlkmcbelmldleaaGreat
