/- markedAt -/
import Derived.Test.YtggbaanoagbmdaaD
namespace Go.Proofs.Ytggbaanoagbmdaa
open Go.RowKit Go.Shelf
attribute [local go_sem] Oper.semAt_some
def hasM (m : ByteArray) (x : Ev) : Bool := decide (x.ma.toList = m.toList)
def markAt (xs : List Ev) (s m : ByteArray) : Int := if m.toList = [] then 0 else (((xs.filter (isOf s)).find? (hasM m)).map (·.num)).getD 0
theorem find_snoc {α : Type} {p : α → Bool} {pre zs : List α} {x : α} (h : pre ++ [x] <+: zs) (hn : ∀ y ∈ pre, p y = false) (hx : p x = true) : zs.find? p = some x := by
  obtain ⟨r, rfl⟩ := h
  rw [List.append_assoc, List.find?_append, List.find?_eq_none.2 (fun y hy => by rw [hn y hy]; simp)]
  simp [hx]
set_option maxRecDepth 40000 in
set_option maxHeartbeats 2000000 in
theorem marked_in (F : Fence) (n : Nat) (h27 : F.fn 27) (h33 : F.fn 33) (h42 : F.fn 42) (hro : F.round = none) (hn : 3 ≤ n) (a : Option Addr) (len cap : Nat) (xs : List Ev) (s m : ByteArray) (w : World) (hL : IsE w a len cap xs) :
    CallsIn F n Try.prog 27 #[.slice a len cap, .string s, .string m] w fun e W' => e = .returned (.int .i64 (markAt xs s m)) ∧ Below w.heap.size w W' := by
  have h1 : 1 ≤ n := by omega
  cases hm : m.toList.isEmpty
  case true =>
    have HM : Hid (markAt xs s m = 0) := hide (by unfold markAt; rw [if_pos (by simpa using hm)])
    refine callsIn_of_wp Try.func27 rfl h27 ?_ hro
    simp only [Try.ntmps27, List.size_toArray, List.length_cons, List.length_nil, Nat.reduceAdd, Nat.reduceSub, Array.replicate_succ, Array.replicate_zero, List.push_toArray, List.append_toArray, List.nil_append, List.cons_append]
    have HB : Hid (Below w.heap.size w ((w.alloc (.cells #[.string m] 9)).alloc (.cells #[.int .i64 0] 3))) := hide (((Below.refl _ w).alloc (Nat.le_refl _) _).alloc (by simp) _)
    have bN := Boxed.new (w.alloc (.cells #[.string m] 9)) 3 (.int .i64 0)
    have cN := bN.cell
    simp only [World.size_alloc] at cN
    gi_wp2_with fail
    refine bodyPost_ret (v := .int .i64 0) ?_ rfl ⟨by rw [HM.out], HB.out⟩
    simp [results, Try.f27, go_sem, cN]
  case false =>
    have HM : Hid (markAt xs s m = (((xs.filter (isOf s)).find? (hasM m)).map (·.num)).getD 0) := hide (by unfold markAt; rw [if_neg (by simpa using hm)])
    refine callsIn_of_wp_marks Try.func27 rfl h27 ?_ hro
    simp only [Try.ntmps27, List.size_toArray, List.length_cons, List.length_nil, Nat.reduceAdd, Nat.reduceSub, Array.replicate_succ, Array.replicate_zero, List.push_toArray, List.append_toArray, List.nil_append, List.cons_append]
    gi_wp2_with (gi_at_call 33; refine (of_in F (n - 1) h33 hro _ _ _ _ _).mono ?_; rintro e w' ⟨rfl, rfl⟩)
    have bM := (((Boxed.new w 9 (.string m)).alloc (.cells #[.int .i64 0] 3)).alloc (.cells #[.slice a len cap] 22)).alloc (.cells #[.string s] 9)
    have bN := ((Boxed.new (w.alloc (.cells #[.string m] 9)) 3 (.int .i64 0)).alloc (.cells #[.slice a len cap] 22)).alloc (.cells #[.string s] 9)
    have bL := (Boxed.new ((w.alloc (.cells #[.string m] 9)).alloc (.cells #[.int .i64 0] 3)) 22 (.slice a len cap)).alloc (.cells #[.string s] 9)
    have bS := Boxed.new (((w.alloc (.cells #[.string m] 9)).alloc (.cells #[.int .i64 0] 3)).alloc (.cells #[.slice a len cap] 22)) 9 (.string s)
    simp only [World.size_alloc] at bM bN bL bS
    have hB0 : Below w.heap.size w ((((w.alloc (.cells #[.string m] 9)).alloc (.cells #[.int .i64 0] 3)).alloc (.cells #[.slice a len cap] 22)).alloc (.cells #[.string s] 9)) := ((((Below.refl _ w).alloc (Nat.le_refl _) _).alloc (by simp) _).alloc (by simp; omega) _).alloc (by simp; omega) _
    have hsz : ((((w.alloc (.cells #[.string m] 9)).alloc (.cells #[.int .i64 0] 3)).alloc (.cells #[.slice a len cap] 22)).alloc (.cells #[.string s] 9)).heap.size = w.heap.size + 4 := by simp
    obtain ⟨W0, hW0⟩ : ∃ W0, (((w.alloc (.cells #[.string m] 9)).alloc (.cells #[.int .i64 0] 3)).alloc (.cells #[.slice a len cap] 22)).alloc (.cells #[.string s] 9) = W0 := ⟨_, rfl⟩
    rw [hW0] at bM bN bL bS hB0 hsz ⊢
    clear hW0
    refine wpIn_rangeFunc_ownH hro h1 (gf := 42) (lb := #[.pointer (some ⟨w.heap.size + 1 + 1, 0, none⟩), .pointer (some ⟨w.heap.size + 1 + 1 + 1, 0, none⟩)]) rfl h42 (enters_of Try.func42 (by kernel_rfl) rfl)
      (of_stops F (n - 1) h42 hro (by omega) (w.heap.size + 1 + 1) (w.heap.size + 1 + 1 + 1) (w.heap.size + 4) (fun b => decide (b = w.heap.size + 1)) a len cap xs s W0 (by omega) (by omega) bL.cell bS.cell (by omega) (by simp; omega) (hL.below' hB0) (fun b off e h0 => ⟨by have := hL.lt b off e h0; omega, by have := hL.lt b off e h0; simp; omega⟩)) Kp.trans (kp_b (by omega)) (Below.refl _ _) (fun _ => rfl)
      (fun pre W => ((Boxed W w.heap.size 9 (.string m) ∧ Boxed W (w.heap.size + 1) 3 (.int .i64 0)) ∧ (∀ y ∈ pre, hasM m y = false) ∧ w.heap.size + 4 ≤ W.heap.size) ∧ Below w.heap.size w W)
      (fun c pre W => ((c = .ret ∧ ∃ pre' x, pre = pre' ++ [x] ∧ (∀ y ∈ pre', hasM m y = false) ∧ hasM m x = true ∧ Boxed W (w.heap.size + 1) 3 (.int .i64 x.num))) ∧ Below w.heap.size w W)
      (OwnFrom.and (OwnFrom.and (OwnFrom.and (Own.from (boxed_own _ _ _) _) (Own.from (boxed_own _ _ _) _)) (fun _ _ _ _ hs hg _ => ⟨hs.1, Nat.le_trans hs.2 hg.size⟩)) (ownFrom_below (Nat.le_refl _) (by omega)))
      (fun c => OwnFrom.and (fun s X Y row hs hg hr => by obtain ⟨h1, pre', x, h2, h3, h4, h5⟩ := hs; exact ⟨h1, pre', x, h2, h3, h4, boxed_own _ 3 (fun (_ : Unit) => Value.int .i64 x.num) () X Y row h5 hg (fun r e => (hr r e).2)⟩) (ownFrom_below (Nat.le_refl _) (by omega)))
      ⟨⟨⟨bM, bN⟩, by simp, by omega⟩, hB0⟩
      (fun x a' W => ∃ Bx, w.heap.size + 4 ≤ Bx ∧ (W.cell? ⟨Bx, 0, none⟩ = some (.string x.st) ∧ W.cell? ⟨Bx, 1, none⟩ = some (.int .i64 x.num) ∧ W.cell? ⟨Bx, 2, none⟩ = some (.int .i64 x.glob) ∧ W.cell? ⟨Bx, 3, none⟩ = some (.string x.ma) ∧ W.cell? ⟨Bx, 4, none⟩ = some (.string x.dt)) ∧ a' = { tmps := #[.slice a len cap, .string s, .string m, undef, undef, .pointer (some ⟨w.heap.size, 0, none⟩), .pointer (some ⟨w.heap.size + 1, 0, none⟩), .pointer (some ⟨Bx, 0, none⟩), .string m, .bool false, .slice a len cap, .string s, .func (.func 42) #[] #[.pointer (some ⟨w.heap.size + 1 + 1, 0, none⟩), .pointer (some ⟨w.heap.size + 1 + 1 + 1, 0, none⟩)], vv x, undef, undef, undef, undef, undef, undef], defers := [] })
      (fun x a' _ X Y row hs hg hr => by obtain ⟨Bx, h1, ⟨c0, c1, c2, c3, c4⟩, h3⟩ := hs; exact ⟨Bx, h1, ⟨cell_kept c0 hg (fun r e => (hr r e).2), cell_kept c1 hg (fun r e => (hr r e).2), cell_kept c2 hg (fun r e => (hr r e).2), cell_kept c3 hg (fun r e => (hr r e).2), cell_kept c4 hg (fun r e => (hr r e).2)⟩, h3⟩)
      ?assign ?body ?done ?stop
    case assign =>
      rintro l pre x W K ⟨⟨⟨b1, b2⟩, hp, hsW⟩, hB1⟩ hK
      have hnew := heap_alloc_new W (.cells #[.string x.st, .int .i64 x.num, .int .i64 x.glob, .string x.ma, .string x.dt] 41)
      have HK := hide (fun a' => hK a' (W.alloc (.cells #[.string x.st, .int .i64 x.num, .int .i64 x.glob, .string x.ma, .string x.dt] 41)) ((KeepsOthers.alloc _ _).from _) (Kp.alloc hsW _) ⟨⟨⟨b1.alloc _, b2.alloc _⟩, hp, by simp; omega⟩, hB1.alloc hB1.size _⟩)
      have HC := hide (And.intro hsW (show _ ∧ _ ∧ _ ∧ _ ∧ _ from ⟨cell_blk (j := 0) hnew rfl, cell_blk (j := 1) hnew rfl, cell_blk (j := 2) hnew rfl, cell_blk (j := 3) hnew rfl, cell_blk (j := 4) hnew rfl⟩))
      clear hK hnew
      gi_wp2
      refine HK.out _ ?_
      obtain ⟨h1, h2, h3, h4, h5, h6⟩ := HC.out
      exact ⟨W.heap.size, h1, ⟨h2, h3, h4, h5, h6⟩, by simp⟩
    case body =>
      rintro l pre x a' W hl ⟨r, hr⟩ ⟨⟨⟨b1, b2⟩, hp, hsW⟩, hB1⟩ ⟨Bx, hBx, ⟨c0, c1, c2, c3, c4⟩, rfl⟩ hlt
      have cM := b1.cell
      have cR := b2.cell
      have cF := b2.frozen
      have HP := hide hp
      clear hp
      cases hx : hasM m x
      · have hq : (x.ma.toList == m.toList) = false := by simpa [hasM] using hx
        have HX := hide hx
        clear hx
        gi_wp2
        exact ⟨(KeepsOthers.refl _).from _, ⟨Nat.le_refl _, fun _ _ _ => rfl⟩, ⟨⟨b1, b2⟩, fun y hy => (List.mem_append.1 hy).elim (HP.out y) (fun e => by simp at e; subst e; exact HX.out), hsW⟩, hB1⟩
      · have hq : (x.ma.toList == m.toList) = true := by simpa [hasM] using hx
        have HX := hide hx
        clear hx
        gi_wp2
        refine ⟨(KeepsOthers.setCell _ _ _).from _, ⟨rfl, pre, x, rfl, HP.out, HX.out, ?_⟩, hB1.setCell (p := ⟨w.heap.size + 1, 0, none⟩) (by simp) _⟩
        exact b2.set _
    case done =>
      rintro D ys W hD rfl ⟨⟨⟨b1, b2⟩, hp, hsW⟩, hB⟩ hK
      have cR := b2.cell
      have cF := b2.frozen
      have HP := hide hp
      clear hp
      gi_wp2
      have hK' := (KeepsOthers.setCell W ⟨w.heap.size + 1, 0, none⟩ (.int .i64 0)).same D _ hK rfl
      refine ⟨by simp, .inl ⟨_, _, rfl, run_takeDeferred hK', ?_⟩⟩
      have hc5 := cell_kept (World.cell?_setCell_same' W ⟨w.heap.size + 1, 0, none⟩ (.int .i64 0) (by rw [cR]; rfl)) (grownBy_putObj' _ D (.deferred none)) (fun r e => by cases e; exact ⟨_, hK', rfl⟩)
      refine ⟨.int .i64 0, ?_, by rw [HM.out, List.find?_eq_none.2 (fun y hy => by rw [HP.out y hy]; simp)]; rfl, (hB.setCell (p := ⟨w.heap.size + 1, 0, none⟩) (by simp) _).trans (belowK_b (w := w) (Nat.le_refl _) _ D _ _ (by omega) hK' rfl rfl)⟩
      simp [results, Try.f27, go_sem, hc5]
    case stop =>
      rintro D c pre W hD hpre ⟨⟨rfl, pre', x, rfl, hp, hx, b2⟩, hB⟩ hK
      have HF := hide (find_snoc hpre hp hx)
      clear hp hpre hx
      gi_wp2
      refine ⟨by simp, .inl ⟨_, _, rfl, run_takeDeferred hK, ?_⟩⟩
      have hc5 := cell_kept b2.cell (grownBy_putObj' _ D (.deferred none)) (fun r e => by cases e; exact ⟨_, hK, rfl⟩)
      refine ⟨.int .i64 x.num, ?_, by rw [HM.out, HF.out]; rfl, hB.trans (belowK_b (w := w) (Nat.le_refl _) W D _ _ (by omega) hK rfl rfl)⟩
      simp [results, Try.f27, go_sem, hc5]
/-- events.markedAt -/
theorem marked_any (a : Option Addr) (len cap : Nat) (xs : List Ev) (s m : ByteArray) (w : World) (hL : IsE w a len cap xs) :
    Calls Try.prog 27 #[.slice a len cap, .string s, .string m] w fun e W' => e = .returned (.int .i64 (markAt xs s m)) ∧ Below w.heap.size w W' :=
  (callsIn_wide (n := 3)).1 (marked_in Fence.wide 3 trivial trivial trivial rfl (Nat.le_refl _) a len cap xs s m w hL)
end Go.Proofs.Ytggbaanoagbmdaa
