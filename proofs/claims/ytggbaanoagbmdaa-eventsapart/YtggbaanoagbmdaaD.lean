/- count -/
import Derived.Test.YtggbaanoagbmdaaC
namespace Go.Proofs.Ytggbaanoagbmdaa
open Go.RowKit Go.Shelf
attribute [local go_sem] Oper.semAt_some
theorem wrap_nat (k : Nat) (h : k < 9223372036854775807) : IntKind.i64.wrap ((k : Int) + 1) = ((k + 1 : Nat) : Int) := by
  simp [IntKind.wrap, IntKind.bits, IntKind.signed]; omega
theorem kp_set {X : Nat → Bool} {n b : Nat} (hx : X b = true) (W : World) (j : Nat) (v : Value) : Kp X n W (W.setCell ⟨b, j, none⟩ v) :=
  ⟨by simp, fun c _ hc => Below.heap_setCell _ _ _ _ (fun e => by subst e; rw [hx] at hc; cases hc)⟩
set_option maxRecDepth 40000 in
set_option maxHeartbeats 2000000 in
theorem count_in (F : Fence) (n : Nat) (h26 : F.fn 26) (h33 : F.fn 33) (h42 : F.fn 42) (hro : F.round = none) (hn : 3 ≤ n) (a : Option Addr) (len cap : Nat) (xs : List Ev) (s : ByteArray) (w : World) (hL : IsE w a len cap xs) :
    CallsIn F n Try.prog 26 #[.slice a len cap, .string s] w fun e W' => e = .returned (.int .i64 ((xs.filter (isOf s)).length : Nat)) ∧ Below w.heap.size w W' := by
  have h1 : 1 ≤ n := by omega
  have hlen : (xs.filter (isOf s)).length ≤ 9223372036854775807 := by
    have h := List.length_filter_le (isOf s) xs
    have h2 := hL.1
    have h3 := hL.2.1
    have h4 : cap ≤ 9223372036854775807 := hL.2.2.1
    omega
  refine callsIn_of_wp_marks Try.func26 rfl h26 ?_ hro
  simp only [Try.ntmps26, List.size_toArray, List.length_cons, List.length_nil, Nat.reduceAdd, Nat.reduceSub, Array.replicate_succ, Array.replicate_zero, List.push_toArray, List.append_toArray, List.nil_append, List.cons_append]
  gi_wp2_with (gi_at_call 33; refine (of_in F (n - 1) h33 hro _ _ _ _ _).mono ?_; rintro e w' ⟨rfl, rfl⟩)
  have bN := ((Boxed.new w 3 (.int .i64 0)).alloc (.cells #[.slice a len cap] 22)).alloc (.cells #[.string s] 9)
  have bL := (Boxed.new (w.alloc (.cells #[.int .i64 0] 3)) 22 (.slice a len cap)).alloc (.cells #[.string s] 9)
  have bS := Boxed.new ((w.alloc (.cells #[.int .i64 0] 3)).alloc (.cells #[.slice a len cap] 22)) 9 (.string s)
  simp only [World.size_alloc] at bN bL bS
  have hB0 : Below w.heap.size w (((w.alloc (.cells #[.int .i64 0] 3)).alloc (.cells #[.slice a len cap] 22)).alloc (.cells #[.string s] 9)) := (((Below.refl _ w).alloc (Nat.le_refl _) _).alloc (by simp) _).alloc (by simp; omega) _
  refine wpIn_rangeFunc_ownG hro h1 (gf := 42) (lb := #[.pointer (some ⟨w.heap.size + 1, 0, none⟩), .pointer (some ⟨w.heap.size + 1 + 1, 0, none⟩)]) rfl h42 (enters_of Try.func42 (by kernel_rfl) rfl)
    (of_stops F (n - 1) h42 hro (by omega) (w.heap.size + 1) (w.heap.size + 1 + 1) (w.heap.size + 3) (fun b => decide (b = w.heap.size)) a len cap xs s _ (by simp) (by simp) bL.cell bS.cell (by omega) (by simp; omega) (hL.below' hB0) (fun b off e h0 => ⟨by have := hL.lt b off e h0; omega, by have := hL.lt b off e h0; simp; omega⟩)) Kp.trans (kp_b (by simp)) (Below.refl _ _) (fun _ => rfl)
    (fun pre W => (W.cell? ⟨w.heap.size, 0, none⟩ = some (.int .i64 (pre.length : Nat)) ∧ W.frozen? ⟨w.heap.size, 0, none⟩ = false) ∧ Below w.heap.size w W)
    (fun _ _ _ => False)
    (OwnFrom.and (Own.from (fun s A B row hs hg hr => ⟨cell_kept hs.1 hg hr, (frozen_kept hs.1 hg hr).trans hs.2⟩) _) (ownFrom_below (Nat.le_refl _) (by simp; omega)))
    (fun _ _ _ _ _ hs _ _ => hs)
    ⟨⟨bN.cell, bN.frozen⟩, hB0⟩
    (fun x => { tmps := #[.slice a len cap, .string s, undef, undef, .int .i64 0, .pointer (some ⟨w.heap.size, 0, none⟩), .slice a len cap, .string s, .func (.func 42) #[] #[.pointer (some ⟨w.heap.size + 1, 0, none⟩), .pointer (some ⟨w.heap.size + 1 + 1, 0, none⟩)], vv x, undef, undef, undef], defers := [] }) ?assign ?body ?done ?stop
  case assign =>
    intro l x W K hK
    gi_wp2
    simpa using hK
  case body =>
    rintro l pre x W ⟨⟨hc, hf⟩, hB⟩ hlt
    have hw := wrap_nat pre.length (by omega)
    gi_wp2
    exact ⟨(KeepsOthers.setCell _ _ _).from _, kp_set (by simp) _ _ _, ⟨by rw [List.length_append]; exact World.cell?_setCell_same' _ _ _ (by rw [hc]; rfl), by rw [World.frozen?_setCell]; exact hf⟩, hB.setCell (p := ⟨w.heap.size, 0, none⟩) (Nat.le_refl _) _⟩
  case done =>
    rintro D ys W hD rfl ⟨⟨hc, hf⟩, hB⟩ hK
    gi_wp2
    refine ⟨by simp, .inl ⟨_, _, rfl, run_takeDeferred hK, ?_⟩⟩
    exact ⟨_, results_tmp rfl _ _ _, rfl, hB.trans (belowK_b (w := w) (Nat.le_refl _) W D _ _ (by simp at hD; omega) hK rfl rfl)⟩
  case stop =>
    rintro D c pre W _ _ h _
    exact h.elim
theorem count_any (a : Option Addr) (len cap : Nat) (xs : List Ev) (s : ByteArray) (w : World) (hL : IsE w a len cap xs) :
    Calls Try.prog 26 #[.slice a len cap, .string s] w fun e W' => e = .returned (.int .i64 ((xs.filter (isOf s)).length : Nat)) ∧ Below w.heap.size w W' :=
  (callsIn_wide (n := 3)).1 (count_in Fence.wide 3 trivial trivial trivial rfl (Nat.le_refl _) a len cap xs s w hL)
end Go.Proofs.Ytggbaanoagbmdaa
