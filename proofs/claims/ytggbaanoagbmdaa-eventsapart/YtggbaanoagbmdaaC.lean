/- a stream's events, one behind the other -/
import Derived.RangeFuncNested
import Derived.RangeFuncBound
import Derived.RangeFuncBox
import Derived.RangeFuncCalls
import Derived.RangeFuncLeaves
import Derived.Shelf.Abstract
import Derived.Shelf.RegionOpen
import Derived.WalkKit
import Derived.OwnWalkIn
import Derived.TacticsInMore
import Derived.LoopNIn
import Derived.LoopIn
import Derived.Test.YtggbaanoagbmdaaA
namespace Go.Proofs.Ytggbaanoagbmdaa
open Go.RowKit Go.Shelf
attribute [local go_sem] Oper.semAt_some
/-- what a round keeps: all blocks below n but those of X -/
structure Kp (X : Nat → Bool) (n : Nat) (W W' : World) : Prop where
  size : W.heap.size ≤ W'.heap.size
  block : ∀ b, b < n → X b = false → W'.heap[b]? = W.heap[b]?
theorem Kp.trans {X : Nat → Bool} {n : Nat} {A B C : World} (h : Kp X n A B) (k : Kp X n B C) : Kp X n A C :=
  ⟨Nat.le_trans h.size k.size, fun b hb hx => (k.block b hb hx).trans (h.block b hb hx)⟩
theorem kp_b {X : Nat → Bool} {n : Nat} {w : World} (hn : n ≤ w.heap.size) (W : World) (l : Nat) (o o' : Obj) (hl : w.heap.size ≤ l) (_ : W.heap[l]? = some o) (_ : o.isCells = false) (_ : o.isWalk = false) : Kp X n W (W.putObj l o') :=
  ⟨by simp, fun b hb _ => World.putObj_heap_other (by omega)⟩
theorem Kp.cell {X : Nat → Bool} {n : Nat} {W W' : World} (h : Kp X n W W') {b : Nat} (hb : b < n) (hx : X b = false) (j : Nat) : W'.cell? ⟨b, j, none⟩ = W.cell? ⟨b, j, none⟩ := World.cell?_of_block (h.block b hb hx)
theorem Kp.alloc {X : Nat → Bool} {n : Nat} {W : World} (hn : n ≤ W.heap.size) (o : Obj) : Kp X n W (W.alloc o) := ⟨by simp, fun b hb _ => heap_alloc_old W o b (by omega)⟩
theorem IsE.kp {X : Nat → Bool} {n : Nat} {w w' : World} {a : Option Addr} {len cap : Nat} {l : List Ev} (h : IsE w a len cap l) (hn : ∀ b off, a = some ⟨b, off, none⟩ → 0 < len → b < n ∧ X b = false) (hb : Kp X n w w') : IsE w' a len cap l := by
  refine ⟨h.1, h.2.1, h.2.2.1, h.2.2.2.1, fun i hi => ?_⟩
  obtain ⟨b, off, e, hlt, h0, h1, h2, h3, h4⟩ := h.2.2.2.2 i hi
  obtain ⟨g1, g2⟩ := hn b off e (by omega)
  have k := hb.cell g1 g2
  exact ⟨b, off, e, Nat.lt_of_lt_of_le hlt hb.size, (k _).trans h0, (k _).trans h1, (k _).trans h2, (k _).trans h3, (k _).trans h4⟩
def isOf (s : ByteArray) (x : Ev) : Bool := decide (x.st.toList = s.toList)
theorem of_in (F : Fence) (n : Nat) (h33 : F.fn 33) (hro : F.round = none) (a : Option Addr) (len cap : Nat) (s : ByteArray) (w : World) :
    CallsIn F n Try.prog 33 #[.slice a len cap, .string s] w fun e w' => e = .returned (.func (.func 42) #[] #[.pointer (some ⟨w.heap.size, 0, none⟩), .pointer (some ⟨w.heap.size + 1, 0, none⟩)]) ∧ w' = (w.alloc (.cells #[.slice a len cap] 22)).alloc (.cells #[.string s] 9) := by
  refine callsIn_of_wp Try.func33 rfl h33 ?_ hro
  simp only [Try.ntmps33, List.size_toArray, List.length_cons, List.length_nil, Nat.reduceAdd, Nat.reduceSub, Array.replicate_succ, Array.replicate_zero, List.push_toArray, List.append_toArray, List.nil_append, List.cons_append]
  gi_wp2
  go_ret
  exact ⟨rfl, rfl⟩
theorem take_filter_pos {α : Type} (p : α → Bool) (xs : List α) (k : Nat) (d : α) (hk : k < xs.length) (hp : p (xs.getD k d) = true) : (xs.take (k + 1)).filter p = (xs.take k).filter p ++ [xs.getD k d] := by
  rw [List.take_add_one, List.filter_append]
  congr 1
  rw [List.getD_eq_getElem?_getD, List.getElem?_eq_getElem hk] at *
  simp only [Option.getD_some] at *
  simp [hp]
theorem take_filter_neg {α : Type} (p : α → Bool) (xs : List α) (k : Nat) (d : α) (hk : k < xs.length) (hp : p (xs.getD k d) = false) : (xs.take (k + 1)).filter p = (xs.take k).filter p := by
  rw [List.take_add_one, List.filter_append]
  rw [List.getD_eq_getElem?_getD, List.getElem?_eq_getElem hk] at *
  simp only [Option.getD_some] at *
  simp [hp]
theorem filter_split {α : Type} (p : α → Bool) (xs : List α) (k : Nat) : xs.filter p = (xs.take k).filter p ++ (xs.drop k).filter p := by
  rw [← List.filter_append, List.take_append_drop]
set_option maxRecDepth 40000 in
set_option maxHeartbeats 2000000 in
theorem of1_in (F : Fence) (n : Nat) (h42 : F.fn 42) (hro : F.round = none) (hn : 1 ≤ n) (l Bl Bs n₀ : Nat) (X : Nat → Bool) (a : Option Addr) (len cap : Nat) (xs : List Ev) (s : ByteArray) (J Jx : List Ev → World → Prop)
    (hY : ∀ pre x W, J pre W → pre.length < (xs.filter (isOf s)).length → YieldAt F (n - 1) Try.prog l #[vv x] W fun e W' =>
      (e = .returned (.bool true) ∧ J (pre ++ [x]) W' ∧ Kp X n₀ W W') ∨ (e = .returned (.bool false) ∧ Jx (pre ++ [x]) W'))
    (hA : ∀ pre W o, J pre W → J pre (W.alloc o))
    (W : World) (hsz : n₀ ≤ W.heap.size) (hBl : W.cell? ⟨Bl, 0, none⟩ = some (.slice a len cap)) (hBs : W.cell? ⟨Bs, 0, none⟩ = some (.string s)) (hBn : Bs < n₀) (hBx : X Bs = false) (hL : IsE W a len cap xs) (hLn : ∀ b off, a = some ⟨b, off, none⟩ → 0 < len → b < n₀ ∧ X b = false) (h0 : J [] W) :
    CallsIn F n Try.prog 42 #[.func (.yield l) #[] #[], .pointer (some ⟨Bl, 0, none⟩), .pointer (some ⟨Bs, 0, none⟩)] W fun e W' => (∃ v, e = .returned v) ∧
      ((∃ ys, ys = xs.filter (isOf s) ∧ J ys W') ∨ (∃ pre, pre <+: xs.filter (isOf s) ∧ Jx pre W')) := by
  have hcap := hL.2.1
  have hcm : cap ≤ 9223372036854775807 := hL.2.2.1
  have HLN := hide hL.1
  have HY := hide hY
  have HA := hide hA
  have HN := hide hLn
  clear hY hA hLn
  refine callsIn_of_wp Try.func42 rfl h42 ?_ hro
  simp only [Try.ntmps42, List.size_toArray, List.length_cons, List.length_nil, Nat.reduceAdd, Nat.reduceSub, Array.replicate_succ, Array.replicate_zero, List.push_toArray, List.append_toArray, List.nil_append, List.cons_append]
  gi_wp2
  gi_loopw [8] (fun i wr => ∃ k : Nat, k ≤ len ∧ i = .int .i64 k ∧ Hid (J ((xs.take k).filter (isOf s)) wr) ∧ Hid (IsE wr a len cap xs) ∧ wr.cell? ⟨Bs, 0, none⟩ = some (.string s) ∧ Hid (n₀ ≤ wr.heap.size)) (fun i _ => len - (intOf i).toNat)
  case atStart => exact ⟨0, Nat.zero_le _, rfl, hide (by simpa using h0), hide hL, hBs, hide hsz⟩
  case round =>
    obtain ⟨k, hk, rfl, hJ, hE, hS, hZ⟩ := hrel
    clear hBl hBs hL h0 hsz
    by_cases hlt : k < len
    · obtain ⟨bs, off, rfl, hbs, z0, z1, z2, z3, z4⟩ := hE.out.2.2.2.2 k hlt
      have HTP := hide (take_filter_pos (isOf s) xs k Ev0 (by rw [HLN.out]; exact hlt))
      have HTN := hide (take_filter_neg (isOf s) xs k Ev0 (by rw [HLN.out]; exact hlt))
      have HSP := hide (filter_split (isOf s) xs (k + 1))
      generalize hx : xs.getD k Ev0 = x at *
      clear hx
      have hSA := (World.grownBy_alloc wr (.cells #[.string x.st, .int .i64 x.num, .int .i64 x.glob, .string x.ma, .string x.dt] 41) none).cell hS (by simp)
      have HEA : Hid (∀ o, IsE (wr.alloc o) (some ⟨bs, off, none⟩) len cap xs) := hide (fun o => hE.out.kp HN.out (Kp.alloc hZ.out o))
      by_cases heq : x.st.toList = s.toList
      · have HT : Hid (isOf s x = true) := hide (decide_eq_true heq)
        obtain ⟨fn, tmps, assign, body, hy, hR⟩ := HY.out ((xs.take k).filter (isOf s)) x (wr.alloc (.cells #[.string x.st, .int .i64 x.num, .int .i64 x.glob, .string x.ma, .string x.dt] 41)) (HA.out _ _ _ hJ.out) (by
          rw [HSP.out, HTP.out HT.out]; simp)
        gi_wp2
        refine hR.mono ?_
        rintro e W3 (⟨rfl, hJ3, hk3⟩ | ⟨rfl, hJx3⟩)
        · have HS3 := (hk3.cell hBn hBx 0).trans hSA
          have HE3 : Hid (IsE W3 (some ⟨bs, off, none⟩) len cap xs) := hide ((HEA.out _).kp HN.out hk3)
          have HJ3 := hide hJ3
          have HZ3 : Hid (n₀ ≤ W3.heap.size) := hide (by have := hZ.out; have := hk3.size; simp at this; omega)
          clear hJ3 hk3 hR hy
          gi_wp2
          go_roundw
          case rel => exact ⟨k + 1, by omega, by simp, hide (by rw [HTP.out HT.out]; exact HJ3.out), HE3, HS3, HZ3⟩
          case measure => simp [intOf]; omega
        · gi_wp2
          refine bodyPost_ret (results_none rfl _ _ _) rfl ?_
          exact ⟨⟨_, rfl⟩, .inr ⟨(xs.take k).filter (isOf s) ++ [x], ⟨(xs.drop (k + 1)).filter (isOf s), by rw [HSP.out, HTP.out HT.out]⟩, hJx3⟩⟩
      · have HT : Hid (isOf s x = false) := hide (decide_eq_false heq)
        gi_wp2
        refine ⟨fun _ h => (by cases h), ?_⟩
        gi_wp2
        go_roundw
        case rel => exact ⟨k + 1, by omega, by simp, hide (by rw [HTN.out HT.out]; exact HA.out _ _ _ hJ.out), HEA.out _, hSA, hide (by have := hZ.out; simp; omega)⟩
        case measure => simp [intOf]; omega
    · obtain rfl : k = len := by omega
      gi_wp2
      go_end0
      exact ⟨⟨_, rfl⟩, .inl ⟨_, by rw [← HLN.out, List.take_length] , hJ.out⟩⟩
/-- of's answer yields the stream's events -/
theorem of_stops (F : Fence) (n : Nat) (h42 : F.fn 42) (hro : F.round = none) (hn : 1 ≤ n) (Bl Bs n₀ : Nat) (X : Nat → Bool) (a : Option Addr) (len cap : Nat) (xs : List Ev) (s : ByteArray) (w : World) (hBl : Bl < w.heap.size) (hn₀ : n₀ ≤ w.heap.size)
    (hcl : w.cell? ⟨Bl, 0, none⟩ = some (.slice a len cap)) (hcs : w.cell? ⟨Bs, 0, none⟩ = some (.string s)) (hBn : Bs < n₀) (hBx : X Bs = false) (hL : IsE w a len cap xs) (hLn : ∀ b off, a = some ⟨b, off, none⟩ → 0 < len → b < n₀ ∧ X b = false) :
    SeqStopsK F n Try.prog 42 #[.pointer (some ⟨Bl, 0, none⟩), .pointer (some ⟨Bs, 0, none⟩)] (fun x : Ev => #[vv x]) (Kp X n₀) (fun ys => ys = xs.filter (isOf s)) (fun pre => pre <+: xs.filter (isOf s)) (xs.filter (isOf s)).length w := fun l J Jx W hW hJ _ hY h0 =>
  of1_in F n h42 hro hn l Bl Bs n₀ X a len cap xs s J Jx hY (fun pre W o h => hJ _ _ _ none h (World.grownBy_alloc W o none) (fun r e => by cases e)) W (Nat.le_trans hn₀ hW.size) ((hW.cell (p := ⟨Bl, 0, none⟩) hBl).trans hcl) ((hW.cell (p := ⟨Bs, 0, none⟩) (Nat.lt_of_lt_of_le hBn hn₀)).trans hcs) hBn hBx (hL.below' hW) hLn h0
end Go.Proofs.Ytggbaanoagbmdaa
