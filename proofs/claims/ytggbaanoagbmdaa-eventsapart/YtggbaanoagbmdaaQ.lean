/- places; all events, one behind the other -/
import Derived.Test.YtggbaanoagbmdaaJ
namespace Go.Proofs.Ytggbaanoagbmdaa
open Go.RowKit Go.Shelf
attribute [local go_sem] Oper.semAt_some
theorem num_any (x : Ev) (w : World) : Calls Try.prog 34 #[.agg #[.string x.st, .int .i64 x.num, .int .i64 x.glob, .string x.ma, .string x.dt]] w fun e w' => e = .returned (.int .i64 x.num) ∧ w' = w.alloc (.cells #[.string x.st, .int .i64 x.num, .int .i64 x.glob, .string x.ma, .string x.dt] 41) := by
  go_enter Try.func34, Try.ntmps34
  go_wp2
  go_ret
  exact ⟨rfl, rfl⟩
theorem glob_any (x : Ev) (w : World) : Calls Try.prog 37 #[.agg #[.string x.st, .int .i64 x.num, .int .i64 x.glob, .string x.ma, .string x.dt]] w fun e w' => e = .returned (.int .i64 x.glob) ∧ w' = w.alloc (.cells #[.string x.st, .int .i64 x.num, .int .i64 x.glob, .string x.ma, .string x.dt] 41) := by
  go_enter Try.func37, Try.ntmps37
  go_wp2
  go_ret
  exact ⟨rfl, rfl⟩
theorem values_in (F : Fence) (n : Nat) (h36 : F.fn 36) (hro : F.round = none) (a : Option Addr) (len cap : Nat) (w : World) :
    CallsIn F n Try.prog 36 #[.slice a len cap] w fun e w' => e = .returned (.func (.func 43) #[] #[.pointer (some ⟨w.heap.size, 0, none⟩)]) ∧ w' = w.alloc (.cells #[.slice a len cap] 22) := by
  refine callsIn_of_wp Try.func36 rfl h36 ?_ hro
  simp only [Try.ntmps36, List.size_toArray, List.length_cons, List.length_nil, Nat.reduceAdd, Nat.reduceSub, Array.replicate_succ, Array.replicate_zero, List.push_toArray, List.append_toArray, List.nil_append, List.cons_append]
  gi_wp2
  go_ret
  exact ⟨rfl, rfl⟩
theorem take_snoc {α : Type} (xs : List α) (k : Nat) (d : α) (hk : k < xs.length) : xs.take (k + 1) = xs.take k ++ [xs.getD k d] := by
  rw [List.take_add_one, List.getD_eq_getElem?_getD, List.getElem?_eq_getElem hk]
  rfl
set_option maxRecDepth 40000 in
set_option maxHeartbeats 2000000 in
theorem values1_in (F : Fence) (n : Nat) (h43 : F.fn 43) (hro : F.round = none) (hn : 1 ≤ n) (l Bl n₀ : Nat) (X : Nat → Bool) (a : Option Addr) (len cap : Nat) (xs : List Ev) (J Jx : List Ev → World → Prop)
    (hY : ∀ pre x W, J pre W → pre.length < xs.length → YieldAt F (n - 1) Try.prog l #[vv x] W fun e W' =>
      (e = .returned (.bool true) ∧ J (pre ++ [x]) W' ∧ Kp X n₀ W W') ∨ (e = .returned (.bool false) ∧ Jx (pre ++ [x]) W'))
    (hA : ∀ pre W o, J pre W → J pre (W.alloc o))
    (W : World) (hsz : n₀ ≤ W.heap.size) (hBl : W.cell? ⟨Bl, 0, none⟩ = some (.slice a len cap)) (hL : IsE W a len cap xs) (hLn : ∀ b off, a = some ⟨b, off, none⟩ → 0 < len → b < n₀ ∧ X b = false) (h0 : J [] W) :
    CallsIn F n Try.prog 43 #[.func (.yield l) #[] #[], .pointer (some ⟨Bl, 0, none⟩)] W fun e W' => (∃ v, e = .returned v) ∧
      ((∃ ys, ys = xs ∧ J ys W') ∨ (∃ pre, pre <+: xs ∧ Jx pre W')) := by
  have hcap := hL.2.1
  have hcm : cap ≤ 9223372036854775807 := hL.2.2.1
  have HLN := hide hL.1
  have HY := hide hY
  have HA := hide hA
  have HN := hide hLn
  clear hY hA hLn
  refine callsIn_of_wp Try.func43 rfl h43 ?_ hro
  simp only [Try.ntmps43, List.size_toArray, List.length_cons, List.length_nil, Nat.reduceAdd, Nat.reduceSub, Array.replicate_succ, Array.replicate_zero, List.push_toArray, List.append_toArray, List.nil_append, List.cons_append]
  gi_wp2
  gi_loopw [7] (fun i wr => ∃ k : Nat, k ≤ len ∧ i = .int .i64 k ∧ Hid (J (xs.take k) wr) ∧ Hid (IsE wr a len cap xs) ∧ Hid (n₀ ≤ wr.heap.size)) (fun i _ => len - (intOf i).toNat)
  case atStart => exact ⟨0, Nat.zero_le _, rfl, hide (by simpa using h0), hide hL, hide hsz⟩
  case round =>
    obtain ⟨k, hk, rfl, hJ, hE, hZ⟩ := hrel
    clear hBl hL h0 hsz
    by_cases hlt : k < len
    · obtain ⟨bs, off, rfl, hbs, z0, z1, z2, z3, z4⟩ := hE.out.2.2.2.2 k hlt
      have HTP := hide (take_snoc xs k Ev0 (by rw [HLN.out]; exact hlt))
      have HLK : Hid ((xs.take k).length < xs.length) := hide (by rw [List.length_take, HLN.out]; omega)
      have HPX : Hid (xs.take (k + 1) <+: xs) := hide (List.take_prefix _ _)
      generalize hx : xs.getD k Ev0 = x at *
      clear hx
      have HEA : Hid (∀ o, IsE (wr.alloc o) (some ⟨bs, off, none⟩) len cap xs) := hide (fun o => hE.out.kp HN.out (Kp.alloc hZ.out o))
      obtain ⟨fn, tmps, assign, body, hy, hR⟩ := HY.out (xs.take k) x (wr.alloc (.cells #[.string x.st, .int .i64 x.num, .int .i64 x.glob, .string x.ma, .string x.dt] 41)) (HA.out _ _ _ hJ.out) HLK.out
      gi_wp2
      refine hR.mono ?_
      rintro e W3 (⟨rfl, hJ3, hk3⟩ | ⟨rfl, hJx3⟩)
      · have HE3 : Hid (IsE W3 (some ⟨bs, off, none⟩) len cap xs) := hide ((HEA.out _).kp HN.out hk3)
        have HJ3 := hide hJ3
        have HZ3 : Hid (n₀ ≤ W3.heap.size) := hide (by have := hZ.out; have := hk3.size; simp at this; omega)
        clear hJ3 hk3 hR hy
        gi_wp2
        go_roundw
        case rel => exact ⟨k + 1, by omega, by simp, hide (by rw [HTP.out]; exact HJ3.out), HE3, HZ3⟩
        case measure => simp [intOf]; omega
      · gi_wp2
        refine bodyPost_ret (results_none rfl _ _ _) rfl ?_
        exact ⟨⟨_, rfl⟩, .inr ⟨xs.take k ++ [x], by rw [← HTP.out]; exact HPX.out, hJx3⟩⟩
    · obtain rfl : k = len := by omega
      gi_wp2
      go_end0
      exact ⟨⟨_, rfl⟩, .inl ⟨_, by rw [← HLN.out, List.take_length], hJ.out⟩⟩
theorem values_stops (F : Fence) (n : Nat) (h43 : F.fn 43) (hro : F.round = none) (hn : 1 ≤ n) (Bl n₀ : Nat) (X : Nat → Bool) (a : Option Addr) (len cap : Nat) (xs : List Ev) (w : World) (hBl : Bl < w.heap.size) (hn₀ : n₀ ≤ w.heap.size)
    (hcl : w.cell? ⟨Bl, 0, none⟩ = some (.slice a len cap)) (hL : IsE w a len cap xs) (hLn : ∀ b off, a = some ⟨b, off, none⟩ → 0 < len → b < n₀ ∧ X b = false) :
    SeqStopsK F n Try.prog 43 #[.pointer (some ⟨Bl, 0, none⟩)] (fun x : Ev => #[vv x]) (Kp X n₀) (fun ys => ys = xs) (fun pre => pre <+: xs) xs.length w := fun l J Jx W hW hJ _ hY h0 =>
  values1_in F n h43 hro hn l Bl n₀ X a len cap xs J Jx hY (fun pre W o h => hJ _ _ _ none h (World.grownBy_alloc W o none) (fun r e => by cases e)) W (Nat.le_trans hn₀ hW.size) ((hW.cell (p := ⟨Bl, 0, none⟩) hBl).trans hcl) (hL.below' hW) hLn h0
end Go.Proofs.Ytggbaanoagbmdaa
