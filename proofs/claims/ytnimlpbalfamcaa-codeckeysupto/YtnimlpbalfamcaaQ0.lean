/- writers that leave all but their own row as it was -/
import Derived.Test.YtnimlpbalfamcaaG
import Derived.Deep.AppendLies
namespace Go.Proofs.Ytnimlpbalfamcaa
open Go.RowKit Cod
/-- from v to v' all blocks but v's own are as they were -/
def Keep (v : Value) (w : World) (v' : Value) (w' : World) : Prop := w.grownBy w' v.ownBlock ∧ ∀ k, v'.ownBlock = some k → v.ownBlock = some k ∨ w.heap.size ≤ k
theorem Keep.refl (v : Value) (w : World) : Keep v w v w := ⟨World.grownBy.refl _ _, fun _ h => .inl h⟩
theorem Keep.trans {v x y : Value} {a b c : World} (h : Keep v a x b) (k : Keep x b y c) : Keep v a y c := by
  refine ⟨⟨k.1.os.trans h.1.os, k.1.tape.trans h.1.tape, k.1.output.trans h.1.output, Nat.le_trans h.1.size k.1.size, fun i hi hne => ?_⟩, fun i hi => ?_⟩
  · refine (k.1.block i (Nat.lt_of_lt_of_le hi h.1.size) (fun he => ?_)).trans (h.1.block i hi hne)
    rcases h.2 i he.symm with h2 | h2
    · exact hne h2.symm
    · omega
  · rcases k.2 i hi with h2 | h2
    · exact h.2 i h2
    · exact .inr (Nat.le_trans h.1.size h2)
theorem Keep.alloc (v : Value) (w : World) (o : Obj) : Keep v w v (w.alloc o) := ⟨World.grownBy_alloc _ _ _, fun _ h => .inl h⟩
theorem Keep.block {v v' : Value} {w w' : World} (h : Keep v w v' w') {k : Nat} (hk : k < w.heap.size) (hne : v.ownBlock ≠ some k) : w'.heap[k]? = w.heap[k]? := h.1.block k hk (fun e => hne e.symm)
theorem Keep.below {v v' : Value} {w w' : World} {base : Nat} (h : Keep v w v' w') (hb : ∀ k, v.ownBlock = some k → base ≤ k) (hs : base ≤ w.heap.size) : Below base w w' :=
  ⟨h.1.os, h.1.tape, h.1.output, h.1.size, fun k hk => h.block (by omega) (fun e => by have := hb k e; omega)⟩
/-- append(own, b...), all else as it was -/
theorem wpList_clone_at {w : World} {ops : Array Oper} {rest : List Oper} {o : Oper} {a : Act} {Q : Exit → Act → World → Prop} (hgd : o.guard = none) (s x : Operand)
    (ho : o.op = .call { callee := .builtin .append, args := #[s, x], argTypes := #[22, 22] }) (base : Nat) (v : Value) (n : Nat) (xs : List Value) (hs : a.eval s = v) (hown : w.ownsRow base 5 1 v n xs)
    (src : Option Addr) (len cap : Nat) (l : List Nat) (hx : a.eval x = .slice src len cap) (hB : IsB w src len cap l) (hb : n + len ≤ 140737488355328) (hbase : base ≤ w.heap.size)
    (h : ∀ v' w', w'.ownsRow base 5 1 v' (n + len) (xs ++ bv l) → Keep v w v' w' → wpList Try.prog ops Q rest (a.put o.dst v') w') : wpList Try.prog ops Q (o :: rest) a w := by
  obtain ⟨i0, hi, hz0, hz1, hz2⟩ := info_parts Try.info5
  obtain ⟨h1, h2, h3, h4, h5⟩ := id hB
  have key : ∀ ad : Addr, src = some ad → (∀ j u, (bv l)[j]? = some u → w.cell? (ad.add j) = some u) → wpList Try.prog ops Q (o :: rest) a w := by
    intro ad had hsrc
    refine wpList_plain hgd fun _ hK => ?_
    obtain ⟨v', w', hr, h2, h3, _, h5⟩ := run_append_own_at (P := Try.prog) w base 22 o.type 5 i0 (.int .u8 0) 1 1 Try.underlying22 hi hz0 hz1 hz2 rfl (by decide) v n xs hown ad len cap (bv l) (by rw [bv_length, h1]; omega) hsrc (bv_one l) (by unfold maxLen; omega) (by omega) hbase
    unfold Oper.wp execOp
    simp only [ho, resolve, invoke, builtin, Sem.run_bind, Sem.run_pure, Result.andThen_ok, List.map_toArray, List.map_cons, List.map_nil, hs, hx, had, hr]
    refine hK _ _ (h v' w' h2 ⟨h3, fun k hk => ?_⟩)
    rcases h5 with h5 | h5
    · exact .inl (by rw [← h5]; exact hk)
    · right
      rw [h5] at hk
      cases hk
      exact Nat.le_refl _
  rcases h5 with ⟨h5, h6⟩ | ⟨b, off, rfl, hlt, hc⟩
  · subst h5
    obtain rfl : l = [] := List.length_eq_zero_iff.1 h1
    cases src with
    | none =>
      obtain rfl := h6 rfl
      refine wpList_append_own_none hgd s x 22 ho base 5 i0 1 Try.underlying22 hi v n xs hs hown hx ?_
      exact h v w (by simpa [bv] using hown) (Keep.refl _ _)
    | some ad => exact key ad rfl (by simp [bv])
  · refine key _ rfl ?_
    intro j u hj
    have hjl : j < l.length := by
      rw [← bv_length]
      exact (List.getElem?_eq_some_iff.1 hj).1
    rw [bv_get l j hjl] at hj
    cases hj
    rw [addr_add]
    exact hc j (by omega)
theorem isB_one (W : World) (x : Nat) (hx : x < 256) : IsB (W.alloc (.cells #[.int .u8 (x : Int)] 5)) (some ⟨W.heap.size, 0, none⟩) 1 1 [x] := isB_lit W [x] (by simpa using hx) (by unfold maxLen; simp) (0, 0)
set_option maxHeartbeats 400000 in
theorem putNum_keep (base : Nat) (v : Value) (m n : Nat) (l : List Nat) (w : World) (hown : w.ownsRow base 5 1 v m (bv l)) (hn : n < 18446744073709551616) (hb : base ≤ w.heap.size) (hm : m + 10 ≤ 140737488355328) :
    Calls Try.prog 39 #[v, .int .u64 n] w fun e w' => ∃ v', e = .returned v' ∧ w'.ownsRow base 5 1 v' (m + (num n).length) (bv (l ++ num n)) ∧ Keep v w v' w' := by
  have hml : l.length = m := by have := hown.1; rw [bv_length] at this; omega
  have hln := num_len10 hn
  have HM : Hid (l.length = m) := hide hml
  clear hml
  go_enter Try.func39, Try.ntmps39
  go_wp2_with fail
  go_loopw [0, 1] (fun x i wr => ∃ (k q : Nat) (l' : List Nat), i = .int .u64 k ∧ wr.ownsRow base 5 1 x q (bv l') ∧ Hid (Keep v w x wr) ∧ Hid (l' ++ num k = l ++ num n) ∧ k < 18446744073709551616 ∧ Hid (q + (num k).length = m + (num n).length)) (fun _ i _ => (intOf i).toNat)
  case atStart => exact ⟨n, m, l, rfl, hown, hide (Keep.refl _ _), hide rfl, hn, hide rfl⟩
  case round =>
    obtain ⟨k, q, l', rfl, hown', HK0, HL, hk, HQ⟩ := hrel
    have hbw := HK0.out.1.size
    have hq : q ≤ m + (num n).length := by have := HQ.out; omega
    clear hown
    by_cases hlt : 127 < k
    · have hb1 : decide ((127 : Int) < (k : Int)) = true := by simp; omega
      have hor := or_128 k
      have HK : Hid (num k = (k % 128 + 128) :: num (k / 128)) := hide (num_great (by omega))
      have hq1 : q < m + (num n).length := by have := HK.out; rw [this] at HQ; have := HQ.out; simp at this; omega
      have hx256 : k % 128 + 128 < 256 := by omega
      generalize hX : k % 128 + 128 = x at *
      clear hX
      go_wp2_with (at_builtin; refine wpList_clone_at rfl _ _ rfl base _ q (bv l') rfl (hown'.alloc _) _ 1 1 [x] rfl (isB_one wr x hx256) ?c4 ?c5 ?_)
      case c4 => omega
      case c5 => simp; omega
      intro v2 w2 hown2 hk2
      have HK2 := hide ((HK0.out.trans (Keep.alloc _ _ _)).trans hk2)
      rw [← bv_append] at hown2
      clear hk2 hown' HK0
      go_wp2
      go_roundw
      case rel =>
        refine ⟨k / 128, q + 1, l' ++ [x], by go_num, hown2, HK2, hide ?_, by omega, hide ?_⟩
        · rw [← HL.out, HK.out]; simp
        · have := HQ.out; rw [HK.out] at this; simp at this; omega
      case measure => simp [intOf]; omega
    · have hb1 : decide ((127 : Int) < (k : Int)) = false := by simp; omega
      have hk2 : (k : Int) % 256 = (k : Int) := by omega
      have HK : Hid (num k = [k]) := hide (num_small (by omega))
      have hq1 : q < m + (num n).length := by rw [HK.out] at HQ; have := HQ.out; simp at this; omega
      go_wp2_with (at_builtin; refine wpList_clone_at rfl _ _ rfl base _ q (bv l') rfl (hown'.alloc _) _ 1 1 [k] rfl (isB_one wr k (by omega)) ?c4 ?c5 ?_)
      case c4 => omega
      case c5 => simp; omega
      intro v2 w2 hown2 hk2'
      have HK2 := hide ((HK0.out.trans (Keep.alloc _ _ _)).trans hk2')
      rw [← bv_append] at hown2
      clear hk2' hown' HK0
      go_wp2
      go_ret
      refine ⟨_, rfl, ?_, HK2.out⟩
      have e1 := HQ.out
      have e2 := HL.out
      rw [HK.out] at e1 e2
      simp at e1
      rw [← e1, ← e2]
      exact hown2
/-- codec.putText -/
theorem putText_keep (base : Nat) (v : Value) (m : Nat) (l : List Nat) (a : Option Addr) (len cap : Nat) (s : List Nat) (w : World) (hown : w.ownsRow base 5 1 v m (bv l)) (hs : IsB w a len cap s) (hsep : ∀ W, Below base w W → IsB W a len cap s) (hb : base ≤ w.heap.size) (hm : m + len + 10 ≤ 140737488355328) :
    Calls Try.prog 51 #[v, .slice a len cap] w fun e w' => ∃ v', e = .returned v' ∧ w'.ownsRow base 5 1 v' (m + (text s).length) (bv (l ++ text s)) ∧ Keep v w v' w' := by
  have hcl : len ≤ cap := hs.2.1
  have hl : s.length = len := hs.1
  have hln := num_len10 (n := len) (by omega)
  have HT : Hid (text s = num len ++ s) := hide (by rw [text, hl])
  have HL : Hid ((text s).length = (num len).length + len) := hide (by rw [HT.out]; simp [hl])
  have HSEP := hide hsep
  have hv : ∀ k, v.ownBlock = some k → base ≤ k := fun k hk => (hown.lt k hk).1
  clear hl hsep hs
  go_enter Try.func51, Try.ntmps51
  go_wp2_with fail
  refine (putNum_keep base v m len l w hown (by omega) hb (by omega)).mono ?_
  rintro e w2 ⟨v2, rfl, hown2, hk2⟩
  have hs2 := HSEP.out w2 (hk2.below hv hb)
  have hsz := hk2.1.size
  go_wp2_with (at_builtin; refine wpList_clone_at rfl _ _ rfl base v2 (m + (num len).length) (bv (l ++ num len)) rfl hown2 a len cap s rfl hs2 (by omega) (by omega) ?_)
  intro v3 w3 hown3 hk3
  rw [← bv_append] at hown3
  have hown4 : w3.ownsRow base 5 1 v3 (m + (text s).length) (bv (l ++ text s)) := by
    rw [HL.out, HT.out, ← Nat.add_assoc, ← List.append_assoc]; exact hown3
  have hk := hk2.trans hk3
  clear hown2 hown3 hk2 hk3
  go_wp2
  go_ret
  exact ⟨_, rfl, hown4, hk⟩
end Go.Proofs.Ytnimlpbalfamcaa
