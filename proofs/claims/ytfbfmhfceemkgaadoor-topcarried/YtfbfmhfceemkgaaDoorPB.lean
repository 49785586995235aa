/- the maps: Undo, Steps -/
import Derived.Test.YtfbfmhfceemkgaaDoorPA
namespace Go.Proofs.YtfbfmhfceemkgaaDoor.Pl
open Go.RowKit Go.Maps
set_option linter.unusedVariables false
theorem law23 : Keyed Tryd.prog 28 := int_keyed Tryd.underlying28
theorem law22 : Keyed Tryd.prog 25 := int_keyed Tryd.underlying25
theorem zero23 (w : World) : (zeroValue 28).run Tryd.prog w = .ok (.int .u8 0) w := by kernel_rfl
theorem zero26 (w : World) : (zeroValue 48).run Tryd.prog w = .ok (.slice none 0 0) w := by kernel_rfl
theorem wf8 {n : Int} (h : u8B n) : (Lit.int .u8 n).wf = true := by
  simpa [Lit.wf, IntKind.min, IntKind.max, IntKind.bits, IntKind.signed, u8B] using h
/-- an entry of a map that is written out: Op.insert does what m[k] = v does -/
theorem wpList_entry {H : Type} (w : World) {ops : Array Oper} {rest : List Oper} {o : Oper} {a : Act} {Q : Exit → Act → World → Prop} (hg : o.guard = none) (m x v : Operand) (t : TypeId) (hop : o.op = Op.insert t m x v)
    (k e : TypeId) (K : Keyed Tryd.prog k) (ht : Tryd.prog.underlying t = some (.map k e)) (R : Value → Option (DataW H × List MemPlace)) (b n : Nat) (D : DataW H) (hown : w.ownsMap Tryd.prog k R b n D) (hn : n < maxLen)
    (hm : a.eval m = .map (some b)) (key val : Value) (kl : Lit) (hx : a.eval x = key) (hv : a.eval v = val) (hkey : keyOf Tryd.prog k key = some kl) (d : DataW H) (ps : List MemPlace) (hval : R val = some (d, ps))
    (h : ∀ w', Hid (w'.ownsMap Tryd.prog k R b (n + 1) (D.put kl d) ∧ w.grownBy w' (some b)) → wpList Tryd.prog ops Q rest (a.put o.dst undef) w') : wpList Tryd.prog ops Q (o :: rest) a w := by
  obtain ⟨w', hrun, h1, h2⟩ := hown.update K ht hn hkey hval
  refine wpList_plain hg fun K' hK' => ?_
  simp only [Oper.wp]
  simp [execOp, hop, hm, hx, hv, hrun, Result.andThen]
  exact hK' _ _ (h w' (hide ⟨h1, h2⟩))
abbrev k8 (n : Int) : Lit := .int .u8 n
abbrev d8 (n : Int) : DataW Unit := .lit (.int .u8 n)
/-- what undoes each step, as the map has it -/
def UD : DataW Unit := ((((DataW.map []).put (k8 1) (d8 6)).put (k8 2) (d8 7)).put (k8 3) (d8 8)).put (k8 4) (d8 9)
theorem k8_ne {a b : Int} (h : a ≠ b) : k8 a ≠ k8 b := by intro e; cases e; exact h rfl
theorem ud_isMap : IsMap UD := ⟨_, rfl⟩
theorem ud_at (s : Int) (hs : u8B s) : UD.atKey (k8 s) (d8 0) = d8 (unV s) ∧ Maps.has UD (k8 s) = unB s := by
  by_cases h1 : s = 1
  · subst h1; exact ⟨by rfl, by rfl⟩
  by_cases h2 : s = 2
  · subst h2; exact ⟨by rfl, by rfl⟩
  by_cases h3 : s = 3
  · subst h3; exact ⟨by rfl, by rfl⟩
  by_cases h4 : s = 4
  · subst h4; exact ⟨by rfl, by rfl⟩
  unfold UD
  rw [atKey_put_other (k8_ne h4), atKey_put_other (k8_ne h3), atKey_put_other (k8_ne h2), atKey_put_other (k8_ne h1), has_put_other (k8_ne h4), has_put_other (k8_ne h3), has_put_other (k8_ne h2), has_put_other (k8_ne h1)]
  refine ⟨?_, ?_⟩
  · unfold unV; rw [if_neg h1, if_neg h2, if_neg h3, if_neg h4]; rfl
  · unfold unB; rw [decide_eq_false (by simp [h1, h2, h3, h4])]; rfl
theorem pe8 (n : Int) (h : u8B n) : plainElem (H := Unit) Tryd.prog 28 (.int .u8 n) = some (d8 n, []) := plainElem_int Tryd.underlying28 (wf8 h)
theorem ky8 (n : Int) (h : u8B n) : keyOf Tryd.prog 28 (.int .u8 n) = some (k8 n) := keyOf_int_mk Tryd.underlying28 (wf8 h)
theorem ky22 (n : Int) (h : u8B n) : keyOf Tryd.prog 25 (.int .u8 n) = some (k8 n) := keyOf_int_mk Tryd.underlying25 (wf8 h)
theorem grow_below {n : Nat} {w0 w w' : World} {b : Nat} (h : Below n w0 w) (hg : w.grownBy w' (some b)) (hn : n ≤ b) (hs : n ≤ w.heap.size) : Below n w0 w' :=
  h.grown hg hs (fun k hk => by cases hk; exact hn)
set_option maxHeartbeats 1000000 in
theorem un_any (s : Int) (hs : u8B s) (w : World) : Calls Tryd.prog 15 #[.int .u8 s] w fun e w' => e = .returned (.tuple #[.int .u8 (unV s), .bool (unB s)]) ∧ Below w.heap.size w w' := by
  have HU := hide (ud_at s hs)
  have HM0 : Hid ((w.alloc (.map #[] 0)).ownsMap Tryd.prog 28 (plainElem (H := Unit) Tryd.prog 28) w.heap.size 0 (.map [])) := hide (World.ownsMap_made w Tryd.prog 28 _)
  have HB0 : Hid (Below w.heap.size w (w.alloc (.map #[] 0))) := hide ((Below.refl _ w).alloc (Nat.le_refl _) _)
  have HKS := hide (ky8 s hs)
  have hmm := @run_makeMap Tryd.prog
  clear hs
  go_enter Tryd.func15, Tryd.ntmps15
  go_wp2_with (refine wpList_entry _ rfl _ _ _ 66 rfl 28 28 law23 Tryd.underlying66 _ w.heap.size 0 _ HM0.out (by decide) rfl _ _ _ rfl rfl (ky8 1 (by unfold u8B; omega)) _ _ (pe8 6 (by unfold u8B; omega)) ?_)
  intro w1 H1
  go_wp2_with (refine wpList_entry _ rfl _ _ _ 66 rfl 28 28 law23 Tryd.underlying66 _ w.heap.size 1 _ H1.out.1 (by decide) rfl _ _ _ rfl rfl (ky8 2 (by unfold u8B; omega)) _ _ (pe8 7 (by unfold u8B; omega)) ?_)
  intro w2 H2
  go_wp2_with (refine wpList_entry _ rfl _ _ _ 66 rfl 28 28 law23 Tryd.underlying66 _ w.heap.size 2 _ H2.out.1 (by decide) rfl _ _ _ rfl rfl (ky8 3 (by unfold u8B; omega)) _ _ (pe8 8 (by unfold u8B; omega)) ?_)
  intro w3 H3
  go_wp2_with (refine wpList_entry _ rfl _ _ _ 66 rfl 28 28 law23 Tryd.underlying66 _ w.heap.size 3 _ H3.out.1 (by decide) rfl _ _ _ rfl rfl (ky8 4 (by unfold u8B; omega)) _ _ (pe8 9 (by unfold u8B; omega)) ?_)
  intro w4 H4
  have HB4 : Hid (Below w.heap.size w w4) := hide (by
    have b1 := grow_below HB0.out H1.out.2 (Nat.le_refl _) HB0.out.size
    have b2 := grow_below b1 H2.out.2 (Nat.le_refl _) b1.size
    have b3 := grow_below b2 H3.out.2 (Nat.le_refl _) b2.size
    exact grow_below b3 H4.out.2 (Nat.le_refl _) b3.size)
  have HD : Hid (w4.ownsMap Tryd.prog 28 (plainElem (H := Unit) Tryd.prog 28) w.heap.size 4 UD) := hide H4.out.1
  clear HM0 HB0 H1 H2 H3 H4
  go_wp2_with (at_lookup; refine wpList_lookup_own_ok_int _ rfl _ _ 66 rfl 28 28 .u8 law23 Tryd.underlying66 Tryd.underlying28 (zero23 _) w.heap.size 4 _ rfl HD.out _ _ rfl HKS.out ?_)
  intro c hc _
  have HC : Hid (c = unV s) := hide (by
    rw [HU.out.1] at hc
    cases hc
    rfl)
  clear hc
  have HH := hide HU.out.2
  generalize Maps.has UD (k8 s) = hb at *
  go_wp2
  go_ret2
  exact ⟨ret_und HC.out HH.out, HB4.out⟩
end Go.Proofs.YtfbfmhfceemkgaaDoor.Pl
