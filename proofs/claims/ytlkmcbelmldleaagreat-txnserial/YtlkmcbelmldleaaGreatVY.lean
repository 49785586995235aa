/- slices.Clone of versions; a row of versions that grows -/
import Derived.Test.YtlkmcbelmldleaaGreatVX
namespace Go.Proofs.YtlkmcbelmldleaaGreat
open Go.RowKit Go.Shelf Go.Lib Go.Sort
set_option maxRecDepth 40000
theorem wpList_vers {w : World} {ops : Array Oper} {rest : List Oper} {o : Oper} {a : Act} {Q : Exit → Act → World → Prop} (hgd : o.guard = none) (s x : Operand)
    (ho : o.op = .call { callee := .builtin .append, args := #[s, x], argTypes := #[28, 28] }) (base : Nat) (v : Value) (n : Nat) (xs : List Vr) (hs : a.eval s = v) (hown : w.ownsRow base 66 4 v n (xs.flatMap vrc))
    (ad : Addr) (len cap : Nat) (l : List Vr) (hx : a.eval x = .slice (some ad) len cap) (hB : IsV w (some ad) len cap l) (hb : (n + len) * 48 ≤ 140737488355328) (hbase : base ≤ w.heap.size)
    (h : ∀ v' w', Hid (w'.ownsRow base 66 4 v' (n + len) ((xs ++ l).flatMap vrc) ∧ Below base w w') → wpList Tryz.prog ops Q rest (a.put o.dst v') w') : wpList Tryz.prog ops Q (o :: rest) a w := by
  obtain ⟨i0, hi, hz0, hz1, hz2⟩ := info_parts info51
  by_cases h0 : len = 0
  · subst h0
    obtain rfl : l = [] := List.length_eq_zero_iff.1 hB.1
    refine wpList_append_own w hgd s x 28 ho base 66 i0 _ 4 48 Tryz.underlying28 hi hz0 hz1 hz2 rfl (by decide) v n _ hs hown ad 0 cap [] hx rfl (by simp) (by simp) (by unfold maxLen; omega) (by omega) hbase ?_
    intro v' w' ho' hg _
    exact h v' w' (hide ⟨by simpa using ho', (Below.refl _ _).grown hg hbase (fun k hk => (hown.lt k hk).1)⟩)
  · obtain ⟨b, off, e, _⟩ := hB.2.2.2 0 (by omega)
    cases e
    refine wpList_append_own w hgd s x 28 ho base 66 i0 _ 4 48 Tryz.underlying28 hi hz0 hz1 hz2 rfl (by decide) v n _ hs hown _ len cap (l.flatMap vrc) hx (by rw [flat_len, hB.1]) hB.news (vrc_one l) (by unfold maxLen; omega) hb hbase ?_
    intro v' w' ho' hg _
    exact h v' w' (hide ⟨by rw [List.flatMap_append]; exact ho', (Below.refl _ _).grown hg hbase (fun k hk => (hown.lt k hk).1)⟩)
theorem isV_one {w : World} {b : Nat} (x : Vr) (h : w.heap[b]? = some (.cells #[.string x.key, .int .u64 (x.at_ : Nat), .string x.val, .bool x.gone] 66 (0, 0))) : IsV w (some ⟨b, 0, none⟩) 1 1 [x] := by
  refine ⟨rfl, Nat.le_refl _, by decide, fun i hi => ?_⟩
  obtain rfl : i = 0 := by omega
  exact ⟨b, 0, rfl, heap_lt h, cell_blk h rfl, cell_blk h rfl, cell_blk h rfl, cell_blk h rfl⟩
set_option maxHeartbeats 1000000 in
theorem clone_any (a : Option Addr) (len cap : Nat) (l : List Vr) (w : World) (h : IsV w a len cap l) (hlen : len ≤ 4096) : Calls Tryz.prog 53 #[.slice a len cap] w fun e w' => ∃ v, e = .returned v ∧ w'.ownsRow w.heap.size 66 4 v len (l.flatMap vrc) ∧ Below w.heap.size w w' := by
  have HV := hide h
  have HBIG : Hid ((0 + len) * 48 ≤ 140737488355328) := hide (by omega)
  have HO0 : Hid ((w.alloc (.cells #[] 66)).ownsRow w.heap.size 66 4 (.slice (some ⟨w.heap.size, 0, none⟩) 0 0) 0 (([] : List Vr).flatMap vrc)) := hide (World.ownsRow_made w #[] 0 (Nat.le_refl _) (by decide) rfl)
  have HB0 : Hid (Below w.heap.size w (w.alloc (.cells #[] 66))) := hide ((Below.refl _ w).alloc (Nat.le_refl _) _)
  have HI0 := hide (HV.out.below HB0.out)
  clear h hlen
  have q22 : ∀ (w : World) (a : Option Addr) (n c n' c' : Nat), (binOp .eql 28 (.slice a n c) (.slice none n' c')).run Tryz.prog w = .ok (.bool a.isNone) w := fun w a n c n' c' => Lib.run_eql_slice_nil w _ _ a n c n' c' Tryz.underlying28
  cases a with
  | none =>
    obtain rfl : len = 0 := by
      by_cases h : 0 < len
      · obtain ⟨_, _, e, _⟩ := HV.out.2.2.2 0 h; cases e
      · omega
    obtain rfl : l = [] := List.length_eq_zero_iff.1 HV.out.1
    go_enter Tryz.func53, Tryz.ntmps53
    go_wp2
    go_ret
    exact ⟨_, rfl, World.ownsRow_nil _ _ _ _, Below.refl _ _⟩
  | some ad =>
    go_enter Tryz.func53, Tryz.ntmps53
    go_wp2_with (at_builtin; refine wpList_vers rfl _ _ rfl w.heap.size (.slice (some ⟨w.heap.size, 0, none⟩) 0 0) 0 [] rfl HO0.out ad len cap l rfl HI0.out HBIG.out HB0.out.size ?_)
    intro v1 w1 HN
    have hN := HN.out
    have HB1 := hide (HB0.out.trans hN.2)
    have HR1 : Hid (w1.ownsRow w.heap.size 66 4 v1 len (l.flatMap vrc)) := hide (by simpa using hN.1)
    obtain ⟨a9, c9, rfl⟩ := own_form HR1.out
    clear HN hN
    go_wp2
    go_ret
    exact ⟨_, rfl, HR1.out, HB1.out⟩
/-- the version that a write leaves -/
def vOf (t : Nat) (x : Wt) : Vr := ⟨x.key, t, if x.gone = true then ⟨#[]⟩ else x.val, x.gone⟩
end Go.Proofs.YtlkmcbelmldleaaGreat
