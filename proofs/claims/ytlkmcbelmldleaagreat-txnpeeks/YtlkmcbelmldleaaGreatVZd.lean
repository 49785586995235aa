/- the document's Scan -/
import Derived.Test.YtlkmcbelmldleaaGreatVZb
import Derived.Test.YtlkmcbelmldleaaGreatVYe
namespace Go.Proofs.YtlkmcbelmldleaaGreat
open Go.RowKit Go.Shelf
set_option maxRecDepth 40000
theorem wpList_pairs {w : World} {ops : Array Oper} {rest : List Oper} {o : Oper} {a : Act} {Q : Exit → Act → World → Prop} (hgd : o.guard = none) (s x : Operand)
    (ho : o.op = .call { callee := .builtin .append, args := #[s, x], argTypes := #[22, 22] }) (base : Nat) (v : Value) (n : Nat) (xs : List Pr) (hs : a.eval s = v) (hown : w.ownsRow base 62 2 v n (xs.flatMap prc))
    (b : Nat) (p : Pr) (hx : a.eval x = .slice (some ⟨b, 0, none⟩) 1 1) (hB : w.heap[b]? = some (.cells #[.string p.key, .string p.val] 62 (0, 0))) (hb : (n + 1) * 32 ≤ 140737488355328) (hbase : base ≤ w.heap.size)
    (h : ∀ v' w', Hid (w'.ownsRow base 62 2 v' (n + 1) ((xs ++ [p]).flatMap prc) ∧ Below base w w') → wpList Tryz.prog ops Q rest (a.put o.dst v') w') : wpList Tryz.prog ops Q (o :: rest) a w := by
  obtain ⟨i0, hi, hz0, hz1, hz2⟩ := info_parts info54
  refine wpList_append_own w hgd s x 22 ho base 62 i0 _ 2 32 Tryz.underlying22 hi hz0 hz1 hz2 rfl (by decide) v n _ hs hown _ 1 1 (prc p) hx rfl (prc_news p hB) (prc_one p) (by unfold maxLen; omega) hb hbase ?_
  intro v' w' ho' hg _
  exact h v' w' (hide ⟨by rw [List.flatMap_append]; simpa using ho', (Below.refl _ _).grown hg hbase (fun k hk => (hown.lt k hk).1)⟩)
theorem scanF_len (L : List Vr) (fr to : ByteArray) (t : Nat) : ∀ (p : Option (List UInt8)) (l : List Vr), (scanF L fr to t p l).length ≤ l.length
  | _, [] => Nat.le_refl _
  | p, x :: r => by
    have h := scanF_len L fr to t (some x.key.toList) r
    rw [scanF]
    by_cases h1 : p = some x.key.toList
    · rw [if_pos h1]; simp; omega
    · rw [if_neg h1, List.length_append]
      have : (item L fr to t x).toList.length ≤ 1 := by cases item L fr to t x <;> simp
      simp; omega
set_option maxRecDepth 40000 in
set_option maxHeartbeats 8000000 in
theorem rscan_any (a : Option Addr) (len cap low t : Nat) (fr to : ByteArray) (l : List Vr) (w : World) (hL : IsV w a len cap l) : Calls Tryz.prog 105 #[.agg #[.slice a len cap, .int .u64 (low : Nat)], .string fr, .string to, .int .u64 (t : Nat)] w fun e w' =>
    ∃ a' c', e = .returned (.tuple #[.slice a' (scanR low l fr to t).1.length c', .int .i64 (scanR low l fr to t).2]) ∧ IsP w' a' (scanR low l fr to t).1.length c' (scanR low l fr to t).1 ∧ Below w.heap.size w w' := by
  have HB0 : Hid (Below w.heap.size w (w.alloc (.cells #[.slice a len cap, .int .u64 (low : Nat)] 31))) := hide ((Below.refl _ w).alloc (Nat.le_refl _) _)
  have HV0 := hide (hL.below HB0.out)
  have HT0 : Hid (Two (w.alloc (.cells #[.slice a len cap, .int .u64 (low : Nat)] 31)) w.heap.size (.slice a len cap) (.int .u64 (low : Nat))) := hide (heap_alloc_new _ _)
  have HLN := hide hL.1
  have hcm : cap ≤ 9223372036854775807 := hL.2.2.1
  have hcap := hL.2.1
  clear hL
  by_cases hE : askE low l t = 0
  rotate_left
  · unfold scanR
    simp only [if_neg hE]
    have HAS := hide (rasked_any a len cap low t l _ HV0.out)
    generalize askE low l t = R at *
    go_enter Tryz.func105, Tryz.ntmps105
    go_wp2_with fail
    generalize (w.alloc (.cells #[.slice a len cap, .int .u64 (low : Nat)] 31)) = V at *
    refine HAS.out.mono ?_
    rintro e w2 ⟨rfl, hb2⟩
    have HB2 := hide (HB0.out.trans (hb2.mono HB0.out.size))
    have HV2 := hide (HV0.out.below hb2)
    have HT2 : Hid (Two w2 w.heap.size (.slice a len cap) (.int .u64 (low : Nat))) := hide ((hb2.block _ (heap_lt HT0.out)).trans HT0.out)
    clear hb2 HB0 HV0 HT0
    clear HV2 HT2 HAS
    go_wp2
    go_ret2
    exact ⟨none, 0, rfl, ⟨rfl, Nat.le_refl _, by decide, fun i hi => absurd hi (Nat.not_lt_zero _)⟩, HB2.out⟩
  have hg := ask_good hE
  have hlo : ¬ t < low := by
    unfold askE at hE
    rw [if_pos hg] at hE
    intro h
    rw [if_pos h] at hE
    cases hE
  have hl4 : len ≤ 4096 := by
    rw [← HLN.out]
    exact (goodB_iff.1 hg).1
  rw [scanR_good hg hlo]
  have HE0 := hide hE
  have HSL : Hid ((scanF l fr to t none l).length ≤ len) := hide (by rw [← HLN.out]; exact scanF_len _ _ _ _ _ _)
  have HRN : Hid (scanF l fr to t none l = [] ++ scanF l fr to t (prevK l 0) (l.drop 0)) := hide rfl
  generalize hR : scanF l fr to t none l = R at *
  dsimp only
  clear hR hE hg hlo
  go_enter Tryz.func105, Tryz.ntmps105
  go_wp2_with fail
  generalize (w.alloc (.cells #[.slice a len cap, .int .u64 (low : Nat)] 31)) = V at *
  refine (rasked_any a len cap low t l V HV0.out).mono ?_
  rintro e w2 ⟨rfl, hb2⟩
  have HB2 := hide (HB0.out.trans (hb2.mono HB0.out.size))
  have HV2 := hide (HV0.out.below hb2)
  have HT2 : Hid (Two w2 w.heap.size (.slice a len cap) (.int .u64 (low : Nat))) := hide ((hb2.block _ (heap_lt HT0.out)).trans HT0.out)
  clear hb2 HB0 HV0 HT0
  rw [HE0.out]
  clear HE0
  obtain ⟨d0, d1⟩ := cells2_of_blk HT2.out
  go_wp2
  clear d0 d1
  go_loopw [11, 25] (fun v11 v25 wr => ∃ (k m : Nat) (dn : List Pr), k ≤ len ∧ m ≤ k ∧ v25 = .int .i64 (k : Nat) ∧ Hid (Below w2.heap.size w2 wr ∧ wr.ownsRow w2.heap.size 62 2 v11 m (dn.flatMap prc) ∧ dn.length = m ∧ R = dn ++ scanF l fr to t (prevK l k) (l.drop k))) (fun _ v25 _ => len - (intOf v25).toNat)
  case atStart => exact ⟨0, 0, [], Nat.zero_le _, Nat.zero_le _, rfl, hide ⟨Below.refl _ _, World.ownsRow_nil _ _ _ _, rfl, HRN.out⟩⟩
  case round =>
    obtain ⟨k, m, dn, hk, hm, rfl, HI⟩ := hrel
    obtain ⟨av, cv, rfl⟩ := own_form HI.out.2.1
    by_cases hlt : k < len
    rotate_left
    · obtain rfl : k = len := by omega
      have hi2 : ¬ (k : Int) < (k : Int) := by omega
      have HME : Hid (R = dn) := hide (by
        have h := HI.out.2.2.2
        rw [← HLN.out, List.drop_length] at h
        rw [h]
        exact List.append_nil _)
      have HB4 := hide (HB2.out.trans (HI.out.1.mono HB2.out.size))
      have HO4 := hide (own_isP HI.out.2.2.1 HI.out.2.1)
      have HL4 : Hid (m = R.length) := hide (by rw [HME.out]; exact HI.out.2.2.1.symm)
      clear HI
      go_wp2
      go_ret2
      obtain ⟨a9, c9, e9, hI9, _⟩ := HO4.out
      cases e9
      have e1 := HL4.out
      have e2 := HME.out
      subst e2
      subst e1
      exact ⟨_, _, rfl, hI9, HB4.out⟩
    have HVr := hide (HV2.out.below HI.out.1)
    obtain ⟨b, off, rfl, hbs, z0, z1, z2, z3⟩ := HVr.out.2.2.2 k hlt
    have HTr : Hid (Two wr w.heap.size (.slice (some ⟨b, off, none⟩) len cap) (.int .u64 (low : Nat))) := hide ((HI.out.1.block _ (heap_lt HT2.out)).trans HT2.out)
    have HPR : Hid (∀ i, k = i + 1 → wr.cell? ⟨b, off + i * 4, none⟩ = some (.string (l.getD i Vr0).key)) := hide (fun i hi => by
      obtain ⟨b', off', e', _, y0, _⟩ := HVr.out.2.2.2 i (by omega)
      cases e'
      exact y0)
    have HST := hide (scan_step (L := l) (l := l) (fr := fr) (to := to) (t := t) (k := k) (by rw [HLN.out]; exact hlt))
    have HPV : Hid (∀ i, k = i + 1 → prevK l k = some (l.getD i Vr0).key.toList) := hide (fun i hi => by rw [hi]; rfl)
    have HP0 : Hid (k = 0 → prevK l k = none) := hide (fun hi => by rw [hi]; rfl)
    generalize hx : l.getD k Vr0 = x at *
    clear hx
    obtain ⟨x1, x2, x3, x4⟩ := x
    dsimp only at z0 z1 z2 z3
    have HBN : Hid (Below wr.heap.size wr (wr.alloc (.cells #[.string x1, .int .u64 (x2 : Nat), .string x3, .bool x4] 66)).drew) := hide ((Below.refl _ wr).alloc (Nat.le_refl _) _).drew
    have hw1 : IntKind.i64.wrap ((k : Int) + 1) = (k : Int) + 1 := wr64' (by omega) (by omega)
    have hi2 : (k : Int) < (len : Int) := by omega
    have hi4 : (0 : Int) ≤ (k : Int) := by omega
    have HK2 := hide (HI.out.1.trans (HBN.out.mono HI.out.1.size))
    have HOW : Hid ((wr.alloc (.cells #[.string x1, .int .u64 (x2 : Nat), .string x3, .bool x4] 66)).drew.ownsRow w2.heap.size 62 2 (.slice av m cv) m (dn.flatMap prc)) := hide (World.ownsRow.drew (HI.out.2.1.alloc _))
    have hX0 : (wr.alloc (.cells #[.string x1, .int .u64 (x2 : Nat), .string x3, .bool x4] 66)).drew.cell? ⟨wr.heap.size, 0, none⟩ = some (.string x1) := cell_blk (heap_alloc_new wr (.cells #[.string x1, .int .u64 (x2 : Nat), .string x3, .bool x4] 66)) rfl
    have hN0 : (wr.alloc (.cells #[.string x1, .int .u64 (x2 : Nat), .string x3, .bool x4] 66)).drew.cell? ⟨w.heap.size, 0, none⟩ = some (.slice (some ⟨b, off, none⟩) len cap) := (World.cell?_of_block (HBN.out.block _ (heap_lt HTr.out))).trans (cells2_of_blk HTr.out).1
    have hN1 : (wr.alloc (.cells #[.string x1, .int .u64 (x2 : Nat), .string x3, .bool x4] 66)).drew.cell? ⟨w.heap.size, 1, none⟩ = some (.int .u64 (low : Nat)) := (World.cell?_of_block (HBN.out.block _ (heap_lt HTr.out))).trans (cells2_of_blk HTr.out).2
    have HVn := hide (HVr.out.below HBN.out)
    by_cases hk0 : k = 0
    · have HS : Hid ((wr.alloc (.cells #[.string x1, .int .u64 (x2 : Nat), .string x3, .bool x4] 66)).drew.cell? ⟨w.heap.size, 0, none⟩ = some (.slice (some ⟨b, off, none⟩) len cap) ∧ (wr.alloc (.cells #[.string x1, .int .u64 (x2 : Nat), .string x3, .bool x4] 66)).drew.cell? ⟨wr.heap.size, 0, none⟩ = some (.string x1)) := hide ⟨hN0, hX0⟩
      have HNE : Hid (¬ prevK l k = some x1.toList) := hide (by rw [HP0.out hk0]; simp)
      subst hk0
      simp only [Nat.zero_mul, Nat.add_zero] at z0 z1 z2 z3
      have hi9 : (0 : Int) < (len : Int) := by omega
      have HNXT : Hid (R = dn ++ ((item l fr to t ⟨x1, x2, x3, x4⟩).toList ++ scanF l fr to t (prevK l (0 + 1)) (l.drop (0 + 1)))) := hide (by
        have h := HST.out
        rw [if_neg HNE.out] at h
        rw [← h]
        exact HI.out.2.2.2)
      have HS0 : Hid (inSpan fr to x1 = (!Op.bytesLess x1.toList fr.toList && (to.toList.isEmpty || Op.bytesLess x1.toList to.toList))) := hide rfl
      have HX0 := hide hX0
      have HN1 := hide hN1
      clear hN1
      cases hf : Op.bytesLess x1.toList fr.toList
      · by_cases hte : to.toList = []
        · have HSP : Hid (inSpan fr to x1 = true) := hide (by rw [HS0.out, hf, hte]; rfl)
          have hte2 : (to.toList == ([] : List UInt8)) = true := by simpa using hte
          clear hN0 hX0
          go_wp2_with fail
          refine wp_region_held_drew (S := (fun W : World => W.cell? ⟨w.heap.size, 0, none⟩ = some (.slice (some ⟨b, off, none⟩) len cap) ∧ W.cell? ⟨wr.heap.size, 0, none⟩ = some (.string x1))) (by kernel_rfl) ?hSax (fun hHeld => ?_)
          case hSax => exact HS.out
          refine hTake (i := 0) (v := ?v0ax) (some 30) rfl rfl (by kernel_rfl) (by kernel_rfl) (by kernel_rfl) (fun _ _ _ h => h) (by rfl) (by assumption) ?hy0ax ?hn0ax
          case hy0ax => (intro w hSw; (try dsimp only at hSw); go_simp; try with_reducible rfl)
          try simp only [Act.put, List.setIfInBounds_toArray, List.set_cons_zero, List.set_cons_succ]
          refine hTake (i := 1) (v := ?v1ax) (some 31) rfl rfl (by kernel_rfl) (by kernel_rfl) (by kernel_rfl) (fun _ _ _ h => h) (by rfl) (by assumption) ?hy1ax ?hn1ax
          case hy1ax => (intro w hSw; (try dsimp only at hSw); go_simp; try with_reducible rfl)
          try simp only [Act.put, List.setIfInBounds_toArray, List.set_cons_zero, List.set_cons_succ]
          refine hTake (i := 2) (v := ?v2ax) (some 32) rfl rfl (by kernel_rfl) (by kernel_rfl) (by kernel_rfl) (fun _ _ _ h => h) (by rfl) (by assumption) ?hy2ax ?hn2ax
          case hy2ax => (intro w hSw; (try dsimp only at hSw); go_simp; try with_reducible rfl)
          try simp only [Act.put, List.setIfInBounds_toArray, List.set_cons_zero, List.set_cons_succ]
          refine hSkip (i := 3) (some 33) rfl rfl (by kernel_rfl) (by kernel_rfl) (by kernel_rfl) (fun _ _ _ h => h) (by rfl) (by assumption) ?_
          try simp only [Act.put, List.setIfInBounds_toArray, List.set_cons_zero, List.set_cons_succ]
          refine hSkip (i := 4) (some 34) rfl rfl (by kernel_rfl) (by kernel_rfl) (by kernel_rfl) (fun _ _ _ h => h) (by rfl) (by assumption) ?_
          try simp only [Act.put, List.setIfInBounds_toArray, List.set_cons_zero, List.set_cons_succ]
          refine hSkip (i := 5) (some 35) rfl rfl (by kernel_rfl) (by kernel_rfl) (by kernel_rfl) (fun _ _ _ h => h) (by rfl) (by assumption) ?_
          try simp only [Act.put, List.setIfInBounds_toArray, List.set_cons_zero, List.set_cons_succ]
          refine hSkip (i := 6) (some 36) rfl rfl (by kernel_rfl) (by kernel_rfl) (by kernel_rfl) (fun _ _ _ h => h) (by rfl) (by assumption) ?_
          try simp only [Act.put, List.setIfInBounds_toArray, List.set_cons_zero, List.set_cons_succ]
          refine hSkip (i := 7) (some 37) rfl rfl (by kernel_rfl) (by kernel_rfl) (by kernel_rfl) (fun _ _ _ h => h) (by rfl) (by assumption) ?_
          try simp only [Act.put, List.setIfInBounds_toArray, List.set_cons_zero, List.set_cons_succ]
          refine hSkip (i := 8) (some 38) rfl rfl (by kernel_rfl) (by kernel_rfl) (by kernel_rfl) (fun _ _ _ h => h) (by rfl) (by assumption) ?_
          try simp only [Act.put, List.setIfInBounds_toArray, List.set_cons_zero, List.set_cons_succ]
          refine hSkip (i := 9) (some 39) rfl rfl (by kernel_rfl) (by kernel_rfl) (by kernel_rfl) (fun _ _ _ h => h) (by rfl) (by assumption) ?_
          try simp only [Act.put, List.setIfInBounds_toArray, List.set_cons_zero, List.set_cons_succ]
          refine hSkip (i := 10) (some 40) rfl rfl (by kernel_rfl) (by kernel_rfl) (by kernel_rfl) (fun _ _ _ h => h) (by rfl) (by assumption) ?_
          try simp only [Act.put, List.setIfInBounds_toArray, List.set_cons_zero, List.set_cons_succ]
          refine hSkip (i := 11) (some 41) rfl rfl (by kernel_rfl) (by kernel_rfl) (by kernel_rfl) (fun _ _ _ h => h) (by rfl) (by assumption) ?_
          try simp only [Act.put, List.setIfInBounds_toArray, List.set_cons_zero, List.set_cons_succ]
          refine hSkip (i := 12) (some 42) rfl rfl (by kernel_rfl) (by kernel_rfl) (by kernel_rfl) (fun _ _ _ h => h) (by rfl) (by assumption) ?_
          try simp only [Act.put, List.setIfInBounds_toArray, List.set_cons_zero, List.set_cons_succ]
          refine hTake (i := 13) (v := ?v13ax) (some 43) rfl rfl (by kernel_rfl) (by kernel_rfl) (by kernel_rfl) (fun _ _ _ h => h) (by rfl) (by assumption) ?hy13ax ?hn13ax
          case hy13ax => (intro w hSw; (try dsimp only at hSw); go_simp; try with_reducible rfl)
          try simp only [Act.put, List.setIfInBounds_toArray, List.set_cons_zero, List.set_cons_succ]
          refine hTake (i := 14) (v := ?v14ax) (some 44) rfl rfl (by kernel_rfl) (by kernel_rfl) (by kernel_rfl) (fun _ _ _ h => h) (by rfl) (by assumption) ?hy14ax ?hn14ax
          case hy14ax => (intro w hSw; (try dsimp only at hSw); go_simp; try with_reducible rfl)
          try simp only [Act.put, List.setIfInBounds_toArray, List.set_cons_zero, List.set_cons_succ]
          refine hTake (i := 15) (v := ?v15ax) (some 45) rfl rfl (by kernel_rfl) (by kernel_rfl) (by kernel_rfl) (fun _ _ _ h => h) (by rfl) (by assumption) ?hy15ax ?hn15ax
          case hy15ax => (intro w hSw; (try dsimp only at hSw); go_simp; try with_reducible rfl)
          try simp only [Act.put, List.setIfInBounds_toArray, List.set_cons_zero, List.set_cons_succ]
          refine hTake (i := 16) (v := ?v16ax) (some 46) rfl rfl (by kernel_rfl) (by kernel_rfl) (by kernel_rfl) (fun _ _ _ h => h) (by rfl) (by assumption) ?hy16ax ?hn16ax
          case hy16ax => (intro w hSw; (try dsimp only at hSw); go_simp; try with_reducible rfl)
          try simp only [Act.put, List.setIfInBounds_toArray, List.set_cons_zero, List.set_cons_succ]
          refine hTake (i := 17) (v := ?v17ax) (some 47) rfl rfl (by kernel_rfl) (by kernel_rfl) (by kernel_rfl) (fun _ _ _ h => h) (by rfl) (by assumption) ?hy17ax ?hn17ax
          case hy17ax => (intro w hSw; (try dsimp only at hSw); go_simp; try with_reducible rfl)
          try simp only [Act.put, List.setIfInBounds_toArray, List.set_cons_zero, List.set_cons_succ]
          refine hTake (i := 18) (v := ?v18ax) (some 48) rfl rfl (by kernel_rfl) (by kernel_rfl) (by kernel_rfl) (fun _ _ _ h => h) (by rfl) (by assumption) ?hy18ax ?hn18ax
          case hy18ax => (intro w hSw; (try dsimp only at hSw); go_simp; try with_reducible rfl)
          try simp only [Act.put, List.setIfInBounds_toArray, List.set_cons_zero, List.set_cons_succ]
          refine hTake (i := 19) (v := ?v19ax) (some 49) rfl rfl (by kernel_rfl) (by kernel_rfl) (by kernel_rfl) (fun _ _ _ h => h) (by rfl) (by assumption) ?hy19ax ?hn19ax
          case hy19ax => (intro w hSw; (try dsimp only at hSw); go_simp; try with_reducible rfl)
          try simp only [Act.put, List.setIfInBounds_toArray, List.set_cons_zero, List.set_cons_succ]
          refine hTake (i := 20) (v := ?v20ax) (some 50) rfl rfl (by kernel_rfl) (by kernel_rfl) (by kernel_rfl) (fun _ _ _ h => h) (by rfl) (by assumption) ?hy20ax ?hn20ax
          case hy20ax => (intro w hSw; (try dsimp only at hSw); go_simp; try with_reducible rfl)
          try simp only [Act.put, List.setIfInBounds_toArray, List.set_cons_zero, List.set_cons_succ]
          refine hTake (i := 21) (v := ?v21ax) (some 51) rfl rfl (by kernel_rfl) (by kernel_rfl) (by kernel_rfl) (fun _ _ _ h => h) (by rfl) (by assumption) ?hy21ax ?hn21ax
          case hy21ax => (intro w hSw; (try dsimp only at hSw); go_simp; try with_reducible rfl)
          try simp only [Act.put, List.setIfInBounds_toArray, List.set_cons_zero, List.set_cons_succ]
          refine hTake (i := 22) (v := ?v22ax) (some 52) rfl rfl (by kernel_rfl) (by kernel_rfl) (by kernel_rfl) (fun _ _ _ h => h) (by rfl) (by assumption) ?hy22ax ?hn22ax
          case hy22ax => (intro w hSw; (try dsimp only at hSw); go_simp; try with_reducible rfl)
          try simp only [Act.put, List.setIfInBounds_toArray, List.set_cons_zero, List.set_cons_succ]
          refine hTake (i := 23) (v := ?v23ax) (some 53) rfl rfl (by kernel_rfl) (by kernel_rfl) (by kernel_rfl) (fun _ _ _ h => h) (by rfl) (by assumption) ?hy23ax ?hn23ax
          case hy23ax => (intro w hSw; (try dsimp only at hSw); go_simp; try with_reducible rfl)
          try simp only [Act.put, List.setIfInBounds_toArray, List.set_cons_zero, List.set_cons_succ]
          refine hSkip (i := 24) (some 54) rfl rfl (by kernel_rfl) (by kernel_rfl) (by kernel_rfl) (fun _ _ _ h => h) (by rfl) (by assumption) ?_
          try simp only [Act.put, List.setIfInBounds_toArray, List.set_cons_zero, List.set_cons_succ]
          refine hSkip (i := 25) (some 55) rfl rfl (by kernel_rfl) (by kernel_rfl) (by kernel_rfl) (fun _ _ _ h => h) (by rfl) (by assumption) ?_
          try simp only [Act.put, List.setIfInBounds_toArray, List.set_cons_zero, List.set_cons_succ]
          refine hSkip (i := 26) (some 56) rfl rfl (by kernel_rfl) (by kernel_rfl) (by kernel_rfl) (fun _ _ _ h => h) (by rfl) (by assumption) ?_
          try simp only [Act.put, List.setIfInBounds_toArray, List.set_cons_zero, List.set_cons_succ]
          refine hSkip (i := 27) (some 57) rfl rfl (by kernel_rfl) (by kernel_rfl) (by kernel_rfl) (fun _ _ _ h => h) (by rfl) (by assumption) ?_
          try simp only [Act.put, List.setIfInBounds_toArray, List.set_cons_zero, List.set_cons_succ]
          refine hTake (i := 28) (v := ?v28ax) (some 58) rfl rfl (by kernel_rfl) (by kernel_rfl) (by kernel_rfl) (fun _ _ _ h => h) (by rfl) (by assumption) ?hy28ax ?hn28ax
          case hy28ax => (intro w hSw; (try dsimp only at hSw); go_simp; try with_reducible rfl)
          try simp only [Act.put, List.setIfInBounds_toArray, List.set_cons_zero, List.set_cons_succ]
          refine hTake (i := 29) (v := ?v29ax) (some 59) rfl rfl (by kernel_rfl) (by kernel_rfl) (by kernel_rfl) (fun _ _ _ h => h) (by rfl) (by assumption) ?hy29ax ?hn29ax
          case hy29ax => (intro w hSw; (try dsimp only at hSw); go_simp; try with_reducible rfl)
          try simp only [Act.put, List.setIfInBounds_toArray, List.set_cons_zero, List.set_cons_succ]
          refine wpAnyH_done (by kernel_rfl) ?_ _
          have HGA := hide (rseen_any (some ⟨b, off, none⟩) len cap low t x1 l _ HVn.out)
          unfold item at HNXT
          dsimp only at HNXT
          generalize seenR (lastTo (l.filter (sameK x1)) t) = sr at *
          obtain ⟨sv, sb⟩ := sr
          dsimp only at HNXT HGA
          clear HST HPV HP0 HPR
          have hn1 := HN1.out
          go_wp2_with fail
          refine HGA.out.mono ?_
          rintro e w5 ⟨rfl, hb5⟩
          have HK5 := hide (HK2.out.trans (hb5.mono (Nat.le_trans HI.out.1.size HBN.out.size)))
          have HO5 : Hid (w5.ownsRow w2.heap.size 62 2 (.slice av m cv) m (dn.flatMap prc)) := hide (ownsRow_below2 HOW.out hb5)
          have HX5 : Hid (w5.cell? ⟨wr.heap.size, 0, none⟩ = some (.string x1)) := hide ((World.cell?_of_block (hb5.block _ (by simp [World.drew]))).trans HX0.out)
          have hx5 := HX5.out
          clear hb5 HGA hn1 HVn
          cases sb
          · have HRR : Hid (R = dn ++ scanF l fr to t (prevK l (0 + 1)) (l.drop (0 + 1))) := hide (by rw [HNXT.out]; simp)
            clear HNXT
            go_wp2
            go_roundw
            case rel => exact ⟨0 + 1, m, dn, by omega, by omega, by simp, hide ⟨HK5.out, HO5.out, HI.out.2.2.1, HRR.out⟩⟩
            case measure => simp [intOf]; omega
          · have HRR : Hid (R = (dn ++ [(⟨x1, sv⟩ : Pr)]) ++ scanF l fr to t (prevK l (0 + 1)) (l.drop (0 + 1))) := hide (by rw [HNXT.out, if_pos ⟨rfl, HSP.out⟩]; simp)
            have HLL : Hid ((dn ++ [(⟨x1, sv⟩ : Pr)]).length = m + 1) := hide (by rw [List.length_append, HI.out.2.2.1]; rfl)
            have HBG : Hid ((m + 1) * 32 ≤ 140737488355328) := hide (by omega)
            have HSZ : Hid (w2.heap.size ≤ w5.heap.size) := hide HK5.out.size
            have HA5 : Hid (Below w2.heap.size w2 (w5.alloc (.cells #[.string x1, .string sv] 62))) := hide (HK5.out.trans ((Below.refl _ w5).alloc HSZ.out _))
            have HO6 : Hid ((w5.alloc (.cells #[.string x1, .string sv] 62)).ownsRow w2.heap.size 62 2 (.slice av m cv) m (dn.flatMap prc)) := hide (HO5.out.alloc _)
            have HNB : Hid ((w5.alloc (.cells #[.string x1, .string sv] 62)).heap[w5.heap.size]? = some (.cells #[.string x1, .string sv] 62 (0, 0))) := hide (heap_alloc_new _ _)
            have HS6 : Hid (w2.heap.size ≤ (w5.alloc (.cells #[.string x1, .string sv] 62)).heap.size) := hide HA5.out.size
            clear HNXT HO5
            go_wp2_with (at_builtin; refine wpList_pairs rfl _ _ rfl w2.heap.size (.slice av m cv) m dn rfl HO6.out w5.heap.size ⟨x1, sv⟩ rfl HNB.out HBG.out HS6.out ?_)
            intro v9 w9 HN
            have HN9 : Hid (Below w2.heap.size w2 w9 ∧ w9.ownsRow w2.heap.size 62 2 v9 (m + 1) ((dn ++ [(⟨x1, sv⟩ : Pr)]).flatMap prc)) := hide ⟨HA5.out.trans HN.out.2, by simpa using HN.out.1⟩
            obtain ⟨a9, c9, rfl⟩ := own_form HN9.out.2
            clear HN HA5 HO6 HNB
            go_wp2
            go_roundw
            case rel => exact ⟨0 + 1, m + 1, _, by omega, by omega, by simp, hide ⟨HN9.out.1, HN9.out.2, HLL.out, HRR.out⟩⟩
            case measure => simp [intOf]; omega
        · have hte2 : (to.toList == ([] : List UInt8)) = false := by simpa using hte
          have hte3 : to.toList.isEmpty = false := by simpa using hte
          cases hl : Op.bytesLess x1.toList to.toList
          · have HSP : Hid (inSpan fr to x1 = false) := hide (by rw [HS0.out, hf, hte3, hl]; rfl)
            clear hN0 hX0
            go_wp2_with fail
            refine wp_region_held_drew (S := (fun W : World => W.cell? ⟨w.heap.size, 0, none⟩ = some (.slice (some ⟨b, off, none⟩) len cap) ∧ W.cell? ⟨wr.heap.size, 0, none⟩ = some (.string x1))) (by kernel_rfl) ?hSay (fun hHeld => ?_)
            case hSay => exact HS.out
            refine hTake (i := 0) (v := ?v0ay) (some 30) rfl rfl (by kernel_rfl) (by kernel_rfl) (by kernel_rfl) (fun _ _ _ h => h) (by rfl) (by assumption) ?hy0ay ?hn0ay
            case hy0ay => (intro w hSw; (try dsimp only at hSw); go_simp; try with_reducible rfl)
            try simp only [Act.put, List.setIfInBounds_toArray, List.set_cons_zero, List.set_cons_succ]
            refine hTake (i := 1) (v := ?v1ay) (some 31) rfl rfl (by kernel_rfl) (by kernel_rfl) (by kernel_rfl) (fun _ _ _ h => h) (by rfl) (by assumption) ?hy1ay ?hn1ay
            case hy1ay => (intro w hSw; (try dsimp only at hSw); go_simp; try with_reducible rfl)
            try simp only [Act.put, List.setIfInBounds_toArray, List.set_cons_zero, List.set_cons_succ]
            refine hTake (i := 2) (v := ?v2ay) (some 32) rfl rfl (by kernel_rfl) (by kernel_rfl) (by kernel_rfl) (fun _ _ _ h => h) (by rfl) (by assumption) ?hy2ay ?hn2ay
            case hy2ay => (intro w hSw; (try dsimp only at hSw); go_simp; try with_reducible rfl)
            try simp only [Act.put, List.setIfInBounds_toArray, List.set_cons_zero, List.set_cons_succ]
            refine hSkip (i := 3) (some 33) rfl rfl (by kernel_rfl) (by kernel_rfl) (by kernel_rfl) (fun _ _ _ h => h) (by rfl) (by assumption) ?_
            try simp only [Act.put, List.setIfInBounds_toArray, List.set_cons_zero, List.set_cons_succ]
            refine hSkip (i := 4) (some 34) rfl rfl (by kernel_rfl) (by kernel_rfl) (by kernel_rfl) (fun _ _ _ h => h) (by rfl) (by assumption) ?_
            try simp only [Act.put, List.setIfInBounds_toArray, List.set_cons_zero, List.set_cons_succ]
            refine hSkip (i := 5) (some 35) rfl rfl (by kernel_rfl) (by kernel_rfl) (by kernel_rfl) (fun _ _ _ h => h) (by rfl) (by assumption) ?_
            try simp only [Act.put, List.setIfInBounds_toArray, List.set_cons_zero, List.set_cons_succ]
            refine hSkip (i := 6) (some 36) rfl rfl (by kernel_rfl) (by kernel_rfl) (by kernel_rfl) (fun _ _ _ h => h) (by rfl) (by assumption) ?_
            try simp only [Act.put, List.setIfInBounds_toArray, List.set_cons_zero, List.set_cons_succ]
            refine hSkip (i := 7) (some 37) rfl rfl (by kernel_rfl) (by kernel_rfl) (by kernel_rfl) (fun _ _ _ h => h) (by rfl) (by assumption) ?_
            try simp only [Act.put, List.setIfInBounds_toArray, List.set_cons_zero, List.set_cons_succ]
            refine hSkip (i := 8) (some 38) rfl rfl (by kernel_rfl) (by kernel_rfl) (by kernel_rfl) (fun _ _ _ h => h) (by rfl) (by assumption) ?_
            try simp only [Act.put, List.setIfInBounds_toArray, List.set_cons_zero, List.set_cons_succ]
            refine hSkip (i := 9) (some 39) rfl rfl (by kernel_rfl) (by kernel_rfl) (by kernel_rfl) (fun _ _ _ h => h) (by rfl) (by assumption) ?_
            try simp only [Act.put, List.setIfInBounds_toArray, List.set_cons_zero, List.set_cons_succ]
            refine hSkip (i := 10) (some 40) rfl rfl (by kernel_rfl) (by kernel_rfl) (by kernel_rfl) (fun _ _ _ h => h) (by rfl) (by assumption) ?_
            try simp only [Act.put, List.setIfInBounds_toArray, List.set_cons_zero, List.set_cons_succ]
            refine hSkip (i := 11) (some 41) rfl rfl (by kernel_rfl) (by kernel_rfl) (by kernel_rfl) (fun _ _ _ h => h) (by rfl) (by assumption) ?_
            try simp only [Act.put, List.setIfInBounds_toArray, List.set_cons_zero, List.set_cons_succ]
            refine hSkip (i := 12) (some 42) rfl rfl (by kernel_rfl) (by kernel_rfl) (by kernel_rfl) (fun _ _ _ h => h) (by rfl) (by assumption) ?_
            try simp only [Act.put, List.setIfInBounds_toArray, List.set_cons_zero, List.set_cons_succ]
            refine hTake (i := 13) (v := ?v13ay) (some 43) rfl rfl (by kernel_rfl) (by kernel_rfl) (by kernel_rfl) (fun _ _ _ h => h) (by rfl) (by assumption) ?hy13ay ?hn13ay
            case hy13ay => (intro w hSw; (try dsimp only at hSw); go_simp; try with_reducible rfl)
            try simp only [Act.put, List.setIfInBounds_toArray, List.set_cons_zero, List.set_cons_succ]
            refine hTake (i := 14) (v := ?v14ay) (some 44) rfl rfl (by kernel_rfl) (by kernel_rfl) (by kernel_rfl) (fun _ _ _ h => h) (by rfl) (by assumption) ?hy14ay ?hn14ay
            case hy14ay => (intro w hSw; (try dsimp only at hSw); go_simp; try with_reducible rfl)
            try simp only [Act.put, List.setIfInBounds_toArray, List.set_cons_zero, List.set_cons_succ]
            refine hTake (i := 15) (v := ?v15ay) (some 45) rfl rfl (by kernel_rfl) (by kernel_rfl) (by kernel_rfl) (fun _ _ _ h => h) (by rfl) (by assumption) ?hy15ay ?hn15ay
            case hy15ay => (intro w hSw; (try dsimp only at hSw); go_simp; try with_reducible rfl)
            try simp only [Act.put, List.setIfInBounds_toArray, List.set_cons_zero, List.set_cons_succ]
            refine hTake (i := 16) (v := ?v16ay) (some 46) rfl rfl (by kernel_rfl) (by kernel_rfl) (by kernel_rfl) (fun _ _ _ h => h) (by rfl) (by assumption) ?hy16ay ?hn16ay
            case hy16ay => (intro w hSw; (try dsimp only at hSw); go_simp; try with_reducible rfl)
            try simp only [Act.put, List.setIfInBounds_toArray, List.set_cons_zero, List.set_cons_succ]
            refine hTake (i := 17) (v := ?v17ay) (some 47) rfl rfl (by kernel_rfl) (by kernel_rfl) (by kernel_rfl) (fun _ _ _ h => h) (by rfl) (by assumption) ?hy17ay ?hn17ay
            case hy17ay => (intro w hSw; (try dsimp only at hSw); go_simp; try with_reducible rfl)
            try simp only [Act.put, List.setIfInBounds_toArray, List.set_cons_zero, List.set_cons_succ]
            refine hTake (i := 18) (v := ?v18ay) (some 48) rfl rfl (by kernel_rfl) (by kernel_rfl) (by kernel_rfl) (fun _ _ _ h => h) (by rfl) (by assumption) ?hy18ay ?hn18ay
            case hy18ay => (intro w hSw; (try dsimp only at hSw); go_simp; try with_reducible rfl)
            try simp only [Act.put, List.setIfInBounds_toArray, List.set_cons_zero, List.set_cons_succ]
            refine hTake (i := 19) (v := ?v19ay) (some 49) rfl rfl (by kernel_rfl) (by kernel_rfl) (by kernel_rfl) (fun _ _ _ h => h) (by rfl) (by assumption) ?hy19ay ?hn19ay
            case hy19ay => (intro w hSw; (try dsimp only at hSw); go_simp; try with_reducible rfl)
            try simp only [Act.put, List.setIfInBounds_toArray, List.set_cons_zero, List.set_cons_succ]
            refine hTake (i := 20) (v := ?v20ay) (some 50) rfl rfl (by kernel_rfl) (by kernel_rfl) (by kernel_rfl) (fun _ _ _ h => h) (by rfl) (by assumption) ?hy20ay ?hn20ay
            case hy20ay => (intro w hSw; (try dsimp only at hSw); go_simp; try with_reducible rfl)
            try simp only [Act.put, List.setIfInBounds_toArray, List.set_cons_zero, List.set_cons_succ]
            refine hTake (i := 21) (v := ?v21ay) (some 51) rfl rfl (by kernel_rfl) (by kernel_rfl) (by kernel_rfl) (fun _ _ _ h => h) (by rfl) (by assumption) ?hy21ay ?hn21ay
            case hy21ay => (intro w hSw; (try dsimp only at hSw); go_simp; try with_reducible rfl)
            try simp only [Act.put, List.setIfInBounds_toArray, List.set_cons_zero, List.set_cons_succ]
            refine hTake (i := 22) (v := ?v22ay) (some 52) rfl rfl (by kernel_rfl) (by kernel_rfl) (by kernel_rfl) (fun _ _ _ h => h) (by rfl) (by assumption) ?hy22ay ?hn22ay
            case hy22ay => (intro w hSw; (try dsimp only at hSw); go_simp; try with_reducible rfl)
            try simp only [Act.put, List.setIfInBounds_toArray, List.set_cons_zero, List.set_cons_succ]
            refine hTake (i := 23) (v := ?v23ay) (some 53) rfl rfl (by kernel_rfl) (by kernel_rfl) (by kernel_rfl) (fun _ _ _ h => h) (by rfl) (by assumption) ?hy23ay ?hn23ay
            case hy23ay => (intro w hSw; (try dsimp only at hSw); go_simp; try with_reducible rfl)
            try simp only [Act.put, List.setIfInBounds_toArray, List.set_cons_zero, List.set_cons_succ]
            refine hTake (i := 24) (v := ?v24ay) (some 54) rfl rfl (by kernel_rfl) (by kernel_rfl) (by kernel_rfl) (fun _ _ _ h => h) (by rfl) (by assumption) ?hy24ay ?hn24ay
            case hy24ay => (intro w hSw; (try dsimp only at hSw); go_simp; try with_reducible rfl)
            try simp only [Act.put, List.setIfInBounds_toArray, List.set_cons_zero, List.set_cons_succ]
            refine hTake (i := 25) (v := ?v25ay) (some 55) rfl rfl (by kernel_rfl) (by kernel_rfl) (by kernel_rfl) (fun _ _ _ h => h) (by rfl) (by assumption) ?hy25ay ?hn25ay
            case hy25ay => (intro w hSw; (try dsimp only at hSw); go_simp; try with_reducible rfl)
            try simp only [Act.put, List.setIfInBounds_toArray, List.set_cons_zero, List.set_cons_succ]
            refine hTake (i := 26) (v := ?v26ay) (some 56) rfl rfl (by kernel_rfl) (by kernel_rfl) (by kernel_rfl) (fun _ _ _ h => h) (by rfl) (by assumption) ?hy26ay ?hn26ay
            case hy26ay => (intro w hSw; (try dsimp only at hSw); go_simp; try with_reducible rfl)
            try simp only [Act.put, List.setIfInBounds_toArray, List.set_cons_zero, List.set_cons_succ]
            refine hTake (i := 27) (v := ?v27ay) (some 57) rfl rfl (by kernel_rfl) (by kernel_rfl) (by kernel_rfl) (fun _ _ _ h => h) (by rfl) (by assumption) ?hy27ay ?hn27ay
            case hy27ay => (intro w hSw; (try dsimp only at hSw); go_simp; try with_reducible rfl)
            try simp only [Act.put, List.setIfInBounds_toArray, List.set_cons_zero, List.set_cons_succ]
            refine hTake (i := 28) (v := ?v28ay) (some 58) rfl rfl (by kernel_rfl) (by kernel_rfl) (by kernel_rfl) (fun _ _ _ h => h) (by rfl) (by assumption) ?hy28ay ?hn28ay
            case hy28ay => (intro w hSw; (try dsimp only at hSw); go_simp; try with_reducible rfl)
            try simp only [Act.put, List.setIfInBounds_toArray, List.set_cons_zero, List.set_cons_succ]
            refine hTake (i := 29) (v := ?v29ay) (some 59) rfl rfl (by kernel_rfl) (by kernel_rfl) (by kernel_rfl) (fun _ _ _ h => h) (by rfl) (by assumption) ?hy29ay ?hn29ay
            case hy29ay => (intro w hSw; (try dsimp only at hSw); go_simp; try with_reducible rfl)
            try simp only [Act.put, List.setIfInBounds_toArray, List.set_cons_zero, List.set_cons_succ]
            refine wpAnyH_done (by kernel_rfl) ?_ _
            have HRR : Hid (R = dn ++ scanF l fr to t (prevK l (0 + 1)) (l.drop (0 + 1))) := hide (by rw [HNXT.out]; unfold item; rw [if_neg (fun h => by have h2 := h.2; rw [HSP.out] at h2; cases h2)]; rfl)
            clear HNXT HST HPV HP0 HPR HVn HN1
            go_wp2
            go_roundw
            case rel => exact ⟨0 + 1, m, dn, by omega, by omega, by simp, hide ⟨HK2.out, HOW.out, HI.out.2.2.1, HRR.out⟩⟩
            case measure => simp [intOf]; omega
          · have HSP : Hid (inSpan fr to x1 = true) := hide (by rw [HS0.out, hf, hte3, hl]; rfl)
            clear hN0 hX0
            go_wp2_with fail
            refine wp_region_held_drew (S := (fun W : World => W.cell? ⟨w.heap.size, 0, none⟩ = some (.slice (some ⟨b, off, none⟩) len cap) ∧ W.cell? ⟨wr.heap.size, 0, none⟩ = some (.string x1))) (by kernel_rfl) ?hSaz (fun hHeld => ?_)
            case hSaz => exact HS.out
            refine hTake (i := 0) (v := ?v0az) (some 30) rfl rfl (by kernel_rfl) (by kernel_rfl) (by kernel_rfl) (fun _ _ _ h => h) (by rfl) (by assumption) ?hy0az ?hn0az
            case hy0az => (intro w hSw; (try dsimp only at hSw); go_simp; try with_reducible rfl)
            try simp only [Act.put, List.setIfInBounds_toArray, List.set_cons_zero, List.set_cons_succ]
            refine hTake (i := 1) (v := ?v1az) (some 31) rfl rfl (by kernel_rfl) (by kernel_rfl) (by kernel_rfl) (fun _ _ _ h => h) (by rfl) (by assumption) ?hy1az ?hn1az
            case hy1az => (intro w hSw; (try dsimp only at hSw); go_simp; try with_reducible rfl)
            try simp only [Act.put, List.setIfInBounds_toArray, List.set_cons_zero, List.set_cons_succ]
            refine hTake (i := 2) (v := ?v2az) (some 32) rfl rfl (by kernel_rfl) (by kernel_rfl) (by kernel_rfl) (fun _ _ _ h => h) (by rfl) (by assumption) ?hy2az ?hn2az
            case hy2az => (intro w hSw; (try dsimp only at hSw); go_simp; try with_reducible rfl)
            try simp only [Act.put, List.setIfInBounds_toArray, List.set_cons_zero, List.set_cons_succ]
            refine hSkip (i := 3) (some 33) rfl rfl (by kernel_rfl) (by kernel_rfl) (by kernel_rfl) (fun _ _ _ h => h) (by rfl) (by assumption) ?_
            try simp only [Act.put, List.setIfInBounds_toArray, List.set_cons_zero, List.set_cons_succ]
            refine hSkip (i := 4) (some 34) rfl rfl (by kernel_rfl) (by kernel_rfl) (by kernel_rfl) (fun _ _ _ h => h) (by rfl) (by assumption) ?_
            try simp only [Act.put, List.setIfInBounds_toArray, List.set_cons_zero, List.set_cons_succ]
            refine hSkip (i := 5) (some 35) rfl rfl (by kernel_rfl) (by kernel_rfl) (by kernel_rfl) (fun _ _ _ h => h) (by rfl) (by assumption) ?_
            try simp only [Act.put, List.setIfInBounds_toArray, List.set_cons_zero, List.set_cons_succ]
            refine hSkip (i := 6) (some 36) rfl rfl (by kernel_rfl) (by kernel_rfl) (by kernel_rfl) (fun _ _ _ h => h) (by rfl) (by assumption) ?_
            try simp only [Act.put, List.setIfInBounds_toArray, List.set_cons_zero, List.set_cons_succ]
            refine hSkip (i := 7) (some 37) rfl rfl (by kernel_rfl) (by kernel_rfl) (by kernel_rfl) (fun _ _ _ h => h) (by rfl) (by assumption) ?_
            try simp only [Act.put, List.setIfInBounds_toArray, List.set_cons_zero, List.set_cons_succ]
            refine hSkip (i := 8) (some 38) rfl rfl (by kernel_rfl) (by kernel_rfl) (by kernel_rfl) (fun _ _ _ h => h) (by rfl) (by assumption) ?_
            try simp only [Act.put, List.setIfInBounds_toArray, List.set_cons_zero, List.set_cons_succ]
            refine hSkip (i := 9) (some 39) rfl rfl (by kernel_rfl) (by kernel_rfl) (by kernel_rfl) (fun _ _ _ h => h) (by rfl) (by assumption) ?_
            try simp only [Act.put, List.setIfInBounds_toArray, List.set_cons_zero, List.set_cons_succ]
            refine hSkip (i := 10) (some 40) rfl rfl (by kernel_rfl) (by kernel_rfl) (by kernel_rfl) (fun _ _ _ h => h) (by rfl) (by assumption) ?_
            try simp only [Act.put, List.setIfInBounds_toArray, List.set_cons_zero, List.set_cons_succ]
            refine hSkip (i := 11) (some 41) rfl rfl (by kernel_rfl) (by kernel_rfl) (by kernel_rfl) (fun _ _ _ h => h) (by rfl) (by assumption) ?_
            try simp only [Act.put, List.setIfInBounds_toArray, List.set_cons_zero, List.set_cons_succ]
            refine hSkip (i := 12) (some 42) rfl rfl (by kernel_rfl) (by kernel_rfl) (by kernel_rfl) (fun _ _ _ h => h) (by rfl) (by assumption) ?_
            try simp only [Act.put, List.setIfInBounds_toArray, List.set_cons_zero, List.set_cons_succ]
            refine hTake (i := 13) (v := ?v13az) (some 43) rfl rfl (by kernel_rfl) (by kernel_rfl) (by kernel_rfl) (fun _ _ _ h => h) (by rfl) (by assumption) ?hy13az ?hn13az
            case hy13az => (intro w hSw; (try dsimp only at hSw); go_simp; try with_reducible rfl)
            try simp only [Act.put, List.setIfInBounds_toArray, List.set_cons_zero, List.set_cons_succ]
            refine hTake (i := 14) (v := ?v14az) (some 44) rfl rfl (by kernel_rfl) (by kernel_rfl) (by kernel_rfl) (fun _ _ _ h => h) (by rfl) (by assumption) ?hy14az ?hn14az
            case hy14az => (intro w hSw; (try dsimp only at hSw); go_simp; try with_reducible rfl)
            try simp only [Act.put, List.setIfInBounds_toArray, List.set_cons_zero, List.set_cons_succ]
            refine hTake (i := 15) (v := ?v15az) (some 45) rfl rfl (by kernel_rfl) (by kernel_rfl) (by kernel_rfl) (fun _ _ _ h => h) (by rfl) (by assumption) ?hy15az ?hn15az
            case hy15az => (intro w hSw; (try dsimp only at hSw); go_simp; try with_reducible rfl)
            try simp only [Act.put, List.setIfInBounds_toArray, List.set_cons_zero, List.set_cons_succ]
            refine hTake (i := 16) (v := ?v16az) (some 46) rfl rfl (by kernel_rfl) (by kernel_rfl) (by kernel_rfl) (fun _ _ _ h => h) (by rfl) (by assumption) ?hy16az ?hn16az
            case hy16az => (intro w hSw; (try dsimp only at hSw); go_simp; try with_reducible rfl)
            try simp only [Act.put, List.setIfInBounds_toArray, List.set_cons_zero, List.set_cons_succ]
            refine hTake (i := 17) (v := ?v17az) (some 47) rfl rfl (by kernel_rfl) (by kernel_rfl) (by kernel_rfl) (fun _ _ _ h => h) (by rfl) (by assumption) ?hy17az ?hn17az
            case hy17az => (intro w hSw; (try dsimp only at hSw); go_simp; try with_reducible rfl)
            try simp only [Act.put, List.setIfInBounds_toArray, List.set_cons_zero, List.set_cons_succ]
            refine hTake (i := 18) (v := ?v18az) (some 48) rfl rfl (by kernel_rfl) (by kernel_rfl) (by kernel_rfl) (fun _ _ _ h => h) (by rfl) (by assumption) ?hy18az ?hn18az
            case hy18az => (intro w hSw; (try dsimp only at hSw); go_simp; try with_reducible rfl)
            try simp only [Act.put, List.setIfInBounds_toArray, List.set_cons_zero, List.set_cons_succ]
            refine hTake (i := 19) (v := ?v19az) (some 49) rfl rfl (by kernel_rfl) (by kernel_rfl) (by kernel_rfl) (fun _ _ _ h => h) (by rfl) (by assumption) ?hy19az ?hn19az
            case hy19az => (intro w hSw; (try dsimp only at hSw); go_simp; try with_reducible rfl)
            try simp only [Act.put, List.setIfInBounds_toArray, List.set_cons_zero, List.set_cons_succ]
            refine hTake (i := 20) (v := ?v20az) (some 50) rfl rfl (by kernel_rfl) (by kernel_rfl) (by kernel_rfl) (fun _ _ _ h => h) (by rfl) (by assumption) ?hy20az ?hn20az
            case hy20az => (intro w hSw; (try dsimp only at hSw); go_simp; try with_reducible rfl)
            try simp only [Act.put, List.setIfInBounds_toArray, List.set_cons_zero, List.set_cons_succ]
            refine hTake (i := 21) (v := ?v21az) (some 51) rfl rfl (by kernel_rfl) (by kernel_rfl) (by kernel_rfl) (fun _ _ _ h => h) (by rfl) (by assumption) ?hy21az ?hn21az
            case hy21az => (intro w hSw; (try dsimp only at hSw); go_simp; try with_reducible rfl)
            try simp only [Act.put, List.setIfInBounds_toArray, List.set_cons_zero, List.set_cons_succ]
            refine hTake (i := 22) (v := ?v22az) (some 52) rfl rfl (by kernel_rfl) (by kernel_rfl) (by kernel_rfl) (fun _ _ _ h => h) (by rfl) (by assumption) ?hy22az ?hn22az
            case hy22az => (intro w hSw; (try dsimp only at hSw); go_simp; try with_reducible rfl)
            try simp only [Act.put, List.setIfInBounds_toArray, List.set_cons_zero, List.set_cons_succ]
            refine hTake (i := 23) (v := ?v23az) (some 53) rfl rfl (by kernel_rfl) (by kernel_rfl) (by kernel_rfl) (fun _ _ _ h => h) (by rfl) (by assumption) ?hy23az ?hn23az
            case hy23az => (intro w hSw; (try dsimp only at hSw); go_simp; try with_reducible rfl)
            try simp only [Act.put, List.setIfInBounds_toArray, List.set_cons_zero, List.set_cons_succ]
            refine hTake (i := 24) (v := ?v24az) (some 54) rfl rfl (by kernel_rfl) (by kernel_rfl) (by kernel_rfl) (fun _ _ _ h => h) (by rfl) (by assumption) ?hy24az ?hn24az
            case hy24az => (intro w hSw; (try dsimp only at hSw); go_simp; try with_reducible rfl)
            try simp only [Act.put, List.setIfInBounds_toArray, List.set_cons_zero, List.set_cons_succ]
            refine hTake (i := 25) (v := ?v25az) (some 55) rfl rfl (by kernel_rfl) (by kernel_rfl) (by kernel_rfl) (fun _ _ _ h => h) (by rfl) (by assumption) ?hy25az ?hn25az
            case hy25az => (intro w hSw; (try dsimp only at hSw); go_simp; try with_reducible rfl)
            try simp only [Act.put, List.setIfInBounds_toArray, List.set_cons_zero, List.set_cons_succ]
            refine hTake (i := 26) (v := ?v26az) (some 56) rfl rfl (by kernel_rfl) (by kernel_rfl) (by kernel_rfl) (fun _ _ _ h => h) (by rfl) (by assumption) ?hy26az ?hn26az
            case hy26az => (intro w hSw; (try dsimp only at hSw); go_simp; try with_reducible rfl)
            try simp only [Act.put, List.setIfInBounds_toArray, List.set_cons_zero, List.set_cons_succ]
            refine hTake (i := 27) (v := ?v27az) (some 57) rfl rfl (by kernel_rfl) (by kernel_rfl) (by kernel_rfl) (fun _ _ _ h => h) (by rfl) (by assumption) ?hy27az ?hn27az
            case hy27az => (intro w hSw; (try dsimp only at hSw); go_simp; try with_reducible rfl)
            try simp only [Act.put, List.setIfInBounds_toArray, List.set_cons_zero, List.set_cons_succ]
            refine hTake (i := 28) (v := ?v28az) (some 58) rfl rfl (by kernel_rfl) (by kernel_rfl) (by kernel_rfl) (fun _ _ _ h => h) (by rfl) (by assumption) ?hy28az ?hn28az
            case hy28az => (intro w hSw; (try dsimp only at hSw); go_simp; try with_reducible rfl)
            try simp only [Act.put, List.setIfInBounds_toArray, List.set_cons_zero, List.set_cons_succ]
            refine hTake (i := 29) (v := ?v29az) (some 59) rfl rfl (by kernel_rfl) (by kernel_rfl) (by kernel_rfl) (fun _ _ _ h => h) (by rfl) (by assumption) ?hy29az ?hn29az
            case hy29az => (intro w hSw; (try dsimp only at hSw); go_simp; try with_reducible rfl)
            try simp only [Act.put, List.setIfInBounds_toArray, List.set_cons_zero, List.set_cons_succ]
            refine wpAnyH_done (by kernel_rfl) ?_ _
            have HGA := hide (rseen_any (some ⟨b, off, none⟩) len cap low t x1 l _ HVn.out)
            unfold item at HNXT
            dsimp only at HNXT
            generalize seenR (lastTo (l.filter (sameK x1)) t) = sr at *
            obtain ⟨sv, sb⟩ := sr
            dsimp only at HNXT HGA
            clear HST HPV HP0 HPR
            have hn1 := HN1.out
            go_wp2_with fail
            refine HGA.out.mono ?_
            rintro e w5 ⟨rfl, hb5⟩
            have HK5 := hide (HK2.out.trans (hb5.mono (Nat.le_trans HI.out.1.size HBN.out.size)))
            have HO5 : Hid (w5.ownsRow w2.heap.size 62 2 (.slice av m cv) m (dn.flatMap prc)) := hide (ownsRow_below2 HOW.out hb5)
            have HX5 : Hid (w5.cell? ⟨wr.heap.size, 0, none⟩ = some (.string x1)) := hide ((World.cell?_of_block (hb5.block _ (by simp [World.drew]))).trans HX0.out)
            have hx5 := HX5.out
            clear hb5 HGA hn1 HVn
            cases sb
            · have HRR : Hid (R = dn ++ scanF l fr to t (prevK l (0 + 1)) (l.drop (0 + 1))) := hide (by rw [HNXT.out]; simp)
              clear HNXT
              go_wp2
              go_roundw
              case rel => exact ⟨0 + 1, m, dn, by omega, by omega, by simp, hide ⟨HK5.out, HO5.out, HI.out.2.2.1, HRR.out⟩⟩
              case measure => simp [intOf]; omega
            · have HRR : Hid (R = (dn ++ [(⟨x1, sv⟩ : Pr)]) ++ scanF l fr to t (prevK l (0 + 1)) (l.drop (0 + 1))) := hide (by rw [HNXT.out, if_pos ⟨rfl, HSP.out⟩]; simp)
              have HLL : Hid ((dn ++ [(⟨x1, sv⟩ : Pr)]).length = m + 1) := hide (by rw [List.length_append, HI.out.2.2.1]; rfl)
              have HBG : Hid ((m + 1) * 32 ≤ 140737488355328) := hide (by omega)
              have HSZ : Hid (w2.heap.size ≤ w5.heap.size) := hide HK5.out.size
              have HA5 : Hid (Below w2.heap.size w2 (w5.alloc (.cells #[.string x1, .string sv] 62))) := hide (HK5.out.trans ((Below.refl _ w5).alloc HSZ.out _))
              have HO6 : Hid ((w5.alloc (.cells #[.string x1, .string sv] 62)).ownsRow w2.heap.size 62 2 (.slice av m cv) m (dn.flatMap prc)) := hide (HO5.out.alloc _)
              have HNB : Hid ((w5.alloc (.cells #[.string x1, .string sv] 62)).heap[w5.heap.size]? = some (.cells #[.string x1, .string sv] 62 (0, 0))) := hide (heap_alloc_new _ _)
              have HS6 : Hid (w2.heap.size ≤ (w5.alloc (.cells #[.string x1, .string sv] 62)).heap.size) := hide HA5.out.size
              clear HNXT HO5
              go_wp2_with (at_builtin; refine wpList_pairs rfl _ _ rfl w2.heap.size (.slice av m cv) m dn rfl HO6.out w5.heap.size ⟨x1, sv⟩ rfl HNB.out HBG.out HS6.out ?_)
              intro v9 w9 HN
              have HN9 : Hid (Below w2.heap.size w2 w9 ∧ w9.ownsRow w2.heap.size 62 2 v9 (m + 1) ((dn ++ [(⟨x1, sv⟩ : Pr)]).flatMap prc)) := hide ⟨HA5.out.trans HN.out.2, by simpa using HN.out.1⟩
              obtain ⟨a9, c9, rfl⟩ := own_form HN9.out.2
              clear HN HA5 HO6 HNB
              go_wp2
              go_roundw
              case rel => exact ⟨0 + 1, m + 1, _, by omega, by omega, by simp, hide ⟨HN9.out.1, HN9.out.2, HLL.out, HRR.out⟩⟩
              case measure => simp [intOf]; omega
      · have HSP : Hid (inSpan fr to x1 = false) := hide (by rw [HS0.out, hf]; rfl)
        clear hN0 hX0
        go_wp2_with fail
        refine wp_region_held_drew (S := (fun W : World => W.cell? ⟨w.heap.size, 0, none⟩ = some (.slice (some ⟨b, off, none⟩) len cap) ∧ W.cell? ⟨wr.heap.size, 0, none⟩ = some (.string x1))) (by kernel_rfl) ?hSav (fun hHeld => ?_)
        case hSav => exact HS.out
        refine hTake (i := 0) (v := ?v0av) (some 30) rfl rfl (by kernel_rfl) (by kernel_rfl) (by kernel_rfl) (fun _ _ _ h => h) (by rfl) (by assumption) ?hy0av ?hn0av
        case hy0av => (intro w hSw; (try dsimp only at hSw); go_simp; try with_reducible rfl)
        try simp only [Act.put, List.setIfInBounds_toArray, List.set_cons_zero, List.set_cons_succ]
        refine hTake (i := 1) (v := ?v1av) (some 31) rfl rfl (by kernel_rfl) (by kernel_rfl) (by kernel_rfl) (fun _ _ _ h => h) (by rfl) (by assumption) ?hy1av ?hn1av
        case hy1av => (intro w hSw; (try dsimp only at hSw); go_simp; try with_reducible rfl)
        try simp only [Act.put, List.setIfInBounds_toArray, List.set_cons_zero, List.set_cons_succ]
        refine hTake (i := 2) (v := ?v2av) (some 32) rfl rfl (by kernel_rfl) (by kernel_rfl) (by kernel_rfl) (fun _ _ _ h => h) (by rfl) (by assumption) ?hy2av ?hn2av
        case hy2av => (intro w hSw; (try dsimp only at hSw); go_simp; try with_reducible rfl)
        try simp only [Act.put, List.setIfInBounds_toArray, List.set_cons_zero, List.set_cons_succ]
        refine hSkip (i := 3) (some 33) rfl rfl (by kernel_rfl) (by kernel_rfl) (by kernel_rfl) (fun _ _ _ h => h) (by rfl) (by assumption) ?_
        try simp only [Act.put, List.setIfInBounds_toArray, List.set_cons_zero, List.set_cons_succ]
        refine hSkip (i := 4) (some 34) rfl rfl (by kernel_rfl) (by kernel_rfl) (by kernel_rfl) (fun _ _ _ h => h) (by rfl) (by assumption) ?_
        try simp only [Act.put, List.setIfInBounds_toArray, List.set_cons_zero, List.set_cons_succ]
        refine hSkip (i := 5) (some 35) rfl rfl (by kernel_rfl) (by kernel_rfl) (by kernel_rfl) (fun _ _ _ h => h) (by rfl) (by assumption) ?_
        try simp only [Act.put, List.setIfInBounds_toArray, List.set_cons_zero, List.set_cons_succ]
        refine hSkip (i := 6) (some 36) rfl rfl (by kernel_rfl) (by kernel_rfl) (by kernel_rfl) (fun _ _ _ h => h) (by rfl) (by assumption) ?_
        try simp only [Act.put, List.setIfInBounds_toArray, List.set_cons_zero, List.set_cons_succ]
        refine hSkip (i := 7) (some 37) rfl rfl (by kernel_rfl) (by kernel_rfl) (by kernel_rfl) (fun _ _ _ h => h) (by rfl) (by assumption) ?_
        try simp only [Act.put, List.setIfInBounds_toArray, List.set_cons_zero, List.set_cons_succ]
        refine hSkip (i := 8) (some 38) rfl rfl (by kernel_rfl) (by kernel_rfl) (by kernel_rfl) (fun _ _ _ h => h) (by rfl) (by assumption) ?_
        try simp only [Act.put, List.setIfInBounds_toArray, List.set_cons_zero, List.set_cons_succ]
        refine hSkip (i := 9) (some 39) rfl rfl (by kernel_rfl) (by kernel_rfl) (by kernel_rfl) (fun _ _ _ h => h) (by rfl) (by assumption) ?_
        try simp only [Act.put, List.setIfInBounds_toArray, List.set_cons_zero, List.set_cons_succ]
        refine hSkip (i := 10) (some 40) rfl rfl (by kernel_rfl) (by kernel_rfl) (by kernel_rfl) (fun _ _ _ h => h) (by rfl) (by assumption) ?_
        try simp only [Act.put, List.setIfInBounds_toArray, List.set_cons_zero, List.set_cons_succ]
        refine hSkip (i := 11) (some 41) rfl rfl (by kernel_rfl) (by kernel_rfl) (by kernel_rfl) (fun _ _ _ h => h) (by rfl) (by assumption) ?_
        try simp only [Act.put, List.setIfInBounds_toArray, List.set_cons_zero, List.set_cons_succ]
        refine hSkip (i := 12) (some 42) rfl rfl (by kernel_rfl) (by kernel_rfl) (by kernel_rfl) (fun _ _ _ h => h) (by rfl) (by assumption) ?_
        try simp only [Act.put, List.setIfInBounds_toArray, List.set_cons_zero, List.set_cons_succ]
        refine hTake (i := 13) (v := ?v13av) (some 43) rfl rfl (by kernel_rfl) (by kernel_rfl) (by kernel_rfl) (fun _ _ _ h => h) (by rfl) (by assumption) ?hy13av ?hn13av
        case hy13av => (intro w hSw; (try dsimp only at hSw); go_simp; try with_reducible rfl)
        try simp only [Act.put, List.setIfInBounds_toArray, List.set_cons_zero, List.set_cons_succ]
        refine hTake (i := 14) (v := ?v14av) (some 44) rfl rfl (by kernel_rfl) (by kernel_rfl) (by kernel_rfl) (fun _ _ _ h => h) (by rfl) (by assumption) ?hy14av ?hn14av
        case hy14av => (intro w hSw; (try dsimp only at hSw); go_simp; try with_reducible rfl)
        try simp only [Act.put, List.setIfInBounds_toArray, List.set_cons_zero, List.set_cons_succ]
        refine hTake (i := 15) (v := ?v15av) (some 45) rfl rfl (by kernel_rfl) (by kernel_rfl) (by kernel_rfl) (fun _ _ _ h => h) (by rfl) (by assumption) ?hy15av ?hn15av
        case hy15av => (intro w hSw; (try dsimp only at hSw); go_simp; try with_reducible rfl)
        try simp only [Act.put, List.setIfInBounds_toArray, List.set_cons_zero, List.set_cons_succ]
        refine hTake (i := 16) (v := ?v16av) (some 46) rfl rfl (by kernel_rfl) (by kernel_rfl) (by kernel_rfl) (fun _ _ _ h => h) (by rfl) (by assumption) ?hy16av ?hn16av
        case hy16av => (intro w hSw; (try dsimp only at hSw); go_simp; try with_reducible rfl)
        try simp only [Act.put, List.setIfInBounds_toArray, List.set_cons_zero, List.set_cons_succ]
        refine hTake (i := 17) (v := ?v17av) (some 47) rfl rfl (by kernel_rfl) (by kernel_rfl) (by kernel_rfl) (fun _ _ _ h => h) (by rfl) (by assumption) ?hy17av ?hn17av
        case hy17av => (intro w hSw; (try dsimp only at hSw); go_simp; try with_reducible rfl)
        try simp only [Act.put, List.setIfInBounds_toArray, List.set_cons_zero, List.set_cons_succ]
        refine hTake (i := 18) (v := ?v18av) (some 48) rfl rfl (by kernel_rfl) (by kernel_rfl) (by kernel_rfl) (fun _ _ _ h => h) (by rfl) (by assumption) ?hy18av ?hn18av
        case hy18av => (intro w hSw; (try dsimp only at hSw); go_simp; try with_reducible rfl)
        try simp only [Act.put, List.setIfInBounds_toArray, List.set_cons_zero, List.set_cons_succ]
        refine hTake (i := 19) (v := ?v19av) (some 49) rfl rfl (by kernel_rfl) (by kernel_rfl) (by kernel_rfl) (fun _ _ _ h => h) (by rfl) (by assumption) ?hy19av ?hn19av
        case hy19av => (intro w hSw; (try dsimp only at hSw); go_simp; try with_reducible rfl)
        try simp only [Act.put, List.setIfInBounds_toArray, List.set_cons_zero, List.set_cons_succ]
        refine hTake (i := 20) (v := ?v20av) (some 50) rfl rfl (by kernel_rfl) (by kernel_rfl) (by kernel_rfl) (fun _ _ _ h => h) (by rfl) (by assumption) ?hy20av ?hn20av
        case hy20av => (intro w hSw; (try dsimp only at hSw); go_simp; try with_reducible rfl)
        try simp only [Act.put, List.setIfInBounds_toArray, List.set_cons_zero, List.set_cons_succ]
        refine hSkip (i := 21) (some 51) rfl rfl (by kernel_rfl) (by kernel_rfl) (by kernel_rfl) (fun _ _ _ h => h) (by rfl) (by assumption) ?_
        try simp only [Act.put, List.setIfInBounds_toArray, List.set_cons_zero, List.set_cons_succ]
        refine hSkip (i := 22) (some 52) rfl rfl (by kernel_rfl) (by kernel_rfl) (by kernel_rfl) (fun _ _ _ h => h) (by rfl) (by assumption) ?_
        try simp only [Act.put, List.setIfInBounds_toArray, List.set_cons_zero, List.set_cons_succ]
        refine hSkip (i := 23) (some 53) rfl rfl (by kernel_rfl) (by kernel_rfl) (by kernel_rfl) (fun _ _ _ h => h) (by rfl) (by assumption) ?_
        try simp only [Act.put, List.setIfInBounds_toArray, List.set_cons_zero, List.set_cons_succ]
        refine hSkip (i := 24) (some 54) rfl rfl (by kernel_rfl) (by kernel_rfl) (by kernel_rfl) (fun _ _ _ h => h) (by rfl) (by assumption) ?_
        try simp only [Act.put, List.setIfInBounds_toArray, List.set_cons_zero, List.set_cons_succ]
        refine hSkip (i := 25) (some 55) rfl rfl (by kernel_rfl) (by kernel_rfl) (by kernel_rfl) (fun _ _ _ h => h) (by rfl) (by assumption) ?_
        try simp only [Act.put, List.setIfInBounds_toArray, List.set_cons_zero, List.set_cons_succ]
        refine hSkip (i := 26) (some 56) rfl rfl (by kernel_rfl) (by kernel_rfl) (by kernel_rfl) (fun _ _ _ h => h) (by rfl) (by assumption) ?_
        try simp only [Act.put, List.setIfInBounds_toArray, List.set_cons_zero, List.set_cons_succ]
        refine hSkip (i := 27) (some 57) rfl rfl (by kernel_rfl) (by kernel_rfl) (by kernel_rfl) (fun _ _ _ h => h) (by rfl) (by assumption) ?_
        try simp only [Act.put, List.setIfInBounds_toArray, List.set_cons_zero, List.set_cons_succ]
        refine hSkip (i := 28) (some 58) rfl rfl (by kernel_rfl) (by kernel_rfl) (by kernel_rfl) (fun _ _ _ h => h) (by rfl) (by assumption) ?_
        try simp only [Act.put, List.setIfInBounds_toArray, List.set_cons_zero, List.set_cons_succ]
        refine hTake (i := 29) (v := ?v29av) (some 59) rfl rfl (by kernel_rfl) (by kernel_rfl) (by kernel_rfl) (fun _ _ _ h => h) (by rfl) (by assumption) ?hy29av ?hn29av
        case hy29av => (intro w hSw; (try dsimp only at hSw); go_simp; try with_reducible rfl)
        try simp only [Act.put, List.setIfInBounds_toArray, List.set_cons_zero, List.set_cons_succ]
        refine wpAnyH_done (by kernel_rfl) ?_ _
        have HRR : Hid (R = dn ++ scanF l fr to t (prevK l (0 + 1)) (l.drop (0 + 1))) := hide (by rw [HNXT.out]; unfold item; rw [if_neg (fun h => by have h2 := h.2; rw [HSP.out] at h2; cases h2)]; rfl)
        clear HNXT HST HPV HP0 HPR HVn HN1
        go_wp2
        go_roundw
        case rel => exact ⟨0 + 1, m, dn, by omega, by omega, by simp, hide ⟨HK2.out, HOW.out, HI.out.2.2.1, HRR.out⟩⟩
        case measure => simp [intOf]; omega
    · obtain ⟨i, hki⟩ : ∃ i, k = i + 1 := ⟨k - 1, by omega⟩
      have hp := HPR.out i hki
      have hpv := HPV.out i hki
      generalize l.getD i Vr0 = y at *
      obtain ⟨y1, y2, y3, y4⟩ := y
      dsimp only at hp hpv
      have HS : Hid ((wr.alloc (.cells #[.string x1, .int .u64 (x2 : Nat), .string x3, .bool x4] 66)).drew.cell? ⟨w.heap.size, 0, none⟩ = some (.slice (some ⟨b, off, none⟩) len cap) ∧ (wr.alloc (.cells #[.string x1, .int .u64 (x2 : Nat), .string x3, .bool x4] 66)).drew.cell? ⟨wr.heap.size, 0, none⟩ = some (.string x1) ∧ (wr.alloc (.cells #[.string x1, .int .u64 (x2 : Nat), .string x3, .bool x4] 66)).drew.cell? ⟨b, off + i * 4, none⟩ = some (.string y1)) := hide ⟨hN0, hX0, (World.cell?_of_block (HBN.out.block b hbs)).trans hp⟩
      have hw5 : IntKind.i64.wrap ((k : Int) - 1) = (i : Int) := by rw [wr64' (by omega) (by omega)]; omega
      have hw6 : IntKind.i64.wrap (i : Int) = (i : Int) := wr64' (by omega) (by omega)
      have hi5 : (0 : Int) < (k : Int) := by omega
      have hkD : decide ((0 : Int) < (k : Int)) = true := decide_eq_true hi5
      have hkN : 0 < k := by omega
      have hi6 : (i : Int) < (len : Int) := by omega
      have hi7 : (0 : Int) ≤ (i : Int) := by omega
      by_cases hyx : y1.toList = x1.toList
      · have HRR : Hid (R = dn ++ scanF l fr to t (prevK l (k + 1)) (l.drop (k + 1))) := hide (by
          have h := HST.out
          rw [if_pos (by rw [hpv, hyx])] at h
          rw [← h]
          exact HI.out.2.2.2)
        have hqb : (y1.toList == x1.toList) = true := by simpa using hyx
        clear hp hpv hki hk0 hyx HST HPV HP0 HPR hN0 hX0 hN1
        go_wp2_with fail
        refine wp_region_held_drew (S := (fun W : World => W.cell? ⟨w.heap.size, 0, none⟩ = some (.slice (some ⟨b, off, none⟩) len cap) ∧ W.cell? ⟨wr.heap.size, 0, none⟩ = some (.string x1) ∧ W.cell? ⟨b, off + i * 4, none⟩ = some (.string y1))) (by kernel_rfl) ?hSpb (fun hHeld => ?_)
        case hSpb => exact HS.out
        refine hTake (i := 0) (v := ?v0pb) (some 30) rfl rfl (by kernel_rfl) (by kernel_rfl) (by kernel_rfl) (fun _ _ _ h => h) (by rfl) (by assumption) ?hy0pb ?hn0pb
        case hy0pb => (intro w hSw; (try dsimp only at hSw); go_simp; try with_reducible rfl)
        try simp only [Act.put, List.setIfInBounds_toArray, List.set_cons_zero, List.set_cons_succ]
        refine hTake (i := 1) (v := ?v1pb) (some 31) rfl rfl (by kernel_rfl) (by kernel_rfl) (by kernel_rfl) (fun _ _ _ h => h) (by rfl) (by assumption) ?hy1pb ?hn1pb
        case hy1pb => (intro w hSw; (try dsimp only at hSw); go_simp; try with_reducible rfl)
        try simp only [Act.put, List.setIfInBounds_toArray, List.set_cons_zero, List.set_cons_succ]
        refine hTake (i := 2) (v := ?v2pb) (some 32) rfl rfl (by kernel_rfl) (by kernel_rfl) (by kernel_rfl) (fun _ _ _ h => h) (by rfl) (by assumption) ?hy2pb ?hn2pb
        case hy2pb => (intro w hSw; (try dsimp only at hSw); go_simp; try with_reducible rfl)
        try simp only [Act.put, List.setIfInBounds_toArray, List.set_cons_zero, List.set_cons_succ]
        refine hTake (i := 3) (v := ?v3pb) (some 33) rfl rfl (by kernel_rfl) (by kernel_rfl) (by kernel_rfl) (fun _ _ _ h => h) (by rfl) (by assumption) ?hy3pb ?hn3pb
        case hy3pb => (intro w hSw; (try dsimp only at hSw); go_simp; try with_reducible rfl)
        try simp only [Act.put, List.setIfInBounds_toArray, List.set_cons_zero, List.set_cons_succ]
        refine hTake (i := 4) (v := ?v4pb) (some 34) rfl rfl (by kernel_rfl) (by kernel_rfl) (by kernel_rfl) (fun _ _ _ h => h) (by rfl) (by assumption) ?hy4pb ?hn4pb
        case hy4pb => (intro w hSw; (try dsimp only at hSw); go_simp; try with_reducible rfl)
        try simp only [Act.put, List.setIfInBounds_toArray, List.set_cons_zero, List.set_cons_succ]
        refine hTake (i := 5) (v := ?v5pb) (some 35) rfl rfl (by kernel_rfl) (by kernel_rfl) (by kernel_rfl) (fun _ _ _ h => h) (by rfl) (by assumption) ?hy5pb ?hn5pb
        case hy5pb => (intro w hSw; (try dsimp only at hSw); go_simp; try with_reducible rfl)
        try simp only [Act.put, List.setIfInBounds_toArray, List.set_cons_zero, List.set_cons_succ]
        refine hTake (i := 6) (v := ?v6pb) (some 36) rfl rfl (by kernel_rfl) (by kernel_rfl) (by kernel_rfl) (fun _ _ _ h => h) (by rfl) (by assumption) ?hy6pb ?hn6pb
        case hy6pb => (intro w hSw; (try dsimp only at hSw); go_simp; try with_reducible rfl)
        try simp only [Act.put, List.setIfInBounds_toArray, List.set_cons_zero, List.set_cons_succ]
        refine hTake (i := 7) (v := ?v7pb) (some 37) rfl rfl (by kernel_rfl) (by kernel_rfl) (by kernel_rfl) (fun _ _ _ h => h) (by rfl) (by assumption) ?hy7pb ?hn7pb
        case hy7pb => (intro w hSw; (try dsimp only at hSw); go_simp; try with_reducible rfl)
        try simp only [Act.put, List.setIfInBounds_toArray, List.set_cons_zero, List.set_cons_succ]
        refine hTake (i := 8) (v := ?v8pb) (some 38) rfl rfl (by kernel_rfl) (by kernel_rfl) (by kernel_rfl) (fun _ _ _ h => h) (by rfl) (by assumption) ?hy8pb ?hn8pb
        case hy8pb => (intro w hSw; (try dsimp only at hSw); go_simp; try with_reducible rfl)
        try simp only [Act.put, List.setIfInBounds_toArray, List.set_cons_zero, List.set_cons_succ]
        refine hTake (i := 9) (v := ?v9pb) (some 39) rfl rfl (by kernel_rfl) (by kernel_rfl) (by kernel_rfl) (fun _ _ _ h => h) (by rfl) (by assumption) ?hy9pb ?hn9pb
        case hy9pb => (intro w hSw; (try dsimp only at hSw); go_simp; try with_reducible rfl)
        try simp only [Act.put, List.setIfInBounds_toArray, List.set_cons_zero, List.set_cons_succ]
        refine hTake (i := 10) (v := ?v10pb) (some 40) rfl rfl (by kernel_rfl) (by kernel_rfl) (by kernel_rfl) (fun _ _ _ h => h) (by rfl) (by assumption) ?hy10pb ?hn10pb
        case hy10pb => (intro w hSw; (try dsimp only at hSw); go_simp; try with_reducible rfl)
        try simp only [Act.put, List.setIfInBounds_toArray, List.set_cons_zero, List.set_cons_succ]
        refine hTake (i := 11) (v := ?v11pb) (some 41) rfl rfl (by kernel_rfl) (by kernel_rfl) (by kernel_rfl) (fun _ _ _ h => h) (by rfl) (by assumption) ?hy11pb ?hn11pb
        case hy11pb => (intro w hSw; (try dsimp only at hSw); go_simp; try with_reducible rfl)
        try simp only [Act.put, List.setIfInBounds_toArray, List.set_cons_zero, List.set_cons_succ]
        refine hTake (i := 12) (v := ?v12pb) (some 42) rfl rfl (by kernel_rfl) (by kernel_rfl) (by kernel_rfl) (fun _ _ _ h => h) (by rfl) (by assumption) ?hy12pb ?hn12pb
        case hy12pb => (intro w hSw; (try dsimp only at hSw); go_simp; try with_reducible rfl)
        try simp only [Act.put, List.setIfInBounds_toArray, List.set_cons_zero, List.set_cons_succ]
        refine hTake (i := 13) (v := ?v13pb) (some 43) rfl rfl (by kernel_rfl) (by kernel_rfl) (by kernel_rfl) (fun _ _ _ h => h) (by rfl) (by assumption) ?hy13pb ?hn13pb
        case hy13pb => (intro w hSw; (try dsimp only at hSw); go_simp; try with_reducible rfl)
        try simp only [Act.put, List.setIfInBounds_toArray, List.set_cons_zero, List.set_cons_succ]
        refine hTake (i := 14) (v := ?v14pb) (some 44) rfl rfl (by kernel_rfl) (by kernel_rfl) (by kernel_rfl) (fun _ _ _ h => h) (by rfl) (by assumption) ?hy14pb ?hn14pb
        case hy14pb => (intro w hSw; (try dsimp only at hSw); go_simp; try with_reducible rfl)
        try simp only [Act.put, List.setIfInBounds_toArray, List.set_cons_zero, List.set_cons_succ]
        refine hSkip (i := 15) (some 45) rfl rfl (by kernel_rfl) (by kernel_rfl) (by kernel_rfl) (fun _ _ _ h => h) (by rfl) (by assumption) ?_
        try simp only [Act.put, List.setIfInBounds_toArray, List.set_cons_zero, List.set_cons_succ]
        refine hSkip (i := 16) (some 46) rfl rfl (by kernel_rfl) (by kernel_rfl) (by kernel_rfl) (fun _ _ _ h => h) (by rfl) (by assumption) ?_
        try simp only [Act.put, List.setIfInBounds_toArray, List.set_cons_zero, List.set_cons_succ]
        refine hSkip (i := 17) (some 47) rfl rfl (by kernel_rfl) (by kernel_rfl) (by kernel_rfl) (fun _ _ _ h => h) (by rfl) (by assumption) ?_
        try simp only [Act.put, List.setIfInBounds_toArray, List.set_cons_zero, List.set_cons_succ]
        refine hSkip (i := 18) (some 48) rfl rfl (by kernel_rfl) (by kernel_rfl) (by kernel_rfl) (fun _ _ _ h => h) (by rfl) (by assumption) ?_
        try simp only [Act.put, List.setIfInBounds_toArray, List.set_cons_zero, List.set_cons_succ]
        refine hTake (i := 19) (v := ?v19pb) (some 49) rfl rfl (by kernel_rfl) (by kernel_rfl) (by kernel_rfl) (fun _ _ _ h => h) (by rfl) (by assumption) ?hy19pb ?hn19pb
        case hy19pb => (intro w hSw; (try dsimp only at hSw); go_simp; try with_reducible rfl)
        try simp only [Act.put, List.setIfInBounds_toArray, List.set_cons_zero, List.set_cons_succ]
        refine hTake (i := 20) (v := ?v20pb) (some 50) rfl rfl (by kernel_rfl) (by kernel_rfl) (by kernel_rfl) (fun _ _ _ h => h) (by rfl) (by assumption) ?hy20pb ?hn20pb
        case hy20pb => (intro w hSw; (try dsimp only at hSw); go_simp; try with_reducible rfl)
        try simp only [Act.put, List.setIfInBounds_toArray, List.set_cons_zero, List.set_cons_succ]
        refine hSkip (i := 21) (some 51) rfl rfl (by kernel_rfl) (by kernel_rfl) (by kernel_rfl) (fun _ _ _ h => h) (by rfl) (by assumption) ?_
        try simp only [Act.put, List.setIfInBounds_toArray, List.set_cons_zero, List.set_cons_succ]
        refine hSkip (i := 22) (some 52) rfl rfl (by kernel_rfl) (by kernel_rfl) (by kernel_rfl) (fun _ _ _ h => h) (by rfl) (by assumption) ?_
        try simp only [Act.put, List.setIfInBounds_toArray, List.set_cons_zero, List.set_cons_succ]
        refine hSkip (i := 23) (some 53) rfl rfl (by kernel_rfl) (by kernel_rfl) (by kernel_rfl) (fun _ _ _ h => h) (by rfl) (by assumption) ?_
        try simp only [Act.put, List.setIfInBounds_toArray, List.set_cons_zero, List.set_cons_succ]
        refine hSkip (i := 24) (some 54) rfl rfl (by kernel_rfl) (by kernel_rfl) (by kernel_rfl) (fun _ _ _ h => h) (by rfl) (by assumption) ?_
        try simp only [Act.put, List.setIfInBounds_toArray, List.set_cons_zero, List.set_cons_succ]
        refine hSkip (i := 25) (some 55) rfl rfl (by kernel_rfl) (by kernel_rfl) (by kernel_rfl) (fun _ _ _ h => h) (by rfl) (by assumption) ?_
        try simp only [Act.put, List.setIfInBounds_toArray, List.set_cons_zero, List.set_cons_succ]
        refine hSkip (i := 26) (some 56) rfl rfl (by kernel_rfl) (by kernel_rfl) (by kernel_rfl) (fun _ _ _ h => h) (by rfl) (by assumption) ?_
        try simp only [Act.put, List.setIfInBounds_toArray, List.set_cons_zero, List.set_cons_succ]
        refine hSkip (i := 27) (some 57) rfl rfl (by kernel_rfl) (by kernel_rfl) (by kernel_rfl) (fun _ _ _ h => h) (by rfl) (by assumption) ?_
        try simp only [Act.put, List.setIfInBounds_toArray, List.set_cons_zero, List.set_cons_succ]
        refine hSkip (i := 28) (some 58) rfl rfl (by kernel_rfl) (by kernel_rfl) (by kernel_rfl) (fun _ _ _ h => h) (by rfl) (by assumption) ?_
        try simp only [Act.put, List.setIfInBounds_toArray, List.set_cons_zero, List.set_cons_succ]
        refine hTake (i := 29) (v := ?v29pb) (some 59) rfl rfl (by kernel_rfl) (by kernel_rfl) (by kernel_rfl) (fun _ _ _ h => h) (by rfl) (by assumption) ?hy29pb ?hn29pb
        case hy29pb => (intro w hSw; (try dsimp only at hSw); go_simp; try with_reducible rfl)
        try simp only [Act.put, List.setIfInBounds_toArray, List.set_cons_zero, List.set_cons_succ]
        refine wpAnyH_done (by kernel_rfl) ?_ _
        go_wp2
        go_roundw
        case rel => exact ⟨k + 1, m, dn, by omega, by omega, by simp, hide ⟨HK2.out, HOW.out, HI.out.2.2.1, HRR.out⟩⟩
        case measure => simp [intOf]; omega
      · have HNE : Hid (¬ prevK l k = some x1.toList) := hide (by rw [hpv]; intro e; exact hyx (Option.some.inj e))
        have hqb : (y1.toList == x1.toList) = false := by simpa using hyx
        clear hp hpv hki hk0 hyx
        have HNXT : Hid (R = dn ++ ((item l fr to t ⟨x1, x2, x3, x4⟩).toList ++ scanF l fr to t (prevK l (k + 1)) (l.drop (k + 1)))) := hide (by
          have h := HST.out
          rw [if_neg HNE.out] at h
          rw [← h]
          exact HI.out.2.2.2)
        have HS0 : Hid (inSpan fr to x1 = (!Op.bytesLess x1.toList fr.toList && (to.toList.isEmpty || Op.bytesLess x1.toList to.toList))) := hide rfl
        have HX0 := hide hX0
        have HN1 := hide hN1
        clear hN1
        cases hf : Op.bytesLess x1.toList fr.toList
        · by_cases hte : to.toList = []
          · have HSP : Hid (inSpan fr to x1 = true) := hide (by rw [HS0.out, hf, hte]; rfl)
            have hte2 : (to.toList == ([] : List UInt8)) = true := by simpa using hte
            clear hN0 hX0
            go_wp2_with fail
            refine wp_region_held_drew (S := (fun W : World => W.cell? ⟨w.heap.size, 0, none⟩ = some (.slice (some ⟨b, off, none⟩) len cap) ∧ W.cell? ⟨wr.heap.size, 0, none⟩ = some (.string x1) ∧ W.cell? ⟨b, off + i * 4, none⟩ = some (.string y1))) (by kernel_rfl) ?hScx (fun hHeld => ?_)
            case hScx => exact HS.out
            refine hTake (i := 0) (v := ?v0cx) (some 30) rfl rfl (by kernel_rfl) (by kernel_rfl) (by kernel_rfl) (fun _ _ _ h => h) (by rfl) (by assumption) ?hy0cx ?hn0cx
            case hy0cx => (intro w hSw; (try dsimp only at hSw); go_simp; try with_reducible rfl)
            try simp only [Act.put, List.setIfInBounds_toArray, List.set_cons_zero, List.set_cons_succ]
            refine hTake (i := 1) (v := ?v1cx) (some 31) rfl rfl (by kernel_rfl) (by kernel_rfl) (by kernel_rfl) (fun _ _ _ h => h) (by rfl) (by assumption) ?hy1cx ?hn1cx
            case hy1cx => (intro w hSw; (try dsimp only at hSw); go_simp; try with_reducible rfl)
            try simp only [Act.put, List.setIfInBounds_toArray, List.set_cons_zero, List.set_cons_succ]
            refine hTake (i := 2) (v := ?v2cx) (some 32) rfl rfl (by kernel_rfl) (by kernel_rfl) (by kernel_rfl) (fun _ _ _ h => h) (by rfl) (by assumption) ?hy2cx ?hn2cx
            case hy2cx => (intro w hSw; (try dsimp only at hSw); go_simp; try with_reducible rfl)
            try simp only [Act.put, List.setIfInBounds_toArray, List.set_cons_zero, List.set_cons_succ]
            refine hTake (i := 3) (v := ?v3cx) (some 33) rfl rfl (by kernel_rfl) (by kernel_rfl) (by kernel_rfl) (fun _ _ _ h => h) (by rfl) (by assumption) ?hy3cx ?hn3cx
            case hy3cx => (intro w hSw; (try dsimp only at hSw); go_simp; try with_reducible rfl)
            try simp only [Act.put, List.setIfInBounds_toArray, List.set_cons_zero, List.set_cons_succ]
            refine hTake (i := 4) (v := ?v4cx) (some 34) rfl rfl (by kernel_rfl) (by kernel_rfl) (by kernel_rfl) (fun _ _ _ h => h) (by rfl) (by assumption) ?hy4cx ?hn4cx
            case hy4cx => (intro w hSw; (try dsimp only at hSw); go_simp; try with_reducible rfl)
            try simp only [Act.put, List.setIfInBounds_toArray, List.set_cons_zero, List.set_cons_succ]
            refine hTake (i := 5) (v := ?v5cx) (some 35) rfl rfl (by kernel_rfl) (by kernel_rfl) (by kernel_rfl) (fun _ _ _ h => h) (by rfl) (by assumption) ?hy5cx ?hn5cx
            case hy5cx => (intro w hSw; (try dsimp only at hSw); go_simp; try with_reducible rfl)
            try simp only [Act.put, List.setIfInBounds_toArray, List.set_cons_zero, List.set_cons_succ]
            refine hTake (i := 6) (v := ?v6cx) (some 36) rfl rfl (by kernel_rfl) (by kernel_rfl) (by kernel_rfl) (fun _ _ _ h => h) (by rfl) (by assumption) ?hy6cx ?hn6cx
            case hy6cx => (intro w hSw; (try dsimp only at hSw); go_simp; try with_reducible rfl)
            try simp only [Act.put, List.setIfInBounds_toArray, List.set_cons_zero, List.set_cons_succ]
            refine hTake (i := 7) (v := ?v7cx) (some 37) rfl rfl (by kernel_rfl) (by kernel_rfl) (by kernel_rfl) (fun _ _ _ h => h) (by rfl) (by assumption) ?hy7cx ?hn7cx
            case hy7cx => (intro w hSw; (try dsimp only at hSw); go_simp; try with_reducible rfl)
            try simp only [Act.put, List.setIfInBounds_toArray, List.set_cons_zero, List.set_cons_succ]
            refine hTake (i := 8) (v := ?v8cx) (some 38) rfl rfl (by kernel_rfl) (by kernel_rfl) (by kernel_rfl) (fun _ _ _ h => h) (by rfl) (by assumption) ?hy8cx ?hn8cx
            case hy8cx => (intro w hSw; (try dsimp only at hSw); go_simp; try with_reducible rfl)
            try simp only [Act.put, List.setIfInBounds_toArray, List.set_cons_zero, List.set_cons_succ]
            refine hTake (i := 9) (v := ?v9cx) (some 39) rfl rfl (by kernel_rfl) (by kernel_rfl) (by kernel_rfl) (fun _ _ _ h => h) (by rfl) (by assumption) ?hy9cx ?hn9cx
            case hy9cx => (intro w hSw; (try dsimp only at hSw); go_simp; try with_reducible rfl)
            try simp only [Act.put, List.setIfInBounds_toArray, List.set_cons_zero, List.set_cons_succ]
            refine hTake (i := 10) (v := ?v10cx) (some 40) rfl rfl (by kernel_rfl) (by kernel_rfl) (by kernel_rfl) (fun _ _ _ h => h) (by rfl) (by assumption) ?hy10cx ?hn10cx
            case hy10cx => (intro w hSw; (try dsimp only at hSw); go_simp; try with_reducible rfl)
            try simp only [Act.put, List.setIfInBounds_toArray, List.set_cons_zero, List.set_cons_succ]
            refine hTake (i := 11) (v := ?v11cx) (some 41) rfl rfl (by kernel_rfl) (by kernel_rfl) (by kernel_rfl) (fun _ _ _ h => h) (by rfl) (by assumption) ?hy11cx ?hn11cx
            case hy11cx => (intro w hSw; (try dsimp only at hSw); go_simp; try with_reducible rfl)
            try simp only [Act.put, List.setIfInBounds_toArray, List.set_cons_zero, List.set_cons_succ]
            refine hTake (i := 12) (v := ?v12cx) (some 42) rfl rfl (by kernel_rfl) (by kernel_rfl) (by kernel_rfl) (fun _ _ _ h => h) (by rfl) (by assumption) ?hy12cx ?hn12cx
            case hy12cx => (intro w hSw; (try dsimp only at hSw); go_simp; try with_reducible rfl)
            try simp only [Act.put, List.setIfInBounds_toArray, List.set_cons_zero, List.set_cons_succ]
            refine hTake (i := 13) (v := ?v13cx) (some 43) rfl rfl (by kernel_rfl) (by kernel_rfl) (by kernel_rfl) (fun _ _ _ h => h) (by rfl) (by assumption) ?hy13cx ?hn13cx
            case hy13cx => (intro w hSw; (try dsimp only at hSw); go_simp; try with_reducible rfl)
            try simp only [Act.put, List.setIfInBounds_toArray, List.set_cons_zero, List.set_cons_succ]
            refine hTake (i := 14) (v := ?v14cx) (some 44) rfl rfl (by kernel_rfl) (by kernel_rfl) (by kernel_rfl) (fun _ _ _ h => h) (by rfl) (by assumption) ?hy14cx ?hn14cx
            case hy14cx => (intro w hSw; (try dsimp only at hSw); go_simp; try with_reducible rfl)
            try simp only [Act.put, List.setIfInBounds_toArray, List.set_cons_zero, List.set_cons_succ]
            refine hTake (i := 15) (v := ?v15cx) (some 45) rfl rfl (by kernel_rfl) (by kernel_rfl) (by kernel_rfl) (fun _ _ _ h => h) (by rfl) (by assumption) ?hy15cx ?hn15cx
            case hy15cx => (intro w hSw; (try dsimp only at hSw); go_simp; try with_reducible rfl)
            try simp only [Act.put, List.setIfInBounds_toArray, List.set_cons_zero, List.set_cons_succ]
            refine hTake (i := 16) (v := ?v16cx) (some 46) rfl rfl (by kernel_rfl) (by kernel_rfl) (by kernel_rfl) (fun _ _ _ h => h) (by rfl) (by assumption) ?hy16cx ?hn16cx
            case hy16cx => (intro w hSw; (try dsimp only at hSw); go_simp; try with_reducible rfl)
            try simp only [Act.put, List.setIfInBounds_toArray, List.set_cons_zero, List.set_cons_succ]
            refine hTake (i := 17) (v := ?v17cx) (some 47) rfl rfl (by kernel_rfl) (by kernel_rfl) (by kernel_rfl) (fun _ _ _ h => h) (by rfl) (by assumption) ?hy17cx ?hn17cx
            case hy17cx => (intro w hSw; (try dsimp only at hSw); go_simp; try with_reducible rfl)
            try simp only [Act.put, List.setIfInBounds_toArray, List.set_cons_zero, List.set_cons_succ]
            refine hTake (i := 18) (v := ?v18cx) (some 48) rfl rfl (by kernel_rfl) (by kernel_rfl) (by kernel_rfl) (fun _ _ _ h => h) (by rfl) (by assumption) ?hy18cx ?hn18cx
            case hy18cx => (intro w hSw; (try dsimp only at hSw); go_simp; try with_reducible rfl)
            try simp only [Act.put, List.setIfInBounds_toArray, List.set_cons_zero, List.set_cons_succ]
            refine hTake (i := 19) (v := ?v19cx) (some 49) rfl rfl (by kernel_rfl) (by kernel_rfl) (by kernel_rfl) (fun _ _ _ h => h) (by rfl) (by assumption) ?hy19cx ?hn19cx
            case hy19cx => (intro w hSw; (try dsimp only at hSw); go_simp; try with_reducible rfl)
            try simp only [Act.put, List.setIfInBounds_toArray, List.set_cons_zero, List.set_cons_succ]
            refine hTake (i := 20) (v := ?v20cx) (some 50) rfl rfl (by kernel_rfl) (by kernel_rfl) (by kernel_rfl) (fun _ _ _ h => h) (by rfl) (by assumption) ?hy20cx ?hn20cx
            case hy20cx => (intro w hSw; (try dsimp only at hSw); go_simp; try with_reducible rfl)
            try simp only [Act.put, List.setIfInBounds_toArray, List.set_cons_zero, List.set_cons_succ]
            refine hTake (i := 21) (v := ?v21cx) (some 51) rfl rfl (by kernel_rfl) (by kernel_rfl) (by kernel_rfl) (fun _ _ _ h => h) (by rfl) (by assumption) ?hy21cx ?hn21cx
            case hy21cx => (intro w hSw; (try dsimp only at hSw); go_simp; try with_reducible rfl)
            try simp only [Act.put, List.setIfInBounds_toArray, List.set_cons_zero, List.set_cons_succ]
            refine hTake (i := 22) (v := ?v22cx) (some 52) rfl rfl (by kernel_rfl) (by kernel_rfl) (by kernel_rfl) (fun _ _ _ h => h) (by rfl) (by assumption) ?hy22cx ?hn22cx
            case hy22cx => (intro w hSw; (try dsimp only at hSw); go_simp; try with_reducible rfl)
            try simp only [Act.put, List.setIfInBounds_toArray, List.set_cons_zero, List.set_cons_succ]
            refine hTake (i := 23) (v := ?v23cx) (some 53) rfl rfl (by kernel_rfl) (by kernel_rfl) (by kernel_rfl) (fun _ _ _ h => h) (by rfl) (by assumption) ?hy23cx ?hn23cx
            case hy23cx => (intro w hSw; (try dsimp only at hSw); go_simp; try with_reducible rfl)
            try simp only [Act.put, List.setIfInBounds_toArray, List.set_cons_zero, List.set_cons_succ]
            refine hSkip (i := 24) (some 54) rfl rfl (by kernel_rfl) (by kernel_rfl) (by kernel_rfl) (fun _ _ _ h => h) (by rfl) (by assumption) ?_
            try simp only [Act.put, List.setIfInBounds_toArray, List.set_cons_zero, List.set_cons_succ]
            refine hSkip (i := 25) (some 55) rfl rfl (by kernel_rfl) (by kernel_rfl) (by kernel_rfl) (fun _ _ _ h => h) (by rfl) (by assumption) ?_
            try simp only [Act.put, List.setIfInBounds_toArray, List.set_cons_zero, List.set_cons_succ]
            refine hSkip (i := 26) (some 56) rfl rfl (by kernel_rfl) (by kernel_rfl) (by kernel_rfl) (fun _ _ _ h => h) (by rfl) (by assumption) ?_
            try simp only [Act.put, List.setIfInBounds_toArray, List.set_cons_zero, List.set_cons_succ]
            refine hSkip (i := 27) (some 57) rfl rfl (by kernel_rfl) (by kernel_rfl) (by kernel_rfl) (fun _ _ _ h => h) (by rfl) (by assumption) ?_
            try simp only [Act.put, List.setIfInBounds_toArray, List.set_cons_zero, List.set_cons_succ]
            refine hTake (i := 28) (v := ?v28cx) (some 58) rfl rfl (by kernel_rfl) (by kernel_rfl) (by kernel_rfl) (fun _ _ _ h => h) (by rfl) (by assumption) ?hy28cx ?hn28cx
            case hy28cx => (intro w hSw; (try dsimp only at hSw); go_simp; try with_reducible rfl)
            try simp only [Act.put, List.setIfInBounds_toArray, List.set_cons_zero, List.set_cons_succ]
            refine hTake (i := 29) (v := ?v29cx) (some 59) rfl rfl (by kernel_rfl) (by kernel_rfl) (by kernel_rfl) (fun _ _ _ h => h) (by rfl) (by assumption) ?hy29cx ?hn29cx
            case hy29cx => (intro w hSw; (try dsimp only at hSw); go_simp; try with_reducible rfl)
            try simp only [Act.put, List.setIfInBounds_toArray, List.set_cons_zero, List.set_cons_succ]
            refine wpAnyH_done (by kernel_rfl) ?_ _
            have HGA := hide (rseen_any (some ⟨b, off, none⟩) len cap low t x1 l _ HVn.out)
            unfold item at HNXT
            dsimp only at HNXT
            generalize seenR (lastTo (l.filter (sameK x1)) t) = sr at *
            obtain ⟨sv, sb⟩ := sr
            dsimp only at HNXT HGA
            clear HST HPV HP0 HPR
            have hn1 := HN1.out
            go_wp2_with fail
            refine HGA.out.mono ?_
            rintro e w5 ⟨rfl, hb5⟩
            have HK5 := hide (HK2.out.trans (hb5.mono (Nat.le_trans HI.out.1.size HBN.out.size)))
            have HO5 : Hid (w5.ownsRow w2.heap.size 62 2 (.slice av m cv) m (dn.flatMap prc)) := hide (ownsRow_below2 HOW.out hb5)
            have HX5 : Hid (w5.cell? ⟨wr.heap.size, 0, none⟩ = some (.string x1)) := hide ((World.cell?_of_block (hb5.block _ (by simp [World.drew]))).trans HX0.out)
            have hx5 := HX5.out
            clear hb5 HGA hn1 HVn
            cases sb
            · have HRR : Hid (R = dn ++ scanF l fr to t (prevK l (k + 1)) (l.drop (k + 1))) := hide (by rw [HNXT.out]; simp)
              clear HNXT
              go_wp2
              go_roundw
              case rel => exact ⟨k + 1, m, dn, by omega, by omega, by simp, hide ⟨HK5.out, HO5.out, HI.out.2.2.1, HRR.out⟩⟩
              case measure => simp [intOf]; omega
            · have HRR : Hid (R = (dn ++ [(⟨x1, sv⟩ : Pr)]) ++ scanF l fr to t (prevK l (k + 1)) (l.drop (k + 1))) := hide (by rw [HNXT.out, if_pos ⟨rfl, HSP.out⟩]; simp)
              have HLL : Hid ((dn ++ [(⟨x1, sv⟩ : Pr)]).length = m + 1) := hide (by rw [List.length_append, HI.out.2.2.1]; rfl)
              have HBG : Hid ((m + 1) * 32 ≤ 140737488355328) := hide (by omega)
              have HSZ : Hid (w2.heap.size ≤ w5.heap.size) := hide HK5.out.size
              have HA5 : Hid (Below w2.heap.size w2 (w5.alloc (.cells #[.string x1, .string sv] 62))) := hide (HK5.out.trans ((Below.refl _ w5).alloc HSZ.out _))
              have HO6 : Hid ((w5.alloc (.cells #[.string x1, .string sv] 62)).ownsRow w2.heap.size 62 2 (.slice av m cv) m (dn.flatMap prc)) := hide (HO5.out.alloc _)
              have HNB : Hid ((w5.alloc (.cells #[.string x1, .string sv] 62)).heap[w5.heap.size]? = some (.cells #[.string x1, .string sv] 62 (0, 0))) := hide (heap_alloc_new _ _)
              have HS6 : Hid (w2.heap.size ≤ (w5.alloc (.cells #[.string x1, .string sv] 62)).heap.size) := hide HA5.out.size
              clear HNXT HO5
              go_wp2_with (at_builtin; refine wpList_pairs rfl _ _ rfl w2.heap.size (.slice av m cv) m dn rfl HO6.out w5.heap.size ⟨x1, sv⟩ rfl HNB.out HBG.out HS6.out ?_)
              intro v9 w9 HN
              have HN9 : Hid (Below w2.heap.size w2 w9 ∧ w9.ownsRow w2.heap.size 62 2 v9 (m + 1) ((dn ++ [(⟨x1, sv⟩ : Pr)]).flatMap prc)) := hide ⟨HA5.out.trans HN.out.2, by simpa using HN.out.1⟩
              obtain ⟨a9, c9, rfl⟩ := own_form HN9.out.2
              clear HN HA5 HO6 HNB
              go_wp2
              go_roundw
              case rel => exact ⟨k + 1, m + 1, _, by omega, by omega, by simp, hide ⟨HN9.out.1, HN9.out.2, HLL.out, HRR.out⟩⟩
              case measure => simp [intOf]; omega
          · have hte2 : (to.toList == ([] : List UInt8)) = false := by simpa using hte
            have hte3 : to.toList.isEmpty = false := by simpa using hte
            cases hl : Op.bytesLess x1.toList to.toList
            · have HSP : Hid (inSpan fr to x1 = false) := hide (by rw [HS0.out, hf, hte3, hl]; rfl)
              clear hN0 hX0
              go_wp2_with fail
              refine wp_region_held_drew (S := (fun W : World => W.cell? ⟨w.heap.size, 0, none⟩ = some (.slice (some ⟨b, off, none⟩) len cap) ∧ W.cell? ⟨wr.heap.size, 0, none⟩ = some (.string x1) ∧ W.cell? ⟨b, off + i * 4, none⟩ = some (.string y1))) (by kernel_rfl) ?hScy (fun hHeld => ?_)
              case hScy => exact HS.out
              refine hTake (i := 0) (v := ?v0cy) (some 30) rfl rfl (by kernel_rfl) (by kernel_rfl) (by kernel_rfl) (fun _ _ _ h => h) (by rfl) (by assumption) ?hy0cy ?hn0cy
              case hy0cy => (intro w hSw; (try dsimp only at hSw); go_simp; try with_reducible rfl)
              try simp only [Act.put, List.setIfInBounds_toArray, List.set_cons_zero, List.set_cons_succ]
              refine hTake (i := 1) (v := ?v1cy) (some 31) rfl rfl (by kernel_rfl) (by kernel_rfl) (by kernel_rfl) (fun _ _ _ h => h) (by rfl) (by assumption) ?hy1cy ?hn1cy
              case hy1cy => (intro w hSw; (try dsimp only at hSw); go_simp; try with_reducible rfl)
              try simp only [Act.put, List.setIfInBounds_toArray, List.set_cons_zero, List.set_cons_succ]
              refine hTake (i := 2) (v := ?v2cy) (some 32) rfl rfl (by kernel_rfl) (by kernel_rfl) (by kernel_rfl) (fun _ _ _ h => h) (by rfl) (by assumption) ?hy2cy ?hn2cy
              case hy2cy => (intro w hSw; (try dsimp only at hSw); go_simp; try with_reducible rfl)
              try simp only [Act.put, List.setIfInBounds_toArray, List.set_cons_zero, List.set_cons_succ]
              refine hTake (i := 3) (v := ?v3cy) (some 33) rfl rfl (by kernel_rfl) (by kernel_rfl) (by kernel_rfl) (fun _ _ _ h => h) (by rfl) (by assumption) ?hy3cy ?hn3cy
              case hy3cy => (intro w hSw; (try dsimp only at hSw); go_simp; try with_reducible rfl)
              try simp only [Act.put, List.setIfInBounds_toArray, List.set_cons_zero, List.set_cons_succ]
              refine hTake (i := 4) (v := ?v4cy) (some 34) rfl rfl (by kernel_rfl) (by kernel_rfl) (by kernel_rfl) (fun _ _ _ h => h) (by rfl) (by assumption) ?hy4cy ?hn4cy
              case hy4cy => (intro w hSw; (try dsimp only at hSw); go_simp; try with_reducible rfl)
              try simp only [Act.put, List.setIfInBounds_toArray, List.set_cons_zero, List.set_cons_succ]
              refine hTake (i := 5) (v := ?v5cy) (some 35) rfl rfl (by kernel_rfl) (by kernel_rfl) (by kernel_rfl) (fun _ _ _ h => h) (by rfl) (by assumption) ?hy5cy ?hn5cy
              case hy5cy => (intro w hSw; (try dsimp only at hSw); go_simp; try with_reducible rfl)
              try simp only [Act.put, List.setIfInBounds_toArray, List.set_cons_zero, List.set_cons_succ]
              refine hTake (i := 6) (v := ?v6cy) (some 36) rfl rfl (by kernel_rfl) (by kernel_rfl) (by kernel_rfl) (fun _ _ _ h => h) (by rfl) (by assumption) ?hy6cy ?hn6cy
              case hy6cy => (intro w hSw; (try dsimp only at hSw); go_simp; try with_reducible rfl)
              try simp only [Act.put, List.setIfInBounds_toArray, List.set_cons_zero, List.set_cons_succ]
              refine hTake (i := 7) (v := ?v7cy) (some 37) rfl rfl (by kernel_rfl) (by kernel_rfl) (by kernel_rfl) (fun _ _ _ h => h) (by rfl) (by assumption) ?hy7cy ?hn7cy
              case hy7cy => (intro w hSw; (try dsimp only at hSw); go_simp; try with_reducible rfl)
              try simp only [Act.put, List.setIfInBounds_toArray, List.set_cons_zero, List.set_cons_succ]
              refine hTake (i := 8) (v := ?v8cy) (some 38) rfl rfl (by kernel_rfl) (by kernel_rfl) (by kernel_rfl) (fun _ _ _ h => h) (by rfl) (by assumption) ?hy8cy ?hn8cy
              case hy8cy => (intro w hSw; (try dsimp only at hSw); go_simp; try with_reducible rfl)
              try simp only [Act.put, List.setIfInBounds_toArray, List.set_cons_zero, List.set_cons_succ]
              refine hTake (i := 9) (v := ?v9cy) (some 39) rfl rfl (by kernel_rfl) (by kernel_rfl) (by kernel_rfl) (fun _ _ _ h => h) (by rfl) (by assumption) ?hy9cy ?hn9cy
              case hy9cy => (intro w hSw; (try dsimp only at hSw); go_simp; try with_reducible rfl)
              try simp only [Act.put, List.setIfInBounds_toArray, List.set_cons_zero, List.set_cons_succ]
              refine hTake (i := 10) (v := ?v10cy) (some 40) rfl rfl (by kernel_rfl) (by kernel_rfl) (by kernel_rfl) (fun _ _ _ h => h) (by rfl) (by assumption) ?hy10cy ?hn10cy
              case hy10cy => (intro w hSw; (try dsimp only at hSw); go_simp; try with_reducible rfl)
              try simp only [Act.put, List.setIfInBounds_toArray, List.set_cons_zero, List.set_cons_succ]
              refine hTake (i := 11) (v := ?v11cy) (some 41) rfl rfl (by kernel_rfl) (by kernel_rfl) (by kernel_rfl) (fun _ _ _ h => h) (by rfl) (by assumption) ?hy11cy ?hn11cy
              case hy11cy => (intro w hSw; (try dsimp only at hSw); go_simp; try with_reducible rfl)
              try simp only [Act.put, List.setIfInBounds_toArray, List.set_cons_zero, List.set_cons_succ]
              refine hTake (i := 12) (v := ?v12cy) (some 42) rfl rfl (by kernel_rfl) (by kernel_rfl) (by kernel_rfl) (fun _ _ _ h => h) (by rfl) (by assumption) ?hy12cy ?hn12cy
              case hy12cy => (intro w hSw; (try dsimp only at hSw); go_simp; try with_reducible rfl)
              try simp only [Act.put, List.setIfInBounds_toArray, List.set_cons_zero, List.set_cons_succ]
              refine hTake (i := 13) (v := ?v13cy) (some 43) rfl rfl (by kernel_rfl) (by kernel_rfl) (by kernel_rfl) (fun _ _ _ h => h) (by rfl) (by assumption) ?hy13cy ?hn13cy
              case hy13cy => (intro w hSw; (try dsimp only at hSw); go_simp; try with_reducible rfl)
              try simp only [Act.put, List.setIfInBounds_toArray, List.set_cons_zero, List.set_cons_succ]
              refine hTake (i := 14) (v := ?v14cy) (some 44) rfl rfl (by kernel_rfl) (by kernel_rfl) (by kernel_rfl) (fun _ _ _ h => h) (by rfl) (by assumption) ?hy14cy ?hn14cy
              case hy14cy => (intro w hSw; (try dsimp only at hSw); go_simp; try with_reducible rfl)
              try simp only [Act.put, List.setIfInBounds_toArray, List.set_cons_zero, List.set_cons_succ]
              refine hTake (i := 15) (v := ?v15cy) (some 45) rfl rfl (by kernel_rfl) (by kernel_rfl) (by kernel_rfl) (fun _ _ _ h => h) (by rfl) (by assumption) ?hy15cy ?hn15cy
              case hy15cy => (intro w hSw; (try dsimp only at hSw); go_simp; try with_reducible rfl)
              try simp only [Act.put, List.setIfInBounds_toArray, List.set_cons_zero, List.set_cons_succ]
              refine hTake (i := 16) (v := ?v16cy) (some 46) rfl rfl (by kernel_rfl) (by kernel_rfl) (by kernel_rfl) (fun _ _ _ h => h) (by rfl) (by assumption) ?hy16cy ?hn16cy
              case hy16cy => (intro w hSw; (try dsimp only at hSw); go_simp; try with_reducible rfl)
              try simp only [Act.put, List.setIfInBounds_toArray, List.set_cons_zero, List.set_cons_succ]
              refine hTake (i := 17) (v := ?v17cy) (some 47) rfl rfl (by kernel_rfl) (by kernel_rfl) (by kernel_rfl) (fun _ _ _ h => h) (by rfl) (by assumption) ?hy17cy ?hn17cy
              case hy17cy => (intro w hSw; (try dsimp only at hSw); go_simp; try with_reducible rfl)
              try simp only [Act.put, List.setIfInBounds_toArray, List.set_cons_zero, List.set_cons_succ]
              refine hTake (i := 18) (v := ?v18cy) (some 48) rfl rfl (by kernel_rfl) (by kernel_rfl) (by kernel_rfl) (fun _ _ _ h => h) (by rfl) (by assumption) ?hy18cy ?hn18cy
              case hy18cy => (intro w hSw; (try dsimp only at hSw); go_simp; try with_reducible rfl)
              try simp only [Act.put, List.setIfInBounds_toArray, List.set_cons_zero, List.set_cons_succ]
              refine hTake (i := 19) (v := ?v19cy) (some 49) rfl rfl (by kernel_rfl) (by kernel_rfl) (by kernel_rfl) (fun _ _ _ h => h) (by rfl) (by assumption) ?hy19cy ?hn19cy
              case hy19cy => (intro w hSw; (try dsimp only at hSw); go_simp; try with_reducible rfl)
              try simp only [Act.put, List.setIfInBounds_toArray, List.set_cons_zero, List.set_cons_succ]
              refine hTake (i := 20) (v := ?v20cy) (some 50) rfl rfl (by kernel_rfl) (by kernel_rfl) (by kernel_rfl) (fun _ _ _ h => h) (by rfl) (by assumption) ?hy20cy ?hn20cy
              case hy20cy => (intro w hSw; (try dsimp only at hSw); go_simp; try with_reducible rfl)
              try simp only [Act.put, List.setIfInBounds_toArray, List.set_cons_zero, List.set_cons_succ]
              refine hTake (i := 21) (v := ?v21cy) (some 51) rfl rfl (by kernel_rfl) (by kernel_rfl) (by kernel_rfl) (fun _ _ _ h => h) (by rfl) (by assumption) ?hy21cy ?hn21cy
              case hy21cy => (intro w hSw; (try dsimp only at hSw); go_simp; try with_reducible rfl)
              try simp only [Act.put, List.setIfInBounds_toArray, List.set_cons_zero, List.set_cons_succ]
              refine hTake (i := 22) (v := ?v22cy) (some 52) rfl rfl (by kernel_rfl) (by kernel_rfl) (by kernel_rfl) (fun _ _ _ h => h) (by rfl) (by assumption) ?hy22cy ?hn22cy
              case hy22cy => (intro w hSw; (try dsimp only at hSw); go_simp; try with_reducible rfl)
              try simp only [Act.put, List.setIfInBounds_toArray, List.set_cons_zero, List.set_cons_succ]
              refine hTake (i := 23) (v := ?v23cy) (some 53) rfl rfl (by kernel_rfl) (by kernel_rfl) (by kernel_rfl) (fun _ _ _ h => h) (by rfl) (by assumption) ?hy23cy ?hn23cy
              case hy23cy => (intro w hSw; (try dsimp only at hSw); go_simp; try with_reducible rfl)
              try simp only [Act.put, List.setIfInBounds_toArray, List.set_cons_zero, List.set_cons_succ]
              refine hTake (i := 24) (v := ?v24cy) (some 54) rfl rfl (by kernel_rfl) (by kernel_rfl) (by kernel_rfl) (fun _ _ _ h => h) (by rfl) (by assumption) ?hy24cy ?hn24cy
              case hy24cy => (intro w hSw; (try dsimp only at hSw); go_simp; try with_reducible rfl)
              try simp only [Act.put, List.setIfInBounds_toArray, List.set_cons_zero, List.set_cons_succ]
              refine hTake (i := 25) (v := ?v25cy) (some 55) rfl rfl (by kernel_rfl) (by kernel_rfl) (by kernel_rfl) (fun _ _ _ h => h) (by rfl) (by assumption) ?hy25cy ?hn25cy
              case hy25cy => (intro w hSw; (try dsimp only at hSw); go_simp; try with_reducible rfl)
              try simp only [Act.put, List.setIfInBounds_toArray, List.set_cons_zero, List.set_cons_succ]
              refine hTake (i := 26) (v := ?v26cy) (some 56) rfl rfl (by kernel_rfl) (by kernel_rfl) (by kernel_rfl) (fun _ _ _ h => h) (by rfl) (by assumption) ?hy26cy ?hn26cy
              case hy26cy => (intro w hSw; (try dsimp only at hSw); go_simp; try with_reducible rfl)
              try simp only [Act.put, List.setIfInBounds_toArray, List.set_cons_zero, List.set_cons_succ]
              refine hTake (i := 27) (v := ?v27cy) (some 57) rfl rfl (by kernel_rfl) (by kernel_rfl) (by kernel_rfl) (fun _ _ _ h => h) (by rfl) (by assumption) ?hy27cy ?hn27cy
              case hy27cy => (intro w hSw; (try dsimp only at hSw); go_simp; try with_reducible rfl)
              try simp only [Act.put, List.setIfInBounds_toArray, List.set_cons_zero, List.set_cons_succ]
              refine hTake (i := 28) (v := ?v28cy) (some 58) rfl rfl (by kernel_rfl) (by kernel_rfl) (by kernel_rfl) (fun _ _ _ h => h) (by rfl) (by assumption) ?hy28cy ?hn28cy
              case hy28cy => (intro w hSw; (try dsimp only at hSw); go_simp; try with_reducible rfl)
              try simp only [Act.put, List.setIfInBounds_toArray, List.set_cons_zero, List.set_cons_succ]
              refine hTake (i := 29) (v := ?v29cy) (some 59) rfl rfl (by kernel_rfl) (by kernel_rfl) (by kernel_rfl) (fun _ _ _ h => h) (by rfl) (by assumption) ?hy29cy ?hn29cy
              case hy29cy => (intro w hSw; (try dsimp only at hSw); go_simp; try with_reducible rfl)
              try simp only [Act.put, List.setIfInBounds_toArray, List.set_cons_zero, List.set_cons_succ]
              refine wpAnyH_done (by kernel_rfl) ?_ _
              have HRR : Hid (R = dn ++ scanF l fr to t (prevK l (k + 1)) (l.drop (k + 1))) := hide (by rw [HNXT.out]; unfold item; rw [if_neg (fun h => by have h2 := h.2; rw [HSP.out] at h2; cases h2)]; rfl)
              clear HNXT HST HPV HP0 HPR HVn HN1
              go_wp2
              go_roundw
              case rel => exact ⟨k + 1, m, dn, by omega, by omega, by simp, hide ⟨HK2.out, HOW.out, HI.out.2.2.1, HRR.out⟩⟩
              case measure => simp [intOf]; omega
            · have HSP : Hid (inSpan fr to x1 = true) := hide (by rw [HS0.out, hf, hte3, hl]; rfl)
              clear hN0 hX0
              go_wp2_with fail
              refine wp_region_held_drew (S := (fun W : World => W.cell? ⟨w.heap.size, 0, none⟩ = some (.slice (some ⟨b, off, none⟩) len cap) ∧ W.cell? ⟨wr.heap.size, 0, none⟩ = some (.string x1) ∧ W.cell? ⟨b, off + i * 4, none⟩ = some (.string y1))) (by kernel_rfl) ?hScz (fun hHeld => ?_)
              case hScz => exact HS.out
              refine hTake (i := 0) (v := ?v0cz) (some 30) rfl rfl (by kernel_rfl) (by kernel_rfl) (by kernel_rfl) (fun _ _ _ h => h) (by rfl) (by assumption) ?hy0cz ?hn0cz
              case hy0cz => (intro w hSw; (try dsimp only at hSw); go_simp; try with_reducible rfl)
              try simp only [Act.put, List.setIfInBounds_toArray, List.set_cons_zero, List.set_cons_succ]
              refine hTake (i := 1) (v := ?v1cz) (some 31) rfl rfl (by kernel_rfl) (by kernel_rfl) (by kernel_rfl) (fun _ _ _ h => h) (by rfl) (by assumption) ?hy1cz ?hn1cz
              case hy1cz => (intro w hSw; (try dsimp only at hSw); go_simp; try with_reducible rfl)
              try simp only [Act.put, List.setIfInBounds_toArray, List.set_cons_zero, List.set_cons_succ]
              refine hTake (i := 2) (v := ?v2cz) (some 32) rfl rfl (by kernel_rfl) (by kernel_rfl) (by kernel_rfl) (fun _ _ _ h => h) (by rfl) (by assumption) ?hy2cz ?hn2cz
              case hy2cz => (intro w hSw; (try dsimp only at hSw); go_simp; try with_reducible rfl)
              try simp only [Act.put, List.setIfInBounds_toArray, List.set_cons_zero, List.set_cons_succ]
              refine hTake (i := 3) (v := ?v3cz) (some 33) rfl rfl (by kernel_rfl) (by kernel_rfl) (by kernel_rfl) (fun _ _ _ h => h) (by rfl) (by assumption) ?hy3cz ?hn3cz
              case hy3cz => (intro w hSw; (try dsimp only at hSw); go_simp; try with_reducible rfl)
              try simp only [Act.put, List.setIfInBounds_toArray, List.set_cons_zero, List.set_cons_succ]
              refine hTake (i := 4) (v := ?v4cz) (some 34) rfl rfl (by kernel_rfl) (by kernel_rfl) (by kernel_rfl) (fun _ _ _ h => h) (by rfl) (by assumption) ?hy4cz ?hn4cz
              case hy4cz => (intro w hSw; (try dsimp only at hSw); go_simp; try with_reducible rfl)
              try simp only [Act.put, List.setIfInBounds_toArray, List.set_cons_zero, List.set_cons_succ]
              refine hTake (i := 5) (v := ?v5cz) (some 35) rfl rfl (by kernel_rfl) (by kernel_rfl) (by kernel_rfl) (fun _ _ _ h => h) (by rfl) (by assumption) ?hy5cz ?hn5cz
              case hy5cz => (intro w hSw; (try dsimp only at hSw); go_simp; try with_reducible rfl)
              try simp only [Act.put, List.setIfInBounds_toArray, List.set_cons_zero, List.set_cons_succ]
              refine hTake (i := 6) (v := ?v6cz) (some 36) rfl rfl (by kernel_rfl) (by kernel_rfl) (by kernel_rfl) (fun _ _ _ h => h) (by rfl) (by assumption) ?hy6cz ?hn6cz
              case hy6cz => (intro w hSw; (try dsimp only at hSw); go_simp; try with_reducible rfl)
              try simp only [Act.put, List.setIfInBounds_toArray, List.set_cons_zero, List.set_cons_succ]
              refine hTake (i := 7) (v := ?v7cz) (some 37) rfl rfl (by kernel_rfl) (by kernel_rfl) (by kernel_rfl) (fun _ _ _ h => h) (by rfl) (by assumption) ?hy7cz ?hn7cz
              case hy7cz => (intro w hSw; (try dsimp only at hSw); go_simp; try with_reducible rfl)
              try simp only [Act.put, List.setIfInBounds_toArray, List.set_cons_zero, List.set_cons_succ]
              refine hTake (i := 8) (v := ?v8cz) (some 38) rfl rfl (by kernel_rfl) (by kernel_rfl) (by kernel_rfl) (fun _ _ _ h => h) (by rfl) (by assumption) ?hy8cz ?hn8cz
              case hy8cz => (intro w hSw; (try dsimp only at hSw); go_simp; try with_reducible rfl)
              try simp only [Act.put, List.setIfInBounds_toArray, List.set_cons_zero, List.set_cons_succ]
              refine hTake (i := 9) (v := ?v9cz) (some 39) rfl rfl (by kernel_rfl) (by kernel_rfl) (by kernel_rfl) (fun _ _ _ h => h) (by rfl) (by assumption) ?hy9cz ?hn9cz
              case hy9cz => (intro w hSw; (try dsimp only at hSw); go_simp; try with_reducible rfl)
              try simp only [Act.put, List.setIfInBounds_toArray, List.set_cons_zero, List.set_cons_succ]
              refine hTake (i := 10) (v := ?v10cz) (some 40) rfl rfl (by kernel_rfl) (by kernel_rfl) (by kernel_rfl) (fun _ _ _ h => h) (by rfl) (by assumption) ?hy10cz ?hn10cz
              case hy10cz => (intro w hSw; (try dsimp only at hSw); go_simp; try with_reducible rfl)
              try simp only [Act.put, List.setIfInBounds_toArray, List.set_cons_zero, List.set_cons_succ]
              refine hTake (i := 11) (v := ?v11cz) (some 41) rfl rfl (by kernel_rfl) (by kernel_rfl) (by kernel_rfl) (fun _ _ _ h => h) (by rfl) (by assumption) ?hy11cz ?hn11cz
              case hy11cz => (intro w hSw; (try dsimp only at hSw); go_simp; try with_reducible rfl)
              try simp only [Act.put, List.setIfInBounds_toArray, List.set_cons_zero, List.set_cons_succ]
              refine hTake (i := 12) (v := ?v12cz) (some 42) rfl rfl (by kernel_rfl) (by kernel_rfl) (by kernel_rfl) (fun _ _ _ h => h) (by rfl) (by assumption) ?hy12cz ?hn12cz
              case hy12cz => (intro w hSw; (try dsimp only at hSw); go_simp; try with_reducible rfl)
              try simp only [Act.put, List.setIfInBounds_toArray, List.set_cons_zero, List.set_cons_succ]
              refine hTake (i := 13) (v := ?v13cz) (some 43) rfl rfl (by kernel_rfl) (by kernel_rfl) (by kernel_rfl) (fun _ _ _ h => h) (by rfl) (by assumption) ?hy13cz ?hn13cz
              case hy13cz => (intro w hSw; (try dsimp only at hSw); go_simp; try with_reducible rfl)
              try simp only [Act.put, List.setIfInBounds_toArray, List.set_cons_zero, List.set_cons_succ]
              refine hTake (i := 14) (v := ?v14cz) (some 44) rfl rfl (by kernel_rfl) (by kernel_rfl) (by kernel_rfl) (fun _ _ _ h => h) (by rfl) (by assumption) ?hy14cz ?hn14cz
              case hy14cz => (intro w hSw; (try dsimp only at hSw); go_simp; try with_reducible rfl)
              try simp only [Act.put, List.setIfInBounds_toArray, List.set_cons_zero, List.set_cons_succ]
              refine hTake (i := 15) (v := ?v15cz) (some 45) rfl rfl (by kernel_rfl) (by kernel_rfl) (by kernel_rfl) (fun _ _ _ h => h) (by rfl) (by assumption) ?hy15cz ?hn15cz
              case hy15cz => (intro w hSw; (try dsimp only at hSw); go_simp; try with_reducible rfl)
              try simp only [Act.put, List.setIfInBounds_toArray, List.set_cons_zero, List.set_cons_succ]
              refine hTake (i := 16) (v := ?v16cz) (some 46) rfl rfl (by kernel_rfl) (by kernel_rfl) (by kernel_rfl) (fun _ _ _ h => h) (by rfl) (by assumption) ?hy16cz ?hn16cz
              case hy16cz => (intro w hSw; (try dsimp only at hSw); go_simp; try with_reducible rfl)
              try simp only [Act.put, List.setIfInBounds_toArray, List.set_cons_zero, List.set_cons_succ]
              refine hTake (i := 17) (v := ?v17cz) (some 47) rfl rfl (by kernel_rfl) (by kernel_rfl) (by kernel_rfl) (fun _ _ _ h => h) (by rfl) (by assumption) ?hy17cz ?hn17cz
              case hy17cz => (intro w hSw; (try dsimp only at hSw); go_simp; try with_reducible rfl)
              try simp only [Act.put, List.setIfInBounds_toArray, List.set_cons_zero, List.set_cons_succ]
              refine hTake (i := 18) (v := ?v18cz) (some 48) rfl rfl (by kernel_rfl) (by kernel_rfl) (by kernel_rfl) (fun _ _ _ h => h) (by rfl) (by assumption) ?hy18cz ?hn18cz
              case hy18cz => (intro w hSw; (try dsimp only at hSw); go_simp; try with_reducible rfl)
              try simp only [Act.put, List.setIfInBounds_toArray, List.set_cons_zero, List.set_cons_succ]
              refine hTake (i := 19) (v := ?v19cz) (some 49) rfl rfl (by kernel_rfl) (by kernel_rfl) (by kernel_rfl) (fun _ _ _ h => h) (by rfl) (by assumption) ?hy19cz ?hn19cz
              case hy19cz => (intro w hSw; (try dsimp only at hSw); go_simp; try with_reducible rfl)
              try simp only [Act.put, List.setIfInBounds_toArray, List.set_cons_zero, List.set_cons_succ]
              refine hTake (i := 20) (v := ?v20cz) (some 50) rfl rfl (by kernel_rfl) (by kernel_rfl) (by kernel_rfl) (fun _ _ _ h => h) (by rfl) (by assumption) ?hy20cz ?hn20cz
              case hy20cz => (intro w hSw; (try dsimp only at hSw); go_simp; try with_reducible rfl)
              try simp only [Act.put, List.setIfInBounds_toArray, List.set_cons_zero, List.set_cons_succ]
              refine hTake (i := 21) (v := ?v21cz) (some 51) rfl rfl (by kernel_rfl) (by kernel_rfl) (by kernel_rfl) (fun _ _ _ h => h) (by rfl) (by assumption) ?hy21cz ?hn21cz
              case hy21cz => (intro w hSw; (try dsimp only at hSw); go_simp; try with_reducible rfl)
              try simp only [Act.put, List.setIfInBounds_toArray, List.set_cons_zero, List.set_cons_succ]
              refine hTake (i := 22) (v := ?v22cz) (some 52) rfl rfl (by kernel_rfl) (by kernel_rfl) (by kernel_rfl) (fun _ _ _ h => h) (by rfl) (by assumption) ?hy22cz ?hn22cz
              case hy22cz => (intro w hSw; (try dsimp only at hSw); go_simp; try with_reducible rfl)
              try simp only [Act.put, List.setIfInBounds_toArray, List.set_cons_zero, List.set_cons_succ]
              refine hTake (i := 23) (v := ?v23cz) (some 53) rfl rfl (by kernel_rfl) (by kernel_rfl) (by kernel_rfl) (fun _ _ _ h => h) (by rfl) (by assumption) ?hy23cz ?hn23cz
              case hy23cz => (intro w hSw; (try dsimp only at hSw); go_simp; try with_reducible rfl)
              try simp only [Act.put, List.setIfInBounds_toArray, List.set_cons_zero, List.set_cons_succ]
              refine hTake (i := 24) (v := ?v24cz) (some 54) rfl rfl (by kernel_rfl) (by kernel_rfl) (by kernel_rfl) (fun _ _ _ h => h) (by rfl) (by assumption) ?hy24cz ?hn24cz
              case hy24cz => (intro w hSw; (try dsimp only at hSw); go_simp; try with_reducible rfl)
              try simp only [Act.put, List.setIfInBounds_toArray, List.set_cons_zero, List.set_cons_succ]
              refine hTake (i := 25) (v := ?v25cz) (some 55) rfl rfl (by kernel_rfl) (by kernel_rfl) (by kernel_rfl) (fun _ _ _ h => h) (by rfl) (by assumption) ?hy25cz ?hn25cz
              case hy25cz => (intro w hSw; (try dsimp only at hSw); go_simp; try with_reducible rfl)
              try simp only [Act.put, List.setIfInBounds_toArray, List.set_cons_zero, List.set_cons_succ]
              refine hTake (i := 26) (v := ?v26cz) (some 56) rfl rfl (by kernel_rfl) (by kernel_rfl) (by kernel_rfl) (fun _ _ _ h => h) (by rfl) (by assumption) ?hy26cz ?hn26cz
              case hy26cz => (intro w hSw; (try dsimp only at hSw); go_simp; try with_reducible rfl)
              try simp only [Act.put, List.setIfInBounds_toArray, List.set_cons_zero, List.set_cons_succ]
              refine hTake (i := 27) (v := ?v27cz) (some 57) rfl rfl (by kernel_rfl) (by kernel_rfl) (by kernel_rfl) (fun _ _ _ h => h) (by rfl) (by assumption) ?hy27cz ?hn27cz
              case hy27cz => (intro w hSw; (try dsimp only at hSw); go_simp; try with_reducible rfl)
              try simp only [Act.put, List.setIfInBounds_toArray, List.set_cons_zero, List.set_cons_succ]
              refine hTake (i := 28) (v := ?v28cz) (some 58) rfl rfl (by kernel_rfl) (by kernel_rfl) (by kernel_rfl) (fun _ _ _ h => h) (by rfl) (by assumption) ?hy28cz ?hn28cz
              case hy28cz => (intro w hSw; (try dsimp only at hSw); go_simp; try with_reducible rfl)
              try simp only [Act.put, List.setIfInBounds_toArray, List.set_cons_zero, List.set_cons_succ]
              refine hTake (i := 29) (v := ?v29cz) (some 59) rfl rfl (by kernel_rfl) (by kernel_rfl) (by kernel_rfl) (fun _ _ _ h => h) (by rfl) (by assumption) ?hy29cz ?hn29cz
              case hy29cz => (intro w hSw; (try dsimp only at hSw); go_simp; try with_reducible rfl)
              try simp only [Act.put, List.setIfInBounds_toArray, List.set_cons_zero, List.set_cons_succ]
              refine wpAnyH_done (by kernel_rfl) ?_ _
              have HGA := hide (rseen_any (some ⟨b, off, none⟩) len cap low t x1 l _ HVn.out)
              unfold item at HNXT
              dsimp only at HNXT
              generalize seenR (lastTo (l.filter (sameK x1)) t) = sr at *
              obtain ⟨sv, sb⟩ := sr
              dsimp only at HNXT HGA
              clear HST HPV HP0 HPR
              have hn1 := HN1.out
              go_wp2_with fail
              refine HGA.out.mono ?_
              rintro e w5 ⟨rfl, hb5⟩
              have HK5 := hide (HK2.out.trans (hb5.mono (Nat.le_trans HI.out.1.size HBN.out.size)))
              have HO5 : Hid (w5.ownsRow w2.heap.size 62 2 (.slice av m cv) m (dn.flatMap prc)) := hide (ownsRow_below2 HOW.out hb5)
              have HX5 : Hid (w5.cell? ⟨wr.heap.size, 0, none⟩ = some (.string x1)) := hide ((World.cell?_of_block (hb5.block _ (by simp [World.drew]))).trans HX0.out)
              have hx5 := HX5.out
              clear hb5 HGA hn1 HVn
              cases sb
              · have HRR : Hid (R = dn ++ scanF l fr to t (prevK l (k + 1)) (l.drop (k + 1))) := hide (by rw [HNXT.out]; simp)
                clear HNXT
                go_wp2
                go_roundw
                case rel => exact ⟨k + 1, m, dn, by omega, by omega, by simp, hide ⟨HK5.out, HO5.out, HI.out.2.2.1, HRR.out⟩⟩
                case measure => simp [intOf]; omega
              · have HRR : Hid (R = (dn ++ [(⟨x1, sv⟩ : Pr)]) ++ scanF l fr to t (prevK l (k + 1)) (l.drop (k + 1))) := hide (by rw [HNXT.out, if_pos ⟨rfl, HSP.out⟩]; simp)
                have HLL : Hid ((dn ++ [(⟨x1, sv⟩ : Pr)]).length = m + 1) := hide (by rw [List.length_append, HI.out.2.2.1]; rfl)
                have HBG : Hid ((m + 1) * 32 ≤ 140737488355328) := hide (by omega)
                have HSZ : Hid (w2.heap.size ≤ w5.heap.size) := hide HK5.out.size
                have HA5 : Hid (Below w2.heap.size w2 (w5.alloc (.cells #[.string x1, .string sv] 62))) := hide (HK5.out.trans ((Below.refl _ w5).alloc HSZ.out _))
                have HO6 : Hid ((w5.alloc (.cells #[.string x1, .string sv] 62)).ownsRow w2.heap.size 62 2 (.slice av m cv) m (dn.flatMap prc)) := hide (HO5.out.alloc _)
                have HNB : Hid ((w5.alloc (.cells #[.string x1, .string sv] 62)).heap[w5.heap.size]? = some (.cells #[.string x1, .string sv] 62 (0, 0))) := hide (heap_alloc_new _ _)
                have HS6 : Hid (w2.heap.size ≤ (w5.alloc (.cells #[.string x1, .string sv] 62)).heap.size) := hide HA5.out.size
                clear HNXT HO5
                go_wp2_with (at_builtin; refine wpList_pairs rfl _ _ rfl w2.heap.size (.slice av m cv) m dn rfl HO6.out w5.heap.size ⟨x1, sv⟩ rfl HNB.out HBG.out HS6.out ?_)
                intro v9 w9 HN
                have HN9 : Hid (Below w2.heap.size w2 w9 ∧ w9.ownsRow w2.heap.size 62 2 v9 (m + 1) ((dn ++ [(⟨x1, sv⟩ : Pr)]).flatMap prc)) := hide ⟨HA5.out.trans HN.out.2, by simpa using HN.out.1⟩
                obtain ⟨a9, c9, rfl⟩ := own_form HN9.out.2
                clear HN HA5 HO6 HNB
                go_wp2
                go_roundw
                case rel => exact ⟨k + 1, m + 1, _, by omega, by omega, by simp, hide ⟨HN9.out.1, HN9.out.2, HLL.out, HRR.out⟩⟩
                case measure => simp [intOf]; omega
        · have HSP : Hid (inSpan fr to x1 = false) := hide (by rw [HS0.out, hf]; rfl)
          clear hN0 hX0
          go_wp2_with fail
          refine wp_region_held_drew (S := (fun W : World => W.cell? ⟨w.heap.size, 0, none⟩ = some (.slice (some ⟨b, off, none⟩) len cap) ∧ W.cell? ⟨wr.heap.size, 0, none⟩ = some (.string x1) ∧ W.cell? ⟨b, off + i * 4, none⟩ = some (.string y1))) (by kernel_rfl) ?hScv (fun hHeld => ?_)
          case hScv => exact HS.out
          refine hTake (i := 0) (v := ?v0cv) (some 30) rfl rfl (by kernel_rfl) (by kernel_rfl) (by kernel_rfl) (fun _ _ _ h => h) (by rfl) (by assumption) ?hy0cv ?hn0cv
          case hy0cv => (intro w hSw; (try dsimp only at hSw); go_simp; try with_reducible rfl)
          try simp only [Act.put, List.setIfInBounds_toArray, List.set_cons_zero, List.set_cons_succ]
          refine hTake (i := 1) (v := ?v1cv) (some 31) rfl rfl (by kernel_rfl) (by kernel_rfl) (by kernel_rfl) (fun _ _ _ h => h) (by rfl) (by assumption) ?hy1cv ?hn1cv
          case hy1cv => (intro w hSw; (try dsimp only at hSw); go_simp; try with_reducible rfl)
          try simp only [Act.put, List.setIfInBounds_toArray, List.set_cons_zero, List.set_cons_succ]
          refine hTake (i := 2) (v := ?v2cv) (some 32) rfl rfl (by kernel_rfl) (by kernel_rfl) (by kernel_rfl) (fun _ _ _ h => h) (by rfl) (by assumption) ?hy2cv ?hn2cv
          case hy2cv => (intro w hSw; (try dsimp only at hSw); go_simp; try with_reducible rfl)
          try simp only [Act.put, List.setIfInBounds_toArray, List.set_cons_zero, List.set_cons_succ]
          refine hTake (i := 3) (v := ?v3cv) (some 33) rfl rfl (by kernel_rfl) (by kernel_rfl) (by kernel_rfl) (fun _ _ _ h => h) (by rfl) (by assumption) ?hy3cv ?hn3cv
          case hy3cv => (intro w hSw; (try dsimp only at hSw); go_simp; try with_reducible rfl)
          try simp only [Act.put, List.setIfInBounds_toArray, List.set_cons_zero, List.set_cons_succ]
          refine hTake (i := 4) (v := ?v4cv) (some 34) rfl rfl (by kernel_rfl) (by kernel_rfl) (by kernel_rfl) (fun _ _ _ h => h) (by rfl) (by assumption) ?hy4cv ?hn4cv
          case hy4cv => (intro w hSw; (try dsimp only at hSw); go_simp; try with_reducible rfl)
          try simp only [Act.put, List.setIfInBounds_toArray, List.set_cons_zero, List.set_cons_succ]
          refine hTake (i := 5) (v := ?v5cv) (some 35) rfl rfl (by kernel_rfl) (by kernel_rfl) (by kernel_rfl) (fun _ _ _ h => h) (by rfl) (by assumption) ?hy5cv ?hn5cv
          case hy5cv => (intro w hSw; (try dsimp only at hSw); go_simp; try with_reducible rfl)
          try simp only [Act.put, List.setIfInBounds_toArray, List.set_cons_zero, List.set_cons_succ]
          refine hTake (i := 6) (v := ?v6cv) (some 36) rfl rfl (by kernel_rfl) (by kernel_rfl) (by kernel_rfl) (fun _ _ _ h => h) (by rfl) (by assumption) ?hy6cv ?hn6cv
          case hy6cv => (intro w hSw; (try dsimp only at hSw); go_simp; try with_reducible rfl)
          try simp only [Act.put, List.setIfInBounds_toArray, List.set_cons_zero, List.set_cons_succ]
          refine hTake (i := 7) (v := ?v7cv) (some 37) rfl rfl (by kernel_rfl) (by kernel_rfl) (by kernel_rfl) (fun _ _ _ h => h) (by rfl) (by assumption) ?hy7cv ?hn7cv
          case hy7cv => (intro w hSw; (try dsimp only at hSw); go_simp; try with_reducible rfl)
          try simp only [Act.put, List.setIfInBounds_toArray, List.set_cons_zero, List.set_cons_succ]
          refine hTake (i := 8) (v := ?v8cv) (some 38) rfl rfl (by kernel_rfl) (by kernel_rfl) (by kernel_rfl) (fun _ _ _ h => h) (by rfl) (by assumption) ?hy8cv ?hn8cv
          case hy8cv => (intro w hSw; (try dsimp only at hSw); go_simp; try with_reducible rfl)
          try simp only [Act.put, List.setIfInBounds_toArray, List.set_cons_zero, List.set_cons_succ]
          refine hTake (i := 9) (v := ?v9cv) (some 39) rfl rfl (by kernel_rfl) (by kernel_rfl) (by kernel_rfl) (fun _ _ _ h => h) (by rfl) (by assumption) ?hy9cv ?hn9cv
          case hy9cv => (intro w hSw; (try dsimp only at hSw); go_simp; try with_reducible rfl)
          try simp only [Act.put, List.setIfInBounds_toArray, List.set_cons_zero, List.set_cons_succ]
          refine hTake (i := 10) (v := ?v10cv) (some 40) rfl rfl (by kernel_rfl) (by kernel_rfl) (by kernel_rfl) (fun _ _ _ h => h) (by rfl) (by assumption) ?hy10cv ?hn10cv
          case hy10cv => (intro w hSw; (try dsimp only at hSw); go_simp; try with_reducible rfl)
          try simp only [Act.put, List.setIfInBounds_toArray, List.set_cons_zero, List.set_cons_succ]
          refine hTake (i := 11) (v := ?v11cv) (some 41) rfl rfl (by kernel_rfl) (by kernel_rfl) (by kernel_rfl) (fun _ _ _ h => h) (by rfl) (by assumption) ?hy11cv ?hn11cv
          case hy11cv => (intro w hSw; (try dsimp only at hSw); go_simp; try with_reducible rfl)
          try simp only [Act.put, List.setIfInBounds_toArray, List.set_cons_zero, List.set_cons_succ]
          refine hTake (i := 12) (v := ?v12cv) (some 42) rfl rfl (by kernel_rfl) (by kernel_rfl) (by kernel_rfl) (fun _ _ _ h => h) (by rfl) (by assumption) ?hy12cv ?hn12cv
          case hy12cv => (intro w hSw; (try dsimp only at hSw); go_simp; try with_reducible rfl)
          try simp only [Act.put, List.setIfInBounds_toArray, List.set_cons_zero, List.set_cons_succ]
          refine hTake (i := 13) (v := ?v13cv) (some 43) rfl rfl (by kernel_rfl) (by kernel_rfl) (by kernel_rfl) (fun _ _ _ h => h) (by rfl) (by assumption) ?hy13cv ?hn13cv
          case hy13cv => (intro w hSw; (try dsimp only at hSw); go_simp; try with_reducible rfl)
          try simp only [Act.put, List.setIfInBounds_toArray, List.set_cons_zero, List.set_cons_succ]
          refine hTake (i := 14) (v := ?v14cv) (some 44) rfl rfl (by kernel_rfl) (by kernel_rfl) (by kernel_rfl) (fun _ _ _ h => h) (by rfl) (by assumption) ?hy14cv ?hn14cv
          case hy14cv => (intro w hSw; (try dsimp only at hSw); go_simp; try with_reducible rfl)
          try simp only [Act.put, List.setIfInBounds_toArray, List.set_cons_zero, List.set_cons_succ]
          refine hTake (i := 15) (v := ?v15cv) (some 45) rfl rfl (by kernel_rfl) (by kernel_rfl) (by kernel_rfl) (fun _ _ _ h => h) (by rfl) (by assumption) ?hy15cv ?hn15cv
          case hy15cv => (intro w hSw; (try dsimp only at hSw); go_simp; try with_reducible rfl)
          try simp only [Act.put, List.setIfInBounds_toArray, List.set_cons_zero, List.set_cons_succ]
          refine hTake (i := 16) (v := ?v16cv) (some 46) rfl rfl (by kernel_rfl) (by kernel_rfl) (by kernel_rfl) (fun _ _ _ h => h) (by rfl) (by assumption) ?hy16cv ?hn16cv
          case hy16cv => (intro w hSw; (try dsimp only at hSw); go_simp; try with_reducible rfl)
          try simp only [Act.put, List.setIfInBounds_toArray, List.set_cons_zero, List.set_cons_succ]
          refine hTake (i := 17) (v := ?v17cv) (some 47) rfl rfl (by kernel_rfl) (by kernel_rfl) (by kernel_rfl) (fun _ _ _ h => h) (by rfl) (by assumption) ?hy17cv ?hn17cv
          case hy17cv => (intro w hSw; (try dsimp only at hSw); go_simp; try with_reducible rfl)
          try simp only [Act.put, List.setIfInBounds_toArray, List.set_cons_zero, List.set_cons_succ]
          refine hTake (i := 18) (v := ?v18cv) (some 48) rfl rfl (by kernel_rfl) (by kernel_rfl) (by kernel_rfl) (fun _ _ _ h => h) (by rfl) (by assumption) ?hy18cv ?hn18cv
          case hy18cv => (intro w hSw; (try dsimp only at hSw); go_simp; try with_reducible rfl)
          try simp only [Act.put, List.setIfInBounds_toArray, List.set_cons_zero, List.set_cons_succ]
          refine hTake (i := 19) (v := ?v19cv) (some 49) rfl rfl (by kernel_rfl) (by kernel_rfl) (by kernel_rfl) (fun _ _ _ h => h) (by rfl) (by assumption) ?hy19cv ?hn19cv
          case hy19cv => (intro w hSw; (try dsimp only at hSw); go_simp; try with_reducible rfl)
          try simp only [Act.put, List.setIfInBounds_toArray, List.set_cons_zero, List.set_cons_succ]
          refine hTake (i := 20) (v := ?v20cv) (some 50) rfl rfl (by kernel_rfl) (by kernel_rfl) (by kernel_rfl) (fun _ _ _ h => h) (by rfl) (by assumption) ?hy20cv ?hn20cv
          case hy20cv => (intro w hSw; (try dsimp only at hSw); go_simp; try with_reducible rfl)
          try simp only [Act.put, List.setIfInBounds_toArray, List.set_cons_zero, List.set_cons_succ]
          refine hSkip (i := 21) (some 51) rfl rfl (by kernel_rfl) (by kernel_rfl) (by kernel_rfl) (fun _ _ _ h => h) (by rfl) (by assumption) ?_
          try simp only [Act.put, List.setIfInBounds_toArray, List.set_cons_zero, List.set_cons_succ]
          refine hSkip (i := 22) (some 52) rfl rfl (by kernel_rfl) (by kernel_rfl) (by kernel_rfl) (fun _ _ _ h => h) (by rfl) (by assumption) ?_
          try simp only [Act.put, List.setIfInBounds_toArray, List.set_cons_zero, List.set_cons_succ]
          refine hSkip (i := 23) (some 53) rfl rfl (by kernel_rfl) (by kernel_rfl) (by kernel_rfl) (fun _ _ _ h => h) (by rfl) (by assumption) ?_
          try simp only [Act.put, List.setIfInBounds_toArray, List.set_cons_zero, List.set_cons_succ]
          refine hSkip (i := 24) (some 54) rfl rfl (by kernel_rfl) (by kernel_rfl) (by kernel_rfl) (fun _ _ _ h => h) (by rfl) (by assumption) ?_
          try simp only [Act.put, List.setIfInBounds_toArray, List.set_cons_zero, List.set_cons_succ]
          refine hSkip (i := 25) (some 55) rfl rfl (by kernel_rfl) (by kernel_rfl) (by kernel_rfl) (fun _ _ _ h => h) (by rfl) (by assumption) ?_
          try simp only [Act.put, List.setIfInBounds_toArray, List.set_cons_zero, List.set_cons_succ]
          refine hSkip (i := 26) (some 56) rfl rfl (by kernel_rfl) (by kernel_rfl) (by kernel_rfl) (fun _ _ _ h => h) (by rfl) (by assumption) ?_
          try simp only [Act.put, List.setIfInBounds_toArray, List.set_cons_zero, List.set_cons_succ]
          refine hSkip (i := 27) (some 57) rfl rfl (by kernel_rfl) (by kernel_rfl) (by kernel_rfl) (fun _ _ _ h => h) (by rfl) (by assumption) ?_
          try simp only [Act.put, List.setIfInBounds_toArray, List.set_cons_zero, List.set_cons_succ]
          refine hSkip (i := 28) (some 58) rfl rfl (by kernel_rfl) (by kernel_rfl) (by kernel_rfl) (fun _ _ _ h => h) (by rfl) (by assumption) ?_
          try simp only [Act.put, List.setIfInBounds_toArray, List.set_cons_zero, List.set_cons_succ]
          refine hTake (i := 29) (v := ?v29cv) (some 59) rfl rfl (by kernel_rfl) (by kernel_rfl) (by kernel_rfl) (fun _ _ _ h => h) (by rfl) (by assumption) ?hy29cv ?hn29cv
          case hy29cv => (intro w hSw; (try dsimp only at hSw); go_simp; try with_reducible rfl)
          try simp only [Act.put, List.setIfInBounds_toArray, List.set_cons_zero, List.set_cons_succ]
          refine wpAnyH_done (by kernel_rfl) ?_ _
          have HRR : Hid (R = dn ++ scanF l fr to t (prevK l (k + 1)) (l.drop (k + 1))) := hide (by rw [HNXT.out]; unfold item; rw [if_neg (fun h => by have h2 := h.2; rw [HSP.out] at h2; cases h2)]; rfl)
          clear HNXT HST HPV HP0 HPR HVn HN1
          go_wp2
          go_roundw
          case rel => exact ⟨k + 1, m, dn, by omega, by omega, by simp, hide ⟨HK2.out, HOW.out, HI.out.2.2.1, HRR.out⟩⟩
          case measure => simp [intOf]; omega
end Go.Proofs.YtlkmcbelmldleaaGreat
