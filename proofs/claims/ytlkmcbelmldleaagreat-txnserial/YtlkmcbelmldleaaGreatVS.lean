/- writes, collected and sorted -/
import Derived.Test.YtlkmcbelmldleaaGreatVR
namespace Go.Proofs.YtlkmcbelmldleaaGreat
open Go.RowKit Go.Shelf Go.Lib Go.Sort
set_option maxRecDepth 40000
attribute [local go_sem] Oper.semAt_some
theorem IsW.blk {w w' : World} {a : Option Addr} {len cap : Nat} {l : List Wt} (h : IsW w a len cap l) (hs : w.heap.size ≤ w'.heap.size) (hb : ∀ b off, a = some ⟨b, off, none⟩ → 0 < len → w'.heap[b]? = w.heap[b]?) : IsW w' a len cap l := by
  refine ⟨h.1, h.2.1, h.2.2.1, fun i hi => ?_⟩
  obtain ⟨b, off, e, hlt, h0, h1, h2⟩ := h.2.2.2 i hi
  have k : ∀ j, w'.cell? ⟨b, j, none⟩ = w.cell? ⟨b, j, none⟩ := fun j => World.cell?_of_block (hb b off e (by omega))
  exact ⟨b, off, e, Nat.lt_of_lt_of_le hlt hs, (k _).trans h0, (k _).trans h1, (k _).trans h2⟩
abbrev encW (x : Wt) : Array Value := #[.agg #[.string x.key, .string x.val, .bool x.gone]]
set_option maxRecDepth 40000 in
set_option maxHeartbeats 2000000 in
theorem valW_gives (n : Nat) (_hn : 1 ≤ n) (Bl n₀ : Nat) (X : Nat → Bool) (a : Option Addr) (len cap : Nat) (l : List Wt) (w : World)
    (hBl : Boxed w Bl 41 (.slice a len cap)) (hL : IsW w a len cap l) (hn₀ : n₀ ≤ w.heap.size) (ha : ∀ b off, a = some ⟨b, off, none⟩ → 0 < len → b < n₀ ∧ X b = false) :
    Gives n Tryz.prog 168 #[.pointer (some ⟨Bl, 0, none⟩)] encW l none (Kp X n₀) w := by
  intro lo J E W hW hJ hE hY h0
  have hcap := hL.2.1
  have hcm : cap ≤ 9223372036854775807 := hL.2.2.1
  have HLN := hide hL.1
  have HY := hide hY
  have HJ := hide hJ
  have HA := hide ha
  have HBL : Hid (Boxed W Bl 41 (.slice a len cap)) := hide ((hW.block Bl hBl.lt).trans hBl)
  have cl := HBL.out.cell
  have HLW : Hid (IsW W a len cap l) := hide (hL.below hW)
  have HSZ : Hid (n₀ ≤ W.heap.size) := hide (Nat.le_trans hn₀ hW.size)
  clear hY hJ hE ha hL hBl hW hn₀
  refine callsIn_of_wp Tryz.func168 rfl trivial ?_ rfl
  simp only [Tryz.ntmps168, List.size_toArray, List.length_cons, List.length_nil, Nat.reduceAdd, Nat.reduceSub, Array.replicate_succ, Array.replicate_zero, List.push_toArray, List.append_toArray, List.nil_append, List.cons_append]
  gi_wp2
  gi_loopw [7] (fun v wr => ∃ k : Nat, k ≤ len ∧ v = .int .i64 (k : Nat) ∧ Hid (J k wr) ∧ Hid (IsW wr a len cap l) ∧ Hid (n₀ ≤ wr.heap.size)) (fun v _ => len - (intOf v).toNat)
  case atStart => exact ⟨0, Nat.zero_le _, rfl, hide h0, HLW, HSZ⟩
  case round =>
    obtain ⟨k, hk, rfl, HJk, HV, HZ⟩ := hrel
    clear h0 HLW HBL cl HSZ
    by_cases hlt : k < len
    · obtain ⟨b, off, rfl, hb, z0, z1, z2⟩ := HV.out.2.2.2 k hlt
      have hxk : l[k]? = some (l.getD k Wt0) := by
        rw [List.getD_eq_getElem?_getD, List.getElem?_eq_getElem (by rw [HLN.out]; exact hlt)]; rfl
      have HJA : Hid (∀ o, J k (wr.alloc o)) := hide (fun o => HJ.out k _ _ (.lay _ o) HJk.out)
      have HYk := hide (fun o => HY.out k _ (wr.alloc o) hxk (HJA.out o))
      generalize l.getD k Wt0 = x at *
      obtain ⟨x1, x2, x3⟩ := x
      obtain ⟨fn, tmps, assign, body, hy, hR⟩ := HYk.out (.cells #[.string x1, .string x2, .bool x3] 64)
      dsimp only at z0 z1 z2 hy hR
      have hi0 : (0 : Int) ≤ (k : Int) := by omega
      have hil : (k : Int) < (len : Int) := by omega
      have hw2 : IntKind.i64.wrap ((k : Int) + 1) = (k : Int) + 1 := wr64' (by omega) (by omega)
      have HVA : Hid (IsW (wr.alloc (.cells #[.string x1, .string x2, .bool x3] 64)) (some ⟨b, off, none⟩) len cap l) := hide (HV.out.below ((Below.refl _ _).alloc (Nat.le_refl _) _))
      have HZA : Hid (n₀ ≤ (wr.alloc (.cells #[.string x1, .string x2, .bool x3] 64)).heap.size) := hide (by have := HZ.out; simp; omega)
      clear hxk HYk HJA
      gi_wp2
      refine hR.mono ?_
      rintro e W3 (⟨rfl, hJ3, hk3⟩ | ⟨rfl, hE3⟩)
      · have HV3 : Hid (IsW W3 (some ⟨b, off, none⟩) len cap l) := hide (HVA.out.blk hk3.size (fun b' off' e h => hk3.block _ (HA.out b' off' e h).1 (HA.out b' off' e h).2))
        have HZ3 : Hid (n₀ ≤ W3.heap.size) := hide (Nat.le_trans HZA.out hk3.size)
        have HJ3 := hide hJ3
        clear hJ3 hk3 hR hy z0 z1 z2
        gi_wp2
        go_roundw
        case rel => exact ⟨k + 1, by omega, by simp, HJ3, HV3, HZ3⟩
        case measure => simp [intOf]; omega
      · have HE3 := hide hE3
        clear hE3 hy hR
        gi_wp2
        refine bodyPost_ret (results_none rfl _ _ _) rfl ?_
        exact ⟨⟨_, rfl⟩, .inr ⟨k, by rw [HLN.out]; exact hlt, HE3.out⟩⟩
    · obtain rfl : k = len := by omega
      gi_wp2
      go_end0
      exact ⟨⟨_, rfl⟩, .inl (by rw [HLN.out]; exact HJk.out)⟩
theorem info46 : (Tryz.prog.info? 64).map (fun i => (i.zero, i.size, i.bytes)) = some (some (.agg #[.string ⟨#[]⟩, .string ⟨#[]⟩, .bool false]), 3, 40) := by kernel_rfl
theorem wtc_news {w : World} {b : Nat} (x : Wt) (h : w.heap[b]? = some (.cells #[.string x.key, .string x.val, .bool x.gone] 64 (0, 0))) : ∀ j u, (wtc x)[j]? = some u → w.cell? ((⟨b, 0, none⟩ : Addr).add j) = some u := by
  intro j u hj
  rw [Addr.add_lit, Nat.zero_add]
  refine cell_blk h ?_
  simpa using hj
theorem wtc_one (x : Wt) : ∀ u ∈ wtc x, u.oneCell' = true := by
  intro u hu
  simp only [List.mem_cons, List.not_mem_nil, or_false] at hu
  rcases hu with rfl | rfl | rfl <;> rfl
theorem take_snocW (xs : List Wt) (k : Nat) (x : Wt) (hk : xs[k]? = some x) : xs.take (k + 1) = xs.take k ++ [x] := by
  rw [List.take_add_one, hk]; rfl
theorem cells3_of_blk {w : World} {g : Nat} {a b c : Value} {t : TypeId} (h : w.heap[g]? = some (.cells #[a, b, c] t)) : w.cell? ⟨g, 0, none⟩ = some a ∧ w.cell? ⟨g, 1, none⟩ = some b ∧ w.cell? ⟨g, 2, none⟩ = some c :=
  ⟨cell_blk h rfl, cell_blk h rfl, cell_blk h rfl⟩
set_option maxRecDepth 40000 in
set_option maxHeartbeats 2000000 in
theorem seqW_any (Bl : Nat) (a : Option Addr) (len cap : Nat) (l : List Wt) (w : World) (hBl : Boxed w Bl 41 (.slice a len cap)) (hL : IsW w a len cap l) (hlen : len ≤ 4096) :
    Calls Tryz.prog 184 #[.slice none 0 0, .func (.func 168) #[] #[.pointer (some ⟨Bl, 0, none⟩)]] w fun e w' => ∃ v, e = .returned v ∧ w'.ownsRow w.heap.size 64 3 v len (l.flatMap wtc) ∧ Below w.heap.size w w' := by
  have HV := hide hL
  have HLN := hide hL.1
  have HLE := hide hlen
  obtain ⟨i0, hi, hz0, hz1, hz2⟩ := info_parts info46
  refine (callsIn_wide (n := 6)).1 ?_
  refine callsIn_of_wp_marks Tryz.func184 rfl trivial ?_ rfl
  simp only [Tryz.ntmps184, List.size_toArray, List.length_cons, List.length_nil, Nat.reduceAdd, Nat.reduceSub, Array.replicate_succ, Array.replicate_zero, List.push_toArray, List.append_toArray, List.nil_append, List.cons_append]
  gi_wp2_with fail
  have bF := hide (Boxed.new w 41 (.slice none 0 0))
  have hBU : Below w.heap.size w (w.alloc (.cells #[.slice none 0 0] 41)) := (Below.refl _ w).alloc (Nat.le_refl _) _
  have hUS : (w.alloc (.cells #[.slice none 0 0] 41)).heap.size = w.heap.size + 1 := by simp
  have HBL : Hid (Boxed (w.alloc (.cells #[.slice none 0 0] 41)) Bl 41 (.slice a len cap)) := hide (hBl.alloc _)
  have HBU := hide hBU
  have HUS := hide hUS
  have HBlt := hide hBl.lt
  clear hBU hUS hBl hL hlen
  generalize w.alloc (.cells #[.slice none 0 0] 41) = U at *
  generalize hN : w.heap.size = N at *
  have HN := hide hN
  clear hN
  refine wp_gives (gf := 168) (lb := #[.pointer (some ⟨Bl, 0, none⟩)]) (encs := encW) (xs := l) (box := none) (w0 := U) (Kp := Kp (fun b => decide (b = N)) (N + 1)) rfl (enters_of Tryz.func168 (by kernel_rfl) rfl)
    (valW_gives 5 (by omega) Bl (N + 1) (fun b => decide (b = N)) a len cap l U HBL.out (HV.out.below (by rw [HN.out]; exact HBU.out)) (by rw [HUS.out]; exact Nat.le_refl _) (fun b off e h => by
      obtain ⟨b', off', e', hb, _⟩ := HV.out.2.2.2 0 h
      rw [e] at e'; cases e'
      rw [HN.out] at hb
      exact ⟨by omega, by simp; omega⟩))
    (Below.refl _ _) (fun _ => rfl) Kp.trans (kp_put (by rw [HUS.out]; exact Nat.le_refl _))
    (fun k W => (∃ v, Boxed W N 41 v ∧ W.ownsRow (N + 1) 64 3 v (l.take k).length ((l.take k).flatMap wtc)) ∧ Below N w W ∧ N + 1 ≤ W.heap.size)
    (fun _ _ _ => False)
    (fun k A B tu h => by
      obtain ⟨⟨v, h1, h2⟩, h4, h5⟩ := h
      refine ⟨⟨v, turn_boxed tu h1 (by simp), ?_⟩, turn_below tu h4 (by rw [HN.out]; exact Nat.le_refl _) (by simp), Nat.le_trans h5 tu.others.size⟩
      cases tu with
      | lay o => exact h2.alloc o
      | draw => exact h2.drew
      | put c u hc => cases hc)
    (fun c k A B tu h => h)
    (fun k A r o o' hr ho hc h => by
      obtain ⟨⟨v, h1, h2⟩, h4, h5⟩ := h
      exact ⟨⟨v, put_boxed ho hc h1, ownsRow_putObj h2 o' ho hc⟩, put_below (by have := HUS.out; omega) h4 (Array.getElem?_eq_some_iff.1 ho).1, by simpa using h5⟩)
    (fun c k A r o o' hr ho hc h => h)
    ⟨⟨_, bF.out, World.ownsRow_nil _ _ _ _⟩, HBU.out, by rw [HUS.out]; exact Nat.le_refl _⟩
    (fun x a' W => ∃ Bx, N + 1 ≤ Bx ∧ W.heap[Bx]? = some (.cells #[.string x.key, .string x.val, .bool x.gone] 64 (0, 0)) ∧ a' = { tmps := #[Value.slice none 0 0, Value.func (Fn.func 168) #[] #[Value.pointer (some { block := Bl, off := 0 })], Value.pointer (some { block := N, off := 0 }), undef, Value.slice none 0 0, .pointer (some ⟨Bx, 0, none⟩), Value.func (Fn.func 168) #[] #[Value.pointer (some { block := Bl, off := 0 })], .agg #[.string x.key, .string x.val, .bool x.gone], undef, undef, undef, undef, undef], defers := [] })
    (fun x a' A r o o' hr ho hc h => by
      obtain ⟨Bx, h1, h2, h3⟩ := h
      refine ⟨Bx, h1, (World.putObj_heap_other ?_).trans h2, h3⟩
      rintro rfl
      rw [h2] at ho; cases ho; cases hc)
    ?assign ?body ?all ?left
  case assign =>
    rintro lo k ⟨x1, x2, x3⟩ W K hx ⟨⟨v, h1, h2⟩, h4, h5⟩ hK
    have hnew := heap_alloc_new W (.cells #[.string x1, .string x2, .bool x3] 64)
    have HK := hide (fun a' => hK a' (W.alloc (.cells #[.string x1, .string x2, .bool x3] 64)) (KeepsOthers.alloc _ _) (Kp.of_below ((Below.refl _ W).alloc h5 _)) ⟨⟨v, h1.alloc _, h2.alloc _⟩, h4.alloc (Nat.le_trans (by omega) h5) _, by simp; omega⟩)
    have HNW := hide (And.intro h5 hnew)
    clear hK hnew h1 h2 hx h4
    gi_wp2
    refine HK.out _ ?_
    exact ⟨W.heap.size, HNW.out.1, HNW.out.2, by simp⟩
  case body =>
    rintro lo k ⟨x1, x2, x3⟩ a' W hx ⟨⟨v, bF, hrow⟩, hB, hsz⟩ ⟨Bx, hBx, hb, rfl⟩
    have HBF := hide bF
    have HROW := hide hrow
    have HB := hide hB
    have HSZ := hide hsz
    have HTK := hide (take_snocW l k ⟨x1, x2, x3⟩ hx)
    have HKL : Hid ((l.take k).length + 1 ≤ 4096) := hide (by
      have h1 := (List.getElem?_eq_some_iff.1 hx).1
      rw [List.length_take]
      have := HLN.out
      have := HLE.out
      omega)
    obtain ⟨c0, c1, c2⟩ := cells3_of_blk hb
    obtain ⟨av, cv, rfl⟩ := own_form hrow
    have cF := bF.cell
    dsimp only at c0 c1 c2 ⊢
    generalize l.take k = G at *
    clear hx bF hrow hB hsz hb
    gi_wp2_with (gi_at_builtin; refine wpListIn_append_own _ rfl _ _ 41 rfl (N + 1) 64 i0 _ 3 40 Tryz.underlying41 hi hz0 hz1 hz2 rfl (by decide) _ _ _ rfl (HROW.out.alloc _) ⟨W.heap.size, 0, none⟩ 1 1 (wtc ⟨x1, x2, x3⟩) rfl rfl (wtc_news ⟨x1, x2, x3⟩ (heap_alloc_new W _)) (wtc_one ⟨x1, x2, x3⟩) (by have := HKL.out; show _ ≤ 9223372036854775807; omega) (by have := HKL.out; omega) (by have := HSZ.out; simp; omega) ?_; intro v' w3 hown' hgrow _; obtain ⟨g', cap', rfl⟩ := ownsRow_succ hown'; obtain ⟨hv1, hv2, hr2, hk2, hb2, hkp2⟩ := appended HBF.out (by decide) (by omega) HROW.out HSZ.out hown' hgrow; have hc1 := hv1.cell; have hf1 := hv1.frozen)
    refine ⟨hk2, hkp2, ⟨⟨_, hv2, ?_⟩, HB.out.trans hb2, Nat.le_trans HSZ.out hk2.size⟩⟩
    rw [HTK.out]
    simpa using hr2
  case all =>
    rintro D W hD hK ⟨⟨v, bF, hrow⟩, hB, hsz⟩
    rw [List.take_length, HLN.out] at hrow
    obtain ⟨av, cv, rfl⟩ := own_form hrow
    have cF := bF.cell
    have HB := hide hB
    have HROW := hide hrow
    have HND : Hid (N ≤ D) := hide (by have := HUS.out; omega)
    clear hB hrow bF
    gi_wp2
    refine ⟨by simp, .inl ⟨_, _, rfl, run_takeDeferred hK, ?_⟩⟩
    refine ⟨.slice av len cv, by simp [results, Tryz.f184, go_sem], ?_⟩
    exact ⟨_, rfl, by rw [HN.out]; exact row_mono (ownsRow_putObj HROW.out (.deferred none) hK rfl) (Nat.le_succ _), by rw [HN.out]; exact put_below HND.out HB.out (Array.getElem?_eq_some_iff.1 hK).1⟩
  case left =>
    rintro D c k W hD hK hk h
    exact h.elim
theorem collW_any (Bl : Nat) (a : Option Addr) (len cap : Nat) (l : List Wt) (w : World) (hBl : Boxed w Bl 41 (.slice a len cap)) (hL : IsW w a len cap l) (hlen : len ≤ 4096) :
    Calls Tryz.prog 167 #[.func (.func 168) #[] #[.pointer (some ⟨Bl, 0, none⟩)]] w fun e w' => ∃ v, e = .returned v ∧ w'.ownsRow w.heap.size 64 3 v len (l.flatMap wtc) ∧ Below w.heap.size w w' := by
  have HS := hide (seqW_any Bl a len cap l w hBl hL hlen)
  clear hBl hL
  go_enter Tryz.func167, Tryz.ntmps167
  go_wp2_with fail
  refine HS.out.mono ?_
  rintro e w1 ⟨v, rfl, hrow, hb⟩
  obtain ⟨av, cv, rfl⟩ := own_form hrow
  have H := hide (And.intro hrow hb)
  clear hrow hb HS
  go_wp2
  go_ret
  exact ⟨_, rfl, H.out.1, H.out.2⟩
end Go.Proofs.YtlkmcbelmldleaaGreat
