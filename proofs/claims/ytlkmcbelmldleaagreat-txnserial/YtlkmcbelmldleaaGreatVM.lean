/- mvcc.Scan -/
import Derived.Test.YtlkmcbelmldleaaGreatVL
namespace Go.Proofs.YtlkmcbelmldleaaGreat
open Go.RowKit Go.Shelf
set_option maxRecDepth 40000
attribute [local go_sem] Oper.semAt_some
theorem ownsRow_below2 {B : Nat} {e : TypeId} {k : Nat} {v : Value} {n : Nat} {xs : List Value} {w w' : World} (h : w.ownsRow B e k v n xs) (hb : Below w.heap.size w w') : w'.ownsRow B e k v n xs :=
  ⟨h.1, h.2.imp id (fun ⟨g, cap, cur, h1, h2, h3, h4⟩ => ⟨g, cap, cur, h1, h2, (hb.block g (heap_lt h3)).trans h3, h4⟩)⟩
set_option maxRecDepth 40000 in
set_option maxHeartbeats 2000000 in
theorem scan_no (a : Option Addr) (len cap low t : Nat) (fr to : ByteArray) (l : List Vr) (w : World) (hL : IsV w a len cap l) (hE : ¬ askE low l t = 0) : Calls Tryz.prog 56 #[.agg #[.slice a len cap, .int .u64 (low : Nat)], .string fr, .string to, .int .u64 (t : Nat)] w fun e w' =>
    e = .returned (.tuple #[.slice none 0 0, .int .i64 (askE low l t)]) ∧ Below w.heap.size w w' := by
  have HV := hide hL
  have HB5 : Hid (Below w.heap.size w ((w.alloc (.cells #[.slice a len cap, .int .u64 (low : Nat)] 31)).alloc (.cells #[.int .u64 (t : Nat)] 29))) := hide (((Below.refl _ w).alloc (Nat.le_refl _) _).alloc (by simp) _)
  have HE : (askE low l t != 0) = true := by simpa using hE
  go_enter Tryz.func56, Tryz.ntmps56
  go_wp2_with fail
  generalize (w.alloc (.cells #[.slice a len cap, .int .u64 (low : Nat)] 31)).alloc (.cells #[.int .u64 (t : Nat)] 29) = V at *
  refine (asked_any a len cap low t l V (HV.out.below HB5.out)).mono ?_
  rintro e w1 ⟨rfl, hb1⟩
  have HB1 := hide (HB5.out.trans (hb1.mono HB5.out.size))
  clear hb1 hE
  generalize her : askE low l t = er at *
  have HER := hide her
  clear her
  go_wp2
  go_ret2
  exact ⟨by rw [HER.out]; rfl, HB1.out⟩
set_option maxRecDepth 40000 in
set_option maxHeartbeats 2000000 in
theorem scan_yes (a : Option Addr) (len cap low t : Nat) (fr to : ByteArray) (l : List Vr) (w : World) (hL : IsV w a len cap l) (hE : askE low l t = 0) : Calls Tryz.prog 56 #[.agg #[.slice a len cap, .int .u64 (low : Nat)], .string fr, .string to, .int .u64 (t : Nat)] w fun e w' =>
    ∃ a' c', e = .returned (.tuple #[.slice a' (scanG t ((gpsOf 0 l).filter (fun g => inSpan fr to (hd g).key))).length c', .int .i64 0]) ∧ IsP w' a' (scanG t ((gpsOf 0 l).filter (fun g => inSpan fr to (hd g).key))).length c' (scanG t ((gpsOf 0 l).filter (fun g => inSpan fr to (hd g).key))) ∧ Below w.heap.size w w' := by
  have HV := hide hL
  have HG := hide (ask_good hE)
  have HB5 : Hid (Below w.heap.size w ((w.alloc (.cells #[.slice a len cap, .int .u64 (low : Nat)] 31)).alloc (.cells #[.int .u64 (t : Nat)] 29))) := hide (((Below.refl _ w).alloc (Nat.le_refl _) _).alloc (by simp) _)
  have bV : Hid (((w.alloc (.cells #[.slice a len cap, .int .u64 (low : Nat)] 31)).alloc (.cells #[.int .u64 (t : Nat)] 29)).heap[w.heap.size]? = some (.cells #[.slice a len cap, .int .u64 (low : Nat)] 31 (0, 0))) := hide ((heap_alloc_old _ _ _ (by simp)).trans (heap_alloc_new _ _))
  have bT := hide (Boxed.new (w.alloc (.cells #[.slice a len cap, .int .u64 (low : Nat)] 31)) 29 (.int .u64 (t : Nat)))
  simp only [World.size_alloc] at bT
  obtain ⟨i0, hi, hz0, hz1, hz2⟩ := info_parts info54
  refine (callsIn_wide (n := 6)).1 ?_
  refine callsIn_of_wp_marks Tryz.func56 rfl trivial ?_ rfl
  simp only [Tryz.ntmps56, List.size_toArray, List.length_cons, List.length_nil, Nat.reduceAdd, Nat.reduceSub, Array.replicate_succ, Array.replicate_zero, List.push_toArray, List.append_toArray, List.nil_append, List.cons_append]
  gi_wp2_with fail
  generalize (w.alloc (.cells #[.slice a len cap, .int .u64 (low : Nat)] 31)).alloc (.cells #[.int .u64 (t : Nat)] 29) = V at *
  refine ⟨trivial, (callsIn_wide.2 (asked_any a len cap low t l V (HV.out.below HB5.out))).mono ?_⟩
  rintro e w1 ⟨rfl, hb1⟩
  rw [hE]
  have HBV : Hid (w1.heap[w.heap.size]? = some (.cells #[.slice a len cap, .int .u64 (low : Nat)] 31 (0, 0))) := hide ((hb1.block _ (heap_lt bV.out)).trans bV.out)
  have HBT : Hid (Boxed w1 (w.heap.size + 1) 29 (.int .u64 (t : Nat))) := hide ((hb1.block _ bT.out.lt).trans bT.out)
  have HB1 := hide (HB5.out.trans (hb1.mono HB5.out.size))
  obtain ⟨v0, v1⟩ := cells2_of_blk HBV.out
  clear hb1 hE HB5 bV bT
  generalize hN : w.heap.size = N at *
  have HN := hide hN
  clear hN
  gi_wp2_with fail
  have hmix := mixed
  have hlt : N < w1.heap.size := heap_lt HBV.out
  have hUS : (w1.alloc (.cells #[.slice none 0 0] 22)).heap.size = w1.heap.size + 1 := by simp
  have hBU : Below w1.heap.size w1 (w1.alloc (.cells #[.slice none 0 0] 22)) := (Below.refl _ w1).alloc (Nat.le_refl _) _
  have bF := Boxed.new w1 22 (.slice none 0 0)
  have v0 : (w1.alloc (.cells #[.slice none 0 0] 22)).cell? ⟨N, 0, none⟩ = some (.slice a len cap) := (World.cell?_of_block (hBU.block N hlt)).trans v0
  have HBT1 : Hid (Boxed (w1.alloc (.cells #[.slice none 0 0] 22)) (N + 1) 29 (.int .u64 (t : Nat))) := hide (HBT.out.alloc _)
  have HBU : Hid (Below N w (w1.alloc (.cells #[.slice none 0 0] 22))) := hide (HB1.out.trans (hBU.mono (by rw [← HN.out]; exact HB1.out.size)))
  have hNM : N + 2 ≤ w1.heap.size := by have := HBT.out.lt; omega
  clear v1 hBU HBT HBV HB1
  generalize w1.alloc (.cells #[.slice none 0 0] 22) = U at *
  generalize w1.heap.size = M at *
  have v2 : ∀ o, (U.drew.alloc o).cell? ⟨N, 0, none⟩ = some (.slice a len cap) := fun o => (World.cell?_of_block (heap_alloc_old U.drew o N (by show N < U.heap.size; omega))).trans v0
  have v3 : U.drew.cell? ⟨N, 0, none⟩ = some (.slice a len cap) := v0
  have v4 : ∀ o o', ((U.drew.alloc o).alloc o').cell? ⟨N, 0, none⟩ = some (.slice a len cap) := fun o o' => (World.cell?_of_block (heap_alloc_old _ o' N (by simp; omega))).trans (v2 o)
  have v5 : ∀ o o', ((U.alloc o).alloc o').cell? ⟨N, 0, none⟩ = some (.slice a len cap) := v4
  have v6 : ∀ o o', ((U.alloc o).alloc o').drew.cell? ⟨N, 0, none⟩ = some (.slice a len cap) := v4
  have v7 : ∀ o, (U.alloc o).cell? ⟨N, 0, none⟩ = some (.slice a len cap) := v2
  have HUS := hide hUS
  clear hUS
  have hNU : N < U.heap.size := by have := HUS.out; omega
  refine calm ?_
  gi_region_with_o (first | (refine ⟨trivial, ?_⟩; gi_at_call 84; refine (within_in _ fr to _).mono ?_; rintro e w2 ⟨rfl, rfl⟩) | (refine ⟨trivial, ?_⟩; gi_at_call 83; refine (byKey_in _ a len cap 113 _ _).mono ?_; rintro e w2 ⟨rfl, rfl⟩))
  all_goals
    gi_wp2_with fail
    have hUS := HUS.out
    rw [hUS]
    have hb2 : Below U.heap.size U ((((U.alloc (.cells #[.string fr] 9)).alloc (.cells #[.string to] 9)).alloc (.cells #[.slice a len cap] 28)).alloc (.cells #[.func (.func 113) #[] #[.pointer (some ⟨M + 1, 0, none⟩), .pointer (some ⟨M + 1 + 1, 0, none⟩)]] 145)).drew := (((((Below.refl _ U).alloc (Nat.le_refl _) _).alloc (by simp) _).alloc (by simp; omega) _).alloc (by simp; omega) _).drew
    have hB2 : Below N w ((((U.alloc (.cells #[.string fr] 9)).alloc (.cells #[.string to] 9)).alloc (.cells #[.slice a len cap] 28)).alloc (.cells #[.func (.func 113) #[] #[.pointer (some ⟨M + 1, 0, none⟩), .pointer (some ⟨M + 1 + 1, 0, none⟩)]] 145)).drew := HBU.out.trans (hb2.mono (by omega))
    have bF2 : Boxed ((((U.alloc (.cells #[.string fr] 9)).alloc (.cells #[.string to] 9)).alloc (.cells #[.slice a len cap] 28)).alloc (.cells #[.func (.func 113) #[] #[.pointer (some ⟨M + 1, 0, none⟩), .pointer (some ⟨M + 1 + 1, 0, none⟩)]] 145)).drew M 22 (.slice none 0 0) := (hb2.block _ bF.lt).trans bF
    have bT2 : Boxed ((((U.alloc (.cells #[.string fr] 9)).alloc (.cells #[.string to] 9)).alloc (.cells #[.slice a len cap] 28)).alloc (.cells #[.func (.func 113) #[] #[.pointer (some ⟨M + 1, 0, none⟩), .pointer (some ⟨M + 1 + 1, 0, none⟩)]] 145)).drew (N + 1) 29 (.int .u64 (t : Nat)) := (hb2.block _ HBT1.out.lt).trans HBT1.out
    have b1 := (((Boxed.new U 9 (.string fr)).alloc (.cells #[.string to] 9)).alloc (.cells #[.slice a len cap] 28)).alloc (.cells #[.func (.func 113) #[] #[.pointer (some ⟨M + 1, 0, none⟩), .pointer (some ⟨M + 1 + 1, 0, none⟩)]] 145)
    have b2 := ((Boxed.new (U.alloc (.cells #[.string fr] 9)) 9 (.string to)).alloc (.cells #[.slice a len cap] 28)).alloc (.cells #[.func (.func 113) #[] #[.pointer (some ⟨M + 1, 0, none⟩), .pointer (some ⟨M + 1 + 1, 0, none⟩)]] 145)
    have b3 := (Boxed.new ((U.alloc (.cells #[.string fr] 9)).alloc (.cells #[.string to] 9)) 28 (.slice a len cap)).alloc (.cells #[.func (.func 113) #[] #[.pointer (some ⟨M + 1, 0, none⟩), .pointer (some ⟨M + 1 + 1, 0, none⟩)]] 145)
    have b4 := Boxed.new (((U.alloc (.cells #[.string fr] 9)).alloc (.cells #[.string to] 9)).alloc (.cells #[.slice a len cap] 28)) 145 (.func (.func 113) #[] #[.pointer (some ⟨M + 1, 0, none⟩), .pointer (some ⟨M + 1 + 1, 0, none⟩)])
    simp only [World.size_alloc, hUS] at b1 b2 b3 b4
    replace b1 : Boxed ((((U.alloc (.cells #[.string fr] 9)).alloc (.cells #[.string to] 9)).alloc (.cells #[.slice a len cap] 28)).alloc (.cells #[.func (.func 113) #[] #[.pointer (some ⟨M + 1, 0, none⟩), .pointer (some ⟨M + 1 + 1, 0, none⟩)]] 145)).drew (M + 1) 9 (.string fr) := b1
    replace b2 : Boxed ((((U.alloc (.cells #[.string fr] 9)).alloc (.cells #[.string to] 9)).alloc (.cells #[.slice a len cap] 28)).alloc (.cells #[.func (.func 113) #[] #[.pointer (some ⟨M + 1, 0, none⟩), .pointer (some ⟨M + 1 + 1, 0, none⟩)]] 145)).drew (M + 1 + 1) 9 (.string to) := b2
    replace b3 : Boxed ((((U.alloc (.cells #[.string fr] 9)).alloc (.cells #[.string to] 9)).alloc (.cells #[.slice a len cap] 28)).alloc (.cells #[.func (.func 113) #[] #[.pointer (some ⟨M + 1, 0, none⟩), .pointer (some ⟨M + 1 + 1, 0, none⟩)]] 145)).drew (M + 1 + 1 + 1) 28 (.slice a len cap) := b3
    replace b4 : Boxed ((((U.alloc (.cells #[.string fr] 9)).alloc (.cells #[.string to] 9)).alloc (.cells #[.slice a len cap] 28)).alloc (.cells #[.func (.func 113) #[] #[.pointer (some ⟨M + 1, 0, none⟩), .pointer (some ⟨M + 1 + 1, 0, none⟩)]] 145)).drew (M + 1 + 1 + 1 + 1) 145 (.func (.func 113) #[] #[.pointer (some ⟨M + 1, 0, none⟩), .pointer (some ⟨M + 1 + 1, 0, none⟩)]) := b4
    have hS2 : (((((U.alloc (.cells #[.string fr] 9)).alloc (.cells #[.string to] 9)).alloc (.cells #[.slice a len cap] 28)).alloc (.cells #[.func (.func 113) #[] #[.pointer (some ⟨M + 1, 0, none⟩), .pointer (some ⟨M + 1 + 1, 0, none⟩)]] 145)).drew).heap.size = M + 5 := by simp; omega
    generalize ((((U.alloc (.cells #[.string fr] 9)).alloc (.cells #[.string to] 9)).alloc (.cells #[.slice a len cap] 28)).alloc (.cells #[.func (.func 113) #[] #[.pointer (some ⟨M + 1, 0, none⟩), .pointer (some ⟨M + 1 + 1, 0, none⟩)]] 145)).drew = V2 at *
    have HB2 := hide hB2
    have HS2 := hide hS2
    have HF2 := hide bF2
    have HT2 := hide bT2
    have H1 := hide b1
    have H2 := hide b2
    have H3 := hide b3
    have H4 := hide b4
    have HNM := hide hNM
    clear hb2 hB2 hS2 bF2 bT2 b1 b2 b3 b4 v0 v2 v3 v4 v5 v6 v7 hNU hUS bF
    obtain ⟨b, off, hab⟩ : ∃ b off, 0 < len → a = some ⟨b, off, none⟩ ∧ b < N := by
      by_cases h : 0 < len
      · obtain ⟨b, off, e, hb, _⟩ := HV.out.2.2.2 0 h
        exact ⟨b, off, fun _ => ⟨e, by rw [← HN.out]; exact hb⟩⟩
      · exact ⟨0, 0, fun h' => absurd h' h⟩
    have HAB := hide hab
    clear hab
    have HXL : Hid (((gpsOf 0 l).filter (fun g => inSpan fr to (hd g).key)).length ≤ 4096) := hide (by
      have h1 := List.length_filter_le (fun g => inSpan fr to (hd g).key) (gpsOf 0 l)
      have h2 := gps_len l.length 0 l (Nat.le_refl _)
      have h3 := (goodB_iff.1 HG.out).1
      omega)
    generalize hxs : (gpsOf 0 l).filter (fun g => inSpan fr to (hd g).key) = xs at *
    have HXS := hide hxs
    clear hxs
    refine wp_gives (gf := 112) (lb := #[.pointer (some ⟨M + 1 + 1 + 1, 0, none⟩), .pointer (some ⟨M + 1 + 1 + 1 + 1, 0, none⟩)]) (encs := encG b off cap) (xs := xs) (box := some (M + 1 + 1 + 1)) (w0 := V2) (Kp := Kp (fun b => decide (b = M)) (M + 5)) rfl (enters_of Tryz.func112 (by kernel_rfl) rfl)
      (by
        have := byKey_gives 5 (by omega) (M + 1 + 1 + 1) (M + 1 + 1 + 1 + 1) (M + 5) (fun b => decide (b = M)) a b off len cap l 113 #[.pointer (some ⟨M + 1, 0, none⟩), .pointer (some ⟨M + 1 + 1, 0, none⟩)] (inSpan fr to) [(M + 1, .cells #[.string fr] 9 (0, 0)), (M + 1 + 1, .cells #[.string to] 9 (0, 0))] V2 H3.out H4.out (by omega) (by omega) (by rw [HS2.out]; exact Nat.le_refl _) (by simp; omega) (by simp; omega) (by omega)
          (HV.out.below (by rw [HN.out]; exact HB2.out)) (fun h => ⟨(HAB.out h).1, by have := (HAB.out h).2; have := HNM.out; omega, by have := (HAB.out h).2; have := HNM.out; simp; omega, by have := (HAB.out h).2; have := HNM.out; omega⟩)
          (fun q hq => by
            simp only [List.mem_cons, List.not_mem_nil, or_false] at hq
            rcases hq with rfl | rfl
            · exact ⟨H1.out, by show M + 1 < M + 5; omega, by simp, by show M + 1 ≠ M + 1 + 1 + 1; omega⟩
            · exact ⟨H2.out, by show M + 1 + 1 < M + 5; omega, by simp; omega, by show M + 1 + 1 ≠ M + 1 + 1 + 1; omega⟩)
          (enters_of Tryz.func113 (by kernel_rfl) rfl) (fun k W hc => within1_any k fr to (M + 1) (M + 1 + 1) W (Boxed.cell (t := 9) (hc (M + 1, .cells #[.string fr] 9 (0, 0)) (by simp))) (Boxed.cell (t := 9) (hc (M + 1 + 1, .cells #[.string to] 9 (0, 0)) (by simp))))
        rw [HXS.out] at this
        exact this)
      (Below.refl _ _) (fun _ => rfl) Kp.trans (kp_put (by rw [HS2.out]; exact Nat.le_refl _))
      (fun k W => (∃ v, Boxed W M 22 v ∧ W.ownsRow (M + 5) 62 2 v (scanG t (xs.take k)).length ((scanG t (xs.take k)).flatMap prc)) ∧ Boxed W (N + 1) 29 (.int .u64 (t : Nat)) ∧ Below N w W ∧ M + 5 ≤ W.heap.size)
      (fun _ _ _ => False)
      (fun k A B tu h => by
        obtain ⟨⟨v, h1, h2⟩, h3, h4, h5⟩ := h
        refine ⟨⟨v, turn_boxed tu h1 (by simp; omega), ?_⟩, turn_boxed tu h3 (by have := HNM.out; simp; omega), turn_below tu h4 (by rw [HN.out]; exact Nat.le_refl _) (fun c hc => by cases hc; have := HNM.out; omega), Nat.le_trans h5 tu.others.size⟩
        cases tu with
        | lay o => exact h2.alloc o
        | draw => exact h2.drew
        | put c u hc => cases hc; exact ownsRow_setCell_below h2 (by show M + 1 + 1 + 1 < M + 5; omega) u)
      (fun c k A B tu h => h)
      (fun k A r o o' hr ho hc h => by
        obtain ⟨⟨v, h1, h2⟩, h3, h4, h5⟩ := h
        exact ⟨⟨v, put_boxed ho hc h1, ownsRow_putObj h2 o' ho hc⟩, put_boxed ho hc h3, put_below (by have := HS2.out; have := HNM.out; omega) h4 (Array.getElem?_eq_some_iff.1 ho).1, by simpa using h5⟩)
      (fun c k A r o o' hr ho hc h => h)
      ⟨⟨_, HF2.out, World.ownsRow_nil _ _ _ _⟩, HT2.out, HB2.out, by rw [HS2.out]; exact Nat.le_refl _⟩
      (fun x a' _ => a' = { tmps := #[Value.agg #[Value.slice a len cap, Value.int IntKind.u64 ↑low], Value.string fr, Value.string to, Value.int IntKind.u64 ↑t, Value.pointer (some { block := N, off := 0 }), undef, undef, Value.pointer (some { block := N + 1, off := 0 }), Value.slice none 0 0, Value.int IntKind.i64 0, Value.int IntKind.i64 0, Value.pointer (some { block := M, off := 0 }), .string (hd x).key, .slice (some ⟨b, off + x.1 * 4, none⟩) x.2.length (cap - x.1), undef, undef, Value.agg #[Value.slice a len cap, Value.int IntKind.u64 ↑low], Value.int IntKind.u64 ↑t, Value.int IntKind.i64 0, Value.int IntKind.i64 0, Value.bool false, undef, Value.pointer (some { block := N, off := 0 }), Value.slice a len cap, Value.string fr, Value.string to, Value.func (Fn.func 113) #[] #[Value.pointer (some { block := M + 1, off := 0 }), Value.pointer (some { block := M + 1 + 1, off := 0 })], Value.func (Fn.func 112) #[] #[Value.pointer (some { block := M + 1 + 1 + 1, off := 0 }), Value.pointer (some { block := M + 1 + 1 + 1 + 1, off := 0 })], .string (hd x).key, .slice (some ⟨b, off + x.1 * 4, none⟩) x.2.length (cap - x.1), undef, undef, undef, undef, undef, undef, undef, undef, undef, undef, undef, undef, undef, undef], defers := [] })
      (fun x a' A r o o' hr ho hc h => h)
      ?assign ?body ?all ?left
    case assign =>
      rintro lo k ⟨s, q⟩ W K hx hI hK
      have HK := hide (fun a' => hK a' W (KeepsOthers.refl _) ⟨Nat.le_refl _, fun _ _ _ => rfl⟩ hI)
      clear hK hI hx
      gi_wp2
      refine HK.out _ ?_
      simp
    case body =>
      rintro lo k ⟨s, q⟩ a' W hx ⟨⟨v, bF, hrow⟩, bT, hB, hsz⟩ rfl
      have HX := hide hx
      have HBF := hide bF
      have HROW := hide hrow
      have HBT := hide bT
      have HB := hide hB
      have HSZ := hide hsz
      have hlies := gps_lies l l.length 0 (by simp) (Nat.zero_le _) (s, q) (by
        rw [List.drop_zero]
        have : (s, q) ∈ xs := List.mem_of_getElem? hx
        rw [← HXS.out] at this
        exact (List.mem_filter.1 this).1)
      obtain ⟨e1, e2, e3⟩ := hlies
      dsimp only at e1 e2 e3
      have hlen : 0 < len := by rw [← HV.out.1]; omega
      have hVW : IsV W a len cap l := HV.out.below (by rw [HN.out]; exact hB)
      rw [(HAB.out hlen).1] at hVW
      have hVS := hVW.sub s q.length (by rw [← HV.out.1]; exact e2)
      rw [← e1] at hVS
      have HAS := hide (asOf_any _ _ _ t q W hVS)
      have HSN := hide (scanG_snoc t xs k (s, q) hx)
      have cT := bT.cell
      have hkl : k < xs.length := (List.getElem?_eq_some_iff.1 hx).1
      have HLE : Hid ((scanG t (xs.take k)).length + 1 ≤ 4097) := hide (by
        have h1 := scanG_len t (xs.take k)
        rw [List.length_take] at h1
        have h2 := HXL.out
        omega)
      clear hx hB hVW hVS e1 e2 e3 hlen bF bT hrow hsz
      dsimp only
      dsimp only at HSN
      generalize cap - s = cs at *
      generalize off + s * 4 = os at *
      generalize (scanG t (xs.take k)) = G at *
      generalize hkk : (hd (s, q)).key = kk at *
      clear hkk
      gi_wp2_with fail
      refine ⟨trivial, (CallsIn.inRound lo (callsIn_wide.2 HAS.out)).mono ?_⟩
      rintro e W2 ⟨rfl, hb3⟩
      have hBF := (hb3.block _ HBF.out.lt).trans HBF.out
      have hBT := (hb3.block _ HBT.out.lt).trans HBT.out
      have hROW := ownsRow_below2 HROW.out hb3
      have hB3 := HB.out.trans (hb3.mono (by rw [← HN.out]; exact HB.out.size))
      have hKO := Below.keepsOthers hb3
      have hKP : Kp (fun b => decide (b = M)) (M + 5) W W2 := Kp.of_below (hb3.mono HSZ.out)
      have hSZ2 := Nat.le_trans HSZ.out hb3.size
      obtain ⟨av, cv, rfl⟩ := own_form hROW
      have cF : W2.cell? ⟨M, 0, none⟩ = some (.slice av G.length cv) := Boxed.cell hBF
      have H5 := hide (show Boxed W2 M 22 (.slice av G.length cv) ∧ Boxed W2 (N + 1) 29 (.int .u64 (t : Nat)) ∧ W2.ownsRow (M + 5) 62 2 (.slice av G.length cv) G.length (G.flatMap prc) ∧ Below N w W2 ∧ KeepsOthers W W2 ∧ Kp (fun b => decide (b = M)) (M + 5) W W2 ∧ M + 5 ≤ W2.heap.size from ⟨hBF, hBT, hROW, hB3, hKO, hKP, hSZ2⟩)
      clear hb3 hBF hBT hROW hB3 hKO hKP hSZ2 HAS cT
      generalize seenR (lastTo q t) = r at *
      obtain ⟨r1, r2⟩ := r
      dsimp only at HSN ⊢
      cases r2
      · gi_wp2
        obtain ⟨g1, g2, g3, g4, g5, g6, g7⟩ := H5.out
        refine ⟨g5, g6, ⟨⟨_, g1, ?_⟩, g2, g4, g7⟩⟩
        rw [HSN.out]
        simpa using g3
      · gi_wp2_with (gi_at_builtin; refine wpListIn_append_own _ rfl _ _ 22 rfl (M + 5) 62 i0 _ 2 32 Tryz.underlying22 hi hz0 hz1 hz2 rfl (by decide) _ _ _ rfl (H5.out.2.2.1.alloc _) ⟨W2.heap.size, 0, none⟩ 1 1 (prc ⟨kk, r1⟩) rfl rfl (prc_news ⟨kk, r1⟩ (heap_alloc_new W2 _)) (prc_one ⟨kk, r1⟩) (by have := HLE.out; show _ ≤ 9223372036854775807; omega) (by have := HLE.out; omega) (by have := H5.out.2.2.2.2.2.2; simp; omega) ?_; intro v' w3 hown' hgrow _; obtain ⟨g', cap', rfl⟩ := ownsRow_succ hown'; obtain ⟨hv1, hv2, hr2, hk2, hb2, hkp2⟩ := appended H5.out.1 (by decide) (by omega) H5.out.2.2.1 H5.out.2.2.2.2.2.2 hown' hgrow; have hc1 := hv1.cell; have hf1 := hv1.frozen)
        obtain ⟨g1, g2, g3, g4, g5, g6, g7⟩ := H5.out
        refine ⟨g5.trans hk2, g6.trans hkp2, ⟨⟨_, hv2, ?_⟩, (hb2.block _ (by have := HNM.out; omega)).trans g2, g4.trans (hb2.mono (by have := HNM.out; omega)), Nat.le_trans g7 hk2.size⟩⟩
        rw [HSN.out]
        simpa using hr2
    case all =>
      rintro D W hD hK ⟨⟨v, bF, hrow⟩, bT, hB, hsz⟩
      rw [List.take_length] at hrow
      obtain ⟨av, cv, rfl⟩ := own_form hrow
      have cF := bF.cell
      have HB := hide hB
      have HROW := hide hrow
      have HND : Hid (N ≤ D) := hide (by have := HS2.out; have := HNM.out; omega)
      clear hB hrow bT bF
      gi_wp2
      refine ⟨by simp, .inl ⟨_, _, rfl, run_takeDeferred hK, ?_⟩⟩
      obtain ⟨a', c', he, hI, _⟩ := own_isP rfl (ownsRow_putObj HROW.out (.deferred none) hK rfl)
      cases he
      refine ⟨.tuple #[.slice av (scanG t xs).length cv, .int .i64 0], by simp [results, Tryz.f56, go_sem], ?_⟩
      rw [HXS.out]
      exact ⟨_, _, rfl, hI, by rw [HN.out]; exact put_below HND.out HB.out (Array.getElem?_eq_some_iff.1 hK).1⟩
    case left =>
      rintro D c k W hD hK hk h
      exact h.elim
theorem scan_any (a : Option Addr) (len cap low t : Nat) (fr to : ByteArray) (l : List Vr) (w : World) (hL : IsV w a len cap l) : Calls Tryz.prog 56 #[.agg #[.slice a len cap, .int .u64 (low : Nat)], .string fr, .string to, .int .u64 (t : Nat)] w fun e w' =>
    ∃ a' c', e = .returned (.tuple #[.slice a' (scanR low l fr to t).1.length c', .int .i64 (scanR low l fr to t).2]) ∧ IsP w' a' (scanR low l fr to t).1.length c' (scanR low l fr to t).1 ∧ Below w.heap.size w w' := by
  unfold scanR
  by_cases hE : askE low l t = 0
  · simp only [if_pos hE]
    exact scan_yes a len cap low t fr to l w hL hE
  · simp only [if_neg hE]
    refine (scan_no a len cap low t fr to l w hL hE).mono ?_
    rintro e w' ⟨rfl, hb⟩
    exact ⟨none, 0, rfl, ⟨rfl, Nat.le_refl _, Nat.zero_le _, fun i hi => absurd hi (Nat.not_lt_zero _)⟩, hb⟩
end Go.Proofs.YtlkmcbelmldleaaGreat
