/- TxnPeeks, walked -/
import Derived.Test.YtlkmcbelmldleaaGreatDx3
import Derived.Test.YtlkmcbelmldleaaGreatCx6
namespace Go.Proofs.YtlkmcbelmldleaaGreat
open Go.RowKit
set_option maxRecDepth 40000
set_option linter.unusedVariables false
theorem duo_do {X : Nat → Prop} {w : World} {g g' : Nat} {ms ms' : Mg} (h : Duo X w g g' ms ms') (k : Nat) (t : Int) (ht : -9223372036854775808 ≤ t ∧ t ≤ 9223372036854775807) (key to val : ByteArray) (hlast : ms.last + 1 < 4611686018427387904) (hnow : ms.now + 1 < 18446744073709551616) :
    Calls Tryz.prog 19 #[.pointer (some ⟨g, 0, none⟩), .agg #[.int .u8 (k : Nat), .int .i64 t, .string key, .string to, .string val]] w fun e w' => ∃ (v : Value) (A : An) (Z : Nat → Prop), e = .returned v ∧ AnOk ms k t key to val A ∧ Has w' Z v A ∧ (∀ j, Z j → w.heap.size ≤ j) ∧ Duo (fun j => X j ∨ Z j) w' g g' (mDo ms k t key to val) ms' ∧ Frm (fun i => ¬ X i) w w' := by
  obtain ⟨Y, hY, hM, hback⟩ := h.left
  exact (do_ans Y w g ms hM k t ht key to val hlast hnow).mono (fun e w' ⟨v, A, Z, q1, q2, q3, q4, q5, q6⟩ => ⟨v, A, Z, q1, q2, q3, q4, hback Z w' _ q5 q6 q4, q6.mono (fun i _ hi hx => hi (hY i hx))⟩)
theorem duo_srt {X : Nat → Prop} {w : World} {g g' : Nat} {ms ms' : Mg} (h : Duo X w g g' ms ms') : WsOk ms := by
  obtain ⟨Y, _, hM, _⟩ := h.left
  exact hM.srt
set_option maxHeartbeats 16000000 in
theorem peeks_law (a : Option Addr) (len cap : Nat) (l : List Pr) (sa : Option Addr) (sn sc : Nat) (sl : List Sx) (x : Int) (hx : -9223372036854775808 ≤ x ∧ x ≤ 9223372036854775807) (w : World) (hL : IsP w a len cap l) (hbig : len * 40 ≤ 140737488355328) (hS : IsSt w sa sn sc sl) (hsn : sn * 64 ≤ 140737488355328) :
    Calls Tryz.prog 9 #[.slice a len cap, .slice sa sn sc, .int .i64 x] w fun e w' => e = .returned (.bool true) ∧ Below w.heap.size w w' := by
  have HL := hide hL
  have HSS := hide hS
  have HX := hide hx
  have hscm : sc ≤ 9223372036854775807 := hS.2.2.1
  have hsc := hS.2.1
  have HBIG := hide hbig
  clear hL hS hbig hx
  go_enter Tryz.func9, Tryz.ntmps9
  go_wp2_with fail
  refine (lives_any _).mono ?_
  rintro e w0 ⟨rfl, hb0⟩
  have HB0 := hide hb0
  have HNW := hide (mn_new a len cap l w0 (HL.out.below hb0) HBIG.out)
  clear hb0
  go_wp2_with fail
  refine HNW.out.mono ?_
  rintro e w1 ⟨ptr, rfl, h1, h2, hb1⟩
  have HB1 := hide (HB0.out.trans (hb1.mono HB0.out.size))
  have HZ1 := hide hb1.size
  have HK1 := hide (And.intro h1 h2)
  clear HNW h1 h2 hb1
  have HNV := hide (mn_new a len cap l w1 (HL.out.below HB1.out) HBIG.out)
  go_wp2_with fail
  refine HNV.out.mono ?_
  rintro e w2 ⟨ptr', rfl, h1', h2', hb2⟩
  have HB12 := hide hb2
  have HB2 := hide (HB1.out.trans (hb2.mono HB1.out.size))
  have HK2 := hide (And.intro h1' h2')
  clear HNV h1' h2' hb2
  by_cases hE : newE l = 0
  case neg =>
    obtain rfl := HK1.out.2 hE
    obtain rfl := HK2.out.2 hE
    clear HK1 HK2
    have hE2 : (newE l == 0) = false := by simpa using hE
    have hE3 : decide (newE l = 0) = false := decide_eq_false hE
    have hE4 : (newE l != 0) = true := by simpa using hE
    generalize newE l = E at *
    go_wp2
    go_ret
    exact ⟨by simp, HB2.out⟩
  case pos =>
    obtain ⟨g, rfl, hM⟩ := HK1.out.1 hE
    obtain ⟨g', rfl, hM'⟩ := HK2.out.1 hE
    rw [hE]
    rw [new_M hE] at hM hM'
    have HD0 := hide (Duo.made hM HB12.out hM')
    have HG0 := hide (gd_start hE)
    have HZ2 := hide (Nat.le_trans HZ1.out HB12.out.size)
    clear HK1 HK2 hE hM hM' HB12
    generalize hB : w0.heap.size = B at *
    have HWB : Hid (w.heap.size ≤ B) := hide (by rw [← hB]; exact HB0.out.size)
    clear hB
    go_wp2
    go_loopw [49] (fun v49 wr => ∃ (k : Nat) (ms : Mg), k ≤ sn ∧ v49 = .int .i64 (k : Nat) ∧ Hid (Duo (fun i => i < B) wr g g' ms ms ∧ Gd ms ∧ ms.last ≤ k ∧ ms.now ≤ 1 + k ∧ Below B w2 wr ∧ B ≤ wr.heap.size)) (fun v49 _ => sn - (intOf v49).toNat)
    case atStart => exact ⟨0, _, Nat.zero_le _, rfl, hide ⟨HD0.out, HG0.out, Nat.le_refl _, Nat.le_refl _, Below.refl _ _, HZ2.out⟩⟩
    case round =>
      obtain ⟨k, ms, hk, rfl, HI⟩ := hrel
      have HI' : Hid (Below w.heap.size w wr) := hide (HB2.out.trans (HI.out.2.2.2.2.1.mono HWB.out))
      by_cases hlt : k < sn
      · obtain ⟨ht, b, off, rfl, hbs, z0, z1, z2, z3, z4⟩ := (HSS.out.below HI'.out).2.2.2 k hlt
        generalize sl.getD k Sx0 = x at *
        obtain ⟨xk, xt, x2, x3, x4⟩ := x
        dsimp only at z0 z1 z2 z3 z4 ht
        have hw1 : IntKind.i64.wrap ((k : Int) + 1) = (k : Int) + 1 := wr64' (by omega) (by omega)
        have hi4 : (0 : Int) ≤ (k : Int) := by omega
        have hiI : (k : Int) < (sn : Int) := by omega
        have HBx : Hid (Below wr.heap.size wr (wr.alloc (.cells #[.int .u8 (xk : Nat), .int .i64 xt, .string x2, .string x3, .string x4] 40))) := hide ((Below.refl _ wr).alloc (Nat.le_refl _) _)
        have HNx := hide (heap_alloc_new wr (.cells #[.int .u8 (xk : Nat), .int .i64 xt, .string x2, .string x3, .string x4] 40))
        have HDx := hide (HI.out.1.news HBx.out)
        have HSx : Hid ((wr.alloc (.cells #[.int .u8 (xk : Nat), .int .i64 xt, .string x2, .string x3, .string x4] 40)).heap.size = wr.heap.size + 1) := hide (World.size_alloc _ _)
        have HLN : Hid (ms.last + 1 < 4611686018427387904 ∧ ms.now + 1 < 18446744073709551616) := hide ⟨by have := HI.out.2.2.1; omega, by have := HI.out.2.2.2.1; omega⟩
        have HNXT : Hid (Gd (mDo ms xk xt x2 x3 x4) ∧ (mDo ms xk xt x2 x3 x4).last ≤ k + 1 ∧ (mDo ms xk xt x2 x3 x4).now ≤ 1 + (k + 1)) := hide ⟨HI.out.2.1.does (by have := HI.out.2.2.2.1; omega) xk xt x2 x3 x4, by have h1 := (does_nums ms xk xt x2 x3 x4).1; have h2 := HI.out.2.2.1; omega, by have h1 := (does_nums ms xk xt x2 x3 x4).2; have h2 := HI.out.2.2.2.1; omega⟩
        have HWS := hide (duo_srt HI.out.1)
        have HPK : Hid (Calls Tryz.prog 14 #[.pointer (some ⟨g, 0, none⟩), .int .i64 xt] (wr.alloc (.cells #[.int .u8 (xk : Nat), .int .i64 xt, .string x2, .string x3, .string x4] 40)) fun e w' => (∃ v, e = .returned v) ∧ Below (wr.alloc (.cells #[.int .u8 (xk : Nat), .int .i64 xt, .string x2, .string x3, .string x4] 40)).heap.size (wr.alloc (.cells #[.int .u8 (xk : Nat), .int .i64 xt, .string x2, .string x3, .string x4] 40)) w') := hide (by
          obtain ⟨Y, _, hM, _⟩ := HDx.out.left
          exact (mn_peek Y _ g ms hM xt ht).mono (fun e w' ⟨v, q1, _, q2⟩ => ⟨⟨_, q1⟩, q2⟩))
        go_wp2_with fail
        have HV1B : Hid (Below B wr (wr.alloc (.cells #[.int .u8 (xk : Nat), .int .i64 xt, .string x2, .string x3, .string x4] 40))) := hide (HBx.out.mono HI.out.2.2.2.2.2)
        obtain ⟨N, hN⟩ : ∃ N, wr.heap.size = N := ⟨_, rfl⟩
        rw [hN] at HNx HDx HSx HBx
        generalize hV1 : (wr.alloc (.cells #[.int .u8 (xk : Nat), .int .i64 xt, .string x2, .string x3, .string x4] 40)) = V1 at *
        clear hV1
        refine HPK.out.mono ?_
        rintro e V2 ⟨⟨v2, rfl⟩, hb2⟩
        have HD2 : Hid (Duo (fun i => i < B ∨ (N ≤ i ∧ i < V1.heap.size)) V2.drew g g' ms ms) := hide (HDx.out.below hb2.drew)
        have HN2d : Hid (V2.drew.heap[N]? = some (.cells #[.int .u8 (xk : Nat), .int .i64 xt, .string x2, .string x3, .string x4] 40 (0, 0))) := hide ((hb2.drew.block _ (heap_lt HNx.out)).trans HNx.out)
        have HNI : Hid (N ≤ N ∧ N < V1.heap.size) := hide ⟨Nat.le_refl _, by have := HSx.out; omega⟩
        have HV2B : Hid (Below B wr V2.drew) := hide (HV1B.out.trans (hb2.drew.mono (Nat.le_trans HI.out.2.2.2.2.2 HV1B.out.size)))
        have HS : Hid (∀ W' : World, W'.heap[N]? = some (.cells #[.int .u8 (xk : Nat), .int .i64 xt, .string x2, .string x3, .string x4] 40 (0, 0)) → W'.cell? ⟨N, 0, none⟩ = some (.int .u8 (xk : Nat)) ∧ W'.cell? ⟨N, 1, none⟩ = some (.int .i64 xt) ∧ W'.cell? ⟨N, 2, none⟩ = some (.string x2) ∧ W'.cell? ⟨N, 3, none⟩ = some (.string x3) ∧ W'.cell? ⟨N, 4, none⟩ = some (.string x4)) := hide (fun W' h => ⟨cell_blk h rfl, cell_blk h rfl, cell_blk h rfl, cell_blk h rfl, cell_blk h rfl⟩)
        clear hb2 HPK HDx z0 z1 z2 z3 z4
        rw [hN]
        go_wp2_with fail
        refine wp_region_held_drew (S := (fun W' : World => W'.cell? ⟨N, 0, none⟩ = some (.int .u8 (xk : Nat)) ∧ W'.cell? ⟨N, 1, none⟩ = some (.int .i64 xt) ∧ W'.cell? ⟨N, 2, none⟩ = some (.string x2) ∧ W'.cell? ⟨N, 3, none⟩ = some (.string x3) ∧ W'.cell? ⟨N, 4, none⟩ = some (.string x4))) (by kernel_rfl) ?hSp (fun hHeld => ?_)
        case hSp => exact HS.out _ HN2d.out
        refine hTake (i := 0) (v := ?v0p) (some 57) rfl rfl (by kernel_rfl) (by kernel_rfl) (by kernel_rfl) (fun _ _ _ h => h) (by rfl) (by assumption) ?hy0p ?hn0p
        case hy0p => (intro w hSw; (try dsimp only at hSw); skip; go_simp; try with_reducible rfl)
        try simp only [Act.put, List.setIfInBounds_toArray, List.set_cons_zero, List.set_cons_succ]
        refine hTake (i := 1) (v := ?v1p) (some 58) rfl rfl (by kernel_rfl) (by kernel_rfl) (by kernel_rfl) (fun _ _ _ h => h) (by rfl) (by assumption) ?hy1p ?hn1p
        case hy1p => (intro w hSw; (try dsimp only at hSw); skip; go_simp; try with_reducible rfl)
        try simp only [Act.put, List.setIfInBounds_toArray, List.set_cons_zero, List.set_cons_succ]
        refine hTake (i := 3) (v := ?v3p) (some 60) rfl rfl (by kernel_rfl) (by kernel_rfl) (by kernel_rfl) (fun _ _ _ h => h) (by rfl) (by assumption) ?hy3p ?hn3p
        case hy3p => (intro w hSw; (try dsimp only at hSw); skip; go_simp; try with_reducible rfl)
        try simp only [Act.put, List.setIfInBounds_toArray, List.set_cons_zero, List.set_cons_succ]
        refine hTake (i := 4) (v := ?v4p) (some 61) rfl rfl (by kernel_rfl) (by kernel_rfl) (by kernel_rfl) (fun _ _ _ h => h) (by rfl) (by assumption) ?hy4p ?hn4p
        case hy4p => (intro w hSw; (try dsimp only at hSw); skip; go_simp; try with_reducible rfl)
        try simp only [Act.put, List.setIfInBounds_toArray, List.set_cons_zero, List.set_cons_succ]
        refine hOne (i := 2) rfl (by kernel_rfl) (fun K hK => ?_)
        go_simp
        refine (duo_do HD2.out xk xt ht x2 x3 x4 HLN.out.1 HLN.out.2).mono ?_
        rintro e V3 ⟨v3, A, Z, rfl, hA, hH, hZ, hD3, hF3⟩
        have HA := hide hA
        have HH := hide hH
        have HZ := hide hZ
        have HD3 := hide hD3
        have HF3 := hide hF3
        have HN3 : Hid (V3.heap[N]? = some (.cells #[.int .u8 (xk : Nat), .int .i64 xt, .string x2, .string x3, .string x4] 40 (0, 0))) := hide ((hF3.block _ (heap_lt HN2d.out) (fun hn => hn (.inr HNI.out))).trans HN2d.out)
        clear hA hH hZ hD3 hF3
        refine hK.out _ _ (HS.out _ HN3.out) (fun hHeld => ?_)
        clear hK K
        try simp only [Act.put, List.setIfInBounds_toArray, List.set_cons_zero, List.set_cons_succ]
        refine hOne (i := 5) rfl (by kernel_rfl) (fun K hK => ?_)
        go_simp
        refine (duo_do HD3.out.swap xk xt ht x2 x3 x4 HLN.out.1 HLN.out.2).mono ?_
        rintro e V4 ⟨v4, A', Z', rfl, hA, hH, hZ, hD4, hF4⟩
        obtain rfl := anOk_one HWS.out HA.out hA
        have HSE := hide (same_eq V4 v3 v4 A (HH.out.kept V4 (fun j hj => hF4.block j (HD3.out.xb j (.inr hj)) (fun hn => hn (.inr hj)))) hH.now)
        have HD4 := hide hD4.swap
        have HF4 := hide hF4
        have HN4 : Hid (V4.heap[N]? = some (.cells #[.int .u8 (xk : Nat), .int .i64 xt, .string x2, .string x3, .string x4] 40 (0, 0))) := hide ((hF4.block _ (heap_lt HN3.out) (fun hn => hn (.inl (.inr HNI.out)))).trans HN3.out)
        clear hA hH hZ hD4 hF4
        refine hK.out _ _ (HS.out _ HN4.out) (fun hHeld => ?_)
        clear hK K
        try simp only [Act.put, List.setIfInBounds_toArray, List.set_cons_zero, List.set_cons_succ]
        refine hOne (i := 6) rfl (by kernel_rfl) (fun K hK => ?_)
        go_simp
        refine HSE.out.mono ?_
        rintro e V5 ⟨rfl, hb5⟩
        have HB5 := hide hb5
        have HN5 : Hid (V5.heap[N]? = some (.cells #[.int .u8 (xk : Nat), .int .i64 xt, .string x2, .string x3, .string x4] 40 (0, 0))) := hide ((hb5.block _ (heap_lt HN4.out)).trans HN4.out)
        clear hb5 HSE
        refine hK.out _ _ (HS.out _ HN5.out) (fun hHeld => ?_)
        clear hK K
        try simp only [Act.put, List.setIfInBounds_toArray, List.set_cons_zero, List.set_cons_succ]
        refine hTake (i := 7) (v := ?v7p) (some 64) rfl rfl (by kernel_rfl) (by kernel_rfl) (by kernel_rfl) (fun _ _ _ h => h) (by rfl) (by assumption) ?hy7p ?hn7p
        case hy7p => (intro w hSw; (try dsimp only at hSw); skip; go_simp; try with_reducible rfl)
        try simp only [Act.put, List.setIfInBounds_toArray, List.set_cons_zero, List.set_cons_succ]
        refine wpAnyH_done (by kernel_rfl) ?_ _
        have HFIN : Hid (Duo (fun i => i < B) V5 g g' (mDo ms xk xt x2 x3 x4) (mDo ms xk xt x2 x3 x4) ∧ Below B w2 V5 ∧ B ≤ V5.heap.size) := hide (by
          have z2 : B ≤ V2.drew.heap.size := Nat.le_trans HI.out.2.2.2.2.2 HV2B.out.size
          have q3 : Below B V2.drew V3 := HF3.out.low (fun i hi => .inl hi) z2
          have z3 : B ≤ V3.heap.size := Nat.le_trans z2 q3.size
          have q4 : Below B V3 V4 := HF4.out.low (fun i hi => .inl (.inl hi)) z3
          have z4 : B ≤ V4.heap.size := Nat.le_trans z3 q4.size
          have q5 : Below B V4 V5 := HB5.out.mono z4
          exact ⟨(HD4.out.below HB5.out).mono (fun i hi => .inl (.inl (.inl hi))), HI.out.2.2.2.2.1.trans (HV2B.out.trans (q3.trans (q4.trans q5))), Nat.le_trans z4 q5.size⟩)
        clear HD2 HD3 HD4 HH HA HZ HF3 HF4 HB5 HN2d HN3 HN4 HN5 HS HNI HV2B HV1B
        go_wp2
        go_roundw
        case rel => exact ⟨k + 1, _, by omega, by simp, hide ⟨HFIN.out.1, HNXT.out.1, HNXT.out.2.1, HNXT.out.2.2, HFIN.out.2.1, HFIN.out.2.2⟩⟩
        case measure => simp [intOf]; omega
      · obtain rfl : k = sn := by omega
        have hkk : ¬ (k : Int) < (k : Int) := by omega
        obtain ⟨Y, hY, hM, _⟩ := HI.out.1.left
        have HPC := hide (peek_commit HI.out.2.1 (duo_srt HI.out.1) HI.out.1.few (by have := HI.out.2.2.2.1; omega) x)
        have HPK := hide (mn_peek Y wr g ms hM x HX.out)
        have HCM : Hid (∀ W : World, Below wr.heap.size wr W → Calls Tryz.prog 33 #[.pointer (some ⟨g, 0, none⟩), .int .i64 x] W fun e w' => ∃ v, e = .returned (.tuple #[v, .int .u64 ((mCommit ms x).2.2.1 : Nat), .int .i64 (mCommit ms x).2.2.2]) ∧ w'.ownsRow W.heap.size 64 3 v (mCommit ms x).2.1.length ((mCommit ms x).2.1.flatMap wtc) ∧ Frm (fun i => ¬ (Y i ∨ (wr.heap.size ≤ i ∧ i < W.heap.size))) W w') := hide (fun W hW => (mn_commit _ W g ms (hM.news hW) x HX.out (by have := HI.out.2.2.2.1; omega)).mono (fun e w' ⟨v, q1, q2, _, q4⟩ => ⟨v, q1, q2, q4⟩))
        have HYB : Hid (∀ i, i < B → Y i) := hide hY
        clear hM hY
        generalize hR : (mCommit ms x).2 = R at *
        generalize mPeek ms x = P at *
        clear hR
        obtain ⟨P1, P2, P3⟩ := P
        obtain ⟨R1, R2, R3⟩ := R
        dsimp only at HPC HPK HCM
        go_wp2_with fail
        refine HPK.out.mono ?_
        rintro e w8 ⟨v8, rfl, hr8, hb8⟩
        have HR8 := hide hr8
        have HB8 := hide hb8
        clear hr8 hb8 HPK
        obtain ⟨a8, c8, rfl⟩ := own_form HR8.out
        go_wp2_with fail
        refine (HCM.out _ HB8.out).mono ?_
        rintro e w9 ⟨v9, rfl, hr9, hF9⟩
        have HR9 := hide hr9
        have HR8' : Hid (w9.ownsRow wr.heap.size 64 3 (.slice a8 P1.length c8) P1.length (P1.flatMap wtc)) := hide (row_kept HR8.out (fun j hj => hF9.block j (HR8.out.lt j hj).2 (fun hn => hn (.inr (HR8.out.lt j hj)))))
        have HB9 : Hid (Below w.heap.size w w9) := hide (HI'.out.trans ((HB8.out.mono HI'.out.size).trans ((hF9.low (B := B) (fun i h => .inl (HYB.out i h)) (Nat.le_trans HI.out.2.2.2.2.2 HB8.out.size)).mono HWB.out)))
        clear hr9 hF9 HCM HYB
        obtain ⟨a9, c9, rfl⟩ := own_form HR9.out
        have HIW8 := hide (own_isW rfl HR8'.out)
        have HIW9 := hide (own_isW rfl HR9.out)
        clear HR8 HR8' HR9
        rcases HPC.out with ⟨hp, hc⟩ | ⟨l1, hp, hc1, hc2⟩ | ⟨l1, hp, hc⟩
        · cases hp
          cases hc
          clear HPC
          go_wp2
          go_ret
          exact ⟨rfl, HB9.out⟩
        · cases hp
          obtain rfl := hc1
          obtain rfl := hc2
          clear HPC
          go_wp2
          go_ret
          exact ⟨rfl, HB9.out⟩
        · cases hp
          rcases hc with rfl | ⟨rfl, rfl⟩
          · clear HPC
            go_wp2
            go_ret
            exact ⟨rfl, HB9.out⟩
          · clear HPC
            have HSW := hide (sameW_any a8 _ c8 R1 a9 _ c9 R1 w9 HIW8.out HIW9.out)
            go_wp2_with fail
            refine HSW.out.mono ?_
            rintro e w10 ⟨⟨q, rfl, hq⟩, hb10⟩
            obtain rfl : q = true := hq.2 trivial
            have HB10 := hide (HB9.out.trans (hb10.mono HB9.out.size))
            clear hb10 hq HSW
            go_wp2
            go_ret
            exact ⟨rfl, HB10.out⟩
end Go.Proofs.YtlkmcbelmldleaaGreat
