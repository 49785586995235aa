/- TxnCalls, walked -/
import Derived.Test.YtlkmcbelmldleaaGreatDx4
import Derived.Test.YtlkmcbelmldleaaGreatCx6
namespace Go.Proofs.YtlkmcbelmldleaaGreat
open Go.RowKit
set_option maxRecDepth 40000
set_option linter.unusedVariables false
theorem Flat.lt {w : World} {e size : Nat} {v : Value} {n j : Nat} (h : Flat w e size v n) (hj : v.ownBlock = some j) : j < w.heap.size := by
  rcases h with ⟨rfl, _⟩ | ⟨b, cap, cur, rfl, h2, _⟩
  · simp [Value.ownBlock] at hj
  · have : b = j := by simpa [Value.ownBlock] using hj
    rw [← this]
    exact heap_lt h2
set_option maxHeartbeats 16000000 in
theorem calls_law (a : Option Addr) (len cap : Nat) (l : List Pr) (sa : Option Addr) (sn sc : Nat) (sl : List Sx) (w : World) (hL : IsP w a len cap l) (hbig : len * 40 ≤ 140737488355328) (hS : IsSt w sa sn sc sl) (hsn : sn * 64 ≤ 140737488355328) :
    Calls Tryz.prog 4 #[.slice a len cap, .slice sa sn sc] w fun e w' => e = .returned (.bool true) ∧ Below w.heap.size w w' := by
  have HL := hide hL
  have HSS := hide hS
  have hscm : sc ≤ 9223372036854775807 := hS.2.2.1
  have hsc := hS.2.1
  have HBIG := hide hbig
  clear hL hS hbig
  go_enter Tryz.func4, Tryz.ntmps4
  go_wp2_with fail
  refine (lives_any _).mono ?_
  rintro e w0 ⟨rfl, hb0⟩
  have HB0 := hide hb0
  have HNW := hide (mn_new a len cap l w0 (HL.out.below hb0) HBIG.out)
  clear hb0
  go_wp2_with fail
  refine HNW.out.mono ?_
  rintro e w1 ⟨ptr, rfl, h1, h2, hb1⟩
  have HB1 := hide (HB0.out.trans (hb1.mono HB0.out.size))
  have HZ1 := hide hb1.size
  have HK1 := hide (And.intro h1 h2)
  clear HNW h1 h2 hb1
  have HNV := hide (mn_new a len cap l w1 (HL.out.below HB1.out) HBIG.out)
  go_wp2_with fail
  refine HNV.out.mono ?_
  rintro e w2 ⟨ptr', rfl, h1', h2', hb2⟩
  have HB12 := hide hb2
  have HB2 := hide (HB1.out.trans (hb2.mono HB1.out.size))
  have HK2 := hide (And.intro h1' h2')
  clear HNV h1' h2' hb2
  by_cases hE : newE l = 0
  case neg =>
    obtain rfl := HK1.out.2 hE
    obtain rfl := HK2.out.2 hE
    clear HK1 HK2
    have hE2 : (newE l == 0) = false := by simpa using hE
    have hE3 : decide (newE l = 0) = false := decide_eq_false hE
    have hE4 : (newE l != 0) = true := by simpa using hE
    generalize newE l = E at *
    go_wp2
    go_ret
    exact ⟨by simp, HB2.out⟩
  case pos =>
    obtain ⟨g, rfl, hM⟩ := HK1.out.1 hE
    obtain ⟨g', rfl, hM'⟩ := HK2.out.1 hE
    rw [hE]
    rw [new_M hE] at hM hM'
    have HD0 := hide (Duo.made hM HB12.out hM')
    have HG0 := hide (gd_start hE)
    have HZ2 := hide (Nat.le_trans HZ1.out HB12.out.size)
    clear HK1 HK2 hE hM hM' HB12
    generalize hB : w0.heap.size = B at *
    have HWB : Hid (w.heap.size ≤ B) := hide (by rw [← hB]; exact HB0.out.size)
    clear hB
    go_wp2
    go_loopw [44] (fun v44 wr => ∃ (k : Nat) (ms : Mg), k ≤ sn ∧ v44 = .int .i64 (k : Nat) ∧ Hid (Duo (fun i => i < B) wr g g' ms ms ∧ Gd ms ∧ ms.last ≤ k ∧ ms.now ≤ 1 + k ∧ Below B w2 wr ∧ B ≤ wr.heap.size)) (fun v44 _ => sn - (intOf v44).toNat)
    case atStart => exact ⟨0, _, Nat.zero_le _, rfl, hide ⟨HD0.out, HG0.out, Nat.le_refl _, Nat.le_refl _, Below.refl _ _, HZ2.out⟩⟩
    case round =>
      obtain ⟨k, ms, hk, rfl, HI⟩ := hrel
      have HI' : Hid (Below w.heap.size w wr) := hide (HB2.out.trans (HI.out.2.2.2.2.1.mono HWB.out))
      by_cases hlt : k < sn
      · obtain ⟨ht, b, off, rfl, hbs, z0, z1, z2, z3, z4⟩ := (HSS.out.below HI'.out).2.2.2 k hlt
        generalize sl.getD k Sx0 = x at *
        obtain ⟨xk, xt, x2, x3, x4⟩ := x
        dsimp only at z0 z1 z2 z3 z4 ht
        have hw1 : IntKind.i64.wrap ((k : Int) + 1) = (k : Int) + 1 := wr64' (by omega) (by omega)
        have hi4 : (0 : Int) ≤ (k : Int) := by omega
        have hiI : (k : Int) < (sn : Int) := by omega
        have HBx : Hid (Below wr.heap.size wr (wr.alloc (.cells #[.int .u8 (xk : Nat), .int .i64 xt, .string x2, .string x3, .string x4] 40))) := hide ((Below.refl _ wr).alloc (Nat.le_refl _) _)
        have HNx := hide (heap_alloc_new wr (.cells #[.int .u8 (xk : Nat), .int .i64 xt, .string x2, .string x3, .string x4] 40))
        have HDx := hide (HI.out.1.news HBx.out)
        have HSx : Hid ((wr.alloc (.cells #[.int .u8 (xk : Nat), .int .i64 xt, .string x2, .string x3, .string x4] 40)).heap.size = wr.heap.size + 1) := hide (World.size_alloc _ _)
        have HLN : Hid (ms.last + 1 < 4611686018427387904 ∧ ms.now + 1 < 18446744073709551616) := hide ⟨by have := HI.out.2.2.1; omega, by have := HI.out.2.2.2.1; omega⟩
        have HNXT : Hid (Gd (mDo ms xk xt x2 x3 x4) ∧ (mDo ms xk xt x2 x3 x4).last ≤ k + 1 ∧ (mDo ms xk xt x2 x3 x4).now ≤ 1 + (k + 1)) := hide ⟨HI.out.2.1.does (by have := HI.out.2.2.2.1; omega) xk xt x2 x3 x4, by have h1 := (does_nums ms xk xt x2 x3 x4).1; have h2 := HI.out.2.2.1; omega, by have h1 := (does_nums ms xk xt x2 x3 x4).2; have h2 := HI.out.2.2.2.1; omega⟩
        have HWS := hide (duo_srt HI.out.1)
        go_wp2_with fail
        have HV1B : Hid (Below B wr (wr.alloc (.cells #[.int .u8 (xk : Nat), .int .i64 xt, .string x2, .string x3, .string x4] 40))) := hide (HBx.out.mono HI.out.2.2.2.2.2)
        obtain ⟨N, hN⟩ : ∃ N, wr.heap.size = N := ⟨_, rfl⟩
        rw [hN] at HNx HDx HSx HBx
        generalize hV1 : (wr.alloc (.cells #[.int .u8 (xk : Nat), .int .i64 xt, .string x2, .string x3, .string x4] 40)) = V1 at *
        clear hV1
        rw [hN]
        refine (duo_call HDx.out xk xt ht x2 x3 x4 HLN.out.1 HLN.out.2).mono ?_
        rintro e V2 ⟨pv, dv, A, rfl, hA, hP, hQ, hone, hD2, hF2⟩
        obtain ⟨ap, cp, rfl⟩ := own_form hP
        obtain ⟨ad, cd, rfl⟩ := own_form hQ
        have HA := hide hA
        have HP2 := hide hP
        have HQ2 := hide hQ
        have HD2 := hide hD2
        have HF2 := hide hF2
        have HONE := hide hone
        have HN2 : Hid (V2.heap[N]? = some (.cells #[.int .u8 (xk : Nat), .int .i64 xt, .string x2, .string x3, .string x4] 40 (0, 0))) := hide ((hF2.block _ (heap_lt HNx.out) (fun hn => hn (.inr ⟨Nat.le_refl _, by have := HSx.out; omega⟩))).trans HNx.out)
        have HX3 : Hid (Below V2.heap.size V2 (V2.alloc (.cells #[.int .i64 A.why, .int .i64 A.tx, .string A.val, .bool A.is, .slice ap A.pairs.length cp, .slice ad A.done.length cd, .int .u64 (A.time : Nat)] 47)).drew) := hide (((Below.refl _ V2).alloc (Nat.le_refl _) _).drew)
        have HM3 := hide (show (V2.alloc (.cells #[.int .i64 A.why, .int .i64 A.tx, .string A.val, .bool A.is, .slice ap A.pairs.length cp, .slice ad A.done.length cd, .int .u64 (A.time : Nat)] 47)).drew.heap[V2.heap.size]? = some (.cells #[.int .i64 A.why, .int .i64 A.tx, .string A.val, .bool A.is, .slice ap A.pairs.length cp, .slice ad A.done.length cd, .int .u64 (A.time : Nat)] 47 (0, 0)) from heap_alloc_new V2 (.cells #[.int .i64 A.why, .int .i64 A.tx, .string A.val, .bool A.is, .slice ap A.pairs.length cp, .slice ad A.done.length cd, .int .u64 (A.time : Nat)] 47))
        have HZ3 : Hid ((V2.alloc (.cells #[.int .i64 A.why, .int .i64 A.tx, .string A.val, .bool A.is, .slice ap A.pairs.length cp, .slice ad A.done.length cd, .int .u64 (A.time : Nat)] 47)).drew.heap.size = V2.heap.size + 1) := hide (World.size_alloc _ _)
        have c0 : V2.cell? ⟨N, 0, none⟩ = some (.int .u8 (xk : Nat)) := cell_blk HN2.out rfl
        obtain ⟨XX, hXX⟩ : ∃ XX : Nat → Prop, XX = fun j => ((j < B ∨ (N ≤ j ∧ j < V1.heap.size)) ∨ ((Value.slice ap A.pairs.length cp).ownBlock = some j ∨ (Value.slice ad A.done.length cd).ownBlock = some j)) ∨ (V2.heap.size ≤ j ∧ j < (V2.alloc (.cells #[.int .i64 A.why, .int .i64 A.tx, .string A.val, .bool A.is, .slice ap A.pairs.length cp, .slice ad A.done.length cd, .int .u64 (A.time : Nat)] 47)).drew.heap.size) := ⟨_, rfl⟩
        have HD3 : Hid (Duo XX (V2.alloc (.cells #[.int .i64 A.why, .int .i64 A.tx, .string A.val, .bool A.is, .slice ap A.pairs.length cp, .slice ad A.done.length cd, .int .u64 (A.time : Nat)] 47)).drew g g' (mDo ms xk xt x2 x3 x4) ms) := hide (by rw [hXX]; exact HD2.out.news HX3.out)
        have HXB : Hid (∀ j, j < B → XX j) := hide (fun j hj => by rw [hXX]; exact .inl (.inl (.inl hj)))
        have HXN : Hid (XX N) := hide (by rw [hXX]; exact .inl (.inl (.inr ⟨Nat.le_refl _, by have := HSx.out; omega⟩)))
        have HXP : Hid (∀ j, (Value.slice ap A.pairs.length cp).ownBlock = some j → XX j) := hide (fun j hj => by rw [hXX]; exact .inl (.inr (.inl hj)))
        have HXQ : Hid (∀ j, (Value.slice ad A.done.length cd).ownBlock = some j → XX j) := hide (fun j hj => by rw [hXX]; exact .inl (.inr (.inr hj)))
        have HXM : Hid (XX V2.heap.size) := hide (by rw [hXX]; exact .inr ⟨Nat.le_refl _, by have := HZ3.out; omega⟩)
        have HN3 : Hid ((V2.alloc (.cells #[.int .i64 A.why, .int .i64 A.tx, .string A.val, .bool A.is, .slice ap A.pairs.length cp, .slice ad A.done.length cd, .int .u64 (A.time : Nat)] 47)).drew.heap[N]? = some (.cells #[.int .u8 (xk : Nat), .int .i64 xt, .string x2, .string x3, .string x4] 40 (0, 0))) := hide ((HX3.out.block _ (heap_lt HN2.out)).trans HN2.out)
        have HP3 := hide (row_kept HP2.out (fun j hj => HX3.out.block j (HP2.out.lt j hj).2))
        have HQ3 := hide (row_kept HQ2.out (fun j hj => HX3.out.block j (HQ2.out.lt j hj).2))
        have PNE : Hid (¬ (Value.slice ap A.pairs.length cp).ownBlock = some V2.heap.size) := hide (fun e => by have := (HP2.out.lt _ e).2; omega)
        have QNE : Hid (¬ (Value.slice ad A.done.length cd).ownBlock = some V2.heap.size) := hide (fun e => by have := (HQ2.out.lt _ e).2; omega)
        have HZ0 : Hid (B ≤ V1.heap.size) := hide (Nat.le_trans HI.out.2.2.2.2.2 HV1B.out.size)
        have PLO : Hid (∀ j, (Value.slice ap A.pairs.length cp).ownBlock = some j → B ≤ j) := hide (fun j e => Nat.le_trans HZ0.out (HP2.out.lt _ e).1)
        have QLO : Hid (∀ j, (Value.slice ad A.done.length cd).ownBlock = some j → B ≤ j) := hide (fun j e => Nat.le_trans HZ0.out (HQ2.out.lt _ e).1)
        have HV3B : Hid (Below B w2 (V2.alloc (.cells #[.int .i64 A.why, .int .i64 A.tx, .string A.val, .bool A.is, .slice ap A.pairs.length cp, .slice ad A.done.length cd, .int .u64 (A.time : Nat)] 47)).drew ∧ B ≤ (V2.alloc (.cells #[.int .i64 A.why, .int .i64 A.tx, .string A.val, .bool A.is, .slice ap A.pairs.length cp, .slice ad A.done.length cd, .int .u64 (A.time : Nat)] 47)).drew.heap.size) := hide (by
          have q2 : Below B V1 V2 := HF2.out.low (fun i hi => .inl hi) HZ0.out
          have z2 := Nat.le_trans HZ0.out q2.size
          have q3 : Below B V2 (V2.alloc (.cells #[.int .i64 A.why, .int .i64 A.tx, .string A.val, .bool A.is, .slice ap A.pairs.length cp, .slice ad A.done.length cd, .int .u64 (A.time : Nat)] 47)).drew := HX3.out.mono z2
          exact ⟨HI.out.2.2.2.2.1.trans (HV1B.out.trans (q2.trans q3)), Nat.le_trans z2 q3.size⟩)
        clear hA hP hQ hone hD2 hF2 c0 HF2 HP2 HQ2 HD2 HN2 HX3 HZ3 HV1B HDx HNx HBx HSx hXX z0 z1 z2 z3 z4
        go_wp2_with fail
        obtain ⟨M, hM0⟩ : ∃ M, V2.heap.size = M := ⟨_, rfl⟩
        rw [hM0] at HM3 HXM PNE QNE
        rw [hM0]
        have HS : Hid (∀ W' : World, W'.heap[N]? = some (.cells #[.int .u8 (xk : Nat), .int .i64 xt, .string x2, .string x3, .string x4] 40 (0, 0)) → W'.heap[M]? = some (.cells #[.int .i64 A.why, .int .i64 A.tx, .string A.val, .bool A.is, .slice ap A.pairs.length cp, .slice ad A.done.length cd, .int .u64 (A.time : Nat)] 47 (0, 0)) → W'.cell? ⟨N, 0, none⟩ = some (.int .u8 (xk : Nat)) ∧ W'.cell? ⟨N, 1, none⟩ = some (.int .i64 xt) ∧ W'.cell? ⟨N, 2, none⟩ = some (.string x2) ∧ W'.cell? ⟨N, 3, none⟩ = some (.string x3) ∧ W'.cell? ⟨N, 4, none⟩ = some (.string x4) ∧ W'.cell? ⟨M, 0, none⟩ = some (.int .i64 A.why) ∧ W'.cell? ⟨M, 1, none⟩ = some (.int .i64 A.tx) ∧ W'.cell? ⟨M, 2, none⟩ = some (.string A.val) ∧ W'.cell? ⟨M, 3, none⟩ = some (.bool A.is) ∧ W'.cell? ⟨M, 4, none⟩ = some (.slice ap A.pairs.length cp) ∧ W'.cell? ⟨M, 5, none⟩ = some (.slice ad A.done.length cd) ∧ W'.cell? ⟨M, 6, none⟩ = some (.int .u64 (A.time : Nat))) := hide (fun W' h h' => ⟨cell_blk h rfl, cell_blk h rfl, cell_blk h rfl, cell_blk h rfl, cell_blk h rfl, cell_blk h' rfl, cell_blk h' rfl, cell_blk h' rfl, cell_blk h' rfl, cell_blk h' rfl, cell_blk h' rfl, cell_blk h' rfl⟩)
        refine wp_region_held_drew (S := (fun W' : World => W'.cell? ⟨N, 0, none⟩ = some (.int .u8 (xk : Nat)) ∧ W'.cell? ⟨N, 1, none⟩ = some (.int .i64 xt) ∧ W'.cell? ⟨N, 2, none⟩ = some (.string x2) ∧ W'.cell? ⟨N, 3, none⟩ = some (.string x3) ∧ W'.cell? ⟨N, 4, none⟩ = some (.string x4) ∧ W'.cell? ⟨M, 0, none⟩ = some (.int .i64 A.why) ∧ W'.cell? ⟨M, 1, none⟩ = some (.int .i64 A.tx) ∧ W'.cell? ⟨M, 2, none⟩ = some (.string A.val) ∧ W'.cell? ⟨M, 3, none⟩ = some (.bool A.is) ∧ W'.cell? ⟨M, 4, none⟩ = some (.slice ap A.pairs.length cp) ∧ W'.cell? ⟨M, 5, none⟩ = some (.slice ad A.done.length cd) ∧ W'.cell? ⟨M, 6, none⟩ = some (.int .u64 (A.time : Nat)))) (by kernel_rfl) ?hSp (fun hHeld => ?_)
        case hSp => exact HS.out _ HN3.out HM3.out
        refine hTake (i := 0) (v := ?v0p) (some 51) rfl rfl (by kernel_rfl) (by kernel_rfl) (by kernel_rfl) (fun _ _ _ h => h) (by rfl) (by assumption) ?hy0p ?hn0p
        case hy0p => (intro w hSw; (try dsimp only at hSw); skip; go_simp; try with_reducible rfl)
        try simp only [Act.put, List.setIfInBounds_toArray, List.set_cons_zero, List.set_cons_succ]
        refine hTake (i := 1) (v := ?v1p) (some 52) rfl rfl (by kernel_rfl) (by kernel_rfl) (by kernel_rfl) (fun _ _ _ h => h) (by rfl) (by assumption) ?hy1p ?hn1p
        case hy1p => (intro w hSw; (try dsimp only at hSw); skip; go_simp; try with_reducible rfl)
        try simp only [Act.put, List.setIfInBounds_toArray, List.set_cons_zero, List.set_cons_succ]
        refine hTake (i := 2) (v := ?v2p) (some 53) rfl rfl (by kernel_rfl) (by kernel_rfl) (by kernel_rfl) (fun _ _ _ h => h) (by rfl) (by assumption) ?hy2p ?hn2p
        case hy2p => (intro w hSw; (try dsimp only at hSw); skip; go_simp; try with_reducible rfl)
        try simp only [Act.put, List.setIfInBounds_toArray, List.set_cons_zero, List.set_cons_succ]
        refine hOne (i := 3) rfl (by kernel_rfl) (fun K hK => ?_)
        go_simp
        refine (duo_do HD3.out.swap xk xt ht x2 x3 x4 HLN.out.1 HLN.out.2).mono ?_
        rintro e V4 ⟨v4, A', Z', rfl, hA, hH, hZ, hD4, hF4⟩
        obtain rfl := anOk_one HWS.out HA.out hA
        have HK4 : Hid (∀ j, XX j → V4.heap[j]? = (V2.alloc (.cells #[.int .i64 A.why, .int .i64 A.tx, .string A.val, .bool A.is, .slice ap A.pairs.length cp, .slice ad A.done.length cd, .int .u64 (A.time : Nat)] 47)).drew.heap[j]?) := hide (fun j hj => hF4.block j (HD3.out.xb j hj) (fun hn => hn hj))
        have HP4 := hide (row_kept HP3.out (fun j hj => HK4.out j (HXP.out j hj)))
        have HQ4 := hide (row_kept HQ3.out (fun j hj => HK4.out j (HXQ.out j hj)))
        have HSE := hide (same_eq V4 (.agg #[.int .i64 A.why, .int .i64 A.tx, .string A.val, .bool A.is, .slice ap A.pairs.length cp, .slice ad A.done.length cd, .int .u64 (A.time : Nat)]) v4 A ⟨ap, _, cp, ad, _, cd, rfl, own_isPP rfl HP4.out, own_isW rfl HQ4.out⟩ hH.now)
        have HD4 := hide hD4.swap
        have HF4 := hide hF4
        have HN4 : Hid (V4.heap[N]? = some (.cells #[.int .u8 (xk : Nat), .int .i64 xt, .string x2, .string x3, .string x4] 40 (0, 0))) := hide ((HK4.out N HXN.out).trans HN3.out)
        have HM4 : Hid (V4.heap[M]? = some (.cells #[.int .i64 A.why, .int .i64 A.tx, .string A.val, .bool A.is, .slice ap A.pairs.length cp, .slice ad A.done.length cd, .int .u64 (A.time : Nat)] 47 (0, 0))) := hide ((HK4.out M HXM.out).trans HM3.out)
        clear hA hH hZ hD4 hF4
        refine hK.out _ _ (HS.out _ HN4.out HM4.out) (fun hHeld => ?_)
        clear hK K
        try simp only [Act.put, List.setIfInBounds_toArray, List.set_cons_zero, List.set_cons_succ]
        refine hOne (i := 4) rfl (by kernel_rfl) (fun K hK => ?_)
        go_simp
        refine HSE.out.mono ?_
        rintro e V5 ⟨rfl, hb5⟩
        have HB5 := hide hb5
        have HN5 : Hid (V5.heap[N]? = some (.cells #[.int .u8 (xk : Nat), .int .i64 xt, .string x2, .string x3, .string x4] 40 (0, 0))) := hide ((hb5.block _ (heap_lt HN4.out)).trans HN4.out)
        have HM5 : Hid (V5.heap[M]? = some (.cells #[.int .i64 A.why, .int .i64 A.tx, .string A.val, .bool A.is, .slice ap A.pairs.length cp, .slice ad A.done.length cd, .int .u64 (A.time : Nat)] 47 (0, 0))) := hide ((hb5.block _ (heap_lt HM4.out)).trans HM4.out)
        have HP5 := hide (flat_of (row_kept HP4.out (fun j hj => hb5.block _ (HP4.out.lt j hj).2)))
        have HQ5 := hide (flat_of (row_kept HQ4.out (fun j hj => hb5.block _ (HQ4.out.lt j hj).2)))
        have HD5 : Hid (Duo XX V5 g g' (mDo ms xk xt x2 x3 x4) (mDo ms xk xt x2 x3 x4)) := hide ((HD4.out.below hb5).mono (fun i hi => .inl hi))
        clear hb5 HSE
        refine hK.out _ _ (HS.out _ HN5.out HM5.out) (fun hHeld => ?_)
        clear hK K
        try simp only [Act.put, List.setIfInBounds_toArray, List.set_cons_zero, List.set_cons_succ]
        refine hTake (i := 5) (v := ?v5p) (some 56) rfl rfl (by kernel_rfl) (by kernel_rfl) (by kernel_rfl) (fun _ _ _ h => h) (by rfl) (by assumption) ?hy5p ?hn5p
        case hy5p => (intro w hSw; (try dsimp only at hSw); skip; go_simp; try with_reducible rfl)
        try simp only [Act.put, List.setIfInBounds_toArray, List.set_cons_zero, List.set_cons_succ]
        refine wpAnyH_done (by kernel_rfl) ?_ _
        have HV5B : Hid (Below B w2 V5 ∧ B ≤ V5.heap.size) := hide (by
          have q4 : Below B (V2.alloc (.cells #[.int .i64 A.why, .int .i64 A.tx, .string A.val, .bool A.is, .slice ap A.pairs.length cp, .slice ad A.done.length cd, .int .u64 (A.time : Nat)] 47)).drew V4 := HF4.out.low (fun i hi => HXB.out i hi) HV3B.out.2
          have z4 := Nat.le_trans HV3B.out.2 q4.size
          have q5 : Below B V4 V5 := HB5.out.mono z4
          exact ⟨HV3B.out.1.trans (q4.trans q5), Nat.le_trans z4 q5.size⟩)
        clear HD3 HD4 HF4 HB5 HN3 HN4 HM3 HM4 HP3 HQ3 HP4 HQ4 HK4 HS HN5 HV3B
        have mP : V5.cell? ⟨M, 4, none⟩ = some (.slice ap A.pairs.length cp) := cell_blk HM5.out rfl
        go_wp2
        go_loopw [60] (fun v60 wr => ∃ i : Nat, i ≤ A.pairs.length ∧ v60 = .int .i64 (i : Nat) ∧ Hid (Flat wr 62 2 (Value.slice ap A.pairs.length cp) A.pairs.length ∧ Frm (fun j => (Value.slice ap A.pairs.length cp).ownBlock = some j) V5 wr)) (fun v60 _ => A.pairs.length - (intOf v60).toNat)
        case atStart => exact ⟨0, Nat.zero_le _, rfl, hide ⟨HP5.out, Frm.refl _ _⟩⟩
        case round =>
          obtain ⟨i, hi, rfl, HJ⟩ := hrel
          have HMw : Hid (wr.heap[M]? = V5.heap[M]?) := hide (HJ.out.2.block _ (heap_lt HM5.out) (fun e => PNE.out e))
          have m0 : wr.cell? ⟨M, 4, none⟩ = some (Value.slice ap A.pairs.length cp) := cell_blk (HMw.out.trans HM5.out) rfl
          by_cases hlt2 : i < A.pairs.length
          · obtain ⟨b, cap2, hrow, hc1, hc2, hfz, hcell⟩ := HJ.out.1.at hlt2
            cases hrow
            obtain ⟨u0, k0⟩ := hcell 0 (by omega)
            have f0 := hfz (i * 2)
            obtain ⟨u1, k1⟩ := hcell 1 (by omega)
            have f1 := hfz (i * 2 + 1)
            rw [Nat.add_zero] at k0
            have hw2 : IntKind.i64.wrap ((i : Int) + 1) = (i : Int) + 1 := wr64' (by omega) (by unfold maxLen at hc2; omega)
            have hj4 : (0 : Int) ≤ (i : Int) := by omega
            have hjI : (i : Int) < ((A.pairs.length : Nat) : Int) := by omega
            have hcI : cp ≤ 9223372036854775807 := hc2
            have HFL : Hid (Flat ((wr.setCell ⟨b, i * 2, none⟩ (.string ⟨#[]⟩)).setCell ⟨b, i * 2 + 1, none⟩ (.string ⟨#[]⟩)) 62 2 (Value.slice (some ⟨b, 0, none⟩) A.pairs.length cp) A.pairs.length) := hide (((HJ.out.1.set b _ _).set b _ _))
            have HFR : Hid (Frm (fun j => (Value.slice (some ⟨b, 0, none⟩) A.pairs.length cp).ownBlock = some j) V5 ((wr.setCell ⟨b, i * 2, none⟩ (.string ⟨#[]⟩)).setCell ⟨b, i * 2 + 1, none⟩ (.string ⟨#[]⟩))) := hide (HJ.out.2.trans ⟨rfl, rfl, rfl, by simp [World.setCell], fun j _ hj => by
              have hne : j ≠ b := fun e => hj (by rw [e]; rfl)
              exact (Below.heap_setCell _ _ _ _ hne).trans (Below.heap_setCell _ _ _ _ hne)⟩)
            clear hfz hcell HMw
            go_wp2
            go_roundw
            case rel => exact ⟨i + 1, by omega, by simp, hide ⟨HFL.out, HFR.out⟩⟩
            case measure => simp [intOf]; omega
          · obtain rfl : A.pairs.length = i := by omega
            have hkk2 : ¬ ((A.pairs.length : Nat) : Int) < ((A.pairs.length : Nat) : Int) := by omega
            have HD6 : Hid (Duo XX wr g g' (mDo ms xk xt x2 x3 x4) (mDo ms xk xt x2 x3 x4)) := hide (HD5.out.turned (HJ.out.2.mono (fun i _ h => HXP.out i h)))
            have HM6 : Hid (wr.heap[M]? = some (.cells #[.int .i64 A.why, .int .i64 A.tx, .string A.val, .bool A.is, .slice ap A.pairs.length cp, .slice ad A.done.length cd, .int .u64 (A.time : Nat)] 47 (0, 0))) := hide (HMw.out.trans HM5.out)
            have HQ6 : Hid (Flat wr 64 3 (Value.slice ad A.done.length cd) A.done.length) := hide (by
              rcases HONE.out with h | h
              · exact HQ5.out.kept (fun j hj => HJ.out.2.block j (HQ5.out.lt hj) (fun e => by rw [h] at e; simp [Value.ownBlock] at e))
              · exact HQ5.out.kept (fun j hj => by rw [h] at hj; simp [Value.ownBlock] at hj))
            have HV6B : Hid (Below B w2 wr ∧ B ≤ wr.heap.size) := hide ⟨HV5B.out.1.trans (HJ.out.2.toBelow HV5B.out.2 PLO.out), Nat.le_trans HV5B.out.2 HJ.out.2.size⟩
            clear HD5 HM5 HQ5 HV5B HJ HMw m0 HP5
            have mQ : wr.cell? ⟨M, 5, none⟩ = some (Value.slice ad A.done.length cd) := cell_blk HM6.out rfl
            obtain ⟨V6, hV6⟩ : ∃ V6, V6 = wr := ⟨_, rfl⟩
            subst hV6
            go_wp2
            go_loopw [72] (fun v72 wr => ∃ i : Nat, i ≤ A.done.length ∧ v72 = .int .i64 (i : Nat) ∧ Hid (Flat wr 64 3 (Value.slice ad A.done.length cd) A.done.length ∧ Frm (fun j => (Value.slice ad A.done.length cd).ownBlock = some j) V6 wr)) (fun v72 _ => A.done.length - (intOf v72).toNat)
            case atStart => exact ⟨0, Nat.zero_le _, rfl, hide ⟨HQ6.out, Frm.refl _ _⟩⟩
            case round =>
              obtain ⟨i, hi, rfl, HJ2⟩ := hrel
              have HMw : Hid (wr.heap[M]? = V6.heap[M]?) := hide (HJ2.out.2.block _ (heap_lt HM6.out) (fun e => QNE.out e))
              have m0 : wr.cell? ⟨M, 5, none⟩ = some (Value.slice ad A.done.length cd) := cell_blk (HMw.out.trans HM6.out) rfl
              by_cases hlt2 : i < A.done.length
              · obtain ⟨b, cap2, hrow, hc1, hc2, hfz, hcell⟩ := HJ2.out.1.at hlt2
                cases hrow
                obtain ⟨u0, k0⟩ := hcell 0 (by omega)
                have f0 := hfz (i * 3)
                obtain ⟨u1, k1⟩ := hcell 1 (by omega)
                have f1 := hfz (i * 3 + 1)
                obtain ⟨u2, k2⟩ := hcell 2 (by omega)
                have f2 := hfz (i * 3 + 2)
                rw [Nat.add_zero] at k0
                have hw2 : IntKind.i64.wrap ((i : Int) + 1) = (i : Int) + 1 := wr64' (by omega) (by unfold maxLen at hc2; omega)
                have hj4 : (0 : Int) ≤ (i : Int) := by omega
                have hjI : (i : Int) < ((A.done.length : Nat) : Int) := by omega
                have hcI : cd ≤ 9223372036854775807 := hc2
                have HFL : Hid (Flat (((wr.setCell ⟨b, i * 3, none⟩ (.string ⟨#[]⟩)).setCell ⟨b, i * 3 + 1, none⟩ (.string ⟨#[]⟩)).setCell ⟨b, i * 3 + 2, none⟩ (.bool false)) 64 3 (Value.slice (some ⟨b, 0, none⟩) A.done.length cd) A.done.length) := hide ((((HJ2.out.1.set b _ _).set b _ _).set b _ _))
                have HFR : Hid (Frm (fun j => (Value.slice (some ⟨b, 0, none⟩) A.done.length cd).ownBlock = some j) V6 (((wr.setCell ⟨b, i * 3, none⟩ (.string ⟨#[]⟩)).setCell ⟨b, i * 3 + 1, none⟩ (.string ⟨#[]⟩)).setCell ⟨b, i * 3 + 2, none⟩ (.bool false))) := hide (HJ2.out.2.trans ⟨rfl, rfl, rfl, by simp [World.setCell], fun j _ hj => by
                  have hne : j ≠ b := fun e => hj (by rw [e]; rfl)
                  exact (Below.heap_setCell _ _ _ _ hne).trans ((Below.heap_setCell _ _ _ _ hne).trans (Below.heap_setCell _ _ _ _ hne))⟩)
                clear hfz hcell HMw
                go_wp2
                go_roundw
                case rel => exact ⟨i + 1, by omega, by simp, hide ⟨HFL.out, HFR.out⟩⟩
                case measure => simp [intOf]; omega
              · obtain rfl : A.done.length = i := by omega
                have hkk2 : ¬ ((A.done.length : Nat) : Int) < ((A.done.length : Nat) : Int) := by omega
                have HD7 : Hid (Duo XX wr g g' (mDo ms xk xt x2 x3 x4) (mDo ms xk xt x2 x3 x4)) := hide (HD6.out.turned (HJ2.out.2.mono (fun i _ h => HXQ.out i h)))
                have HV7B : Hid (Below B w2 wr ∧ B ≤ wr.heap.size) := hide ⟨HV6B.out.1.trans (HJ2.out.2.toBelow HV6B.out.2 QLO.out), Nat.le_trans HV6B.out.2 HJ2.out.2.size⟩
                clear HD6 HV6B HJ2 HMw m0 HM6 HQ6
                have HVS := hide (show Calls Tryz.prog 25 #[.pointer (some ⟨g, 0, none⟩)] wr fun e w' => ∃ v, e = .returned (.agg #[v, .int .u64 ((mDo ms xk xt x2 x3 x4).low : Nat)]) ∧ w'.ownsRow wr.heap.size 66 4 v (mDo ms xk xt x2 x3 x4).vs.length ((mDo ms xk xt x2 x3 x4).vs.flatMap vrc) ∧ Below wr.heap.size wr w' from by
                  obtain ⟨Y, _, hM, _⟩ := HD7.out.left
                  exact mn_versions Y _ g _ hM HNXT.out.1)
                have HD9' : Hid (∀ W : World, Below wr.heap.size wr W → Duo (fun i => XX i ∨ (wr.heap.size ≤ i ∧ i < W.heap.size)) W g g' (mDo ms xk xt x2 x3 x4) (mDo ms xk xt x2 x3 x4)) := hide (fun W hW => HD7.out.news hW)
                clear HD7
                obtain ⟨lo8, hlo8⟩ : ∃ lo8, (mDo ms xk xt x2 x3 x4).low = lo8 := ⟨_, rfl⟩
                obtain ⟨n8, hn8⟩ : ∃ n8, (mDo ms xk xt x2 x3 x4).vs.length = n8 := ⟨_, rfl⟩
                rw [hlo8, hn8] at HVS
                clear hlo8 hn8
                go_wp2_with fail
                refine HVS.out.mono ?_
                rintro e V8 ⟨v8, rfl, hr8, hb8⟩
                obtain ⟨a8, c8, rfl⟩ := own_form hr8
                have HBK : Hid (Below V8.heap.size V8 (V8.alloc (.cells #[.slice a8 n8 c8, .int .u64 (lo8 : Nat)] 31))) := hide ((Below.refl _ V8).alloc (Nat.le_refl _) _)
                have HMK := hide (heap_alloc_new V8 (.cells #[.slice a8 n8 c8, .int .u64 (lo8 : Nat)] 31))
                have HSK : Hid ((V8.alloc (.cells #[.slice a8 n8 c8, .int .u64 (lo8 : Nat)] 31)).heap.size = V8.heap.size + 1) := hide (World.size_alloc _ _)
                have HB9 : Hid (Below wr.heap.size wr (V8.alloc (.cells #[.slice a8 n8 c8, .int .u64 (lo8 : Nat)] 31))) := hide (hb8.trans (HBK.out.mono hb8.size))
                have HR9 : Hid (Flat (V8.alloc (.cells #[.slice a8 n8 c8, .int .u64 (lo8 : Nat)] 31)) 66 4 (Value.slice a8 n8 c8) n8) := hide (flat_of (row_kept hr8 (fun j hj => HBK.out.block j (hr8.lt j hj).2)))
                have RNE : Hid (¬ (Value.slice a8 n8 c8).ownBlock = some V8.heap.size) := hide (fun e => by have := (hr8.lt _ e).2; omega)
                have RLO : Hid (∀ j, (Value.slice a8 n8 c8).ownBlock = some j → B ≤ j) := hide (fun j e => Nat.le_trans HV7B.out.2 (hr8.lt _ e).1)
                have HD9 := hide (HD9'.out _ HB9.out)
                obtain ⟨X9, hX9⟩ : ∃ X9 : Nat → Prop, X9 = fun i => XX i ∨ (wr.heap.size ≤ i ∧ i < (V8.alloc (.cells #[.slice a8 n8 c8, .int .u64 (lo8 : Nat)] 31)).heap.size) := ⟨_, rfl⟩
                have HX9 : Hid (∀ j, (Value.slice a8 n8 c8).ownBlock = some j → X9 j) := hide (fun j e => by rw [hX9]; exact .inr ⟨(hr8.lt _ e).1, by have h1 := (hr8.lt _ e).2; have h2 := HSK.out; omega⟩)
                have HXC : Hid (∀ j, XX j → X9 j) := hide (fun j hj => by rw [hX9]; exact .inl hj)
                rw [← hX9] at HD9
                have HV9B : Hid (Below B w2 (V8.alloc (.cells #[.slice a8 n8 c8, .int .u64 (lo8 : Nat)] 31)) ∧ B ≤ (V8.alloc (.cells #[.slice a8 n8 c8, .int .u64 (lo8 : Nat)] 31)).heap.size) := hide ⟨HV7B.out.1.trans (HB9.out.mono HV7B.out.2), Nat.le_trans HV7B.out.2 HB9.out.size⟩
                obtain ⟨K8, hK8⟩ : ∃ K8, V8.heap.size = K8 := ⟨_, rfl⟩
                rw [hK8] at HMK RNE
                clear HD9' HVS HB9 HBK hr8 hb8 hX9 HSK HV7B
                have mK : (V8.alloc (.cells #[.slice a8 n8 c8, .int .u64 (lo8 : Nat)] 31)).cell? ⟨K8, 0, none⟩ = some (Value.slice a8 n8 c8) := cell_blk HMK.out rfl
                go_wp2_with fail
                try rw [hK8]
                clear hK8
                generalize (V8.alloc (.cells #[.slice a8 n8 c8, .int .u64 (lo8 : Nat)] 31)) = V9 at *
                go_wp2
                go_loopw [86] (fun v86 wr => ∃ i : Nat, i ≤ n8 ∧ v86 = .int .i64 (i : Nat) ∧ Hid (Flat wr 66 4 (Value.slice a8 n8 c8) n8 ∧ Frm (fun j => (Value.slice a8 n8 c8).ownBlock = some j) V9 wr)) (fun v86 _ => n8 - (intOf v86).toNat)
                case atStart => exact ⟨0, Nat.zero_le _, rfl, hide ⟨HR9.out, Frm.refl _ _⟩⟩
                case round =>
                  obtain ⟨i, hi, rfl, HJ3⟩ := hrel
                  have HMw : Hid (wr.heap[K8]? = V9.heap[K8]?) := hide (HJ3.out.2.block _ (heap_lt HMK.out) (fun e => RNE.out e))
                  have m0 : wr.cell? ⟨K8, 0, none⟩ = some (Value.slice a8 n8 c8) := cell_blk (HMw.out.trans HMK.out) rfl
                  by_cases hlt2 : i < n8
                  · obtain ⟨b, cap2, hrow, hc1, hc2, hfz, hcell⟩ := HJ3.out.1.at hlt2
                    cases hrow
                    obtain ⟨u0, k0⟩ := hcell 0 (by omega)
                    have f0 := hfz (i * 4)
                    obtain ⟨u1, k1⟩ := hcell 1 (by omega)
                    have f1 := hfz (i * 4 + 1)
                    obtain ⟨u2, k2⟩ := hcell 2 (by omega)
                    have f2 := hfz (i * 4 + 2)
                    obtain ⟨u3, k3⟩ := hcell 3 (by omega)
                    have f3 := hfz (i * 4 + 3)
                    rw [Nat.add_zero] at k0
                    have hw2 : IntKind.i64.wrap ((i : Int) + 1) = (i : Int) + 1 := wr64' (by omega) (by unfold maxLen at hc2; omega)
                    have hj4 : (0 : Int) ≤ (i : Int) := by omega
                    have hjI : (i : Int) < ((n8 : Nat) : Int) := by omega
                    have hcI : c8 ≤ 9223372036854775807 := hc2
                    have HFL : Hid (Flat ((((wr.setCell ⟨b, i * 4, none⟩ (.string ⟨#[]⟩)).setCell ⟨b, i * 4 + 1, none⟩ (.int .u64 0)).setCell ⟨b, i * 4 + 2, none⟩ (.string ⟨#[]⟩)).setCell ⟨b, i * 4 + 3, none⟩ (.bool false)) 66 4 (Value.slice (some ⟨b, 0, none⟩) n8 c8) n8) := hide (((((HJ3.out.1.set b _ _).set b _ _).set b _ _).set b _ _))
                    have HFR : Hid (Frm (fun j => (Value.slice (some ⟨b, 0, none⟩) n8 c8).ownBlock = some j) V9 ((((wr.setCell ⟨b, i * 4, none⟩ (.string ⟨#[]⟩)).setCell ⟨b, i * 4 + 1, none⟩ (.int .u64 0)).setCell ⟨b, i * 4 + 2, none⟩ (.string ⟨#[]⟩)).setCell ⟨b, i * 4 + 3, none⟩ (.bool false))) := hide (HJ3.out.2.trans ⟨rfl, rfl, rfl, by simp [World.setCell], fun j _ hj => by
                      have hne : j ≠ b := fun e => hj (by rw [e]; rfl)
                      exact (Below.heap_setCell _ _ _ _ hne).trans ((Below.heap_setCell _ _ _ _ hne).trans ((Below.heap_setCell _ _ _ _ hne).trans (Below.heap_setCell _ _ _ _ hne)))⟩)
                    clear hfz hcell HMw
                    go_wp2
                    go_roundw
                    case rel => exact ⟨i + 1, by omega, by simp, hide ⟨HFL.out, HFR.out⟩⟩
                    case measure => simp [intOf]; omega
                  · obtain rfl : n8 = i := by omega
                    have hkk2 : ¬ ((n8 : Nat) : Int) < ((n8 : Nat) : Int) := by omega
                    have HFIN : Hid (Duo (fun i => i < B) wr g g' (mDo ms xk xt x2 x3 x4) (mDo ms xk xt x2 x3 x4) ∧ Below B w2 wr ∧ B ≤ wr.heap.size) := hide (by
                      have hz := HV9B.out.2
                      exact ⟨(HD9.out.turned (HJ3.out.2.mono (fun i _ h => HX9.out i h))).mono (fun i hi => HXC.out i (HXB.out i hi)), HV9B.out.1.trans (HJ3.out.2.toBelow hz RLO.out), Nat.le_trans hz HJ3.out.2.size⟩)
                    clear HD9 HJ3 HMw m0 HV9B
                    go_wp2
                    go_roundw
                    case rel => exact ⟨k + 1, _, by omega, by simp, hide ⟨HFIN.out.1, HNXT.out.1, HNXT.out.2.1, HNXT.out.2.2, HFIN.out.2.1, HFIN.out.2.2⟩⟩
                    case measure => simp [intOf]; omega
      · obtain rfl : k = sn := by omega
        have hkk : ¬ (k : Int) < (k : Int) := by omega
        have HVA := hide (show Calls Tryz.prog 25 #[.pointer (some ⟨g, 0, none⟩)] wr fun e w' => ∃ v, e = .returned (.agg #[v, .int .u64 (ms.low : Nat)]) ∧ w'.ownsRow wr.heap.size 66 4 v ms.vs.length (ms.vs.flatMap vrc) ∧ Below wr.heap.size wr w' from by
          obtain ⟨Y, _, hM, _⟩ := HI.out.1.left
          exact mn_versions Y _ g _ hM HI.out.2.1)
        have HVB : Hid (∀ W : World, Below wr.heap.size wr W → Calls Tryz.prog 25 #[.pointer (some ⟨g', 0, none⟩)] W fun e w' => ∃ v, e = .returned (.agg #[v, .int .u64 (ms.low : Nat)]) ∧ w'.ownsRow W.heap.size 66 4 v ms.vs.length (ms.vs.flatMap vrc) ∧ Below W.heap.size W w') := hide (fun W hW => by
          obtain ⟨Y, _, hM, _⟩ := (HI.out.1.below hW).swap.left
          exact mn_versions Y _ g' _ hM HI.out.2.1)
        generalize ms.low = lo at *
        generalize hvs : ms.vs = vs at *
        clear hvs HI
        go_wp2_with fail
        refine HVA.out.mono ?_
        rintro e w8 ⟨v8, rfl, hr8, hb8⟩
        obtain ⟨a8, c8, rfl⟩ := own_form hr8
        have HR8 := hide hr8
        have HB8 := hide hb8
        clear hr8 hb8 HVA
        go_wp2_with fail
        refine (HVB.out _ HB8.out).mono ?_
        rintro e w9 ⟨v9, rfl, hr9, hb9⟩
        obtain ⟨a9, c9, rfl⟩ := own_form hr9
        have HB9 : Hid (Below w.heap.size w w9) := hide (HI'.out.trans ((HB8.out.trans (hb9.mono HB8.out.size)).mono HI'.out.size))
        have HI9 : Hid (IsV w9 a9 vs.length c9 vs) := hide (by
          obtain ⟨a', c', e, h, _⟩ := own_isV rfl hr9
          cases e
          exact h)
        have HI8 : Hid (IsV w9 a8 vs.length c8 vs) := hide (by
          obtain ⟨a', c', e, h, _⟩ := own_isV rfl (row_kept HR8.out (fun j hj => hb9.block j (HR8.out.lt j hj).2))
          cases e
          exact h)
        have HSV := hide (sameV_any a8 _ c8 lo vs a9 _ c9 lo vs w9 HI8.out HI9.out)
        clear hr9 hb9 HVB HR8 HB8 HI8 HI9
        go_wp2_with fail
        refine HSV.out.mono ?_
        rintro e w10 ⟨⟨q, rfl, hq⟩, hb10⟩
        obtain rfl : q = true := hq.2 (by simp)
        have HB10 := hide (HB9.out.trans (hb10.mono HB9.out.size))
        clear hb10 hq HSV
        go_wp2
        go_ret
        exact ⟨rfl, HB10.out⟩
end Go.Proofs.YtlkmcbelmldleaaGreat
