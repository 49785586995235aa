/- reader.inner -/
import Derived.Test.YtebikoekpbnpbaaFE
namespace Go.Proofs.Ytebikoekpbnpbaa
open Go.RowKit Cod
set_option maxRecDepth 100000
set_option linter.unusedVariables false
set_option linter.unusedSimpArgs false
/-- what inner answers -/
def Inner71 (r : Nat) (R : List Nat) (bad : Bool) (cnt : Nat) (w : World) (e : Ending) (w' : World) : Prop := ∃ (v : Pv) (keys : List (List Nat)) (kids : List Int) (R' : List Nat) (bad' : Bool), e = .returned (.agg (pgc false v)) ∧ NwG w' w.heap.size v ⟨false, keys, [], kids⟩ ∧ keys.length ≤ 5000 ∧ kids.length ≤ 5001 ∧ (∀ b ∈ keys, b.length ≤ 1024) ∧ RdI w' r R' bad' ∧
      (bad = false → ∀ q pad, checkE q = 0 → q.leaf = false → q.keys.length = cnt → R = num (q.kids.getD 0 0).toNat ++ (restI q 0 ++ pad) → keys = q.keys ∧ kids = q.kids ∧ bad' = false) ∧ w.grownBy w' (some r)
set_option maxHeartbeats 4000000 in
/-- reader.inner -/
theorem inner71 (r : Nat) (R : List Nat) (bad : Bool) (cnt : Nat) (w : World) (h : RdI w r R bad) (hc : cnt < 18446744073709551616) :
    Calls Try.prog 71 #[.pointer (some ⟨r, 0, none⟩), .int .u64 (cnt : Nat)] w fun e w' => Inner71 r R bad cnt w e w' := by
  obtain ⟨Wz, hWz⟩ : ∃ W, W = w.alloc (.cells #[.bool false, .slice none 0 0, .slice none 0 0, .slice none 0 0] 25) := ⟨_, rfl⟩
  have HSZ : Hid (Wz.heap.size = w.heap.size + 1) := hide (by rw [hWz]; simp)
  have HB : Hid (Wz.heap[w.heap.size]? = some (.cells #[.bool false, .slice none 0 0, .slice none 0 0, .slice none 0 0] 25 (0, 0))) := hide (by rw [hWz, heap_alloc_new])
  have HBz : Hid (Below w.heap.size w Wz) := hide (by rw [hWz]; exact belowN _ _)
  have HRL : Hid (r < w.heap.size) := hide h.lt
  have HFEW := hide h.few
  have HR := hide (h.below HBz.out)
  obtain ⟨ra, rn, rc, hw0⟩ := HR.out.rdW
  have HN := hide (num69 r ra rn rc R bad Wz hw0)
  clear h hw0
  go_enter Try.func71, Try.ntmps71
  go_wp2_with fail
  try rw [← hWz]
  clear hWz
  refine HN.out.mono ?_
  rintro e w1 ⟨m, R1, b1, rfl, hm, hns, hr1, hg1⟩
  have HNS := hide hns
  obtain ⟨Q, hQ⟩ : ∃ Q, Q = w1.heap.size := ⟨_, rfl⟩
  have HQw : Hid (w.heap.size + 1 ≤ Q) := hide (by rw [hQ]; have := hg1.size; have := HSZ.out; omega)
  obtain ⟨z, hz⟩ : ∃ z, z = wrap64 (m : Int) := ⟨_, rfl⟩
  have HZ : Hid (i64B z ∧ z = IntKind.i64.wrap (m : Int)) := hide ⟨by rw [hz, ← IntWalk.i64_left]; exact wrap_i64B _, by rw [hz, ← IntWalk.i64_left]⟩
  obtain ⟨V1, hV1⟩ : ∃ V, V = w1.alloc (.cells #[.int .i64 z] 3) := ⟨_, rfl⟩
  obtain ⟨V0, hV0⟩ : ∃ V, V = V1.alloc (.cells #[.bool false, .slice none 0 0, .slice none 0 0, .slice (some ⟨Q, 0, none⟩) 1 1] 25) := ⟨_, rfl⟩
  have HL0 : Hid (InS Wz V0 r (Q + 1) (w.heap.size + 1) ⟨none, 0, 0, none, 0, 0, some ⟨Q, 0, none⟩, 1, 1⟩ [] [z] R1 b1) := hide (by
    have hs1 : V1.heap.size = Q + 1 := by rw [hV1, hQ]; simp
    have hb1 : Below w1.heap.size w1 V1 := by rw [hV1]; exact belowN _ _
    have hb0 : Below V1.heap.size V1 V0 := by rw [hV0]; exact belowN _ _
    have hb := hb1.trans (hb0.mono hb1.size)
    have hq : V0.heap[Q]? = some (.cells #[.int .i64 z] 3 (0, 0)) := by
      have h1 : V1.heap[Q]? = some (.cells #[.int .i64 z] 3 (0, 0)) := by rw [hV1, hQ, heap_alloc_new]
      exact (hb0.block _ (heap_ltN h1)).trans h1
    refine ⟨by show V0.heap[Q + 1]? = _; rw [hV0, ← hs1, heap_alloc_new], ⟨[], World.ownsRow_nil _ _ _ _, rfl, fun i hi => by simp at hi⟩, ⟨rfl, .inr ⟨Q, 1, _, rfl, HQw.out, hq, Nat.le_refl _, by unfold maxLen; decide, rfl, rfl⟩⟩, ⟨rfl, rfl⟩, ⟨rfl, rfl, rfl⟩, ?_, hr1.below hb, grown_trans hg1 ⟨hb.os, hb.tape, hb.output, hb.size, fun k hk _ => hb.block k hk⟩, ⟨by have := HSZ.out; have := HRL.out; omega, by have := HSZ.out; have := HQw.out; omega, by have := HSZ.out; omega⟩, nofun⟩
    intro k hk
    have : k = z := by simpa using hk
    rw [this]
    exact HZ.out.1)
  have HA0 : Hid (Cnt R.length 0 R1 b1 ∧ (bad = false → InnerAt cnt R 0 [] [z] R1 b1)) := hide ⟨⟨fun _ => by have := numS_len HR.out.lits HNS.out; omega, by omega⟩, fun e => by rw [HZ.out.2]; exact innerAt_0 e HNS.out⟩
  clear hr1 hg1 hns HN HR
  go_wp2_with fail
  try rw [← hz]
  try rw [← hQ]
  try rw [← hV1]
  try rw [← hV0]
  clear hV0 hV1 hz hQ
  go_loopw [6] (fun v6 W => ∃ (k : Nat) (v : Pv) (keys : List (List Nat)) (kids : List Int) (R' : List Nat) (b' : Bool), v6 = .int .u64 (k : Nat) ∧ k ≤ cnt ∧ Hid (InS Wz W r (Q + 1) (w.heap.size + 1) v keys kids R' b' ∧ Cnt R.length k R' b' ∧ keys.length = k ∧ kids.length = k + 1 ∧ (bad = false → InnerAt cnt R k keys kids R' b'))) (fun _ W => rdMW r W)
  case atStart => exact ⟨0, _, [], [z], R1, b1, rfl, Nat.zero_le _, hide ⟨HL0.out, HA0.out.1, rfl, rfl, HA0.out.2⟩⟩
  case round =>
    obtain ⟨k, v, keys, kids, R', b', rfl, hkc, HI⟩ := hrel
    obtain ⟨ra2, rn2, rc2, hr1, _⟩ := HI.out.1.rd.is
    have q1 : wr.cell? ⟨r, 1, none⟩ = some (.bool b') := cell_blkN hr1 rfl
    have hM0 : rdMW r wr = rdM R' b' := rdMW_eq HI.out.1.rd
    by_cases hlt : k < cnt
    case neg =>
      have HEX : Hid (b' = true ∨ ¬ k < cnt) := hide (.inr hlt)
      have hnl : ¬ ((k : Nat) : Int) < ((cnt : Nat) : Int) := by omega
      clear hr1
      have HLS := hide HI.out.1
      have HEN : Hid (bad = false → ∀ q pad, checkE q = 0 → q.leaf = false → q.keys.length = cnt → R = num (q.kids.getD 0 0).toNat ++ (restI q 0 ++ pad) → keys = q.keys ∧ kids = q.kids ∧ b' = false) := hide (fun e q pad h1 h2 h3 h4 => innerAt_end (HI.out.2.2.2.2 e) HEX.out h1 h2 h3 h4)
      have HLN : Hid (keys.length ≤ 5000 ∧ kids.length ≤ 5001) := hide (by have := HI.out.2.1.most; have := HI.out.2.2.1; have := HI.out.2.2.2.1; have := HFEW.out; omega)
      have HBW : Hid (wr.heap[w.heap.size]? = some (.cells #[.bool false, .slice none 0 0, .slice none 0 0, .slice none 0 0] 25 (0, 0))) := hide ((HI.out.1.gr.block _ (by have := HSZ.out; omega) (by have := HRL.out; simp; omega)).trans HB.out)
      clear HI
      obtain ⟨p0, p1, p2, p3⟩ := BlkG.cells HLS.out.blk
      have y0 : wr.cell? ⟨w.heap.size, 0, none⟩ = some (.bool false) := cell_blkN HBW.out rfl
      have y1 : wr.cell? ⟨w.heap.size, 1, none⟩ = some (.slice none 0 0) := cell_blkN HBW.out rfl
      have y2 : wr.cell? ⟨w.heap.size, 2, none⟩ = some (.slice none 0 0) := cell_blkN HBW.out rfl
      have y3 : wr.cell? ⟨w.heap.size, 3, none⟩ = some (.slice none 0 0) := cell_blkN HBW.out rfl
      have f0 := frzN HBW.out 0
      have f1 := frzN HBW.out 1
      have f2 := frzN HBW.out 2
      have f3 := frzN HBW.out 3
      go_wp2_with fail
      (try simp only [Exit.inBlock, Exit.then])
      refine bodyPost_ret (resP1 rfl _ _ w.heap.size #[.bool false, .slice v.ka v.kn v.kc, .slice v.va v.vn v.vc, .slice v.ia v.inn v.ic] (blk4 HBW.out _ _ _ _) rfl rfl) rfl ?_
      have HFN := HLS.out.fin (B := w.heap.size) (G0 := w.heap.size) (by omega) (by omega) HBW.out (.bool false) (.slice v.ka v.kn v.kc) (.slice v.va v.vn v.vc) (.slice v.ia v.inn v.ic)
      exact ⟨v, keys, kids, R', b', rfl, HFN.1, HLN.out.1, HLN.out.2, HLS.out.sh, HFN.2, HEN.out, grown4 HBz.out HLS.out.gr (Nat.le_refl _) _ _ _ _⟩
    case pos =>
    cases b' with
    | true =>
      have HEX : Hid (true = true ∨ ¬ k < cnt) := hide (.inl rfl)
      have hnl : ((k : Nat) : Int) < ((cnt : Nat) : Int) := by omega
      clear hr1
      have HLS := hide HI.out.1
      have HEN : Hid (bad = false → ∀ q pad, checkE q = 0 → q.leaf = false → q.keys.length = cnt → R = num (q.kids.getD 0 0).toNat ++ (restI q 0 ++ pad) → keys = q.keys ∧ kids = q.kids ∧ true = false) := hide (fun e q pad h1 h2 h3 h4 => innerAt_end (HI.out.2.2.2.2 e) HEX.out h1 h2 h3 h4)
      have HLN : Hid (keys.length ≤ 5000 ∧ kids.length ≤ 5001) := hide (by have := HI.out.2.1.most; have := HI.out.2.2.1; have := HI.out.2.2.2.1; have := HFEW.out; omega)
      have HBW : Hid (wr.heap[w.heap.size]? = some (.cells #[.bool false, .slice none 0 0, .slice none 0 0, .slice none 0 0] 25 (0, 0))) := hide ((HI.out.1.gr.block _ (by have := HSZ.out; omega) (by have := HRL.out; simp; omega)).trans HB.out)
      clear HI
      obtain ⟨p0, p1, p2, p3⟩ := BlkG.cells HLS.out.blk
      have y0 : wr.cell? ⟨w.heap.size, 0, none⟩ = some (.bool false) := cell_blkN HBW.out rfl
      have y1 : wr.cell? ⟨w.heap.size, 1, none⟩ = some (.slice none 0 0) := cell_blkN HBW.out rfl
      have y2 : wr.cell? ⟨w.heap.size, 2, none⟩ = some (.slice none 0 0) := cell_blkN HBW.out rfl
      have y3 : wr.cell? ⟨w.heap.size, 3, none⟩ = some (.slice none 0 0) := cell_blkN HBW.out rfl
      have f0 := frzN HBW.out 0
      have f1 := frzN HBW.out 1
      have f2 := frzN HBW.out 2
      have f3 := frzN HBW.out 3
      go_wp2_with fail
      (try simp only [Exit.inBlock, Exit.then])
      refine bodyPost_ret (resP1 rfl _ _ w.heap.size #[.bool false, .slice v.ka v.kn v.kc, .slice v.va v.vn v.vc, .slice v.ia v.inn v.ic] (blk4 HBW.out _ _ _ _) rfl rfl) rfl ?_
      have HFN := HLS.out.fin (B := w.heap.size) (G0 := w.heap.size) (by omega) (by omega) HBW.out (.bool false) (.slice v.ka v.kn v.kc) (.slice v.va v.vn v.vc) (.slice v.ia v.inn v.ic)
      exact ⟨v, keys, kids, R', true, rfl, HFN.1, HLN.out.1, HLN.out.2, HLS.out.sh, HFN.2, HEN.out, grown4 HBz.out HLS.out.gr (Nat.le_refl _) _ _ _ _⟩
    | false =>
      have hkI : ((k : Nat) : Int) < ((cnt : Nat) : Int) := by omega
      have HCN := hide HI.out.2.1
      have HLS := hide HI.out.1
      have HKL : Hid (v.kn = k ∧ v.inn = k + 1) := hide ⟨by rw [← HI.out.2.2.1]; exact HI.out.1.lk.1.symm, by rw [← HI.out.2.2.2.1]; exact HI.out.1.lk.2.symm⟩
      have HAT := hide HI.out.2.2.2.2
      have HLN : Hid (keys.length = k ∧ kids.length = k + 1) := hide ⟨HI.out.2.2.1, HI.out.2.2.2.1⟩
      have hwk : IntKind.u64.wrap ((k : Int) + 1) = (((k + 1 : Nat) : Nat) : Int) := by rw [IntKind.wrap_u64]; omega
      obtain ⟨ka, kn, kc, va, vn, vc, ia, inn, ic⟩ := v
      dsimp only at HKL
      clear hr1 HI
      go_wp2_with fail
      obtain ⟨xs, hxs⟩ := HLS.out.k
      have Hxs := hide hxs
      clear hxs
      have HSa : Hid (∀ W : World, W.heap[Q + 1]? = wr.heap[Q + 1]? → W.cell? ⟨Q + 1, 1, none⟩ = some (.slice ka kn kc)) := hide (fun W e => (World.cell?_of_block e).trans (HLS.out.blk.cells.2.1))
      refine wp_region_last 7 (fun W' : World => W'.cell? ⟨Q + 1, 1, none⟩ = some (.slice ka kn kc)) (by kernel_rfl) (HSa.out _ rfl) (fun hHeld => ?_)
      have HDa := hide (HLS.out.below (Below.refl _ wr).drew)
      have HRa := hide (Hxs.out.below (Below.refl _ wr).drew)
      have HEa : Hid (wr.drew.heap[Q + 1]? = wr.heap[Q + 1]?) := hide rfl
      obtain ⟨Wda, hWda⟩ : ∃ W, W = wr.drew := ⟨_, rfl⟩
      rw [← hWda] at HDa HRa HEa hHeld ⊢
      clear hWda
      refine wpAnyL_take (i := 0) (v := ?v0a) rfl (by kernel_rfl) (fun _ _ _ h => h) (by assumption) (by rfl) ?hy0a ?hn0a
      case hy0a => (intro w hSw; (try dsimp only at hSw); skip; go_simp; try with_reducible rfl)
      try simp only [Act.put]
      refine wpAnyL_take (i := 1) (v := ?v1a) rfl (by kernel_rfl) (fun _ _ _ h => h) (by assumption) (by rfl) ?hy1a ?hn1a
      case hy1a => (intro w hSw; (try dsimp only at hSw); skip; go_simp; try with_reducible rfl)
      try simp only [Act.put]
      refine wpAnyL_take (i := 2) (v := ?v2a) rfl (by kernel_rfl) (fun _ _ _ h => h) (by assumption) (by rfl) ?hy2a ?hn2a
      case hy2a => (intro w hSw; (try dsimp only at hSw); skip; go_simp; try with_reducible rfl)
      try simp only [Act.put]
      have HTa := hide (text93 r R' false Wda HDa.out.rd)
      have HGa : Hid (w.heap.size + 1 ≤ Wda.heap.size) := hide (by have := HSZ.out; have := HDa.out.gr.size; omega)
      refine wpAnyL_one (i := 3) rfl (by kernel_rfl) (fun K hK => ?_)
      go_simp
      refine HTa.out.mono ?_
      rintro e W1a ⟨aa, ca, sa, Ra, ba, rfl, hBa, hNa, hla, hta, hra, hga⟩
      have HXa := hide hta
      have HD1a := hide (HDa.out.text hga hra)
      have HR1a := hide (HRa.out.grownR hga (by have := HDa.out.lt; omega))
      have HBa := hide (And.intro hBa (And.intro hNa hla))
      have HE1a : Hid (W1a.heap[Q + 1]? = wr.heap[Q + 1]?) := hide ((hga.block _ (heap_ltN HDa.out.blk) (by have := HDa.out.lt; simp; omega)).trans HEa.out)
      clear hBa hNa hla hta hra hga HTa
      refine hK.out _ _ (HSa.out _ HE1a.out) (fun hHeld => ?_)
      clear hK K
      try simp only [Act.put]
      refine wpAnyL_one (i := 4) rfl (by kernel_rfl) (fun K hK => ?_)
      go_simp
      have HW2a := hide (HD1a.out.below (belowN W1a (.cells #[.slice aa sa.length ca] 26)))
      have HR2a := hide (HR1a.out.below (belowN W1a (.cells #[.slice aa sa.length ca] 26)))
      have HQa := hide (heap_alloc_new W1a (.cells #[.slice aa sa.length ca] 26))
      have HB2a : Hid (IsB (W1a.alloc (.cells #[.slice aa sa.length ca] 26)) aa sa.length ca sa ∧ NewB (W1a.alloc (.cells #[.slice aa sa.length ca] 26)) (w.heap.size + 1) aa ∧ sa.length ≤ 1024) := hide ⟨HBa.out.1.below (belowN _ _), (fun b off e => by have := (HBa.out.2.1.below (belowN W1a (.cells #[.slice aa sa.length ca] 26))) b off e; have h9 := HGa.out; exact ⟨by omega, this.2⟩), HBa.out.2.2⟩
      have HE2a : Hid ((W1a.alloc (.cells #[.slice aa sa.length ca] 26)).heap[Q + 1]? = wr.heap[Q + 1]?) := hide ((heap_alloc_old _ _ (heap_ltN HD1a.out.blk)).trans HE1a.out)
      refine hK.out _ _ (HSa.out _ HE2a.out) (fun hHeld => ?_)
      clear hK K
      try simp only [Act.put]
      obtain ⟨ua, W3a, hrun, hoa, hga, hora⟩ := run_push26 (w := W1a.alloc (.cells #[.slice aa sa.length ca] 26)) 22 (w.heap.size + 1) (.slice ka kn kc) kn xs HR2a.out.own W1a.heap.size _ HQa.out rfl (by have := HCN.out.most; have := HKL.out; have := HFEW.out; omega) (by have := HSZ.out; have := HW2a.out.gr.size; omega)
      obtain ⟨kaa, kca, rfl⟩ := own_formN hoa
      have HPSa := hide (HW2a.out.pushK HB2a.out.1 HB2a.out.2.1 HB2a.out.2.2 HR2a.out hoa hga)
      have HE3a : Hid (W3a.heap[Q + 1]? = wr.heap[Q + 1]?) := hide ((hga.block _ (heap_ltN HW2a.out.blk) (fun e => by
        obtain ⟨_, cur, h5⟩ := own_blk HR2a.out.own e.symm
        have h6 := HW2a.out.blk
        rw [BlkG, h5] at h6
        cases h6)).trans HE2a.out)
      refine wpAnyL_one (i := 5) rfl (by kernel_rfl) (fun K hK => ?_)
      refine wp_append_eq _ _ 22 rfl rfl rfl hrun ?_
      refine hK.out _ _ (HSa.out _ HE3a.out) (fun hHeld => ?_)
      clear hK K hrun hoa hga hora
      try simp only [Act.put]
      refine wpAnyL_take (i := 6) (v := ?v6a) rfl (by kernel_rfl) (fun _ _ _ h => h) (by assumption) (by rfl) ?hy6a ?hn6a
      case hy6a => (intro w hSw; (try dsimp only at hSw); skip; go_simp; try with_reducible rfl)
      try simp only [Act.put]
      have f1 : W3a.frozen? ⟨Q + 1, 1, none⟩ = false := frzN (HE3a.out.trans HLS.out.blk) 1
      refine wpAnyL_last rfl (by kernel_rfl) (by kernel_rfl) (fun K hK => ?_)
      go_simp
      refine hK.out _ _ ?_
      clear hK K hHeld f1
      obtain ⟨V5, hV5⟩ : ∃ V5, V5 = W3a.setCell ⟨Q + 1, 1, none⟩ (.slice kaa (kn + 1) kca) := ⟨_, rfl⟩
      have HLS5 : Hid (InS Wz V5 r (Q + 1) (w.heap.size + 1) ⟨kaa, kn + 1, kca, va, vn, vc, ia, inn, ic⟩ (keys ++ [sa]) kids Ra ba) := hide (by rw [hV5]; exact HPSa.out)
      rw [← hV5]
      clear hV5 HPSa HE3a HE2a HE1a HEa HB2a HBa HQa HR2a HW2a HR1a HD1a HRa HDa HSa HGa Hxs
      go_wp2_with fail
      have HSb : Hid (∀ W : World, W.heap[Q + 1]? = V5.heap[Q + 1]? → W.cell? ⟨Q + 1, 3, none⟩ = some (.slice ia inn ic)) := hide (fun W e => (World.cell?_of_block e).trans (HLS5.out.blk.cells.2.2.2))
      refine wp_region_last 8 (fun W' : World => W'.cell? ⟨Q + 1, 3, none⟩ = some (.slice ia inn ic)) (by kernel_rfl) (HSb.out _ rfl) (fun hHeld => ?_)
      have HDb := hide (HLS5.out.below (Below.refl _ V5).drew)
      have HEb : Hid (V5.drew.heap[Q + 1]? = V5.heap[Q + 1]?) := hide rfl
      obtain ⟨Wdb, hWdb⟩ : ∃ W, W = V5.drew := ⟨_, rfl⟩
      rw [← hWdb] at HDb HEb hHeld ⊢
      clear hWdb
      refine wpAnyL_take (i := 0) (v := ?v0b) rfl (by kernel_rfl) (fun _ _ _ h => h) (by assumption) (by rfl) ?hy0b ?hn0b
      case hy0b => (intro w hSw; (try dsimp only at hSw); skip; go_simp; try with_reducible rfl)
      try simp only [Act.put]
      refine wpAnyL_take (i := 1) (v := ?v1b) rfl (by kernel_rfl) (fun _ _ _ h => h) (by assumption) (by rfl) ?hy1b ?hn1b
      case hy1b => (intro w hSw; (try dsimp only at hSw); skip; go_simp; try with_reducible rfl)
      try simp only [Act.put]
      refine wpAnyL_take (i := 2) (v := ?v2b) rfl (by kernel_rfl) (fun _ _ _ h => h) (by assumption) (by rfl) ?hy2b ?hn2b
      case hy2b => (intro w hSw; (try dsimp only at hSw); skip; go_simp; try with_reducible rfl)
      try simp only [Act.put]
      obtain ⟨ra3, rn3, rc3, hw3⟩ := HDb.out.rd.rdW
      have HTb := hide (num69 r ra3 rn3 rc3 Ra ba Wdb hw3)
      clear hw3
      refine wpAnyL_one (i := 3) rfl (by kernel_rfl) (fun K hK => ?_)
      go_simp
      refine HTb.out.mono ?_
      rintro e W1b ⟨mb, Rb, bb, rfl, hmb, htb, hrb, hgb⟩
      have HXb := hide htb
      have HD1b := hide (HDb.out.text hgb hrb)
      have HE1b : Hid (W1b.heap[Q + 1]? = V5.heap[Q + 1]?) := hide ((hgb.block _ (heap_ltN HDb.out.blk) (by have := HDb.out.lt; simp; omega)).trans HEb.out)
      clear htb hrb hgb HTb
      refine hK.out _ _ (HSb.out _ HE1b.out) (fun hHeld => ?_)
      clear hK K
      try simp only [Act.put]
      refine wpAnyL_take (i := 4) (v := ?v4b) rfl (by kernel_rfl) (fun _ _ _ h => h) (by assumption) (by rfl) ?hy4b ?hn4b
      case hy4b => (intro w hSw; (try dsimp only at hSw); skip; go_simp; try with_reducible rfl)
      try simp only [Act.put]
      refine wpAnyL_one (i := 5) rfl (by kernel_rfl) (fun K hK => ?_)
      go_simp
      obtain ⟨zb, hzb⟩ : ∃ z, z = IntKind.i64.wrap (mb : Int) := ⟨_, rfl⟩
      have HZb : Hid (i64B zb ∧ zb = IntKind.i64.wrap (mb : Int)) := hide ⟨by rw [hzb]; exact wrap_i64B _, hzb⟩
      try rw [← hzb]
      clear hzb
      have HW2b := hide (HD1b.out.below (belowN W1b (.cells #[.int .i64 zb] 3)))
      have HQb := hide (heap_alloc_new W1b (.cells #[.int .i64 zb] 3))
      have HE2b : Hid ((W1b.alloc (.cells #[.int .i64 zb] 3)).heap[Q + 1]? = V5.heap[Q + 1]?) := hide ((heap_alloc_old _ _ (heap_ltN HD1b.out.blk)).trans HE1b.out)
      refine hK.out _ _ (HSb.out _ HE2b.out) (fun hHeld => ?_)
      clear hK K
      try simp only [Act.put]
      obtain ⟨ub, W3b, hrun, hob, hgb, horb⟩ := run_push3 (w := W1b.alloc (.cells #[.int .i64 zb] 3)) 23 (w.heap.size + 1) (.slice ia inn ic) inn (kv kids) HW2b.out.i W1b.heap.size _ HQb.out rfl (by have := HCN.out.most; have := HKL.out; have := HFEW.out; omega) (by have := HSZ.out; have := HW2b.out.gr.size; omega)
      obtain ⟨iab, icb, rfl⟩ := own_formN hob
      have HPSb := hide (HW2b.out.pushI HZb.out.1 hob hgb)
      have HE3b : Hid (W3b.heap[Q + 1]? = V5.heap[Q + 1]?) := hide ((hgb.block _ (heap_ltN HW2b.out.blk) (fun e => by
        obtain ⟨_, cur, h5⟩ := own_blk HW2b.out.i e.symm
        have h6 := HW2b.out.blk
        rw [BlkG, h5] at h6
        cases h6)).trans HE2b.out)
      refine wpAnyL_one (i := 6) rfl (by kernel_rfl) (fun K hK => ?_)
      refine wp_append_eq _ _ 23 rfl rfl rfl hrun ?_
      refine hK.out _ _ (HSb.out _ HE3b.out) (fun hHeld => ?_)
      clear hK K hrun hob hgb horb
      try simp only [Act.put]
      refine wpAnyL_take (i := 7) (v := ?v7b) rfl (by kernel_rfl) (fun _ _ _ h => h) (by assumption) (by rfl) ?hy7b ?hn7b
      case hy7b => (intro w hSw; (try dsimp only at hSw); skip; go_simp; try with_reducible rfl)
      try simp only [Act.put]
      have f1 : W3b.frozen? ⟨Q + 1, 3, none⟩ = false := frzN (HE3b.out.trans HLS5.out.blk) 3
      refine wpAnyL_last rfl (by kernel_rfl) (by kernel_rfl) (fun K hK => ?_)
      go_simp
      refine hK.out _ _ ?_
      clear hK K hHeld f1
      have hst := cnt_step HCN.out (textS_less HLS.out.rd.lits HXa.out) (numS_less HLS5.out.rd.lits HXb.out) (numS_len HLS5.out.rd.lits HXb.out)
      obtain ⟨V6, hV6⟩ : ∃ V6, V6 = W3b.setCell ⟨Q + 1, 3, none⟩ (.slice iab (inn + 1) icb) := ⟨_, rfl⟩
      have HLS6 : Hid (InS Wz V6 r (Q + 1) (w.heap.size + 1) ⟨kaa, kn + 1, kca, va, vn, vc, iab, inn + 1, icb⟩ (keys ++ [sa]) (kids ++ [zb]) Rb bb) := hide (by rw [hV6]; exact HPSb.out)
      rw [← hV6]
      have HNX : Hid (InS Wz V6 r (Q + 1) (w.heap.size + 1) ⟨kaa, kn + 1, kca, va, vn, vc, iab, inn + 1, icb⟩ (keys ++ [sa]) (kids ++ [zb]) Rb bb ∧ Cnt R.length (k + 1) Rb bb ∧ (keys ++ [sa]).length = k + 1 ∧ (kids ++ [zb]).length = k + 1 + 1 ∧ (bad = false → InnerAt cnt R (k + 1) (keys ++ [sa]) (kids ++ [zb]) Rb bb)) := hide ⟨HLS6.out, hst.1, by rw [List.length_append, HLN.out.1]; rfl, by rw [List.length_append, HLN.out.2]; rfl, fun e => by rw [HZb.out.2]; exact innerAt_step (HAT.out e) hlt HXa.out HXb.out⟩
      have hM1 : rdMW r V6 < rdMW r wr := by rw [rdMW_eq HLS6.out.rd, hM0]; exact hst.2
      clear hV6 HPSb HE3b HE2b HE1b HEb HQb HW2b HD1b HDb HSb HLS6 hst hM0 HCN HAT HLN HLS5 HLS HXa HXb
      go_wp2_with fail
      go_roundw
      case rel => exact ⟨k + 1, _, _, _, _, _, rfl, by omega, HNX⟩
      case measure => exact hM1
end Go.Proofs.Ytebikoekpbnpbaa
