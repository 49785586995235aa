/- reader.leaf -/
import Derived.Test.YtebikoekpbnpbaaFC
namespace Go.Proofs.Ytebikoekpbnpbaa
open Go.RowKit Cod
set_option maxRecDepth 100000
set_option linter.unusedVariables false
set_option linter.unusedSimpArgs false
/-- the measure, off the reader's own cells -/
def rdMW (r : Nat) (W : World) : Nat := match W.cell? ⟨r, 0, none⟩, W.cell? ⟨r, 1, none⟩ with
  | some (.slice _ n _), some (.bool b) => n + (if b = true then 0 else 1)
  | _, _ => 0
theorem rdMW_eq {r : Nat} {W : World} {R : List Nat} {bad : Bool} (h : RdI W r R bad) : rdMW r W = rdM R bad := by
  obtain ⟨a, n, c, h1, h2, _⟩ := h.is
  have e0 : W.cell? ⟨r, 0, none⟩ = some (.slice a n c) := cell_blkN h1 rfl
  have e1 : W.cell? ⟨r, 1, none⟩ = some (.bool bad) := cell_blkN h1 rfl
  unfold rdMW rdM
  rw [e0, e1]
  simp only
  rw [h2.1]
/-- what leaf answers -/
def Leaf70 (r : Nat) (R : List Nat) (bad : Bool) (cnt : Nat) (w : World) (e : Ending) (w' : World) : Prop := ∃ (v : Pv) (keys vals : List (List Nat)) (R' : List Nat) (bad' : Bool), e = .returned (.agg (pgc true v)) ∧ NwG w' (w.heap.size + 1) v ⟨true, keys, vals, []⟩ ∧ keys.length ≤ 5000 ∧ vals.length ≤ 5000 ∧ ((∀ b ∈ keys, b.length ≤ 1024) ∧ ∀ b ∈ vals, b.length ≤ 1024) ∧ RdI w' r R' bad' ∧
      (bad = false → ∀ q pad, checkE q = 0 → q.leaf = true → q.keys.length = cnt → R = restL q 0 ++ pad → keys = q.keys ∧ vals = q.vals ∧ bad' = false) ∧ w.grownBy w' (some r)
set_option maxHeartbeats 4000000 in
/-- reader.leaf -/
theorem leaf70 (r : Nat) (R : List Nat) (bad : Bool) (cnt : Nat) (w : World) (h : RdI w r R bad) (hc : cnt < 18446744073709551616) :
    Calls Try.prog 70 #[.pointer (some ⟨r, 0, none⟩), .int .u64 (cnt : Nat)] w fun e w' => Leaf70 r R bad cnt w e w' := by
  obtain ⟨P, hP⟩ : ∃ P, P = w.heap.size + 1 := ⟨_, rfl⟩
  obtain ⟨Wz, hWz⟩ : ∃ W, W = w.alloc (.cells #[.bool false, .slice none 0 0, .slice none 0 0, .slice none 0 0] 25) := ⟨_, rfl⟩
  obtain ⟨V0, hV0⟩ : ∃ V0, V0 = Wz.alloc (.cells #[.bool true, .slice none 0 0, .slice none 0 0, .slice none 0 0] 25) := ⟨_, rfl⟩
  have HSZ : Hid (Wz.heap.size = P) := hide (by rw [hWz, hP]; simp)
  have HB : Hid (Wz.heap[w.heap.size]? = some (.cells #[.bool false, .slice none 0 0, .slice none 0 0, .slice none 0 0] 25 (0, 0))) := hide (by rw [hWz, heap_alloc_new])
  have HBz : Hid (Below w.heap.size w Wz) := hide (by rw [hWz]; exact belowN _ _)
  have HPw : Hid (w.heap.size < P) := hide (by omega)
  have hb0 : Below Wz.heap.size Wz V0 := by rw [hV0]; exact belowN _ _
  have HRL : Hid (r < w.heap.size) := hide h.lt
  have HL0 : Hid (LfS Wz V0 r P Pv0 [] [] R bad) := hide
    ⟨by show V0.heap[P]? = _; rw [hV0, ← HSZ.out, heap_alloc_new]; rfl, ⟨[], World.ownsRow_nil _ _ _ _, rfl, fun i hi => by simp at hi⟩, ⟨[], World.ownsRow_nil _ _ _ _, rfl, fun i hi => by simp at hi⟩, ⟨rfl, rfl⟩, ⟨rfl, rfl, rfl⟩, (by intro b e; cases e), (h.below HBz.out).below hb0, ⟨hb0.os, hb0.tape, hb0.output, hb0.size, fun k hk _ => hb0.block k hk⟩, ⟨by have := HSZ.out; have := h.lt; omega, by have := HSZ.out; omega⟩, nofun, nofun⟩
  have HFEW := hide h.few
  clear h hb0
  subst hP
  go_enter Try.func70, Try.ntmps70
  go_wp2_with fail
  try rw [← hWz]
  try rw [← hV0]
  clear hV0 hWz
  go_loopw [6] (fun v6 W => ∃ (k : Nat) (v : Pv) (keys vals : List (List Nat)) (R' : List Nat) (b' : Bool), v6 = .int .u64 (k : Nat) ∧ k ≤ cnt ∧ Hid (LfS Wz W r (w.heap.size + 1) v keys vals R' b' ∧ Cnt R.length k R' b' ∧ keys.length = k ∧ vals.length = k ∧ (bad = false → LeafAt cnt R k keys vals R' b'))) (fun _ W => rdMW r W)
  case atStart => exact ⟨0, Pv0, [], [], R, bad, rfl, Nat.zero_le _, hide ⟨HL0.out, ⟨fun _ => by omega, by omega⟩, rfl, rfl, fun e => by rw [e]; exact leafAt_0 _ _⟩⟩
  case round =>
    obtain ⟨k, v, keys, vals, R', b', rfl, hkc, HI⟩ := hrel
    obtain ⟨ra, rn, rc, hr1, _⟩ := HI.out.1.rd.is
    have q1 : wr.cell? ⟨r, 1, none⟩ = some (.bool b') := cell_blkN hr1 rfl
    have hM0 : rdMW r wr = rdM R' b' := rdMW_eq HI.out.1.rd
    by_cases hlt : k < cnt
    case neg =>
      have HEX : Hid (b' = true ∨ ¬ k < cnt) := hide (.inr hlt)
      have hnl : ¬ ((k : Nat) : Int) < ((cnt : Nat) : Int) := by omega
      clear hr1
      have HLS := hide HI.out.1
      have HEN : Hid (bad = false → ∀ q pad, checkE q = 0 → q.leaf = true → q.keys.length = cnt → R = restL q 0 ++ pad → keys = q.keys ∧ vals = q.vals ∧ b' = false) := hide (fun e q pad h1 h2 h3 h4 => leafAt_end (HI.out.2.2.2.2 e) HEX.out h1 h2 h3 h4)
      have HLN : Hid (keys.length ≤ 5000 ∧ vals.length ≤ 5000) := hide (by have := HI.out.2.1.most; have := HI.out.2.2.1; have := HI.out.2.2.2.1; have := HFEW.out; omega)
      have HBW : Hid (wr.heap[w.heap.size]? = some (.cells #[.bool false, .slice none 0 0, .slice none 0 0, .slice none 0 0] 25 (0, 0))) := hide ((HI.out.1.gr.block _ (by have := HSZ.out; omega) (by have := HRL.out; simp; omega)).trans HB.out)
      clear HI
      obtain ⟨p0, p1, p2, p3⟩ := BlkG.cells HLS.out.blk
      have y0 : wr.cell? ⟨w.heap.size, 0, none⟩ = some (.bool false) := cell_blkN HBW.out rfl
      have y1 : wr.cell? ⟨w.heap.size, 1, none⟩ = some (.slice none 0 0) := cell_blkN HBW.out rfl
      have y2 : wr.cell? ⟨w.heap.size, 2, none⟩ = some (.slice none 0 0) := cell_blkN HBW.out rfl
      have y3 : wr.cell? ⟨w.heap.size, 3, none⟩ = some (.slice none 0 0) := cell_blkN HBW.out rfl
      have f0 := frzN HBW.out 0
      have f1 := frzN HBW.out 1
      have f2 := frzN HBW.out 2
      have f3 := frzN HBW.out 3
      go_wp2_with fail
      (try simp only [Exit.inBlock, Exit.then])
      refine bodyPost_ret (resP1 rfl _ _ w.heap.size #[.bool true, .slice v.ka v.kn v.kc, .slice v.va v.vn v.vc, .slice v.ia v.inn v.ic] (blk4 HBW.out _ _ _ _) rfl rfl) rfl ?_
      have HFN := HLS.out.fin (B := w.heap.size) (by omega) HBW.out (.bool true) (.slice v.ka v.kn v.kc) (.slice v.va v.vn v.vc) (.slice v.ia v.inn v.ic)
      exact ⟨v, keys, vals, R', b', rfl, HFN.1, HLN.out.1, HLN.out.2, HLS.out.sh, HFN.2, HEN.out, grown4 HBz.out HLS.out.gr (Nat.le_refl _) _ _ _ _⟩
    case pos =>
    cases b' with
    | true =>
      have HEX : Hid (true = true ∨ ¬ k < cnt) := hide (.inl rfl)
      have hnl : ((k : Nat) : Int) < ((cnt : Nat) : Int) := by omega
      clear hr1
      have HLS := hide HI.out.1
      have HEN : Hid (bad = false → ∀ q pad, checkE q = 0 → q.leaf = true → q.keys.length = cnt → R = restL q 0 ++ pad → keys = q.keys ∧ vals = q.vals ∧ true = false) := hide (fun e q pad h1 h2 h3 h4 => leafAt_end (HI.out.2.2.2.2 e) HEX.out h1 h2 h3 h4)
      have HLN : Hid (keys.length ≤ 5000 ∧ vals.length ≤ 5000) := hide (by have := HI.out.2.1.most; have := HI.out.2.2.1; have := HI.out.2.2.2.1; have := HFEW.out; omega)
      have HBW : Hid (wr.heap[w.heap.size]? = some (.cells #[.bool false, .slice none 0 0, .slice none 0 0, .slice none 0 0] 25 (0, 0))) := hide ((HI.out.1.gr.block _ (by have := HSZ.out; omega) (by have := HRL.out; simp; omega)).trans HB.out)
      clear HI
      obtain ⟨p0, p1, p2, p3⟩ := BlkG.cells HLS.out.blk
      have y0 : wr.cell? ⟨w.heap.size, 0, none⟩ = some (.bool false) := cell_blkN HBW.out rfl
      have y1 : wr.cell? ⟨w.heap.size, 1, none⟩ = some (.slice none 0 0) := cell_blkN HBW.out rfl
      have y2 : wr.cell? ⟨w.heap.size, 2, none⟩ = some (.slice none 0 0) := cell_blkN HBW.out rfl
      have y3 : wr.cell? ⟨w.heap.size, 3, none⟩ = some (.slice none 0 0) := cell_blkN HBW.out rfl
      have f0 := frzN HBW.out 0
      have f1 := frzN HBW.out 1
      have f2 := frzN HBW.out 2
      have f3 := frzN HBW.out 3
      go_wp2_with fail
      (try simp only [Exit.inBlock, Exit.then])
      refine bodyPost_ret (resP1 rfl _ _ w.heap.size #[.bool true, .slice v.ka v.kn v.kc, .slice v.va v.vn v.vc, .slice v.ia v.inn v.ic] (blk4 HBW.out _ _ _ _) rfl rfl) rfl ?_
      have HFN := HLS.out.fin (B := w.heap.size) (by omega) HBW.out (.bool true) (.slice v.ka v.kn v.kc) (.slice v.va v.vn v.vc) (.slice v.ia v.inn v.ic)
      exact ⟨v, keys, vals, R', true, rfl, HFN.1, HLN.out.1, HLN.out.2, HLS.out.sh, HFN.2, HEN.out, grown4 HBz.out HLS.out.gr (Nat.le_refl _) _ _ _ _⟩
    | false =>
      have hkI : ((k : Nat) : Int) < ((cnt : Nat) : Int) := by omega
      have HCN := hide HI.out.2.1
      have HLS := hide HI.out.1
      have HKL : Hid (v.kn = k ∧ v.vn = k) := hide ⟨by rw [← HI.out.2.2.1]; exact HI.out.1.lk.1.symm, by rw [← HI.out.2.2.2.1]; exact HI.out.1.lk.2.symm⟩
      have HAT := hide HI.out.2.2.2.2
      have HLN : Hid (keys.length = k ∧ vals.length = k) := hide ⟨HI.out.2.2.1, HI.out.2.2.2.1⟩
      have hwk : IntKind.u64.wrap ((k : Int) + 1) = (((k + 1 : Nat) : Nat) : Int) := by rw [IntKind.wrap_u64]; omega
      obtain ⟨ka, kn, kc, va, vn, vc, ia, inn, ic⟩ := v
      dsimp only at HKL
      clear hr1 HI
      go_wp2_with fail
      obtain ⟨xs, hxs⟩ := HLS.out.k
      have Hxs := hide hxs
      clear hxs
      have HSa : Hid (∀ W : World, W.heap[w.heap.size + 1]? = wr.heap[w.heap.size + 1]? → W.cell? ⟨w.heap.size + 1, 1, none⟩ = some (.slice ka kn kc)) := hide (fun W e => (World.cell?_of_block e).trans (HLS.out.blk.cells.2.1))
      refine wp_region_last 7 (fun W' : World => W'.cell? ⟨w.heap.size + 1, 1, none⟩ = some (.slice ka kn kc)) (by kernel_rfl) (HSa.out _ rfl) (fun hHeld => ?_)
      have HDa := hide (HLS.out.below (Below.refl _ wr).drew)
      have HRa := hide (Hxs.out.below (Below.refl _ wr).drew)
      have HEa : Hid (wr.drew.heap[w.heap.size + 1]? = wr.heap[w.heap.size + 1]?) := hide rfl
      obtain ⟨Wda, hWda⟩ : ∃ W, W = wr.drew := ⟨_, rfl⟩
      rw [← hWda] at HDa HRa HEa hHeld ⊢
      clear hWda
      refine wpAnyL_take (i := 0) (v := ?v0a) rfl (by kernel_rfl) (fun _ _ _ h => h) (by assumption) (by rfl) ?hy0a ?hn0a
      case hy0a => (intro w hSw; (try dsimp only at hSw); skip; go_simp; try with_reducible rfl)
      try simp only [Act.put]
      refine wpAnyL_take (i := 1) (v := ?v1a) rfl (by kernel_rfl) (fun _ _ _ h => h) (by assumption) (by rfl) ?hy1a ?hn1a
      case hy1a => (intro w hSw; (try dsimp only at hSw); skip; go_simp; try with_reducible rfl)
      try simp only [Act.put]
      refine wpAnyL_take (i := 2) (v := ?v2a) rfl (by kernel_rfl) (fun _ _ _ h => h) (by assumption) (by rfl) ?hy2a ?hn2a
      case hy2a => (intro w hSw; (try dsimp only at hSw); skip; go_simp; try with_reducible rfl)
      try simp only [Act.put]
      have HTa := hide (text93 r R' false Wda HDa.out.rd)
      refine wpAnyL_one (i := 3) rfl (by kernel_rfl) (fun K hK => ?_)
      go_simp
      refine HTa.out.mono ?_
      rintro e W1a ⟨aa, ca, sa, Ra, ba, rfl, hBa, hNa, hla, hta, hra, hga⟩
      have HXa := hide hta
      have HD1a := hide (HDa.out.text hga hra)
      have HR1a := hide (HRa.out.grownR hga (by have := HDa.out.lt; omega))
      have HBa := hide (And.intro hBa (And.intro hNa hla))
      have HE1a : Hid (W1a.heap[w.heap.size + 1]? = wr.heap[w.heap.size + 1]?) := hide ((hga.block _ (heap_ltN HDa.out.blk) (by have := HDa.out.lt; simp; omega)).trans HEa.out)
      have HP1a : Hid (w.heap.size + 1 + 1 ≤ Wda.heap.size) := hide (heap_ltN HDa.out.blk)
      clear hBa hNa hla hta hra hga HTa
      refine hK.out _ _ (HSa.out _ HE1a.out) (fun hHeld => ?_)
      clear hK K
      try simp only [Act.put]
      refine wpAnyL_one (i := 4) rfl (by kernel_rfl) (fun K hK => ?_)
      go_simp
      have HW2a := hide (HD1a.out.below (belowN W1a (.cells #[.slice aa sa.length ca] 26)))
      have HR2a := hide (HR1a.out.below (belowN W1a (.cells #[.slice aa sa.length ca] 26)))
      have HQa := hide (heap_alloc_new W1a (.cells #[.slice aa sa.length ca] 26))
      have HB2a : Hid (IsB (W1a.alloc (.cells #[.slice aa sa.length ca] 26)) aa sa.length ca sa ∧ NewB (W1a.alloc (.cells #[.slice aa sa.length ca] 26)) (w.heap.size + 1 + 1) aa ∧ sa.length ≤ 1024) := hide ⟨HBa.out.1.below (belowN _ _), (fun b off e => by have := (HBa.out.2.1.below (belowN W1a (.cells #[.slice aa sa.length ca] 26))) b off e; have h9 := HP1a.out; exact ⟨by omega, this.2⟩), HBa.out.2.2⟩
      have HE2a : Hid ((W1a.alloc (.cells #[.slice aa sa.length ca] 26)).heap[w.heap.size + 1]? = wr.heap[w.heap.size + 1]?) := hide ((heap_alloc_old _ _ (heap_ltN HD1a.out.blk)).trans HE1a.out)
      refine hK.out _ _ (HSa.out _ HE2a.out) (fun hHeld => ?_)
      clear hK K
      try simp only [Act.put]
      obtain ⟨ua, W3a, hrun, hoa, hga, hora⟩ := run_push26 (w := W1a.alloc (.cells #[.slice aa sa.length ca] 26)) 22 (w.heap.size + 1 + 1) (.slice ka kn kc) kn xs HR2a.out.own W1a.heap.size _ HQa.out rfl (by have := HCN.out.most; have := HKL.out; have := HFEW.out; omega) (by have := heap_ltN HW2a.out.blk; omega)
      obtain ⟨kaa, kca, rfl⟩ := own_formN hoa
      have HPSa := hide (HW2a.out.pushK HB2a.out.1 HB2a.out.2.1 HB2a.out.2.2 HR2a.out hoa hga hora)
      have HE3a : Hid (W3a.heap[w.heap.size + 1]? = wr.heap[w.heap.size + 1]?) := hide ((hga.block _ (heap_ltN HW2a.out.blk) (fun e => by have := (own_blk HR2a.out.own e.symm).1; omega)).trans HE2a.out)
      refine wpAnyL_one (i := 5) rfl (by kernel_rfl) (fun K hK => ?_)
      refine wp_append_eq _ _ 22 rfl rfl rfl hrun ?_
      refine hK.out _ _ (HSa.out _ HE3a.out) (fun hHeld => ?_)
      clear hK K hrun hoa hga hora
      try simp only [Act.put]
      refine wpAnyL_take (i := 6) (v := ?v6a) rfl (by kernel_rfl) (fun _ _ _ h => h) (by assumption) (by rfl) ?hy6a ?hn6a
      case hy6a => (intro w hSw; (try dsimp only at hSw); skip; go_simp; try with_reducible rfl)
      try simp only [Act.put]
      have f1 : W3a.frozen? ⟨w.heap.size + 1, 1, none⟩ = false := frzN (HE3a.out.trans HLS.out.blk) 1
      refine wpAnyL_last rfl (by kernel_rfl) (by kernel_rfl) (fun K hK => ?_)
      go_simp
      refine hK.out _ _ ?_
      clear hK K hHeld f1
      obtain ⟨V5, hV5⟩ : ∃ V5, V5 = W3a.setCell ⟨w.heap.size + 1, 1, none⟩ (.slice kaa (kn + 1) kca) := ⟨_, rfl⟩
      have HLS5 : Hid (LfS Wz V5 r (w.heap.size + 1) ⟨kaa, kn + 1, kca, va, vn, vc, ia, inn, ic⟩ (keys ++ [sa]) vals Ra ba) := hide (by rw [hV5]; exact HPSa.out)
      rw [← hV5]
      clear hV5 HPSa HE3a HE2a HE1a HEa HB2a HBa HQa HR2a HW2a HR1a HD1a HRa HDa HSa HP1a Hxs
      go_wp2_with fail
      obtain ⟨ys, hys⟩ := HLS5.out.x
      have Hys := hide hys
      clear hys
      have HSb : Hid (∀ W : World, W.heap[w.heap.size + 1]? = V5.heap[w.heap.size + 1]? → W.cell? ⟨w.heap.size + 1, 2, none⟩ = some (.slice va vn vc)) := hide (fun W e => (World.cell?_of_block e).trans (HLS5.out.blk.cells.2.2.1))
      refine wp_region_last 7 (fun W' : World => W'.cell? ⟨w.heap.size + 1, 2, none⟩ = some (.slice va vn vc)) (by kernel_rfl) (HSb.out _ rfl) (fun hHeld => ?_)
      have HDb := hide (HLS5.out.below (Below.refl _ V5).drew)
      have HRb := hide (Hys.out.below (Below.refl _ V5).drew)
      have HEb : Hid (V5.drew.heap[w.heap.size + 1]? = V5.heap[w.heap.size + 1]?) := hide rfl
      obtain ⟨Wdb, hWdb⟩ : ∃ W, W = V5.drew := ⟨_, rfl⟩
      rw [← hWdb] at HDb HRb HEb hHeld ⊢
      clear hWdb
      refine wpAnyL_take (i := 0) (v := ?v0b) rfl (by kernel_rfl) (fun _ _ _ h => h) (by assumption) (by rfl) ?hy0b ?hn0b
      case hy0b => (intro w hSw; (try dsimp only at hSw); skip; go_simp; try with_reducible rfl)
      try simp only [Act.put]
      refine wpAnyL_take (i := 1) (v := ?v1b) rfl (by kernel_rfl) (fun _ _ _ h => h) (by assumption) (by rfl) ?hy1b ?hn1b
      case hy1b => (intro w hSw; (try dsimp only at hSw); skip; go_simp; try with_reducible rfl)
      try simp only [Act.put]
      refine wpAnyL_take (i := 2) (v := ?v2b) rfl (by kernel_rfl) (fun _ _ _ h => h) (by assumption) (by rfl) ?hy2b ?hn2b
      case hy2b => (intro w hSw; (try dsimp only at hSw); skip; go_simp; try with_reducible rfl)
      try simp only [Act.put]
      have HTb := hide (text93 r Ra ba Wdb HDb.out.rd)
      refine wpAnyL_one (i := 3) rfl (by kernel_rfl) (fun K hK => ?_)
      go_simp
      refine HTb.out.mono ?_
      rintro e W1b ⟨ab, cb, sb, Rb, bb, rfl, hBb, hNb, hlb, htb, hrb, hgb⟩
      have HXb := hide htb
      have HD1b := hide (HDb.out.text hgb hrb)
      have HR1b := hide (HRb.out.grownR hgb (by have := HDb.out.lt; omega))
      have HBb := hide (And.intro hBb (And.intro hNb hlb))
      have HE1b : Hid (W1b.heap[w.heap.size + 1]? = V5.heap[w.heap.size + 1]?) := hide ((hgb.block _ (heap_ltN HDb.out.blk) (by have := HDb.out.lt; simp; omega)).trans HEb.out)
      have HP1b : Hid (w.heap.size + 1 + 1 ≤ Wdb.heap.size) := hide (heap_ltN HDb.out.blk)
      clear hBb hNb hlb htb hrb hgb HTb
      refine hK.out _ _ (HSb.out _ HE1b.out) (fun hHeld => ?_)
      clear hK K
      try simp only [Act.put]
      refine wpAnyL_one (i := 4) rfl (by kernel_rfl) (fun K hK => ?_)
      go_simp
      have HW2b := hide (HD1b.out.below (belowN W1b (.cells #[.slice ab sb.length cb] 26)))
      have HR2b := hide (HR1b.out.below (belowN W1b (.cells #[.slice ab sb.length cb] 26)))
      have HQb := hide (heap_alloc_new W1b (.cells #[.slice ab sb.length cb] 26))
      have HB2b : Hid (IsB (W1b.alloc (.cells #[.slice ab sb.length cb] 26)) ab sb.length cb sb ∧ NewB (W1b.alloc (.cells #[.slice ab sb.length cb] 26)) (w.heap.size + 1 + 1) ab ∧ sb.length ≤ 1024) := hide ⟨HBb.out.1.below (belowN _ _), (fun b off e => by have := (HBb.out.2.1.below (belowN W1b (.cells #[.slice ab sb.length cb] 26))) b off e; have h9 := HP1b.out; exact ⟨by omega, this.2⟩), HBb.out.2.2⟩
      have HE2b : Hid ((W1b.alloc (.cells #[.slice ab sb.length cb] 26)).heap[w.heap.size + 1]? = V5.heap[w.heap.size + 1]?) := hide ((heap_alloc_old _ _ (heap_ltN HD1b.out.blk)).trans HE1b.out)
      refine hK.out _ _ (HSb.out _ HE2b.out) (fun hHeld => ?_)
      clear hK K
      try simp only [Act.put]
      obtain ⟨ub, W3b, hrun, hob, hgb, horb⟩ := run_push26 (w := W1b.alloc (.cells #[.slice ab sb.length cb] 26)) 22 (w.heap.size + 1 + 1) (.slice va vn vc) vn ys HR2b.out.own W1b.heap.size _ HQb.out rfl (by have := HCN.out.most; have := HKL.out; have := HFEW.out; omega) (by have := heap_ltN HW2b.out.blk; omega)
      obtain ⟨kab, kcb, rfl⟩ := own_formN hob
      have HPSb := hide (HW2b.out.pushV HB2b.out.1 HB2b.out.2.1 HB2b.out.2.2 HR2b.out hob hgb horb)
      have HE3b : Hid (W3b.heap[w.heap.size + 1]? = V5.heap[w.heap.size + 1]?) := hide ((hgb.block _ (heap_ltN HW2b.out.blk) (fun e => by have := (own_blk HR2b.out.own e.symm).1; omega)).trans HE2b.out)
      refine wpAnyL_one (i := 5) rfl (by kernel_rfl) (fun K hK => ?_)
      refine wp_append_eq _ _ 22 rfl rfl rfl hrun ?_
      refine hK.out _ _ (HSb.out _ HE3b.out) (fun hHeld => ?_)
      clear hK K hrun hob hgb horb
      try simp only [Act.put]
      refine wpAnyL_take (i := 6) (v := ?v6b) rfl (by kernel_rfl) (fun _ _ _ h => h) (by assumption) (by rfl) ?hy6b ?hn6b
      case hy6b => (intro w hSw; (try dsimp only at hSw); skip; go_simp; try with_reducible rfl)
      try simp only [Act.put]
      have f1 : W3b.frozen? ⟨w.heap.size + 1, 2, none⟩ = false := frzN (HE3b.out.trans HLS5.out.blk) 2
      refine wpAnyL_last rfl (by kernel_rfl) (by kernel_rfl) (fun K hK => ?_)
      go_simp
      refine hK.out _ _ ?_
      clear hK K hHeld f1
      have hst := cnt_step HCN.out (textS_less HLS.out.rd.lits HXa.out) (textS_less HLS5.out.rd.lits HXb.out) (textS_len HLS5.out.rd.lits HXb.out)
      obtain ⟨V6, hV6⟩ : ∃ V6, V6 = W3b.setCell ⟨w.heap.size + 1, 2, none⟩ (.slice kab (vn + 1) kcb) := ⟨_, rfl⟩
      have HLS6 : Hid (LfS Wz V6 r (w.heap.size + 1) ⟨kaa, kn + 1, kca, kab, vn + 1, kcb, ia, inn, ic⟩ (keys ++ [sa]) (vals ++ [sb]) Rb bb) := hide (by rw [hV6]; exact HPSb.out)
      rw [← hV6]
      have HNX : Hid (LfS Wz V6 r (w.heap.size + 1) ⟨kaa, kn + 1, kca, kab, vn + 1, kcb, ia, inn, ic⟩ (keys ++ [sa]) (vals ++ [sb]) Rb bb ∧ Cnt R.length (k + 1) Rb bb ∧ (keys ++ [sa]).length = k + 1 ∧ (vals ++ [sb]).length = k + 1 ∧ (bad = false → LeafAt cnt R (k + 1) (keys ++ [sa]) (vals ++ [sb]) Rb bb)) := hide ⟨HLS6.out, hst.1, by rw [List.length_append, HLN.out.1]; rfl, by rw [List.length_append, HLN.out.2]; rfl, fun e => leafAt_step (HAT.out e) hlt HXa.out HXb.out⟩
      have hM1 : rdMW r V6 < rdMW r wr := by rw [rdMW_eq HLS6.out.rd, hM0]; exact hst.2
      clear hV6 HPSb HE3b HE2b HE1b HEb HB2b HBb HQb HR2b HW2b HR1b HD1b HRb HDb HSb HP1b Hys HLS6 hst hM0 HCN HAT HLN HLS5 HLS HXa HXb
      go_wp2_with fail
      go_roundw
      case rel => exact ⟨k + 1, _, _, _, _, _, rfl, by omega, HNX⟩
      case measure => exact hM1
end Go.Proofs.Ytebikoekpbnpbaa
