/- contracts: Restore with no fates -/
import Derived.Test.YtecmfpgccmmlpaaRx
import Derived.Deep.RegionHeld
namespace Go.Proofs.Ytecmfpgccmmlpaa
open Go.RowKit
open Go.ChangeMaps (setBlock)
open Go.Maps (Keyed has size)
variable {X : Nat → Prop}
set_option maxRecDepth 40000 in
set_option maxHeartbeats 4000000 in
/-- (*Disk).Restore with no fates -/
theorem rest_lose (w : World) (g gs b n : Nat) (st : St) (h : IsD X w g gs b n st) (hd : st.down = true) :
    Calls Try.prog 21 #[.pointer (some ⟨g, 0, none⟩), .slice none 0 0] w fun e w' => e = .returned (.int .i64 0) ∧ IsD X w' g gs b n st.back ∧ Frm (SD g gs b) w w' := by
  have c5 := h.cells.c5
  rw [hd] at c5
  have UN := hide (uns_any w g gs b n st h)
  have FT := hide (fates_nil w)
  have HS := hide h.lts
  have H := hide h
  have hlen : (st.uns n).length ≤ 1024 := Nat.le_trans (uns_len st n) h.n1
  have HM : Hid (∀ k x, (st.uns n)[k]? = some x → x < n ∧ ∃ l, st.fr x = some l) := hide (fun k x hx => by
    obtain ⟨h1, h2⟩ := uns_mem.1 (List.mem_of_getElem? hx)
    exact ⟨h1, Option.isSome_iff_exists.1 h2⟩)
  clear h hd
  go_enter Try.func21, Try.ntmps21
  go_wp2_with fail
  refine FT.out.mono ?_
  rintro e w' ⟨rfl, rfl⟩
  go_wp2_with fail
  refine UN.out.mono ?_
  rintro e w2 ⟨v, rfl, hrow, hb2⟩
  obtain ⟨a, cap, rfl, hcap, hU⟩ := isU_row hrow
  have H2 := hide (H.out.below hb2)
  have HB2 := hide hb2
  have HU := hide hU
  generalize hll : (st.uns n).length = L at *
  have HLL := hide hll
  clear hrow hb2 hU hll c5
  go_wp2_with fail
  go_loopw [24] (fun i wr => ∃ k : Nat, k ≤ L ∧ i = .int .i64 k ∧ Hid (IsD X wr g gs b n st) ∧ Hid (Frm (SD g gs b) w2 wr)) (fun i _ => L - (intOf i).toNat)
  case atStart => exact ⟨0, Nat.zero_le _, rfl, H2, hide (Frm.refl _ _)⟩
  case round =>
    obtain ⟨k, hk, rfl, HI, HF⟩ := hrel
    by_cases hkL : k = L
    · subst hkL
      obtain ⟨w5, hcl, c3, c4, c5, hfz, hI5, hF5⟩ := clears_step HI.out
      have c1 := HI.out.cells.c1
      have HI5 := hide hI5
      have HF5 := hide ((Frm.below HB2.out).trans (HF.out.trans hF5))
      clear hI5 hF5
      go_wp2
      go_ret
      exact ⟨rfl, HI5.out, HF5.out⟩
    · have hlt : k < L := by omega
      obtain ⟨q, rfl, _, _, x, hx, hcx⟩ := HU.out.frm HF.out HS.out k (by rw [HLL.out]; exact hlt)
      obtain ⟨hxn, l, hl⟩ := HM.out k x hx
      obtain ⟨vo, vf, hdo, hdf, hRo, hRs⟩ := HI.out.rnd hxn l hl
      obtain ⟨ao, lo, co, rfl, hdo'⟩ := id hdo
      obtain ⟨af, lf, cf, rfl, hdf'⟩ := id hdf
      have HDO := hide hdo
      have HX := hide hxn
      have HK := hide hlt
      have HRO := hide hRo
      have HRS := hide hRs
      clear hdo hdf hdo' hdf' hRo hRs hl
      go_wp2_with fail
      generalize hW : wr.alloc (Obj.cells #[Value.int IntKind.u8 0, Value.int IntKind.u8 0] 89) = W1
      have HB1 : Hid (Below wr.heap.size wr W1) := hide (by rw [← hW]; exact (Below.refl _ _).alloc (Nat.le_refl _) _)
      have HZ : Hid (W1.heap[wr.heap.size]? = some (.cells #[.int .u8 0, .int .u8 0] 89 (0, 0))) := hide (by rw [← hW]; exact heap_alloc_new wr _)
      have HL := hide HI.out.lts
      have HNE := hide HI.out.ne
      generalize hrr : wr.heap.size = r at *
      have HRR := hide hrr
      have HSS : Hid (∀ W : World, (∀ j, j < W1.heap.size → j ≠ gs → W.heap[j]? = W1.heap[j]?) → W.cell? ⟨g, 0, none⟩ = some (.slice (some ⟨gs, 0, none⟩) n (n + st.xs)) ∧ W.cell? ⟨g, 1, none⟩ = some (.map (some b)) ∧ (Instr.lookup 66 (.map (some b)) (.int .i64 (x : Int)) false).run Try.prog W = .ok (.slice af lf cf) W ∧ W.cell? ⟨r, 0, none⟩ = some (.int .u8 0) ∧ W.cell? ⟨r, 1, none⟩ = some (.int .u8 0)) := hide (by
        intro W hW'
        have hz1 := HB1.out.size
        rw [HRR.out] at hz1
        obtain ⟨l1, l2, l3⟩ := HL.out
        have hg := (hW' g (by omega) HNE.out.1).trans (HB1.out.block g l1)
        have hb := (hW' b (by omega) (Ne.symm HNE.out.2.2)).trans (HB1.out.block b l3)
        have hr := (hW' r (heap_lt HZ.out) (by omega)).trans HZ.out
        obtain ⟨s1, s2, s3⟩ := HRS.out W hg hb
        exact ⟨s1, s2, s3, by simp [World.cell?, hr], by simp [World.cell?, hr]⟩)
      have HST : Hid (∀ W : World, (∀ j, j < W1.heap.size → j ≠ gs → W.heap[j]? = W1.heap[j]?) → W.cell? ⟨gs, x, none⟩ = some (.slice ao lo co) → W.cell? ⟨g, 0, none⟩ = some (.slice (some ⟨gs, 0, none⟩) n (n + st.xs)) ∧ W.cell? ⟨g, 1, none⟩ = some (.map (some b)) ∧ (Instr.lookup 66 (.map (some b)) (.int .i64 (x : Int)) false).run Try.prog W = .ok (.slice af lf cf) W ∧ (W.cell? ⟨r, 0, none⟩ = some (.int .u8 0) ∧ W.cell? ⟨r, 1, none⟩ = some (.int .u8 0)) ∧ W.cell? ⟨gs, x, none⟩ = some (.slice ao lo co)) := hide (fun W h1 h2 => ⟨(HSS.out W h1).1, (HSS.out W h1).2.1, (HSS.out W h1).2.2.1, (HSS.out W h1).2.2.2, h2⟩)
      have OC : Hid (Calls Try.prog 54 #[.agg #[.int .u8 0, .int .u8 0], .slice ao lo co, .slice af lf cf] W1.drew fun e w' => e = .returned (.slice ao lo co) ∧ Below W1.drew.heap.size W1.drew w') := hide (out_lose W1.drew 0 0 (by decide) (by decide) ao af lo co lf cf)
      have HGW : Hid (gs < W1.heap.size) := hide (by have := HL.out.2.1; have := HB1.out.size; have := HRR.out; omega)
      obtain ⟨co1, cf1⟩ := HRO.out W1 (HB1.out.block gs HL.out.2.1)
      clear hW hx hcx hrr
      go_region_held (fun W => W.cell? ⟨g, 0, none⟩ = some (.slice (some ⟨gs, 0, none⟩) n (n + st.xs)) ∧ W.cell? ⟨g, 1, none⟩ = some (.map (some b)) ∧ (Instr.lookup 66 (.map (some b)) (.int .i64 (x : Int)) false).run Try.prog W = .ok (.slice af lf cf) W ∧ (W.cell? ⟨r, 0, none⟩ = some (.int .u8 0) ∧ W.cell? ⟨r, 1, none⟩ = some (.int .u8 0)) ∧ W.cell? ⟨gs, x, none⟩ = some (.slice ao lo co))
        (first | exact HST.out _ (fun j hj hne => rfl) co1 | exact HST.out _ (fun j hj hne => hb3.block j hj) do3 | exact HST.out _ (fun j hj hne => (Below.heap_setCell _ _ _ _ hne).trans (hb3.block j hj)) (World.cell?_setCell_same w3 ⟨gs, x, none⟩ _ do3))
        (first | (go_at_call 54; refine OC.out.mono ?_; rintro e w3 ⟨rfl, hb3⟩; obtain ⟨do3, df3⟩ := HRO.out w3 ((hb3.block gs HGW.out).trans (HB1.out.block gs HL.out.2.1))))
      all_goals
        have hb3' : Below wr.heap.size wr w3 := ((HRR.out ▸ HB1.out).trans (((Below.drew (Below.refl _ _)).trans hb3).mono (HRR.out ▸ HB1.out.size)))
        have HI3 := hide ((HI.out.below hb3').same HX.out (HDO.out.kept (K5.below hb3')))
        have HF3 := hide (Frm.set (j := x) ((HF.out).trans (Frm.below hb3')) (g := gs) (.inr (.inl rfl)) (.slice ao lo co))
        clear hb3 hb3' do3 df3 co1 cf1
        go_wp2
        go_roundw
        case rel => exact ⟨k + 1, by omega, by simp, HI3, HF3⟩
        case measure => simp [intOf]; omega
end Go.Proofs.Ytecmfpgccmmlpaa
