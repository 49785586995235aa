/- lives -/
import Derived.Test.YtecmfpgccmmlpaaPq
namespace Go.Proofs.Ytecmfpgccmmlpaa
open Go.RowKit
set_option maxRecDepth 100000
set_option linter.unusedVariables false
set_option linter.unusedSimpArgs false
theorem opn_of {n : Nat} {s : Sup} {st : St} (h : Snd n s st) (hd : st.down = false) : st.opn n = ⟨s, List.replicate (n - (2 + s.jn.toNat)) 0, false⟩ := by
  rw [St.opn, (h.cnt hd).2]
def lvP : Pg := ⟨fstS 4, List.replicate 34 0, false⟩
def lvP2 : Pg := ⟨fstS 4, 1 :: List.replicate 33 0, false⟩
def lvS : Sup := ⟨2, 6, 1, 4, 0⟩
theorem lv_alloc : lvP.alloc = (lvP2, 6, 0) := by rfl
theorem lv_write {st : St} (hd : st.down = false) (ha : st.arm = false) : lvP2.write 40 6 [120] st = ((lvP2, st.goes 6 [120]), 0) := by
  have hc : lvP2.chk 6 [1] = 0 := by rfl
  have hw := write_in (n := 40) (i := 6) (l := [120]) (st := st) hd (by omega) (by simp)
  rw [if_neg (by rw [ha]; simp)] at hw
  rw [Pg.write, if_pos hc, hw]
  rfl
theorem commit_ok {n : Nat} {root : Int} {seq : Nat} {live : Int} {p : Pg} {st : St} (hb : p.bad = false) (hm : (p.sup.next root seq live).may = true) (hr : root ≠ 0 → p.is root [1, 2] = true) (hd : st.down = false) (hn : 2 ≤ n) (ha : ¬ (st.arm = true ∧ st.left = 0)) :
    p.commit n root seq live st = ((p.settled (p.sup.next root seq live), (st.syncs.goes ((p.sup.next root seq live).gen % 2) (supL (p.sup.next root seq live))).syncs), 0) := by
  have hf := flip_ok (n := n) (nx := p.sup.next root seq live) hd hn ha
  rw [Pg.commit, if_neg (by rw [hb]; decide), if_neg (by rw [hm]; decide), if_neg (fun e => by rw [hr e.1] at e; exact absurd e.2 (by decide)), hf, if_neg (show ¬ (0 : Int) ≠ 0 by decide)]
theorem lives_any (w : World) : Calls Try.prog 13 #[] w fun e w' => e = .returned (.bool true) ∧ Below w.heap.size w w' := by
  obtain ⟨z1, z2, z3, z4, z5, z6⟩ := fmt_ok (n := 40) (j := 4) (st := st0) (by decide) (by decide) rfl rfl
  have hC1 := (z2.cnt z3).1
  have hO1 : (st0.fmt 40 4).1.opn 40 = lvP := by rw [opn_of z2 z3]; rfl
  have z6' : (st0.fmt 40 4).1.wr ≤ 2 := z6
  generalize hS1 : (st0.fmt 40 4).1 = S1 at *
  have hW := lv_write z3 z4
  have hd2 : (S1.goes 6 [120]).down = false := by rw [down_goes]; exact z3
  have ha2 : (S1.goes 6 [120]).arm = false := by rw [arm_goes]; exact z4
  have hS2 := z2.goes (i := 6) (by decide) [120]
  have hw2 : (S1.goes 6 [120]).wr ≤ 3 := by rw [goes_wr]; omega
  generalize S1.goes 6 [120] = S2 at *
  have hK := commit_ok (n := 40) (root := 6) (seq := 1) (live := 0) (p := lvP2) (st := S2) rfl (by decide) (fun _ => by rfl) hd2 (by decide) (by rw [ha2]; simp)
  have hS3 := hS2.flip 6 1 0 (by decide) (.inr (by decide))
  have hd3 : ((S2.syncs.goes ((lvP2.sup.next 6 1 0).gen % 2) (supL (lvP2.sup.next 6 1 0))).syncs).down = false := by
    show (S2.syncs.goes ((lvP2.sup.next 6 1 0).gen % 2) (supL (lvP2.sup.next 6 1 0))).down = false
    rw [down_goes]; exact hd2
  have hS3' : Snd 40 lvS ((S2.syncs.goes ((lvP2.sup.next 6 1 0).gen % 2) (supL (lvP2.sup.next 6 1 0))).syncs) := hS3
  generalize (S2.syncs.goes ((lvP2.sup.next 6 1 0).gen % 2) (supL (lvP2.sup.next 6 1 0))).syncs = S3 at *
  have hC3 := (hS3'.cnt hd3).1
  have hO3 : (S3.opn 40).sup = lvS := by rw [opn_of hS3' hd3]
  have N1 := hide (DD.new w w (Below.refl _ w) 40 (by decide) (by decide))
  have HF : Hid (∀ (W : World) (g gs b : Nat), DD w W g gs b 40 st0 → Calls Try.prog 15 #[.pointer (some ⟨g, 0, none⟩), .int .i64 4] W fun e W' => e = .returned (.int .i64 0) ∧ DD w W' g gs b 40 S1) := hide (fun W g gs b h => by
    have := h.format 4 (by decide)
    rw [z1, hS1] at this
    exact this)
  have HO : Hid (∀ (W : World) (g gs b : Nat), DD w W g gs b 40 S1 → Calls Try.prog 16 #[.pointer (some ⟨g, 0, none⟩)] W fun e W' => ∃ gp gq, e = .returned (.tuple #[.pointer (some ⟨gp, 0, none⟩), .int .i64 0]) ∧ PD w W' gp gq g gs b 40 lvP S1) := hide (fun W g gs b h => by
    have := h.openOk hC1
    rw [hO1] at this
    exact this)
  have HA : Hid (∀ (W : World) (gp gq g gs b : Nat), PD w W gp gq g gs b 40 lvP S1 → Calls Try.prog 23 #[.pointer (some ⟨gp, 0, none⟩)] W fun e W' => e = .returned (.tuple #[.int .i64 6, .int .i64 0]) ∧ PD w W' gp gq g gs b 40 lvP2 S1) := hide (fun W gp gq g gs b h => by
    have := h.alloc
    rw [lv_alloc] at this
    exact this)
  have HWR : Hid (∀ (W : World) (gp gq g gs b a : Nat), PD w W gp gq g gs b 40 lvP2 S1 → IsB W (some ⟨a, 0, none⟩) 1 1 [120] → Calls Try.prog 29 #[.pointer (some ⟨gp, 0, none⟩), .int .i64 6, .slice (some ⟨a, 0, none⟩) 1 1] W fun e W' => e = .returned (.int .i64 0) ∧ PD w W' gp gq g gs b 40 lvP2 S2) := hide (fun W gp gq g gs b a h hB => by
    have := h.write 6 (by decide) (by decide) _ 1 1 [120] hB (by omega)
    rw [hW] at this
    exact this)
  have HK : Hid (∀ (W : World) (gp gq g gs b : Nat), PD w W gp gq g gs b 40 lvP2 S2 → Calls Try.prog 17 #[.pointer (some ⟨gp, 0, none⟩), .int .i64 6, .int .u64 1, .int .i64 0] W fun e W' => e = .returned (.int .i64 0) ∧ PD w W' gp gq g gs b 40 (lvP2.settled lvS) S3) := hide (fun W gp gq g gs b h => by
    have := h.commit 6 1 0 (by decide) (by decide) (by omega)
    rw [hK] at this
    exact this)
  have HO2 : Hid (∀ (W : World) (g gs b : Nat), DD w W g gs b 40 S3 → Calls Try.prog 16 #[.pointer (some ⟨g, 0, none⟩)] W fun e W' => (∃ gp, e = .returned (.tuple #[.pointer (some ⟨gp, 0, none⟩), .int .i64 0]) ∧ (Calls Try.prog 18 #[.pointer (some ⟨gp, 0, none⟩)] W' fun e W'' => e = .returned (supV lvS) ∧ Below W'.heap.size W' W'')) ∧ Below W.heap.size W W') := hide (fun W g gs b h => by
    refine (open_any W g gs b 40 S3 h.d).mono ?_
    rintro e W' ⟨h1, h2⟩
    refine ⟨?_, h2⟩
    rcases h1 with ⟨_, gp, gq, rfl, h3, h4, h5⟩ | ⟨h3, _⟩
    · refine ⟨gp, rfl, ?_⟩
      have := super_any h3
      rw [hO3] at this
      exact this
    · exact absurd hC3 h3)
  clear z1 z2 z3 z4 z5 z6 z6' hC1 hO1 hS1 hW hd2 ha2 hS2 hw2 hK hS3 hd3 hS3' hC3 hO3
  have HPU : Hid (∀ (W : World) (gp gq g gs b : Nat), PD w W gp gq g gs b 40 (lvP2.settled lvS) S3 → (Calls Try.prog 24 #[.pointer (some ⟨gp, 0, none⟩)] W fun e W' => e = .returned (.int .i64 34) ∧ W' = W) ∧ (Calls Try.prog 25 #[.pointer (some ⟨gp, 0, none⟩)] W fun e W' => e = .returned (.int .i64 1) ∧ W' = W)) := hide (fun W gp gq g gs b h => ⟨h.pages, h.used⟩)
  have kc := fun (w : World) (C : Array Value) (n c : Nat) => Lib.run_convert_bytes_const (P := Try.prog) w 25 5 C n c Try.underlying25 Try.underlying5
  go_enter Try.func13, Try.ntmps13
  go_wp2_with fail
  refine N1.out.mono ?_
  rintro e w1 ⟨g, gs, b, rfl, h1⟩
  have C1 := hide (HF.out w1 g gs b h1)
  clear h1 N1 HF
  go_wp2_with fail
  refine C1.out.mono ?_
  rintro e w2 ⟨rfl, h2⟩
  have C2 := hide (HO.out w2 g gs b h2)
  clear h2 C1 HO
  go_wp2_with fail
  refine C2.out.mono ?_
  rintro e w3 ⟨gp, gq, rfl, h3⟩
  have C3 := hide (HA.out w3 gp gq g gs b h3)
  clear h3 C2 HA
  go_wp2_with fail
  refine C3.out.mono ?_
  rintro e w4 ⟨rfl, h4⟩
  have hba : Below w4.heap.size w4 (w4.alloc (.cells #[.int .u8 120] 5 (1, 2))) := (Below.refl _ _).alloc (Nat.le_refl _) _
  have C4 : Hid (Calls Try.prog 29 #[.pointer (some ⟨gp, 0, none⟩), .int .i64 6, .slice (some ⟨w4.heap.size, 0, none⟩) 1 1] (w4.alloc (.cells #[.int .u8 120] 5 (1, 2))) fun e W' => e = .returned (.int .i64 0) ∧ PD w W' gp gq g gs b 40 lvP2 S2) := hide (HWR.out _ gp gq g gs b _ (h4.below hba) (isB_lit w4 [120] (by decide) (by decide) (1, 2)))
  clear h4 C3 HWR hba
  go_wp2_with fail
  refine C4.out.mono ?_
  rintro e w5 ⟨rfl, h5⟩
  have C5 := hide (HK.out w5 gp gq g gs b h5)
  clear h5 C4 HK
  go_wp2_with fail
  refine C5.out.mono ?_
  rintro e w6 ⟨rfl, h6⟩
  have H6 := hide h6
  have C6 := hide (HO2.out w6 g gs b h6.dd)
  clear h6 C5 HO2
  go_wp2_with fail
  refine C6.out.mono ?_
  rintro e w7 ⟨⟨gq2, rfl, hs⟩, hb7⟩
  have HS := hide hs
  have H7 := hide (H6.out.below hb7)
  clear hs hb7 C6 H6
  unfold supV supC lvS at HS
  dsimp only at HS
  go_wp2_with fail
  refine HS.out.mono ?_
  rintro e w8 ⟨rfl, hb8⟩
  have h8 := H7.out.below hb8
  obtain ⟨cp, cu⟩ := HPU.out w8 gp gq g gs b h8
  have CP := hide cp
  have CU := hide cu
  have HB := hide h8.b
  clear h8 hb8 cp cu HPU H7 HS
  go_wp2_with fail
  refine CP.out.mono ?_
  rintro e w9 ⟨rfl, rfl⟩
  go_wp2_with fail
  refine CU.out.mono ?_
  rintro e w9 ⟨rfl, rfl⟩
  go_wp2
  go_ret
  exact ⟨rfl, HB.out⟩
end Go.Proofs.Ytecmfpgccmmlpaa
