/- Commit -/
import Derived.Test.YtecmfpgccmmlpaaPi
import Derived.Test.YtecmfpgccmmlpaaPj
import Derived.Test.YtecmfpgccmmlpaaPk
import Derived.Deep.RegionHeld3
import Derived.Deep.DrawnRows
namespace Go.Proofs.Ytecmfpgccmmlpaa
open Go.RowKit
set_option maxRecDepth 100000
set_option linter.unusedVariables false
set_option linter.unusedSimpArgs false
def Pg.flip (n : Nat) (nx : Sup) (st : St) : St × Int := seq3 st St.sync (St.write n ((nx.gen % 2 : Nat) : Int) (supL nx)) St.sync
def Pg.commit (n : Nat) (root : Int) (seq : Nat) (live : Int) (p : Pg) (st : St) : (Pg × St) × Int :=
  if p.bad then ((p, st), 9) else if (p.sup.next root seq live).may = false then ((p, st), 2) else if root ≠ 0 ∧ p.is root [1, 2] = false then ((p, st), 9) else
  if (Pg.flip n (p.sup.next root seq live) st).2 ≠ 0 then ((p.told (Pg.flip n (p.sup.next root seq live) st).2, (Pg.flip n (p.sup.next root seq live) st).1), (Pg.flip n (p.sup.next root seq live) st).2)
  else ((p.settled (p.sup.next root seq live), (Pg.flip n (p.sup.next root seq live) st).1), 0)
theorem sync_wr (st : St) : st.sync.1.wr = st.wr := by
  unfold St.sync
  split <;> rfl
theorem commit_call (W : World) (g gs b n : Nat) (st : St) (hd : IsD NoX W g gs b n st) (q : Nat) (l : List Nat) (hB : IsB W (some ⟨q, 0, none⟩) 4096 4096 l) (i : Int) (hw : st.wr < 4611686018427387900) :
    Calls Try.prog 42 #[.slice (some ⟨W.heap.size, 0, none⟩) 3 3] (W.alloc (.cells #[.func (.method "Sync") #[.iface 34 (.pointer (some ⟨g, 0, none⟩))] #[], .func (.func 43) #[.agg #[.iface 34 (.pointer (some ⟨g, 0, none⟩)), .int .i64 i, .slice (some ⟨q, 0, none⟩) 4096 4096]] #[], .func (.method "Sync") #[.iface 34 (.pointer (some ⟨g, 0, none⟩))] #[]] 43))
      fun e w' => e = .returned (.int .i64 (seq3 st St.sync (St.write n i l) St.sync).2) ∧ IsD NoX w' g gs b n (seq3 st St.sync (St.write n i l) St.sync).1 ∧ Frm (SD g gs b) W w' := by
  generalize hV : (W.alloc (.cells #[.func (.method "Sync") #[.iface 34 (.pointer (some ⟨g, 0, none⟩))] #[], .func (.func 43) #[.agg #[.iface 34 (.pointer (some ⟨g, 0, none⟩)), .int .i64 i, .slice (some ⟨q, 0, none⟩) 4096 4096]] #[], .func (.method "Sync") #[.iface 34 (.pointer (some ⟨g, 0, none⟩))] #[]] 43)) = V
  have hbV : Below W.heap.size W V := by
    rw [← hV]
    exact (Below.refl _ W).alloc (Nat.le_refl _) _
  have hc : V.heap[W.heap.size]? = some (.cells #[.func (.method "Sync") #[.iface 34 (.pointer (some ⟨g, 0, none⟩))] #[], .func (.func 43) #[.agg (blkC g i (some ⟨q, 0, none⟩) 4096 4096)] #[], .func (.method "Sync") #[.iface 34 (.pointer (some ⟨g, 0, none⟩))] #[]] 43 (0, 0)) := by
    rw [← hV]
    exact heap_alloc_new W _
  clear hV
  have hdV := hd.below hbV
  have hBV := hB.below hbV
  refine (inTurnC V g gs b n st hdV i _ 4096 4096 _ St.sync (St.write n i l) St.sync hc ?_ ?_ ?_).mono ?_
  · rintro W s hF hI rfl
    exact sync_any W g gs b n _ hI
  · rintro W s hF hI rfl
    exact bwrite_any W g gs b n _ hI i _ 4096 4096 l (hBV.frm hdV hF) (by rw [sync_wr]; omega)
  · rintro W s hF hI rfl
    exact sync_any W g gs b n _ hI
  · rintro e W ⟨h1, h2, h3⟩
    exact ⟨h1, h2, (Frm.below hbV).trans h3⟩
theorem commit_nil (root : Int) (seq : Nat) (live : Int) (w : World) : Calls Try.prog 17 #[.pointer none, .int .i64 root, .int .u64 (seq : Nat), .int .i64 live] w fun e w' => e = .returned (.int .i64 1) ∧ w' = w := by
  go_enter Try.func17, Try.ntmps17
  go_wp2_with fail
  refine (pready_nil _).mono ?_
  rintro e w1 ⟨rfl, rfl⟩
  go_wp2
  go_ret
  exact ⟨rfl, rfl⟩
abbrev setP (W : World) (B : Nat) (a b c d e : Value) : World := ((((W.setCell ⟨B, 1, none⟩ a).setCell ⟨B, 2, none⟩ b).setCell ⟨B, 3, none⟩ c).setCell ⟨B, 4, none⟩ d).setCell ⟨B, 5, none⟩ e
theorem Frm.setP {S : Nat → Prop} {w W : World} (h : Frm S w W) {B : Nat} (hB : S B) (a b c d e : Value) : Frm S w (setP W B a b c d e) :=
  ((((h.set hB a).set hB b).set hB c).set hB d).set hB e
def settleJ (l : List Nat) (j : Nat) : List Nat := (l.take j).map settleN ++ l.drop j
theorem settle_zero (l : List Nat) : settleJ l 0 = l := by simp [settleJ]
theorem settleJ_len (l : List Nat) (j : Nat) : (settleJ l j).length = l.length := by simp [settleJ]; omega
theorem settleJ_get {l : List Nat} {j : Nat} (h : j < l.length) : (settleJ l j).getD j 0 = l.getD j 0 := by
  have h1 : ((l.take j).map settleN).length = j := by simp; omega
  rw [settleJ, List.getD_eq_getElem?_getD, List.getElem?_append_right (by omega), h1, Nat.sub_self, List.getElem?_drop, Nat.add_zero, ← List.getD_eq_getElem?_getD]
theorem settleJ_set {l : List Nat} {j : Nat} (h : j < l.length) : (settleJ l j).set j (settleN (l.getD j 0)) = settleJ l (j + 1) := by
  have h1 : ((l.take j).map settleN).length = j := by simp; omega
  have h2 : l.drop j = l.getD j 0 :: l.drop (j + 1) := by
    rw [List.getD_eq_getElem?_getD, List.getElem?_eq_getElem h]
    exact List.drop_eq_getElem_cons h
  have h3 : l.take (j + 1) = l.take j ++ [l.getD j 0] := by
    rw [List.take_add_one, List.getElem?_eq_getElem h, List.getD_eq_getElem?_getD, List.getElem?_eq_getElem h]; rfl
  rw [settleJ, settleJ, List.set_append_right _ _ (by omega), h1, Nat.sub_self, h2, List.set_cons_zero, h3, List.map_append, List.append_assoc]
  rfl
theorem settleJ_full {l : List Nat} {j : Nat} (h : l.length ≤ j) : settleJ l j = l.map settleN := by
  rw [settleJ, List.take_of_length_le h, List.drop_eq_nil_of_le h, List.append_nil]
theorem IsP.flipS {w : World} {gp gq g n : Nat} {p : Pg} (h : IsP w gp gq g n p) (s : Sup) (hm : s.may = true) (hj : s.jn = p.sup.jn) : IsP (setP w gp (.int .u64 (s.gen : Nat)) (.int .i64 s.root) (.int .u64 (s.seq : Nat)) (.int .i64 s.jn) (.int .i64 s.live)) gp gq g n ⟨s, p.ps, p.bad⟩ := by
  refine ⟨?_, ?_, hm, by rw [hj]; exact h.tot, h.n1, h.sm, h.n0⟩
  · unfold setP
    rw [blk_set (by rw [blk_set (by rw [blk_set (by rw [blk_set (by rw [blk_set h.blk])])])])]
    rfl
  · obtain ⟨cur, hh, hc⟩ := h.row
    refine ⟨cur, ?_, hc⟩
    have hn : gq ≠ gp := fun e => h.ne e.symm
    unfold setP
    rw [Below.heap_setCell _ _ _ _ hn, Below.heap_setCell _ _ _ _ hn, Below.heap_setCell _ _ _ _ hn, Below.heap_setCell _ _ _ _ hn, Below.heap_setCell _ _ _ _ hn]
    exact hh
theorem IsB.neB {w : World} {q len cap B : Nat} {l : List Nat} (h : IsB w (some ⟨q, 0, none⟩) len cap l) (h0 : 0 < len) (hv : w.cell? ⟨B, 0, none⟩ = some .nilIface) : q ≠ B := by
  rintro rfl
  rcases h.2.2.2.2 with ⟨hz, _⟩ | ⟨b, off, e, hlt, hc⟩
  · omega
  · cases e
    have := hc 0 h0
    rw [Nat.add_zero, hv] at this
    cases this
attribute [local go_sem ↓] Go.wp_at_zero Go.wp_at_succ
set_option maxHeartbeats 4000000 in
theorem commit_any {w : World} {gp gq g gs b n : Nat} {p : Pg} {st : St} (h : IsP w gp gq g n p) (hd : IsD NoX w g gs b n st) (root : Int) (seq : Nat) (live : Int) (h0 : -9223372036854775808 ≤ root) (h1 : root ≤ 9223372036854775807) (hw : st.wr < 4611686018427387900) :
    Calls Try.prog 17 #[.pointer (some ⟨gp, 0, none⟩), .int .i64 root, .int .u64 (seq : Nat), .int .i64 live] w fun e w' => e = .returned (.int .i64 (p.commit n root seq live st).2) ∧ IsP w' gp gq g n (p.commit n root seq live st).1.1 ∧ IsD NoX w' g gs b n (p.commit n root seq live st).1.2 ∧ Frm (fun i => SP gp gq i ∨ SD g gs b i) w w' := by
  have HD := hide (pready_any h)
  have HT : Hid (p.commit n root seq live st = if p.bad then ((p, st), 9) else if (p.sup.next root seq live).may = false then ((p, st), 2) else if root ≠ 0 ∧ p.is root [1, 2] = false then ((p, st), 9) else
    if (Pg.flip n (p.sup.next root seq live) st).2 ≠ 0 then ((p.told (Pg.flip n (p.sup.next root seq live) st).2, (Pg.flip n (p.sup.next root seq live) st).1), (Pg.flip n (p.sup.next root seq live) st).2)
    else ((p.settled (p.sup.next root seq live), (Pg.flip n (p.sup.next root seq live) st).1), 0)) := hide rfl
  unfold Pg.rdy at HD
  have HP := hide h
  have HI := hide hd
  generalize p.commit n root seq live st = R at *
  cases hb : p.bad
  · rw [hb] at HD
    have HT1 := hide (HT.out.trans (if_neg (by rw [hb]; decide)))
    have hgm := Sup.of_may h.may
    have hgl : gp < w.heap.size := heap_lt h.blk
    have g1 : w.drew.cell? ⟨gp, 1, none⟩ = some (.int .u64 (p.sup.gen : Nat)) := cell_bk (w := w.drew) (j := 1) h.blk rfl
    have g4 : w.drew.cell? ⟨gp, 4, none⟩ = some (.int .i64 p.sup.jn) := cell_bk (w := w.drew) (j := 4) h.blk rfl
    obtain ⟨G1, hG1⟩ : ∃ x, p.sup.gen + 1 = x := ⟨_, rfl⟩
    have hwg : IntKind.u64.wrap ((p.sup.gen : Int) + 1) = (G1 : Int) := by rw [IntKind.wrap_u64]; omega
    have HNX : Hid (p.sup.next root seq live = ⟨G1, root, seq, p.sup.jn, live⟩) := hide (by rw [← hG1]; rfl)
    clear hG1
    clear HT h hd hgm hb
    generalize p.sup.next root seq live = NX at *
    generalize p.sup.gen = gen at *
    obtain ⟨jn, hjn⟩ : ∃ x, p.sup.jn = x := ⟨_, rfl⟩
    rw [hjn] at g4 HNX
    have HJ := hide hjn
    clear hjn
    have hbZ : Below w.heap.size w (w.alloc (.cells #[.int .u64 0, .int .i64 0, .int .u64 0, .int .i64 0, .int .i64 0] 24)).drew := ((Below.refl _ w).alloc (Nat.le_refl _) _).drew
    have hbN : Below w.heap.size w (w.alloc (.cells #[.int .u64 (G1 : Nat), .int .i64 root, .int .u64 (seq : Nat), .int .i64 jn, .int .i64 live] 24)).drew := ((Below.refl _ w).alloc (Nat.le_refl _) _).drew
    have z1 : (w.alloc (.cells #[.int .u64 0, .int .i64 0, .int .u64 0, .int .i64 0, .int .i64 0] 24)).drew.cell? ⟨gp, 1, none⟩ = some (.int .u64 (gen : Nat)) := (hbZ.cell (p := ⟨gp, 1, none⟩) hgl).trans g1
    have z4 : (w.alloc (.cells #[.int .u64 0, .int .i64 0, .int .u64 0, .int .i64 0, .int .i64 0] 24)).drew.cell? ⟨gp, 4, none⟩ = some (.int .i64 jn) := (hbZ.cell (p := ⟨gp, 4, none⟩) hgl).trans g4
    have m1 : (w.alloc (.cells #[.int .u64 (G1 : Nat), .int .i64 root, .int .u64 (seq : Nat), .int .i64 jn, .int .i64 live] 24)).drew.cell? ⟨gp, 1, none⟩ = some (.int .u64 (gen : Nat)) := (hbN.cell (p := ⟨gp, 1, none⟩) hgl).trans g1
    have m4 : (w.alloc (.cells #[.int .u64 (G1 : Nat), .int .i64 root, .int .u64 (seq : Nat), .int .i64 jn, .int .i64 live] 24)).drew.cell? ⟨gp, 4, none⟩ = some (.int .i64 jn) := (hbN.cell (p := ⟨gp, 4, none⟩) hgl).trans g4
    clear hbZ hbN
    go_enter Try.func17, Try.ntmps17
    go_wp2_with fail
    refine HD.out.mono ?_
    rintro e w1 ⟨rfl, rfl⟩
    go_wp2_with fail
    go_region_held3 (fun W : World => W.cell? ⟨gp, 1, none⟩ = some (.int .u64 (gen : Nat)) ∧ W.cell? ⟨gp, 4, none⟩ = some (.int .i64 jn)) (first | exact ⟨z1, z4⟩ | exact ⟨m1, m4⟩ | go_keep) (fail)
    have HB1 : Hid (Below w1.heap.size w1 (w1.alloc (.cells #[.int .u64 (G1 : Nat), .int .i64 root, .int .u64 (seq : Nat), .int .i64 jn, .int .i64 live] 24)).drew) := hide ((Below.refl _ w1).alloc (Nat.le_refl _) _).drew
    have HN1 : Hid ((w1.alloc (.cells #[.int .u64 (G1 : Nat), .int .i64 root, .int .u64 (seq : Nat), .int .i64 jn, .int .i64 live] 24)).drew.heap[w1.heap.size]? = some (.cells #[.int .u64 (G1 : Nat), .int .i64 root, .int .u64 (seq : Nat), .int .i64 jn, .int .i64 live] 24 (0, 0))) := hide (heap_alloc_new w1 _)
    have HP1 := hide (HP.out.below HB1.out)
    have HI1 := hide (HI.out.below HB1.out)
    clear g1 g4 z1 z4 m1 m4 HP HI hgl HD hwg
    generalize (w1.alloc (.cells #[.int .u64 (G1 : Nat), .int .i64 root, .int .u64 (seq : Nat), .int .i64 jn, .int .i64 live] 24)).drew = V at *
    obtain ⟨B0, hB0⟩ : ∃ B, w1.heap.size = B := ⟨_, rfl⟩
    rw [hB0] at HN1
    rw [hB0]
    have HB0 := hide hB0
    clear hB0
    have HK : Hid (∀ W, Below V.heap.size V W → W.cell? ⟨gp, 0, none⟩ = some (.iface 34 (.pointer (some ⟨g, 0, none⟩))) ∧ W.cell? ⟨B0, 0, none⟩ = some (.int .u64 (G1 : Nat)) ∧ W.cell? ⟨B0, 1, none⟩ = some (.int .i64 root) ∧ W.cell? ⟨B0, 2, none⟩ = some (.int .u64 (seq : Nat)) ∧ W.cell? ⟨B0, 3, none⟩ = some (.int .i64 jn) ∧ W.cell? ⟨B0, 4, none⟩ = some (.int .i64 live)) := hide (fun W hW => by
      have hh := (hW.block B0 (heap_lt HN1.out)).trans HN1.out
      exact ⟨(HP1.out.below hW).pc.c0, cell_bk hh rfl, cell_bk hh rfl, cell_bk hh rfl, cell_bk hh rfl, cell_bk hh rfl⟩)
    have HY : Hid ((V.alloc (.cells #[.nilIface, .int .i64 0, .slice none 0 0] 73)).drew.heap[V.heap.size]? = some (.cells #[.nilIface, .int .i64 0, .slice none 0 0] 73 (0, 0))) := hide (heap_alloc_new V _)
    have ha0 : Below V.heap.size V (V.alloc (.cells #[.nilIface, .int .i64 0, .slice none 0 0] 73)).drew := ((Below.refl _ V).alloc (Nat.le_refl _) _).drew
    have hb0 : Below V.heap.size V V.drew := (Below.refl _ V).drew
    have HA0 := hide ha0
    have HC0 := hide hb0
    obtain ⟨k0, k1, k2, k3, k4, k5⟩ := HK.out _ hb0
    clear ha0 hb0
    cases hm : NX.may
    · have HR : Hid (R = ((p, st), 2)) := hide (HT1.out.trans (if_pos hm))
      have HBOa : Hid (Calls Try.prog 41 #[.iface 34 (.pointer (some ⟨g, 0, none⟩)), .agg #[.int .u64 (G1 : Nat), .int .i64 root, .int .u64 (seq : Nat), .int .i64 jn, .int .i64 live]] (V.alloc (.cells #[.nilIface, .int .i64 0, .slice none 0 0] 73)).drew fun e w' => e = .returned (.tuple #[.agg #[.nilIface, .int .i64 0, .slice none 0 0], .int .i64 2]) ∧ Below (V.alloc (.cells #[.nilIface, .int .i64 0, .slice none 0 0] 73)).drew.heap.size (V.alloc (.cells #[.nilIface, .int .i64 0, .slice none 0 0] 73)).drew w') := hide (by have := blockOf_no (V.alloc (.cells #[.nilIface, .int .i64 0, .slice none 0 0] 73)).drew (.iface 34 (.pointer (some ⟨g, 0, none⟩))) NX hm; rw [HNX.out] at this; exact this)
      have HBOb : Hid (Calls Try.prog 41 #[.iface 34 (.pointer (some ⟨g, 0, none⟩)), .agg #[.int .u64 (G1 : Nat), .int .i64 root, .int .u64 (seq : Nat), .int .i64 jn, .int .i64 live]] V.drew fun e w' => e = .returned (.tuple #[.agg #[.nilIface, .int .i64 0, .slice none 0 0], .int .i64 2]) ∧ Below V.drew.heap.size V.drew w') := hide (by have := blockOf_no V.drew (.iface 34 (.pointer (some ⟨g, 0, none⟩))) NX hm; rw [HNX.out] at this; exact this)
      clear HT1
      go_wp2_with fail
      go_region_held3 (fun W : World => W.cell? ⟨gp, 0, none⟩ = some (.iface 34 (.pointer (some ⟨g, 0, none⟩))) ∧ W.cell? ⟨B0, 0, none⟩ = some (.int .u64 (G1 : Nat)) ∧ W.cell? ⟨B0, 1, none⟩ = some (.int .i64 root) ∧ W.cell? ⟨B0, 2, none⟩ = some (.int .u64 (seq : Nat)) ∧ W.cell? ⟨B0, 3, none⟩ = some (.int .i64 jn) ∧ W.cell? ⟨B0, 4, none⟩ = some (.int .i64 live)) (first | with_reducible exact HK.out _ HC0.out | with_reducible exact HK.out _ HA0.out | with_reducible exact HK.out _ HB3.out | with_reducible exact HK.out _ (HB3.out.alloc HB3.out.size _) | with_reducible exact HK.out _ (below3 HB3.out (Nat.le_refl _) _ _ _)) ((go_at_call 41; (first | (with_reducible refine HBOa.out.mono ?_; rintro e w3 ⟨rfl, hb⟩; have HY3 := hide ((hb.block _ (heap_lt HY.out)).trans HY.out); have y0 := cell_bk (j := 0) HY3.out rfl; have y1 := cell_bk (j := 1) HY3.out rfl; have y2 := cell_bk (j := 2) HY3.out rfl; simp only [List.getElem_toArray, List.getElem_cons_zero, List.getElem_cons_succ] at y0 y1 y2; have f0 := froz_bk HY3.out 0; have f1 := froz_bk HY3.out 1; have f2 := froz_bk HY3.out 2; have HB3 := hide (HA0.out.trans (hb.mono HA0.out.size)); clear hb) | (with_reducible refine HBOb.out.mono ?_; rintro e w3 ⟨rfl, hb⟩; have HB3 := hide (HC0.out.trans (hb.mono HC0.out.size)); clear hb))))
      all_goals
        first
        | (have hy3 := HY3.out
           have HB5 := hide (below3 HB3.out (Nat.le_refl _) .nilIface (.int .i64 0) (.slice none 0 0))
           unfold set3 at HB5
           go_wp2
           go_ret
           exact ⟨by rw [HR.out]; rfl, by rw [HR.out]; exact HP1.out.below HB5.out, by rw [HR.out]; exact HI1.out.below HB5.out, Frm.below (HB1.out.trans (HB5.out.mono HB1.out.size))⟩)
        | (have HB5 : Hid (Below V.heap.size V (w3.alloc (.cells #[.nilIface, .int .i64 0, .slice none 0 0] 73))) := hide (HB3.out.alloc HB3.out.size _)
           go_wp2
           go_ret
           exact ⟨by rw [HR.out]; rfl, by rw [HR.out]; exact HP1.out.below HB5.out, by rw [HR.out]; exact HI1.out.below HB5.out, Frm.below (HB1.out.trans (HB5.out.mono HB1.out.size))⟩)
    · have HBOa : Hid (Calls Try.prog 41 #[.iface 34 (.pointer (some ⟨g, 0, none⟩)), .agg #[.int .u64 (G1 : Nat), .int .i64 root, .int .u64 (seq : Nat), .int .i64 jn, .int .i64 live]] (V.alloc (.cells #[.nilIface, .int .i64 0, .slice none 0 0] 73)).drew fun e w' => ∃ q, e = .returned (.tuple #[.agg #[.iface 34 (.pointer (some ⟨g, 0, none⟩)), .int .i64 ((NX.gen % 2 : Nat) : Int), .slice (some ⟨q, 0, none⟩) 4096 4096], .int .i64 0]) ∧ IsB w' (some ⟨q, 0, none⟩) 4096 4096 (supL NX) ∧ Below (V.alloc (.cells #[.nilIface, .int .i64 0, .slice none 0 0] 73)).drew.heap.size (V.alloc (.cells #[.nilIface, .int .i64 0, .slice none 0 0] 73)).drew w') := hide (by have := blockOf_ok (V.alloc (.cells #[.nilIface, .int .i64 0, .slice none 0 0] 73)).drew g NX hm; rw [HNX.out] at this ⊢; exact this)
      have HBOb : Hid (Calls Try.prog 41 #[.iface 34 (.pointer (some ⟨g, 0, none⟩)), .agg #[.int .u64 (G1 : Nat), .int .i64 root, .int .u64 (seq : Nat), .int .i64 jn, .int .i64 live]] V.drew fun e w' => ∃ q, e = .returned (.tuple #[.agg #[.iface 34 (.pointer (some ⟨g, 0, none⟩)), .int .i64 ((NX.gen % 2 : Nat) : Int), .slice (some ⟨q, 0, none⟩) 4096 4096], .int .i64 0]) ∧ IsB w' (some ⟨q, 0, none⟩) 4096 4096 (supL NX) ∧ Below V.drew.heap.size V.drew w') := hide (by have := blockOf_ok V.drew g NX hm; rw [HNX.out] at this ⊢; exact this)
      have HT2 := hide (HT1.out.trans (if_neg (by rw [hm]; decide)))
      obtain ⟨GI, hGI⟩ : ∃ x, NX.gen % 2 = x := ⟨_, rfl⟩
      have HFL : Hid (Pg.flip n NX st = seq3 st St.sync (St.write n (GI : Nat) (supL NX)) St.sync) := hide (by rw [← hGI]; rfl)
      rw [hGI] at HBOa HBOb
      clear HT1 hGI
      go_wp2_with fail
      go_region_held3 (fun W : World => W.cell? ⟨gp, 0, none⟩ = some (.iface 34 (.pointer (some ⟨g, 0, none⟩))) ∧ W.cell? ⟨B0, 0, none⟩ = some (.int .u64 (G1 : Nat)) ∧ W.cell? ⟨B0, 1, none⟩ = some (.int .i64 root) ∧ W.cell? ⟨B0, 2, none⟩ = some (.int .u64 (seq : Nat)) ∧ W.cell? ⟨B0, 3, none⟩ = some (.int .i64 jn) ∧ W.cell? ⟨B0, 4, none⟩ = some (.int .i64 live)) (first | with_reducible exact HK.out _ HC0.out | with_reducible exact HK.out _ HA0.out | with_reducible exact HK.out _ HB3.out | with_reducible exact HK.out _ (HB3.out.alloc HB3.out.size _) | with_reducible exact HK.out _ (below3 HB3.out (Nat.le_refl _) _ _ _)) ((go_at_call 41; (first | (with_reducible refine HBOa.out.mono ?_; rintro e w3 ⟨q, rfl, hB, hb⟩; have HY3 := hide ((hb.block _ (heap_lt HY.out)).trans HY.out); have y0 := cell_bk (j := 0) HY3.out rfl; have y1 := cell_bk (j := 1) HY3.out rfl; have y2 := cell_bk (j := 2) HY3.out rfl; simp only [List.getElem_toArray, List.getElem_cons_zero, List.getElem_cons_succ] at y0 y1 y2; have f0 := froz_bk HY3.out 0; have f1 := froz_bk HY3.out 1; have f2 := froz_bk HY3.out 2; have HB3 := hide (HA0.out.trans (hb.mono HA0.out.size)); have HQ3 := hide hB; clear hB hb) | (with_reducible refine HBOb.out.mono ?_; rintro e w3 ⟨q, rfl, hB, hb⟩; have HB3 := hide (HC0.out.trans (hb.mono HC0.out.size)); have HQ3 := hide hB; clear hB hb))))
      all_goals
        first
        | (have hy3 := HY3.out
           have HY5 := hide (blk3 hy3 (.iface 34 (.pointer (some ⟨g, 0, none⟩))) (.int .i64 (GI : Nat)) (.slice (some ⟨q, 0, none⟩) 4096 4096))
           have HB5 := hide (below3 HB3.out (Nat.le_refl _) (.iface 34 (.pointer (some ⟨g, 0, none⟩))) (.int .i64 (GI : Nat)) (.slice (some ⟨q, 0, none⟩) 4096 4096))
           have hqn := HQ3.out.neB (by omega) y0
           have HQ5 : Hid (IsB (set3 w3 V.heap.size (.iface 34 (.pointer (some ⟨g, 0, none⟩))) (.int .i64 (GI : Nat)) (.slice (some ⟨q, 0, none⟩) 4096 4096)) (some ⟨q, 0, none⟩) 4096 4096 (supL NX)) := hide (HQ3.out.at (by rw [Below.heap_setCell _ _ _ _ hqn, Below.heap_setCell _ _ _ _ hqn, Below.heap_setCell _ _ _ _ hqn]))
           clear hy3 hqn y0 y1 y2 f0 f1 f2 HQ3 HY3 HB3
           unfold set3 at HY5 HB5 HQ5
           generalize ((w3.setCell ⟨V.heap.size, 0, none⟩ (.iface 34 (.pointer (some ⟨g, 0, none⟩)))).setCell ⟨V.heap.size, 1, none⟩ (.int .i64 (GI : Nat))).setCell ⟨V.heap.size, 2, none⟩ (.slice (some ⟨q, 0, none⟩) 4096 4096) = W5 at *
           obtain ⟨B5, hB5⟩ : ∃ B, B = V.heap.size := ⟨_, rfl⟩
           rw [← hB5] at HY5 ⊢
           clear hB5)
        | (have HY5 : Hid ((w3.alloc (.cells #[.iface 34 (.pointer (some ⟨g, 0, none⟩)), .int .i64 (GI : Nat), .slice (some ⟨q, 0, none⟩) 4096 4096] 73)).heap[w3.heap.size]? = some (.cells #[.iface 34 (.pointer (some ⟨g, 0, none⟩)), .int .i64 (GI : Nat), .slice (some ⟨q, 0, none⟩) 4096 4096] 73 (0, 0))) := hide (heap_alloc_new w3 _)
           have HB5 : Hid (Below V.heap.size V (w3.alloc (.cells #[.iface 34 (.pointer (some ⟨g, 0, none⟩)), .int .i64 (GI : Nat), .slice (some ⟨q, 0, none⟩) 4096 4096] 73))) := hide (HB3.out.alloc HB3.out.size _)
           have HQ5 : Hid (IsB (w3.alloc (.cells #[.iface 34 (.pointer (some ⟨g, 0, none⟩)), .int .i64 (GI : Nat), .slice (some ⟨q, 0, none⟩) 4096 4096] 73)) (some ⟨q, 0, none⟩) 4096 4096 (supL NX)) := hide (HQ3.out.below ((Below.refl _ w3).alloc (Nat.le_refl _) _))
           clear HQ3 HB3
           generalize w3.alloc (.cells #[.iface 34 (.pointer (some ⟨g, 0, none⟩)), .int .i64 (GI : Nat), .slice (some ⟨q, 0, none⟩) 4096 4096] 73) = W5 at *
           obtain ⟨B5, hB5⟩ : ∃ B, B = w3.heap.size := ⟨_, rfl⟩
           rw [← hB5] at HY5 ⊢
           clear hB5)
      all_goals
        have HP5 := hide (HP1.out.below HB5.out)
        have HI5 := hide (HI1.out.below HB5.out)
        have HN5 := hide ((HB5.out.block B0 (heap_lt HN1.out)).trans HN1.out)
        have HF5 := hide (HB1.out.trans (HB5.out.mono HB1.out.size))
        clear HBOa HBOb HK HY HA0 HC0 k0 k1 k2 k3 k4 k5 HP1 HI1 HN1 HB1 HB5
      all_goals
        by_cases hr : root = 0
        · have er : (root != 0) = false := by simp [hr]
          have HT3 := hide (HT2.out.trans (if_neg (fun h => h.1 hr)))
          clear HT2 hr
          go_wp2_with fail
          have HP6 := HP5
          have HI6 := HI5
          have HN6 := HN5
          have HF6 := HF5
          have HQ6 := HQ5
          have HY6 := HY5
          clear HP5 HI5 HN5 HF5 HQ5 HY5
          generalize W5 = W6 at *
          have HK6 : Hid (∀ W, Frm (SD g gs b) W6 W → W.cell? ⟨gp, 0, none⟩ = some (.iface 34 (.pointer (some ⟨g, 0, none⟩))) ∧ W.cell? ⟨B5, 0, none⟩ = some (.iface 34 (.pointer (some ⟨g, 0, none⟩))) ∧ W.cell? ⟨B5, 1, none⟩ = some (.int .i64 (GI : Nat)) ∧ W.cell? ⟨B5, 2, none⟩ = some (.slice (some ⟨q, 0, none⟩) 4096 4096)) := hide (fun W hW => by
            have hh := (hW.block B5 (heap_lt HY6.out) (fun e => HI6.out.noT (by decide) (by decide) e HY6.out)).trans HY6.out
            exact ⟨(HP6.out.frmD HI6.out hW).pc.c0, cell_bk hh rfl, cell_bk hh rfl, cell_bk hh rfl⟩)
          have HCC : Hid (Calls Try.prog 42 #[.slice (some ⟨W6.heap.size, 0, none⟩) 3 3] (W6.alloc (.cells #[.func (.method "Sync") #[.iface 34 (.pointer (some ⟨g, 0, none⟩))] #[], .func (.func 43) #[.agg #[.iface 34 (.pointer (some ⟨g, 0, none⟩)), .int .i64 (GI : Nat), .slice (some ⟨q, 0, none⟩) 4096 4096]] #[], .func (.method "Sync") #[.iface 34 (.pointer (some ⟨g, 0, none⟩))] #[]] 43)).drew fun e w' => e = .returned (.int .i64 (Pg.flip n NX st).2) ∧ IsD NoX w' g gs b n (Pg.flip n NX st).1 ∧ Frm (SD g gs b) W6.drew w') := hide (by rw [HFL.out]; exact commit_call W6.drew g gs b n st (HI6.out.below (Below.refl _ _).drew) q (supL NX) (HQ6.out.below (Below.refl _ _).drew) GI hw)
          generalize Pg.flip n NX st = FL at *
          obtain ⟨S', E'⟩ := FL
          dsimp only at HCC HT3
          obtain ⟨u0, u1, u2, u3⟩ := HK6.out _ (Frm.below (Below.refl _ W6).drew)
          go_region_held3 (fun W : World => W.cell? ⟨gp, 0, none⟩ = some (.iface 34 (.pointer (some ⟨g, 0, none⟩))) ∧ W.cell? ⟨B5, 0, none⟩ = some (.iface 34 (.pointer (some ⟨g, 0, none⟩))) ∧ W.cell? ⟨B5, 1, none⟩ = some (.int .i64 (GI : Nat)) ∧ W.cell? ⟨B5, 2, none⟩ = some (.slice (some ⟨q, 0, none⟩) 4096 4096)) (first | with_reducible exact HK6.out _ (Frm.below (Below.refl _ _).drew) | with_reducible exact HK6.out _ (Frm.below (((Below.refl _ _).alloc (Nat.le_refl _) _).drew)) | with_reducible exact HK6.out _ HF7.out) ((go_at_call 42; with_reducible refine HCC.out.mono ?_; rintro e w7 ⟨rfl, h7, f7⟩; have HI7 := hide h7; have HF7 : Hid (Frm (SD g gs b) W6 w7) := hide ((Frm.below (Below.refl _ _).drew).trans f7); clear h7 f7))
          all_goals
            have HP7 := hide (HP6.out.frmD HI6.out HF7.out)
            have HN7 := hide ((HF7.out.block B0 (heap_lt HN6.out) (fun e => HI6.out.noT (by decide) (by decide) e HN6.out)).trans HN6.out)
            have HG7 : Hid (Frm (fun i => SP gp gq i ∨ SD g gs b i) w1 w7) := hide ((Frm.below HF6.out).trans (HF7.out.mono (fun i _ h => .inr h)))
            clear HK6 HCC u0 u1 u2 u3 HF7 HP6 HN6 HY6 HQ6 HF6 HI6 HFL
            by_cases hE : E' = 0
            · subst hE
              have HR : Hid (R = ((p.settled NX, S'), 0)) := hide (HT3.out.trans (if_neg (by decide)))
              have HIS := hide (HP7.out.flipS NX hm (by rw [HNX.out, HJ.out]))
              rw [HNX.out] at HIS
              have hb7 := HP7.out.blk
              have f1 := froz_bk hb7 1
              have f2 := froz_bk hb7 2
              have f3 := froz_bk hb7 3
              have f4 := froz_bk hb7 4
              have f5 := froz_bk hb7 5
              have e1 := cell_bk (j := 1) hb7 rfl
              have e2 := cell_bk (j := 2) hb7 rfl
              have e3 := cell_bk (j := 3) hb7 rfl
              have e4 := cell_bk (j := 4) hb7 rfl
              have e5 := cell_bk (j := 5) hb7 rfl
              have p0 := cell_bk (j := 0) HN7.out rfl
              have p1 := cell_bk (j := 1) HN7.out rfl
              have p2 := cell_bk (j := 2) HN7.out rfl
              have p3 := cell_bk (j := 3) HN7.out rfl
              have p4 := cell_bk (j := 4) HN7.out rfl
              simp only [List.getElem_toArray, List.getElem_cons_zero, List.getElem_cons_succ] at e1 e2 e3 e4 e5 p0 p1 p2 p3 p4
              have HFS : Hid (Frm (fun i => SP gp gq i ∨ SD g gs b i) w1 (setP w7 gp (.int .u64 (G1 : Nat)) (.int .i64 root) (.int .u64 (seq : Nat)) (.int .i64 jn) (.int .i64 live))) := hide (Frm.setP HG7.out (.inl (.inl rfl)) _ _ _ _ _)
              have HIP := hide (HI7.out.frmP HP7.out (Frm.setP (Frm.refl _ w7) (S := SP gp gq) (.inl rfl) (.int .u64 (G1 : Nat)) (.int .i64 root) (.int .u64 (seq : Nat)) (.int .i64 jn) (.int .i64 live)))
              obtain ⟨L, hL⟩ : ∃ x, p.ps.length = x := ⟨_, rfl⟩
              have HLE := hide hL
              have l1 := HP7.out.pc.l1
              have c6 := HIS.out.pc.c6
              dsimp only at c6
              rw [hL] at l1 c6
              clear hb7 HG7 HI7 HP7 HN7 hL HT3
              unfold setP at HFS HIP HIS c6
              try dsimp only at HIS
              go_wp2_with fail
              generalize hW8 : ((((w7.setCell ⟨gp, 1, none⟩ (.int .u64 (G1 : Nat))).setCell ⟨gp, 2, none⟩ (.int .i64 root)).setCell ⟨gp, 3, none⟩ (.int .u64 (seq : Nat))).setCell ⟨gp, 4, none⟩ (.int .i64 jn)).setCell ⟨gp, 5, none⟩ (.int .i64 live) = w8 at *
              clear hW8 f1 f2 f3 f4 f5 e1 e2 e3 e4 e5 p0 p1 p2 p3 p4 c6
              have HS0 := hide (settle_zero p.ps)
              rw [← HNX.out] at HIS
              go_loopw [87] (fun i wr => ∃ j : Nat, j ≤ L ∧ i = .int .i64 (j : Nat) ∧ Hid (IsP wr gp gq g n ⟨NX, settleJ p.ps j, p.bad⟩) ∧ Hid (IsD NoX wr g gs b n S') ∧ Hid (Frm (fun i => SP gp gq i ∨ SD g gs b i) w1 wr)) (fun i _ => L - (intOf i).toNat)
              case atStart => exact ⟨0, Nat.zero_le _, rfl, by rw [HS0.out]; exact HIS, HIP, HFS⟩
              case round =>
                obtain ⟨j, hj, rfl, HJ8, HD8, HF8⟩ := hrel
                clear HIS HIP HFS HS0
                by_cases hjl : j < L
                · have hlen := settleJ_len p.ps j
                  have hjs : j < (settleJ p.ps j).length := by rw [hlen, HLE.out]; exact hjl
                  have hx := HJ8.out.row.cell hjs
                  have hfx := HJ8.out.row.frozen j
                  have hc6 := HJ8.out.pc.c6
                  dsimp only at hx hc6 hfx
                  rw [settleJ_get (by rw [HLE.out]; exact hjl)] at hx
                  rw [hlen, HLE.out] at hc6
                  have hxd : wr.drew.cell? ⟨gq, j, none⟩ = _ := hx
                  have hfd : wr.drew.frozen? ⟨gq, j, none⟩ = false := hfx
                  have hcd : wr.drew.cell? ⟨gp, 6, none⟩ = _ := hc6
                  have HSX := hide (settled_any (p.ps.getD j 0) wr.drew)
                  have HP9 : Hid (IsP (wr.drew.setCell ⟨gq, j, none⟩ (.int .u8 (settleN (p.ps.getD j 0) : Nat))) gp gq g n ⟨NX, settleJ p.ps (j + 1), p.bad⟩) := hide (by
                    have := (HJ8.out.below (Below.refl _ _).drew).setCell j (settleN (p.ps.getD j 0)) (settleN_lt (by have := HJ8.out.sm.get j; dsimp only at this; rwa [settleJ_get (by rw [HLE.out]; exact hjl)] at this))
                    dsimp only at this
                    rwa [settleJ_set (by rw [HLE.out]; exact hjl)] at this)
                  have HF1 : Frm (SP gp gq) wr (wr.drew.setCell ⟨gq, j, none⟩ (.int .u8 (settleN (p.ps.getD j 0) : Nat))) := Frm.set (S := SP gp gq) (Frm.below (Below.refl _ _).drew) (.inr rfl) _
                  have HD9 := hide (HD8.out.frmP HJ8.out HF1)
                  have HF9 := hide (HF8.out.trans (HF1.mono (fun i _ h => .inl h)))
                  clear HJ8 HD8 HF8 HF1 hlen hjs
                  generalize settleN (p.ps.getD j 0) = y at *
                  generalize p.ps.getD j 0 = x at *
                  go_wp2_with fail
                  go_region_with (go_at_call 50; with_reducible refine HSX.out.mono ?_; rintro e w9 ⟨rfl, rfl⟩)
                  all_goals
                    go_wp2_with fail
                    exact ⟨⟨j + 1, by omega, by simp, HP9, HD9, HF9⟩, by simp [intOf]; omega⟩
                · have : j = L := by omega
                  subst this
                  have HPE : Hid (IsP wr gp gq g n (p.settled NX)) := hide (by have := HJ8.out; rwa [settleJ_full (by rw [HLE.out]; exact Nat.le_refl _)] at this)
                  clear HJ8
                  go_wp2
                  go_ret
                  exact ⟨by rw [HR.out]; rfl, by rw [HR.out]; exact HPE.out, by rw [HR.out]; exact HD8.out, HF8.out⟩
            · have HR : Hid (R = ((p.told E', S'), E')) := hide (HT3.out.trans (if_pos hE))
              have e1 : (E' != 0) = true := by simpa using hE
              have HTO := hide (told_any HP7.out E')
              clear HT3 hE
              go_wp2_with fail
              refine HTO.out.mono ?_
              rintro e w8 ⟨rfl, h8, f8⟩
              have H8 := hide h8
              have HD8 := hide (HI7.out.frmP HP7.out f8)
              have HF8 := hide (HG7.out.trans (f8.mono (fun i _ h => .inl h)))
              clear h8 f8 HTO
              go_wp2
              go_ret
              exact ⟨by rw [HR.out]; rfl, by rw [HR.out]; exact H8.out, by rw [HR.out]; exact HD8.out, HF8.out⟩
        · have er : (root != 0) = true := by simpa using hr
          have hba : Below W5.heap.size W5 (W5.alloc (.cells #[.int .u8 1, .int .u8 2] 83)) := (Below.refl _ W5).alloc (Nat.le_refl _) _
          have HIS := hide (is_q (HP5.out.below hba) root h0 h1 (some ⟨W5.heap.size, 0, none⟩) 2 2 [1, 2] (isB_lit83 W5 [1, 2] (by decide) (by decide)) (by omega))
          have HBA := hide hba
          clear hba
          cases hs : p.is root [1, 2]
          · have HR : Hid (R = ((p, st), 9)) := hide (HT2.out.trans (if_pos ⟨hr, hs⟩))
            rw [hs] at HIS
            clear HT2 hr hs
            go_wp2_with fail
            refine HIS.out.mono ?_
            rintro e w6 ⟨rfl, m, rfl⟩
            have HB6 := hide (below_drewN HBA.out m)
            go_wp2
            go_ret
            exact ⟨by rw [HR.out]; rfl, by rw [HR.out]; exact HP5.out.below HB6.out, by rw [HR.out]; exact HI5.out.below HB6.out, Frm.below (HF5.out.trans (HB6.out.mono HF5.out.size))⟩
          · have HT3 := hide (HT2.out.trans (if_neg (fun h => by rw [hs] at h; exact absurd h.2 (by decide))))
            rw [hs] at HIS
            clear HT2 hr hs
            go_wp2_with fail
            refine HIS.out.mono ?_
            rintro e w6 ⟨rfl, m, rfl⟩
            have hb6 := below_drewN HBA.out m
            have HP6 := hide (HP5.out.below hb6)
            have HI6 := hide (HI5.out.below hb6)
            have HN6 := hide ((hb6.block B0 (heap_lt HN5.out)).trans HN5.out)
            have HF6 := hide (HF5.out.trans (hb6.mono HF5.out.size))
            have HQ6 := hide (HQ5.out.below hb6)
            have HY6 := hide ((hb6.block B5 (heap_lt HY5.out)).trans HY5.out)
            clear HIS HBA hb6 HP5 HI5 HN5 HF5 HQ5 HY5
            go_wp2_with fail
            generalize ((W5.alloc (.cells #[.int .u8 1, .int .u8 2] 83)).drewN m) = W6 at *
            have HK6 : Hid (∀ W, Frm (SD g gs b) W6 W → W.cell? ⟨gp, 0, none⟩ = some (.iface 34 (.pointer (some ⟨g, 0, none⟩))) ∧ W.cell? ⟨B5, 0, none⟩ = some (.iface 34 (.pointer (some ⟨g, 0, none⟩))) ∧ W.cell? ⟨B5, 1, none⟩ = some (.int .i64 (GI : Nat)) ∧ W.cell? ⟨B5, 2, none⟩ = some (.slice (some ⟨q, 0, none⟩) 4096 4096)) := hide (fun W hW => by
              have hh := (hW.block B5 (heap_lt HY6.out) (fun e => HI6.out.noT (by decide) (by decide) e HY6.out)).trans HY6.out
              exact ⟨(HP6.out.frmD HI6.out hW).pc.c0, cell_bk hh rfl, cell_bk hh rfl, cell_bk hh rfl⟩)
            have HCC : Hid (Calls Try.prog 42 #[.slice (some ⟨W6.heap.size, 0, none⟩) 3 3] (W6.alloc (.cells #[.func (.method "Sync") #[.iface 34 (.pointer (some ⟨g, 0, none⟩))] #[], .func (.func 43) #[.agg #[.iface 34 (.pointer (some ⟨g, 0, none⟩)), .int .i64 (GI : Nat), .slice (some ⟨q, 0, none⟩) 4096 4096]] #[], .func (.method "Sync") #[.iface 34 (.pointer (some ⟨g, 0, none⟩))] #[]] 43)).drew fun e w' => e = .returned (.int .i64 (Pg.flip n NX st).2) ∧ IsD NoX w' g gs b n (Pg.flip n NX st).1 ∧ Frm (SD g gs b) W6.drew w') := hide (by rw [HFL.out]; exact commit_call W6.drew g gs b n st (HI6.out.below (Below.refl _ _).drew) q (supL NX) (HQ6.out.below (Below.refl _ _).drew) GI hw)
            generalize Pg.flip n NX st = FL at *
            obtain ⟨S', E'⟩ := FL
            dsimp only at HCC HT3
            obtain ⟨u0, u1, u2, u3⟩ := HK6.out _ (Frm.below (Below.refl _ W6).drew)
            go_region_held3 (fun W : World => W.cell? ⟨gp, 0, none⟩ = some (.iface 34 (.pointer (some ⟨g, 0, none⟩))) ∧ W.cell? ⟨B5, 0, none⟩ = some (.iface 34 (.pointer (some ⟨g, 0, none⟩))) ∧ W.cell? ⟨B5, 1, none⟩ = some (.int .i64 (GI : Nat)) ∧ W.cell? ⟨B5, 2, none⟩ = some (.slice (some ⟨q, 0, none⟩) 4096 4096)) (first | with_reducible exact HK6.out _ (Frm.below (Below.refl _ _).drew) | with_reducible exact HK6.out _ (Frm.below (((Below.refl _ _).alloc (Nat.le_refl _) _).drew)) | with_reducible exact HK6.out _ HF7.out) ((go_at_call 42; with_reducible refine HCC.out.mono ?_; rintro e w7 ⟨rfl, h7, f7⟩; have HI7 := hide h7; have HF7 : Hid (Frm (SD g gs b) W6 w7) := hide ((Frm.below (Below.refl _ _).drew).trans f7); clear h7 f7))
            all_goals
              have HP7 := hide (HP6.out.frmD HI6.out HF7.out)
              have HN7 := hide ((HF7.out.block B0 (heap_lt HN6.out) (fun e => HI6.out.noT (by decide) (by decide) e HN6.out)).trans HN6.out)
              have HG7 : Hid (Frm (fun i => SP gp gq i ∨ SD g gs b i) w1 w7) := hide ((Frm.below HF6.out).trans (HF7.out.mono (fun i _ h => .inr h)))
              clear HK6 HCC u0 u1 u2 u3 HF7 HP6 HN6 HY6 HQ6 HF6 HI6 HFL
              by_cases hE : E' = 0
              · subst hE
                have HR : Hid (R = ((p.settled NX, S'), 0)) := hide (HT3.out.trans (if_neg (by decide)))
                have HIS := hide (HP7.out.flipS NX hm (by rw [HNX.out, HJ.out]))
                rw [HNX.out] at HIS
                have hb7 := HP7.out.blk
                have f1 := froz_bk hb7 1
                have f2 := froz_bk hb7 2
                have f3 := froz_bk hb7 3
                have f4 := froz_bk hb7 4
                have f5 := froz_bk hb7 5
                have e1 := cell_bk (j := 1) hb7 rfl
                have e2 := cell_bk (j := 2) hb7 rfl
                have e3 := cell_bk (j := 3) hb7 rfl
                have e4 := cell_bk (j := 4) hb7 rfl
                have e5 := cell_bk (j := 5) hb7 rfl
                have p0 := cell_bk (j := 0) HN7.out rfl
                have p1 := cell_bk (j := 1) HN7.out rfl
                have p2 := cell_bk (j := 2) HN7.out rfl
                have p3 := cell_bk (j := 3) HN7.out rfl
                have p4 := cell_bk (j := 4) HN7.out rfl
                simp only [List.getElem_toArray, List.getElem_cons_zero, List.getElem_cons_succ] at e1 e2 e3 e4 e5 p0 p1 p2 p3 p4
                have HFS : Hid (Frm (fun i => SP gp gq i ∨ SD g gs b i) w1 (setP w7 gp (.int .u64 (G1 : Nat)) (.int .i64 root) (.int .u64 (seq : Nat)) (.int .i64 jn) (.int .i64 live))) := hide (Frm.setP HG7.out (.inl (.inl rfl)) _ _ _ _ _)
                have HIP := hide (HI7.out.frmP HP7.out (Frm.setP (Frm.refl _ w7) (S := SP gp gq) (.inl rfl) (.int .u64 (G1 : Nat)) (.int .i64 root) (.int .u64 (seq : Nat)) (.int .i64 jn) (.int .i64 live)))
                obtain ⟨L, hL⟩ : ∃ x, p.ps.length = x := ⟨_, rfl⟩
                have HLE := hide hL
                have l1 := HP7.out.pc.l1
                have c6 := HIS.out.pc.c6
                dsimp only at c6
                rw [hL] at l1 c6
                clear hb7 HG7 HI7 HP7 HN7 hL HT3
                unfold setP at HFS HIP HIS c6
                try dsimp only at HIS
                go_wp2_with fail
                generalize hW8 : ((((w7.setCell ⟨gp, 1, none⟩ (.int .u64 (G1 : Nat))).setCell ⟨gp, 2, none⟩ (.int .i64 root)).setCell ⟨gp, 3, none⟩ (.int .u64 (seq : Nat))).setCell ⟨gp, 4, none⟩ (.int .i64 jn)).setCell ⟨gp, 5, none⟩ (.int .i64 live) = w8 at *
                clear hW8 f1 f2 f3 f4 f5 e1 e2 e3 e4 e5 p0 p1 p2 p3 p4 c6
                have HS0 := hide (settle_zero p.ps)
                rw [← HNX.out] at HIS
                go_loopw [87] (fun i wr => ∃ j : Nat, j ≤ L ∧ i = .int .i64 (j : Nat) ∧ Hid (IsP wr gp gq g n ⟨NX, settleJ p.ps j, p.bad⟩) ∧ Hid (IsD NoX wr g gs b n S') ∧ Hid (Frm (fun i => SP gp gq i ∨ SD g gs b i) w1 wr)) (fun i _ => L - (intOf i).toNat)
                case atStart => exact ⟨0, Nat.zero_le _, rfl, by rw [HS0.out]; exact HIS, HIP, HFS⟩
                case round =>
                  obtain ⟨j, hj, rfl, HJ8, HD8, HF8⟩ := hrel
                  clear HIS HIP HFS HS0
                  by_cases hjl : j < L
                  · have hlen := settleJ_len p.ps j
                    have hjs : j < (settleJ p.ps j).length := by rw [hlen, HLE.out]; exact hjl
                    have hx := HJ8.out.row.cell hjs
                    have hfx := HJ8.out.row.frozen j
                    have hc6 := HJ8.out.pc.c6
                    dsimp only at hx hc6 hfx
                    rw [settleJ_get (by rw [HLE.out]; exact hjl)] at hx
                    rw [hlen, HLE.out] at hc6
                    have hxd : wr.drew.cell? ⟨gq, j, none⟩ = _ := hx
                    have hfd : wr.drew.frozen? ⟨gq, j, none⟩ = false := hfx
                    have hcd : wr.drew.cell? ⟨gp, 6, none⟩ = _ := hc6
                    have HSX := hide (settled_any (p.ps.getD j 0) wr.drew)
                    have HP9 : Hid (IsP (wr.drew.setCell ⟨gq, j, none⟩ (.int .u8 (settleN (p.ps.getD j 0) : Nat))) gp gq g n ⟨NX, settleJ p.ps (j + 1), p.bad⟩) := hide (by
                      have := (HJ8.out.below (Below.refl _ _).drew).setCell j (settleN (p.ps.getD j 0)) (settleN_lt (by have := HJ8.out.sm.get j; dsimp only at this; rwa [settleJ_get (by rw [HLE.out]; exact hjl)] at this))
                      dsimp only at this
                      rwa [settleJ_set (by rw [HLE.out]; exact hjl)] at this)
                    have HF1 : Frm (SP gp gq) wr (wr.drew.setCell ⟨gq, j, none⟩ (.int .u8 (settleN (p.ps.getD j 0) : Nat))) := Frm.set (S := SP gp gq) (Frm.below (Below.refl _ _).drew) (.inr rfl) _
                    have HD9 := hide (HD8.out.frmP HJ8.out HF1)
                    have HF9 := hide (HF8.out.trans (HF1.mono (fun i _ h => .inl h)))
                    clear HJ8 HD8 HF8 HF1 hlen hjs
                    generalize settleN (p.ps.getD j 0) = y at *
                    generalize p.ps.getD j 0 = x at *
                    go_wp2_with fail
                    go_region_with (go_at_call 50; with_reducible refine HSX.out.mono ?_; rintro e w9 ⟨rfl, rfl⟩)
                    all_goals
                      go_wp2_with fail
                      exact ⟨⟨j + 1, by omega, by simp, HP9, HD9, HF9⟩, by simp [intOf]; omega⟩
                  · have : j = L := by omega
                    subst this
                    have HPE : Hid (IsP wr gp gq g n (p.settled NX)) := hide (by have := HJ8.out; rwa [settleJ_full (by rw [HLE.out]; exact Nat.le_refl _)] at this)
                    clear HJ8
                    go_wp2
                    go_ret
                    exact ⟨by rw [HR.out]; rfl, by rw [HR.out]; exact HPE.out, by rw [HR.out]; exact HD8.out, HF8.out⟩
              · have HR : Hid (R = ((p.told E', S'), E')) := hide (HT3.out.trans (if_pos hE))
                have e1 : (E' != 0) = true := by simpa using hE
                have HTO := hide (told_any HP7.out E')
                clear HT3 hE
                go_wp2_with fail
                refine HTO.out.mono ?_
                rintro e w8 ⟨rfl, h8, f8⟩
                have H8 := hide h8
                have HD8 := hide (HI7.out.frmP HP7.out f8)
                have HF8 := hide (HG7.out.trans (f8.mono (fun i _ h => .inl h)))
                clear h8 f8 HTO
                go_wp2
                go_ret
                exact ⟨by rw [HR.out]; rfl, by rw [HR.out]; exact H8.out, by rw [HR.out]; exact HD8.out, HF8.out⟩
  · rw [hb] at HD
    have HR : Hid (R = ((p, st), 9)) := hide (by rw [HT.out, if_pos hb])
    clear HT h hd hb
    go_enter Try.func17, Try.ntmps17
    go_wp2_with fail
    refine HD.out.mono ?_
    rintro e w1 ⟨rfl, rfl⟩
    go_wp2
    go_ret
    exact ⟨by rw [HR.out]; rfl, by rw [HR.out]; exact HP.out, by rw [HR.out]; exact HI.out, Frm.refl _ _⟩
end Go.Proofs.Ytecmfpgccmmlpaa
