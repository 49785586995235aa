/- sectorsFrom: as many sectors as the first one says -/
import Derived.Test.YteckglnfkgfefaaJoC
import Derived.Test.YteckglnfkgfefaaJoD
namespace Go.Proofs.Yteckglnfkgfefaa
open Go.RowKit Cod
set_option maxRecDepth 40000
set_option linter.unusedSimpArgs false
set_option linter.unusedVariables false
/-- sectorsSaid -/
theorem said_any (w : World) (b off cap : Nat) (l : List Nat) (h : IsB w (some ⟨b, off, none⟩) 4096 cap l) : Calls Try.prog 84 #[.slice (some ⟨b, off, none⟩) 4096 cap] w fun e w' => e = .returned (.int .u64 (cntL l : Nat)) ∧ w' = w := by
  have hcap := h.2.1
  have hmax := h.2.2.1
  unfold maxLen at hmax
  have HL := hide (low_any w _ 4 (cap - 24) _ ((h.back 24 (by omega)).front 4 (by omega)) (by omega))
  have HE : Hid (lowN ((l.drop 24).take 4) = cntL l) := hide rfl
  rw [HE.out] at HL
  have hc : ¬ cap = 24 := by omega
  clear h HE
  generalize cntL l = c at *
  go_enter Try.func84, Try.ntmps84
  go_wp2_with fail
  refine HL.out.mono ?_
  rintro e w2 ⟨rfl, rfl⟩
  go_wp2
  go_ret
  exact ⟨rfl, rfl⟩
/-- a journal on its disk: what reading needs -/
structure OnD (X : Nat → Prop) (w : World) (gj g gs b n : Nat) (j : Jn) (st : St) : Prop where
  dsk : IsD X w g gs b n st
  blk : ∃ nx, w.heap[gj]? = some (.cells #[.pointer (some ⟨g, 0, none⟩), .int .i64 (j.first : Nat), .int .i64 (j.count : Nat), .int .u64 (j.frm : Nat), .int .u64 (nx : Nat), .bool j.failed] 78 (0, 0))
  c0 : 0 < j.count
  c1 : j.first + j.count ≤ n
  up : st.down = false
theorem OnD.below {X : Nat → Prop} {w w' : World} {gj g gs b n : Nat} {j : Jn} {st : St} (h : OnD X w gj g gs b n j st) (hb : Below w.heap.size w w') : OnD X w' gj g gs b n j st := by
  obtain ⟨nx, e⟩ := h.blk
  exact ⟨h.dsk.below hb, ⟨nx, (hb.block _ (heap_lt e)).trans e⟩, h.c0, h.c1, h.up⟩
/-- sector, where next is not known -/
theorem sector_on {X : Nat → Prop} (w : World) (gj g gs b n : Nat) (j : Jn) (st : St) (h : OnD X w gj g gs b n j st) (s : Nat) (h0 : 1 ≤ s) (h1 : s ≤ 9223372036854775807) : Calls Try.prog 71 #[.pointer (some ⟨gj, 0, none⟩), .int .u64 (s : Nat)] w fun e w' => e = .returned (.int .i64 (j.sec s : Nat)) ∧ Below w.heap.size w w' := by
  obtain ⟨nx, e⟩ := h.blk
  have g1 := cell_bk (j := 1) e rfl
  have g2 := cell_bk (j := 2) e rfl
  simp only [List.getElem_toArray, List.getElem_cons_zero, List.getElem_cons_succ] at g1 g2
  have hc0 := h.c0
  have hc1 := h.c1
  have hn1 := h.dsk.n1
  clear h e
  go_enter Try.func71, Try.ntmps71
  go_wp2_with fail
  go_region
  all_goals
    go_wp2
    go_ret
    refine ⟨?_, (Below.refl _ _).drew⟩
    have hm : ((s : Int) - 1) % (j.count : Int) = (((s - 1) % j.count : Nat) : Int) := by
      rw [Int.natCast_emod]; congr 1; omega
    have hl : (s - 1) % j.count < j.count := Nat.mod_lt _ hc0
    rw [hm, wr64 (((s - 1) % j.count : Nat) : Int) (by omega) (by omega), wr64 _ (by omega) (by omega)]
    rfl
/-- Read of a journal's sector -/
theorem read_sec {X : Nat → Prop} (w : World) (gj g gs b n : Nat) (j : Jn) (st : St) (h : OnD X w gj g gs b n j st) (s : Nat) : Calls Try.prog 52 #[.pointer (some ⟨g, 0, none⟩), .int .i64 (j.sec s : Nat)] w fun e w' => ∃ q, e = .returned (.tuple #[.slice (some ⟨q, 0, none⟩) 4096 4096, .int .i64 0]) ∧ w.heap.size ≤ q ∧ Row w' q 4096 4096 (j.rd st s) ∧ Below w.heap.size w w' :=
  read_ok w g gs b n st h.dsk h.up (j.sec s) (Nat.lt_of_lt_of_le (sec_lt h.c0 s) h.c1)
theorem rd_lt {X : Nat → Prop} {w : World} {gj g gs b n : Nat} {j : Jn} {st : St} (h : OnD X w gj g gs b n j st) (s : Nat) : ∀ x ∈ j.rd st s, x < 256 := full_lt (h.dsk.dat (Nat.lt_of_lt_of_le (sec_lt h.c0 s) h.c1)).1
/-- what sectorsFrom answers -/
def SfPost (w : World) (rd : Nat → List Nat) (s most : Nat) (e : Ending) (w' : World) : Prop :=
  ((e = .returned (.tuple #[.slice none 0 0, .bool false]) ∧ ¬ (1 ≤ cntL (rd s) ∧ cntL (rd s) ≤ most)) ∨
   (∃ v, e = .returned (.tuple #[v, .bool true]) ∧ 1 ≤ cntL (rd s) ∧ cntL (rd s) ≤ most ∧ OwnBB w' w.heap.size v (rds rd s (cntL (rd s))))) ∧ Below w.heap.size w w'
theorem SfPost.no {w w' : World} {rd : Nat → List Nat} {s most : Nat} (h : ¬ (1 ≤ cntL (rd s) ∧ cntL (rd s) ≤ most)) (hb : Below w.heap.size w w') : SfPost w rd s most (.returned (.tuple #[.slice none 0 0, .bool false])) w' := ⟨.inl ⟨rfl, h⟩, hb⟩
theorem SfPost.ok {w w' : World} {rd : Nat → List Nat} {s most : Nat} {v : Value} (h1 : 1 ≤ cntL (rd s)) (h2 : cntL (rd s) ≤ most) (ho : OwnBB w' w.heap.size v (rds rd s (cntL (rd s)))) (hb : Below w.heap.size w w') : SfPost w rd s most (.returned (.tuple #[v, .bool true])) w' := ⟨.inr ⟨v, rfl, h1, h2, ho⟩, hb⟩
set_option maxHeartbeats 4000000 in
theorem sectorsFrom_any {X : Nat → Prop} (w : World) (gj g gs b n : Nat) (j : Jn) (st : St) (h : OnD X w gj g gs b n j st) (s most : Nat) (h0 : 1 ≤ s) (h1 : s ≤ 4611686018427390000) (hm : most ≤ 1024) :
    Calls Try.prog 69 #[.pointer (some ⟨gj, 0, none⟩), .int .u64 (s : Nat), .int .u64 (most : Nat)] w (SfPost w (j.rd st) s most) := by
  obtain ⟨i0, hi, hz0, hz1, hz2⟩ := info_parts info34
  obtain ⟨nx, e⟩ := h.blk
  have g0 := cell_bk (j := 0) e rfl
  simp only [List.getElem_toArray, List.getElem_cons_zero, List.getElem_cons_succ] at g0
  have HG : Hid (∀ W, Below w.heap.size w W → W.cell? ⟨gj, 0, none⟩ = some (.pointer (some ⟨g, 0, none⟩))) := hide (fun W hW => (hW.cell (p := ⟨gj, 0, none⟩) (heap_lt e)).trans g0)
  have HSC := hide (fun W (hW : Below w.heap.size w W) k (hk : 1 ≤ k) (hk' : k ≤ 9223372036854775807) => sector_on W gj g gs b n j st (h.below hW) k hk hk')
  have HRS := hide (fun W (hW : Below w.heap.size w W) k => read_sec W gj g gs b n j st (h.below hW) k)
  have HRL := hide (fun k => rd_lt h k)
  have HB0 : Hid (Below w.heap.size w w.drew) := hide (Below.refl _ _).drew
  have HT1 := hide (HSC.out w.drew HB0.out s h0 (by omega))
  clear h e
  go_enter Try.func69, Try.ntmps69
  go_wp2_with fail
  go_region_held (fun W : World => W.cell? ⟨gj, 0, none⟩ = some (.pointer (some ⟨g, 0, none⟩))) (first | with_reducible exact HG.out _ HB0.out | with_reducible exact HG.out _ HQ2.out | with_reducible exact HG.out _ HQ1.out) (first | (go_at_call 71; with_reducible refine HT1.out.mono ?_; rintro e w2 ⟨rfl, hb2⟩; have HQ1 : Hid (Below w.heap.size w w2) := hide (HB0.out.trans (hb2.mono HB0.out.size))) | (go_at_call 52; with_reducible refine (HRS.out _ HQ1.out s).mono ?_; rintro e w3 ⟨q, rfl, hq, hrow, hb3⟩; have HQ2 : Hid (Below w.heap.size w w3) := hide (HQ1.out.trans (hb3.mono HQ1.out.size)); have HRW := hide hrow; have HQQ : Hid (w.heap.size ≤ q) := hide (Nat.le_trans HQ1.out.size hq); clear hq hrow hb3))
  all_goals
    have HS := hide (said_any w3 q 0 4096 _ (HRW.out.isB (HRL.out s)))
    have HN := hide (SfPost.no (w := w) (w' := w3) (rd := j.rd st) (s := s) (most := most))
    have HO := hide (fun (w' : World) (v : Value) => SfPost.ok (w := w) (w' := w') (rd := j.rd st) (s := s) (most := most) (v := v))
    generalize hc : cntL (j.rd st s) = c at *
    clear hc HT1
    by_cases hc1 : c < 1
    · have d1 : decide ((c : Int) < 1) = true := decide_eq_true (by omega)
      have HP := hide (HN.out (by omega) HQ2.out)
      go_wp2_with fail
      refine HS.out.mono ?_
      rintro e w4 ⟨rfl, rfl⟩
      go_wp2_with fail
      go_ret2
      exact HP.out
    · have d1 : decide ((c : Int) < 1) = false := decide_eq_false (by omega)
      by_cases hc2 : most < c
      · have d2 : decide ((most : Int) < (c : Int)) = true := decide_eq_true (by omega)
        have HP := hide (HN.out (by omega) HQ2.out)
        go_wp2_with fail
        refine HS.out.mono ?_
        rintro e w4 ⟨rfl, rfl⟩
        go_wp2_with fail
        go_ret2
        exact HP.out
      · have d2 : decide ((most : Int) < (c : Int)) = false := decide_eq_false (by omega)
        have HLI := hide (OwnBB.lit HQ2.out.size HQQ.out HRW.out)
        have HBL : Hid (Below w.heap.size w (w3.alloc (.cells #[.slice (some ⟨q, 0, none⟩) 4096 4096] 34))) := hide (HQ2.out.alloc HQ2.out.size _)
        have HR1 : Hid (rds (j.rd st) s 1 = [j.rd st s]) := hide (by simp [rds])
        go_wp2_with fail
        refine HS.out.mono ?_
        rintro e w4 ⟨rfl, rfl⟩
        go_wp2_with fail
        clear g0
        go_loopw [12, 11] (fun i x wr => ∃ k : Nat, 1 ≤ k ∧ k ≤ c ∧ i = .int .u64 (k : Nat) ∧ OwnBB wr w.heap.size x (rds (j.rd st) s k) ∧ Below w.heap.size w wr) (fun i _ _ => c - (intOf i).toNat)
        case atStart => exact ⟨1, Nat.le_refl _, by omega, rfl, by rw [HR1.out]; exact HLI.out, HBL.out⟩
        case round =>
          obtain ⟨k, hk1, hkc, rfl, hown, hb⟩ := hrel
          have HOW := hide hown
          have HB := hide hb
          clear hown hb
          by_cases hlt : k < c
          · have HB1 : Hid (Below w.heap.size w wr.drew) := hide (HB.out.trans ((Below.refl _ wr).drew.mono HB.out.size))
            have hwk : IntKind.u64.wrap ((s : Int) + (k : Int)) = ((s + k : Nat) : Int) := by rw [IntKind.wrap_u64]; omega
            have hT2 := HSC.out wr.drew HB1.out (s + k) (by omega) (by omega)
            rw [Int.natCast_add] at hT2
            have HT2 := hide hT2
            clear hT2
            have HRK : Hid (rds (j.rd st) s (k + 1) = rds (j.rd st) s k ++ [j.rd st (s + k)]) := hide (rds_succ _ _ _)
            have HLK : Hid ((rds (j.rd st) s k).length = k) := hide (rds_length _ _ _)
            have g0 := HG.out wr HB.out
            go_wp2_with fail
            go_region_held (fun W : World => W.cell? ⟨gj, 0, none⟩ = some (.pointer (some ⟨g, 0, none⟩))) (first | with_reducible exact HG.out _ HB1.out | with_reducible exact HG.out _ HQ4.out | with_reducible exact HG.out _ HQ3.out) (first | (go_at_call 71; refine HT2.out.mono ?_; rintro e w2 ⟨rfl, hb2⟩; have HQ3 : Hid (Below w.heap.size w w2) := hide (HB1.out.trans (hb2.mono HB1.out.size)); have HD1 : Hid (Below wr.heap.size wr w2) := hide ((Below.refl _ wr).drew.trans hb2)) | (go_at_call 52; with_reducible refine (HRS.out _ HQ3.out (s + k)).mono ?_; rintro e w5 ⟨q5, rfl, hq, hrow, hb3⟩; have HQ4 : Hid (Below w.heap.size w w5) := hide (HQ3.out.trans (hb3.mono HQ3.out.size)); have HRW5 := hide hrow; have HQ5 : Hid (wr.heap.size ≤ q5) := hide (Nat.le_trans HD1.out.size hq); have HD2 : Hid (Below wr.heap.size wr w5) := hide (HD1.out.trans (hb3.mono HD1.out.size)); clear hq hrow hb3))
            all_goals
              obtain ⟨vs, qs, hvo, hvl⟩ := HOW.out
              have HQS : Hid (∀ i, i < (rds (j.rd st) s k).length → qs i < q5) := hide (fun i hi => Nat.lt_of_lt_of_le (hvl.lt i hi) HQ5.out)
              have HVO := hide (own34_below hvo HD2.out)
              have HVL := hide (hvl.below HD2.out)
              have HQB : Hid (w.heap.size ≤ q5) := hide (Nat.le_trans HB.out.size HQ5.out)
              have hvo' := HVO.out
              rw [HLK.out] at hvo'
              have HVJ := hide hvo'
              have HZ := hide HQ4.out.size
              clear hvo' hvo hvl
              go_wp2_with (at_builtin; refine wpList_append_own _ rfl _ _ 24 rfl w.heap.size 34 i0 (.slice none 0 0) 1 24 Try.underlying24 hi hz0 hz1 hz2 rfl (by decide) _ k vs rfl (HVJ.out.alloc _) ⟨w5.heap.size, 0, none⟩ 1 1 [.slice (some ⟨q5, 0, none⟩) 4096 4096] rfl rfl (cell_one_new _ _ _) (one_slice _ _ _) ?c3 ?c4 ?c5 ?_)
              case c3 => unfold maxLen; omega
              case c4 => omega
              case c5 => have := HZ.out; simp; omega
              intro v7 w7 hown7 hg7 _
              have HBA : Below w5.heap.size w5 (w5.alloc (.cells #[.slice (some ⟨q5, 0, none⟩) 4096 4096] 34)) := (Below.refl _ _).alloc (Nat.le_refl _) _
              have hown7' := hown7
              rw [← HLK.out] at hown7'
              have hP := OwnBB.push (own34_below HVO.out HBA) (HVL.out.below HBA) HQB.out HQS.out (HRW5.out.low HBA) hown7' hg7
              rw [← HRK.out] at hP
              have hlt2 : ∀ k, _ = some k → w.heap.size ≤ k := fun k hk => (HVJ.out.lt k hk).1
              have hB7 : Below w.heap.size w w7 := (HQ4.out.trans (HBA.mono HZ.out)).grown hg7 (by have := HZ.out; simp; omega) (fun k hk => hlt2 k hk)
              clear hown7 hown7' hg7 HBA hlt2
              go_wp2
              go_roundw
              case rel => exact ⟨k + 1, by omega, by omega, by go_num, hP, hB7⟩
              case measure => simp [intOf]; omega
          · have : k = c := by omega
            subst this
            go_wp2_with fail
            go_ret2
            exact HO.out _ _ (by omega) (by omega) HOW.out HB.out
end Go.Proofs.Yteckglnfkgfefaa
