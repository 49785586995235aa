/- NodeFound: the walk -/
import Derived.Test.YtebikoekpbnpbaaNW
import Derived.Test.YtebikoekpbnpbaaNV
import Derived.Deep.QuietTactic
import Derived.BigQuiet
namespace Go.Proofs.Ytebikoekpbnpbaa
open Go.RowKit Go.Lib Cod
set_option maxRecDepth 100000
set_option linter.unusedVariables false
set_option linter.unusedSimpArgs false
theorem below_drewN {w : World} (k : Nat) : Below w.heap.size w (w.drewN k) := by
  first | exact (Below.refl _ w).drewN k | exact ⟨rfl, rfl, rfl, Nat.le_refl _, fun _ _ => rfl⟩ | (constructor <;> first | rfl | exact Nat.le_refl _ | (intros; rfl))
theorem put_no (v : Pv) (p : Pg) (xa : Option Addr) (xn xc : Nat) (key : List Nat) (ya : Option Addr) (yn yc : Nat) (val : List Nat) (w : World) (h : IsG w v p) (hc : FewP v) (hk : IsB w xa xn xc key) (hv : IsB w ya yn yc val) (hn : ¬ (putR p key val).2 = 0) :
    Calls Try.prog 25 #[.agg (pgc p.leaf v), .slice xa xn xc, .slice ya yn yc] w fun e w' => ∃ v' c, e = .returned (.tuple #[.agg (pgc false v'), .int .i64 c]) ∧ ¬ c = 0 ∧ v'.kn = 0 ∧ Below w.heap.size w w' := by
  refine (put_any v p xa xn xc key ya yn yc val w h hc hk hv).mono ?_
  rintro e w' ⟨v', rfl, hN, hb⟩
  have e0 := putR_no hn
  rw [e0] at hN ⊢
  exact ⟨v', _, rfl, hn, hN.keys.is.1.symm, hb⟩
theorem put_yes (v : Pv) (p : Pg) (xa : Option Addr) (xn xc : Nat) (key : List Nat) (ya : Option Addr) (yn yc : Nat) (val : List Nat) (w : World) (h : IsG w v p) (hc : FewP v) (hk : IsB w xa xn xc key) (hv : IsB w ya yn yc val) {a : Pg} (he : putR p key val = (a, 0)) (hl : a.leaf = true) (hch : checkE a = 0) :
    Calls Try.prog 25 #[.agg (pgc p.leaf v), .slice xa xn xc, .slice ya yn yc] w fun e w' => ∃ v', e = .returned (.tuple #[.agg (pgc true v'), .int .i64 0]) ∧ NwG w' (w.heap.size + 1) v' a ∧ FewP v' ∧ Below w.heap.size w w' := by
  refine (put_any v p xa xn xc key ya yn yc val w h hc hk hv).mono ?_
  rintro e w' ⟨v', rfl, hN, hb⟩
  rw [he] at hN ⊢
  dsimp only at hN ⊢
  rw [hl]
  have hf := check_few hch
  exact ⟨v', rfl, hN, ⟨by rw [← hN.keys.is.1]; omega, by rw [← hN.vals.is.1]; omega, by rw [← hN.kids.1]; omega⟩, hb⟩
theorem cut_yes (v : Pv) (p : Pg) (xa : Option Addr) (xn xc : Nat) (key : List Nat) (w : World) (h : IsG w v p) (hc : FewP v) (hk : IsB w xa xn xc key) {b : Pg} {x : Bool} (he : cutR p key = (b, x, 0)) (hl : b.leaf = true) (hch : checkE b = 0) :
    Calls Try.prog 27 #[.agg (pgc p.leaf v), .slice xa xn xc] w fun e w' => ∃ v', e = .returned (.tuple #[.agg (pgc true v'), .bool x, .int .i64 0]) ∧ NwG w' (w.heap.size + 1) v' b ∧ FewP v' ∧ Below w.heap.size w w' := by
  refine (cut_any v p xa xn xc key w h hc hk).mono ?_
  rintro e w' ⟨v', rfl, hN, hb⟩
  rw [he] at hN ⊢
  dsimp only at hN ⊢
  rw [hl]
  have hf := check_few hch
  exact ⟨v', rfl, hN, ⟨by rw [← hN.keys.is.1]; omega, by rw [← hN.vals.is.1]; omega, by rw [← hN.kids.1]; omega⟩, hb⟩
theorem find_yes (v : Pv) (p : Pg) (xa : Option Addr) (xn xc : Nat) (key : List Nat) (w : World) (h : IsG w v p) (hc : FewP v) (hk : IsB w xa xn xc key) {n : Nat} {x : Bool} (he : findR p key = (n, x, 0)) (hl : p.leaf = true) :
    Calls Try.prog 23 #[.agg (pgc true v), .slice xa xn xc] w fun e w' => e = .returned (.tuple #[.int .i64 (n : Nat), .bool x, .int .i64 0]) ∧ Below w.heap.size w w' := by
  have := find_any v p xa xn xc key w h hc hk
  rw [he, hl] at this
  exact this
set_option maxHeartbeats 4000000 in
theorem found_no (v : Pv) (p : Pg) (xa : Option Addr) (xn xc : Nat) (key : List Nat) (ya : Option Addr) (yn yc : Nat) (val : List Nat) (za : Option Addr) (zn zc : Nat) (w : World) (h : IsG w v p) (hc : FewP v) (hk : IsB w xa xn xc key) (hv : IsB w ya yn yc val) (hn : ¬ (putR p key val).2 = 0) :
    Calls Try.prog 8 #[.agg (pgc p.leaf v), .slice xa xn xc, .slice ya yn yc, .slice za zn zc] w fun e w' => e = .returned (.bool true) ∧ Below w.heap.size w w' := by
  obtain ⟨V0, hV0⟩ : ∃ V0, V0 = w.alloc (.cells (pgc p.leaf v) 25) := ⟨_, rfl⟩
  have HB0 : Hid (Below w.heap.size w V0) := hide (by rw [hV0]; exact (Below.refl _ w).alloc (Nat.le_refl _) _)
  have HX0 : Hid (V0.heap[w.heap.size]? = some (.cells (pgc p.leaf v) 25 (0, 0))) := hide (by rw [hV0, heap_alloc_new])
  have HP0 := hide (fun (W : World) (hW : Below w.heap.size w W) => put_no v p xa xn xc key ya yn yc val W (h.below hW) hc (hk.below hW) (hv.below hW) hn)
  clear h hc hk hv hn
  generalize p.leaf = lf at *
  go_enter Try.func8, Try.ntmps8
  go_wp2_with fail
  rw [← hV0]
  clear hV0
  refine (lives_any V0).mono ?_
  rintro e w1 ⟨rfl, hb1⟩
  have HB1 : Hid (Below w.heap.size w w1) := hide (HB0.out.trans (hb1.mono HB0.out.size))
  have HX1 : Hid (w1.heap[w.heap.size]? = some (.cells (pgc lf v) 25 (0, 0))) := hide ((hb1.block _ (heap_ltN HX0.out)).trans HX0.out)
  have HP := hide (HP0.out w1 HB1.out)
  clear HP0 hb1 HX0 HB0
  obtain ⟨q0, q1, q2, q3⟩ := BlkG.cells HX1.out
  go_wp2_with fail
  refine HP.out.mono ?_
  rintro e w2 ⟨v2, c, rfl, hc0, hk0, hb2⟩
  obtain ⟨ka2, kn2, kc2, va2, vn2, vc2, ia2, in2, ic2⟩ := v2
  dsimp only at hk0
  subst hk0
  have HBF : Hid (Below w.heap.size w (w2.alloc (.cells (pgc false ⟨ka2, 0, kc2, va2, vn2, vc2, ia2, in2, ic2⟩) 25))) := hide (by have := HB1.out.trans (hb2.mono HB1.out.size); exact this.alloc this.size _)
  have hc1 : (c == (0 : Int)) = false := by simpa using hc0
  have hc2 : (c != (0 : Int)) = true := by simpa using hc0
  clear q0 q1 q2 q3 hb2 HP
  go_wp2
  go_ret
  exact ⟨rfl, HBF.out⟩
set_option maxHeartbeats 8000000 in
theorem found_yes (v : Pv) (p : Pg) (xa : Option Addr) (xn xc : Nat) (key : List Nat) (ya : Option Addr) (yn yc : Nat) (val : List Nat) (za : Option Addr) (zn zc : Nat) (oth : List Nat) (w : World) (h : IsG w v p) (hc : FewP v) (hk : IsB w xa xn xc key) (hv : IsB w ya yn yc val) (ho : IsB w za zn zc oth) {a b : Pg} (he : putR p key val = (a, 0)) (hlp : p.leaf = true) (hF : FoundP p a b key val) :
    Calls Try.prog 8 #[.agg (pgc true v), .slice xa xn xc, .slice ya yn yc, .slice za zn zc] w fun e w' => e = .returned (.bool true) ∧ Below w.heap.size w w' := by
  obtain ⟨V0, hV0⟩ : ∃ V0, V0 = w.alloc (.cells (pgc true v) 25) := ⟨_, rfl⟩
  have HB0 : Hid (Below w.heap.size w V0) := hide (by rw [hV0]; exact (Below.refl _ w).alloc (Nat.le_refl _) _)
  have HX0 : Hid (V0.heap[w.heap.size]? = some (.cells (pgc true v) 25 (0, 0))) := hide (by rw [hV0, heap_alloc_new])
  have HG := hide h
  have HC := hide hc
  have HK := hide hk
  have HV := hide hv
  have HO := hide ho
  have HLP := hide hlp
  have HF := hide hF
  have HP0 := hide (fun (W : World) (hW : Below w.heap.size w W) => put_yes v p xa xn xc key ya yn yc val W (h.below hW) hc (hk.below hW) (hv.below hW) he hF.aleaf hF.ach)
  simp only [hlp] at HP0
  clear h hc hk hv ho he hlp hF
  go_enter Try.func8, Try.ntmps8
  go_wp2_with fail
  rw [← hV0]
  clear hV0
  refine (lives_any V0).mono ?_
  rintro e w1 ⟨rfl, hb1⟩
  have HB1 : Hid (Below w.heap.size w w1) := hide (HB0.out.trans (hb1.mono HB0.out.size))
  have HX1 : Hid (w1.heap[w.heap.size]? = some (.cells (pgc true v) 25 (0, 0))) := hide ((hb1.block _ (heap_ltN HX0.out)).trans HX0.out)
  have HP := hide (HP0.out w1 HB1.out)
  clear HP0 hb1 HX0 HB0
  obtain ⟨q0, q1, q2, q3⟩ := BlkG.cells HX1.out
  go_wp2_with fail
  refine HP.out.mono ?_
  rintro e w2 ⟨v2, rfl, hN2, hf2, hb2⟩
  obtain ⟨n, hn0, hn1, hn2⟩ := HF.out.afind
  have HVN : Hid (n < v2.vn) := hide (by rw [← hN2.vals.is.1]; exact hn1)
  obtain ⟨eb, eo, ea, en, ec, hva, helt, hecl, heB⟩ := hN2.is.vals.2.2.2.2 n HVN.out
  rw [hn2] at heB
  obtain ⟨ka2, kn2, kc2, va2, vn2, vc2, ia2, in2, ic2⟩ := v2
  dsimp only at hva HVN
  subst hva
  obtain ⟨V2, hV2⟩ : ∃ V2, V2 = w2.alloc (.cells (pgc true ⟨ka2, kn2, kc2, some ⟨eb, eo, none⟩, vn2, vc2, ia2, in2, ic2⟩) 25) := ⟨_, rfl⟩
  have hbv : Below w2.heap.size w2 V2 := by rw [hV2]; exact (Below.refl _ w2).alloc (Nat.le_refl _) _
  have hb12 := HB1.out.trans (hb2.mono HB1.out.size)
  have HB2 : Hid (Below w.heap.size w V2) := hide (hb12.trans (hbv.mono hb12.size))
  have HX2 : Hid (V2.heap[w.heap.size]? = some (.cells (pgc true v) 25 (0, 0))) := hide ((hbv.block _ (Nat.lt_of_lt_of_le (heap_ltN HX1.out) hb2.size)).trans ((hb2.block _ (heap_ltN HX1.out)).trans HX1.out))
  have HY2 : Hid (V2.heap[w2.heap.size]? = some (.cells (pgc true ⟨ka2, kn2, kc2, some ⟨eb, eo, none⟩, vn2, vc2, ia2, in2, ic2⟩) 25 (0, 0))) := hide (by rw [hV2, heap_alloc_new])
  have HA2 := hide (hN2.is.below hbv)
  have HFW2 := hide hf2
  have HEC2 : Hid (eb < V2.heap.size ∧ V2.cell? ⟨eb, eo + n, none⟩ = some (.slice ea en ec)) := hide ⟨Nat.lt_of_lt_of_le helt hbv.size, (World.cell?_of_block (hbv.block eb helt)).trans hecl⟩
  have HEB2 := hide (heB.below hbv)
  have HN0 := hide hn0
  have HKN : Hid (b.keys.length + 1 = kn2) := hide (by have := hN2.is.keys.1; dsimp only at this; rw [← this]; exact HF.out.lens)
  have HFI := hide (find_yes _ a xa xn xc key V2 HA2.out hf2 (HK.out.below HB2.out) hn0 HF.out.aleaf)
  clear q0 q1 q2 q3 hb2 HP hN2 hf2 hn0 hn1 hn2 helt hecl heB hbv hb12 HX1 HB1
  obtain ⟨r0, r1, r2, r3⟩ := BlkG.cells HY2.out
  try dsimp only at r0 r1 r2 r3 HFI HY2
  go_wp2_with fail
  rw [← hV2]
  clear hV2
  refine HFI.out.mono ?_
  rintro e w3 ⟨rfl, hb3⟩
  have HB3 : Hid (Below w.heap.size w w3) := hide (HB2.out.trans (hb3.mono HB2.out.size))
  have HX3 : Hid (w3.heap[w.heap.size]? = some (.cells (pgc true v) 25 (0, 0))) := hide ((hb3.block _ (heap_ltN HX2.out)).trans HX2.out)
  have HY3 : Hid (w3.heap[w2.heap.size]? = some (.cells (pgc true ⟨ka2, kn2, kc2, some ⟨eb, eo, none⟩, vn2, vc2, ia2, in2, ic2⟩) 25 (0, 0))) := hide ((hb3.block _ (heap_ltN HY2.out)).trans HY2.out)
  have HA3 := hide (HA2.out.below hb3)
  have hec3 : w3.cell? ⟨eb, eo + n, none⟩ = some (.slice ea en ec) := (World.cell?_of_block (hb3.block eb HEC2.out.1)).trans HEC2.out.2
  have HEB3 := hide (HEB2.out.below hb3)
  have hcv1 : ∀ k, (convert 26 9 (.slice ea en ec)).run Try.prog (w3.drewN k) = .ok (.string (str val)) (w3.drewN k) := fun k => conv_str (HEB3.out.below (below_drewN k))
  have hcv2 : ∀ k, (convert 26 9 (.slice ya yn yc)).run Try.prog (w3.drewN k) = .ok (.string (str val)) (w3.drewN k) := fun k => conv_str ((HV.out.below HB3.out).below (below_drewN k))
  clear hb3 HFI HX2 HY2 HA2 HEC2 HEB2 HB2 r0 r1 r2 r3
  obtain ⟨r0, r1, r2, r3⟩ := BlkG.cells HY3.out
  try dsimp only at r0 r1 r2 r3
  have hd1 : decide ((vn2 : Int) ≤ (n : Int)) = false := decide_eq_false (by have := HVN.out; omega)
  have hd2 : n < vn2 := HVN.out
  have hd4 : decide (vn2 ≤ n) = false := decide_eq_false (by have := HVN.out; omega)
  have hd3 : decide ((n : Int) < 0) = false := decide_eq_false (by omega)
  have hst : ((str val).toList == (str val).toList) = true := by simp
  go_wp2
  go_quiet (fail)
  clear hcv1 hcv2 hec3 HEB3 hd1 hd2 hd3 hst HVN
  try rw [hd4]
  obtain ⟨V3, hV3⟩ : ∃ V3, V3 = w3.drewN nq := ⟨_, rfl⟩
  have hb4 : Below w3.heap.size w3 V3 := by rw [hV3]; exact below_drewN nq
  rw [← hV3]
  have HB4 : Hid (Below w.heap.size w V3) := hide (HB3.out.trans (hb4.mono HB3.out.size))
  have HX4 : Hid (V3.heap[w.heap.size]? = some (.cells (pgc true v) 25 (0, 0))) := hide ((hb4.block _ (heap_ltN HX3.out)).trans HX3.out)
  have HY4 : Hid (V3.heap[w2.heap.size]? = some (.cells (pgc true ⟨ka2, kn2, kc2, some ⟨eb, eo, none⟩, vn2, vc2, ia2, in2, ic2⟩) 25 (0, 0))) := hide ((hb4.block _ (heap_ltN HY3.out)).trans HY3.out)
  have HCU := hide (cut_yes _ a xa xn xc key V3 (HA3.out.below hb4) HFW2.out (HK.out.below HB4.out) HF.out.cut HF.out.bleaf HF.out.bch)
  rw [HF.out.aleaf] at HCU
  clear hV3 hb4 HX3 HY3 HA3 HB3 r0 r1 r2 r3
  obtain ⟨r0, r1, r2, r3⟩ := BlkG.cells HY4.out
  try dsimp only at r0 r1 r2 r3 HCU
  go_wp2_with fail
  refine HCU.out.mono ?_
  rintro e w4 ⟨v4, rfl, hN4, hf4, hb5⟩
  obtain ⟨V4, hV4⟩ : ∃ V4, V4 = w4.alloc (.cells (pgc true v4) 25) := ⟨_, rfl⟩
  have hbv : Below w4.heap.size w4 V4 := by rw [hV4]; exact (Below.refl _ w4).alloc (Nat.le_refl _) _
  have hb5v : Below V3.heap.size V3 V4 := hb5.trans (hbv.mono hb5.size)
  have HB5 : Hid (Below w.heap.size w V4) := hide (HB4.out.trans (hb5v.mono HB4.out.size))
  have HX5 : Hid (V4.heap[w.heap.size]? = some (.cells (pgc true v) 25 (0, 0))) := hide ((hb5v.block _ (heap_ltN HX4.out)).trans HX4.out)
  have HY5 : Hid (V4.heap[w2.heap.size]? = some (.cells (pgc true ⟨ka2, kn2, kc2, some ⟨eb, eo, none⟩, vn2, vc2, ia2, in2, ic2⟩) 25 (0, 0))) := hide ((hb5v.block _ (heap_ltN HY4.out)).trans HY4.out)
  have HZ5 : Hid (V4.heap[w4.heap.size]? = some (.cells (pgc true v4) 25 (0, 0))) := hide (by rw [hV4, heap_alloc_new])
  have HA5 := hide (hN4.is.below hbv)
  have HFW4 := hide hf4
  obtain ⟨m, hm⟩ := HF.out.bfind
  have HFI := hide (find_yes v4 b xa xn xc key V4 HA5.out hf4 (HK.out.below HB5.out) hm HF.out.bleaf)
  clear hN4 hf4 hb5 hbv hb5v HCU HX4 HY4 HB4 hm r0 r1 r2 r3
  obtain ⟨r0, r1, r2, r3⟩ := BlkG.cells HZ5.out
  go_wp2_with fail
  rw [← hV4]
  clear hV4
  refine HFI.out.mono ?_
  rintro e w5 ⟨rfl, hb6⟩
  have HB6 : Hid (Below w.heap.size w w5) := hide (HB5.out.trans (hb6.mono HB5.out.size))
  have HX6 : Hid (w5.heap[w.heap.size]? = some (.cells (pgc true v) 25 (0, 0))) := hide ((hb6.block _ (heap_ltN HX5.out)).trans HX5.out)
  have HY6 : Hid (w5.heap[w2.heap.size]? = some (.cells (pgc true ⟨ka2, kn2, kc2, some ⟨eb, eo, none⟩, vn2, vc2, ia2, in2, ic2⟩) 25 (0, 0))) := hide ((hb6.block _ (heap_ltN HY5.out)).trans HY5.out)
  have HZ6 : Hid (w5.heap[w4.heap.size]? = some (.cells (pgc true v4) 25 (0, 0))) := hide ((hb6.block _ (heap_ltN HZ5.out)).trans HZ5.out)
  have HA6 := hide (HA5.out.below hb6)
  clear hb6 HFI HX5 HY5 HZ5 HA5 HB5 r0 r1 r2 r3
  obtain ⟨r0, r1, r2, r3⟩ := BlkG.cells HZ6.out
  obtain ⟨s0, s1, s2, s3⟩ := BlkG.cells HY6.out
  try dsimp only at s0 s1 s2 s3
  have HK4 : Hid (v4.kn + 1 = kn2 ∧ v4.kn ≤ 2000000) := hide ⟨by rw [← HA6.out.keys.1]; exact HKN.out, HFW4.out.1⟩
  have hwr : IntKind.i64.wrap ((kn2 : Int) - 1) = (v4.kn : Int) := by
    have := HK4.out
    rw [show (kn2 : Int) - 1 = (v4.kn : Int) by omega]
    exact wrapN (by omega) (by omega)
  have hcv1 : (convert 26 9 (.slice za zn zc)).run Try.prog w5 = .ok (.string (str oth)) w5 := conv_str (HO.out.below HB6.out)
  have hcv2 : (convert 26 9 (.slice xa xn xc)).run Try.prog w5 = .ok (.string (str key)) w5 := conv_str (HK.out.below HB6.out)
  by_cases hok : oth = key
  · have hst : ((str oth).toList == (str key).toList) = true := by rw [hok]; simp
    go_wp2
    go_ret
    exact ⟨rfl, HB6.out⟩
  · have hst : ((str oth).toList == (str key).toList) = false := by
      have := str_eq HO.out.2.2.2.1 HK.out.2.2.2.1
      rw [decide_eq_false hok] at this
      exact this
    obtain ⟨i, j, x, hfi, hfj, hx⟩ := HF.out.rest oth hok
    have HI := hide (find_yes v p za zn zc oth w5 (HG.out.below HB6.out) HC.out (HO.out.below HB6.out) hfi HLP.out)
    have HFJ := hide hfj
    have HXX := hide hx
    obtain ⟨t0, t1, t2, t3⟩ := BlkG.cells HX6.out
    clear hok hfi hfj hx
    go_wp2_with fail
    refine HI.out.mono ?_
    rintro e w6 ⟨rfl, hb7⟩
    have HB7 : Hid (Below w.heap.size w w6) := hide (HB6.out.trans (hb7.mono HB6.out.size))
    have HX7 : Hid (w6.heap[w.heap.size]? = some (.cells (pgc true v) 25 (0, 0))) := hide ((hb7.block _ (heap_ltN HX6.out)).trans HX6.out)
    have HZ7 : Hid (w6.heap[w4.heap.size]? = some (.cells (pgc true v4) 25 (0, 0))) := hide ((hb7.block _ (heap_ltN HZ6.out)).trans HZ6.out)
    have HA7 := hide (HA6.out.below hb7)
    have HJ := hide (find_yes v4 b za zn zc oth w6 HA7.out HFW4.out (HO.out.below HB7.out) HFJ.out HF.out.bleaf)
    clear hb7 HI HX6 HY6 HZ6 HA6 HB6 hcv1 hcv2 hst hwr HFJ r0 r1 r2 r3 s0 s1 s2 s3 t0 t1 t2 t3
    obtain ⟨r0, r1, r2, r3⟩ := BlkG.cells HZ7.out
    go_wp2_with fail
    refine HJ.out.mono ?_
    rintro e w7 ⟨rfl, hb8⟩
    have HB8 : Hid (Below w.heap.size w w7) := hide (HB7.out.trans (hb8.mono HB7.out.size))
    have HX8 : Hid (w7.heap[w.heap.size]? = some (.cells (pgc true v) 25 (0, 0))) := hide ((hb8.block _ (heap_ltN HX7.out)).trans HX7.out)
    have HZ8 : Hid (w7.heap[w4.heap.size]? = some (.cells (pgc true v4) 25 (0, 0))) := hide ((hb8.block _ (heap_ltN HZ7.out)).trans HZ7.out)
    have HA8 := hide (HA7.out.below hb8)
    clear hb8 HJ HX7 HZ7 HA7 HB7 r0 r1 r2 r3
    obtain ⟨r0, r1, r2, r3⟩ := BlkG.cells HZ8.out
    obtain ⟨t0, t1, t2, t3⟩ := BlkG.cells HX8.out
    cases x with
    | false =>
      go_wp2
      go_quiet (fail)
      go_wp2
      go_ret
      exact ⟨rfl, HB8.out.trans ((below_drewN nq).mono HB8.out.size)⟩
    | true =>
      obtain ⟨hi1, hj1, hij⟩ := HXX.out rfl
      have hi2 : i < v.vn := by rw [← HG.out.vals.1]; exact hi1
      have hj2 : j < v4.vn := by rw [← HA8.out.vals.1]; exact hj1
      obtain ⟨fb, fo, fa, fn, fc, hfa, hflt, hfcl, hfB⟩ := (HG.out.below HB8.out).vals.2.2.2.2 i hi2
      obtain ⟨gb, go', ga, gn, gc, hga, hglt, hgcl, hgB⟩ := HA8.out.vals.2.2.2.2 j hj2
      rw [hij] at hfB
      generalize b.vals.getD j [] = bj at *
      rw [hfa] at t2
      rw [hga] at r2
      have hcv1 : ∀ k, (convert 26 9 (.slice fa fn fc)).run Try.prog (w7.drewN k) = .ok (.string (str bj)) (w7.drewN k) := fun k => conv_str (hfB.below (below_drewN k))
      have hcv2 : ∀ k, (convert 26 9 (.slice ga gn gc)).run Try.prog (w7.drewN k) = .ok (.string (str bj)) (w7.drewN k) := fun k => conv_str (hgB.below (below_drewN k))
      have hd1 : decide ((i : Int) < (v.vn : Int)) = true := decide_eq_true (by omega)
      have hd2 : decide ((j : Int) < (v4.vn : Int)) = true := decide_eq_true (by omega)
      have hd3 : decide (i < v.vn) = true := decide_eq_true (by omega)
      have hd4 : decide (j < v4.vn) = true := decide_eq_true (by omega)
      have hst : ((str bj).toList == (str bj).toList) = true := by simp
      clear HXX hi1 hj1 hij hfB hgB
      go_wp2
      go_quiet (fail)
      go_wp2
      go_ret
      exact ⟨rfl, HB8.out.trans ((below_drewN nq).mono HB8.out.size)⟩
theorem found_any (v : Pv) (p : Pg) (xa : Option Addr) (xn xc : Nat) (key : List Nat) (ya : Option Addr) (yn yc : Nat) (val : List Nat) (za : Option Addr) (zn zc : Nat) (oth : List Nat) (w : World) (h : IsG w v p) (hc : FewP v) (hk : IsB w xa xn xc key) (hv : IsB w ya yn yc val) (ho : IsB w za zn zc oth) :
    Calls Try.prog 8 #[.agg (pgc p.leaf v), .slice xa xn xc, .slice ya yn yc, .slice za zn zc] w fun e w' => e = .returned (.bool true) ∧ Below w.heap.size w w' := by
  by_cases hz : (putR p key val).2 = 0
  · obtain ⟨h0, h1, he⟩ := putR_ok hz
    obtain ⟨b, hF⟩ := found_pure h0 h1
    obtain ⟨_, hl⟩ := leafE_0 h0
    rw [hl]
    exact found_yes v p xa xn xc key ya yn yc val za zn zc oth w h hc hk hv ho he hl hF
  · exact found_no v p xa xn xc key ya yn yc val za zn zc w h hc hk hv hz
end Go.Proofs.Ytebikoekpbnpbaa
