/- EventsApart: the walk -/
import Derived.Test.YtggbaanoagbmdaaAa
namespace Go.Proofs.Ytggbaanoagbmdaa
open Go.RowKit Go.Maps Go.Sort
theorem apF1 (ii : Nat) : decide ((ii : Int) + 1 < 1) = false := decide_eq_false (by omega)
theorem apF2 {ii len : Nat} (h : ii < len) : decide ((len : Int) < (ii : Int) + 1) = false := decide_eq_false (by omega)
theorem apF3 {j zn : Nat} (h : j < zn) : (j : Int) < (zn : Int) := by omega
theorem apF4 (j : Nat) : (0 : Int) ≤ (j : Int) := by omega
theorem apF5 {j zn len : Nat} (h : j < zn) (h' : zn ≤ len) (h2 : len ≤ 16384) : IntKind.i64.wrap ((j : Int) + 1) = (j : Int) + 1 := wrap_nat _ (by omega)
theorem apF6 {ii len : Nat} (h : ii < len) (h2 : len ≤ 16384) : IntKind.i64.wrap ((ii : Int) + 1 - 1) = (ii : Int) := by simp [IntKind.wrap, IntKind.bits, IntKind.signed]; omega
theorem apF7 {ii len : Nat} (h : ii < len) (h2 : len ≤ 16384) : IntKind.i64.wrap (ii : Int) = (ii : Int) := by simp [IntKind.wrap, IntKind.bits, IntKind.signed]; omega
set_option maxRecDepth 40000 in
set_option maxHeartbeats 2000000 in
/-- EventsApart -/
theorem law_apart (a : Option Addr) (len cap : Nat) (l : List Ev) (s o : ByteArray) (b : Option Addr) (dl dc : Nat) (data : List ByteArray) (w : World) (h : IsE w a len cap l) (hs : s.size ≤ maxLen) (hd : IsT w b dl dc data) (hdl : dl ≤ 140737488355328) :
    Calls Try.prog 6 #[.slice a len cap, .string s, .string o, .slice b dl dc] w fun e w' => e = .returned (.bool true) ∧ Below w.heap.size w w' := by
  have HV := hide h
  have HLN := hide h.1
  have hcap := h.2.1
  have hcm : cap ≤ 9223372036854775807 := h.2.2.1
  have HD := hide hd
  have HSD := hide (And.intro hs hdl)
  have hq := @equal41
  have hqg := @eqg41
  clear h hd hs hdl
  go_enter Try.func6, Try.ntmps6
  go_wp2_with fail
  refine (lives_any w).mono ?_
  rintro e w1 ⟨rfl, hb1⟩
  have HB1 := hide hb1
  clear hb1
  have C1 := hide (streams_any a len cap l w1 (HV.out.below' HB1.out))
  go_wp2_with fail
  refine C1.out.mono ?_
  rintro e w2 ⟨v, r, rfl, hN, hrow, hb2⟩
  have HB2 : Hid (Below w.heap.size w w2) := hide (HB1.out.trans (hb2.mono HB1.out.size))
  clear hb2 C1 HB1
  cases hg : goodB l
  case false =>
    unfold Nm at hN
    rw [hg, if_neg (by simp)] at hN
    subst hN
    rw [show checkE l = 2 from by unfold checkE; rw [hg]; rfl]
    obtain ⟨a2, c2, rfl⟩ := own_form hrow
    clear hrow hg
    rw [show ([] : List (List UInt8)).length = 0 from rfl]
    go_wp2
    go_ret
    exact ⟨rfl, HB2.out⟩
  case true =>
    have HG := hide hg
    have HLS : Hid (len ≤ 16384) := hide (by rw [← HLN.out]; exact good_len hg)
    have hls : len ≤ 16384 := HLS.out
    unfold Nm at hN
    rw [if_pos hg] at hN
    have HNB := hide (namesB_of hN)
    rw [bys_enc, show r.length = (bys r).length from by simp [bys]] at hrow
    rw [show checkE l = 0 from by unfold checkE; rw [hg]; rfl]
    generalize bys r = T at *
    clear hN hg
    obtain ⟨a2, c2, rfl, hT⟩ := own_isT (w := w2) (v := v) (T := T) (n := T.length) rfl (fun x hx => by
      obtain ⟨y, hy, rfl⟩ := (HNB.out.2 x).1 hx
      exact (HV.out.2.2.2.1 y hy).1) hrow
    have HT := hide hT
    have HCA : Hid (cov l T T.length = len) := hide (by rw [cov_all HNB.out, HLN.out])
    obtain ⟨tn, htn⟩ : ∃ tn, T.length = tn := ⟨_, rfl⟩
    rw [htn] at HT HCA ⊢
    have HTN := hide htn
    have htc := HT.out.2.1
    have htm : c2 ≤ 9223372036854775807 := HT.out.2.2.1
    clear hrow hT htn
    have HSZ : Hid (w.heap.size ≤ w2.heap.size) := hide HB2.out.size
    go_wp2
    go_loopw [11, 38] (fun mv iv wr => ∃ i : Nat, i ≤ tn ∧ iv = .int .i64 i ∧ mv = .int .i64 ((cov l T i : Nat) : Int) ∧ Hid (Below w.heap.size w wr ∧ Below w2.heap.size w2 wr)) (fun _ iv _ => tn - (intOf iv).toNat)
    case atStart => exact ⟨0, Nat.zero_le _, rfl, by rw [cov_zero]; rfl, hide ⟨HB2.out, Below.refl _ _⟩⟩
    case round =>
      obtain ⟨i, hi, rfl, rfl, HB⟩ := hrel
      by_cases hlt : i < tn
      case neg =>
        obtain rfl : i = tn := by omega
        rw [HCA.out]
        have C2 := hide (append_any a len cap l s (-1) b0 b dl dc data wr (HV.out.below' HB.out.1) (HD.out.below' HB.out.1) HSD.out.1 (by decide) HSD.out.2)
        go_wp2_with fail
        refine C2.out.mono ?_
        rintro e w3 ⟨a3, c3, rfl, hI3, hb3⟩
        have HI3 := hide hI3
        have HB3 : Hid (Below w.heap.size w w3) := hide (HB.out.1.trans (hb3.mono HB.out.1.size))
        clear hI3 hb3 C2
        by_cases hok : (appR l s (-1) b0 data).2.2 = 0
        case neg =>
          generalize (appR l s (-1) b0 data).2.2 = er at *
          have hb : (er == 0) = false := by simpa using hok
          have hdd : decide (er = 0) = false := decide_eq_false hok
          go_wp2
          go_ret
          exact ⟨rfl, HB3.out⟩
        case pos =>
          rw [hok]
          by_cases hos : o = s
          case pos =>
            have hqs : (o.toList == s.toList) = true := by rw [hos]; simp
            clear hos
            go_wp2
            go_ret
            exact ⟨rfl, HB3.out⟩
          case neg =>
            have hqs : (o.toList == s.toList) = false := by
              simp only [beq_eq_false_iff_ne, ne_eq]
              exact fun e => hos (str_inj e)
            obtain ⟨n, hn, hA, hAl, _⟩ := app_parts hok
            have HGA := hide (app_good hok)
            have HAF : Hid ((appR l s (-1) b0 data).1.filter (isOf o) = l.filter (isOf o)) := hide (by rw [hA]; exact apart_filter hos)
            clear hn hA hAl hos hok
            generalize appR l s (-1) b0 data = A at *
            obtain ⟨Al, An, Ae⟩ := A
            dsimp only at *
            have C4 := hide (read_any a len cap l o 1 16384 w3 (HV.out.below' HB3.out))
            rw [read_all HG.out o] at C4
            go_wp2_with fail
            refine C4.out.mono ?_
            rintro e w4 ⟨a4, c4, rfl, hI4, hb4⟩
            dsimp only at hI4 ⊢
            have HI4 := hide hI4
            have HI3' : Hid (IsE w4 a3 Al.length c3 Al) := hide (HI3.out.below' hb4)
            have HB4 : Hid (Below w.heap.size w w4) := hide (HB3.out.trans (hb4.mono HB3.out.size))
            clear hI4 hb4 C4 HI3
            have C5 := hide (read_any a3 Al.length c3 Al o 1 16384 w4 HI3'.out)
            rw [read_all HGA.out o, HAF.out] at C5
            go_wp2_with fail
            refine C5.out.mono ?_
            rintro e w5 ⟨a5, c5, rfl, hI5, hb5⟩
            dsimp only at hI5 ⊢
            have HB5 : Hid (Below w.heap.size w w5) := hide (HB4.out.trans (hb5.mono HB4.out.size))
            have C6 := hide (same_any a4 (l.filter (isOf o)).length c4 (l.filter (isOf o)) a5 (l.filter (isOf o)).length c5 (l.filter (isOf o)) w5 (HI4.out.below' hb5) hI5)
            clear hI5 hb5 C5 HAF
            generalize l.filter (isOf o) = zo at *
            generalize zo.length = zn at *
            go_wp2_with fail
            refine C6.out.mono ?_
            rintro e w6 ⟨⟨r, rfl, hr⟩, hb6⟩
            obtain rfl : r = true := by simpa using hr
            have HB6 : Hid (Below w.heap.size w w6) := hide (HB5.out.trans (hb6.mono HB5.out.size))
            clear hb6 hr C6
            go_wp2
            go_ret
            exact ⟨rfl, HB6.out⟩
      case pos =>
        obtain ⟨bt, ot, rfl, hbt, zt⟩ := (HT.out.below' HB.out.2).2.2.2.2 i hlt
        have HIN : Hid (T.getD i ⟨#[]⟩ ∈ T) := hide (by rw [List.getD_eq_getElem?_getD, List.getElem?_eq_getElem (by rw [HTN.out]; exact hlt)]; simp)
        have HCS : Hid (cov l T (i + 1) = cov l T i + (l.filter (isOf (T.getD i ⟨#[]⟩))).length) := hide (cov_succ HNB.out (by rw [HTN.out]; exact hlt))
        have HCL := hide (cov_le l T i)
        have HPR : Hid (0 < i → ∃ p, wr.cell? ⟨bt, ot + (i - 1), none⟩ = some (.string p) ∧ Op.bytesLess p.toList (T.getD i ⟨#[]⟩).toList = true ∧ ∀ W, Below w2.heap.size w2 W → W.cell? ⟨bt, ot + (i - 1), none⟩ = some (.string p)) := hide (fun h0 => by
          refine ⟨T.getD (i - 1) ⟨#[]⟩, ?_, ?_, ?_⟩
          · obtain ⟨bt', ot', e, _, z⟩ := (HT.out.below' HB.out.2).2.2.2.2 (i - 1) (by omega)
            cases e; exact z
          · rw [bytesLess_eq]
            refine decide_eq_true ?_
            have hl := HTN.out
            rw [List.getD_eq_getElem?_getD, List.getElem?_eq_getElem (by omega), List.getD_eq_getElem?_getD, List.getElem?_eq_getElem (by omega)]
            exact List.pairwise_iff_getElem.1 HNB.out.1 (i - 1) i (by omega) (by omega) (by omega)
          · intro W hW
            obtain ⟨bt', ot', e, _, z⟩ := (HT.out.below' hW).2.2.2.2 (i - 1) (by omega)
            cases e; exact z)
        generalize hx : T.getD i ⟨#[]⟩ = x at *
        clear hx
        have C2 := hide (read_any a len cap l x 1 16384 wr (HV.out.below' HB.out.1))
        rw [read_all HG.out x] at C2
        have HZP : Hid (0 < (l.filter (isOf x)).length) := hide (by
          obtain ⟨e, he, h1⟩ := (HNB.out.2 x).1 HIN.out
          exact List.length_pos_of_mem (List.mem_filter.2 ⟨he, by rw [← h1]; exact isOf_self e⟩))
        have HZL : Hid ((l.filter (isOf x)).length ≤ len) := hide (by rw [← HLN.out]; exact List.length_filter_le _ _)
        have HSA := hide (fun j (hj : j < (l.filter (isOf x)).length) => stream_at HG.out x hj)
        have hi0 : (0 : Int) ≤ (i : Int) := by omega
        have hit : (i : Int) < (tn : Int) := by omega
        go_wp2_with fail
        refine C2.out.mono ?_
        rintro e w3 ⟨a3, c3, rfl, hI3, hb3⟩
        dsimp only at hI3 ⊢
        have HI3 := hide hI3
        have HB3 : Hid (Below w.heap.size w w3 ∧ Below w2.heap.size w2 w3) := hide ⟨HB.out.1.trans (hb3.mono HB.out.1.size), HB.out.2.trans (hb3.mono HB.out.2.size)⟩
        clear hI3 hb3 C2
        generalize hzz : l.filter (isOf x) = zs at *
        clear hzz
        obtain ⟨zn, hzn⟩ : ∃ zn, zs.length = zn := ⟨_, rfl⟩
        rw [hzn] at HI3 HZP HZL HCS HSA ⊢
        clear hzn
        have hz0 : 0 < zn := HZP.out
        have hzb : ((zn : Int) == 0) = false := by simp; omega
        have hzd : decide ((zn : Int) = 0) = false := decide_eq_false (by omega)
        have hzl : zn ≤ len := HZL.out
        have hc3 := HI3.out.2.1
        have hc3m : c3 ≤ 9223372036854775807 := HI3.out.2.2.1
        have hcw : IntKind.i64.wrap (((cov l T i : Nat) : Int) + (zn : Int)) = ((cov l T i : Nat) : Int) + (zn : Int) := by
          have := HCL.out
          have := HLN.out
          simp [IntKind.wrap, IntKind.bits, IntKind.signed]; omega
        have hwi : IntKind.i64.wrap ((i : Int) + 1) = (i : Int) + 1 := wrap_nat _ (by omega)
        generalize cov l T i = ci at *
        have hcase : i = 0 ∨ 0 < i := by omega
        rcases hcase with h0 | h0
        case inl =>
          clear HPR
          have hd0 : decide ((0 : Int) < (i : Int)) = false := decide_eq_false (by omega)
          have hn0 : ¬ 0 < i := by omega
          clear h0
          go_wp2
          go_loopw [71] (fun jv wr' => ∃ j : Nat, j ≤ zn ∧ jv = .int .i64 j ∧ Hid (Below w.heap.size w wr' ∧ Below w2.heap.size w2 wr' ∧ Below w3.heap.size w3 wr')) (fun jv _ => zn - (intOf jv).toNat)
          case atStart => exact ⟨0, Nat.zero_le _, rfl, hide ⟨HB3.out.1, HB3.out.2, Below.refl _ _⟩⟩
          case round =>
            obtain ⟨j, hj, rfl, HBj⟩ := hrel
            by_cases hjl : j < zn
            case neg =>
              obtain rfl : j = zn := by omega
              go_wp2
              go_roundw
              case rel => exact ⟨i + 1, by omega, by simp, by rw [HCS.out]; simp, hide ⟨HBj.out.1, HBj.out.2.1⟩⟩
              case measure => simp [intOf]; omega
            case pos =>
              obtain ⟨b3, o3, rfl, hb3, y0, y1, y2, y3, y4⟩ := (HI3.out.below' HBj.out.2.2).2.2.2.2 j hjl
              obtain ⟨f1, f2, ii, hii, f3, f4⟩ := HSA.out j hjl
              obtain ⟨bl, ol, rfl, hbl, x0, x1, x2, x3, x4⟩ := (HV.out.below' HBj.out.1).2.2.2.2 ii (by rw [← HLN.out]; exact hii)
              rw [f3] at x0 x1 x2 x3 x4
              rw [HLN.out] at hii
              generalize zs.getD j Ev0 = e at *
              obtain ⟨e1, e2, e3, e4, e5⟩ := e
              dsimp only at f1 f2 f4 x0 x1 x2 x3 x4 y0 y1 y2 y3 y4
              subst f1 f2 f4
              clear f3
              have HNEW := hide (heap_alloc_new wr (.cells #[.string e1, .int .i64 ((j : Int) + 1), .int .i64 ((ii : Int) + 1), .string e4, .string e5] 41))
              have HSS : Hid ((wr.alloc (.cells #[.string e1, .int .i64 ((j : Int) + 1), .int .i64 ((ii : Int) + 1), .string e4, .string e5] 41)).drew.cell? ⟨wr.heap.size, 0, none⟩ = some (.string e1) ∧ (wr.alloc (.cells #[.string e1, .int .i64 ((j : Int) + 1), .int .i64 ((ii : Int) + 1), .string e4, .string e5] 41)).drew.cell? ⟨wr.heap.size, 1, none⟩ = some (.int .i64 ((j : Int) + 1)) ∧ (wr.alloc (.cells #[.string e1, .int .i64 ((j : Int) + 1), .int .i64 ((ii : Int) + 1), .string e4, .string e5] 41)).drew.cell? ⟨wr.heap.size, 2, none⟩ = some (.int .i64 ((ii : Int) + 1)) ∧ (wr.alloc (.cells #[.string e1, .int .i64 ((j : Int) + 1), .int .i64 ((ii : Int) + 1), .string e4, .string e5] 41)).drew.cell? ⟨wr.heap.size, 3, none⟩ = some (.string e4) ∧ (wr.alloc (.cells #[.string e1, .int .i64 ((j : Int) + 1), .int .i64 ((ii : Int) + 1), .string e4, .string e5] 41)).drew.cell? ⟨wr.heap.size, 4, none⟩ = some (.string e5) ∧ (wr.alloc (.cells #[.string e1, .int .i64 ((j : Int) + 1), .int .i64 ((ii : Int) + 1), .string e4, .string e5] 41)).drew.cell? ⟨bl, ol + ii * 5, none⟩ = some (.string e1) ∧ (wr.alloc (.cells #[.string e1, .int .i64 ((j : Int) + 1), .int .i64 ((ii : Int) + 1), .string e4, .string e5] 41)).drew.cell? ⟨bl, ol + ii * 5 + 1, none⟩ = some (.int .i64 ((j : Int) + 1)) ∧ (wr.alloc (.cells #[.string e1, .int .i64 ((j : Int) + 1), .int .i64 ((ii : Int) + 1), .string e4, .string e5] 41)).drew.cell? ⟨bl, ol + ii * 5 + 2, none⟩ = some (.int .i64 ((ii : Int) + 1)) ∧ (wr.alloc (.cells #[.string e1, .int .i64 ((j : Int) + 1), .int .i64 ((ii : Int) + 1), .string e4, .string e5] 41)).drew.cell? ⟨bl, ol + ii * 5 + 3, none⟩ = some (.string e4) ∧ (wr.alloc (.cells #[.string e1, .int .i64 ((j : Int) + 1), .int .i64 ((ii : Int) + 1), .string e4, .string e5] 41)).drew.cell? ⟨bl, ol + ii * 5 + 4, none⟩ = some (.string e5)) := hide
                ⟨cell_blk (j := 0) HNEW.out rfl, cell_blk (j := 1) HNEW.out rfl, cell_blk (j := 2) HNEW.out rfl, cell_blk (j := 3) HNEW.out rfl, cell_blk (j := 4) HNEW.out rfl, Lib.cell?_alloc_some _ x0, Lib.cell?_alloc_some _ x1, Lib.cell?_alloc_some _ x2, Lib.cell?_alloc_some _ x3, Lib.cell?_alloc_some _ x4⟩
              have HBN : Hid (Below w.heap.size w (wr.alloc (.cells #[.string e1, .int .i64 ((j : Int) + 1), .int .i64 ((ii : Int) + 1), .string e4, .string e5] 41)).drew ∧ Below w2.heap.size w2 (wr.alloc (.cells #[.string e1, .int .i64 ((j : Int) + 1), .int .i64 ((ii : Int) + 1), .string e4, .string e5] 41)).drew ∧ Below w3.heap.size w3 (wr.alloc (.cells #[.string e1, .int .i64 ((j : Int) + 1), .int .i64 ((ii : Int) + 1), .string e4, .string e5] 41)).drew) := hide ⟨(HBj.out.1.alloc HBj.out.1.size _).drew, (HBj.out.2.1.alloc HBj.out.2.1.size _).drew, (HBj.out.2.2.alloc HBj.out.2.2.size _).drew⟩
              have hsb : sameB ⟨e1, (j : Int) + 1, (ii : Int) + 1, e4, e5⟩ ⟨e1, (j : Int) + 1, (ii : Int) + 1, e4, e5⟩ = true := (sameB_iff _ _).2 rfl
              have hwj := apF5 hjl hzl hls
              have hwx := apF6 hii hls
              have hwx2 := apF7 hii hls
              have hg1 := apF1 ii
              have hg2 := apF2 hii
              have hj0 := apF4 j
              have hjz := apF3 hjl
              have hi0' := apF4 ii
              have hil := apF3 hii
              go_wp2_with fail
              clear x0 x1 x2 x3 x4 y0 y1 y2 y3 y4
              refine wp_region_held_drew (S := (fun W : World => W.cell? ⟨wr.heap.size, 0, none⟩ = some (.string e1) ∧ W.cell? ⟨wr.heap.size, 1, none⟩ = some (.int .i64 ((j : Int) + 1)) ∧ W.cell? ⟨wr.heap.size, 2, none⟩ = some (.int .i64 ((ii : Int) + 1)) ∧ W.cell? ⟨wr.heap.size, 3, none⟩ = some (.string e4) ∧ W.cell? ⟨wr.heap.size, 4, none⟩ = some (.string e5) ∧ W.cell? ⟨bl, ol + ii * 5, none⟩ = some (.string e1) ∧ W.cell? ⟨bl, ol + ii * 5 + 1, none⟩ = some (.int .i64 ((j : Int) + 1)) ∧ W.cell? ⟨bl, ol + ii * 5 + 2, none⟩ = some (.int .i64 ((ii : Int) + 1)) ∧ W.cell? ⟨bl, ol + ii * 5 + 3, none⟩ = some (.string e4) ∧ W.cell? ⟨bl, ol + ii * 5 + 4, none⟩ = some (.string e5))) (by kernel_rfl) ?hSR236 (fun hHeld => ?_)
              case hSR236 => exact HSS.out
              refine hTakeK (i := 0) (v := ?v0R236) (some 76) rfl rfl (by kernel_rfl) (by kernel_rfl) (by kernel_rfl) (fun _ _ _ h => h) (by rfl) (by assumption) ?hy0R236 ?hn0R236
              case hy0R236 => (intro w hSw; (try dsimp only at hSw); obtain ⟨s0, s1, s2, s3, s4, s5, s6, s7, s8, s9⟩ := hSw; go_simp; try with_reducible rfl)
              try simp only [Act.put, List.setIfInBounds_toArray, List.set_cons_zero, List.set_cons_succ]
              refine hTakeK (i := 1) (v := ?v1R236) (some 77) rfl rfl (by kernel_rfl) (by kernel_rfl) (by kernel_rfl) (fun _ _ _ h => h) (by rfl) (by assumption) ?hy1R236 ?hn1R236
              case hy1R236 => (intro w hSw; (try dsimp only at hSw); obtain ⟨s0, s1, s2, s3, s4, s5, s6, s7, s8, s9⟩ := hSw; go_simp; try with_reducible rfl)
              try simp only [Act.put, List.setIfInBounds_toArray, List.set_cons_zero, List.set_cons_succ]
              refine hTakeK (i := 2) (v := ?v2R236) (some 78) rfl rfl (by kernel_rfl) (by kernel_rfl) (by kernel_rfl) (fun _ _ _ h => h) (by rfl) (by assumption) ?hy2R236 ?hn2R236
              case hy2R236 => (intro w hSw; (try dsimp only at hSw); obtain ⟨s0, s1, s2, s3, s4, s5, s6, s7, s8, s9⟩ := hSw; go_simp; try with_reducible rfl)
              try simp only [Act.put, List.setIfInBounds_toArray, List.set_cons_zero, List.set_cons_succ]
              refine hTakeK (i := 3) (v := ?v3R236) (some 79) rfl rfl (by kernel_rfl) (by kernel_rfl) (by kernel_rfl) (fun _ _ _ h => h) (by rfl) (by assumption) ?hy3R236 ?hn3R236
              case hy3R236 => (intro w hSw; (try dsimp only at hSw); obtain ⟨s0, s1, s2, s3, s4, s5, s6, s7, s8, s9⟩ := hSw; go_simp; try with_reducible rfl)
              try simp only [Act.put, List.setIfInBounds_toArray, List.set_cons_zero, List.set_cons_succ]
              refine hTakeK (i := 4) (v := ?v4R236) (some 80) rfl rfl (by kernel_rfl) (by kernel_rfl) (by kernel_rfl) (fun _ _ _ h => h) (by rfl) (by assumption) ?hy4R236 ?hn4R236
              case hy4R236 => (intro w hSw; (try dsimp only at hSw); obtain ⟨s0, s1, s2, s3, s4, s5, s6, s7, s8, s9⟩ := hSw; go_simp; try with_reducible rfl)
              try simp only [Act.put, List.setIfInBounds_toArray, List.set_cons_zero, List.set_cons_succ]
              refine hTakeK (i := 5) (v := ?v5R236) (some 81) rfl rfl (by kernel_rfl) (by kernel_rfl) (by kernel_rfl) (fun _ _ _ h => h) (by rfl) (by assumption) ?hy5R236 ?hn5R236
              case hy5R236 => (intro w hSw; (try dsimp only at hSw); obtain ⟨s0, s1, s2, s3, s4, s5, s6, s7, s8, s9⟩ := hSw; go_simp; try with_reducible rfl)
              try simp only [Act.put, List.setIfInBounds_toArray, List.set_cons_zero, List.set_cons_succ]
              refine hTakeK (i := 6) (v := ?v6R236) (some 82) rfl rfl (by kernel_rfl) (by kernel_rfl) (by kernel_rfl) (fun _ _ _ h => h) (by rfl) (by assumption) ?hy6R236 ?hn6R236
              case hy6R236 => (intro w hSw; (try dsimp only at hSw); obtain ⟨s0, s1, s2, s3, s4, s5, s6, s7, s8, s9⟩ := hSw; go_simp; try with_reducible rfl)
              try simp only [Act.put, List.setIfInBounds_toArray, List.set_cons_zero, List.set_cons_succ]
              refine hTakeK (i := 7) (v := ?v7R236) (some 83) rfl rfl (by kernel_rfl) (by kernel_rfl) (by kernel_rfl) (fun _ _ _ h => h) (by rfl) (by assumption) ?hy7R236 ?hn7R236
              case hy7R236 => (intro w hSw; (try dsimp only at hSw); obtain ⟨s0, s1, s2, s3, s4, s5, s6, s7, s8, s9⟩ := hSw; go_simp; try with_reducible rfl)
              try simp only [Act.put, List.setIfInBounds_toArray, List.set_cons_zero, List.set_cons_succ]
              refine hTakeK (i := 8) (v := ?v8R236) (some 84) rfl rfl (by kernel_rfl) (by kernel_rfl) (by kernel_rfl) (fun _ _ _ h => h) (by rfl) (by assumption) ?hy8R236 ?hn8R236
              case hy8R236 => (intro w hSw; (try dsimp only at hSw); obtain ⟨s0, s1, s2, s3, s4, s5, s6, s7, s8, s9⟩ := hSw; go_simp; try with_reducible rfl)
              try simp only [Act.put, List.setIfInBounds_toArray, List.set_cons_zero, List.set_cons_succ]
              refine hTakeK (i := 9) (v := ?v9R236) (some 85) rfl rfl (by kernel_rfl) (by kernel_rfl) (by kernel_rfl) (fun _ _ _ h => h) (by rfl) (by assumption) ?hy9R236 ?hn9R236
              case hy9R236 => (intro w hSw; (try dsimp only at hSw); obtain ⟨s0, s1, s2, s3, s4, s5, s6, s7, s8, s9⟩ := hSw; go_simp; try with_reducible rfl)
              try simp only [Act.put, List.setIfInBounds_toArray, List.set_cons_zero, List.set_cons_succ]
              refine hTakeK (i := 10) (v := ?v10R236) (some 86) rfl rfl (by kernel_rfl) (by kernel_rfl) (by kernel_rfl) (fun _ _ _ h => h) (by rfl) (by assumption) ?hy10R236 ?hn10R236
              case hy10R236 => (intro w hSw; (try dsimp only at hSw); obtain ⟨s0, s1, s2, s3, s4, s5, s6, s7, s8, s9⟩ := hSw; go_simp; try with_reducible rfl)
              try simp only [Act.put, List.setIfInBounds_toArray, List.set_cons_zero, List.set_cons_succ]
              refine hTakeK (i := 11) (v := ?v11R236) (some 87) rfl rfl (by kernel_rfl) (by kernel_rfl) (by kernel_rfl) (fun _ _ _ h => h) (by rfl) (by assumption) ?hy11R236 ?hn11R236
              case hy11R236 => (intro w hSw; (try dsimp only at hSw); obtain ⟨s0, s1, s2, s3, s4, s5, s6, s7, s8, s9⟩ := hSw; go_simp; try with_reducible rfl)
              try simp only [Act.put, List.setIfInBounds_toArray, List.set_cons_zero, List.set_cons_succ]
              refine hTakeK (i := 12) (v := ?v12R236) (some 88) rfl rfl (by kernel_rfl) (by kernel_rfl) (by kernel_rfl) (fun _ _ _ h => h) (by rfl) (by assumption) ?hy12R236 ?hn12R236
              case hy12R236 => (intro w hSw; (try dsimp only at hSw); obtain ⟨s0, s1, s2, s3, s4, s5, s6, s7, s8, s9⟩ := hSw; go_simp; try with_reducible rfl)
              try simp only [Act.put, List.setIfInBounds_toArray, List.set_cons_zero, List.set_cons_succ]
              refine hTakeK (i := 13) (v := ?v13R236) (some 89) rfl rfl (by kernel_rfl) (by kernel_rfl) (by kernel_rfl) (fun _ _ _ h => h) (by rfl) (by assumption) ?hy13R236 ?hn13R236
              case hy13R236 => (intro w hSw; (try dsimp only at hSw); obtain ⟨s0, s1, s2, s3, s4, s5, s6, s7, s8, s9⟩ := hSw; go_simp; try with_reducible rfl)
              try simp only [Act.put, List.setIfInBounds_toArray, List.set_cons_zero, List.set_cons_succ]
              refine hTakeK (i := 14) (v := ?v14R236) (some 90) rfl rfl (by kernel_rfl) (by kernel_rfl) (by kernel_rfl) (fun _ _ _ h => h) (by rfl) (by assumption) ?hy14R236 ?hn14R236
              case hy14R236 => (intro w hSw; (try dsimp only at hSw); obtain ⟨s0, s1, s2, s3, s4, s5, s6, s7, s8, s9⟩ := hSw; go_simp; try with_reducible rfl)
              try simp only [Act.put, List.setIfInBounds_toArray, List.set_cons_zero, List.set_cons_succ]
              refine hTakeK (i := 15) (v := ?v15R236) (some 91) rfl rfl (by kernel_rfl) (by kernel_rfl) (by kernel_rfl) (fun _ _ _ h => h) (by rfl) (by assumption) ?hy15R236 ?hn15R236
              case hy15R236 => (intro w hSw; (try dsimp only at hSw); obtain ⟨s0, s1, s2, s3, s4, s5, s6, s7, s8, s9⟩ := hSw; go_simp; try with_reducible rfl)
              try simp only [Act.put, List.setIfInBounds_toArray, List.set_cons_zero, List.set_cons_succ]
              refine hTakeK (i := 16) (v := ?v16R236) (some 92) rfl rfl (by kernel_rfl) (by kernel_rfl) (by kernel_rfl) (fun _ _ _ h => h) (by rfl) (by assumption) ?hy16R236 ?hn16R236
              case hy16R236 => (intro w hSw; (try dsimp only at hSw); obtain ⟨s0, s1, s2, s3, s4, s5, s6, s7, s8, s9⟩ := hSw; go_simp; try with_reducible rfl)
              try simp only [Act.put, List.setIfInBounds_toArray, List.set_cons_zero, List.set_cons_succ]
              refine hTakeK (i := 17) (v := ?v17R236) (some 93) rfl rfl (by kernel_rfl) (by kernel_rfl) (by kernel_rfl) (fun _ _ _ h => h) (by rfl) (by assumption) ?hy17R236 ?hn17R236
              case hy17R236 => (intro w hSw; (try dsimp only at hSw); obtain ⟨s0, s1, s2, s3, s4, s5, s6, s7, s8, s9⟩ := hSw; go_simp; try with_reducible rfl)
              try simp only [Act.put, List.setIfInBounds_toArray, List.set_cons_zero, List.set_cons_succ]
              refine hTakeK (i := 18) (v := ?v18R236) (some 94) rfl rfl (by kernel_rfl) (by kernel_rfl) (by kernel_rfl) (fun _ _ _ h => h) (by rfl) (by assumption) ?hy18R236 ?hn18R236
              case hy18R236 => (intro w hSw; (try dsimp only at hSw); obtain ⟨s0, s1, s2, s3, s4, s5, s6, s7, s8, s9⟩ := hSw; go_simp; try with_reducible rfl)
              try simp only [Act.put, List.setIfInBounds_toArray, List.set_cons_zero, List.set_cons_succ]
              refine hTakeK (i := 19) (v := ?v19R236) (some 95) rfl rfl (by kernel_rfl) (by kernel_rfl) (by kernel_rfl) (fun _ _ _ h => h) (by rfl) (by assumption) ?hy19R236 ?hn19R236
              case hy19R236 => (intro w hSw; (try dsimp only at hSw); obtain ⟨s0, s1, s2, s3, s4, s5, s6, s7, s8, s9⟩ := hSw; go_simp; try with_reducible rfl)
              try simp only [Act.put, List.setIfInBounds_toArray, List.set_cons_zero, List.set_cons_succ]
              refine hTakeK (i := 20) (v := ?v20R236) (some 96) rfl rfl (by kernel_rfl) (by kernel_rfl) (by kernel_rfl) (fun _ _ _ h => h) (by rfl) (by assumption) ?hy20R236 ?hn20R236
              case hy20R236 => (intro w hSw; (try dsimp only at hSw); obtain ⟨s0, s1, s2, s3, s4, s5, s6, s7, s8, s9⟩ := hSw; go_simp; try with_reducible rfl)
              try simp only [Act.put, List.setIfInBounds_toArray, List.set_cons_zero, List.set_cons_succ]
              refine hTakeK (i := 21) (v := ?v21R236) (some 97) rfl rfl (by kernel_rfl) (by kernel_rfl) (by kernel_rfl) (fun _ _ _ h => h) (by rfl) (by assumption) ?hy21R236 ?hn21R236
              case hy21R236 => (intro w hSw; (try dsimp only at hSw); obtain ⟨s0, s1, s2, s3, s4, s5, s6, s7, s8, s9⟩ := hSw; go_simp; try with_reducible rfl)
              try simp only [Act.put, List.setIfInBounds_toArray, List.set_cons_zero, List.set_cons_succ]
              refine hTakeK (i := 22) (v := ?v22R236) (some 98) rfl rfl (by kernel_rfl) (by kernel_rfl) (by kernel_rfl) (fun _ _ _ h => h) (by rfl) (by assumption) ?hy22R236 ?hn22R236
              case hy22R236 => (intro w hSw; (try dsimp only at hSw); obtain ⟨s0, s1, s2, s3, s4, s5, s6, s7, s8, s9⟩ := hSw; go_simp; try with_reducible rfl)
              try simp only [Act.put, List.setIfInBounds_toArray, List.set_cons_zero, List.set_cons_succ]
              refine hTakeK (i := 23) (v := ?v23R236) (some 99) rfl rfl (by kernel_rfl) (by kernel_rfl) (by kernel_rfl) (fun _ _ _ h => h) (by rfl) (by assumption) ?hy23R236 ?hn23R236
              case hy23R236 => (intro w hSw; (try dsimp only at hSw); obtain ⟨s0, s1, s2, s3, s4, s5, s6, s7, s8, s9⟩ := hSw; go_simp; try with_reducible rfl)
              try simp only [Act.put, List.setIfInBounds_toArray, List.set_cons_zero, List.set_cons_succ]
              refine hTakeK (i := 24) (v := ?v24R236) (some 100) rfl rfl (by kernel_rfl) (by kernel_rfl) (by kernel_rfl) (fun _ _ _ h => h) (by rfl) (by assumption) ?hy24R236 ?hn24R236
              case hy24R236 => (intro w hSw; (try dsimp only at hSw); obtain ⟨s0, s1, s2, s3, s4, s5, s6, s7, s8, s9⟩ := hSw; go_simp; try with_reducible rfl)
              try simp only [Act.put, List.setIfInBounds_toArray, List.set_cons_zero, List.set_cons_succ]
              refine hTakeK (i := 25) (v := ?v25R236) (some 101) rfl rfl (by kernel_rfl) (by kernel_rfl) (by kernel_rfl) (fun _ _ _ h => h) (by rfl) (by assumption) ?hy25R236 ?hn25R236
              case hy25R236 => (intro w hSw; (try dsimp only at hSw); obtain ⟨s0, s1, s2, s3, s4, s5, s6, s7, s8, s9⟩ := hSw; go_simp; try with_reducible rfl)
              try simp only [Act.put, List.setIfInBounds_toArray, List.set_cons_zero, List.set_cons_succ]
              refine hTakeK (i := 26) (v := ?v26R236) (some 102) rfl rfl (by kernel_rfl) (by kernel_rfl) (by kernel_rfl) (fun _ _ _ h => h) (by rfl) (by assumption) ?hy26R236 ?hn26R236
              case hy26R236 => (intro w hSw; (try dsimp only at hSw); obtain ⟨s0, s1, s2, s3, s4, s5, s6, s7, s8, s9⟩ := hSw; go_simp; try with_reducible rfl)
              try simp only [Act.put, List.setIfInBounds_toArray, List.set_cons_zero, List.set_cons_succ]
              refine hTakeK (i := 27) (v := ?v27R236) (some 103) rfl rfl (by kernel_rfl) (by kernel_rfl) (by kernel_rfl) (fun _ _ _ h => h) (by rfl) (by assumption) ?hy27R236 ?hn27R236
              case hy27R236 => (intro w hSw; (try dsimp only at hSw); obtain ⟨s0, s1, s2, s3, s4, s5, s6, s7, s8, s9⟩ := hSw; go_simp; try with_reducible rfl)
              try simp only [Act.put, List.setIfInBounds_toArray, List.set_cons_zero, List.set_cons_succ]
              refine hTakeK (i := 28) (v := ?v28R236) (some 104) rfl rfl (by kernel_rfl) (by kernel_rfl) (by kernel_rfl) (fun _ _ _ h => h) (by rfl) (by assumption) ?hy28R236 ?hn28R236
              case hy28R236 => (intro w hSw; (try dsimp only at hSw); obtain ⟨s0, s1, s2, s3, s4, s5, s6, s7, s8, s9⟩ := hSw; go_simp; try with_reducible rfl)
              try simp only [Act.put, List.setIfInBounds_toArray, List.set_cons_zero, List.set_cons_succ]
              refine hTakeK (i := 29) (v := ?v29R236) (some 105) rfl rfl (by kernel_rfl) (by kernel_rfl) (by kernel_rfl) (fun _ _ _ h => h) (by rfl) (by assumption) ?hy29R236 ?hn29R236
              case hy29R236 => (intro w hSw; (try dsimp only at hSw); obtain ⟨s0, s1, s2, s3, s4, s5, s6, s7, s8, s9⟩ := hSw; go_simp; try with_reducible rfl)
              try simp only [Act.put, List.setIfInBounds_toArray, List.set_cons_zero, List.set_cons_succ]
              refine hTakeK (i := 30) (v := ?v30R236) (some 106) rfl rfl (by kernel_rfl) (by kernel_rfl) (by kernel_rfl) (fun _ _ _ h => h) (by rfl) (by assumption) ?hy30R236 ?hn30R236
              case hy30R236 => (intro w hSw; (try dsimp only at hSw); obtain ⟨s0, s1, s2, s3, s4, s5, s6, s7, s8, s9⟩ := hSw; go_simp; try with_reducible rfl)
              try simp only [Act.put, List.setIfInBounds_toArray, List.set_cons_zero, List.set_cons_succ]
              refine hTakeK (i := 31) (v := ?v31R236) (some 107) rfl rfl (by kernel_rfl) (by kernel_rfl) (by kernel_rfl) (fun _ _ _ h => h) (by rfl) (by assumption) ?hy31R236 ?hn31R236
              case hy31R236 => (intro w hSw; (try dsimp only at hSw); obtain ⟨s0, s1, s2, s3, s4, s5, s6, s7, s8, s9⟩ := hSw; go_simp; try with_reducible rfl)
              try simp only [Act.put, List.setIfInBounds_toArray, List.set_cons_zero, List.set_cons_succ]
              refine hTakeK (i := 32) (v := ?v32R236) (some 108) rfl rfl (by kernel_rfl) (by kernel_rfl) (by kernel_rfl) (fun _ _ _ h => h) (by rfl) (by assumption) ?hy32R236 ?hn32R236
              case hy32R236 => (intro w hSw; (try dsimp only at hSw); obtain ⟨s0, s1, s2, s3, s4, s5, s6, s7, s8, s9⟩ := hSw; go_simp; try with_reducible rfl)
              try simp only [Act.put, List.setIfInBounds_toArray, List.set_cons_zero, List.set_cons_succ]
              refine wpAnyH_done (by kernel_rfl) ?_ _
              go_wp2
              go_roundw
              case rel => exact ⟨j + 1, by omega, by simp, HBN⟩
              case measure => simp [intOf]; omega
        case inr =>
          obtain ⟨p, zp0, hpl, HPW⟩ := HPR.out h0
          have hd0 : decide ((0 : Int) < (i : Int)) = true := decide_eq_true (by omega)
          have zp := HPW w3 HB3.out.2
          have hwm : IntKind.i64.wrap ((i : Int) - 1) = ((i - 1 : Nat) : Int) := by
            simp [IntKind.wrap, IntKind.bits, IntKind.signed]; omega
          have hm0 : (0 : Int) ≤ ((i - 1 : Nat) : Int) := by omega
          have hm1 : ((i - 1 : Nat) : Int) < (tn : Int) := by omega
          clear HPR HPW zp0
          go_wp2
          go_loopw [71] (fun jv wr' => ∃ j : Nat, j ≤ zn ∧ jv = .int .i64 j ∧ Hid (Below w.heap.size w wr' ∧ Below w2.heap.size w2 wr' ∧ Below w3.heap.size w3 wr')) (fun jv _ => zn - (intOf jv).toNat)
          case atStart => exact ⟨0, Nat.zero_le _, rfl, hide ⟨HB3.out.1, HB3.out.2, Below.refl _ _⟩⟩
          case round =>
            obtain ⟨j, hj, rfl, HBj⟩ := hrel
            by_cases hjl : j < zn
            case neg =>
              obtain rfl : j = zn := by omega
              go_wp2
              go_roundw
              case rel => exact ⟨i + 1, by omega, by simp, by rw [HCS.out]; simp, hide ⟨HBj.out.1, HBj.out.2.1⟩⟩
              case measure => simp [intOf]; omega
            case pos =>
              obtain ⟨b3, o3, rfl, hb3, y0, y1, y2, y3, y4⟩ := (HI3.out.below' HBj.out.2.2).2.2.2.2 j hjl
              obtain ⟨f1, f2, ii, hii, f3, f4⟩ := HSA.out j hjl
              obtain ⟨bl, ol, rfl, hbl, x0, x1, x2, x3, x4⟩ := (HV.out.below' HBj.out.1).2.2.2.2 ii (by rw [← HLN.out]; exact hii)
              rw [f3] at x0 x1 x2 x3 x4
              rw [HLN.out] at hii
              generalize zs.getD j Ev0 = e at *
              obtain ⟨e1, e2, e3, e4, e5⟩ := e
              dsimp only at f1 f2 f4 x0 x1 x2 x3 x4 y0 y1 y2 y3 y4
              subst f1 f2 f4
              clear f3
              have HNEW := hide (heap_alloc_new wr (.cells #[.string e1, .int .i64 ((j : Int) + 1), .int .i64 ((ii : Int) + 1), .string e4, .string e5] 41))
              have HSS : Hid ((wr.alloc (.cells #[.string e1, .int .i64 ((j : Int) + 1), .int .i64 ((ii : Int) + 1), .string e4, .string e5] 41)).drew.cell? ⟨wr.heap.size, 0, none⟩ = some (.string e1) ∧ (wr.alloc (.cells #[.string e1, .int .i64 ((j : Int) + 1), .int .i64 ((ii : Int) + 1), .string e4, .string e5] 41)).drew.cell? ⟨wr.heap.size, 1, none⟩ = some (.int .i64 ((j : Int) + 1)) ∧ (wr.alloc (.cells #[.string e1, .int .i64 ((j : Int) + 1), .int .i64 ((ii : Int) + 1), .string e4, .string e5] 41)).drew.cell? ⟨wr.heap.size, 2, none⟩ = some (.int .i64 ((ii : Int) + 1)) ∧ (wr.alloc (.cells #[.string e1, .int .i64 ((j : Int) + 1), .int .i64 ((ii : Int) + 1), .string e4, .string e5] 41)).drew.cell? ⟨wr.heap.size, 3, none⟩ = some (.string e4) ∧ (wr.alloc (.cells #[.string e1, .int .i64 ((j : Int) + 1), .int .i64 ((ii : Int) + 1), .string e4, .string e5] 41)).drew.cell? ⟨wr.heap.size, 4, none⟩ = some (.string e5) ∧ (wr.alloc (.cells #[.string e1, .int .i64 ((j : Int) + 1), .int .i64 ((ii : Int) + 1), .string e4, .string e5] 41)).drew.cell? ⟨bl, ol + ii * 5, none⟩ = some (.string e1) ∧ (wr.alloc (.cells #[.string e1, .int .i64 ((j : Int) + 1), .int .i64 ((ii : Int) + 1), .string e4, .string e5] 41)).drew.cell? ⟨bl, ol + ii * 5 + 1, none⟩ = some (.int .i64 ((j : Int) + 1)) ∧ (wr.alloc (.cells #[.string e1, .int .i64 ((j : Int) + 1), .int .i64 ((ii : Int) + 1), .string e4, .string e5] 41)).drew.cell? ⟨bl, ol + ii * 5 + 2, none⟩ = some (.int .i64 ((ii : Int) + 1)) ∧ (wr.alloc (.cells #[.string e1, .int .i64 ((j : Int) + 1), .int .i64 ((ii : Int) + 1), .string e4, .string e5] 41)).drew.cell? ⟨bl, ol + ii * 5 + 3, none⟩ = some (.string e4) ∧ (wr.alloc (.cells #[.string e1, .int .i64 ((j : Int) + 1), .int .i64 ((ii : Int) + 1), .string e4, .string e5] 41)).drew.cell? ⟨bl, ol + ii * 5 + 4, none⟩ = some (.string e5)) := hide
                ⟨cell_blk (j := 0) HNEW.out rfl, cell_blk (j := 1) HNEW.out rfl, cell_blk (j := 2) HNEW.out rfl, cell_blk (j := 3) HNEW.out rfl, cell_blk (j := 4) HNEW.out rfl, Lib.cell?_alloc_some _ x0, Lib.cell?_alloc_some _ x1, Lib.cell?_alloc_some _ x2, Lib.cell?_alloc_some _ x3, Lib.cell?_alloc_some _ x4⟩
              have HBN : Hid (Below w.heap.size w (wr.alloc (.cells #[.string e1, .int .i64 ((j : Int) + 1), .int .i64 ((ii : Int) + 1), .string e4, .string e5] 41)).drew ∧ Below w2.heap.size w2 (wr.alloc (.cells #[.string e1, .int .i64 ((j : Int) + 1), .int .i64 ((ii : Int) + 1), .string e4, .string e5] 41)).drew ∧ Below w3.heap.size w3 (wr.alloc (.cells #[.string e1, .int .i64 ((j : Int) + 1), .int .i64 ((ii : Int) + 1), .string e4, .string e5] 41)).drew) := hide ⟨(HBj.out.1.alloc HBj.out.1.size _).drew, (HBj.out.2.1.alloc HBj.out.2.1.size _).drew, (HBj.out.2.2.alloc HBj.out.2.2.size _).drew⟩
              have hsb : sameB ⟨e1, (j : Int) + 1, (ii : Int) + 1, e4, e5⟩ ⟨e1, (j : Int) + 1, (ii : Int) + 1, e4, e5⟩ = true := (sameB_iff _ _).2 rfl
              have hwj := apF5 hjl hzl hls
              have hwx := apF6 hii hls
              have hwx2 := apF7 hii hls
              have hg1 := apF1 ii
              have hg2 := apF2 hii
              have hj0 := apF4 j
              have hjz := apF3 hjl
              have hi0' := apF4 ii
              have hil := apF3 hii
              go_wp2_with fail
              clear x0 x1 x2 x3 x4 y0 y1 y2 y3 y4
              refine wp_region_held_drew (S := (fun W : World => W.cell? ⟨wr.heap.size, 0, none⟩ = some (.string e1) ∧ W.cell? ⟨wr.heap.size, 1, none⟩ = some (.int .i64 ((j : Int) + 1)) ∧ W.cell? ⟨wr.heap.size, 2, none⟩ = some (.int .i64 ((ii : Int) + 1)) ∧ W.cell? ⟨wr.heap.size, 3, none⟩ = some (.string e4) ∧ W.cell? ⟨wr.heap.size, 4, none⟩ = some (.string e5) ∧ W.cell? ⟨bl, ol + ii * 5, none⟩ = some (.string e1) ∧ W.cell? ⟨bl, ol + ii * 5 + 1, none⟩ = some (.int .i64 ((j : Int) + 1)) ∧ W.cell? ⟨bl, ol + ii * 5 + 2, none⟩ = some (.int .i64 ((ii : Int) + 1)) ∧ W.cell? ⟨bl, ol + ii * 5 + 3, none⟩ = some (.string e4) ∧ W.cell? ⟨bl, ol + ii * 5 + 4, none⟩ = some (.string e5))) (by kernel_rfl) ?hSR390 (fun hHeld => ?_)
              case hSR390 => exact HSS.out
              refine hTakeK (i := 0) (v := ?v0R390) (some 76) rfl rfl (by kernel_rfl) (by kernel_rfl) (by kernel_rfl) (fun _ _ _ h => h) (by rfl) (by assumption) ?hy0R390 ?hn0R390
              case hy0R390 => (intro w hSw; (try dsimp only at hSw); obtain ⟨s0, s1, s2, s3, s4, s5, s6, s7, s8, s9⟩ := hSw; go_simp; try with_reducible rfl)
              try simp only [Act.put, List.setIfInBounds_toArray, List.set_cons_zero, List.set_cons_succ]
              refine hTakeK (i := 1) (v := ?v1R390) (some 77) rfl rfl (by kernel_rfl) (by kernel_rfl) (by kernel_rfl) (fun _ _ _ h => h) (by rfl) (by assumption) ?hy1R390 ?hn1R390
              case hy1R390 => (intro w hSw; (try dsimp only at hSw); obtain ⟨s0, s1, s2, s3, s4, s5, s6, s7, s8, s9⟩ := hSw; go_simp; try with_reducible rfl)
              try simp only [Act.put, List.setIfInBounds_toArray, List.set_cons_zero, List.set_cons_succ]
              refine hTakeK (i := 2) (v := ?v2R390) (some 78) rfl rfl (by kernel_rfl) (by kernel_rfl) (by kernel_rfl) (fun _ _ _ h => h) (by rfl) (by assumption) ?hy2R390 ?hn2R390
              case hy2R390 => (intro w hSw; (try dsimp only at hSw); obtain ⟨s0, s1, s2, s3, s4, s5, s6, s7, s8, s9⟩ := hSw; go_simp; try with_reducible rfl)
              try simp only [Act.put, List.setIfInBounds_toArray, List.set_cons_zero, List.set_cons_succ]
              refine hTakeK (i := 3) (v := ?v3R390) (some 79) rfl rfl (by kernel_rfl) (by kernel_rfl) (by kernel_rfl) (fun _ _ _ h => h) (by rfl) (by assumption) ?hy3R390 ?hn3R390
              case hy3R390 => (intro w hSw; (try dsimp only at hSw); obtain ⟨s0, s1, s2, s3, s4, s5, s6, s7, s8, s9⟩ := hSw; go_simp; try with_reducible rfl)
              try simp only [Act.put, List.setIfInBounds_toArray, List.set_cons_zero, List.set_cons_succ]
              refine hTakeK (i := 4) (v := ?v4R390) (some 80) rfl rfl (by kernel_rfl) (by kernel_rfl) (by kernel_rfl) (fun _ _ _ h => h) (by rfl) (by assumption) ?hy4R390 ?hn4R390
              case hy4R390 => (intro w hSw; (try dsimp only at hSw); obtain ⟨s0, s1, s2, s3, s4, s5, s6, s7, s8, s9⟩ := hSw; go_simp; try with_reducible rfl)
              try simp only [Act.put, List.setIfInBounds_toArray, List.set_cons_zero, List.set_cons_succ]
              refine hTakeK (i := 5) (v := ?v5R390) (some 81) rfl rfl (by kernel_rfl) (by kernel_rfl) (by kernel_rfl) (fun _ _ _ h => h) (by rfl) (by assumption) ?hy5R390 ?hn5R390
              case hy5R390 => (intro w hSw; (try dsimp only at hSw); obtain ⟨s0, s1, s2, s3, s4, s5, s6, s7, s8, s9⟩ := hSw; go_simp; try with_reducible rfl)
              try simp only [Act.put, List.setIfInBounds_toArray, List.set_cons_zero, List.set_cons_succ]
              refine hTakeK (i := 6) (v := ?v6R390) (some 82) rfl rfl (by kernel_rfl) (by kernel_rfl) (by kernel_rfl) (fun _ _ _ h => h) (by rfl) (by assumption) ?hy6R390 ?hn6R390
              case hy6R390 => (intro w hSw; (try dsimp only at hSw); obtain ⟨s0, s1, s2, s3, s4, s5, s6, s7, s8, s9⟩ := hSw; go_simp; try with_reducible rfl)
              try simp only [Act.put, List.setIfInBounds_toArray, List.set_cons_zero, List.set_cons_succ]
              refine hTakeK (i := 7) (v := ?v7R390) (some 83) rfl rfl (by kernel_rfl) (by kernel_rfl) (by kernel_rfl) (fun _ _ _ h => h) (by rfl) (by assumption) ?hy7R390 ?hn7R390
              case hy7R390 => (intro w hSw; (try dsimp only at hSw); obtain ⟨s0, s1, s2, s3, s4, s5, s6, s7, s8, s9⟩ := hSw; go_simp; try with_reducible rfl)
              try simp only [Act.put, List.setIfInBounds_toArray, List.set_cons_zero, List.set_cons_succ]
              refine hTakeK (i := 8) (v := ?v8R390) (some 84) rfl rfl (by kernel_rfl) (by kernel_rfl) (by kernel_rfl) (fun _ _ _ h => h) (by rfl) (by assumption) ?hy8R390 ?hn8R390
              case hy8R390 => (intro w hSw; (try dsimp only at hSw); obtain ⟨s0, s1, s2, s3, s4, s5, s6, s7, s8, s9⟩ := hSw; go_simp; try with_reducible rfl)
              try simp only [Act.put, List.setIfInBounds_toArray, List.set_cons_zero, List.set_cons_succ]
              refine hTakeK (i := 9) (v := ?v9R390) (some 85) rfl rfl (by kernel_rfl) (by kernel_rfl) (by kernel_rfl) (fun _ _ _ h => h) (by rfl) (by assumption) ?hy9R390 ?hn9R390
              case hy9R390 => (intro w hSw; (try dsimp only at hSw); obtain ⟨s0, s1, s2, s3, s4, s5, s6, s7, s8, s9⟩ := hSw; go_simp; try with_reducible rfl)
              try simp only [Act.put, List.setIfInBounds_toArray, List.set_cons_zero, List.set_cons_succ]
              refine hTakeK (i := 10) (v := ?v10R390) (some 86) rfl rfl (by kernel_rfl) (by kernel_rfl) (by kernel_rfl) (fun _ _ _ h => h) (by rfl) (by assumption) ?hy10R390 ?hn10R390
              case hy10R390 => (intro w hSw; (try dsimp only at hSw); obtain ⟨s0, s1, s2, s3, s4, s5, s6, s7, s8, s9⟩ := hSw; go_simp; try with_reducible rfl)
              try simp only [Act.put, List.setIfInBounds_toArray, List.set_cons_zero, List.set_cons_succ]
              refine hTakeK (i := 11) (v := ?v11R390) (some 87) rfl rfl (by kernel_rfl) (by kernel_rfl) (by kernel_rfl) (fun _ _ _ h => h) (by rfl) (by assumption) ?hy11R390 ?hn11R390
              case hy11R390 => (intro w hSw; (try dsimp only at hSw); obtain ⟨s0, s1, s2, s3, s4, s5, s6, s7, s8, s9⟩ := hSw; go_simp; try with_reducible rfl)
              try simp only [Act.put, List.setIfInBounds_toArray, List.set_cons_zero, List.set_cons_succ]
              refine hTakeK (i := 12) (v := ?v12R390) (some 88) rfl rfl (by kernel_rfl) (by kernel_rfl) (by kernel_rfl) (fun _ _ _ h => h) (by rfl) (by assumption) ?hy12R390 ?hn12R390
              case hy12R390 => (intro w hSw; (try dsimp only at hSw); obtain ⟨s0, s1, s2, s3, s4, s5, s6, s7, s8, s9⟩ := hSw; go_simp; try with_reducible rfl)
              try simp only [Act.put, List.setIfInBounds_toArray, List.set_cons_zero, List.set_cons_succ]
              refine hTakeK (i := 13) (v := ?v13R390) (some 89) rfl rfl (by kernel_rfl) (by kernel_rfl) (by kernel_rfl) (fun _ _ _ h => h) (by rfl) (by assumption) ?hy13R390 ?hn13R390
              case hy13R390 => (intro w hSw; (try dsimp only at hSw); obtain ⟨s0, s1, s2, s3, s4, s5, s6, s7, s8, s9⟩ := hSw; go_simp; try with_reducible rfl)
              try simp only [Act.put, List.setIfInBounds_toArray, List.set_cons_zero, List.set_cons_succ]
              refine hTakeK (i := 14) (v := ?v14R390) (some 90) rfl rfl (by kernel_rfl) (by kernel_rfl) (by kernel_rfl) (fun _ _ _ h => h) (by rfl) (by assumption) ?hy14R390 ?hn14R390
              case hy14R390 => (intro w hSw; (try dsimp only at hSw); obtain ⟨s0, s1, s2, s3, s4, s5, s6, s7, s8, s9⟩ := hSw; go_simp; try with_reducible rfl)
              try simp only [Act.put, List.setIfInBounds_toArray, List.set_cons_zero, List.set_cons_succ]
              refine hTakeK (i := 15) (v := ?v15R390) (some 91) rfl rfl (by kernel_rfl) (by kernel_rfl) (by kernel_rfl) (fun _ _ _ h => h) (by rfl) (by assumption) ?hy15R390 ?hn15R390
              case hy15R390 => (intro w hSw; (try dsimp only at hSw); obtain ⟨s0, s1, s2, s3, s4, s5, s6, s7, s8, s9⟩ := hSw; go_simp; try with_reducible rfl)
              try simp only [Act.put, List.setIfInBounds_toArray, List.set_cons_zero, List.set_cons_succ]
              refine hTakeK (i := 16) (v := ?v16R390) (some 92) rfl rfl (by kernel_rfl) (by kernel_rfl) (by kernel_rfl) (fun _ _ _ h => h) (by rfl) (by assumption) ?hy16R390 ?hn16R390
              case hy16R390 => (intro w hSw; (try dsimp only at hSw); obtain ⟨s0, s1, s2, s3, s4, s5, s6, s7, s8, s9⟩ := hSw; go_simp; try with_reducible rfl)
              try simp only [Act.put, List.setIfInBounds_toArray, List.set_cons_zero, List.set_cons_succ]
              refine hTakeK (i := 17) (v := ?v17R390) (some 93) rfl rfl (by kernel_rfl) (by kernel_rfl) (by kernel_rfl) (fun _ _ _ h => h) (by rfl) (by assumption) ?hy17R390 ?hn17R390
              case hy17R390 => (intro w hSw; (try dsimp only at hSw); obtain ⟨s0, s1, s2, s3, s4, s5, s6, s7, s8, s9⟩ := hSw; go_simp; try with_reducible rfl)
              try simp only [Act.put, List.setIfInBounds_toArray, List.set_cons_zero, List.set_cons_succ]
              refine hTakeK (i := 18) (v := ?v18R390) (some 94) rfl rfl (by kernel_rfl) (by kernel_rfl) (by kernel_rfl) (fun _ _ _ h => h) (by rfl) (by assumption) ?hy18R390 ?hn18R390
              case hy18R390 => (intro w hSw; (try dsimp only at hSw); obtain ⟨s0, s1, s2, s3, s4, s5, s6, s7, s8, s9⟩ := hSw; go_simp; try with_reducible rfl)
              try simp only [Act.put, List.setIfInBounds_toArray, List.set_cons_zero, List.set_cons_succ]
              refine hTakeK (i := 19) (v := ?v19R390) (some 95) rfl rfl (by kernel_rfl) (by kernel_rfl) (by kernel_rfl) (fun _ _ _ h => h) (by rfl) (by assumption) ?hy19R390 ?hn19R390
              case hy19R390 => (intro w hSw; (try dsimp only at hSw); obtain ⟨s0, s1, s2, s3, s4, s5, s6, s7, s8, s9⟩ := hSw; go_simp; try with_reducible rfl)
              try simp only [Act.put, List.setIfInBounds_toArray, List.set_cons_zero, List.set_cons_succ]
              refine hTakeK (i := 20) (v := ?v20R390) (some 96) rfl rfl (by kernel_rfl) (by kernel_rfl) (by kernel_rfl) (fun _ _ _ h => h) (by rfl) (by assumption) ?hy20R390 ?hn20R390
              case hy20R390 => (intro w hSw; (try dsimp only at hSw); obtain ⟨s0, s1, s2, s3, s4, s5, s6, s7, s8, s9⟩ := hSw; go_simp; try with_reducible rfl)
              try simp only [Act.put, List.setIfInBounds_toArray, List.set_cons_zero, List.set_cons_succ]
              refine hTakeK (i := 21) (v := ?v21R390) (some 97) rfl rfl (by kernel_rfl) (by kernel_rfl) (by kernel_rfl) (fun _ _ _ h => h) (by rfl) (by assumption) ?hy21R390 ?hn21R390
              case hy21R390 => (intro w hSw; (try dsimp only at hSw); obtain ⟨s0, s1, s2, s3, s4, s5, s6, s7, s8, s9⟩ := hSw; go_simp; try with_reducible rfl)
              try simp only [Act.put, List.setIfInBounds_toArray, List.set_cons_zero, List.set_cons_succ]
              refine hTakeK (i := 22) (v := ?v22R390) (some 98) rfl rfl (by kernel_rfl) (by kernel_rfl) (by kernel_rfl) (fun _ _ _ h => h) (by rfl) (by assumption) ?hy22R390 ?hn22R390
              case hy22R390 => (intro w hSw; (try dsimp only at hSw); obtain ⟨s0, s1, s2, s3, s4, s5, s6, s7, s8, s9⟩ := hSw; go_simp; try with_reducible rfl)
              try simp only [Act.put, List.setIfInBounds_toArray, List.set_cons_zero, List.set_cons_succ]
              refine hTakeK (i := 23) (v := ?v23R390) (some 99) rfl rfl (by kernel_rfl) (by kernel_rfl) (by kernel_rfl) (fun _ _ _ h => h) (by rfl) (by assumption) ?hy23R390 ?hn23R390
              case hy23R390 => (intro w hSw; (try dsimp only at hSw); obtain ⟨s0, s1, s2, s3, s4, s5, s6, s7, s8, s9⟩ := hSw; go_simp; try with_reducible rfl)
              try simp only [Act.put, List.setIfInBounds_toArray, List.set_cons_zero, List.set_cons_succ]
              refine hTakeK (i := 24) (v := ?v24R390) (some 100) rfl rfl (by kernel_rfl) (by kernel_rfl) (by kernel_rfl) (fun _ _ _ h => h) (by rfl) (by assumption) ?hy24R390 ?hn24R390
              case hy24R390 => (intro w hSw; (try dsimp only at hSw); obtain ⟨s0, s1, s2, s3, s4, s5, s6, s7, s8, s9⟩ := hSw; go_simp; try with_reducible rfl)
              try simp only [Act.put, List.setIfInBounds_toArray, List.set_cons_zero, List.set_cons_succ]
              refine hTakeK (i := 25) (v := ?v25R390) (some 101) rfl rfl (by kernel_rfl) (by kernel_rfl) (by kernel_rfl) (fun _ _ _ h => h) (by rfl) (by assumption) ?hy25R390 ?hn25R390
              case hy25R390 => (intro w hSw; (try dsimp only at hSw); obtain ⟨s0, s1, s2, s3, s4, s5, s6, s7, s8, s9⟩ := hSw; go_simp; try with_reducible rfl)
              try simp only [Act.put, List.setIfInBounds_toArray, List.set_cons_zero, List.set_cons_succ]
              refine hTakeK (i := 26) (v := ?v26R390) (some 102) rfl rfl (by kernel_rfl) (by kernel_rfl) (by kernel_rfl) (fun _ _ _ h => h) (by rfl) (by assumption) ?hy26R390 ?hn26R390
              case hy26R390 => (intro w hSw; (try dsimp only at hSw); obtain ⟨s0, s1, s2, s3, s4, s5, s6, s7, s8, s9⟩ := hSw; go_simp; try with_reducible rfl)
              try simp only [Act.put, List.setIfInBounds_toArray, List.set_cons_zero, List.set_cons_succ]
              refine hTakeK (i := 27) (v := ?v27R390) (some 103) rfl rfl (by kernel_rfl) (by kernel_rfl) (by kernel_rfl) (fun _ _ _ h => h) (by rfl) (by assumption) ?hy27R390 ?hn27R390
              case hy27R390 => (intro w hSw; (try dsimp only at hSw); obtain ⟨s0, s1, s2, s3, s4, s5, s6, s7, s8, s9⟩ := hSw; go_simp; try with_reducible rfl)
              try simp only [Act.put, List.setIfInBounds_toArray, List.set_cons_zero, List.set_cons_succ]
              refine hTakeK (i := 28) (v := ?v28R390) (some 104) rfl rfl (by kernel_rfl) (by kernel_rfl) (by kernel_rfl) (fun _ _ _ h => h) (by rfl) (by assumption) ?hy28R390 ?hn28R390
              case hy28R390 => (intro w hSw; (try dsimp only at hSw); obtain ⟨s0, s1, s2, s3, s4, s5, s6, s7, s8, s9⟩ := hSw; go_simp; try with_reducible rfl)
              try simp only [Act.put, List.setIfInBounds_toArray, List.set_cons_zero, List.set_cons_succ]
              refine hTakeK (i := 29) (v := ?v29R390) (some 105) rfl rfl (by kernel_rfl) (by kernel_rfl) (by kernel_rfl) (fun _ _ _ h => h) (by rfl) (by assumption) ?hy29R390 ?hn29R390
              case hy29R390 => (intro w hSw; (try dsimp only at hSw); obtain ⟨s0, s1, s2, s3, s4, s5, s6, s7, s8, s9⟩ := hSw; go_simp; try with_reducible rfl)
              try simp only [Act.put, List.setIfInBounds_toArray, List.set_cons_zero, List.set_cons_succ]
              refine hTakeK (i := 30) (v := ?v30R390) (some 106) rfl rfl (by kernel_rfl) (by kernel_rfl) (by kernel_rfl) (fun _ _ _ h => h) (by rfl) (by assumption) ?hy30R390 ?hn30R390
              case hy30R390 => (intro w hSw; (try dsimp only at hSw); obtain ⟨s0, s1, s2, s3, s4, s5, s6, s7, s8, s9⟩ := hSw; go_simp; try with_reducible rfl)
              try simp only [Act.put, List.setIfInBounds_toArray, List.set_cons_zero, List.set_cons_succ]
              refine hTakeK (i := 31) (v := ?v31R390) (some 107) rfl rfl (by kernel_rfl) (by kernel_rfl) (by kernel_rfl) (fun _ _ _ h => h) (by rfl) (by assumption) ?hy31R390 ?hn31R390
              case hy31R390 => (intro w hSw; (try dsimp only at hSw); obtain ⟨s0, s1, s2, s3, s4, s5, s6, s7, s8, s9⟩ := hSw; go_simp; try with_reducible rfl)
              try simp only [Act.put, List.setIfInBounds_toArray, List.set_cons_zero, List.set_cons_succ]
              refine hTakeK (i := 32) (v := ?v32R390) (some 108) rfl rfl (by kernel_rfl) (by kernel_rfl) (by kernel_rfl) (fun _ _ _ h => h) (by rfl) (by assumption) ?hy32R390 ?hn32R390
              case hy32R390 => (intro w hSw; (try dsimp only at hSw); obtain ⟨s0, s1, s2, s3, s4, s5, s6, s7, s8, s9⟩ := hSw; go_simp; try with_reducible rfl)
              try simp only [Act.put, List.setIfInBounds_toArray, List.set_cons_zero, List.set_cons_succ]
              refine wpAnyH_done (by kernel_rfl) ?_ _
              go_wp2
              go_roundw
              case rel => exact ⟨j + 1, by omega, by simp, HBN⟩
              case measure => simp [intOf]; omega
end Go.Proofs.Ytggbaanoagbmdaa
namespace Go.Proofs.Ytggbaanoagbmdaa.eventsApart
open Go.RowKit
theorem lawWalk (a0 : Option Addr) (len0 cap0 : Nat) (l0 : List Ev) (s1 s2 : ByteArray) (a3 : Option Addr) (len3 cap3 : Nat) (l3 : List ByteArray) (W : World) (w0 : IsE W a0 len0 cap0 l0) (_ : len0 * 64 ≤ 140737488355328) (h1 : s1.size ≤ 140737488351232) (_ : s2.size ≤ 140737488351232) (w3 : IsT W a3 len3 cap3 l3) (h3 : len3 ≤ 140737488355328 ∧ (cap3 = 0 ∨ ∃ b off, a3 = some ⟨b, off, none⟩)) :
    Calls Try.prog 6 #[.slice a0 len0 cap0, .string s1, .string s2, .slice a3 len3 cap3] W fun e W' => e = .returned (.bool true) ∧ Below W.heap.size W W' :=
  law_apart a0 len0 cap0 l0 s1 s2 a3 len3 cap3 l3 W w0 (by show _ ≤ 9223372036854775807; omega) w3 h3.1
end Go.Proofs.Ytggbaanoagbmdaa.eventsApart
