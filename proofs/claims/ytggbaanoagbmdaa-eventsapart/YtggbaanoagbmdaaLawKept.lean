/- EventsKept: the walk -/
import Derived.Test.YtggbaanoagbmdaaU
namespace Go.Proofs.Ytggbaanoagbmdaa
open Go.RowKit
abbrev bMore : ByteArray := ⟨#[109, 111, 114, 101]⟩
theorem isE_take {w : World} {a : Option Addr} {n c : Nat} {L : List Ev} (h : IsE w a n c L) (k : Nat) (hk : k ≤ n) : IsE w a k c (L.take k) := by
  refine ⟨by rw [List.length_take, h.1]; omega, Nat.le_trans hk h.2.1, h.2.2.1, fun x hx => h.2.2.2.1 x (List.mem_of_mem_take hx), fun i hi => ?_⟩
  obtain ⟨bb, off, e, hlt, hc⟩ := h.2.2.2.2 i (by omega)
  refine ⟨bb, off, e, hlt, ?_⟩
  rw [show (L.take k).getD i Ev0 = L.getD i Ev0 from by rw [List.getD_eq_getElem?_getD, List.getD_eq_getElem?_getD, List.getElem?_take, if_pos hi]]
  exact hc
theorem hTakeK {P : Program} {ops : Array Oper} {Q : Exit → Act → World → Prop} {md : Region.Mode} {S : World → Prop} {i : Nat} {oi : Oper} {v : Value} {fuel : Nat} {listed : Array Bool} {a : Act} {w : World} (d : Option Tmp) (hi : ops[i]? = some oi) (hd : oi.dst = d)
    (hs : Region.noSelect ops = true) (hf : Region.free md ops listed i = true) (hr : (Region.ready md ops listed).contains i = true) (hQ : ∀ c a w, Q (.panic c) (a.put d v) w → Q (.panic c) a w)
    (hwt : Region.wanted oi (yielded ops a.tmps) = true) (hS : S w) (hy : ∀ w, S w → (execOp a.eval oi).run P w = .ok (.value v) w)
    (h : wpAnyH P md ops Q S fuel (listed.setIfInBounds i true) (a.put d v) w) : wpAnyH P md ops Q S (fuel + 1) listed a w := by
  subst hd
  exact wpAnyH_take hi hs hf hr hQ (.inl ⟨hwt, hy⟩) hS h
theorem hSkipK {P : Program} {ops : Array Oper} {Q : Exit → Act → World → Prop} {md : Region.Mode} {S : World → Prop} {i : Nat} {oi : Oper} {fuel : Nat} {listed : Array Bool} {a : Act} {w : World} (d : Option Tmp) (hi : ops[i]? = some oi) (hd : oi.dst = d)
    (hs : Region.noSelect ops = true) (hf : Region.free md ops listed i = true) (hr : (Region.ready md ops listed).contains i = true) (hQ : ∀ c a w, Q (.panic c) (a.put d undef) w → Q (.panic c) a w)
    (hwt : Region.wanted oi (yielded ops a.tmps) = false) (hS : S w)
    (h : wpAnyH P md ops Q S fuel (listed.setIfInBounds i true) (a.put d undef) w) : wpAnyH P md ops Q S (fuel + 1) listed a w := by
  subst hd
  exact wpAnyH_take hi hs hf hr hQ (.inr ⟨hwt, rfl⟩) hS h
set_option maxRecDepth 40000 in
set_option maxHeartbeats 1000000 in
/-- EventsKept -/
theorem law_kept (a : Option Addr) (len cap : Nat) (l : List Ev) (s : ByteArray) (ex : Int) (m : ByteArray) (b : Option Addr) (dl dc : Nat) (data : List ByteArray) (w : World) (h : IsE w a len cap l) (hs : s.size ≤ maxLen) (hm : m.size ≤ maxLen) (hd : IsT w b dl dc data) (hdl : dl ≤ 140737488355328) :
    Calls Try.prog 5 #[.slice a len cap, .string s, .int .i64 ex, .string m, .slice b dl dc] w fun e w' => e = .returned (.bool true) ∧ Below w.heap.size w w' := by
  have HV := hide h
  have HD := hide hd
  have HS := hide (And.intro hs hm)
  have HLN := hide h.1
  have HDN := hide hd.1
  have HDL := hide hdl
  clear h hd hs hm hdl
  go_enter Try.func5, Try.ntmps5
  go_wp2_with fail
  refine (lives_any w).mono ?_
  rintro e w1 ⟨rfl, hb1⟩
  have HB1 := hide hb1
  clear hb1
  have C1 := hide (append_any a len cap l s ex m b dl dc data w1 (HV.out.below' HB1.out) (HD.out.below' HB1.out) HS.out.1 HS.out.2 HDL.out)
  go_wp2_with fail
  refine C1.out.mono ?_
  rintro e w2 ⟨a2, c2, rfl, hI2, hb2⟩
  have HI2 := hide hI2
  have HB2 : Hid (Below w.heap.size w w2) := hide (HB1.out.trans (hb2.mono HB1.out.size))
  clear hI2 hb2 C1
  by_cases hok : (appR l s ex m data).2.2 = 0
  case neg =>
    obtain ⟨e1, e2⟩ := app_err hok
    rw [e1, e2]
    generalize (appR l s ex m data).2.2 = er at *
    have hb : (er == 0) = false := by simpa using hok
    have hdd : decide (er = 0) = false := decide_eq_false hok
    rw [show ([] : List Ev).length = 0 from rfl]
    clear e1 e2 HI2
    go_wp2
    go_ret
    exact ⟨rfl, HB2.out⟩
  case pos =>
    obtain ⟨n, hn, hA, hAl, hl16⟩ := app_parts hok
    rw [hAl, hok]
    rw [hAl] at HI2
    have HG2 : Hid (checkE (appR l s ex m data).1 = 0) := hide (by unfold checkE; rw [if_pos (app_good hok)])
    have HAG := hide (app_again hok)
    have HLT := hide (app_late hok)
    have HAN : Hid (appR l s ex m data = ((appR l s ex m data).1, (appR l s ex m data).2.1, 0)) := hide (by rw [← hok])
    have HTK : Hid ((appR l s ex m data).1.take len = l) := hide (by rw [hA, ← HLN.out, List.take_left])
    have HGE : Hid (∀ i, i < n → (appR l s ex m data).1.getD (len + i) Ev0 = newAt len (cntL l s) s m data i) := hide (fun i hi => by rw [hA, ← HLN.out, getD_app_right, news_getD hi])
    rw [HLN.out] at hAl hl16 ⊢
    rw [HLN.out] at HI2
    rw [HDN.out] at hn
    have HAL := hide hAl
    clear hA hAl hok
    generalize appR l s ex m data = A at *
    obtain ⟨Al, An, Ae⟩ := A
    dsimp only at *
    have hc2 := HI2.out.2.1
    have hc2m : c2 ≤ 9223372036854775807 := HI2.out.2.2.1
    have C2 := hide (same_any a2 len c2 (Al.take len) a len cap l w2 (isE_take HI2.out len (by omega)) (HV.out.below' HB2.out))
    rw [HTK.out] at C2
    have hwl : IntKind.i64.wrap ((len : Int) + (dl : Int)) = (len : Int) + (dl : Int) := by
      have h2 := HDL.out
      simp [IntKind.wrap, IntKind.bits, IntKind.signed]; omega
    have hcap := HV.out.2.1
    by_cases hn0 : n = 0
    case pos =>
      subst hn0
      rw [Nat.add_zero] at *
      have HAL' : Al.length = len := HAL.out
      have HTL : Hid (Al = l) := hide (by have h1 := HTK.out; rwa [List.take_of_length_le (by omega)] at h1)
      have hlen2 : len ≤ cap := hcap
      have HBW : Hid (∀ W, Below w2.heap.size w2 W → Below w.heap.size w W) := hide (fun W hW => HB2.out.trans (hW.mono HB2.out.size))
      have hadr : c2 = len ∨ (len < c2 ∧ 0 = 0) := by omega
      have hexc : ex < 0 ∨ 0 ≤ ex := by omega
      have hsome : (∃ p, a2 = some p) ∨ (a2 = none ∧ len = 0) := by
        cases a2 with
        | none =>
          refine .inr ⟨rfl, ?_⟩
          by_cases h0 : 0 < len
          · obtain ⟨_, _, e, _⟩ := HI2.out.2.2.2.2 0 h0
            cases e
          · omega
        | some p => exact .inl ⟨p, rfl⟩
      rcases hsome with ⟨p, rfl⟩ | ⟨rfl, rfl⟩
      case inl =>
        go_wp2_with fail
        refine C2.out.mono ?_
        rintro e w3 ⟨⟨r, rfl, hr⟩, hb3⟩
        obtain rfl : r = true := by simpa using hr
        have HB23 := hide hb3
        have C3 := hide (check_any (some p) len c2 Al w3 (HI2.out.below' hb3))
        rw [HG2.out] at C3
        clear hb3 hr C2
        go_wp2_with fail
        refine C3.out.mono ?_
        rintro e w4 ⟨rfl, hb4⟩
        have HB24 : Hid (Below w2.heap.size w2 w4) := hide (HB23.out.trans (hb4.mono HB23.out.size))
        clear hb4 C3
        rcases hadr with hadr | ⟨hadr, _⟩
        case' inl => (have hadr2 := hadr.symm; clear hadr; subst hadr2)
        all_goals go_wp2
        all_goals
          go_loopw [84] (fun i wr => i = .int .i64 0 ∧ Hid (Below w2.heap.size w2 wr)) (fun _ _ => 0)
          case atStart => exact ⟨rfl, HB24⟩
          case round =>
            obtain ⟨rfl, HB⟩ := hrel
            have hpath : m.toList.isEmpty = true ∨ (m.toList.isEmpty = false ∧ dl = 0) ∨ (m.toList.isEmpty = false ∧ 0 < dl) := by
              cases m.toList.isEmpty
              · by_cases h0 : dl = 0
                · exact .inr (.inl ⟨rfl, h0⟩)
                · exact .inr (.inr ⟨rfl, by omega⟩)
              · exact .inl rfl
            rcases hpath with hme | ⟨hme, hd0⟩ | ⟨hme, hd0⟩
            · rcases hexc with hx | hx
              · have dx : decide (ex < 0) = true := decide_eq_true hx
                go_wp2
                go_ret
                exact ⟨rfl, HBW.out _ HB.out⟩
              · have dx : decide (ex < 0) = false := decide_eq_false (by omega)
                go_wp2
                go_ret
                exact ⟨rfl, HBW.out _ HB.out⟩
            · have hkp : decide ((0 : Int) < (dl : Int)) = false := decide_eq_false (by omega)
              rcases hexc with hx | hx
              · have dx : decide (ex < 0) = true := decide_eq_true hx
                go_wp2
                go_ret
                exact ⟨rfl, HBW.out _ HB.out⟩
              · have dx : decide (ex < 0) = false := decide_eq_false (by omega)
                go_wp2
                go_ret
                exact ⟨rfl, HBW.out _ HB.out⟩
            · have C4 := hide (append_any (some p) len _ Al s ex m b dl dc data wr (HI2.out.below' HB.out) (HD.out.below' (HBW.out _ HB.out)) HS.out.1 HS.out.2 HDL.out)
              rw [HAG.out hme (by rw [HDN.out]; omega)] at C4
              rw [HAN.out] at C4
              dsimp only at C4
              rw [HAL'] at C4
              have hkp : decide ((0 : Int) < (dl : Int)) = true := decide_eq_true (by omega)
              go_wp2_with fail
              refine C4.out.mono ?_
              rintro e w5 ⟨a5, c5, rfl, hI5, hb5⟩
              have HB5 : Hid (Below w2.heap.size w2 w5) := hide (HB.out.trans (hb5.mono HB.out.size))
              have C5 := hide (same_any (some p) len _ Al a5 len c5 Al w5 (HI2.out.below' HB5.out) hI5)
              clear hI5 hb5 C4
              go_wp2_with fail
              refine C5.out.mono ?_
              rintro e w6 ⟨⟨r, rfl, hr⟩, hb6⟩
              obtain rfl : r = true := by simpa using hr
              have HB6 : Hid (Below w2.heap.size w2 w6) := hide (HB5.out.trans (hb6.mono HB5.out.size))
              clear hb6 hr C5
              rcases hexc with hx | hx
              · have dx : decide (ex < 0) = true := decide_eq_true hx
                go_wp2
                go_ret
                exact ⟨rfl, HBW.out _ HB6.out⟩
              · have dx : decide (ex < 0) = false := decide_eq_false (by omega)
                go_wp2
                go_ret
                exact ⟨rfl, HBW.out _ HB6.out⟩
      case inr =>
        go_wp2_with fail
        refine C2.out.mono ?_
        rintro e w3 ⟨⟨r, rfl, hr⟩, hb3⟩
        obtain rfl : r = true := by simpa using hr
        have HB23 := hide hb3
        have C3 := hide (check_any none 0 c2 Al w3 (HI2.out.below' hb3))
        rw [HG2.out] at C3
        clear hb3 hr C2
        go_wp2_with fail
        refine C3.out.mono ?_
        rintro e w4 ⟨rfl, hb4⟩
        have HB24 : Hid (Below w2.heap.size w2 w4) := hide (HB23.out.trans (hb4.mono HB23.out.size))
        clear hb4 C3
        rcases hadr with hadr | ⟨hadr, _⟩
        case' inl => (have hadr2 := hadr.symm; clear hadr; subst hadr2)
        all_goals go_wp2
        all_goals
          go_loopw [84] (fun i wr => i = .int .i64 0 ∧ Hid (Below w2.heap.size w2 wr)) (fun _ _ => 0)
          case atStart => exact ⟨rfl, HB24⟩
          case round =>
            obtain ⟨rfl, HB⟩ := hrel
            have hpath : m.toList.isEmpty = true ∨ (m.toList.isEmpty = false ∧ dl = 0) ∨ (m.toList.isEmpty = false ∧ 0 < dl) := by
              cases m.toList.isEmpty
              · by_cases h0 : dl = 0
                · exact .inr (.inl ⟨rfl, h0⟩)
                · exact .inr (.inr ⟨rfl, by omega⟩)
              · exact .inl rfl
            rcases hpath with hme | ⟨hme, hd0⟩ | ⟨hme, hd0⟩
            · rcases hexc with hx | hx
              · have dx : decide (ex < 0) = true := decide_eq_true hx
                go_wp2
                go_ret
                exact ⟨rfl, HBW.out _ HB.out⟩
              · have dx : decide (ex < 0) = false := decide_eq_false (by omega)
                go_wp2
                go_ret
                exact ⟨rfl, HBW.out _ HB.out⟩
            · have hkp : decide ((0 : Int) < (dl : Int)) = false := decide_eq_false (by omega)
              rcases hexc with hx | hx
              · have dx : decide (ex < 0) = true := decide_eq_true hx
                go_wp2
                go_ret
                exact ⟨rfl, HBW.out _ HB.out⟩
              · have dx : decide (ex < 0) = false := decide_eq_false (by omega)
                go_wp2
                go_ret
                exact ⟨rfl, HBW.out _ HB.out⟩
            · have C4 := hide (append_any none 0 _ Al s ex m b dl dc data wr (HI2.out.below' HB.out) (HD.out.below' (HBW.out _ HB.out)) HS.out.1 HS.out.2 HDL.out)
              rw [HAG.out hme (by rw [HDN.out]; omega)] at C4
              rw [HAN.out] at C4
              dsimp only at C4
              rw [HAL'] at C4
              have hkp : decide ((0 : Int) < (dl : Int)) = true := decide_eq_true (by omega)
              go_wp2_with fail
              refine C4.out.mono ?_
              rintro e w5 ⟨a5, c5, rfl, hI5, hb5⟩
              have HB5 : Hid (Below w2.heap.size w2 w5) := hide (HB.out.trans (hb5.mono HB.out.size))
              have C5 := hide (same_any none 0 _ Al a5 0 c5 Al w5 (HI2.out.below' HB5.out) hI5)
              clear hI5 hb5 C4
              go_wp2_with fail
              refine C5.out.mono ?_
              rintro e w6 ⟨⟨r, rfl, hr⟩, hb6⟩
              obtain rfl : r = true := by simpa using hr
              have HB6 : Hid (Below w2.heap.size w2 w6) := hide (HB5.out.trans (hb6.mono HB5.out.size))
              clear hb6 hr C5
              rcases hexc with hx | hx
              · have dx : decide (ex < 0) = true := decide_eq_true hx
                go_wp2
                go_ret
                exact ⟨rfl, HBW.out _ HB6.out⟩
              · have dx : decide (ex < 0) = false := decide_eq_false (by omega)
                go_wp2
                go_ret
                exact ⟨rfl, HBW.out _ HB6.out⟩
    case neg =>
      obtain rfl : n = dl := by omega
      obtain ⟨bb, off, rfl, hbb, _⟩ := HI2.out.2.2.2.2 0 (by omega)
      go_wp2_with fail
      refine C2.out.mono ?_
      rintro e w3 ⟨⟨r, rfl, hr⟩, hb3⟩
      obtain rfl : r = true := by simpa using hr
      have HB23 := hide hb3
      have C3 := hide (check_any (some ⟨bb, off, none⟩) (len + n) c2 Al w3 (HI2.out.below' hb3))
      rw [HG2.out] at C3
      clear hb3 hr C2
      go_wp2_with fail
      refine C3.out.mono ?_
      rintro e w4 ⟨rfl, hb4⟩
      have HB24 : Hid (Below w2.heap.size w2 w4) := hide (HB23.out.trans (hb4.mono HB23.out.size))
      clear hb4 C3
      have hdn : n ≤ dc := HD.out.2.1
      have hdm : dc ≤ 9223372036854775807 := HD.out.2.2.1
      have HBW : Hid (∀ W, Below w2.heap.size w2 W → Below w.heap.size w W) := hide (fun W hW => HB2.out.trans (hW.mono HB2.out.size))
      go_wp2
      go_loopw [84] (fun i wr => ∃ k : Nat, k ≤ n ∧ i = .int .i64 k ∧ Hid (Below w2.heap.size w2 wr)) (fun i _ => n - (intOf i).toNat)
      case atStart => exact ⟨0, Nat.zero_le _, rfl, HB24⟩
      case round =>
        obtain ⟨k, hk, rfl, HB⟩ := hrel
        by_cases hlt : k < n
        case pos =>
          have hgk := HGE.out k hlt
          obtain ⟨bb', off', e, _, z0, z1, z2, z3, z4⟩ := (HI2.out.below' HB.out).2.2.2.2 (len + k) (by omega)
          cases e
          obtain ⟨bd, od, rfl, _, y0⟩ := (HD.out.below' (HBW.out _ HB.out)).2.2.2.2 k hlt
          rw [hgk, show off + (len + k) * 5 = off + len * 5 + k * 5 by omega] at z0 z1 z2 z3 z4
          simp only [newAt] at z0 z1 z2 z3 z4
          generalize data.getD k ⟨#[]⟩ = dk at *
          generalize hmm : (if k = 0 then m else (⟨#[]⟩ : ByteArray)) = mm at *
          have HMM : Hid (0 < k → mm.toList.isEmpty = true) := hide (fun h => by rw [← hmm, if_neg (by omega), ByteArray.toList_eq]; rfl)
          clear hgk hmm
          have HAL2 := hide (fun o : Obj => HB.out.alloc HB.out.size o)
          have hnew := heap_alloc_new wr (.cells #[.string s, .int .i64 ((cntL l s : Int) + (k : Int) + 1), .int .i64 ((len : Int) + (k : Int) + 1), .string mm, .string dk] 41)
          generalize hW6 : wr.alloc (.cells #[.string s, .int .i64 ((cntL l s : Int) + (k : Int) + 1), .int .i64 ((len : Int) + (k : Int) + 1), .string mm, .string dk] 41) = W6 at *
          have HS0 : Hid (W6.drew.cell? ⟨wr.heap.size, 0, none⟩ = some (.string s) ∧ W6.drew.cell? ⟨wr.heap.size, 3, none⟩ = some (.string mm) ∧ W6.drew.cell? ⟨wr.heap.size, 4, none⟩ = some (.string dk) ∧ W6.drew.cell? ⟨bd, od + k, none⟩ = some (.string dk)) := hide ⟨cell_blk (j := 0) hnew rfl, cell_blk (j := 3) hnew rfl, cell_blk (j := 4) hnew rfl, by rw [← hW6]; exact (World.grownBy_alloc wr _ none).cell y0 (by simp)⟩
          have HB6 : Hid (Below w2.heap.size w2 W6.drew) := hide (by rw [← hW6]; exact (HAL2.out _).drew)
          subst hW6
          go_wp2_with fail
          generalize wr.heap.size = r at *
          generalize wr.alloc (.cells #[.string s, .int .i64 ((cntL l s : Int) + (k : Int) + 1), .int .i64 ((len : Int) + (k : Int) + 1), .string mm, .string dk] 41) = W6 at *
          clear hnew HAL2
          by_cases hk0 : k = 0
          case pos =>
            subst hk0
            have HSS : Hid (W6.drew.cell? ⟨r, 0, none⟩ = some (.string s) ∧ W6.drew.cell? ⟨r, 3, none⟩ = some (.string mm) ∧ W6.drew.cell? ⟨r, 4, none⟩ = some (.string dk) ∧ W6.drew.cell? ⟨bd, od, none⟩ = some (.string dk)) := hide (by simpa using HS0.out)
            refine wp_region_held_drew (S := (fun W : World => W.cell? ⟨r, 0, none⟩ = some (.string s) ∧ W.cell? ⟨r, 3, none⟩ = some (.string mm) ∧ W.cell? ⟨r, 4, none⟩ = some (.string dk) ∧ W.cell? ⟨bd, od, none⟩ = some (.string dk))) (by kernel_rfl) ?hSpa (fun hHeld => ?_)
            case hSpa => exact HSS.out
            refine hTakeK (i := 0) (v := ?v0pa) (some 89) rfl rfl (by kernel_rfl) (by kernel_rfl) (by kernel_rfl) (fun _ _ _ h => h) (by rfl) (by assumption) ?hy0pa ?hn0pa
            case hy0pa => (intro w hSw; (try dsimp only at hSw); go_simp; try with_reducible rfl)
            try simp only [Act.put, List.setIfInBounds_toArray, List.set_cons_zero, List.set_cons_succ]
            refine hTakeK (i := 1) (v := ?v1pa) (some 90) rfl rfl (by kernel_rfl) (by kernel_rfl) (by kernel_rfl) (fun _ _ _ h => h) (by rfl) (by assumption) ?hy1pa ?hn1pa
            case hy1pa => (intro w hSw; (try dsimp only at hSw); go_simp; try with_reducible rfl)
            try simp only [Act.put, List.setIfInBounds_toArray, List.set_cons_zero, List.set_cons_succ]
            refine hTakeK (i := 2) (v := ?v2pa) (some 91) rfl rfl (by kernel_rfl) (by kernel_rfl) (by kernel_rfl) (fun _ _ _ h => h) (by rfl) (by assumption) ?hy2pa ?hn2pa
            case hy2pa => (intro w hSw; (try dsimp only at hSw); go_simp; try with_reducible rfl)
            try simp only [Act.put, List.setIfInBounds_toArray, List.set_cons_zero, List.set_cons_succ]
            refine hTakeK (i := 3) (v := ?v3pa) (some 92) rfl rfl (by kernel_rfl) (by kernel_rfl) (by kernel_rfl) (fun _ _ _ h => h) (by rfl) (by assumption) ?hy3pa ?hn3pa
            case hy3pa => (intro w hSw; (try dsimp only at hSw); go_simp; try with_reducible rfl)
            try simp only [Act.put, List.setIfInBounds_toArray, List.set_cons_zero, List.set_cons_succ]
            refine hTakeK (i := 4) (v := ?v4pa) (some 93) rfl rfl (by kernel_rfl) (by kernel_rfl) (by kernel_rfl) (fun _ _ _ h => h) (by rfl) (by assumption) ?hy4pa ?hn4pa
            case hy4pa => (intro w hSw; (try dsimp only at hSw); go_simp; try with_reducible rfl)
            try simp only [Act.put, List.setIfInBounds_toArray, List.set_cons_zero, List.set_cons_succ]
            refine hTakeK (i := 5) (v := ?v5pa) (some 94) rfl rfl (by kernel_rfl) (by kernel_rfl) (by kernel_rfl) (fun _ _ _ h => h) (by rfl) (by assumption) ?hy5pa ?hn5pa
            case hy5pa => (intro w hSw; (try dsimp only at hSw); go_simp; try with_reducible rfl)
            try simp only [Act.put, List.setIfInBounds_toArray, List.set_cons_zero, List.set_cons_succ]
            refine hTakeK (i := 6) (v := ?v6pa) (some 95) rfl rfl (by kernel_rfl) (by kernel_rfl) (by kernel_rfl) (fun _ _ _ h => h) (by rfl) (by assumption) ?hy6pa ?hn6pa
            case hy6pa => (intro w hSw; (try dsimp only at hSw); go_simp; try with_reducible rfl)
            try simp only [Act.put, List.setIfInBounds_toArray, List.set_cons_zero, List.set_cons_succ]
            refine hTakeK (i := 7) (v := ?v7pa) (some 96) rfl rfl (by kernel_rfl) (by kernel_rfl) (by kernel_rfl) (fun _ _ _ h => h) (by rfl) (by assumption) ?hy7pa ?hn7pa
            case hy7pa => (intro w hSw; (try dsimp only at hSw); go_simp; try with_reducible rfl)
            try simp only [Act.put, List.setIfInBounds_toArray, List.set_cons_zero, List.set_cons_succ]
            refine hTakeK (i := 8) (v := ?v8pa) (some 97) rfl rfl (by kernel_rfl) (by kernel_rfl) (by kernel_rfl) (fun _ _ _ h => h) (by rfl) (by assumption) ?hy8pa ?hn8pa
            case hy8pa => (intro w hSw; (try dsimp only at hSw); go_simp; try with_reducible rfl)
            try simp only [Act.put, List.setIfInBounds_toArray, List.set_cons_zero, List.set_cons_succ]
            refine hTakeK (i := 9) (v := ?v9pa) (some 98) rfl rfl (by kernel_rfl) (by kernel_rfl) (by kernel_rfl) (fun _ _ _ h => h) (by rfl) (by assumption) ?hy9pa ?hn9pa
            case hy9pa => (intro w hSw; (try dsimp only at hSw); go_simp; try with_reducible rfl)
            try simp only [Act.put, List.setIfInBounds_toArray, List.set_cons_zero, List.set_cons_succ]
            refine hTakeK (i := 10) (v := ?v10pa) (some 99) rfl rfl (by kernel_rfl) (by kernel_rfl) (by kernel_rfl) (fun _ _ _ h => h) (by rfl) (by assumption) ?hy10pa ?hn10pa
            case hy10pa => (intro w hSw; (try dsimp only at hSw); go_simp; try with_reducible rfl)
            try simp only [Act.put, List.setIfInBounds_toArray, List.set_cons_zero, List.set_cons_succ]
            refine hTakeK (i := 11) (v := ?v11pa) (some 100) rfl rfl (by kernel_rfl) (by kernel_rfl) (by kernel_rfl) (fun _ _ _ h => h) (by rfl) (by assumption) ?hy11pa ?hn11pa
            case hy11pa => (intro w hSw; (try dsimp only at hSw); go_simp; try with_reducible rfl)
            try simp only [Act.put, List.setIfInBounds_toArray, List.set_cons_zero, List.set_cons_succ]
            refine hTakeK (i := 12) (v := ?v12pa) (some 101) rfl rfl (by kernel_rfl) (by kernel_rfl) (by kernel_rfl) (fun _ _ _ h => h) (by rfl) (by assumption) ?hy12pa ?hn12pa
            case hy12pa => (intro w hSw; (try dsimp only at hSw); go_simp; try with_reducible rfl)
            try simp only [Act.put, List.setIfInBounds_toArray, List.set_cons_zero, List.set_cons_succ]
            refine hTakeK (i := 13) (v := ?v13pa) (some 102) rfl rfl (by kernel_rfl) (by kernel_rfl) (by kernel_rfl) (fun _ _ _ h => h) (by rfl) (by assumption) ?hy13pa ?hn13pa
            case hy13pa => (intro w hSw; (try dsimp only at hSw); go_simp; try with_reducible rfl)
            try simp only [Act.put, List.setIfInBounds_toArray, List.set_cons_zero, List.set_cons_succ]
            refine hTakeK (i := 14) (v := ?v14pa) (some 103) rfl rfl (by kernel_rfl) (by kernel_rfl) (by kernel_rfl) (fun _ _ _ h => h) (by rfl) (by assumption) ?hy14pa ?hn14pa
            case hy14pa => (intro w hSw; (try dsimp only at hSw); go_simp; try with_reducible rfl)
            try simp only [Act.put, List.setIfInBounds_toArray, List.set_cons_zero, List.set_cons_succ]
            refine hTakeK (i := 15) (v := ?v15pa) (some 104) rfl rfl (by kernel_rfl) (by kernel_rfl) (by kernel_rfl) (fun _ _ _ h => h) (by rfl) (by assumption) ?hy15pa ?hn15pa
            case hy15pa => (intro w hSw; (try dsimp only at hSw); go_simp; try with_reducible rfl)
            try simp only [Act.put, List.setIfInBounds_toArray, List.set_cons_zero, List.set_cons_succ]
            refine hTakeK (i := 16) (v := ?v16pa) (some 105) rfl rfl (by kernel_rfl) (by kernel_rfl) (by kernel_rfl) (fun _ _ _ h => h) (by rfl) (by assumption) ?hy16pa ?hn16pa
            case hy16pa => (intro w hSw; (try dsimp only at hSw); go_simp; try with_reducible rfl)
            try simp only [Act.put, List.setIfInBounds_toArray, List.set_cons_zero, List.set_cons_succ]
            refine hSkipK (i := 17) (some 106) rfl rfl (by kernel_rfl) (by kernel_rfl) (by kernel_rfl) (fun _ _ _ h => h) (by rfl) (by assumption) ?_
            try simp only [Act.put, List.setIfInBounds_toArray, List.set_cons_zero, List.set_cons_succ]
            refine hSkipK (i := 18) (some 107) rfl rfl (by kernel_rfl) (by kernel_rfl) (by kernel_rfl) (fun _ _ _ h => h) (by rfl) (by assumption) ?_
            try simp only [Act.put, List.setIfInBounds_toArray, List.set_cons_zero, List.set_cons_succ]
            refine hSkipK (i := 19) (some 108) rfl rfl (by kernel_rfl) (by kernel_rfl) (by kernel_rfl) (fun _ _ _ h => h) (by rfl) (by assumption) ?_
            try simp only [Act.put, List.setIfInBounds_toArray, List.set_cons_zero, List.set_cons_succ]
            refine hTakeK (i := 20) (v := ?v20pa) (some 109) rfl rfl (by kernel_rfl) (by kernel_rfl) (by kernel_rfl) (fun _ _ _ h => h) (by rfl) (by assumption) ?hy20pa ?hn20pa
            case hy20pa => (intro w hSw; (try dsimp only at hSw); go_simp; try with_reducible rfl)
            try simp only [Act.put, List.setIfInBounds_toArray, List.set_cons_zero, List.set_cons_succ]
            refine hTakeK (i := 21) (v := ?v21pa) (some 110) rfl rfl (by kernel_rfl) (by kernel_rfl) (by kernel_rfl) (fun _ _ _ h => h) (by rfl) (by assumption) ?hy21pa ?hn21pa
            case hy21pa => (intro w hSw; (try dsimp only at hSw); go_simp; try with_reducible rfl)
            try simp only [Act.put, List.setIfInBounds_toArray, List.set_cons_zero, List.set_cons_succ]
            refine wpAnyH_done (by kernel_rfl) ?_ _
            go_wp2
            go_roundw
            case rel => exact ⟨1, by omega, by simp, HB6⟩
            case measure => simp [intOf]; omega
          case neg =>
            have hkd : decide ((0 : Int) < (k : Int)) = true := decide_eq_true (by omega)
            have hkn : decide (0 < k) = true := decide_eq_true (by omega)
            have hme := HMM.out (by omega)
            have HSS := HS0
            refine wp_region_held_drew (S := (fun W : World => W.cell? ⟨r, 0, none⟩ = some (.string s) ∧ W.cell? ⟨r, 3, none⟩ = some (.string mm) ∧ W.cell? ⟨r, 4, none⟩ = some (.string dk) ∧ W.cell? ⟨bd, od + k, none⟩ = some (.string dk))) (by kernel_rfl) ?hSpb (fun hHeld => ?_)
            case hSpb => exact HSS.out
            refine hTakeK (i := 0) (v := ?v0pb) (some 89) rfl rfl (by kernel_rfl) (by kernel_rfl) (by kernel_rfl) (fun _ _ _ h => h) (by rfl) (by assumption) ?hy0pb ?hn0pb
            case hy0pb => (intro w hSw; (try dsimp only at hSw); go_simp; try with_reducible rfl)
            try simp only [Act.put, List.setIfInBounds_toArray, List.set_cons_zero, List.set_cons_succ]
            refine hTakeK (i := 1) (v := ?v1pb) (some 90) rfl rfl (by kernel_rfl) (by kernel_rfl) (by kernel_rfl) (fun _ _ _ h => h) (by rfl) (by assumption) ?hy1pb ?hn1pb
            case hy1pb => (intro w hSw; (try dsimp only at hSw); go_simp; try with_reducible rfl)
            try simp only [Act.put, List.setIfInBounds_toArray, List.set_cons_zero, List.set_cons_succ]
            refine hTakeK (i := 2) (v := ?v2pb) (some 91) rfl rfl (by kernel_rfl) (by kernel_rfl) (by kernel_rfl) (fun _ _ _ h => h) (by rfl) (by assumption) ?hy2pb ?hn2pb
            case hy2pb => (intro w hSw; (try dsimp only at hSw); go_simp; try with_reducible rfl)
            try simp only [Act.put, List.setIfInBounds_toArray, List.set_cons_zero, List.set_cons_succ]
            refine hTakeK (i := 3) (v := ?v3pb) (some 92) rfl rfl (by kernel_rfl) (by kernel_rfl) (by kernel_rfl) (fun _ _ _ h => h) (by rfl) (by assumption) ?hy3pb ?hn3pb
            case hy3pb => (intro w hSw; (try dsimp only at hSw); go_simp; try with_reducible rfl)
            try simp only [Act.put, List.setIfInBounds_toArray, List.set_cons_zero, List.set_cons_succ]
            refine hTakeK (i := 4) (v := ?v4pb) (some 93) rfl rfl (by kernel_rfl) (by kernel_rfl) (by kernel_rfl) (fun _ _ _ h => h) (by rfl) (by assumption) ?hy4pb ?hn4pb
            case hy4pb => (intro w hSw; (try dsimp only at hSw); go_simp; try with_reducible rfl)
            try simp only [Act.put, List.setIfInBounds_toArray, List.set_cons_zero, List.set_cons_succ]
            refine hTakeK (i := 5) (v := ?v5pb) (some 94) rfl rfl (by kernel_rfl) (by kernel_rfl) (by kernel_rfl) (fun _ _ _ h => h) (by rfl) (by assumption) ?hy5pb ?hn5pb
            case hy5pb => (intro w hSw; (try dsimp only at hSw); go_simp; try with_reducible rfl)
            try simp only [Act.put, List.setIfInBounds_toArray, List.set_cons_zero, List.set_cons_succ]
            refine hTakeK (i := 6) (v := ?v6pb) (some 95) rfl rfl (by kernel_rfl) (by kernel_rfl) (by kernel_rfl) (fun _ _ _ h => h) (by rfl) (by assumption) ?hy6pb ?hn6pb
            case hy6pb => (intro w hSw; (try dsimp only at hSw); go_simp; try with_reducible rfl)
            try simp only [Act.put, List.setIfInBounds_toArray, List.set_cons_zero, List.set_cons_succ]
            refine hTakeK (i := 7) (v := ?v7pb) (some 96) rfl rfl (by kernel_rfl) (by kernel_rfl) (by kernel_rfl) (fun _ _ _ h => h) (by rfl) (by assumption) ?hy7pb ?hn7pb
            case hy7pb => (intro w hSw; (try dsimp only at hSw); go_simp; try with_reducible rfl)
            try simp only [Act.put, List.setIfInBounds_toArray, List.set_cons_zero, List.set_cons_succ]
            refine hTakeK (i := 8) (v := ?v8pb) (some 97) rfl rfl (by kernel_rfl) (by kernel_rfl) (by kernel_rfl) (fun _ _ _ h => h) (by rfl) (by assumption) ?hy8pb ?hn8pb
            case hy8pb => (intro w hSw; (try dsimp only at hSw); go_simp; try with_reducible rfl)
            try simp only [Act.put, List.setIfInBounds_toArray, List.set_cons_zero, List.set_cons_succ]
            refine hTakeK (i := 9) (v := ?v9pb) (some 98) rfl rfl (by kernel_rfl) (by kernel_rfl) (by kernel_rfl) (fun _ _ _ h => h) (by rfl) (by assumption) ?hy9pb ?hn9pb
            case hy9pb => (intro w hSw; (try dsimp only at hSw); go_simp; try with_reducible rfl)
            try simp only [Act.put, List.setIfInBounds_toArray, List.set_cons_zero, List.set_cons_succ]
            refine hTakeK (i := 10) (v := ?v10pb) (some 99) rfl rfl (by kernel_rfl) (by kernel_rfl) (by kernel_rfl) (fun _ _ _ h => h) (by rfl) (by assumption) ?hy10pb ?hn10pb
            case hy10pb => (intro w hSw; (try dsimp only at hSw); go_simp; try with_reducible rfl)
            try simp only [Act.put, List.setIfInBounds_toArray, List.set_cons_zero, List.set_cons_succ]
            refine hTakeK (i := 11) (v := ?v11pb) (some 100) rfl rfl (by kernel_rfl) (by kernel_rfl) (by kernel_rfl) (fun _ _ _ h => h) (by rfl) (by assumption) ?hy11pb ?hn11pb
            case hy11pb => (intro w hSw; (try dsimp only at hSw); go_simp; try with_reducible rfl)
            try simp only [Act.put, List.setIfInBounds_toArray, List.set_cons_zero, List.set_cons_succ]
            refine hTakeK (i := 12) (v := ?v12pb) (some 101) rfl rfl (by kernel_rfl) (by kernel_rfl) (by kernel_rfl) (fun _ _ _ h => h) (by rfl) (by assumption) ?hy12pb ?hn12pb
            case hy12pb => (intro w hSw; (try dsimp only at hSw); go_simp; try with_reducible rfl)
            try simp only [Act.put, List.setIfInBounds_toArray, List.set_cons_zero, List.set_cons_succ]
            refine hTakeK (i := 13) (v := ?v13pb) (some 102) rfl rfl (by kernel_rfl) (by kernel_rfl) (by kernel_rfl) (fun _ _ _ h => h) (by rfl) (by assumption) ?hy13pb ?hn13pb
            case hy13pb => (intro w hSw; (try dsimp only at hSw); go_simp; try with_reducible rfl)
            try simp only [Act.put, List.setIfInBounds_toArray, List.set_cons_zero, List.set_cons_succ]
            refine hTakeK (i := 14) (v := ?v14pb) (some 103) rfl rfl (by kernel_rfl) (by kernel_rfl) (by kernel_rfl) (fun _ _ _ h => h) (by rfl) (by assumption) ?hy14pb ?hn14pb
            case hy14pb => (intro w hSw; (try dsimp only at hSw); go_simp; try with_reducible rfl)
            try simp only [Act.put, List.setIfInBounds_toArray, List.set_cons_zero, List.set_cons_succ]
            refine hTakeK (i := 15) (v := ?v15pb) (some 104) rfl rfl (by kernel_rfl) (by kernel_rfl) (by kernel_rfl) (fun _ _ _ h => h) (by rfl) (by assumption) ?hy15pb ?hn15pb
            case hy15pb => (intro w hSw; (try dsimp only at hSw); go_simp; try with_reducible rfl)
            try simp only [Act.put, List.setIfInBounds_toArray, List.set_cons_zero, List.set_cons_succ]
            refine hTakeK (i := 16) (v := ?v16pb) (some 105) rfl rfl (by kernel_rfl) (by kernel_rfl) (by kernel_rfl) (fun _ _ _ h => h) (by rfl) (by assumption) ?hy16pb ?hn16pb
            case hy16pb => (intro w hSw; (try dsimp only at hSw); go_simp; try with_reducible rfl)
            try simp only [Act.put, List.setIfInBounds_toArray, List.set_cons_zero, List.set_cons_succ]
            refine hTakeK (i := 17) (v := ?v17pb) (some 106) rfl rfl (by kernel_rfl) (by kernel_rfl) (by kernel_rfl) (fun _ _ _ h => h) (by rfl) (by assumption) ?hy17pb ?hn17pb
            case hy17pb => (intro w hSw; (try dsimp only at hSw); go_simp; try with_reducible rfl)
            try simp only [Act.put, List.setIfInBounds_toArray, List.set_cons_zero, List.set_cons_succ]
            refine hTakeK (i := 18) (v := ?v18pb) (some 107) rfl rfl (by kernel_rfl) (by kernel_rfl) (by kernel_rfl) (fun _ _ _ h => h) (by rfl) (by assumption) ?hy18pb ?hn18pb
            case hy18pb => (intro w hSw; (try dsimp only at hSw); go_simp; try with_reducible rfl)
            try simp only [Act.put, List.setIfInBounds_toArray, List.set_cons_zero, List.set_cons_succ]
            refine hTakeK (i := 19) (v := ?v19pb) (some 108) rfl rfl (by kernel_rfl) (by kernel_rfl) (by kernel_rfl) (fun _ _ _ h => h) (by rfl) (by assumption) ?hy19pb ?hn19pb
            case hy19pb => (intro w hSw; (try dsimp only at hSw); go_simp; try with_reducible rfl)
            try simp only [Act.put, List.setIfInBounds_toArray, List.set_cons_zero, List.set_cons_succ]
            refine hTakeK (i := 20) (v := ?v20pb) (some 109) rfl rfl (by kernel_rfl) (by kernel_rfl) (by kernel_rfl) (fun _ _ _ h => h) (by rfl) (by assumption) ?hy20pb ?hn20pb
            case hy20pb => (intro w hSw; (try dsimp only at hSw); go_simp; try with_reducible rfl)
            try simp only [Act.put, List.setIfInBounds_toArray, List.set_cons_zero, List.set_cons_succ]
            refine hTakeK (i := 21) (v := ?v21pb) (some 110) rfl rfl (by kernel_rfl) (by kernel_rfl) (by kernel_rfl) (fun _ _ _ h => h) (by rfl) (by assumption) ?hy21pb ?hn21pb
            case hy21pb => (intro w hSw; (try dsimp only at hSw); go_simp; try with_reducible rfl)
            try simp only [Act.put, List.setIfInBounds_toArray, List.set_cons_zero, List.set_cons_succ]
            refine wpAnyH_done (by kernel_rfl) ?_ _
            go_wp2
            go_roundw
            case rel => exact ⟨k + 1, by omega, by simp, HB6⟩
            case measure => simp [intOf]; omega
        case neg =>
          obtain rfl : k = n := by omega
          have HAL' := HAL.out
          have hexc : ex < 0 ∨ 0 ≤ ex := by omega
          cases hme : m.toList.isEmpty
          case false =>
            have C4 := hide (append_any (some ⟨bb, off, none⟩) (len + k) c2 Al s ex m b k dc data wr (HI2.out.below' HB.out) (HD.out.below' (HBW.out _ HB.out)) HS.out.1 HS.out.2 HDL.out)
            rw [HAG.out hme (by rw [HDN.out]; omega)] at C4
            rw [HAN.out] at C4
            dsimp only at C4
            rw [HAL'] at C4
            have hkp : decide ((0 : Int) < (k : Int)) = true := decide_eq_true (by omega)
            go_wp2_with fail
            refine C4.out.mono ?_
            rintro e w5 ⟨a5, c5, rfl, hI5, hb5⟩
            have HB5 : Hid (Below w2.heap.size w2 w5) := hide (HB.out.trans (hb5.mono HB.out.size))
            have C5 := hide (same_any (some ⟨bb, off, none⟩) (len + k) c2 Al a5 (len + k) c5 Al w5 (HI2.out.below' HB5.out) hI5)
            clear hI5 hb5 C4
            go_wp2_with fail
            refine C5.out.mono ?_
            rintro e w6 ⟨⟨r, rfl, hr⟩, hb6⟩
            obtain rfl : r = true := by simpa using hr
            have HB6 : Hid (Below w2.heap.size w2 w6) := hide (HB5.out.trans (hb6.mono HB5.out.size))
            clear hb6 hr C5
            rcases hexc with hx | hx
            · have dx : decide (ex < 0) = true := decide_eq_true hx
              go_wp2
              go_ret
              exact ⟨rfl, HBW.out _ HB6.out⟩
            · have dx : decide (ex < 0) = false := decide_eq_false (by omega)
              have hne : ((len : Int) + (k : Int) == (len : Int)) = false := by simp; omega
              have HB7 : Hid (Below w2.heap.size w2 (w6.alloc (.cells #[.string bMore] 9))) := hide (HB6.out.alloc HB6.out.size _)
              have C6 := hide (append_any (some ⟨bb, off, none⟩) (len + k) c2 Al s ex b0 (some ⟨w6.heap.size, 0, none⟩) 1 1 [bMore] _ (HI2.out.below' HB7.out) (isT_one bMore (by decide)) HS.out.1 (by decide) (by decide))
              rw [HLT.out hx (by rw [HAL', HLN.out]; omega) bMore rfl] at C6
              go_wp2_with fail
              refine C6.out.mono ?_
              rintro e w8 ⟨a8, c8, rfl, _, hb8⟩
              have HB8 : Hid (Below w2.heap.size w2 w8) := hide (HB7.out.trans (hb8.mono HB7.out.size))
              clear hb8 C6
              go_wp2
              go_ret
              exact ⟨rfl, HBW.out _ HB8.out⟩
          case true =>
            rcases hexc with hx | hx
            · have dx : decide (ex < 0) = true := decide_eq_true hx
              go_wp2
              go_ret
              exact ⟨rfl, HBW.out _ HB.out⟩
            · have dx : decide (ex < 0) = false := decide_eq_false (by omega)
              have hne : ((len : Int) + (k : Int) == (len : Int)) = false := by simp; omega
              have HB7 : Hid (Below w2.heap.size w2 (wr.alloc (.cells #[.string bMore] 9))) := hide (HB.out.alloc HB.out.size _)
              have C6 := hide (append_any (some ⟨bb, off, none⟩) (len + k) c2 Al s ex b0 (some ⟨wr.heap.size, 0, none⟩) 1 1 [bMore] _ (HI2.out.below' HB7.out) (isT_one bMore (by decide)) HS.out.1 (by decide) (by decide))
              rw [HLT.out hx (by rw [HAL', HLN.out]; omega) bMore rfl] at C6
              go_wp2_with fail
              refine C6.out.mono ?_
              rintro e w8 ⟨a8, c8, rfl, _, hb8⟩
              have HB8 : Hid (Below w2.heap.size w2 w8) := hide (HB7.out.trans (hb8.mono HB7.out.size))
              clear hb8 C6
              go_wp2
              go_ret
              exact ⟨rfl, HBW.out _ HB8.out⟩
end Go.Proofs.Ytggbaanoagbmdaa
namespace Go.Proofs.Ytggbaanoagbmdaa.eventsKept
open Go.RowKit
theorem lawWalk (a0 : Option Addr) (len0 cap0 : Nat) (l0 : List Ev) (s1 : ByteArray) (n2 : Int) (s3 : ByteArray) (a4 : Option Addr) (len4 cap4 : Nat) (l4 : List ByteArray) (W : World) (w0 : IsE W a0 len0 cap0 l0) (_ : len0 * 64 ≤ 140737488355328) (h1 : s1.size ≤ 140737488351232) (_ : (Lit.int .i64 n2).wf = true) (h3 : s3.size ≤ 140737488351232) (w4 : IsT W a4 len4 cap4 l4) (h4 : len4 ≤ 140737488355328 ∧ (cap4 = 0 ∨ ∃ b off, a4 = some ⟨b, off, none⟩)) :
    Calls Try.prog 5 #[.slice a0 len0 cap0, .string s1, .int .i64 n2, .string s3, .slice a4 len4 cap4] W fun e W' => e = .returned (.bool true) ∧ Below W.heap.size W W' :=
  law_kept a0 len0 cap0 l0 s1 n2 s3 a4 len4 cap4 l4 W w0 (by show _ ≤ 9223372036854775807; omega) (by show _ ≤ 9223372036854775807; omega) w4 h4.1
end Go.Proofs.Ytggbaanoagbmdaa.eventsKept
