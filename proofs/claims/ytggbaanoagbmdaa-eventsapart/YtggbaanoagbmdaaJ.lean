/- events.Append -/
import Derived.Test.YtggbaanoagbmdaaI
namespace Go.Proofs.Ytggbaanoagbmdaa
open Go.RowKit
def newAt (g n : Nat) (s m : ByteArray) (data : List ByteArray) (i : Nat) : Ev := ⟨s, ((n + i + 1 : Nat) : Int), ((g + i + 1 : Nat) : Int), if i = 0 then m else ⟨#[]⟩, data.getD i ⟨#[]⟩⟩
def news (g n : Nat) (s m : ByteArray) (data : List ByteArray) (k : Nat) : List Ev := (List.range k).map (newAt g n s m data)
theorem news_succ (g n : Nat) (s m : ByteArray) (data : List ByteArray) (k : Nat) : news g n s m data (k + 1) = news g n s m data k ++ [newAt g n s m data k] := by simp [news, List.range_succ]
theorem news_len (g n : Nat) (s m : ByteArray) (data : List ByteArray) (k : Nat) : (news g n s m data k).length = k := by simp [news]
def badT (s m : ByteArray) (data : List ByteArray) : Bool := s.toList.isEmpty || ([s, m].any longB || data.any longB)
def cntL (l : List Ev) (s : ByteArray) : Nat := (l.filter (isOf s)).length
/-- what Append answers: events, a number, an error -/
def appR (l : List Ev) (s : ByteArray) (ex : Int) (m : ByteArray) (data : List ByteArray) : List Ev × Int × Int :=
  if goodB l = false then ([], 0, 2)
  else if badT s m data = true then ([], 0, 4)
  else if 0 < markAt l s m then (l, (cntL l s : Nat), 0)
  else if 0 ≤ ex ∧ ex ≠ (cntL l s : Nat) then ([], 0, 10)
  else if 16384 < l.length + data.length then ([], 0, 3)
  else (l ++ news l.length (cntL l s) s m data data.length, (cntL l s + data.length : Nat), 0)
theorem good_len {l : List Ev} (h : goodB l = true) : l.length ≤ 16384 := (goodB_iff.1 h).1
theorem cntL_le (l : List Ev) (s : ByteArray) : cntL l s ≤ l.length := List.length_filter_le _ _
theorem okE_new {g n : Nat} {s m : ByteArray} {data : List ByteArray} {i : Nat} (hs : s.size ≤ maxLen) (hm : m.size ≤ maxLen) (hd : ∀ x ∈ data, x.size ≤ maxLen) (hg : g + i < 100000) (hn : n + i < 100000) : okE (newAt g n s m data i) := by
  refine ⟨hs, ?_, ?_, ?_, ?_⟩
  · show (if i = 0 then m else (⟨#[]⟩ : ByteArray)).size ≤ maxLen
    split
    · exact hm
    · exact Nat.zero_le _
  · show (data.getD i ⟨#[]⟩).size ≤ maxLen
    rw [List.getD_eq_getElem?_getD]
    by_cases h : i < data.length
    · rw [List.getElem?_eq_getElem h]; exact hd _ (List.getElem_mem h)
    · rw [List.getElem?_eq_none (by omega)]; exact Nat.zero_le _
  · show -9223372036854775808 ≤ ((n + i + 1 : Nat) : Int) ∧ ((n + i + 1 : Nat) : Int) ≤ 9223372036854775807
    omega
  · show -9223372036854775808 ≤ ((g + i + 1 : Nat) : Int) ∧ ((g + i + 1 : Nat) : Int) ≤ 9223372036854775807
    omega
theorem isT_two {w : World} (s m : ByteArray) (hs : s.size ≤ maxLen) (hm : m.size ≤ maxLen) : IsT (w.alloc (.cells #[.string s, .string m] 9)) (some ⟨w.heap.size, 0, none⟩) 2 2 [s, m] := by
  have hn := heap_alloc_new w (.cells #[.string s, .string m] 9)
  refine ⟨rfl, Nat.le_refl _, by show (2:Nat) ≤ 9223372036854775807; omega, ?_, fun i hi => ⟨w.heap.size, 0, rfl, by simp, ?_⟩⟩
  · intro y hy
    simp only [List.mem_cons, List.not_mem_nil, or_false] at hy
    rcases hy with rfl | rfl
    · exact hs
    · exact hm
  · match i, hi with
    | 0, _ => exact cell_blk hn rfl
    | 1, _ => exact cell_blk hn rfl
theorem own_form {w : World} {base e size n : Nat} {v : Value} {xs : List Value} (h : w.ownsRow base e size v n xs) : ∃ a c, v = .slice a n c := by
  rcases h.2 with ⟨rfl, rfl⟩ | ⟨g, cap, cur, rfl, _⟩
  · exact ⟨none, 0, rfl⟩
  · exact ⟨_, _, rfl⟩
theorem evc_news {w : World} {b : Nat} (x : Ev) (h : w.heap[b]? = some (.cells #[.string x.st, .int .i64 x.num, .int .i64 x.glob, .string x.ma, .string x.dt] 41 (0, 0))) : ∀ j u, (evc x)[j]? = some u → w.cell? ((⟨b, 0, none⟩ : Addr).add j) = some u := by
  intro j u hj
  rw [Addr.add_lit, Nat.zero_add]
  refine cell_blk h ?_
  simpa using hj
theorem evc_one1 (x : Ev) : ∀ u ∈ evc x, u.oneCell' = true := by
  intro u hu
  simp only [List.mem_cons, List.not_mem_nil, or_false] at hu
  rcases hu with rfl | rfl | rfl | rfl | rfl <;> rfl
theorem flat_snoc (l : List Ev) (x : Ev) : (l ++ [x]).flatMap evc = l.flatMap evc ++ evc x := by simp
set_option maxRecDepth 40000 in
set_option maxHeartbeats 1000000 in
/-- events.Append -/
theorem append_any (a : Option Addr) (len cap : Nat) (l : List Ev) (s : ByteArray) (ex : Int) (m : ByteArray) (b : Option Addr) (dl dc : Nat) (data : List ByteArray) (w : World) (h : IsE w a len cap l) (hd : IsT w b dl dc data) (hs : s.size ≤ maxLen) (hm : m.size ≤ maxLen) (hdl : dl ≤ 140737488355328) :
    Calls Try.prog 10 #[.slice a len cap, .string s, .int .i64 ex, .string m, .slice b dl dc] w fun e w' => ∃ a' c', e = .returned (.tuple #[.slice a' (appR l s ex m data).1.length c', .int .i64 (appR l s ex m data).2.1, .int .i64 (appR l s ex m data).2.2]) ∧ IsE w' a' (appR l s ex m data).1.length c' (appR l s ex m data).1 ∧ Below w.heap.size w w' := by
  have HV := hide h
  have HD := hide hd
  have HLN := hide h.1
  have HDN := hide hd.1
  have HSM := hide (And.intro hs hm)
  have HDL := hide hdl
  have HDM := hide hd.2.2.2.1
  clear h hd hs hm hdl
  cases hg : goodB l
  case false =>
    have HE : Hid (checkE l = 2) := hide (by unfold checkE; rw [hg]; rfl)
    have HR : Hid (appR l s ex m data = ([], 0, 2)) := hide (by unfold appR; rw [if_pos hg])
    clear hg
    go_enter Try.func10, Try.ntmps10
    go_wp2_with fail
    refine (check_any a len cap l w HV.out).mono ?_
    rintro e w1 ⟨rfl, hb1⟩
    rw [HE.out]
    have HB1 := hide hb1
    clear hb1
    go_wp2
    go_ret3
    rw [HR.out]
    exact ⟨none, 0, rfl, isE_nil _, HB1.out⟩
  case true =>
    have HE : Hid (checkE l = 0) := hide (by unfold checkE; rw [hg]; rfl)
    have HG : Hid (goodB l = true) := hide hg
    have HLE : Hid (l.length ≤ 16384) := hide (good_len hg)
    clear hg
    go_enter Try.func10, Try.ntmps10
    go_wp2_with fail
    refine (check_any a len cap l w HV.out).mono ?_
    rintro e w1 ⟨rfl, hb1⟩
    rw [HE.out]
    have HB1 := hide hb1
    clear hb1
    have HA2 := hide (anyLong_any _ _ _ _ (w1.alloc (.cells #[.string s, .string m] 9)) (isT_two s m HSM.out.1 HSM.out.2))
    have HBA : Hid (Below w.heap.size w (w1.alloc (.cells #[.string s, .string m] 9))) := hide (HB1.out.alloc HB1.out.size _)
    have HA3 := hide (anyLong_any b dl dc data (w1.alloc (.cells #[.string s, .string m] 9)) (HD.out.below' HBA.out))
    have HBT : Hid (badT s m data = (s.toList.isEmpty || ([s, m].any longB || data.any longB))) := hide rfl
    generalize hl2 : [s, m].any longB = l2 at *
    generalize hl3 : data.any longB = l3 at *
    have HL2 := hide hl2
    have HL3 := hide hl3
    clear hl2 hl3
    cases hse : s.toList.isEmpty
    case true =>
      have HR : Hid (appR l s ex m data = ([], 0, 4)) := hide (by unfold appR; rw [if_neg (by rw [HG.out]; simp), if_pos (by rw [HBT.out, hse]; rfl)])
      go_wp2
      go_ret3
      rw [HR.out]
      exact ⟨none, 0, rfl, isE_nil _, HB1.out⟩
    case false =>
      cases l2
      case true =>
        have HR : Hid (appR l s ex m data = ([], 0, 4)) := hide (by unfold appR; rw [if_neg (by rw [HG.out]; simp), if_pos (by rw [HBT.out, hse]; rfl)])
        go_wp2_with fail
        refine HA2.out.mono ?_
        rintro e w2 ⟨rfl, rfl⟩
        go_wp2
        go_ret3
        rw [HR.out]
        exact ⟨none, 0, rfl, isE_nil _, HBA.out⟩
      case false =>
        cases l3
        case true =>
          have HR : Hid (appR l s ex m data = ([], 0, 4)) := hide (by unfold appR; rw [if_neg (by rw [HG.out]; simp), if_pos (by rw [HBT.out, hse]; rfl)])
          go_wp2_with fail
          refine HA2.out.mono ?_
          rintro e w2 ⟨rfl, rfl⟩
          go_wp2_with fail
          refine HA3.out.mono ?_
          rintro e w2 ⟨rfl, rfl⟩
          go_wp2
          go_ret3
          rw [HR.out]
          exact ⟨none, 0, rfl, isE_nil _, HBA.out⟩
        case false =>
          have HN4 : Hid (¬ badT s m data = true) := hide (by rw [HBT.out, hse]; simp)
          go_wp2_with fail
          refine HA2.out.mono ?_
          rintro e w2 ⟨rfl, rfl⟩
          go_wp2_with fail
          refine HA3.out.mono ?_
          rintro e w2 ⟨rfl, rfl⟩
          go_wp2_with fail
          generalize hW2 : w1.alloc (.cells #[.string s, .string m] 9) = W2 at *
          clear hW2 HA2 HA3 HBT
          refine (count_any a len cap l s W2 (HV.out.below' HBA.out)).mono ?_
          rintro e w3 ⟨rfl, hb3⟩
          have HB3 : Hid (Below w.heap.size w w3) := hide (HBA.out.trans (hb3.mono HBA.out.size))
          have HCN : Hid (cntL l s = (l.filter (isOf s)).length) := hide rfl
          rw [show ((l.filter (isOf s)).length) = cntL l s from rfl]
          clear hb3 HCN
          go_wp2_with fail
          refine (marked_any a len cap l s m w3 (HV.out.below' HB3.out)).mono ?_
          rintro e w4 ⟨rfl, hb4⟩
          have HB4 : Hid (Below w.heap.size w w4) := hide (HB3.out.trans (hb4.mono HB3.out.size))
          have HCL : Hid (cntL l s ≤ len) := hide (by rw [← HLN.out]; exact cntL_le l s)
          clear hb4 HB3 HBA HB1
          have HR0 : Hid (appR l s ex m data = if 0 < markAt l s m then (l, ((cntL l s : Nat) : Int), 0) else if 0 ≤ ex ∧ ex ≠ (cntL l s : Nat) then ([], 0, 10) else if 16384 < l.length + data.length then ([], 0, 3) else (l ++ news l.length (cntL l s) s m data data.length, ((cntL l s + data.length : Nat) : Int), 0)) := hide (by
            unfold appR; rw [if_neg (by rw [HG.out]; simp), if_neg HN4.out])
          generalize hmk : markAt l s m = mk at *
          generalize hcn : cntL l s = cn at *
          have HCE := hide hcn
          clear hmk hcn hse
          have HLS : Hid (len ≤ 16384) := hide (by rw [← HLN.out]; exact HLE.out)
          by_cases hmp : 0 < mk
          case pos =>
            have HR : Hid (appR l s ex m data = (l, (cn : Int), 0)) := hide (by rw [HR0.out, if_pos hmp])
            clear HR0
            go_wp2_with fail
            refine (clone_any a len cap l w4 (HV.out.below' HB4.out) (by have := HLS.out; omega)).mono ?_
            rintro e w5 ⟨v, rfl, hown, hb5⟩
            obtain ⟨a', c', rfl, hI, _⟩ := own_isE HLN.out HV.out.2.2.2.1 hown
            have HI := hide hI
            have HB5 : Hid (Below w.heap.size w w5) := hide (HB4.out.trans (hb5.mono HB4.out.size))
            clear hown hI hb5
            go_wp2
            go_ret3
            rw [HR.out]
            simp only [HLN.out]
            exact ⟨a', c', rfl, HI.out, HB5.out⟩
          case neg =>
            by_cases hex : 0 ≤ ex ∧ ex ≠ (cn : Int)
            case pos =>
              have HR : Hid (appR l s ex m data = ([], 0, 10)) := hide (by rw [HR0.out, if_neg hmp, if_pos hex])
              have e1 := hex.1
              have e2 := hex.2
              clear HR0 hex
              go_wp2
              go_ret3
              rw [HR.out]
              exact ⟨none, 0, rfl, isE_nil _, HB4.out⟩
            case neg =>
              have hwl : IntKind.i64.wrap ((len : Int) + (dl : Int)) = (len : Int) + (dl : Int) := by
                have h1 := HLS.out
                have h2 := HDL.out
                simp [IntKind.wrap, IntKind.bits, IntKind.signed]; omega
              have HEX : Hid (ex < 0 ∨ ex = (cn : Int)) := hide (by
                by_cases h1 : 0 ≤ ex
                · by_cases h2 : ex = (cn : Int)
                  · exact .inr h2
                  · exact absurd ⟨h1, h2⟩ hex
                · exact .inl (by omega))
              by_cases hmany : 16384 < len + dl
              case pos =>
                have HR : Hid (appR l s ex m data = ([], 0, 3)) := hide (by rw [HR0.out, if_neg hmp, if_neg hex, if_pos (by rw [HLN.out, HDN.out]; exact hmany)])
                have dm : decide ((16384 : Int) < (len : Int) + (dl : Int)) = true := decide_eq_true (by omega)
                clear HR0 hex
                rcases HEX.out with h1 | h1
                · have e1 : decide ((0 : Int) ≤ ex) = false := decide_eq_false (by omega)
                  go_wp2
                  go_ret3
                  rw [HR.out]
                  exact ⟨none, 0, rfl, isE_nil _, HB4.out⟩
                · subst h1
                  go_wp2
                  go_ret3
                  rw [HR.out]
                  exact ⟨none, 0, rfl, isE_nil _, HB4.out⟩
              case neg =>
                have HR : Hid (appR l s ex m data = (l ++ news len cn s m data dl, ((cn + dl : Nat) : Int), 0)) := hide (by rw [HR0.out, if_neg hmp, if_neg hex, if_neg (by rw [HLN.out, HDN.out]; exact hmany), HLN.out, HDN.out])
                have dm : decide ((16384 : Int) < (len : Int) + (dl : Int)) = false := decide_eq_false (by omega)
                clear HR0 hex
                have KEY : Hid (Calls Try.prog 28 #[.slice a len cap] w4 fun e w' => ∃ v, e = .returned v ∧ w'.ownsRow w4.heap.size 41 5 v len (l.flatMap evc) ∧ Below w4.heap.size w4 w') := hide (clone_any a len cap l w4 (HV.out.below' HB4.out) (by have := HLS.out; omega))
                rcases HEX.out with h1 | h1
                case' inl => have e1 : decide ((0 : Int) ≤ ex) = false := decide_eq_false (by omega)
                case' inr => subst h1
                all_goals go_wp2_with fail
                all_goals
                  refine KEY.out.mono ?_
                  rintro e w5 ⟨v, rfl, hown, hb5⟩
                  obtain ⟨a0, c0, rfl⟩ := own_form hown
                  have HOW := hide hown
                  have HB5 := hide hb5
                  have HBF : Hid (∀ W, Below w4.heap.size w4 W → Below w.heap.size w W) := hide (fun W hW => HB4.out.trans (hW.mono HB4.out.size))
                  obtain ⟨i0, hi, hz0, hz1, hz2⟩ := info_parts info41
                  have HOKS : Hid (∀ x ∈ l ++ news len cn s m data dl, okE x) := hide (fun x hx => by
                    rcases List.mem_append.1 hx with hx | hx
                    · exact HV.out.2.2.2.1 x hx
                    · obtain ⟨i, hi, rfl⟩ := List.mem_map.1 hx
                      have h1 := List.mem_range.1 hi
                      have h2 := HLS.out
                      have h3 := HCL.out
                      exact okE_new HSM.out.1 HSM.out.2 HDM.out (by omega) (by omega))
                  clear hown hb5 dm hwl KEY HEX
                  have HS5 : Hid (w4.heap.size ≤ w5.heap.size) := hide HB5.out.size
                  generalize w4.heap.size = B4 at *
                  go_wp2
                  go_loopw [3, 14, 15, 66] (fun s3 s14 s15 s66 wr => ∃ (k : Nat) (av : Option Addr) (cv : Nat) (mm : ByteArray), k ≤ dl ∧ s66 = .int .i64 k ∧ s14 = .int .i64 ((cn : Int) + (k : Int)) ∧ s3 = .string mm ∧ Hid (mm = if k = 0 then m else ⟨#[]⟩) ∧ s15 = .slice av (len + k) cv ∧ Hid (wr.ownsRow B4 41 5 (.slice av (len + k) cv) (len + k) ((l ++ news len cn s m data k).flatMap evc)) ∧ Hid (Below B4 w4 wr ∧ B4 ≤ wr.heap.size)) (fun _ _ _ i _ => dl - (intOf i).toNat)
                  case atStart => exact ⟨0, a0, c0, m, Nat.zero_le _, rfl, by simp, rfl, hide rfl, rfl, hide (by simpa [news] using HOW.out), hide ⟨HB5.out, HS5.out⟩⟩
                  case round =>
                    obtain ⟨k, av, cv, mm, hk, rfl, rfl, rfl, HMM, rfl, HO, HB⟩ := hrel
                    have HMN : Hid (newAt len cn s m data k = ⟨s, (cn : Int) + (k : Int) + 1, (len : Int) + (k : Int) + 1, mm, data.getD k ⟨#[]⟩⟩) := hide (by rw [HMM.out]; rfl)
                    by_cases hlt : k < dl
                    case neg =>
                      obtain rfl : k = dl := by omega
                      go_wp2
                      go_ret3
                      rw [HR.out]
                      have hlen2 : (l ++ news len cn s m data k).length = len + k := by rw [List.length_append, news_len, HLN.out]
                      obtain ⟨a', c', he, hI, _⟩ := own_isE hlen2 HOKS.out HO.out
                      cases he
                      simp only [hlen2]
                      refine ⟨_, _, ?_, hI, HBF.out _ HB.out.1⟩
                      simp
                    case pos =>
                      obtain ⟨bd, od, rfl, hbd, z0⟩ := (HD.out.below' (HBF.out _ HB.out.1)).2.2.2.2 k hlt
                      generalize hdk : data.getD k ⟨#[]⟩ = dk at *
                      have hw1 : IntKind.i64.wrap ((cn : Int) + (k : Int) + 1) = (cn : Int) + (k : Int) + 1 := by
                        have h1 := HCL.out
                        have h2 := HLS.out
                        simp [IntKind.wrap, IntKind.bits, IntKind.signed]; omega
                      have hw2 : IntKind.i64.wrap (((len + k : Nat) : Int) + 1) = ((len + k : Nat) : Int) + 1 := wrap_nat _ (by have := HLS.out; omega)
                      have hw3 : IntKind.i64.wrap ((k : Int) + 1) = (k : Int) + 1 := wrap_nat _ (by omega)
                      have HNW := hide (evc_news ⟨s, (cn : Int) + (k : Int) + 1, ((len + k : Nat) : Int) + 1, mm, dk⟩ (heap_alloc_new wr (.cells #[.string s, .int .i64 ((cn : Int) + (k : Int) + 1), .int .i64 (((len + k : Nat) : Int) + 1), .string mm, .string dk] 41)))
                      have HQ4 : Hid (len + k + 1 ≤ maxLen) := hide (by have := HLS.out; show _ ≤ 9223372036854775807; omega)
                      have HQ5 : Hid ((len + k + 1) * 64 ≤ 140737488355328) := hide (by have := HLS.out; omega)
                      have HQ6 : Hid (∀ o, B4 ≤ (wr.alloc o).heap.size) := hide (fun o => by have := HB.out.2; simp; omega)
                      clear hdk
                      go_wp2_with (at_builtin; refine wpList_append_own _ rfl _ _ 22 rfl B4 41 i0 _ 5 64 Try.underlying22 hi hz0 hz1 hz2 rfl (by decide) _ _ _ rfl (HO.out.alloc _) ⟨wr.heap.size, 0, none⟩ 1 1 (evc ⟨s, (cn : Int) + (k : Int) + 1, ((len + k : Nat) : Int) + 1, mm, dk⟩) rfl rfl HNW.out (evc_one1 _) HQ4.out HQ5.out (HQ6.out _) ?_)
                      intro v' w' hown' hg' hnil'
                      obtain ⟨av', cv', rfl⟩ := own_form hown'
                      have HO' : Hid (w'.ownsRow B4 41 5 (.slice av' (len + (k + 1)) cv') (len + (k + 1)) ((l ++ news len cn s m data (k + 1)).flatMap evc)) := hide (by
                        rw [news_succ, ← List.append_assoc, flat_snoc, HMN.out, List.flatMap_append, List.append_assoc]
                        exact hown')
                      have HB' : Hid (Below B4 w4 w' ∧ B4 ≤ w'.heap.size) := hide (by
                        refine ⟨(HB.out.1.alloc HB.out.2 _).grown hg' (HQ6.out _) (fun q hq => (HO.out.lt q hq).1), ?_⟩
                        have h1 := hg'.size
                        have h2 := HB.out.2
                        simp only [World.size_alloc] at h1
                        omega)
                      clear hown' hg' hnil'
                      go_wp2
                      go_roundw
                      case rel => exact ⟨k + 1, av', cv', ⟨#[]⟩, by omega, by simp, by simp; omega, rfl, hide (by simp), by rw [Nat.add_assoc], HO', HB'⟩
                      case measure => simp [intOf]; omega
end Go.Proofs.Ytggbaanoagbmdaa
