/- the document's Append -/
import Derived.Test.YtggbaanoagbmdaaX
import Derived.Test.YtggbaanoagbmdaaU
import Derived.Laws.AppendOwnNone
namespace Go.Proofs.Ytggbaanoagbmdaa
open Go.RowKit
theorem any_take {data : List ByteArray} {k : Nat} (hk : k < data.length) : (data.take (k + 1)).any longB = ((data.take k).any longB || longB (data.getD k ⟨#[]⟩)) := by
  rw [take_snoc data k ⟨#[]⟩ hk, List.any_append]
  simp
theorem wpList_append_none2 {P : Program} {w : World} {ops : Array Oper} {rest : List Oper} {o : Oper} {a : Act} {Q : Exit → Act → World → Prop} (hgd : o.guard = none) (s x : Operand) (t : TypeId)
    (ho : o.op = .call { callee := .builtin .append, args := #[s, x], argTypes := #[t, t] })
    (base : Nat) (e : TypeId) (i : TypeInfo) (size : Nat) (ht : P.underlying t = some (.slice e)) (hi : P.info? e = some i)
    (v : Value) (n : Nat) (xs : List Value) (hs : a.eval s = v) (hown : w.ownsRow base e size v n xs) (hx : a.eval x = .slice none 0 0)
    (h : ∀ v' w', Hid (v' = v ∧ w' = w) → wpList P ops Q rest (a.put o.dst v') w') : wpList P ops Q (o :: rest) a w :=
  wpList_append_own_none hgd s x t ho base e i size ht hi v n xs hs hown hx (h v w (hide ⟨rfl, rfl⟩))
set_option maxRecDepth 40000 in
set_option maxHeartbeats 2000000 in
/-- the document's Append -/
theorem rappend_any (a : Option Addr) (len cap : Nat) (l : List Ev) (s : ByteArray) (ex : Int) (m : ByteArray) (b : Option Addr) (dl dc : Nat) (data : List ByteArray) (w : World) (h : IsE w a len cap l) (hnone : a = none → cap = 0) (hbig : len * 64 ≤ 140737488355328) (hd : IsT w b dl dc data) (hs : s.size ≤ maxLen) (hm : m.size ≤ maxLen) (hdl : dl ≤ 140737488355328) :
    Calls Try.prog 11 #[.slice a len cap, .string s, .int .i64 ex, .string m, .slice b dl dc] w fun e w' => ∃ a' c', e = .returned (.tuple #[.slice a' (appR l s ex m data).1.length c', .int .i64 (appR l s ex m data).2.1, .int .i64 (appR l s ex m data).2.2]) ∧ IsE w' a' (appR l s ex m data).1.length c' (appR l s ex m data).1 ∧ Below w.heap.size w w' := by
  have HV := hide h
  have HD := hide hd
  have HLN := hide h.1
  have HDN := hide hd.1
  have HSM := hide (And.intro hs hm)
  have HDL := hide hdl
  have HDM := hide hd.2.2.2.1
  have HBIG := hide hbig
  have HNO := hide hnone
  have hdc := hd.2.1
  have hdcm : dc ≤ 9223372036854775807 := hd.2.2.1
  have CM := hide (rmarkd_any a len cap l s m w h hbig)
  clear h hd hs hm hdl hbig hnone
  cases hg : goodB l
  case false =>
    have HR : Hid (appR l s ex m data = ([], 0, 2)) := hide (by unfold appR; rw [if_pos hg])
    rw [show markR l s m = (0, 2) from by unfold markR; rw [if_pos hg]] at CM
    clear hg
    go_enter Try.func11, Try.ntmps11
    go_wp2_with fail
    refine CM.out.mono ?_
    rintro e w1 ⟨rfl, hb1⟩
    have HB1 := hide hb1
    clear hb1
    go_wp2
    go_ret3
    rw [HR.out]
    exact ⟨none, 0, rfl, isE_nil _, HB1.out⟩
  case true =>
    have HG : Hid (goodB l = true) := hide hg
    have HLE : Hid (l.length ≤ 16384) := hide (good_len hg)
    have HLS : Hid (len ≤ 16384) := hide (by rw [← HLN.out]; exact HLE.out)
    rw [show markR l s m = (markAt l s m, 0) from by unfold markR; rw [if_neg (by rw [hg]; simp)]] at CM
    clear hg
    have HBT : Hid (badT s m data = (s.toList.isEmpty || ((longB s || longB m) || data.any longB))) := hide (by simp [badT])
    have HR4 : Hid (badT s m data = true → appR l s ex m data = ([], 0, 4)) := hide (fun hb => by unfold appR; rw [if_neg (by rw [HG.out]; simp), if_pos hb])
    have HRN : Hid (badT s m data = false → appR l s ex m data = if 0 < markAt l s m then (l, ((cntL l s : Nat) : Int), 0) else if 0 ≤ ex ∧ ex ≠ (cntL l s : Nat) then ([], 0, 10) else if 16384 < l.length + data.length then ([], 0, 3) else (l ++ news l.length (cntL l s) s m data data.length, ((cntL l s + data.length : Nat) : Int), 0)) := hide (fun hb => by
      unfold appR; rw [if_neg (by rw [HG.out]; simp), if_neg (by rw [hb]; simp)])
    have HCL : Hid (cntL l s ≤ len) := hide (by rw [← HLN.out]; exact cntL_le l s)
    obtain ⟨i0, hi, hz0, hz1, hz2⟩ := info_parts info41
    have CO := hide (fun W hW => rof_any a len cap l s W hW HBIG.out)
    have HCLONE : Hid (∀ W, Below w.heap.size w W → ∀ p, a = some p → ∀ j u, (l.flatMap evc)[j]? = some u → (W.alloc (.cells #[] 41)).cell? (p.add j) = some u) := hide (fun W hW p e j u hj => by
      obtain ⟨h1, _⟩ := evc_at l j u hj
      rw [HLN.out] at h1
      have hI := HV.out.below' hW
      obtain ⟨b', off, e', _⟩ := hI.2.2.2.2 0 (by omega)
      rw [e'] at e
      cases e
      rw [e'] at hI
      rw [Addr.add_lit]
      exact Lib.cell?_alloc_some _ (hI.news j u hj))
    have HCQ : Hid ((0 + len) ≤ maxLen ∧ (0 + len) * 64 ≤ 140737488355328) := hide ⟨by have := HLS.out; show _ ≤ 9223372036854775807; omega, by have := HLS.out; omega⟩
    go_enter Try.func11, Try.ntmps11
    go_wp2_with fail
    refine CM.out.mono ?_
    rintro e w1 ⟨rfl, hb1⟩
    have HB1 := hide hb1
    clear hb1 CM
    have hways : (s.toList.isEmpty = true) ∨ (s.toList.isEmpty = false ∧ 1024 < s.size) ∨ (s.toList.isEmpty = false ∧ ¬ 1024 < s.size ∧ 1024 < m.size) ∨ (s.toList.isEmpty = false ∧ ¬ 1024 < s.size ∧ ¬ 1024 < m.size) := by
      cases s.toList.isEmpty
      · by_cases h1 : 1024 < s.size
        · exact .inr (.inl ⟨rfl, h1⟩)
        · by_cases h2 : 1024 < m.size
          · exact .inr (.inr (.inl ⟨rfl, h1, h2⟩))
          · exact .inr (.inr (.inr ⟨rfl, h1, h2⟩))
      · exact .inl rfl
    rcases hways with hse | ⟨hse, hl1⟩ | ⟨hse, hl1, hl2⟩ | ⟨hse, hl1, hl2⟩
    case' inl =>
      have HBAD : Hid (badT s m data = true) := hide (by rw [HBT.out, hse]; rfl)
    case' inr.inl =>
      have HBAD : Hid (badT s m data = true) := hide (by rw [HBT.out, show longB s = true from decide_eq_true hl1]; simp)
      have dl1 : decide ((1024 : Int) < (s.size : Int)) = true := decide_eq_true (by omega)
    case' inr.inr.inl =>
      have HBAD : Hid (badT s m data = true) := hide (by rw [HBT.out, show longB m = true from decide_eq_true hl2]; simp)
      have dl1 : decide ((1024 : Int) < (s.size : Int)) = false := decide_eq_false (by omega)
      have dl2 : decide ((1024 : Int) < (m.size : Int)) = true := decide_eq_true (by omega)
    case' inr.inr.inr =>
      have HBX : Hid (badT s m data = data.any longB) := hide (by rw [HBT.out, hse, show longB s = false from decide_eq_false hl1, show longB m = false from decide_eq_false hl2]; simp)
      have dl1 : decide ((1024 : Int) < (s.size : Int)) = false := decide_eq_false (by omega)
      have dl2 : decide ((1024 : Int) < (m.size : Int)) = false := decide_eq_false (by omega)
    case inl | inr.inl | inr.inr.inl =>
      go_wp2
      go_loopw [15, 46] (fun s15 i wr => ∃ (k : Nat), k ≤ dl ∧ i = .int .i64 k ∧ s15 = .bool true ∧ Hid (Below w.heap.size w wr)) (fun _ i _ => dl - (intOf i).toNat)
      case atStart => exact ⟨0, Nat.zero_le _, rfl, rfl, HB1⟩
      case round =>
        obtain ⟨k, hk, rfl, rfl, HB⟩ := hrel
        by_cases hlt : k < dl
        case pos =>
          obtain ⟨bd, od, rfl, hbd, z0⟩ := (HD.out.below' HB.out).2.2.2.2 k hlt
          go_wp2
          go_roundw
          case rel => exact ⟨k + 1, by omega, by simp, rfl, HB⟩
          case measure => simp [intOf]; omega
        case neg =>
          obtain rfl : k = dl := by omega
          go_wp2_with fail
          refine (CO.out wr (HV.out.below' HB.out)).mono ?_
          rintro e w2 ⟨v, rfl, hown, hb2⟩
          obtain ⟨a2, c2, rfl⟩ := own_form hown
          have HB2 : Hid (Below w.heap.size w w2) := hide (HB.out.trans (hb2.mono HB.out.size))
          clear hown hb2
          have HR := hide (HR4.out HBAD.out)
          cases a with
          | none =>
            obtain rfl : cap = 0 := HNO.out rfl
            obtain rfl : len = 0 := by have := HV.out.2.1; omega
            go_wp2_with (at_builtin; refine wpList_append_own_none rfl _ _ 22 rfl w2.heap.size 41 i0 5 Try.underlying22 hi _ _ _ rfl (World.ownsRow_made w2 #[] 0 (Nat.le_refl _) (Nat.zero_le _) (by simp)) rfl ?_)
            go_ret3
            rw [HR.out]
            exact ⟨none, 0, rfl, isE_nil _, HB2.out.alloc HB2.out.size _⟩
          | some p =>
            go_wp2_with (at_builtin; refine wpList_append_own _ rfl _ _ 22 rfl w2.heap.size 41 i0 _ 5 64 Try.underlying22 hi hz0 hz1 hz2 rfl (by decide) _ _ _ rfl (World.ownsRow_made w2 #[] 0 (Nat.le_refl _) (Nat.zero_le _) (by simp)) p len cap (l.flatMap evc) rfl (by rw [evc_len, HLN.out]) (HCLONE.out w2 HB2.out p rfl) (evc_one l) HCQ.out.1 HCQ.out.2 (by simp) ?_)
            intro v' w3 hown' hg' hnil'
            have HB3 : Hid (Below w.heap.size w w3) := hide ((HB2.out.alloc HB2.out.size _).grown hg' (by have := HB2.out.size; simp; omega) (by intro k hk; have := HB2.out.size; simp [Value.ownBlock] at hk; omega))
            obtain ⟨a3, c3, rfl⟩ := own_form hown'
            clear hown' hg' hnil'
            go_wp2
            go_ret3
            rw [HR.out]
            exact ⟨none, 0, rfl, isE_nil _, HB3.out⟩
    case inr.inr.inr =>
      go_wp2
      go_loopw [15, 46] (fun s15 i wr => ∃ (k : Nat) (lb : Bool), k ≤ dl ∧ i = .int .i64 k ∧ s15 = .bool lb ∧ Hid (lb = (data.take k).any longB) ∧ Hid (Below w.heap.size w wr)) (fun _ i _ => dl - (intOf i).toNat)
      case atStart => exact ⟨0, false, Nat.zero_le _, rfl, rfl, hide (by simp), HB1⟩
      case round =>
        obtain ⟨k, lb, hk, rfl, rfl, HLB, HB⟩ := hrel
        by_cases hlt : k < dl
        case pos =>
          obtain ⟨bd, od, rfl, hbd, z0⟩ := (HD.out.below' HB.out).2.2.2.2 k hlt
          have HAT := hide (any_take (data := data) (k := k) (by rw [HDN.out]; exact hlt))
          rw [← HLB.out] at HAT
          generalize data.getD k ⟨#[]⟩ = dk at *
          cases lb
          case true =>
            go_wp2
            go_roundw
            case rel => exact ⟨k + 1, true, by omega, by simp, rfl, hide (by rw [HAT.out]; rfl), HB⟩
            case measure => simp [intOf]; omega
          case false =>
            by_cases hlo : 1024 < dk.size
            · have dlo : decide ((1024 : Int) < (dk.size : Int)) = true := decide_eq_true (by omega)
              go_wp2
              go_roundw
              case rel => exact ⟨k + 1, true, by omega, by simp, by simp, hide (by rw [HAT.out, show longB dk = true from decide_eq_true hlo]; rfl), HB⟩
              case measure => simp [intOf]; omega
            · have dlo : decide ((1024 : Int) < (dk.size : Int)) = false := decide_eq_false (by omega)
              go_wp2
              go_roundw
              case rel => exact ⟨k + 1, false, by omega, by simp, by simp, hide (by rw [HAT.out, show longB dk = false from decide_eq_false hlo]; rfl), HB⟩
              case measure => simp [intOf]; omega
        case neg =>
          obtain rfl : dl = k := by omega
          have HDA : Hid (lb = data.any longB) := hide (by have := HLB.out; rwa [List.take_of_length_le (by rw [HDN.out]; exact Nat.le_refl _)] at this)
          clear HLB
          cases lb
          case true =>
            have HBAD : Hid (badT s m data = true) := hide (by rw [HBX.out, ← HDA.out])
            go_wp2_with fail
            refine (CO.out wr (HV.out.below' HB.out)).mono ?_
            rintro e w2 ⟨v, rfl, hown, hb2⟩
            obtain ⟨a2, c2, rfl⟩ := own_form hown
            have HB2 : Hid (Below w.heap.size w w2) := hide (HB.out.trans (hb2.mono HB.out.size))
            clear hown hb2
            have HR := hide (HR4.out HBAD.out)
            cases a with
            | none =>
              obtain rfl : cap = 0 := HNO.out rfl
              obtain rfl : len = 0 := by have := HV.out.2.1; omega
              go_wp2_with (at_builtin; refine wpList_append_own_none rfl _ _ 22 rfl w2.heap.size 41 i0 5 Try.underlying22 hi _ _ _ rfl (World.ownsRow_made w2 #[] 0 (Nat.le_refl _) (Nat.zero_le _) (by simp)) rfl ?_)
              go_ret3
              rw [HR.out]
              exact ⟨none, 0, rfl, isE_nil _, HB2.out.alloc HB2.out.size _⟩
            | some p =>
              go_wp2_with (at_builtin; refine wpList_append_own _ rfl _ _ 22 rfl w2.heap.size 41 i0 _ 5 64 Try.underlying22 hi hz0 hz1 hz2 rfl (by decide) _ _ _ rfl (World.ownsRow_made w2 #[] 0 (Nat.le_refl _) (Nat.zero_le _) (by simp)) p len cap (l.flatMap evc) rfl (by rw [evc_len, HLN.out]) (HCLONE.out w2 HB2.out p rfl) (evc_one l) HCQ.out.1 HCQ.out.2 (by simp) ?_)
              intro v' w3 hown' hg' hnil'
              have HB3 : Hid (Below w.heap.size w w3) := hide ((HB2.out.alloc HB2.out.size _).grown hg' (by have := HB2.out.size; simp; omega) (by intro k hk; have := HB2.out.size; simp [Value.ownBlock] at hk; omega))
              obtain ⟨a3, c3, rfl⟩ := own_form hown'
              clear hown' hg' hnil'
              go_wp2
              go_ret3
              rw [HR.out]
              exact ⟨none, 0, rfl, isE_nil _, HB3.out⟩
          case false =>
            go_wp2_with fail
            refine (CO.out wr (HV.out.below' HB.out)).mono ?_
            rintro e w4 ⟨v, rfl, hown, hb2⟩
            obtain ⟨a2, c2, rfl⟩ := own_form hown
            have HB4 : Hid (Below w.heap.size w w4) := hide (HB.out.trans (hb2.mono HB.out.size))
            clear hown hb2
            have HR0 := hide (HRN.out (by rw [HBX.out, ← HDA.out]))
            rw [show (l.filter (isOf s)).length = cntL l s from rfl]
            generalize hmk : markAt l s m = mk at *
            generalize hcn : cntL l s = cn at *
            have HCE := hide hcn
            clear hmk hcn hse CO
            have HBF : Hid (∀ W, Below w4.heap.size w4 W → Below w.heap.size w W) := hide (fun W hW => HB4.out.trans (hW.mono HB4.out.size))
            have hwl : IntKind.i64.wrap ((16384 : Int) - (len : Int)) = (16384 : Int) - (len : Int) := by
              have h1 := HLS.out
              simp [IntKind.wrap, IntKind.bits, IntKind.signed]; omega
            cases a with
            | none =>
              obtain rfl : cap = 0 := HNO.out rfl
              obtain rfl : len = 0 := by have := HV.out.2.1; omega
              have hl0 : l = [] := List.eq_nil_of_length_eq_zero HLN.out
              have HM0 := hide (World.ownsRow_made (base := w4.heap.size) (e := 41) (size := 5) w4 #[] 0 (Nat.le_refl _) (Nat.zero_le _) (by simp))
              go_wp2_with (at_builtin; refine wpList_append_none2 rfl _ _ 22 rfl w4.heap.size 41 i0 5 Try.underlying22 hi _ _ _ rfl (World.ownsRow_made w4 #[] 0 (Nat.le_refl _) (Nat.zero_le _) (by simp)) rfl ?_)
              intro v' w5 hew
              obtain ⟨ev, ew⟩ := hew.out
              have hown' : w5.ownsRow w4.heap.size 41 5 v' 0 [] := by rw [ev, ew]; exact HM0.out
              obtain ⟨a0, c0, rfl⟩ := own_form hown'
              have HOW : Hid (w5.ownsRow w4.heap.size 41 5 (.slice a0 0 c0) 0 (l.flatMap evc)) := hide (by rw [hl0]; exact hown')
              have HB5 : Hid (Below w4.heap.size w4 w5) := hide (by rw [ew]; exact (Below.refl _ w4).alloc (Nat.le_refl _) _)
              clear hown' ev ew hew hl0
              by_cases hmp : 0 < mk
              case pos =>
                have HR : Hid (appR l s ex m data = (l, (cn : Int), 0)) := hide (by rw [HR0.out, if_pos hmp])
                clear HR0
                have dmp : decide ((0 : Int) < mk) = true := decide_eq_true hmp
                obtain ⟨a', c', he, hI, _⟩ := own_isE HLN.out HV.out.2.2.2.1 HOW.out
                cases he
                have HI := hide hI
                clear hI
                go_wp2
                go_ret3
                rw [HR.out]
                simp only [HLN.out]
                exact ⟨_, _, rfl, HI.out, HBF.out _ HB5.out⟩
              case neg =>
                have dmp : decide ((0 : Int) < mk) = false := decide_eq_false hmp
                by_cases hex : 0 ≤ ex ∧ ex ≠ (cn : Int)
                case pos =>
                  have HR : Hid (appR l s ex m data = ([], 0, 10)) := hide (by rw [HR0.out, if_neg hmp, if_pos hex])
                  have e1 := hex.1
                  have e2 := hex.2
                  clear HR0 hex
                  go_wp2
                  go_ret3
                  rw [HR.out]
                  exact ⟨none, 0, rfl, isE_nil _, HBF.out _ HB5.out⟩
                case neg =>
                  have HEX : Hid (ex < 0 ∨ ex = (cn : Int)) := hide (by
                    by_cases h1 : 0 ≤ ex
                    · by_cases h2 : ex = (cn : Int)
                      · exact .inr h2
                      · exact absurd ⟨h1, h2⟩ hex
                    · exact .inl (by omega))
                  by_cases hmany : 16384 < dl
                  case pos =>
                    have HR : Hid (appR l s ex m data = ([], 0, 3)) := hide (by rw [HR0.out, if_neg hmp, if_neg hex, if_pos (by rw [HLN.out, HDN.out, Nat.zero_add]; exact hmany)])
                    have dm : decide ((16384 : Int) < (dl : Int)) = true := decide_eq_true (by omega)
                    clear HR0 hex
                    rcases HEX.out with h1 | h1
                    · have e1 : decide ((0 : Int) ≤ ex) = false := decide_eq_false (by omega)
                      go_wp2
                      go_ret3
                      rw [HR.out]
                      exact ⟨none, 0, rfl, isE_nil _, HBF.out _ HB5.out⟩
                    · subst h1
                      go_wp2
                      go_ret3
                      rw [HR.out]
                      exact ⟨none, 0, rfl, isE_nil _, HBF.out _ HB5.out⟩
                  case neg =>
                    have HR : Hid (appR l s ex m data = (l ++ news 0 cn s m data dl, ((cn + dl : Nat) : Int), 0)) := hide (by rw [HR0.out, if_neg hmp, if_neg hex, if_neg (by rw [HLN.out, HDN.out, Nat.zero_add]; exact hmany), HLN.out, HDN.out])
                    have dm : decide ((16384 : Int) < (dl : Int)) = false := decide_eq_false (by omega)
                    clear HR0 hex
                    rcases HEX.out with h1 | h1
                    case' inl => have e1 : decide ((0 : Int) ≤ ex) = false := decide_eq_false (by omega)
                    case' inr => subst h1
                    all_goals
                      have HOKS : Hid (∀ x ∈ l ++ news 0 cn s m data dl, okE x) := hide (fun x hx => by
                        rcases List.mem_append.1 hx with hx | hx
                        · exact HV.out.2.2.2.1 x hx
                        · obtain ⟨i, hi, rfl⟩ := List.mem_map.1 hx
                          have h1 := List.mem_range.1 hi
                          have h2 := HLS.out
                          have h3 := HCL.out
                          exact okE_new HSM.out.1 HSM.out.2 HDM.out (by omega) (by omega))
                      have HS5 : Hid (w4.heap.size ≤ w5.heap.size) := hide HB5.out.size
                      generalize w4.heap.size = B4 at *
                      go_wp2
                      go_loopw [3, 18, 19, 88] (fun s3 s14 s15 s66 wr => ∃ (k : Nat) (av : Option Addr) (cv : Nat) (mm : ByteArray), k ≤ dl ∧ s66 = .int .i64 k ∧ s14 = .int .i64 ((cn : Int) + (k : Int)) ∧ s3 = .string mm ∧ Hid (mm = if k = 0 then m else ⟨#[]⟩) ∧ s15 = .slice av k cv ∧ Hid (wr.ownsRow B4 41 5 (.slice av k cv) k ((l ++ news 0 cn s m data k).flatMap evc)) ∧ Hid (Below B4 w4 wr ∧ B4 ≤ wr.heap.size)) (fun _ _ _ i _ => dl - (intOf i).toNat)
                      case atStart => exact ⟨0, a0, c0, m, Nat.zero_le _, rfl, by simp, rfl, hide rfl, rfl, hide (by simpa [news] using HOW.out), hide ⟨HB5.out, HS5.out⟩⟩
                      case round =>
                        obtain ⟨k, av, cv, mm, hk, rfl, rfl, rfl, HMM, rfl, HO, HB⟩ := hrel
                        have HMN : Hid (newAt 0 cn s m data k = ⟨s, (cn : Int) + (k : Int) + 1, (k : Int) + 1, mm, data.getD k ⟨#[]⟩⟩) := hide (by rw [HMM.out]; simp [newAt])
                        by_cases hlt : k < dl
                        case neg =>
                          obtain rfl : k = dl := by omega
                          go_wp2
                          go_ret3
                          rw [HR.out]
                          have hlen2 : (l ++ news 0 cn s m data k).length = k := by rw [List.length_append, news_len, HLN.out, Nat.zero_add]
                          obtain ⟨a', c', he, hI, _⟩ := own_isE hlen2 HOKS.out HO.out
                          cases he
                          simp only [hlen2]
                          refine ⟨_, _, ?_, hI, HBF.out _ HB.out.1⟩
                          simp
                        case pos =>
                          obtain ⟨bd, od, rfl, hbd, z0⟩ := (HD.out.below' (HBF.out _ HB.out.1)).2.2.2.2 k hlt
                          generalize hdk : data.getD k ⟨#[]⟩ = dk at *
                          have hw1 : IntKind.i64.wrap ((cn : Int) + (k : Int) + 1) = (cn : Int) + (k : Int) + 1 := by
                            have h1 := HCL.out
                            have h2 := HLS.out
                            simp [IntKind.wrap, IntKind.bits, IntKind.signed]; omega
                          have hw2 : IntKind.i64.wrap (((k : Nat) : Int) + 1) = ((k : Nat) : Int) + 1 := wrap_nat _ (by have := HLS.out; omega)
                          have hw3 : IntKind.i64.wrap ((k : Int) + 1) = (k : Int) + 1 := wrap_nat _ (by omega)
                          have HNW := hide (evc_news ⟨s, (cn : Int) + (k : Int) + 1, ((k : Nat) : Int) + 1, mm, dk⟩ (heap_alloc_new wr (.cells #[.string s, .int .i64 ((cn : Int) + (k : Int) + 1), .int .i64 (((k : Nat) : Int) + 1), .string mm, .string dk] 41)))
                          have HQ4 : Hid (k + 1 ≤ maxLen) := hide (by have := HLS.out; show _ ≤ 9223372036854775807; omega)
                          have HQ5 : Hid ((k + 1) * 64 ≤ 140737488355328) := hide (by have := HLS.out; omega)
                          have HQ6 : Hid (∀ o, B4 ≤ (wr.alloc o).heap.size) := hide (fun o => by have := HB.out.2; simp; omega)
                          clear hdk
                          go_wp2_with (at_builtin; refine wpList_append_own _ rfl _ _ 22 rfl B4 41 i0 _ 5 64 Try.underlying22 hi hz0 hz1 hz2 rfl (by decide) _ _ _ rfl (HO.out.alloc _) ⟨wr.heap.size, 0, none⟩ 1 1 (evc ⟨s, (cn : Int) + (k : Int) + 1, ((k : Nat) : Int) + 1, mm, dk⟩) rfl rfl HNW.out (evc_one1 _) HQ4.out HQ5.out (HQ6.out _) ?_)
                          intro v' w' hown' hg' hnil'
                          obtain ⟨av', cv', rfl⟩ := own_form hown'
                          have HO' : Hid (w'.ownsRow B4 41 5 (.slice av' (k + 1) cv') (k + 1) ((l ++ news 0 cn s m data (k + 1)).flatMap evc)) := hide (by
                            rw [news_succ, ← List.append_assoc, flat_snoc, HMN.out, List.flatMap_append, List.append_assoc]
                            exact hown')
                          have HB' : Hid (Below B4 w4 w' ∧ B4 ≤ w'.heap.size) := hide (by
                            refine ⟨(HB.out.1.alloc HB.out.2 _).grown hg' (HQ6.out _) (fun q hq => (HO.out.lt q hq).1), ?_⟩
                            have h1 := hg'.size
                            have h2 := HB.out.2
                            simp only [World.size_alloc] at h1
                            omega)
                          clear hown' hg' hnil'
                          go_wp2
                          go_roundw
                          case rel => exact ⟨k + 1, av', cv', ⟨#[]⟩, by omega, by simp, by simp; omega, rfl, hide (by simp), rfl, HO', HB'⟩
                          case measure => simp [intOf]; omega
            | some p =>
              go_wp2_with (at_builtin; refine wpList_append_own _ rfl _ _ 22 rfl w4.heap.size 41 i0 _ 5 64 Try.underlying22 hi hz0 hz1 hz2 rfl (by decide) _ _ _ rfl (World.ownsRow_made w4 #[] 0 (Nat.le_refl _) (Nat.zero_le _) (by simp)) p len cap (l.flatMap evc) rfl (by rw [evc_len, HLN.out]) (HCLONE.out w4 HB4.out p rfl) (evc_one l) HCQ.out.1 HCQ.out.2 (by simp) ?_)
              intro v' w5 hown' hg' hnil'
              obtain ⟨a0, c0, rfl⟩ := own_form hown'
              have HOW : Hid (w5.ownsRow w4.heap.size 41 5 (.slice a0 len c0) len (l.flatMap evc)) := hide (by simpa using hown')
              have HB5 : Hid (Below w4.heap.size w4 w5) := hide (((Below.refl _ w4).alloc (Nat.le_refl _) _).grown hg' (by simp) (by intro k hk; simp [Value.ownBlock] at hk; omega))
              clear hown' hg' hnil'
              by_cases hmp : 0 < mk
              case pos =>
                have HR : Hid (appR l s ex m data = (l, (cn : Int), 0)) := hide (by rw [HR0.out, if_pos hmp])
                clear HR0
                have dmp : decide ((0 : Int) < mk) = true := decide_eq_true hmp
                obtain ⟨a', c', he, hI, _⟩ := own_isE HLN.out HV.out.2.2.2.1 HOW.out
                cases he
                have HI := hide hI
                clear hI
                go_wp2
                go_ret3
                rw [HR.out]
                simp only [HLN.out]
                exact ⟨_, _, rfl, HI.out, HBF.out _ HB5.out⟩
              case neg =>
                have dmp : decide ((0 : Int) < mk) = false := decide_eq_false hmp
                by_cases hex : 0 ≤ ex ∧ ex ≠ (cn : Int)
                case pos =>
                  have HR : Hid (appR l s ex m data = ([], 0, 10)) := hide (by rw [HR0.out, if_neg hmp, if_pos hex])
                  have e1 := hex.1
                  have e2 := hex.2
                  clear HR0 hex
                  go_wp2
                  go_ret3
                  rw [HR.out]
                  exact ⟨none, 0, rfl, isE_nil _, HBF.out _ HB5.out⟩
                case neg =>
                  have HEX : Hid (ex < 0 ∨ ex = (cn : Int)) := hide (by
                    by_cases h1 : 0 ≤ ex
                    · by_cases h2 : ex = (cn : Int)
                      · exact .inr h2
                      · exact absurd ⟨h1, h2⟩ hex
                    · exact .inl (by omega))
                  by_cases hmany : 16384 < len + dl
                  case pos =>
                    have HR : Hid (appR l s ex m data = ([], 0, 3)) := hide (by rw [HR0.out, if_neg hmp, if_neg hex, if_pos (by rw [HLN.out, HDN.out]; exact hmany)])
                    have dm : decide ((16384 : Int) - ((len : Int)) < (dl : Int)) = true := decide_eq_true (by omega)
                    clear HR0 hex
                    rcases HEX.out with h1 | h1
                    · have e1 : decide ((0 : Int) ≤ ex) = false := decide_eq_false (by omega)
                      go_wp2
                      go_ret3
                      rw [HR.out]
                      exact ⟨none, 0, rfl, isE_nil _, HBF.out _ HB5.out⟩
                    · subst h1
                      go_wp2
                      go_ret3
                      rw [HR.out]
                      exact ⟨none, 0, rfl, isE_nil _, HBF.out _ HB5.out⟩
                  case neg =>
                    have HR : Hid (appR l s ex m data = (l ++ news len cn s m data dl, ((cn + dl : Nat) : Int), 0)) := hide (by rw [HR0.out, if_neg hmp, if_neg hex, if_neg (by rw [HLN.out, HDN.out]; exact hmany), HLN.out, HDN.out])
                    have dm : decide ((16384 : Int) - ((len : Int)) < (dl : Int)) = false := decide_eq_false (by omega)
                    clear HR0 hex
                    rcases HEX.out with h1 | h1
                    case' inl => have e1 : decide ((0 : Int) ≤ ex) = false := decide_eq_false (by omega)
                    case' inr => subst h1
                    all_goals
                      have HOKS : Hid (∀ x ∈ l ++ news len cn s m data dl, okE x) := hide (fun x hx => by
                        rcases List.mem_append.1 hx with hx | hx
                        · exact HV.out.2.2.2.1 x hx
                        · obtain ⟨i, hi, rfl⟩ := List.mem_map.1 hx
                          have h1 := List.mem_range.1 hi
                          have h2 := HLS.out
                          have h3 := HCL.out
                          exact okE_new HSM.out.1 HSM.out.2 HDM.out (by omega) (by omega))
                      have HS5 : Hid (w4.heap.size ≤ w5.heap.size) := hide HB5.out.size
                      generalize w4.heap.size = B4 at *
                      go_wp2
                      go_loopw [3, 18, 19, 88] (fun s3 s14 s15 s66 wr => ∃ (k : Nat) (av : Option Addr) (cv : Nat) (mm : ByteArray), k ≤ dl ∧ s66 = .int .i64 k ∧ s14 = .int .i64 ((cn : Int) + (k : Int)) ∧ s3 = .string mm ∧ Hid (mm = if k = 0 then m else ⟨#[]⟩) ∧ s15 = .slice av (len + k) cv ∧ Hid (wr.ownsRow B4 41 5 (.slice av (len + k) cv) (len + k) ((l ++ news len cn s m data k).flatMap evc)) ∧ Hid (Below B4 w4 wr ∧ B4 ≤ wr.heap.size)) (fun _ _ _ i _ => dl - (intOf i).toNat)
                      case atStart => exact ⟨0, a0, c0, m, Nat.zero_le _, rfl, by simp, rfl, hide rfl, rfl, hide (by simpa [news] using HOW.out), hide ⟨HB5.out, HS5.out⟩⟩
                      case round =>
                        obtain ⟨k, av, cv, mm, hk, rfl, rfl, rfl, HMM, rfl, HO, HB⟩ := hrel
                        have HMN : Hid (newAt len cn s m data k = ⟨s, (cn : Int) + (k : Int) + 1, (len : Int) + (k : Int) + 1, mm, data.getD k ⟨#[]⟩⟩) := hide (by rw [HMM.out]; rfl)
                        by_cases hlt : k < dl
                        case neg =>
                          obtain rfl : k = dl := by omega
                          go_wp2
                          go_ret3
                          rw [HR.out]
                          have hlen2 : (l ++ news len cn s m data k).length = len + k := by rw [List.length_append, news_len, HLN.out]
                          obtain ⟨a', c', he, hI, _⟩ := own_isE hlen2 HOKS.out HO.out
                          cases he
                          simp only [hlen2]
                          refine ⟨_, _, ?_, hI, HBF.out _ HB.out.1⟩
                          simp
                        case pos =>
                          obtain ⟨bd, od, rfl, hbd, z0⟩ := (HD.out.below' (HBF.out _ HB.out.1)).2.2.2.2 k hlt
                          generalize hdk : data.getD k ⟨#[]⟩ = dk at *
                          have hw1 : IntKind.i64.wrap ((cn : Int) + (k : Int) + 1) = (cn : Int) + (k : Int) + 1 := by
                            have h1 := HCL.out
                            have h2 := HLS.out
                            simp [IntKind.wrap, IntKind.bits, IntKind.signed]; omega
                          have hw2 : IntKind.i64.wrap (((len + k : Nat) : Int) + 1) = ((len + k : Nat) : Int) + 1 := wrap_nat _ (by have := HLS.out; omega)
                          have hw3 : IntKind.i64.wrap ((k : Int) + 1) = (k : Int) + 1 := wrap_nat _ (by omega)
                          have HNW := hide (evc_news ⟨s, (cn : Int) + (k : Int) + 1, ((len + k : Nat) : Int) + 1, mm, dk⟩ (heap_alloc_new wr (.cells #[.string s, .int .i64 ((cn : Int) + (k : Int) + 1), .int .i64 (((len + k : Nat) : Int) + 1), .string mm, .string dk] 41)))
                          have HQ4 : Hid (len + k + 1 ≤ maxLen) := hide (by have := HLS.out; show _ ≤ 9223372036854775807; omega)
                          have HQ5 : Hid ((len + k + 1) * 64 ≤ 140737488355328) := hide (by have := HLS.out; omega)
                          have HQ6 : Hid (∀ o, B4 ≤ (wr.alloc o).heap.size) := hide (fun o => by have := HB.out.2; simp; omega)
                          clear hdk
                          go_wp2_with (at_builtin; refine wpList_append_own _ rfl _ _ 22 rfl B4 41 i0 _ 5 64 Try.underlying22 hi hz0 hz1 hz2 rfl (by decide) _ _ _ rfl (HO.out.alloc _) ⟨wr.heap.size, 0, none⟩ 1 1 (evc ⟨s, (cn : Int) + (k : Int) + 1, ((len + k : Nat) : Int) + 1, mm, dk⟩) rfl rfl HNW.out (evc_one1 _) HQ4.out HQ5.out (HQ6.out _) ?_)
                          intro v' w' hown' hg' hnil'
                          obtain ⟨av', cv', rfl⟩ := own_form hown'
                          have HO' : Hid (w'.ownsRow B4 41 5 (.slice av' (len + (k + 1)) cv') (len + (k + 1)) ((l ++ news len cn s m data (k + 1)).flatMap evc)) := hide (by
                            rw [news_succ, ← List.append_assoc, flat_snoc, HMN.out, List.flatMap_append, List.append_assoc]
                            exact hown')
                          have HB' : Hid (Below B4 w4 w' ∧ B4 ≤ w'.heap.size) := hide (by
                            refine ⟨(HB.out.1.alloc HB.out.2 _).grown hg' (HQ6.out _) (fun q hq => (HO.out.lt q hq).1), ?_⟩
                            have h1 := hg'.size
                            have h2 := HB.out.2
                            simp only [World.size_alloc] at h1
                            omega)
                          clear hown' hg' hnil'
                          go_wp2
                          go_roundw
                          case rel => exact ⟨k + 1, av', cv', ⟨#[]⟩, by omega, by simp, by simp; omega, rfl, hide (by simp), by rw [Nat.add_assoc], HO', HB'⟩
                          case measure => simp [intOf]; omega
end Go.Proofs.Ytggbaanoagbmdaa
