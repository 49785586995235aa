/- EventsPages: the walk -/
import Derived.Test.YtggbaanoagbmdaaS
import Derived.Test.YtggbaanoagbmdaaT
import Derived.Test.YtggbaanoagbmdaaM
import Derived.Test.YtggbaanoagbmdaaL
namespace Go.Proofs.Ytggbaanoagbmdaa
open Go.RowKit
theorem read_good {l : List Ev} (hg : goodB l = true) (s : ByteArray) (k mo : Nat) : someR l (l.filter (isOf s)) ((k : Int) + 1) mo (·.num) = (((l.filter (isOf s)).drop k).take mo, 0) := by
  unfold someR
  rw [if_neg (by rw [hg]; simp), if_neg (by omega), pick_drop (num_at hg s)]
  rw [show ((k : Int) + 1 - 1).toNat = k by omega]
  rfl
theorem own_belowE {w w' : World} {base : Nat} {v : Value} {n : Nat} {l : List Value} (h : w.ownsRow base 41 5 v n l) (hb : Below w.heap.size w w') : w'.ownsRow base 41 5 v n l := by
  refine ⟨h.1, ?_⟩
  rcases h.2 with hn | ⟨g, cap, cur, rfl, h1, hg, rest⟩
  · exact .inl hn
  · exact .inr ⟨g, cap, cur, rfl, h1, (hb.block g (heap_lt hg)).trans hg, rest⟩
set_option maxRecDepth 40000 in
set_option maxHeartbeats 1000000 in
/-- EventsPages -/
theorem law_pages (a : Option Addr) (len cap : Nat) (l : List Ev) (s : ByteArray) (size : Int) (w : World) (h : IsE w a len cap l) (hsize : size ≤ 9223372036854775807) :
    Calls Try.prog 7 #[.slice a len cap, .string s, .int .i64 size] w fun e w' => e = .returned (.bool true) ∧ Below w.heap.size w w' := by
  have HV := hide h
  have HSI := hide hsize
  clear h hsize
  go_enter Try.func7, Try.ntmps7
  go_wp2_with fail
  refine (lives_any w).mono ?_
  rintro e w1 ⟨rfl, hb1⟩
  have HB1 := hide hb1
  clear hb1
  have CA := hide (read_any a len cap l s 1 16384 w1 (HV.out.below' HB1.out))
  cases hg : goodB l
  case false =>
    rw [show someR l (l.filter (isOf s)) 1 16384 (·.num) = ([], 2) from by unfold someR; rw [if_pos hg]] at CA
    clear hg
    go_wp2_with fail
    refine CA.out.mono ?_
    rintro e w2 ⟨a2, c2, rfl, hI, hb2⟩
    have HB2 : Hid (Below w.heap.size w w2) := hide (HB1.out.trans (hb2.mono HB1.out.size))
    clear hI hb2 CA
    dsimp only
    rw [show ([] : List Ev).length = 0 from rfl]
    go_wp2
    go_ret
    exact ⟨rfl, HB2.out⟩
  case true =>
    have HG := hide hg
    have hzl : (l.filter (isOf s)).length ≤ 16384 := Nat.le_trans (List.length_filter_le _ _) (good_len hg)
    have HRG := hide (read_good hg s)
    rw [show someR l (l.filter (isOf s)) 1 16384 (·.num) = (l.filter (isOf s), 0) from by
      have := read_good hg s 0 16384
      simp only [List.drop_zero, List.take_of_length_le hzl] at this
      simpa using this] at CA
    have HOK : Hid (∀ x ∈ l.filter (isOf s), okE x) := hide (fun x hx => HV.out.2.2.2.1 x (List.mem_filter.1 hx).1)
    clear hg
    generalize hzs : l.filter (isOf s) = zs at *
    have HZL := hide hzl
    clear hzl
    go_wp2_with fail
    refine CA.out.mono ?_
    rintro e w2 ⟨a2, c2, rfl, hI, hb2⟩
    have HB2 : Hid (Below w.heap.size w w2) := hide (HB1.out.trans (hb2.mono HB1.out.size))
    have HI := hide hI
    clear hI hb2 CA
    dsimp only
    by_cases hs : size < 1
    case pos =>
      have d1 : decide (size < 1) = true := decide_eq_true hs
      go_wp2
      go_ret
      exact ⟨rfl, HB2.out⟩
    case neg =>
      have d1 : decide (size < 1) = false := decide_eq_false hs
      obtain ⟨sz, rfl⟩ := Int.eq_ofNat_of_zero_le (show (0 : Int) ≤ size by omega)
      obtain ⟨i0, hi, hz0, hz1, hz2⟩ := info_parts info41
      have HS : Hid (1 ≤ sz) := hide (by omega)
      clear hs
      have HSZ : Hid (sz ≤ 9223372036854775807) := hide (by have := HSI.out; omega)
      go_wp2
      go_loopw [9, 10] (fun s9 s10 wr => ∃ (k : Nat) (av : Option Addr) (cv : Nat), k ≤ zs.length ∧ s10 = .int .i64 ((k : Int) + 1) ∧ s9 = .slice av k cv ∧ Hid (wr.ownsRow w2.heap.size 41 5 (.slice av k cv) k ((zs.take k).flatMap evc)) ∧ Hid (Below w2.heap.size w2 wr)) (fun _ s10 _ => zs.length + 1 - (intOf s10).toNat)
      case atStart => exact ⟨0, none, 0, Nat.zero_le _, rfl, rfl, hide (by simpa using World.ownsRow_nil _ _ _ _), hide (Below.refl _ _)⟩
      case round =>
        obtain ⟨k, av, cv, hk, rfl, rfl, HO, HB⟩ := hrel
        have CR := hide (read_any a len cap l s ((k : Int) + 1) sz wr (HV.out.below' (HB2.out.trans (HB.out.mono HB2.out.size))))
        rw [hzs, HRG.out k sz] at CR
        have HPL : Hid (((zs.drop k).take sz).length = min sz (zs.length - k)) := hide (by rw [List.length_take, List.length_drop])
        go_wp2_with fail
        refine CR.out.mono ?_
        rintro e w3 ⟨a3, c3, rfl, hI3, hb3⟩
        have HBW : Hid (Below w2.heap.size w2 w3) := hide (HB.out.trans (hb3.mono HB.out.size))
        have HB3 : Hid (Below w.heap.size w w3) := hide (HB2.out.trans (HBW.out.mono HB2.out.size))
        have HI3 := hide hI3
        have HIA : Hid (IsE w3 a2 zs.length c2 zs) := hide (HI.out.below' HBW.out)
        have HO3 : Hid (w3.ownsRow w2.heap.size 41 5 (.slice av k cv) k ((zs.take k).flatMap evc)) := hide (own_belowE HO.out hb3)
        clear hI3 hb3 CR
        dsimp only
        generalize hpn : ((zs.drop k).take sz).length = pn at *
        have HPN := hide hpn
        clear hpn
        have hle : pn ≤ sz := by have := HPL.out; omega
        have dle : decide ((sz : Int) < (pn : Int)) = false := decide_eq_false (by omega)
        by_cases h0 : pn = 0
        case pos =>
          subst h0
          have HK : Hid (k = zs.length) := hide (by have := HPL.out; have := HS.out; omega)
          obtain rfl : k = zs.length := HK.out
          obtain ⟨a4, c4, he, hI4, _⟩ := own_isE rfl HOK.out (by simpa using HO3.out)
          cases he
          have CS := hide (same_any av zs.length cv zs a2 zs.length c2 zs w3 hI4 HIA.out)
          clear hI4
          go_wp2_with fail
          refine CS.out.mono ?_
          rintro e w4 ⟨⟨r, rfl, hr⟩, hb4⟩
          obtain rfl : r = true := by simpa using hr
          have HB4 : Hid (Below w.heap.size w w4) := hide (HB3.out.trans (hb4.mono HB3.out.size))
          clear hb4 hr
          go_wp2
          go_ret
          exact ⟨rfl, HB4.out⟩
        case neg =>
          have hz : ((pn : Int) == 0) = false := by simp; omega
          obtain ⟨bb, off, rfl, hbb, _⟩ := HI3.out.2.2.2.2 0 (by omega)
          have HNW : Hid (∀ j u, (((zs.drop k).take sz).flatMap evc)[j]? = some u → w3.cell? ((⟨bb, off, none⟩ : Addr).add j) = some u) := hide (fun j u hj => by
            rw [Addr.add_lit]
            exact HI3.out.news j u hj)
          have hkp : k + pn ≤ 16384 := by have := HPL.out; have := HZL.out; omega
          have HQ4 : Hid (k + pn ≤ maxLen) := hide (by show _ ≤ 9223372036854775807; omega)
          have HQ5 : Hid ((k + pn) * 64 ≤ 140737488355328) := hide (by omega)
          have hwk : IntKind.i64.wrap ((k : Int) + 1 + (pn : Int)) = (k : Int) + 1 + (pn : Int) := by
            simp [IntKind.wrap, IntKind.bits, IntKind.signed]; omega
          go_wp2_with (at_builtin; refine wpList_append_own _ rfl _ _ 22 rfl w2.heap.size 41 i0 _ 5 64 Try.underlying22 hi hz0 hz1 hz2 rfl (by decide) _ _ _ rfl HO3.out ⟨bb, off, none⟩ pn c3 (((zs.drop k).take sz).flatMap evc) rfl (by rw [evc_len, HPN.out]) HNW.out (evc_one _) HQ4.out HQ5.out HBW.out.size ?_)
          intro v' w4 hown' hg' hnil'
          obtain ⟨av', cv', rfl⟩ := own_form hown'
          have HO' : Hid (w4.ownsRow w2.heap.size 41 5 (.slice av' (k + pn) cv') (k + pn) ((zs.take (k + pn)).flatMap evc)) := hide (by
            have e : zs.take (k + pn) = zs.take k ++ (zs.drop k).take sz := by
              rw [List.take_add]
              congr 1
              have := HPL.out
              by_cases hh : sz ≤ zs.length - k
              · rw [show pn = sz by omega]
              · rw [List.take_of_length_le (by rw [List.length_drop]; omega), List.take_of_length_le (by rw [List.length_drop]; omega)]
            rw [e, List.flatMap_append]
            exact hown')
          have HB4 : Hid (Below w2.heap.size w2 w4) := hide (HBW.out.grown hg' HBW.out.size (fun q hq => (HO3.out.lt q hq).1))
          clear hown' hg' hnil'
          go_wp2
          go_roundw
          case rel => exact ⟨k + pn, av', cv', by have := HPL.out; omega, by simp; omega, rfl, HO', HB4⟩
          case measure => have := HPL.out; simp [intOf]; omega
end Go.Proofs.Ytggbaanoagbmdaa
namespace Go.Proofs.Ytggbaanoagbmdaa.eventsPages
open Go.RowKit
theorem lawWalk (a0 : Option Addr) (len0 cap0 : Nat) (l0 : List Ev) (s1 : ByteArray) (n2 : Int) (W : World) (w0 : IsE W a0 len0 cap0 l0) (_ : len0 * 64 ≤ 140737488355328) (_ : s1.size ≤ 140737488351232) (w2 : (Lit.int .i64 n2).wf = true) :
    Calls Try.prog 7 #[.slice a0 len0 cap0, .string s1, .int .i64 n2] W fun e W' => e = .returned (.bool true) ∧ Below W.heap.size W W' :=
  law_pages a0 len0 cap0 l0 s1 n2 W w0 (by simp [Lit.wf, IntKind.min, IntKind.max, IntKind.bits, IntKind.signed] at w2; omega)
end Go.Proofs.Ytggbaanoagbmdaa.eventsPages
