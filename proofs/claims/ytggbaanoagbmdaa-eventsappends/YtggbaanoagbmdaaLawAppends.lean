/- EventsAppends: the walk -/
import Derived.Test.YtggbaanoagbmdaaY
import Derived.Test.YtggbaanoagbmdaaL
import Derived.Test.YtggbaanoagbmdaaM
import Derived.Test.YtggbaanoagbmdaaO
namespace Go.Proofs.Ytggbaanoagbmdaa
open Go.RowKit
set_option maxRecDepth 40000 in
set_option maxHeartbeats 1000000 in
/-- EventsAppends -/
theorem law_appends (a : Option Addr) (len cap : Nat) (l : List Ev) (s : ByteArray) (ex : Int) (m : ByteArray) (b : Option Addr) (dl dc : Nat) (data : List ByteArray) (w : World) (h : IsE w a len cap l) (hnone : a = none → cap = 0) (hbig : len * 64 ≤ 140737488355328) (hs : s.size ≤ maxLen) (hm : m.size ≤ maxLen) (hd : IsT w b dl dc data) (hdl : dl ≤ 140737488355328) :
    Calls Try.prog 3 #[.slice a len cap, .string s, .int .i64 ex, .string m, .slice b dl dc] w fun e w' => e = .returned (.bool true) ∧ Below w.heap.size w w' := by
  have HV := hide h
  have HD := hide hd
  have HS := hide (And.intro hs hm)
  have HLN := hide h.1
  have HDN := hide hd.1
  have HDL := hide hdl
  have HBIG := hide hbig
  have HNO := hide hnone
  obtain ⟨i0, hi, hz0, hz1, hz2⟩ := info_parts info41
  have HCLONE : Hid (∀ p, a = some p → ∀ j u, (l.flatMap evc)[j]? = some u → (w.alloc (.cells #[] 41)).cell? (p.add j) = some u) := hide (fun p e j u hj => by
    obtain ⟨h1, _⟩ := evc_at l j u hj
    rw [HLN.out] at h1
    have hI := HV.out
    obtain ⟨b', off, e', _⟩ := hI.2.2.2.2 0 (by omega)
    rw [e'] at e
    cases e
    rw [e'] at hI
    rw [Addr.add_lit]
    exact Lib.cell?_alloc_some _ (hI.news j u hj))
  have HCQ : Hid ((0 + len) ≤ maxLen ∧ (0 + len) * 64 ≤ 140737488355328) := hide ⟨by show _ ≤ 9223372036854775807; omega, by omega⟩
  clear h hd hs hm hdl hbig hnone
  go_enter Try.func3, Try.ntmps3
  cases a with
  | none =>
    obtain rfl : cap = 0 := HNO.out rfl
    obtain rfl : len = 0 := by have := HV.out.2.1; omega
    have hl0 : l = [] := List.eq_nil_of_length_eq_zero HLN.out
    go_wp2_with (at_builtin; refine wpList_append_none2 rfl _ _ 22 rfl w.heap.size 41 i0 5 Try.underlying22 hi _ _ _ rfl (World.ownsRow_made w #[] 0 (Nat.le_refl _) (Nat.zero_le _) (by simp)) rfl ?_)
    intro v' w1 hew
    obtain ⟨ev, ew⟩ := hew.out
    have hown' : w1.ownsRow w.heap.size 41 5 v' 0 [] := by rw [ev, ew]; exact World.ownsRow_made (base := w.heap.size) (e := 41) (size := 5) w #[] 0 (Nat.le_refl _) (Nat.zero_le _) (by simp)
    have HBG : Hid (Below w.heap.size w w1) := hide (by rw [ew]; exact (Below.refl _ w).alloc (Nat.le_refl _) _)
    obtain ⟨ag, cg, he, hI, _⟩ := own_isE HLN.out HV.out.2.2.2.1 (show w1.ownsRow w.heap.size 41 5 v' 0 (l.flatMap evc) from by rw [hl0]; exact hown')
    subst he
    have HIG := hide hI
    clear hI hown' ev ew hew hl0
    have HBX : Hid (Below w.heap.size w w1 ∧ IsE w1 ag 0 cg l) := hide ⟨HBG.out, HIG.out⟩
    have C1 := hide (append_any ag 0 cg l s ex m b dl dc data w1 HIG.out (HD.out.below' HBG.out) HS.out.1 HS.out.2 HDL.out)
    clear HBG HIG
    go_wp2_with fail
    refine C1.out.mono ?_
    rintro e w2 ⟨a2, c2, rfl, hI2, hb2⟩
    have HI2 := hide hI2
    have HB2 : Hid (Below w.heap.size w w2) := hide (HBX.out.1.trans (hb2.mono HBX.out.1.size))
    have HG2 : Hid (IsE w2 ag 0 cg l) := hide (HBX.out.2.below' hb2)
    clear hI2 hb2 C1 HBX
    have C2 := hide (rappend_any none 0 0 l s ex m b dl dc data w2 (HV.out.below' HB2.out) (fun _ => rfl) HBIG.out (HD.out.below' HB2.out) HS.out.1 HS.out.2 HDL.out)
    go_wp2_with fail
    refine C2.out.mono ?_
    rintro e w3 ⟨a3, c3, rfl, hI3, hb3⟩
    have HI3 := hide hI3
    have HI2' : Hid (IsE w3 a2 (appR l s ex m data).1.length c2 (appR l s ex m data).1) := hide (HI2.out.below' hb3)
    have HB3 : Hid (Below w.heap.size w w3) := hide (HB2.out.trans (hb3.mono HB2.out.size))
    have HG3 : Hid (IsE w3 ag 0 cg l) := hide (HG2.out.below' hb3)
    clear hI3 hb3 C2 HI2 HG2
    generalize appR l s ex m data = A at *
    obtain ⟨Al, An, Ae⟩ := A
    dsimp only at *
    generalize Al.length = An' at *
    go_wp2_with fail
    refine (lives_any w3).mono ?_
    rintro e w4 ⟨rfl, hb4⟩
    have C4 := hide (same_any a2 An' c2 Al a3 An' c3 Al w4 (HI2'.out.below' hb4) (HI3.out.below' hb4))
    have HG4 : Hid (IsE w4 ag 0 cg l) := hide (HG3.out.below' hb4)
    have HB4 : Hid (Below w.heap.size w w4) := hide (HB3.out.trans (hb4.mono HB3.out.size))
    clear hb4 HG3 HI2' HI3
    go_wp2_with fail
    refine C4.out.mono ?_
    rintro e w5 ⟨⟨r, rfl, hr⟩, hb5⟩
    obtain rfl : r = true := by simpa using hr
    have HB5 : Hid (Below w.heap.size w w5) := hide (HB4.out.trans (hb5.mono HB4.out.size))
    have C5 := hide (same_any ag 0 cg l none 0 0 l w5 (HG4.out.below' hb5) (HV.out.below' HB5.out))
    clear hb5 hr C4 HG4
    go_wp2_with fail
    refine C5.out.mono ?_
    rintro e w6 ⟨⟨r, rfl, hr⟩, hb6⟩
    obtain rfl : r = true := by simpa using hr
    have HB6 : Hid (Below w.heap.size w w6) := hide (HB5.out.trans (hb6.mono HB5.out.size))
    clear hb6 hr C5
    go_wp2_with fail
    refine (check_any none 0 0 l w6 (HV.out.below' HB6.out)).mono ?_
    rintro e w7 ⟨rfl, hb7⟩
    have HB7 : Hid (Below w.heap.size w w7) := hide (HB6.out.trans (hb7.mono HB6.out.size))
    clear hb7
    go_wp2_with fail
    refine (rcheck_any none 0 0 l w7 (HV.out.below' HB7.out)).mono ?_
    rintro e w8 ⟨rfl, hb8⟩
    have HB8 : Hid (Below w.heap.size w w8) := hide (HB7.out.trans (hb8.mono HB7.out.size))
    clear hb8
    generalize checkE l = ck at *
    go_wp2
    go_ret
    exact ⟨rfl, HB8.out⟩
  | some p =>
    go_wp2_with (at_builtin; refine wpList_append_own _ rfl _ _ 22 rfl w.heap.size 41 i0 _ 5 64 Try.underlying22 hi hz0 hz1 hz2 rfl (by decide) _ _ _ rfl (World.ownsRow_made w #[] 0 (Nat.le_refl _) (Nat.zero_le _) (by simp)) p len cap (l.flatMap evc) rfl (by rw [evc_len, HLN.out]) (HCLONE.out p rfl) (evc_one l) HCQ.out.1 HCQ.out.2 (by simp) ?_)
    intro v' w1 hown' hg' hnil'
    have HBG : Hid (Below w.heap.size w w1) := hide (((Below.refl _ w).alloc (Nat.le_refl _) _).grown hg' (by simp) (by intro k hk; simp [Value.ownBlock] at hk; omega))
    obtain ⟨ag, cg, he, hI, _⟩ := own_isE HLN.out HV.out.2.2.2.1 (show w1.ownsRow w.heap.size 41 5 v' len (l.flatMap evc) from by simpa using hown')
    subst he
    have HIG := hide hI
    clear hI hown' hg' hnil'
    have HBX : Hid (Below w.heap.size w w1 ∧ IsE w1 ag len cg l) := hide ⟨HBG.out, HIG.out⟩
    have C1 := hide (append_any ag len cg l s ex m b dl dc data w1 HIG.out (HD.out.below' HBG.out) HS.out.1 HS.out.2 HDL.out)
    clear HBG HIG
    go_wp2_with fail
    refine C1.out.mono ?_
    rintro e w2 ⟨a2, c2, rfl, hI2, hb2⟩
    have HI2 := hide hI2
    have HB2 : Hid (Below w.heap.size w w2) := hide (HBX.out.1.trans (hb2.mono HBX.out.1.size))
    have HG2 : Hid (IsE w2 ag len cg l) := hide (HBX.out.2.below' hb2)
    clear hI2 hb2 C1 HBX
    have C2 := hide (rappend_any (some p) len cap l s ex m b dl dc data w2 (HV.out.below' HB2.out) HNO.out HBIG.out (HD.out.below' HB2.out) HS.out.1 HS.out.2 HDL.out)
    go_wp2_with fail
    refine C2.out.mono ?_
    rintro e w3 ⟨a3, c3, rfl, hI3, hb3⟩
    have HI3 := hide hI3
    have HI2' : Hid (IsE w3 a2 (appR l s ex m data).1.length c2 (appR l s ex m data).1) := hide (HI2.out.below' hb3)
    have HB3 : Hid (Below w.heap.size w w3) := hide (HB2.out.trans (hb3.mono HB2.out.size))
    have HG3 : Hid (IsE w3 ag len cg l) := hide (HG2.out.below' hb3)
    clear hI3 hb3 C2 HI2 HG2
    generalize appR l s ex m data = A at *
    obtain ⟨Al, An, Ae⟩ := A
    dsimp only at *
    generalize Al.length = An' at *
    go_wp2_with fail
    refine (lives_any w3).mono ?_
    rintro e w4 ⟨rfl, hb4⟩
    have C4 := hide (same_any a2 An' c2 Al a3 An' c3 Al w4 (HI2'.out.below' hb4) (HI3.out.below' hb4))
    have HG4 : Hid (IsE w4 ag len cg l) := hide (HG3.out.below' hb4)
    have HB4 : Hid (Below w.heap.size w w4) := hide (HB3.out.trans (hb4.mono HB3.out.size))
    clear hb4 HG3 HI2' HI3
    go_wp2_with fail
    refine C4.out.mono ?_
    rintro e w5 ⟨⟨r, rfl, hr⟩, hb5⟩
    obtain rfl : r = true := by simpa using hr
    have HB5 : Hid (Below w.heap.size w w5) := hide (HB4.out.trans (hb5.mono HB4.out.size))
    have C5 := hide (same_any ag len cg l (some p) len cap l w5 (HG4.out.below' hb5) (HV.out.below' HB5.out))
    clear hb5 hr C4 HG4
    go_wp2_with fail
    refine C5.out.mono ?_
    rintro e w6 ⟨⟨r, rfl, hr⟩, hb6⟩
    obtain rfl : r = true := by simpa using hr
    have HB6 : Hid (Below w.heap.size w w6) := hide (HB5.out.trans (hb6.mono HB5.out.size))
    clear hb6 hr C5
    go_wp2_with fail
    refine (check_any (some p) len cap l w6 (HV.out.below' HB6.out)).mono ?_
    rintro e w7 ⟨rfl, hb7⟩
    have HB7 : Hid (Below w.heap.size w w7) := hide (HB6.out.trans (hb7.mono HB6.out.size))
    clear hb7
    go_wp2_with fail
    refine (rcheck_any (some p) len cap l w7 (HV.out.below' HB7.out)).mono ?_
    rintro e w8 ⟨rfl, hb8⟩
    have HB8 : Hid (Below w.heap.size w w8) := hide (HB7.out.trans (hb8.mono HB7.out.size))
    clear hb8
    generalize checkE l = ck at *
    go_wp2
    go_ret
    exact ⟨rfl, HB8.out⟩
theorem none_cap {H : Type} {enc : TypeId × Value → H} {W : World} {base : Nat} {spare : TypeId → Bool} {held : Bool} {fuel : Nat} {a : Option Addr} {len cap : Nat} {x : DataW H × List MemPlace} (h : DataW.trod enc Try.prog W base spare held fuel 22 [.slice a len cap] = some x) : a = none → cap = 0 := by
  rintro rfl
  rcases Go.Deep.open_slice Try.underlying22 h with ⟨e, _⟩ | ⟨a, len', cap', m, n, D, Pl, e, _⟩
  · simp at e; exact e.2
  · simp at e
end Go.Proofs.Ytggbaanoagbmdaa
namespace Go.Proofs.Ytggbaanoagbmdaa.eventsAppends
open Go.RowKit
theorem lawWalk (a0 : Option Addr) (len0 cap0 : Nat) (l0 : List Ev) (s1 : ByteArray) (n2 : Int) (s3 : ByteArray) (a4 : Option Addr) (len4 cap4 : Nat) (l4 : List ByteArray) (W : World) (w0 : IsE W a0 len0 cap0 l0) (h0 : len0 * 64 ≤ 140737488355328 ∧ (a0 = none → cap0 = 0)) (h1 : s1.size ≤ 140737488351232) (_ : (Lit.int .i64 n2).wf = true) (h3 : s3.size ≤ 140737488351232) (w4 : IsT W a4 len4 cap4 l4) (h4 : len4 ≤ 140737488355328 ∧ (cap4 = 0 ∨ ∃ b off, a4 = some ⟨b, off, none⟩)) :
    Calls Try.prog 3 #[.slice a0 len0 cap0, .string s1, .int .i64 n2, .string s3, .slice a4 len4 cap4] W fun e W' => e = .returned (.bool true) ∧ Below W.heap.size W W' :=
  law_appends a0 len0 cap0 l0 s1 n2 s3 a4 len4 cap4 l4 W w0 h0.2 h0.1 (by show _ ≤ 9223372036854775807; omega) (by show _ ≤ 9223372036854775807; omega) w4 h4.1
end Go.Proofs.Ytggbaanoagbmdaa.eventsAppends
