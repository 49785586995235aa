/- EventsReads: the walk -/
import Derived.Test.YtggbaanoagbmdaaZv
import Derived.Test.YtggbaanoagbmdaaZa
import Derived.Test.YtggbaanoagbmdaaZ
import Derived.Test.YtggbaanoagbmdaaL
import Derived.Test.YtggbaanoagbmdaaM
import Derived.Test.YtggbaanoagbmdaaO
namespace Go.Proofs.Ytggbaanoagbmdaa
open Go.RowKit
/-- two owned rows of the same names are alike -/
theorem names_isT {l : List Ev} {r : List (List UInt8)} {T : List ByteArray} (h : Nm l r) (h' : NmB l T) (ho : ∀ e ∈ l, okE e) : bys r = T ∧ r.length = T.length ∧ ∀ x ∈ T, x.size ≤ maxLen := by
  have e := nm_one h h'
  refine ⟨e, by rw [← e]; simp [bys], fun x hx => ?_⟩
  unfold NmB at h'
  split at h'
  · obtain ⟨y, hy, rfl⟩ := (h'.2 x).1 hx
    exact (ho y hy).1
  · rw [h'] at hx; cases hx
set_option maxRecDepth 40000 in
set_option maxHeartbeats 1000000 in
/-- EventsReads -/
theorem law_reads (a : Option Addr) (len cap : Nat) (l : List Ev) (s : ByteArray) (fr mo : Int) (m : ByteArray) (w : World) (h : IsE w a len cap l) (hsp : cap = 0 ∨ ∃ b off, a = some ⟨b, off, none⟩) (hbig : len * 64 ≤ 140737488355328) (hfr : fr ≤ 9223372036854775807) (hmo : mo ≤ 9223372036854775807) :
    Calls Try.prog 4 #[.slice a len cap, .string s, .int .i64 fr, .int .i64 mo, .string m] w fun e w' => e = .returned (.bool true) ∧ Below w.heap.size w w' := by
  have HV := hide h
  have HBIG := hide hbig
  have HSP := hide hsp
  have HFM := hide (And.intro hfr hmo)
  have C1 := hide (read_any a len cap l s fr mo w h)
  clear h hbig hsp hfr hmo
  go_enter Try.func4, Try.ntmps4
  go_wp2_with fail
  refine C1.out.mono ?_
  rintro e w1 ⟨a1, c1, rfl, hI, hb⟩
  have HI1 := hide hI
  have HB1 := hide hb
  clear hI hb C1
  have C2 := hide (rread_any a len cap l s fr mo w1 (HV.out.below' HB1.out) HBIG.out HFM.out.1 HFM.out.2)
  go_wp2_with fail
  refine C2.out.mono ?_
  rintro e w2 ⟨a2, c2, rfl, hI, hb⟩
  have HI2 : Hid (IsE w2 a1 (someR l (l.filter (isOf s)) fr mo (·.num)).1.length c1 (someR l (l.filter (isOf s)) fr mo (·.num)).1 ∧ IsE w2 a2 (someR l (l.filter (isOf s)) fr mo (·.num)).1.length c2 (someR l (l.filter (isOf s)) fr mo (·.num)).1) := hide ⟨HI1.out.below' hb, hI⟩
  have HB2 : Hid (Below w.heap.size w w2) := hide (HB1.out.trans (hb.mono HB1.out.size))
  clear hI hb C2 HI1 HB1
  generalize someR l (l.filter (isOf s)) fr mo (·.num) = X at *
  obtain ⟨Xl, Xe⟩ := X
  dsimp only at HI2 ⊢
  generalize Xl.length = xn at *
  have C3 := hide (all_any a len cap l fr mo w2 (HV.out.below' HB2.out))
  go_wp2_with fail
  refine C3.out.mono ?_
  rintro e w3 ⟨a3, c3, rfl, hI, hb⟩
  have HI3 := hide hI
  have HI2' : Hid (IsE w3 a1 xn c1 Xl ∧ IsE w3 a2 xn c2 Xl) := hide ⟨HI2.out.1.below' hb, HI2.out.2.below' hb⟩
  have HB3 : Hid (Below w.heap.size w w3) := hide (HB2.out.trans (hb.mono HB2.out.size))
  clear hI hb C3 HI2 HB2
  have C4 := hide (rall_any a len cap l fr mo w3 (HV.out.below' HB3.out) HSP.out HBIG.out HFM.out.1 HFM.out.2)
  go_wp2_with fail
  refine C4.out.mono ?_
  rintro e w4 ⟨a4, c4, rfl, hI, hb⟩
  have HI4 : Hid ((IsE w4 a3 (someR l l fr mo (·.glob)).1.length c3 (someR l l fr mo (·.glob)).1 ∧ IsE w4 a4 (someR l l fr mo (·.glob)).1.length c4 (someR l l fr mo (·.glob)).1) ∧ (IsE w4 a1 xn c1 Xl ∧ IsE w4 a2 xn c2 Xl)) := hide ⟨⟨HI3.out.below' hb, hI⟩, HI2'.out.1.below' hb, HI2'.out.2.below' hb⟩
  have HB4 : Hid (Below w.heap.size w w4) := hide (HB3.out.trans (hb.mono HB3.out.size))
  clear hI hb C4 HI3 HI2' HB3
  generalize someR l l fr mo (·.glob) = Y at *
  obtain ⟨Yl, Ye⟩ := Y
  dsimp only at HI4 ⊢
  generalize Yl.length = yn at *
  have C5 := hide (markd_any a len cap l s m w4 (HV.out.below' HB4.out))
  go_wp2_with fail
  refine C5.out.mono ?_
  rintro e w5 ⟨rfl, hb⟩
  have HI5 : Hid ((IsE w5 a3 yn c3 Yl ∧ IsE w5 a4 yn c4 Yl) ∧ (IsE w5 a1 xn c1 Xl ∧ IsE w5 a2 xn c2 Xl)) := hide ⟨⟨HI4.out.1.1.below' hb, HI4.out.1.2.below' hb⟩, HI4.out.2.1.below' hb, HI4.out.2.2.below' hb⟩
  have HB5 : Hid (Below w.heap.size w w5) := hide (HB4.out.trans (hb.mono HB4.out.size))
  clear hb C5 HI4 HB4
  have C6 := hide (rmarkd_any a len cap l s m w5 (HV.out.below' HB5.out) HBIG.out)
  go_wp2_with fail
  refine C6.out.mono ?_
  rintro e w6 ⟨rfl, hb⟩
  have HI6 : Hid ((IsE w6 a3 yn c3 Yl ∧ IsE w6 a4 yn c4 Yl) ∧ (IsE w6 a1 xn c1 Xl ∧ IsE w6 a2 xn c2 Xl)) := hide ⟨⟨HI5.out.1.1.below' hb, HI5.out.1.2.below' hb⟩, HI5.out.2.1.below' hb, HI5.out.2.2.below' hb⟩
  have HB6 : Hid (Below w.heap.size w w6) := hide (HB5.out.trans (hb.mono HB5.out.size))
  clear hb C6 HI5 HB5
  generalize markR l s m = mr at *
  obtain ⟨mn, me⟩ := mr
  dsimp only
  have C7 := hide (streams_any a len cap l w6 (HV.out.below' HB6.out))
  go_wp2_with fail
  refine C7.out.mono ?_
  rintro e w7 ⟨v7, r7, rfl, hN, hrow, hb⟩
  have HN7 := hide hN
  have HR7 := hide hrow
  have HI7 : Hid ((IsE w7 a3 yn c3 Yl ∧ IsE w7 a4 yn c4 Yl) ∧ (IsE w7 a1 xn c1 Xl ∧ IsE w7 a2 xn c2 Xl)) := hide ⟨⟨HI6.out.1.1.below' hb, HI6.out.1.2.below' hb⟩, HI6.out.2.1.below' hb, HI6.out.2.2.below' hb⟩
  have HB7 : Hid (Below w.heap.size w w7) := hide (HB6.out.trans (hb.mono HB6.out.size))
  clear hN hrow hb C7 HI6 HB6
  have C8 := hide (rstreams_any a len cap l w7 (HV.out.below' HB7.out))
  go_wp2_with fail
  refine C8.out.mono ?_
  rintro e w8 ⟨v8, T, rfl, hN, hrow, hb⟩
  have HNT := hide (names_isT HN7.out hN HV.out.2.2.2.1)
  obtain ⟨a7, c7, rfl, h7⟩ := own_isT (w := w7) (v := v7) (T := T) (n := T.length) rfl HNT.out.2.2 (by
    have h := HR7.out
    rw [bys_enc, HNT.out.1, HNT.out.2.1] at h
    exact h)
  obtain ⟨a8, c8, rfl, h8⟩ := own_isT (w := w8) (v := v8) (T := T) (n := T.length) rfl HNT.out.2.2 hrow
  have HT8 : Hid (IsT w8 a7 T.length c7 T ∧ IsT w8 a8 T.length c8 T) := hide ⟨h7.below' hb, h8⟩
  have HI8 : Hid ((IsE w8 a3 yn c3 Yl ∧ IsE w8 a4 yn c4 Yl) ∧ (IsE w8 a1 xn c1 Xl ∧ IsE w8 a2 xn c2 Xl)) := hide ⟨⟨HI7.out.1.1.below' hb, HI7.out.1.2.below' hb⟩, HI7.out.2.1.below' hb, HI7.out.2.2.below' hb⟩
  have HB8 : Hid (Below w.heap.size w w8) := hide (HB7.out.trans (hb.mono HB7.out.size))
  clear hN hrow hb C8 HI7 HB7 HN7 HR7 HNT h7 h8
  generalize T.length = tn at *
  generalize checkE l = ck at *
  go_wp2_with fail
  refine (lives_any w8).mono ?_
  rintro e w9 ⟨rfl, hb⟩
  have C9 := hide (same_any a1 xn c1 Xl a2 xn c2 Xl w9 (HI8.out.2.1.below' hb) (HI8.out.2.2.below' hb))
  have HI9 : Hid (IsE w9 a3 yn c3 Yl ∧ IsE w9 a4 yn c4 Yl) := hide ⟨HI8.out.1.1.below' hb, HI8.out.1.2.below' hb⟩
  have HT9 : Hid (IsT w9 a7 tn c7 T ∧ IsT w9 a8 tn c8 T) := hide ⟨HT8.out.1.below' hb, HT8.out.2.below' hb⟩
  have HB9 : Hid (Below w.heap.size w w9) := hide (HB8.out.trans (hb.mono HB8.out.size))
  clear hb HI8 HT8 HB8
  go_wp2_with fail
  refine C9.out.mono ?_
  rintro e w10 ⟨⟨r, rfl, hr⟩, hb⟩
  obtain rfl : r = true := by simpa using hr
  have C10 := hide (same_any a3 yn c3 Yl a4 yn c4 Yl w10 (HI9.out.1.below' hb) (HI9.out.2.below' hb))
  have HT10 : Hid (IsT w10 a7 tn c7 T ∧ IsT w10 a8 tn c8 T) := hide ⟨HT9.out.1.below' hb, HT9.out.2.below' hb⟩
  have HB10 : Hid (Below w.heap.size w w10) := hide (HB9.out.trans (hb.mono HB9.out.size))
  clear hb hr HI9 HT9 HB9 C9
  go_wp2_with fail
  refine C10.out.mono ?_
  rintro e w11 ⟨⟨r, rfl, hr⟩, hb⟩
  obtain rfl : r = true := by simpa using hr
  have C11 := hide (sameT_any a7 tn c7 T a8 c8 w11 (HT10.out.1.below' hb) (HT10.out.2.below' hb))
  have HB11 : Hid (Below w.heap.size w w11) := hide (HB10.out.trans (hb.mono HB10.out.size))
  clear hb hr HT10 HB10 C10
  go_wp2_with fail
  refine C11.out.mono ?_
  rintro e w12 ⟨rfl, hb⟩
  have HB12 : Hid (Below w.heap.size w w12) := hide (HB11.out.trans (hb.mono HB11.out.size))
  clear hb C11 HB11
  go_wp2
  go_ret
  exact ⟨rfl, HB12.out⟩
theorem spot_evs {H : Type} {enc : TypeId × Value → H} {W : World} {base : Nat} {held : Bool} {fuel : Nat} {a : Option Addr} {len cap : Nat} {x : DataW H × List MemPlace} (h : DataW.trod enc Try.prog W base (fun _ => true) held fuel 22 [.slice a len cap] = some x) : cap = 0 ∨ ∃ b off, a = some ⟨b, off, none⟩ := by
  rcases Go.Deep.open_slice Try.underlying22 h with ⟨e, _⟩ | ⟨a', len', cap', m, n, D, Pl, e, hb, hl, hm, hmm, _, hx⟩
  · simp at e; exact .inl e.2.2
  · simp at e
    obtain ⟨rfl, rfl, rfl⟩ := e
    by_cases h0 : cap = 0
    · exact .inl h0
    · have hmc : m = cap := by rw [hmm]; simp
      obtain ⟨cs', h1, h2⟩ := hx 0 (by omega)
      rw [ocells41] at h1
      obtain ⟨e, rfl, ho⟩ := open_ev h2
      obtain ⟨_, _, hcell⟩ := World.cells?_some h1
      have e0 := hcell 0 (by omega)
      obtain ⟨b, off, spot⟩ := a'
      have := World.cell?_spot (v := .string e.st) e0
      exact .inr ⟨b, off, by simpa [Addr.add] using this⟩
end Go.Proofs.Ytggbaanoagbmdaa
namespace Go.Proofs.Ytggbaanoagbmdaa.eventsReads
open Go.RowKit
theorem lawWalk (a0 : Option Addr) (len0 cap0 : Nat) (l0 : List Ev) (s1 : ByteArray) (n2 n3 : Int) (s4 : ByteArray) (W : World) (w0 : IsE W a0 len0 cap0 l0) (h0 : len0 * 64 ≤ 140737488355328 ∧ (cap0 = 0 ∨ ∃ b off, a0 = some ⟨b, off, none⟩)) (_ : s1.size ≤ 140737488351232) (h2 : (Lit.int .i64 n2).wf = true) (h3 : (Lit.int .i64 n3).wf = true) (_ : s4.size ≤ 140737488351232) :
    Calls Try.prog 4 #[.slice a0 len0 cap0, .string s1, .int .i64 n2, .int .i64 n3, .string s4] W fun e W' => e = .returned (.bool true) ∧ Below W.heap.size W W' :=
  law_reads a0 len0 cap0 l0 s1 n2 n3 s4 W w0 h0.2 h0.1 (wf_bounds h2).2 (wf_bounds h3).2
end Go.Proofs.Ytggbaanoagbmdaa.eventsReads
