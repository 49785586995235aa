/- JournalFrames, walked -/
import Derived.Test.YteckglnfkgfefaaJoY
namespace Go.Proofs.Yteckglnfkgfefaa
open Go.RowKit Cod
set_option maxRecDepth 40000
set_option linter.unusedSimpArgs false
set_option linter.unusedVariables false
/-- the sectors that framing answers -/
def frT (rs : List ByteArray) (s : Nat) : List (List Nat) := if frE rs s = 0 then frL rs s else []
theorem isBB_nil (w : World) : IsBB w none 0 0 [] := ⟨rfl, Nat.le_refl _, Nat.zero_le _, .inl rfl⟩
theorem isT_nil0 (w : World) : IsT w none 0 0 [] := ⟨rfl, Nat.le_refl _, Nat.zero_le _, .inl rfl⟩
theorem FrPost.bb {w w' : World} {rs : List ByteArray} {s : Nat} {e : Ending} (h : FrPost w rs s e w') : (∃ a c, e = .returned (.tuple #[.slice a (frT rs s).length c, .int .i64 (frE rs s)]) ∧ IsBB w' a (frT rs s).length c (frT rs s)) ∧ Below w.heap.size w w' := by
  obtain ⟨⟨v, rfl, h1, h2⟩, hb⟩ := h
  refine ⟨?_, hb⟩
  by_cases h0 : frE rs s = 0
  · obtain ⟨a, c, rfl, hI⟩ := (h1 h0).isBB (frL_lt2 rs s)
    have e : frT rs s = frL rs s := if_pos h0
    exact ⟨a, c, by rw [e], by rw [e]; exact hI⟩
  · have e : frT rs s = [] := if_neg h0
    exact ⟨none, 0, by rw [e, h2 h0]; rfl, by rw [e]; exact isBB_nil _⟩
theorem FdPost.bb {w w' : World} {rs : List ByteArray} {s : Nat} {e : Ending} (h : FdPost w rs s e w') : (∃ a c, e = .returned (.tuple #[.slice a (frT rs s).length c, .int .i64 (frE rs s)]) ∧ IsBB w' a (frT rs s).length c (frT rs s)) ∧ Below w.heap.size w w' := by
  obtain ⟨⟨v, rfl, h1, h2⟩, hb⟩ := h
  refine ⟨?_, hb⟩
  by_cases h0 : frE rs s = 0
  · obtain ⟨a, c, rfl, hI⟩ := h1 h0
    have e : frT rs s = frL rs s := if_pos h0
    exact ⟨a, c, by rw [e], by rw [e]; exact hI⟩
  · have e : frT rs s = [] := if_neg h0
    exact ⟨none, 0, by rw [e, h2 h0]; rfl, by rw [e]; exact isBB_nil _⟩
/-- what Unframe answers: its records and its word -/
def UfR (bs : List (List Nat)) (s : Nat) (rs : List ByteArray) (er : Nat) : Prop :=
  (startB s = true ∧ UnR bs s rs er ∧ (er = 0 ∨ (er = 6 ∧ rs = []))) ∨ (startB s = false ∧ er = 2 ∧ rs = [])
theorem UfR.same {bs : List (List Nat)} {s : Nat} {a b : List ByteArray} {x y : Nat} (h : UfR bs s a x) (g : UfR bs s b y) : x = y ∧ a = b := by
  rcases h with ⟨h1, h2, h3⟩ | ⟨h1, h2, h3⟩ <;> rcases g with ⟨g1, g2, g3⟩ | ⟨g1, g2, g3⟩
  · obtain ⟨k1, k2⟩ := h2.same g2
    rcases h3 with h3 | ⟨h3, h4⟩ <;> rcases g3 with g3 | ⟨g3, g4⟩
    · exact ⟨by omega, k2 h3⟩
    · have := k1.1 h3; omega
    · have := k1.2 g3; omega
    · exact ⟨by omega, by rw [h4, g4]⟩
  · rw [h1] at g1; cases g1
  · rw [h1] at g1; cases g1
  · exact ⟨by omega, by rw [h3, g3]⟩
theorem UfPost.bb {w w' : World} {bs : List (List Nat)} {s : Nat} {e : Ending} (h : UfPost w bs s e w') : (∃ a c rs er, e = .returned (.tuple #[.slice a rs.length c, .int .i64 ((er : Nat) : Int)]) ∧ IsT w' a rs.length c rs ∧ UfR bs s rs er) ∧ Below w.heap.size w w' := by
  obtain ⟨h, hb⟩ := h
  refine ⟨?_, hb⟩
  rcases h with ⟨v, rs, rfl, h1, h2, h3⟩ | ⟨h1, rfl⟩ | ⟨h1, h2, rfl⟩
  · obtain ⟨a, c, rfl, hT, _⟩ := isTT_own h3
    exact ⟨a, c, rs, 0, rfl, hT, .inl ⟨h1, h2, .inl rfl⟩⟩
  · exact ⟨none, 0, [], 2, rfl, isT_nil0 _, .inr ⟨h1, rfl, rfl⟩⟩
  · exact ⟨none, 0, [], 6, rfl, isT_nil0 _, .inl ⟨h1, h2, .inr ⟨rfl, rfl⟩⟩⟩
set_option maxHeartbeats 4000000 in
theorem framesWalk (a : Option Addr) (len cap : Nat) (rs : List ByteArray) (s : Nat) (a2 : Option Addr) (len2 cap2 : Nat) (bs : List (List Nat)) (w : World) (h : IsT w a len cap rs) (hn : a = none → cap = 0) (hl : len ≤ 1048576) (h2 : IsBB w a2 len2 cap2 bs) (hl2 : len2 ≤ 1048576) :
    Calls Try.prog 3 #[.slice a len cap, .int .u64 (s : Nat), .slice a2 len2 cap2] w fun e w' => e = .returned (.bool true) ∧ Below w.heap.size w w' := by
  have HT := hide h
  have HS := hide h2
  have hlen := h.1
  clear h h2
  have HB0 : Hid (Below w.heap.size w (w.alloc (.cells #[] 9))) := hide ((Below.refl _ _).alloc (Nat.le_refl _) _)
  have HO0 := hide (owns9_empty w w.heap.size (Nat.le_refl _))
  have HT0 := hide (HT.out.below HB0.out)
  go_enter Try.func3, Try.ntmps3
  go_wp2_with (at_builtin; refine wpList_cloneT rfl _ _ rfl w.heap.size _ 0 _ rfl HO0.out a len cap rs rfl HT0.out hn (by omega) HB0.out.size w.heap.size w HB0.out (Nat.le_refl _) ?_)
  intro v1 w1 ho1 hb1
  rw [← hlen] at ho1
  obtain ⟨a1, c1, rfl, hT1, _⟩ := isTT_own ho1
  rw [hlen] at hT1 ⊢
  have HT1 := hide hT1
  have HB1 := hide hb1
  have HF := hide (frame_any w1 a1 len c1 rs hT1 s)
  clear ho1 hT1 hb1 HT0 HO0 HB0
  go_wp2_with fail
  refine HF.out.mono ?_
  rintro e w2 hp
  obtain ⟨⟨a3, c3, rfl, hI3⟩, hb2⟩ := hp.bb
  have HT2 := hide (HT1.out.below hb2)
  have HB2 : Hid (Below w.heap.size w w2) := hide (HB1.out.trans (hb2.mono HB1.out.size))
  have HI3 := hide hI3
  have HG := hide (rframe_any w2 a len cap rs (HT.out.below HB2.out) s)
  clear hp hb2 hI3 HF HT1 HB1
  generalize hK : frE rs s = K at *
  have HK := hide hK
  generalize hTT : frT rs s = T at *
  have HTT := hide hTT
  clear hK hTT
  go_wp2_with fail
  refine HG.out.mono ?_
  rintro e w3 hp
  obtain ⟨⟨a4, c4, rfl, hI4⟩, hb3⟩ := hp.bb
  rw [HTT.out] at hI4
  rw [HTT.out, HK.out]
  have HT3 := hide (HT2.out.below hb3)
  have HB3 : Hid (Below w.heap.size w w3) := hide (HB2.out.trans (hb3.mono HB2.out.size))
  have HI33 := hide (HI3.out.below hb3)
  have HI4 := hide hI4
  have HU := hide (unframe_up w3 a2 len2 cap2 bs (HS.out.below HB3.out) hl2 s)
  clear hp hb3 hI4 HG HT2 HB2 HI3
  go_wp2_with fail
  refine HU.out.mono ?_
  rintro e w4 hp
  obtain ⟨⟨a5, c5, r5, e5, rfl, hI5, hR5⟩, hb4⟩ := hp.bb
  have HT4 := hide (HT3.out.below hb4)
  have HB4 : Hid (Below w.heap.size w w4) := hide (HB3.out.trans (hb4.mono HB3.out.size))
  have HI34 := hide (HI33.out.below hb4)
  have HI44 := hide (HI4.out.below hb4)
  have HI5 := hide hI5
  have HR5 := hide hR5
  have HV := hide (rfirst w4 a2 len2 cap2 bs (HS.out.below HB4.out) hl2 s)
  clear hp hb4 hI5 hR5 HU HT3 HB3 HI33 HI4
  go_wp2_with fail
  refine HV.out.mono ?_
  rintro e w5 hp
  obtain ⟨⟨a6, c6, r6, e6, rfl, hI6, hR6⟩, hb5⟩ := hp.bb
  obtain ⟨rfl, rfl⟩ := HR5.out.same hR6
  have HT5 := hide (HT4.out.below hb5)
  have HB5 : Hid (Below w.heap.size w w5) := hide (HB4.out.trans (hb5.mono HB4.out.size))
  have HI35 := hide (HI34.out.below hb5)
  have HI45 := hide (HI44.out.below hb5)
  have HI55 := hide (HI5.out.below hb5)
  have HI6 := hide hI6
  clear hp hb5 hI6 hR6 HR5 HV HT4 HB4 HI34 HI44 HI5
  generalize T.length = M at *
  generalize r5.length = R at *
  go_wp2_with fail
  refine (lives_any w5).mono ?_
  rintro e w6 ⟨rfl, hb6⟩
  have HT6 := hide (HT5.out.below hb6)
  have HB6 : Hid (Below w.heap.size w w6) := hide (HB5.out.trans (hb6.mono HB5.out.size))
  have HX := hide (sameBB_any a3 M c3 T a4 c4 w6 (HI35.out.below hb6) (HI45.out.below hb6))
  have HI56 := hide (HI55.out.below hb6)
  have HI66 := hide (HI6.out.below hb6)
  clear hb6 HT5 HB5 HI35 HI45 HI55 HI6
  go_wp2_with fail
  refine HX.out.mono ?_
  rintro e w7 ⟨rfl, hb7⟩
  have HT7 := hide (HT6.out.below hb7)
  have HB7 : Hid (Below w.heap.size w w7) := hide (HB6.out.trans (hb7.mono HB6.out.size))
  have HY := hide (sameT_any a5 R c5 r5 a6 c6 w7 (HI56.out.below hb7) (HI66.out.below hb7))
  clear hb7 HX HT6 HB6 HI56 HI66
  go_wp2_with fail
  refine HY.out.mono ?_
  rintro e w8 ⟨rfl, hb8⟩
  have HB8 : Hid (Below w.heap.size w w8) := hide (HB7.out.trans (hb8.mono HB7.out.size))
  have HZ := hide (sameT_any a1 len c1 rs a cap w8 (HT7.out.below hb8) (HT.out.below HB8.out))
  clear hb8 HY HT7 HB7
  go_wp2_with fail
  refine HZ.out.mono ?_
  rintro e w9 ⟨rfl, hb9⟩
  have HB9 : Hid (Below w.heap.size w w9) := hide (HB8.out.trans (hb9.mono HB8.out.size))
  clear hb9 HZ HB8
  go_wp2_with fail
  go_ret
  exact ⟨rfl, HB9.out⟩
end Go.Proofs.Yteckglnfkgfefaa
