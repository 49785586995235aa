/- Pay, Authorise, Refund -/
import Derived.Test.YtffhkljegopjmaaDoorGR
namespace Go.Proofs.YtffhkljegopjmaaDoor.Lg
open Go.RowKit
set_option maxRecDepth 40000
theorem begOk_eq (s1 s2 : Value) (P : List Py) (n : Int) : begOk s1 s2 P n = ⟨s1, s2, payR P n, (lowP P n : Int), (hiP P n : Int)⟩ := by
  unfold begOk payR hiP
  cases hasP P n <;> simp
/-- what a change of books answers: refused, or other books -/
def OpP (r : Int) (A' : List Py) (G' : List Pg) (w : World) (e : Ending) (w' : World) : Prop :=
  Below w.heap.size w w' ∧ ((r ≠ 0 ∧ e = .returned (.tuple #[vb none 0 0 none 0 0, .int .i64 r])) ∨ (r = 0 ∧ ∃ a c b d, e = .returned (.tuple #[vb a (A'.filter keepB).length c b G'.length d, .int .i64 0]) ∧ IsP w' a (A'.filter keepB).length c (A'.filter keepB) ∧ IsG w' b G'.length d G' ∧ BksA A' (A'.filter keepB) G' ∧ NewA w.heap.size a ∧ NewA w.heap.size b))
abbrev W0b (w : World) (s1 s2 : Value) : World := (w.alloc (.cells #[s1, s2] 35)).alloc (.cells #[.slice none 0 0, .slice none 0 0] 35)
theorem w0b_facts (w : World) (s1 s2 : Value) : Below w.heap.size w (W0b w s1 s2) ∧ BlkB (W0b w s1 s2) w.heap.size s1 s2 ∧ BlkB (W0b w s1 s2) (w.heap.size + 1) (.slice none 0 0) (.slice none 0 0) ∧ (W0b w s1 s2).heap.size = w.heap.size + 2 := by
  refine ⟨((Below.refl _ _).alloc (Nat.le_refl _) _).alloc (by simp) _, (Below.heap_alloc _ _ _ (by simp)).trans (heap_alloc_new _ _), ?_, by simp⟩
  have := heap_alloc_new (w.alloc (.cells #[s1, s2] 35)) (.cells #[.slice none 0 0, .slice none 0 0] 35)
  rwa [show (w.alloc (.cells #[s1, s2] 35)).heap.size = w.heap.size + 1 by simp] at this
/-- the case that books are right -/
theorem beg_right {A P : List Py} {G : List Pg} (h : BksA A P G) (s1 s2 : Value) (n : Int) (w : World) (e : Ending) (w' : World) (hb : BegP s1 s2 P G n w e w') : Below w.heap.size w w' ∧ ((e = .returned (.tuple #[.agg #[.slice none 0 0, .slice none 0 0, .int .i64 0, .int .i64 0, .int .i64 0, .int .i64 0, .int .i64 0, .int .i64 0], .int .i64 2]) ∧ ordB n = false) ∨ (e = .returned (.tuple #[vcg ⟨s1, s2, pvA A n, (lowP P n : Int), (hiP P n : Int)⟩, .int .i64 0]) ∧ ordB n = true)) := by
  obtain ⟨h1, ⟨_, h2⟩ | ⟨h2, _, h3⟩ | ⟨h2, _, h3⟩⟩ := hb
  · exact absurd h.check h2
  · exact ⟨h1, .inl ⟨h2, h3⟩⟩
  · refine ⟨h1, .inr ⟨?_, h3⟩⟩
    rw [h2, begOk_eq, (bks_low h h3).1]
theorem beg_wrong {P : List Py} {G : List Pg} (h : ¬ checkR P G) (s1 s2 : Value) (n : Int) (w : World) (e : Ending) (w' : World) (hb : BegP s1 s2 P G n w e w') : Below w.heap.size w w' ∧ e = .returned (.tuple #[.agg #[.slice none 0 0, .slice none 0 0, .int .i64 0, .int .i64 0, .int .i64 0, .int .i64 0, .int .i64 0, .int .i64 0], .int .i64 9]) := by
  obtain ⟨h1, ⟨h2, _⟩ | ⟨_, h2, _⟩ | ⟨_, h2, _⟩⟩ := hb
  · exact ⟨h1, h2⟩
  · exact absurd h2 h
  · exact absurd h2 h
/-- why an amount that is held is refused -/
def authE (A : List Py) (G : List Pg) (n am : Int) : Int := if ordB n = false then 2 else if amtB am = false then 2 else if (pvA A n).op ≠ 0 then 9 else if 16384 ≤ G.length then 3 else if beyB (behR (pvA A n) ⟨n, 1, 2, am⟩) = true then 5 else 0
set_option maxHeartbeats 4000000 in
theorem auth_wrong (a : Option Addr) (len cap : Nat) (P : List Py) (a2 : Option Addr) (len2 cap2 : Nat) (G : List Pg) (n am : Int) (w : World) (h : IsP w a len cap P) (h2 : IsG w a2 len2 cap2 G) (hc : ¬ checkR P G) :
    Calls Tryd.prog 9 #[vb a len cap a2 len2 cap2, .int .i64 n, .int .i64 am] w fun e w' => Below w.heap.size w w' ∧ e = .returned (.tuple #[vb none 0 0 none 0 0, .int .i64 9]) := by
  have HP := hide h
  have HG := hide h2
  obtain ⟨k1, k2, k3, k4⟩ := w0b_facts w (.slice a len cap) (.slice a2 len2 cap2)
  have HBG := hide (begin_any a len cap P a2 len2 cap2 G n _ (h.below' k1) (h2.below' k1))
  have HK := hide (And.intro k1 (And.intro k2 (And.intro k3 k4)))
  clear h h2 k1 k2 k3 k4
  go_enter Tryd.func9, Tryd.ntmps9
  refine wp_seq_k (fun K0 hK0 => ?_)
  have HK0 := hide hK0
  clear hK0
  go_wp2
  refine HK0.out _ _ ?_
  clear HK0
  refine wp_seq_k (fun K1 hK1 => ?_)
  have HK1 := hide hK1
  clear hK1
  obtain ⟨b1, b2⟩ := HK.out.2.1.cells
  go_wp2_with fail
  refine HBG.out.mono ?_
  rintro e w1 hbeg
  obtain ⟨hb1, rfl⟩ := beg_wrong hc _ _ _ _ _ _ hbeg
  clear hbeg hc
  have HB1 : Hid (Below w.heap.size w w1) := hide (HK.out.1.trans (hb1.mono HK.out.1.size))
  have HR1 := hide (HK.out.2.2.1.below (heap_lt HK.out.2.2.1) hb1)
  clear hb1 HK HBG b1 b2
  go_wp2
  generalize hW2 : w1.alloc (.cells #[.slice none 0 0, .slice none 0 0, .int .i64 0, .int .i64 0, .int .i64 0, .int .i64 0, .int .i64 0, .int .i64 0] 66) = W2
  have HB2 : Hid (Below w.heap.size w W2) := hide (hW2 ▸ HB1.out.alloc HB1.out.size _)
  have HR2 : Hid (BlkB W2 (w.heap.size + 1) (.slice none 0 0) (.slice none 0 0)) := hide (hW2 ▸ (Below.heap_alloc _ _ _ (heap_lt HR1.out)).trans HR1.out)
  clear hW2 HB1 HR1
  obtain ⟨r1, r2⟩ := HR2.out.cells
  have fr0 := HR2.out.froz
  refine HK1.out _ _ ?_
  clear HK1
  go_wp2
  refine bodyPost_ret (res2b rfl _ ((W2.setCell ⟨w.heap.size + 1, 0, none⟩ (.slice none 0 0)).setCell ⟨w.heap.size + 1, 1, none⟩ (.slice none 0 0)) (w.heap.size + 1) (.slice none 0 0) (.slice none 0 0) (put2b_blk HR2.out _ _) rfl) rfl ?_
  exact ⟨put2b_below HB2.out (by omega) _ _, rfl⟩
set_option maxHeartbeats 4000000 in
theorem auth_any (a : Option Addr) (len cap : Nat) (A P : List Py) (a2 : Option Addr) (len2 cap2 : Nat) (G : List Pg) (n am : Int) (w : World) (h : IsP w a len cap P) (h2 : IsG w a2 len2 cap2 G) (hA : BksA A P G) :
    Calls Tryd.prog 9 #[vb a len cap a2 len2 cap2, .int .i64 n, .int .i64 am] w (OpP (authE A G n am) (A.set n.toNat (behR (pvA A n) ⟨n, 1, 2, am⟩)) (G ++ [⟨n, 1, 2, am⟩]) w) := by
  have HAA := hide hA
  have HE : Hid (authE A G n am = if ordB n = false then 2 else if amtB am = false then 2 else if (pvA A n).op ≠ 0 then 9 else if 16384 ≤ G.length then 3 else if beyB (behR (pvA A n) ⟨n, 1, 2, am⟩) = true then 5 else 0) := hide rfl
  have HAM := hide (fun W => amount_any am W)
  have HPO := hide (fun (ho : ordB n = true) (hm : amtB am = true) W (hW : IsP W a len cap P) (hW2 : IsG W a2 len2 cap2 G) => post_any a len cap P a2 len2 cap2 G (pvA A n) (lowP P n) (hiP P n) 1 2 am W hW hW2 (bks_low hA ho).2.1 (by rw [← hW.1]; exact (bks_low hA ho).2.2.1) (by rw [← hW.1]; exact (pays_rise hA.check).2.1) (pv_in hA.2.2.1 ho).1 (by rw [(pv_in hA.2.2.1 ho).2]; simp [postB, ho, hm, accB]))
  have HPV := hide (fun (ho : ordB n = true) => And.intro (pv_in hA.2.2.1 ho) (hA.pvOwes ho))
  have HPB := hide (fun (ho : ordB n = true) (hm : amtB am = true) => BksA.post hA (g := ⟨n, 1, 2, am⟩) (by simp [postB, ho, hm, accB]))
  have HPW := hide (fun (ho : ordB n = true) => (bks_low hA ho).2.2.2)
  have HLG := hide h2.1
  generalize authE A G n am = E0 at *
  generalize hAS : A.set n.toNat (behR (pvA A n) ⟨n, 1, 2, am⟩) = AS
  have HAS := hide hAS
  clear hAS
  have HP := hide h
  have HG := hide h2
  obtain ⟨k1, k2, k3, k4⟩ := w0b_facts w (.slice a len cap) (.slice a2 len2 cap2)
  have HBG := hide (begin_any a len cap P a2 len2 cap2 G n _ (h.below' k1) (h2.below' k1))
  have HK := hide (And.intro k1 (And.intro k2 (And.intro k3 k4)))
  clear h h2 k1 k2 k3 k4
  go_enter Tryd.func9, Tryd.ntmps9
  refine wp_seq_k (fun K0 hK0 => ?_)
  have HK0 := hide hK0
  clear hK0
  go_wp2
  refine HK0.out _ _ ?_
  clear HK0
  refine wp_seq_k (fun K1 hK1 => ?_)
  have HK1 := hide hK1
  clear hK1
  obtain ⟨b1, b2⟩ := HK.out.2.1.cells
  go_wp2_with fail
  refine HBG.out.mono ?_
  rintro e w1 hbeg
  obtain ⟨hb1, ⟨rfl, ho⟩ | ⟨rfl, ho⟩⟩ := beg_right hA _ _ _ _ _ _ hbeg
  · have HX : Hid (E0 = 2) := hide (by rw [HE.out, if_pos ho])
    clear hbeg hA ho HE HPO HAM HPV HPB HPW
    have HB1 : Hid (Below w.heap.size w w1) := hide (HK.out.1.trans (hb1.mono HK.out.1.size))
    have HR1 := hide (HK.out.2.2.1.below (heap_lt HK.out.2.2.1) hb1)
    clear hb1 HK HBG b1 b2
    go_wp2
    generalize hW2 : w1.alloc (.cells #[.slice none 0 0, .slice none 0 0, .int .i64 0, .int .i64 0, .int .i64 0, .int .i64 0, .int .i64 0, .int .i64 0] 66) = W2
    have HB2 : Hid (Below w.heap.size w W2) := hide (hW2 ▸ HB1.out.alloc HB1.out.size _)
    have HR2 : Hid (BlkB W2 (w.heap.size + 1) (.slice none 0 0) (.slice none 0 0)) := hide (hW2 ▸ (Below.heap_alloc _ _ _ (heap_lt HR1.out)).trans HR1.out)
    clear hW2 HB1 HR1
    obtain ⟨r1, r2⟩ := HR2.out.cells
    have fr0 := HR2.out.froz
    refine HK1.out _ _ ?_
    clear HK1
    go_wp2
    refine bodyPost_ret (res2b rfl _ ((W2.setCell ⟨w.heap.size + 1, 0, none⟩ (.slice none 0 0)).setCell ⟨w.heap.size + 1, 1, none⟩ (.slice none 0 0)) (w.heap.size + 1) (.slice none 0 0) (.slice none 0 0) (put2b_blk HR2.out _ _) rfl) rfl ?_
    exact ⟨put2b_below HB2.out (by omega) _ _, .inl ⟨by rw [HX.out]; decide, by rw [HX.out]; rfl⟩⟩
  · clear hbeg hA
    have HO := hide ho
    have HPV := hide (HPV.out ho)
    rw [if_neg (by rw [ho]; decide)] at HE
    clear ho
    have HB1 : Hid (Below w.heap.size w w1) := hide (HK.out.1.trans (hb1.mono HK.out.1.size))
    have HR1 := hide (HK.out.2.2.1.below (heap_lt HK.out.2.2.1) hb1)
    clear hb1 HK HBG b1 b2
    have HPO := hide (HPO.out HO.out)
    have HPB := hide (HPB.out HO.out)
    have HPW := hide (HPW.out HO.out)
    rcases hq : pvA A n with ⟨q1, q2, q3, q4⟩
    rw [hq] at HPO HE HPV HPB HAS
    rw [show (⟨({ o := q1, op := q2, ca := q3, re := q4 } : Py).o, 1, 2, am⟩ : Pg) = ⟨n, 1, 2, am⟩ by rw [show (({ o := q1, op := q2, ca := q3, re := q4 } : Py).o) = n from HPV.out.1.2]] at HPO
    clear hq
    generalize lowP P n = lo at *
    generalize hiP P n = hi at *
    go_wp2
    generalize hW2 : w1.alloc (.cells #[.slice a len cap, .slice a2 len2 cap2, .int .i64 q1, .int .i64 q2, .int .i64 q3, .int .i64 q4, .int .i64 (lo : Int), .int .i64 (hi : Int)] 66) = W2
    have HB2 : Hid (Below w.heap.size w W2) := hide (hW2 ▸ HB1.out.alloc HB1.out.size _)
    have HR2 : Hid (BlkB W2 (w.heap.size + 1) (.slice none 0 0) (.slice none 0 0)) := hide (hW2 ▸ (Below.heap_alloc _ _ _ (heap_lt HR1.out)).trans HR1.out)
    have HC2 : Hid (BlkC W2 w1.heap.size ⟨.slice a len cap, .slice a2 len2 cap2, ⟨q1, q2, q3, q4⟩, (lo : Int), (hi : Int)⟩) := hide (hW2 ▸ heap_alloc_new _ _)
    generalize w1.heap.size = gC at *
    clear hW2 HB1 HR1
    obtain ⟨r1, r2⟩ := HR2.out.cells
    have fr0 := HR2.out.froz
    obtain ⟨c1, c2, c3, c4, c5, c6, c7, c8⟩ := HC2.out.cells
    dsimp only at c1 c2 c3 c4 c5 c6 c7 c8
    refine HK1.out _ _ ?_
    clear HK1
    refine wp_seq_k (fun K2 hK2 => ?_)
    have HK2 := hide hK2
    clear hK2
    go_wp2_with fail
    refine (HAM.out _).mono ?_
    rintro e w3 ⟨rfl, hw⟩
    obtain rfl : W2 = w3 := hw.symm
    clear hw HAM
    cases hM : amtB am
    · have HX : Hid (E0 = 2) := hide (by rw [HE.out, if_pos hM])
      clear hM HE HPO HPV HPB HPW
      go_wp2
      refine bodyPost_ret (res2b rfl _ ((W2.setCell ⟨w.heap.size + 1, 0, none⟩ (.slice none 0 0)).setCell ⟨w.heap.size + 1, 1, none⟩ (.slice none 0 0)) (w.heap.size + 1) (.slice none 0 0) (.slice none 0 0) (put2b_blk HR2.out _ _) rfl) rfl ?_
      exact ⟨put2b_below HB2.out (by omega) _ _, .inl ⟨by rw [HX.out]; decide, by rw [HX.out]; rfl⟩⟩
    · rw [if_neg (by rw [hM]; decide)] at HE
      have HM := hide hM
      clear hM
      have HPO := hide (HPO.out HM.out)
      have HPB := hide (HPB.out HM.out)
      try dsimp only at HE
      by_cases ht : q2 = 0
      · rw [if_neg (by simpa using ht)] at HE
        have HTT := hide ht
        subst ht
        have HOW : Hid (owesB (behR ⟨q1, 0, q3, q4⟩ ⟨n, 1, 2, am⟩) = false) := hide (by
          have h1 := HPV.out.2
          have h2 := HM.out
          unfold owesB at h1 ⊢
          unfold amtB at h2
          unfold behR
          simp at h1 h2 ⊢
          omega)
        go_wp2
        refine HK2.out _ _ ?_
        clear HK2
        go_wp2_with fail
        refine (HPO.out W2 (HP.out.below' HB2.out) (HG.out.below' HB2.out)).mono ?_
        rintro e w4 ⟨hb4, hcase⟩
        have HB4 : Hid (Below w.heap.size w w4) := hide (HB2.out.trans (hb4.mono HB2.out.size))
        have HR4 := hide (HR2.out.below (heap_lt HR2.out) hb4)
        have hrl := heap_lt HR2.out
        have hsz := HB2.out.size
        clear hb4 r1 r2 fr0 c1 c2 c3 c4 c5 c6 c7 c8 HC2
        obtain ⟨r1, r2⟩ := HR4.out.cells
        have fr0 := HR4.out.froz
        rcases hcase with ⟨rfl, hx⟩ | ⟨rfl, hx, hy⟩ | ⟨a', c', b', d', rfl, hx, hy, hi1, hi2, hi3, hi4⟩
        · have HX : Hid (E0 = 3) := hide (by rw [HE.out, if_pos (by rw [HLG.out]; exact hx)])
          clear hx HE HPO HPV HPB HPW
          go_wp2
          refine bodyPost_ret (res2b rfl _ ((w4.setCell ⟨w.heap.size + 1, 0, none⟩ (.slice none 0 0)).setCell ⟨w.heap.size + 1, 1, none⟩ (.slice none 0 0)) (w.heap.size + 1) (.slice none 0 0) (.slice none 0 0) (put2b_blk HR4.out _ _) rfl) rfl ?_
          exact ⟨put2b_below HB4.out (by omega) _ _, .inl ⟨by rw [HX.out]; decide, by rw [HX.out]; rfl⟩⟩
        · have HX : Hid (E0 = 5) := hide (by rw [HE.out, if_neg (by rw [HLG.out]; omega), if_pos hy])
          clear hx hy HE HPO HPV HPB HPW
          go_wp2
          refine bodyPost_ret (res2b rfl _ ((w4.setCell ⟨w.heap.size + 1, 0, none⟩ (.slice none 0 0)).setCell ⟨w.heap.size + 1, 1, none⟩ (.slice none 0 0)) (w.heap.size + 1) (.slice none 0 0) (.slice none 0 0) (put2b_blk HR4.out _ _) rfl) rfl ?_
          exact ⟨put2b_below HB4.out (by omega) _ _, .inl ⟨by rw [HX.out]; decide, by rw [HX.out]; rfl⟩⟩
        · have HX : Hid (E0 = 0) := hide (by rw [HE.out, if_neg (by rw [HLG.out]; omega), if_neg (by rw [hy]; decide)])
          have HBK := hide (HPB.out (by rw [HLG.out]; exact hx) hy HOW.out)
          rw [HPW.out] at hi1
          have HEQ := hide (HPW.out (behR ⟨q1, 0, q3, q4⟩ ⟨n, 1, 2, am⟩))
          have HI1 := hide hi1
          have HI2 := hide hi2
          have HN1 := hide hi3
          have HN2 := hide hi4
          clear hx hy hi1 hi2 hi3 hi4 HE HPO HPV HPB HPW
          try dsimp only at HBK
          generalize behR ⟨q1, 0, q3, q4⟩ ⟨n, 1, 2, am⟩ = y at *
          generalize pwL P lo hi y = PW at *
          generalize G ++ [⟨n, 1, 2, am⟩] = GW at *
          generalize A.set n.toNat y = A1 at *
          have hpl := HEQ.out
          subst hpl
          have hz := HAS.out
          subst hz
          go_wp2
          refine bodyPost_ret (res2b rfl _ ((w4.setCell ⟨w.heap.size + 1, 0, none⟩ (.slice a' (A1.filter keepB).length c')).setCell ⟨w.heap.size + 1, 1, none⟩ (.slice b' GW.length d')) (w.heap.size + 1) (.slice a' (A1.filter keepB).length c') (.slice b' GW.length d') (put2b_blk HR4.out _ _) rfl) rfl ?_
          exact ⟨put2b_below HB4.out (by omega) _ _, .inr ⟨HX.out, a', c', b', d', rfl, (HI1.out.off HN1.out hrl _).off HN1.out hrl _, (HI2.out.off HN2.out hrl _).off HN2.out hrl _, HBK.out, HN1.out.mono hsz, HN2.out.mono hsz⟩⟩
      · have HX : Hid (E0 = 9) := hide (by rw [HE.out, if_pos (by simpa using ht)])
        clear HE HPO HPV HPB HPW
        go_wp2
        refine bodyPost_ret (res2b rfl _ ((W2.setCell ⟨w.heap.size + 1, 0, none⟩ (.slice none 0 0)).setCell ⟨w.heap.size + 1, 1, none⟩ (.slice none 0 0)) (w.heap.size + 1) (.slice none 0 0) (.slice none 0 0) (put2b_blk HR2.out _ _) rfl) rfl ?_
        exact ⟨put2b_below HB2.out (by omega) _ _, .inl ⟨by rw [HX.out]; decide, by rw [HX.out]; rfl⟩⟩
/-- why an amount that is given back is refused -/
def refE (A : List Py) (G : List Pg) (n am : Int) : Int := if ordB n = false then 2 else if amtB am = false then 2 else if (pvA A n).ca - (pvA A n).re < am then 13 else if 16384 ≤ G.length then 3 else if beyB (behR (pvA A n) ⟨n, 3, 1, am⟩) = true then 5 else 0
set_option maxHeartbeats 4000000 in
theorem refund_wrong (a : Option Addr) (len cap : Nat) (P : List Py) (a2 : Option Addr) (len2 cap2 : Nat) (G : List Pg) (n am : Int) (w : World) (h : IsP w a len cap P) (h2 : IsG w a2 len2 cap2 G) (hc : ¬ checkR P G) :
    Calls Tryd.prog 14 #[vb a len cap a2 len2 cap2, .int .i64 n, .int .i64 am] w fun e w' => Below w.heap.size w w' ∧ e = .returned (.tuple #[vb none 0 0 none 0 0, .int .i64 9]) := by
  have HP := hide h
  have HG := hide h2
  obtain ⟨k1, k2, k3, k4⟩ := w0b_facts w (.slice a len cap) (.slice a2 len2 cap2)
  have HBG := hide (begin_any a len cap P a2 len2 cap2 G n _ (h.below' k1) (h2.below' k1))
  have HK := hide (And.intro k1 (And.intro k2 (And.intro k3 k4)))
  clear h h2 k1 k2 k3 k4
  go_enter Tryd.func14, Tryd.ntmps14
  refine wp_seq_k (fun K0 hK0 => ?_)
  have HK0 := hide hK0
  clear hK0
  go_wp2
  refine HK0.out _ _ ?_
  clear HK0
  refine wp_seq_k (fun K1 hK1 => ?_)
  have HK1 := hide hK1
  clear hK1
  obtain ⟨b1, b2⟩ := HK.out.2.1.cells
  go_wp2_with fail
  refine HBG.out.mono ?_
  rintro e w1 hbeg
  obtain ⟨hb1, rfl⟩ := beg_wrong hc _ _ _ _ _ _ hbeg
  clear hbeg hc
  have HB1 : Hid (Below w.heap.size w w1) := hide (HK.out.1.trans (hb1.mono HK.out.1.size))
  have HR1 := hide (HK.out.2.2.1.below (heap_lt HK.out.2.2.1) hb1)
  clear hb1 HK HBG b1 b2
  go_wp2
  generalize hW2 : w1.alloc (.cells #[.slice none 0 0, .slice none 0 0, .int .i64 0, .int .i64 0, .int .i64 0, .int .i64 0, .int .i64 0, .int .i64 0] 66) = W2
  have HB2 : Hid (Below w.heap.size w W2) := hide (hW2 ▸ HB1.out.alloc HB1.out.size _)
  have HR2 : Hid (BlkB W2 (w.heap.size + 1) (.slice none 0 0) (.slice none 0 0)) := hide (hW2 ▸ (Below.heap_alloc _ _ _ (heap_lt HR1.out)).trans HR1.out)
  clear hW2 HB1 HR1
  obtain ⟨r1, r2⟩ := HR2.out.cells
  have fr0 := HR2.out.froz
  refine HK1.out _ _ ?_
  clear HK1
  go_wp2
  refine bodyPost_ret (res2b rfl _ ((W2.setCell ⟨w.heap.size + 1, 0, none⟩ (.slice none 0 0)).setCell ⟨w.heap.size + 1, 1, none⟩ (.slice none 0 0)) (w.heap.size + 1) (.slice none 0 0) (.slice none 0 0) (put2b_blk HR2.out _ _) rfl) rfl ?_
  exact ⟨put2b_below HB2.out (by omega) _ _, rfl⟩
set_option maxHeartbeats 4000000 in
theorem refund_any (a : Option Addr) (len cap : Nat) (A P : List Py) (a2 : Option Addr) (len2 cap2 : Nat) (G : List Pg) (n am : Int) (w : World) (h : IsP w a len cap P) (h2 : IsG w a2 len2 cap2 G) (hA : BksA A P G) :
    Calls Tryd.prog 14 #[vb a len cap a2 len2 cap2, .int .i64 n, .int .i64 am] w (OpP (refE A G n am) (A.set n.toNat (behR (pvA A n) ⟨n, 3, 1, am⟩)) (G ++ [⟨n, 3, 1, am⟩]) w) := by
  have HAA := hide hA
  have HE : Hid (refE A G n am = if ordB n = false then 2 else if amtB am = false then 2 else if (pvA A n).ca - (pvA A n).re < am then 13 else if 16384 ≤ G.length then 3 else if beyB (behR (pvA A n) ⟨n, 3, 1, am⟩) = true then 5 else 0) := hide rfl
  have HAM := hide (fun W => amount_any am W)
  have HPO := hide (fun (ho : ordB n = true) (hm : amtB am = true) W (hW : IsP W a len cap P) (hW2 : IsG W a2 len2 cap2 G) => post_any a len cap P a2 len2 cap2 G (pvA A n) (lowP P n) (hiP P n) 3 1 am W hW hW2 (bks_low hA ho).2.1 (by rw [← hW.1]; exact (bks_low hA ho).2.2.1) (by rw [← hW.1]; exact (pays_rise hA.check).2.1) (pv_in hA.2.2.1 ho).1 (by rw [(pv_in hA.2.2.1 ho).2]; simp [postB, ho, hm, accB]))
  have HPV := hide (fun (ho : ordB n = true) => And.intro (pv_in hA.2.2.1 ho) (hA.pvOwes ho))
  have HPB := hide (fun (ho : ordB n = true) (hm : amtB am = true) => BksA.post hA (g := ⟨n, 3, 1, am⟩) (by simp [postB, ho, hm, accB]))
  have HPW := hide (fun (ho : ordB n = true) => (bks_low hA ho).2.2.2)
  have HLG := hide h2.1
  generalize refE A G n am = E0 at *
  generalize hAS : A.set n.toNat (behR (pvA A n) ⟨n, 3, 1, am⟩) = AS
  have HAS := hide hAS
  clear hAS
  have HP := hide h
  have HG := hide h2
  obtain ⟨k1, k2, k3, k4⟩ := w0b_facts w (.slice a len cap) (.slice a2 len2 cap2)
  have HBG := hide (begin_any a len cap P a2 len2 cap2 G n _ (h.below' k1) (h2.below' k1))
  have HK := hide (And.intro k1 (And.intro k2 (And.intro k3 k4)))
  clear h h2 k1 k2 k3 k4
  go_enter Tryd.func14, Tryd.ntmps14
  refine wp_seq_k (fun K0 hK0 => ?_)
  have HK0 := hide hK0
  clear hK0
  go_wp2
  refine HK0.out _ _ ?_
  clear HK0
  refine wp_seq_k (fun K1 hK1 => ?_)
  have HK1 := hide hK1
  clear hK1
  obtain ⟨b1, b2⟩ := HK.out.2.1.cells
  go_wp2_with fail
  refine HBG.out.mono ?_
  rintro e w1 hbeg
  obtain ⟨hb1, ⟨rfl, ho⟩ | ⟨rfl, ho⟩⟩ := beg_right hA _ _ _ _ _ _ hbeg
  · have HX : Hid (E0 = 2) := hide (by rw [HE.out, if_pos ho])
    clear hbeg hA ho HE HPO HAM HPV HPB HPW
    have HB1 : Hid (Below w.heap.size w w1) := hide (HK.out.1.trans (hb1.mono HK.out.1.size))
    have HR1 := hide (HK.out.2.2.1.below (heap_lt HK.out.2.2.1) hb1)
    clear hb1 HK HBG b1 b2
    go_wp2
    generalize hW2 : w1.alloc (.cells #[.slice none 0 0, .slice none 0 0, .int .i64 0, .int .i64 0, .int .i64 0, .int .i64 0, .int .i64 0, .int .i64 0] 66) = W2
    have HB2 : Hid (Below w.heap.size w W2) := hide (hW2 ▸ HB1.out.alloc HB1.out.size _)
    have HR2 : Hid (BlkB W2 (w.heap.size + 1) (.slice none 0 0) (.slice none 0 0)) := hide (hW2 ▸ (Below.heap_alloc _ _ _ (heap_lt HR1.out)).trans HR1.out)
    clear hW2 HB1 HR1
    obtain ⟨r1, r2⟩ := HR2.out.cells
    have fr0 := HR2.out.froz
    refine HK1.out _ _ ?_
    clear HK1
    go_wp2
    refine bodyPost_ret (res2b rfl _ ((W2.setCell ⟨w.heap.size + 1, 0, none⟩ (.slice none 0 0)).setCell ⟨w.heap.size + 1, 1, none⟩ (.slice none 0 0)) (w.heap.size + 1) (.slice none 0 0) (.slice none 0 0) (put2b_blk HR2.out _ _) rfl) rfl ?_
    exact ⟨put2b_below HB2.out (by omega) _ _, .inl ⟨by rw [HX.out]; decide, by rw [HX.out]; rfl⟩⟩
  · clear hbeg hA
    have HO := hide ho
    have HPV := hide (HPV.out ho)
    rw [if_neg (by rw [ho]; decide)] at HE
    clear ho
    have HB1 : Hid (Below w.heap.size w w1) := hide (HK.out.1.trans (hb1.mono HK.out.1.size))
    have HR1 := hide (HK.out.2.2.1.below (heap_lt HK.out.2.2.1) hb1)
    clear hb1 HK HBG b1 b2
    have HPO := hide (HPO.out HO.out)
    have HPB := hide (HPB.out HO.out)
    have HPW := hide (HPW.out HO.out)
    rcases hq : pvA A n with ⟨q1, q2, q3, q4⟩
    rw [hq] at HPO HE HPV HPB HAS
    rw [show (⟨({ o := q1, op := q2, ca := q3, re := q4 } : Py).o, 3, 1, am⟩ : Pg) = ⟨n, 3, 1, am⟩ by rw [show (({ o := q1, op := q2, ca := q3, re := q4 } : Py).o) = n from HPV.out.1.2]] at HPO
    clear hq
    generalize lowP P n = lo at *
    generalize hiP P n = hi at *
    go_wp2
    generalize hW2 : w1.alloc (.cells #[.slice a len cap, .slice a2 len2 cap2, .int .i64 q1, .int .i64 q2, .int .i64 q3, .int .i64 q4, .int .i64 (lo : Int), .int .i64 (hi : Int)] 66) = W2
    have HB2 : Hid (Below w.heap.size w W2) := hide (hW2 ▸ HB1.out.alloc HB1.out.size _)
    have HR2 : Hid (BlkB W2 (w.heap.size + 1) (.slice none 0 0) (.slice none 0 0)) := hide (hW2 ▸ (Below.heap_alloc _ _ _ (heap_lt HR1.out)).trans HR1.out)
    have HC2 : Hid (BlkC W2 w1.heap.size ⟨.slice a len cap, .slice a2 len2 cap2, ⟨q1, q2, q3, q4⟩, (lo : Int), (hi : Int)⟩) := hide (hW2 ▸ heap_alloc_new _ _)
    generalize w1.heap.size = gC at *
    clear hW2 HB1 HR1
    obtain ⟨r1, r2⟩ := HR2.out.cells
    have fr0 := HR2.out.froz
    obtain ⟨c1, c2, c3, c4, c5, c6, c7, c8⟩ := HC2.out.cells
    dsimp only at c1 c2 c3 c4 c5 c6 c7 c8
    refine HK1.out _ _ ?_
    clear HK1
    refine wp_seq_k (fun K2 hK2 => ?_)
    have HK2 := hide hK2
    clear hK2
    go_wp2_with fail
    refine (HAM.out _).mono ?_
    rintro e w3 ⟨rfl, hw⟩
    obtain rfl : W2 = w3 := hw.symm
    clear hw HAM
    cases hM : amtB am
    · have HX : Hid (E0 = 2) := hide (by rw [HE.out, if_pos hM])
      clear hM HE HPO HPV HPB HPW
      go_wp2
      refine bodyPost_ret (res2b rfl _ ((W2.setCell ⟨w.heap.size + 1, 0, none⟩ (.slice none 0 0)).setCell ⟨w.heap.size + 1, 1, none⟩ (.slice none 0 0)) (w.heap.size + 1) (.slice none 0 0) (.slice none 0 0) (put2b_blk HR2.out _ _) rfl) rfl ?_
      exact ⟨put2b_below HB2.out (by omega) _ _, .inl ⟨by rw [HX.out]; decide, by rw [HX.out]; rfl⟩⟩
    · rw [if_neg (by rw [hM]; decide)] at HE
      have HM := hide hM
      clear hM
      have HPO := hide (HPO.out HM.out)
      have HPB := hide (HPB.out HM.out)
      try dsimp only at HE
      have hws : IntKind.i64.wrap (q3 - q4) = q3 - q4 := wrap64 (by have := HPV.out.1.1; unfold inB at this; dsimp only at this; omega) (by have := HPV.out.1.1; unfold inB at this; dsimp only at this; omega)
      by_cases ht : ¬ q3 - q4 < am
      · rw [if_neg (by simpa using ht)] at HE
        have HTT := hide ht
        have HOW : Hid (owesB (behR ⟨q1, q2, q3, q4⟩ ⟨n, 3, 1, am⟩) = false) := hide (by
          have h1 := HPV.out.2
          unfold owesB at h1 ⊢
          unfold behR
          simp at h1 ⊢
          omega)
        go_wp2
        refine HK2.out _ _ ?_
        clear HK2
        go_wp2_with fail
        refine (HPO.out W2 (HP.out.below' HB2.out) (HG.out.below' HB2.out)).mono ?_
        rintro e w4 ⟨hb4, hcase⟩
        have HB4 : Hid (Below w.heap.size w w4) := hide (HB2.out.trans (hb4.mono HB2.out.size))
        have HR4 := hide (HR2.out.below (heap_lt HR2.out) hb4)
        have hrl := heap_lt HR2.out
        have hsz := HB2.out.size
        clear hb4 r1 r2 fr0 c1 c2 c3 c4 c5 c6 c7 c8 HC2
        obtain ⟨r1, r2⟩ := HR4.out.cells
        have fr0 := HR4.out.froz
        rcases hcase with ⟨rfl, hx⟩ | ⟨rfl, hx, hy⟩ | ⟨a', c', b', d', rfl, hx, hy, hi1, hi2, hi3, hi4⟩
        · have HX : Hid (E0 = 3) := hide (by rw [HE.out, if_pos (by rw [HLG.out]; exact hx)])
          clear hx HE HPO HPV HPB HPW
          go_wp2
          refine bodyPost_ret (res2b rfl _ ((w4.setCell ⟨w.heap.size + 1, 0, none⟩ (.slice none 0 0)).setCell ⟨w.heap.size + 1, 1, none⟩ (.slice none 0 0)) (w.heap.size + 1) (.slice none 0 0) (.slice none 0 0) (put2b_blk HR4.out _ _) rfl) rfl ?_
          exact ⟨put2b_below HB4.out (by omega) _ _, .inl ⟨by rw [HX.out]; decide, by rw [HX.out]; rfl⟩⟩
        · have HX : Hid (E0 = 5) := hide (by rw [HE.out, if_neg (by rw [HLG.out]; omega), if_pos hy])
          clear hx hy HE HPO HPV HPB HPW
          go_wp2
          refine bodyPost_ret (res2b rfl _ ((w4.setCell ⟨w.heap.size + 1, 0, none⟩ (.slice none 0 0)).setCell ⟨w.heap.size + 1, 1, none⟩ (.slice none 0 0)) (w.heap.size + 1) (.slice none 0 0) (.slice none 0 0) (put2b_blk HR4.out _ _) rfl) rfl ?_
          exact ⟨put2b_below HB4.out (by omega) _ _, .inl ⟨by rw [HX.out]; decide, by rw [HX.out]; rfl⟩⟩
        · have HX : Hid (E0 = 0) := hide (by rw [HE.out, if_neg (by rw [HLG.out]; omega), if_neg (by rw [hy]; decide)])
          have HBK := hide (HPB.out (by rw [HLG.out]; exact hx) hy HOW.out)
          rw [HPW.out] at hi1
          have HEQ := hide (HPW.out (behR ⟨q1, q2, q3, q4⟩ ⟨n, 3, 1, am⟩))
          have HI1 := hide hi1
          have HI2 := hide hi2
          have HN1 := hide hi3
          have HN2 := hide hi4
          clear hx hy hi1 hi2 hi3 hi4 HE HPO HPV HPB HPW
          try dsimp only at HBK
          generalize behR ⟨q1, q2, q3, q4⟩ ⟨n, 3, 1, am⟩ = y at *
          generalize pwL P lo hi y = PW at *
          generalize G ++ [⟨n, 3, 1, am⟩] = GW at *
          generalize A.set n.toNat y = A1 at *
          have hpl := HEQ.out
          subst hpl
          have hz := HAS.out
          subst hz
          go_wp2
          refine bodyPost_ret (res2b rfl _ ((w4.setCell ⟨w.heap.size + 1, 0, none⟩ (.slice a' (A1.filter keepB).length c')).setCell ⟨w.heap.size + 1, 1, none⟩ (.slice b' GW.length d')) (w.heap.size + 1) (.slice a' (A1.filter keepB).length c') (.slice b' GW.length d') (put2b_blk HR4.out _ _) rfl) rfl ?_
          exact ⟨put2b_below HB4.out (by omega) _ _, .inr ⟨HX.out, a', c', b', d', rfl, (HI1.out.off HN1.out hrl _).off HN1.out hrl _, (HI2.out.off HN2.out hrl _).off HN2.out hrl _, HBK.out, HN1.out.mono hsz, HN2.out.mono hsz⟩⟩
      · have HX : Hid (E0 = 13) := hide (by rw [HE.out, if_pos (by simpa using ht)])
        clear HE HPO HPV HPB HPW
        go_wp2
        refine bodyPost_ret (res2b rfl _ ((W2.setCell ⟨w.heap.size + 1, 0, none⟩ (.slice none 0 0)).setCell ⟨w.heap.size + 1, 1, none⟩ (.slice none 0 0)) (w.heap.size + 1) (.slice none 0 0) (.slice none 0 0) (put2b_blk HR2.out _ _) rfl) rfl ?_
        exact ⟨put2b_below HB2.out (by omega) _ _, .inl ⟨by rw [HX.out]; decide, by rw [HX.out]; rfl⟩⟩
end Go.Proofs.YtffhkljegopjmaaDoor.Lg
