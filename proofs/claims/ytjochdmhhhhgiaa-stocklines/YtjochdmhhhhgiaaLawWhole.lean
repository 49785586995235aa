/- StockWhole: the walk -/
import Derived.Test.YtjochdmhhhhgiaaN
import Derived.Test.YtjochdmhhhhgiaaK
namespace Go.Proofs.Ytjochdmhhhhgiaa
open Go.RowKit
/-- the five moves by their numbers -/
theorem mv_all (k : Nat) (hk : k < 5) : (∀ args W, (callFunc (9 + k) args).run Try.prog W = .ok (.enter (9 + k) args) W) ∧ ∀ (a : Option Addr) (len cap : Nat) (l : List Cl) (it wa n : Int) (w : World), IsC w a len cap l → Calls Try.prog (9 + k) #[.slice a len cap, .int .i64 it, .int .i64 wa, .int .i64 n] w fun e w' => ∃ a' c', e = .returned (.tuple #[.slice a' (moveR k l it wa n).1.length c', .int .i64 (moveR k l it wa n).2]) ∧ IsC w' a' (moveR k l it wa n).1.length c' (moveR k l it wa n).1 ∧ Below w.heap.size w w' := by
  rcases (by omega : k = 0 ∨ k = 1 ∨ k = 2 ∨ k = 3 ∨ k = 4) with rfl | rfl | rfl | rfl | rfl
  · exact ⟨Go.Proofs.enters_of Try.func9 (by kernel_rfl) rfl, restock_any⟩
  · exact ⟨Go.Proofs.enters_of Try.func10 (by kernel_rfl) rfl, reserve_any⟩
  · exact ⟨Go.Proofs.enters_of Try.func11 (by kernel_rfl) rfl, release_any⟩
  · exact ⟨Go.Proofs.enters_of Try.func12 (by kernel_rfl) rfl, send_any⟩
  · exact ⟨Go.Proofs.enters_of Try.func13 (by kernel_rfl) rfl, takeback_any⟩
theorem chgR_al {k : Nat} {c : Cl} {n : Int} (h : (chgR k c n).1 = 0) : (chgR k c n).2.al = if k = 0 then c.al + n else c.al := by
  unfold chgR at h ⊢
  split <;> split <;> simp_all
theorem cellR_good {l : List Cl} (h : Good l) (it wa : Int) : cellR l it wa = if placeB it wa = true then (cellOf l it wa, 0) else (Cl0, 2) := by
  unfold cellR
  rw [if_pos (checkE_zero.2 h)]
/-- what follows of a move that goes -/
structure Whole (k : Nat) (l : List Cl) (it wa n i2 w2 : Int) (r : List Cl) (c : Cl) : Prop where
  c1 : cellR r it wa = (c, 0)
  c2 : (cellR l it wa).2 = 0
  d2 : (cellR r i2 w2).2 = (cellR l i2 w2).2
  ck : checkE r = 0
  part : sumB c = true
  al : c.al = if k = 0 then (cellR l it wa).1.al + n else (cellR l it wa).1.al
  sm : SmallC (cellR l it wa).1 ∧ SmallN n
  d1 : ¬ (i2 = it ∧ w2 = wa) → (cellR r i2 w2).1 = (cellR l i2 w2).1
theorem whole_of {k : Nat} {l : List Cl} {it wa n : Int} (h : Goes k l it wa n) (i2 w2 : Int) : Whole k l it wa n i2 w2 (moveR k l it wa n).1 (chgR k (cellOf l it wa) n).2 := by
  have B := h.behind
  have e1 : cellR l it wa = (cellOf l it wa, 0) := by rw [cellR_good h.good, if_pos h.place]
  refine ⟨by rw [cellR_good B.good, if_pos h.place, B.cell], by rw [e1], ?_, checkE_zero.2 B.good, chgR_ok (cellOf_ok h.good it wa).2.2 h.n1 h.chg, by rw [e1]; exact chgR_al h.chg, ?_, fun hne => ?_⟩
  · rw [cellR_good B.good, cellR_good h.good]; split <;> rfl
  · rw [e1]; exact ⟨cellOf_small h.good it wa, by have := h.n1; have := h.n2; unfold SmallN; omega⟩
  · rw [cellR_good B.good, cellR_good h.good, (B.other i2 w2 hne).1]
/-- the five moves in a row -/
def Row5 (w : World) (q : Nat) : Prop := ∀ k, k < 5 → w.cell? ⟨q, k, none⟩ = some (.func (.func (9 + k)) #[] #[])
theorem row5_blk {w : World} {q : Nat} (h : w.heap[q]? = some (.cells #[.func (.func 9) #[] #[], .func (.func 10) #[] #[], .func (.func 11) #[] #[], .func (.func 12) #[] #[], .func (.func 13) #[] #[]] 23 (0, 0))) : Row5 w q := by
  intro k hk
  rcases (by omega : k = 0 ∨ k = 1 ∨ k = 2 ∨ k = 3 ∨ k = 4) with rfl | rfl | rfl | rfl | rfl <;> exact cell_blk h rfl
theorem Row5.below {n : Nat} {w w' : World} {q : Nat} (h : Row5 w q) (hn : q < n) (hb : Below n w w') : Row5 w' q := fun k hk => (World.cell?_of_block (hb.block q hn)).trans (h k hk)
set_option maxRecDepth 40000 in
set_option maxHeartbeats 8000000 in
/-- StockWhole -/
theorem law_whole (a : Option Addr) (len cap : Nat) (l : List Cl) (it wa n i2 w2 : Int) (w : World) (h : IsC w a len cap l) : Calls Try.prog 5 #[.slice a len cap, .int .i64 it, .int .i64 wa, .int .i64 n, .int .i64 i2, .int .i64 w2] w fun e w' => e = .returned (.bool true) ∧ Below w.heap.size w w' := by
  have HV := hide h
  clear h
  have hq := @equal31
  have hqg := @eqg31
  go_enter Try.func5, Try.ntmps5
  go_wp2_with fail
  refine (lives_any w).mono ?_
  rintro e w1 ⟨rfl, hb1⟩
  have HB1 := hide hb1
  have C2 := hide (check_any a len cap l w1 (HV.out.below' hb1))
  clear hb1
  rcases checkE_cases l with ⟨hg, h0⟩ | ⟨hg, h0⟩
  case inr =>
    rw [h0] at C2
    clear hg h0
    go_wp2_with fail
    refine C2.out.mono ?_
    rintro e w2' ⟨rfl, hb2⟩
    have HB2 := hide (HB1.out.trans (hb2.mono HB1.out.size))
    clear hb2
    go_wp2
    go_ret
    exact ⟨rfl, HB2.out⟩
  case inl =>
    rw [h0] at C2
    have HG := hide hg
    clear hg h0
    go_wp2_with fail
    refine C2.out.mono ?_
    rintro e v2 ⟨rfl, hb2⟩
    have HB2 := hide (HB1.out.trans (hb2.mono HB1.out.size))
    have C3 := hide (cell_any a len cap l it wa v2 (HV.out.below' HB2.out))
    have C4 := hide (fun W (hW : IsC W a len cap l) => cell_any a len cap l i2 w2 W hW)
    have WF : Hid (∀ k, Goes k l it wa n → Whole k l it wa n i2 w2 (moveR k l it wa n).1 (chgR k (cellOf l it wa) n).2) := hide (fun k h => whole_of h i2 w2)
    clear hb2 C2 HB1
    go_wp2_with fail
    refine C3.out.mono ?_
    rintro e v3 ⟨rfl, hb3⟩
    have HB3 := hide (HB2.out.trans (hb3.mono HB2.out.size))
    clear hb3 C3 HB2
    have WF2 : Hid (∀ k, Goes k l it wa n → ∃ c, cellR (moveR k l it wa n).1 it wa = (c, 0) ∧ (cellR l it wa).2 = 0 ∧ (cellR (moveR k l it wa n).1 i2 w2).2 = (cellR l i2 w2).2 ∧ checkE (moveR k l it wa n).1 = 0 ∧ sumB c = true ∧ (c.al = if k = 0 then (cellR l it wa).1.al + n else (cellR l it wa).1.al) ∧ (SmallC (cellR l it wa).1 ∧ SmallN n) ∧ (¬ (i2 = it ∧ w2 = wa) → (cellR (moveR k l it wa n).1 i2 w2).1 = (cellR l i2 w2).1)) := hide (fun k h => ⟨_, (WF.out k h).c1, (WF.out k h).c2, (WF.out k h).d2, (WF.out k h).ck, (WF.out k h).part, (WF.out k h).al, (WF.out k h).sm, (WF.out k h).d1⟩)
    clear WF
    generalize cellR l it wa = WR at *
    generalize hBS : cellR l i2 w2 = BR at *
    clear hBS
    obtain ⟨⟨x1, x2, x3, x4, x5, x6⟩, xe⟩ := WR
    obtain ⟨⟨y1, y2, y3, y4, y5, y6⟩, ye⟩ := BR
    dsimp only at WF2 C4 ⊢
    go_wp2_with fail
    generalize hV4 : v3.alloc (.cells #[.int .i64 x1, .int .i64 x2, .int .i64 x3, .int .i64 x4, .int .i64 x5, .int .i64 x6] 31) = v4
    have HX4 : Hid (Blk v4 v3.heap.size ⟨x1, x2, x3, x4, x5, x6⟩) := hide (hV4 ▸ heap_alloc_new _ _)
    have HB4 : Hid (Below w.heap.size w v4) := hide (hV4 ▸ HB3.out.alloc HB3.out.size _)
    have HS4 : Hid (v3.heap.size < v4.heap.size) := hide (heap_lt HX4.out)
    clear hV4
    refine (C4.out v4 (HV.out.below' HB4.out)).mono ?_
    rintro e v5 ⟨rfl, hb5⟩
    have HB5 := hide (HB4.out.trans (hb5.mono HB4.out.size))
    have HX5 := hide (HX4.out.below HS4.out hb5)
    have HS5 : Hid (v3.heap.size < v5.heap.size) := hide (Nat.lt_of_lt_of_le HS4.out hb5.size)
    clear hb5 C4 HX4 HS4 HB4
    go_wp2
    generalize hV6 : (v5.alloc (.cells #[.int .i64 y1, .int .i64 y2, .int .i64 y3, .int .i64 y4, .int .i64 y5, .int .i64 y6] 31)).alloc (.cells #[.func (.func 9) #[] #[], .func (.func 10) #[] #[], .func (.func 11) #[] #[], .func (.func 12) #[] #[], .func (.func 13) #[] #[]] 23) = v6
    have HY6 : Hid (Blk v6 v5.heap.size ⟨y1, y2, y3, y4, y5, y6⟩) := hide (hV6 ▸ (Below.heap_alloc _ _ _ (by simp)).trans (heap_alloc_new _ _))
    have HX6 : Hid (Blk v6 v3.heap.size ⟨x1, x2, x3, x4, x5, x6⟩) := hide (hV6 ▸ ((Below.heap_alloc _ _ _ (by have := HS5.out; simp; omega)).trans (Below.heap_alloc _ _ _ HS5.out)).trans HX5.out)
    have HR6 : Hid (Row5 v6 (v5.heap.size + 1)) := hide (row5_blk (by
      rw [← hV6]
      have := heap_alloc_new (v5.alloc (.cells #[.int .i64 y1, .int .i64 y2, .int .i64 y3, .int .i64 y4, .int .i64 y5, .int .i64 y6] 31)) (.cells #[.func (.func 9) #[] #[], .func (.func 10) #[] #[], .func (.func 11) #[] #[], .func (.func 12) #[] #[], .func (.func 13) #[] #[]] 23)
      rwa [show (v5.alloc (.cells #[.int .i64 y1, .int .i64 y2, .int .i64 y3, .int .i64 y4, .int .i64 y5, .int .i64 y6] 31)).heap.size = v5.heap.size + 1 by simp] at this))
    have HB6 : Hid (Below w.heap.size w v6) := hide (hV6 ▸ (HB5.out.alloc HB5.out.size _).alloc (by have := HB5.out.size; simp; omega) _)
    have HS6 : Hid (v6.heap.size = v5.heap.size + 2) := hide (by rw [← hV6]; simp)
    have HS6' : Hid (v3.heap.size < v6.heap.size) := hide (heap_lt HX6.out)
    clear hV6 HX5 HB5
    generalize v3.heap.size = gx at *
    generalize hgy : v5.heap.size = gy at *
    clear hgy
    go_loopw [48] (fun i wr => ∃ k : Nat, k ≤ 5 ∧ i = .int .i64 k ∧ Hid (Below w.heap.size w wr ∧ Below v6.heap.size v6 wr)) (fun i _ => 5 - (intOf i).toNat)
    case atStart => exact ⟨0, by omega, rfl, hide ⟨HB6.out, Below.refl _ _⟩⟩
    case round =>
      obtain ⟨k, hk, rfl, HW⟩ := hrel
      by_cases hlt : k < 5
      case neg =>
        obtain rfl : k = 5 := by omega
        go_wp2
        go_ret
        exact ⟨rfl, HW.out.1⟩
      case pos =>
        have zf := (HR6.out.below (by rw [HS6.out]; omega) HW.out.2) k hlt
        obtain ⟨hent, hcall⟩ := mv_all k hlt
        have HC := hide (hcall a len cap l it wa n wr (HV.out.below' HW.out.1))
        clear hcall
        have hk0 : (0 : Int) ≤ (k : Int) := by omega
        have hk5 : (k : Int) < 5 := by omega
        have WK := hide (WF2.out k)
        have MC := hide (moveR_cases k l it wa n)
        have CK := hide (fun a' c' W (hW : IsC W a' (moveR k l it wa n).1.length c' (moveR k l it wa n).1) => check_any a' _ c' _ W hW)
        have CC := hide (fun a' c' W (hW : IsC W a' (moveR k l it wa n).1.length c' (moveR k l it wa n).1) => cell_any a' _ c' _ it wa W hW)
        have CD := hide (fun a' c' W (hW : IsC W a' (moveR k l it wa n).1.length c' (moveR k l it wa n).1) => cell_any a' _ c' _ i2 w2 W hW)
        generalize hfk : 9 + k = fk at *
        clear hfk
        rcases MC.out with ⟨he, hn⟩ | hgo
        · generalize moveR k l it wa n = R at *
          obtain ⟨R1, R2⟩ := R
          dsimp only at he hn HC
          subst hn
          have hd : decide (R2 = 0) = false := decide_eq_false he
          have hd2 : (R2 == 0) = false := by simpa using he
          clear CK CC CD WK MC
          go_wp2_with fail
          refine HC.out.mono ?_
          rintro e v7 ⟨a7, c7, rfl, hI7, hb7⟩
          have HB7 : Hid (Below w.heap.size w v7 ∧ Below v6.heap.size v6 v7) := hide ⟨HW.out.1.trans (hb7.mono HW.out.1.size), HW.out.2.trans (hb7.mono HW.out.2.size)⟩
          clear hI7 hb7 HC
          dsimp only [List.length_nil]
          go_wp2
          go_roundw
          case rel => exact ⟨k + 1, by omega, by simp, HB7⟩
          case measure => simp [intOf]; omega
        · obtain ⟨c, p1, p2, p3, p4, p5, p6, p7, p8⟩ := WK.out hgo
          have HE0 : Hid ((moveR k l it wa n).2 = 0) := hide (by rw [moveR_goes hgo])
          clear WK MC hgo
          rw [p1] at CC
          rw [p4] at CK
          generalize cellR (moveR k l it wa n).1 i2 w2 = DR at *
          generalize moveR k l it wa n = R at *
          obtain ⟨R1, R2⟩ := R
          obtain ⟨⟨d1, d2, d3, d4, d5, d6⟩, de⟩ := DR
          obtain ⟨c1, c2, c3, c4, c5, c6⟩ := c
          dsimp only at *
          obtain rfl := HE0.out
          subst p3
          have hxe : xe = 0 := p2
          subst hxe
          clear p1 p2 p4 HE0
          rw [sumB_iff] at p5
          obtain ⟨p51, p52, p53, p54, p55⟩ := p5
          dsimp only at p51 p52 p53 p54 p55
          obtain ⟨q1, q2⟩ := p7
          obtain ⟨_, _, _, q14⟩ := q1
          unfold SmallN at q14 q2
          dsimp only at q14
          have hw1 : IntKind.i64.wrap (c3 + c4) = c3 + c4 := wrap64 (by omega) (by omega)
          have hw2 : IntKind.i64.wrap (c3 + c4 + c5) = c6 := by rw [wrap64 (by omega) (by omega)]; omega
          have hw3 : IntKind.i64.wrap (x6 + n) = x6 + n := wrap64 (by omega) (by omega)
          have hn3 : ¬ c3 < 0 := by omega
          have hn4 : ¬ c4 < 0 := by omega
          have hn5 : ¬ c5 < 0 := by omega
          clear p51 p52 p53 p54 p55 q14 q2
          have PQ : Hid (∀ k', k' = k → (k' = 0 → c6 = x6 + n) ∧ (0 < k' → c6 = x6)) := hide (fun k' e => by
            subst e
            constructor
            · intro e; rw [p6, if_pos e]
            · intro e; rw [p6, if_neg (by omega)])
          have P8 := hide p8
          clear p6 p8
          go_wp2_with fail
          refine HC.out.mono ?_
          rintro e v7 ⟨a7, c7, rfl, hI7, hb7⟩
          have HB7 : Hid (Below w.heap.size w v7 ∧ Below v6.heap.size v6 v7) := hide ⟨HW.out.1.trans (hb7.mono HW.out.1.size), HW.out.2.trans (hb7.mono HW.out.2.size)⟩
          have HI7 := hide hI7
          clear hI7 hb7 HC HW zf hent
          obtain ⟨Rn, hRn⟩ : ∃ q, R1.length = q := ⟨_, rfl⟩
          rw [hRn] at HI7 CC CD CK ⊢
          clear hRn
          go_wp2_with fail
          refine (CC.out a7 c7 v7 HI7.out).mono ?_
          rintro e v8 ⟨rfl, hb8⟩
          have HB8 : Hid (Below w.heap.size w v8 ∧ Below v6.heap.size v6 v8) := hide ⟨HB7.out.1.trans (hb8.mono HB7.out.1.size), HB7.out.2.trans (hb8.mono HB7.out.2.size)⟩
          have HI8 := hide (HI7.out.below' hb8)
          clear hb8 HB7 HI7 CC
          go_wp2_with fail
          generalize hV9 : v8.alloc (.cells #[.int .i64 c1, .int .i64 c2, .int .i64 c3, .int .i64 c4, .int .i64 c5, .int .i64 c6] 31) = v9
          have HC9 : Hid (Blk v9 v8.heap.size ⟨c1, c2, c3, c4, c5, c6⟩) := hide (hV9 ▸ heap_alloc_new _ _)
          have HB89 : Hid (Below v8.heap.size v8 v9) := hide (hV9 ▸ (Below.refl _ _).alloc (Nat.le_refl _) _)
          have HB9 : Hid (Below w.heap.size w v9 ∧ Below v6.heap.size v6 v9) := hide ⟨HB8.out.1.trans (HB89.out.mono HB8.out.1.size), HB8.out.2.trans (HB89.out.mono HB8.out.2.size)⟩
          have HI9 := hide (HI8.out.below' HB89.out)
          have HZ9 : Hid (v8.heap.size < v9.heap.size) := hide (heap_lt HC9.out)
          clear hV9 HB89 HB8 HI8
          generalize v8.heap.size = gc at *
          refine (CD.out a7 c7 v9 HI9.out).mono ?_
          rintro e v10 ⟨rfl, hb10⟩
          have HB10 : Hid (Below w.heap.size w v10 ∧ Below v6.heap.size v6 v10) := hide ⟨HB9.out.1.trans (hb10.mono HB9.out.1.size), HB9.out.2.trans (hb10.mono HB9.out.2.size)⟩
          have HI10 := hide (HI9.out.below' hb10)
          have HC10 := hide (HC9.out.below HZ9.out hb10)
          clear hb10 HB9 HI9 HC9 HZ9 CD
          go_wp2_with fail
          generalize hV11 : v10.alloc (.cells #[.int .i64 d1, .int .i64 d2, .int .i64 d3, .int .i64 d4, .int .i64 d5, .int .i64 d6] 31) = v11
          have HD11 : Hid (Blk v11 v10.heap.size ⟨d1, d2, d3, d4, d5, d6⟩) := hide (hV11 ▸ heap_alloc_new _ _)
          have HB1011 : Hid (Below v10.heap.size v10 v11) := hide (hV11 ▸ (Below.refl _ _).alloc (Nat.le_refl _) _)
          have HB11 : Hid (Below w.heap.size w v11 ∧ Below v6.heap.size v6 v11) := hide ⟨HB10.out.1.trans (HB1011.out.mono HB10.out.1.size), HB10.out.2.trans (HB1011.out.mono HB10.out.2.size)⟩
          have HI11 := hide (HI10.out.below' HB1011.out)
          have HC11 := hide (HC10.out.below (heap_lt HC10.out) HB1011.out)
          clear hV11 HB1011 HB10 HI10 HC10
          generalize v10.heap.size = gd at *
          refine (CK.out a7 c7 v11 HI11.out).mono ?_
          rintro e v12 ⟨rfl, hb12⟩
          have HB12 : Hid (Below w.heap.size w v12 ∧ Below v6.heap.size v6 v12) := hide ⟨HB11.out.1.trans (hb12.mono HB11.out.1.size), HB11.out.2.trans (hb12.mono HB11.out.2.size)⟩
          have HC12 := hide (HC11.out.below (heap_lt HC11.out) hb12)
          have HD12 := hide (HD11.out.below (heap_lt HD11.out) hb12)
          have HX12 := hide (HX6.out.below HS6'.out HB12.out.2)
          have HY12 := hide (HY6.out.below (by rw [HS6.out]; omega) HB12.out.2)
          clear hb12 HB11 HI11 HC11 HD11 CK
          obtain ⟨s1, s2, s3, s4, s5, s6⟩ := HC12.out.cells
          obtain ⟨_, _, _, _, _, t6⟩ := HX12.out.cells
          simp only [Nat.zero_add] at s3 s4 s5 s6 t6
          clear s1 s2
          have FIN : Hid (∃ j : Nat, j ≤ 5 ∧ j = k + 1 ∧ Hid (Below w.heap.size w v12 ∧ Below v6.heap.size v6 v12)) := hide ⟨k + 1, by omega, rfl, HB12⟩
          by_cases hkey : i2 = it ∧ w2 = wa
          · obtain ⟨rfl, rfl⟩ := hkey
            by_cases hk00 : k = 0
            · have hc6 := (PQ.out k rfl).1 hk00
              subst hk00 hc6
              go_wp2
              go_roundw
              case rel => exact ⟨0 + 1, by omega, by simp, HB12⟩
              case measure => simp [intOf]
            · have hc6 := (PQ.out k rfl).2 (by omega)
              have hkp : 0 < k := by omega
              subst hc6
              go_wp2
              go_roundw
              case rel => exact ⟨k + 1, by omega, by simp, HB12⟩
              case measure => simp [intOf]; omega
          · have hdy := P8.out hkey
            rw [Cl.mk.injEq] at hdy
            obtain ⟨rfl, rfl, rfl, rfl, rfl, rfl⟩ := hdy
            obtain ⟨u1, u2, u3, u4, u5, u6⟩ := HD12.out.cells
            obtain ⟨v1', v2', v3', v4', v5', v6'⟩ := HY12.out.cells
            simp only [Nat.zero_add] at u1 u2 u3 u4 u5 u6 v1' v2' v3' v4' v5' v6'
            have hsm : sameC ⟨d1, d2, d3, d4, d5, d6⟩ ⟨d1, d2, d3, d4, d5, d6⟩ = true := (sameC_iff _ _).2 rfl
            by_cases hi2 : i2 = it
            · have hw2' : ¬ w2 = wa := fun e => hkey ⟨hi2, e⟩
              subst hi2
              clear hkey
              by_cases hk00 : k = 0
              · have hc6 := (PQ.out k rfl).1 hk00
                subst hk00 hc6
                go_wp2
                go_roundw
                case rel => exact ⟨0 + 1, by omega, by simp, HB12⟩
                case measure => simp [intOf]
              · have hc6 := (PQ.out k rfl).2 (by omega)
                have hkp : 0 < k := by omega
                subst hc6
                go_wp2
                go_roundw
                case rel => exact ⟨k + 1, by omega, by simp, HB12⟩
                case measure => simp [intOf]; omega
            · clear hkey
              by_cases hk00 : k = 0
              · have hc6 := (PQ.out k rfl).1 hk00
                subst hk00 hc6
                go_wp2
                go_roundw
                case rel => exact ⟨0 + 1, by omega, by simp, HB12⟩
                case measure => simp [intOf]
              · have hc6 := (PQ.out k rfl).2 (by omega)
                have hkp : 0 < k := by omega
                subst hc6
                go_wp2
                go_roundw
                case rel => exact ⟨k + 1, by omega, by simp, HB12⟩
                case measure => simp [intOf]; omega
end Go.Proofs.Ytjochdmhhhhgiaa
namespace Go.Proofs.Ytjochdmhhhhgiaa.stockWhole
open Go.RowKit
theorem lawWalk (a0 : Option Addr) (len0 cap0 : Nat) (l0 : List Cl) (n1 n2 n3 n4 n5 : Int) (W : World) (w0 : IsC W a0 len0 cap0 l0) (_ : len0 * 48 ≤ 140737488355328) (_ : (Lit.int .i64 n1).wf = true) (_ : (Lit.int .i64 n2).wf = true) (_ : (Lit.int .i64 n3).wf = true) (_ : (Lit.int .i64 n4).wf = true) (_ : (Lit.int .i64 n5).wf = true) :
    Calls Try.prog 5 #[.slice a0 len0 cap0, .int .i64 n1, .int .i64 n2, .int .i64 n3, .int .i64 n4, .int .i64 n5] W fun e W' => e = .returned (.bool true) ∧ Below W.heap.size W W' :=
  law_whole a0 len0 cap0 l0 n1 n2 n3 n4 n5 W w0
end Go.Proofs.Ytjochdmhhhhgiaa.stockWhole
