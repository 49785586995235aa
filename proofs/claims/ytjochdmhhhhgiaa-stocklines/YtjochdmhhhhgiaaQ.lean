/- the document's Of, wrong, Cell -/
import Derived.Test.YtjochdmhhhhgiaaK
import Derived.Test.YtjochdmhhhhgiaaM
namespace Go.Proofs.Ytjochdmhhhhgiaa
open Go.RowKit
/-- the document's cell -/
theorem of_first {l : List Cl} (h : Good l) {it wa : Int} {k : Nat} (hk : k < l.length) (h1 : (l.getD k Cl0).it = it) (h2 : (l.getD k Cl0).wa = wa) : cellOf l it wa = l.getD k Cl0 := by
  have := (cellOf_mem h.pw (getD_mem (d := Cl0) hk)).2
  rwa [h1, h2] at this
theorem of_none {l : List Cl} (h : Good l) {it wa : Int} (hn : ∀ j, j < l.length → ¬ ((l.getD j Cl0).it = it ∧ (l.getD j Cl0).wa = wa)) : cellOf l it wa = noC it wa := by
  refine (cellOf_not h.pw (fun x hx => ?_)).2
  obtain ⟨j, hj, rfl⟩ := List.mem_iff_getElem.1 hx
  have := hn j hj
  rwa [List.getD_eq_getElem?_getD, List.getElem?_eq_getElem hj] at this
set_option maxHeartbeats 4000000 in
theorem rof_any (a : Option Addr) (len cap : Nat) (l : List Cl) (it wa : Int) (w : World) (h : IsC w a len cap l) (hg : Good l) : Calls Try.prog 32 #[.slice a len cap, .int .i64 it, .int .i64 wa] w fun e w' => e = .returned (vc (cellOf l it wa)) ∧ Below w.heap.size w w' := by
  have HV := hide h
  have HLN := hide h.1
  have hcap := h.2.1
  have hcm : cap ≤ 9223372036854775807 := h.2.2.1
  have hcm' : (cap : Int) ≤ 9223372036854775807 := by omega
  have HF : Hid (∀ k, k < len → (l.getD k Cl0).it = it → (l.getD k Cl0).wa = wa → cellOf l it wa = l.getD k Cl0) := hide (fun k hk h1 h2 => of_first hg (by rw [h.1]; exact hk) h1 h2)
  have HNO : Hid ((∀ j, j < len → ¬ ((l.getD j Cl0).it = it ∧ (l.getD j Cl0).wa = wa)) → cellOf l it wa = noC it wa) := hide (fun hn => of_none hg (by rw [h.1]; exact hn))
  generalize cellOf l it wa = co at *
  have HB0 := hide (Below.refl w.heap.size w)
  clear h hg
  go_enter Try.func32, Try.ntmps32
  go_wp2
  generalize hW0 : w.alloc (.cells #[.int .i64 0, .int .i64 0, .int .i64 0, .int .i64 0, .int .i64 0, .int .i64 0] 31) = W0
  have HB1 : Hid (Below w.heap.size w W0) := hide (hW0 ▸ HB0.out.alloc (Nat.le_refl _) _)
  have HS1 : Hid (W0.heap.size = w.heap.size + 1) := hide (by rw [← hW0]; simp)
  have HG0 : Hid (Blk W0 w.heap.size Cl0) := hide (by rw [← hW0]; exact heap_alloc_new _ _)
  clear hW0 HB0
  go_loopw [11] (fun i wr => ∃ k : Nat, k ≤ len ∧ i = .int .i64 k ∧ Hid (∀ j, j < k → ¬ ((l.getD j Cl0).it = it ∧ (l.getD j Cl0).wa = wa)) ∧ Hid (Below W0.heap.size W0 wr)) (fun i _ => len - (intOf i).toNat)
  case atStart => exact ⟨0, by omega, rfl, hide (fun j h => by omega), hide (Below.refl _ _)⟩
  case round =>
    obtain ⟨k, hk, rfl, HA, HW⟩ := hrel
    have HBw : Hid (Below w.heap.size w wr) := hide (HB1.out.trans (HW.out.mono HB1.out.size))
    have HGr : Hid (Blk wr w.heap.size Cl0) := hide (HG0.out.below (by rw [HS1.out]; omega) HW.out)
    by_cases hlt : k < len
    · obtain ⟨bs, off, rfl, hbs, z0⟩ := (HV.out.below' HBw.out).2.2.2.2.1 k hlt
      have HFk := hide (HF.out k hlt)
      have HST : Hid (¬ ((l.getD k Cl0).it = it ∧ (l.getD k Cl0).wa = wa) → ∀ j, j < k + 1 → ¬ ((l.getD j Cl0).it = it ∧ (l.getD j Cl0).wa = wa)) := hide (fun h j hj => by
        rcases Nat.lt_succ_iff_lt_or_eq.1 hj with h1 | h1
        · exact HA.out j h1
        · rw [h1]; exact h)
      generalize l.getD k Cl0 = x at *
      obtain ⟨x1, x2, x3, x4, x5, x6⟩ := x
      dsimp only at HFk HST
      obtain ⟨z1, z2, z3, z4, z5, z6⟩ := z0
      simp only at z1 z2 z3 z4 z5 z6
      have HWn : Hid (Below W0.heap.size W0 (wr.alloc (.cells #[.int .i64 x1, .int .i64 x2, .int .i64 x3, .int .i64 x4, .int .i64 x5, .int .i64 x6] 31))) := hide (HW.out.alloc HW.out.size _)
      by_cases h1 : x1 = it
      · by_cases h2 : x2 = wa
        · have HCO := hide (HFk.out h1 h2)
          have hgs : w.heap.size < wr.heap.size := heap_lt HGr.out
          subst h1 h2
          have HG2 : Hid (Blk (wr.alloc (.cells #[.int .i64 x1, .int .i64 x2, .int .i64 x3, .int .i64 x4, .int .i64 x5, .int .i64 x6] 31)) w.heap.size Cl0) := hide ((Below.heap_alloc _ _ _ hgs).trans HGr.out)
          obtain ⟨c1, c2, c3, c4, c5, c6⟩ := HG2.out.cells
          have f1 := HG2.out.froz
          simp only [Cl0, Nat.zero_add] at c1 c2 c3 c4 c5 c6
          clear hgs
          go_wp2
          refine bodyPost_ret (res1c rfl _ (put6 (wr.alloc (.cells #[.int .i64 x1, .int .i64 x2, .int .i64 x3, .int .i64 x4, .int .i64 x5, .int .i64 x6] 31)) w.heap.size ⟨x1, x2, x3, x4, x5, x6⟩) w.heap.size ⟨x1, x2, x3, x4, x5, x6⟩ (put6_blk HG2.out _) rfl) rfl ?_
          exact ⟨by rw [HCO.out], put6_below (HBw.out.alloc HBw.out.size _) (Nat.le_refl _) ⟨x1, x2, x3, x4, x5, x6⟩⟩
        · subst h1
          go_wp2
          go_roundw
          case rel => exact ⟨k + 1, by omega, by simp, hide (HST.out (fun h => h2 h.2)), HWn⟩
          case measure => simp [intOf]; omega
      · go_wp2
        go_roundw
        case rel => exact ⟨k + 1, by omega, by simp, hide (HST.out (fun h => h1 h.1)), HWn⟩
        case measure => simp [intOf]; omega
    · obtain rfl : k = len := by omega
      have HCO := hide (HNO.out HA.out)
      obtain ⟨c1, c2, c3, c4, c5, c6⟩ := HGr.out.cells
      have f1 := HGr.out.froz
      simp only [Cl0, Nat.zero_add] at c1 c2 c3 c4 c5 c6
      go_wp2
      refine bodyPost_ret (res1c rfl _ (put6 wr w.heap.size (noC it wa)) w.heap.size (noC it wa) (put6_blk HGr.out _) rfl) rfl ?_
      exact ⟨by rw [HCO.out], put6_below HBw.out (Nat.le_refl _) (noC it wa)⟩
/-- what the document's wrong says -/
def wrongR (l : List Cl) (it wa : Int) : Int := if checkE l = 0 then (if placeB it wa = true then 0 else 2) else checkE l
set_option maxHeartbeats 2000000 in
theorem rwrong_any (HCK : ∀ (a : Option Addr) (len cap : Nat) (l : List Cl) (w : World), IsC w a len cap l → Calls Try.prog 20 #[.slice a len cap] w fun e w' => e = .returned (.int .i64 (checkE l)) ∧ Below w.heap.size w w') (a : Option Addr) (len cap : Nat) (l : List Cl) (it wa : Int) (w : World) (h : IsC w a len cap l) : Calls Try.prog 30 #[.slice a len cap, .int .i64 it, .int .i64 wa] w fun e w' => e = .returned (.int .i64 (wrongR l it wa)) ∧ Below w.heap.size w w' := by
  have HR : Hid (wrongR l it wa = if checkE l = 0 then (if placeB it wa = true then 0 else 2) else checkE l) := hide rfl
  have C1 := hide (HCK a len cap l w h)
  have HP := hide (placeB_iff (i := it) (j := wa))
  generalize wrongR l it wa = R at *
  clear h HCK
  go_enter Try.func30, Try.ntmps30
  go_wp2_with fail
  refine C1.out.mono ?_
  rintro e w1 ⟨rfl, hb1⟩
  have HB1 := hide hb1
  clear hb1 C1
  rcases checkE_cases l with ⟨_, h0⟩ | ⟨_, h0⟩
  · rw [h0] at HR ⊢
    rw [if_pos rfl] at HR
    clear h0
    by_cases hp : 1 ≤ it ∧ it ≤ 1024 ∧ 1 ≤ wa ∧ wa ≤ 1024
    · rw [if_pos (HP.out.2 hp)] at HR
      obtain ⟨p1, p2, p3, p4⟩ := hp
      have n1 : ¬ it < 1 := by omega
      have n2 : ¬ 1024 < it := by omega
      have n3 : ¬ wa < 1 := by omega
      have n4 : ¬ 1024 < wa := by omega
      clear p1 p2 p3 p4
      go_wp2
      go_ret
      exact ⟨ret_int HR.out.symm, HB1.out⟩
    · rw [if_neg (fun e => hp (HP.out.1 e))] at HR
      by_cases n1 : it < 1
      · go_wp2
        go_ret
        exact ⟨ret_int HR.out.symm, HB1.out⟩
      by_cases n2 : 1024 < it
      · go_wp2
        go_ret
        exact ⟨ret_int HR.out.symm, HB1.out⟩
      by_cases n3 : wa < 1
      · go_wp2
        go_ret
        exact ⟨ret_int HR.out.symm, HB1.out⟩
      have n4 : 1024 < wa := by omega
      clear hp
      go_wp2
      go_ret
      exact ⟨ret_int HR.out.symm, HB1.out⟩
  · rw [h0] at HR ⊢
    rw [if_neg (by decide)] at HR
    clear h0
    go_wp2
    go_ret
    exact ⟨ret_int HR.out.symm, HB1.out⟩
theorem cellR_wrong (l : List Cl) (it wa : Int) : cellR l it wa = if wrongR l it wa = 0 then (cellOf l it wa, 0) else (Cl0, wrongR l it wa) := by
  unfold cellR wrongR
  split
  · split <;> simp
  · rfl
theorem wrongR_good {l : List Cl} {it wa : Int} (h : wrongR l it wa = 0) : Good l ∧ placeB it wa = true := by
  unfold wrongR at h
  rcases checkE_cases l with ⟨hg, h0⟩ | ⟨_, h0⟩
  · rw [if_pos h0] at h
    refine ⟨hg, ?_⟩
    cases hp : placeB it wa
    · rw [hp] at h; simp at h
    · rfl
  · rw [h0] at h; simp at h
set_option maxHeartbeats 2000000 in
theorem rcell_any (HCK : ∀ (a : Option Addr) (len cap : Nat) (l : List Cl) (w : World), IsC w a len cap l → Calls Try.prog 20 #[.slice a len cap] w fun e w' => e = .returned (.int .i64 (checkE l)) ∧ Below w.heap.size w w') (a : Option Addr) (len cap : Nat) (l : List Cl) (it wa : Int) (w : World) (h : IsC w a len cap l) : Calls Try.prog 17 #[.slice a len cap, .int .i64 it, .int .i64 wa] w fun e w' => e = .returned (.tuple #[vc (cellR l it wa).1, .int .i64 (cellR l it wa).2]) ∧ Below w.heap.size w w' := by
  have HV := hide h
  have HR := hide (cellR_wrong l it wa)
  have C1 := hide (fun W (hW : IsC W a len cap l) => rwrong_any HCK a len cap l it wa W hW)
  have C2 := hide (fun W (hW : IsC W a len cap l) (h0 : wrongR l it wa = 0) => rof_any a len cap l it wa W hW (wrongR_good h0).1)
  generalize cellR l it wa = R at *
  generalize wrongR l it wa = er at *
  generalize cellOf l it wa = co at *
  have HB0 := hide (Below.refl w.heap.size w)
  clear h HCK
  go_enter Try.func17, Try.ntmps17
  go_wp2_with fail
  generalize hW0 : w.alloc (.cells #[.int .i64 0, .int .i64 0, .int .i64 0, .int .i64 0, .int .i64 0, .int .i64 0] 31) = W0
  have HB1 : Hid (Below w.heap.size w W0) := hide (hW0 ▸ HB0.out.alloc (Nat.le_refl _) _)
  have HG0 : Hid (Blk W0 w.heap.size Cl0) := hide (by rw [← hW0]; exact heap_alloc_new _ _)
  clear hW0 HB0
  refine (C1.out W0 (HV.out.below' HB1.out)).mono ?_
  rintro e w1 ⟨rfl, hb1⟩
  have HB2 := hide (HB1.out.trans (hb1.mono HB1.out.size))
  have HG2 := hide (HG0.out.below (heap_lt HG0.out) hb1)
  clear hb1 HG0 HB1 C1
  by_cases he : er = 0
  · subst he
    rw [if_pos rfl] at HR
    go_wp2_with fail
    refine (C2.out w1 (HV.out.below' HB2.out) (by trivial)).mono ?_
    rintro e w2 ⟨rfl, hb2⟩
    have HB3 := hide (HB2.out.trans (hb2.mono HB2.out.size))
    have HG3 := hide (HG2.out.below (heap_lt HG2.out) hb2)
    clear hb2 HG2 HB2 C2
    obtain ⟨c1, c2, c3, c4, c5, c6⟩ := HG3.out.cells
    have f1 := HG3.out.froz
    simp only [Cl0, Nat.zero_add] at c1 c2 c3 c4 c5 c6
    obtain ⟨y1, y2, y3, y4, y5, y6⟩ := co
    go_wp2
    refine bodyPost_ret (res2c rfl _ (put6 w2 w.heap.size ⟨y1, y2, y3, y4, y5, y6⟩) w.heap.size ⟨y1, y2, y3, y4, y5, y6⟩ (put6_blk HG3.out _) rfl) rfl ?_
    exact ⟨by rw [HR.out]; rfl, put6_below HB3.out (Nat.le_refl _) ⟨y1, y2, y3, y4, y5, y6⟩⟩
  · rw [if_neg he] at HR
    have hd : decide (er = 0) = false := decide_eq_false he
    have hd2 : (er == 0) = false := by simpa using he
    obtain ⟨c1, c2, c3, c4, c5, c6⟩ := HG2.out.cells
    have f1 := HG2.out.froz
    simp only [Cl0, Nat.zero_add] at c1 c2 c3 c4 c5 c6
    go_wp2
    refine bodyPost_ret (res2c rfl _ (put6 w1 w.heap.size Cl0) w.heap.size Cl0 (put6_blk HG2.out _) rfl) rfl ?_
    exact ⟨by rw [HR.out]; rfl, put6_below HB2.out (Nat.le_refl _) Cl0⟩
/-- what the document's moved says -/
def mdR (k : Nat) (c : Cl) (n : Int) : Cl × Bool :=
  match k with
  | 0 => ({ c with fr := c.fr + n, al := c.al + n }, true)
  | 1 => ({ c with fr := c.fr - n, he := c.he + n }, decide (n ≤ c.fr))
  | 2 => ({ c with he := c.he - n, fr := c.fr + n }, decide (n ≤ c.he))
  | 3 => ({ c with he := c.he - n, ou := c.ou + n }, decide (n ≤ c.he))
  | _ => ({ c with ou := c.ou - n, fr := c.fr + n }, decide (n ≤ c.ou))
set_option maxHeartbeats 4000000 in
theorem moved_any (k : Nat) (hk : k < 5) (c : Cl) (n : Int) (w : World) (hc : SmallC c) (hn : SmallN n) : Calls Try.prog 31 #[vc c, .int .i64 (k : Int), .int .i64 n] w fun e w' => e = .returned (.tuple #[vc (mdR k c n).1, .bool (mdR k c n).2]) ∧ Below w.heap.size w w' := by
  obtain ⟨x1, x2, x3, x4, x5, x6⟩ := c
  unfold SmallC SmallN at hc
  unfold SmallN at hn
  dsimp only at hc
  have a3 : IntKind.i64.wrap (x3 + n) = x3 + n := wrap64 (by omega) (by omega)
  have a4 : IntKind.i64.wrap (x4 + n) = x4 + n := wrap64 (by omega) (by omega)
  have a5 : IntKind.i64.wrap (x5 + n) = x5 + n := wrap64 (by omega) (by omega)
  have a6 : IntKind.i64.wrap (x6 + n) = x6 + n := wrap64 (by omega) (by omega)
  have s3 : IntKind.i64.wrap (x3 - n) = x3 - n := wrap64 (by omega) (by omega)
  have s4 : IntKind.i64.wrap (x4 - n) = x4 - n := wrap64 (by omega) (by omega)
  have s5 : IntKind.i64.wrap (x5 - n) = x5 - n := wrap64 (by omega) (by omega)
  have HB0 := hide (Below.refl w.heap.size w)
  clear hc hn
  go_enter Try.func31, Try.ntmps31
  refine wp_seq_k (fun K0 hK0 => ?_)
  have HK0 := hide hK0
  clear hK0
  go_wp2
  generalize hW0 : (w.alloc (.cells #[.int .i64 x1, .int .i64 x2, .int .i64 x3, .int .i64 x4, .int .i64 x5, .int .i64 x6] 31)).alloc (.cells #[.int .i64 0, .int .i64 0, .int .i64 0, .int .i64 0, .int .i64 0, .int .i64 0] 31) = W0
  have HB1 : Hid (Below w.heap.size w W0) := hide (hW0 ▸ (HB0.out.alloc (Nat.le_refl _) _).alloc (by simp) _)
  have HX0 : Hid (Blk W0 w.heap.size ⟨x1, x2, x3, x4, x5, x6⟩) := hide (by
    rw [← hW0]
    exact (Below.heap_alloc _ _ _ (by simp)).trans (heap_alloc_new _ _))
  have HZ0 : Hid (Blk W0 (w.heap.size + 1) Cl0) := hide (by
    rw [← hW0]
    have := heap_alloc_new (w.alloc (.cells #[.int .i64 x1, .int .i64 x2, .int .i64 x3, .int .i64 x4, .int .i64 x5, .int .i64 x6] 31)) (.cells #[.int .i64 0, .int .i64 0, .int .i64 0, .int .i64 0, .int .i64 0, .int .i64 0] 31)
    rwa [show (w.alloc (.cells #[.int .i64 x1, .int .i64 x2, .int .i64 x3, .int .i64 x4, .int .i64 x5, .int .i64 x6] 31)).heap.size = w.heap.size + 1 by simp] at this)
  clear hW0 HB0
  obtain ⟨c1, c2, c3, c4, c5, c6⟩ := HX0.out.cells
  have f1 := HX0.out.froz
  simp only [Nat.zero_add] at c1 c2 c3 c4 c5 c6
  refine HK0.out _ _ ?_
  clear HK0
  refine wp_seq_k (fun K1 hK1 => ?_)
  have HK1 := hide hK1
  clear hK1
  go_wp2
  refine HK1.out _ _ ?_
  clear HK1
  refine wp_seq_k (fun K2 hK2 => ?_)
  have HK2 := hide hK2
  clear hK2
  rcases (by omega : k = 0 ∨ k = 1 ∨ k = 2 ∨ k = 3 ∨ k = 4) with rfl | rfl | rfl | rfl | rfl
  · go_wp2
    generalize hW2 : (W0.setCell ⟨w.heap.size, 2, none⟩ (.int .i64 (x3 + n))).setCell ⟨w.heap.size, 5, none⟩ (.int .i64 (x6 + n)) = W2
    have HX2 : Hid (Blk W2 w.heap.size ⟨x1, x2, x3 + n, x4, x5, x6 + n⟩) := hide (hW2 ▸ set2_blk HX0.out rfl)
    have HZ2 : Hid (Blk W2 (w.heap.size + 1) Cl0) := hide (hW2 ▸ ((Below.heap_setCell _ _ _ _ (by simp)).trans ((Below.heap_setCell _ _ _ _ (by simp)).trans HZ0.out)))
    have HB2 : Hid (Below w.heap.size w W2) := hide (hW2 ▸ set2_below HB1.out (Nat.le_refl _) _ _)
    clear hW2 HX0 HZ0 HB1 c1 c2 c3 c4 c5 c6 f1
    obtain ⟨c1, c2, c3, c4, c5, c6⟩ := HX2.out.cells
    obtain ⟨d1, d2, d3, d4, d5, d6⟩ := HZ2.out.cells
    have f2 := HZ2.out.froz
    simp only [Cl0, Nat.zero_add] at c1 c2 c3 c4 c5 c6 d1 d2 d3 d4 d5 d6
    refine HK2.out _ _ ?_
    clear HK2
    go_wp2
    refine bodyPost_ret (res2c rfl _ (put6 W2 (w.heap.size + 1) ⟨x1, x2, x3 + n, x4, x5, x6 + n⟩) (w.heap.size + 1) ⟨x1, x2, x3 + n, x4, x5, x6 + n⟩ (put6_blk HZ2.out _) rfl) rfl ?_
    exact ⟨rfl, put6_below HB2.out (by omega) ⟨x1, x2, x3 + n, x4, x5, x6 + n⟩⟩
  · go_wp2
    generalize hW2 : (W0.setCell ⟨w.heap.size, 2, none⟩ (.int .i64 (x3 - n))).setCell ⟨w.heap.size, 3, none⟩ (.int .i64 (x4 + n)) = W2
    have HX2 : Hid (Blk W2 w.heap.size ⟨x1, x2, x3 - n, x4 + n, x5, x6⟩) := hide (hW2 ▸ set2_blk HX0.out rfl)
    have HZ2 : Hid (Blk W2 (w.heap.size + 1) Cl0) := hide (hW2 ▸ ((Below.heap_setCell _ _ _ _ (by simp)).trans ((Below.heap_setCell _ _ _ _ (by simp)).trans HZ0.out)))
    have HB2 : Hid (Below w.heap.size w W2) := hide (hW2 ▸ set2_below HB1.out (Nat.le_refl _) _ _)
    clear hW2 HX0 HZ0 HB1 c1 c2 c3 c4 c5 c6 f1
    obtain ⟨c1, c2, c3, c4, c5, c6⟩ := HX2.out.cells
    obtain ⟨d1, d2, d3, d4, d5, d6⟩ := HZ2.out.cells
    have f2 := HZ2.out.froz
    simp only [Cl0, Nat.zero_add] at c1 c2 c3 c4 c5 c6 d1 d2 d3 d4 d5 d6
    refine HK2.out _ _ ?_
    clear HK2
    go_wp2
    refine bodyPost_ret (res2c rfl _ (put6 W2 (w.heap.size + 1) ⟨x1, x2, x3 - n, x4 + n, x5, x6⟩) (w.heap.size + 1) ⟨x1, x2, x3 - n, x4 + n, x5, x6⟩ (put6_blk HZ2.out _) rfl) rfl ?_
    exact ⟨rfl, put6_below HB2.out (by omega) ⟨x1, x2, x3 - n, x4 + n, x5, x6⟩⟩
  · go_wp2
    generalize hW2 : (W0.setCell ⟨w.heap.size, 3, none⟩ (.int .i64 (x4 - n))).setCell ⟨w.heap.size, 2, none⟩ (.int .i64 (x3 + n)) = W2
    have HX2 : Hid (Blk W2 w.heap.size ⟨x1, x2, x3 + n, x4 - n, x5, x6⟩) := hide (hW2 ▸ set2_blk HX0.out rfl)
    have HZ2 : Hid (Blk W2 (w.heap.size + 1) Cl0) := hide (hW2 ▸ ((Below.heap_setCell _ _ _ _ (by simp)).trans ((Below.heap_setCell _ _ _ _ (by simp)).trans HZ0.out)))
    have HB2 : Hid (Below w.heap.size w W2) := hide (hW2 ▸ set2_below HB1.out (Nat.le_refl _) _ _)
    clear hW2 HX0 HZ0 HB1 c1 c2 c3 c4 c5 c6 f1
    obtain ⟨c1, c2, c3, c4, c5, c6⟩ := HX2.out.cells
    obtain ⟨d1, d2, d3, d4, d5, d6⟩ := HZ2.out.cells
    have f2 := HZ2.out.froz
    simp only [Cl0, Nat.zero_add] at c1 c2 c3 c4 c5 c6 d1 d2 d3 d4 d5 d6
    refine HK2.out _ _ ?_
    clear HK2
    go_wp2
    refine bodyPost_ret (res2c rfl _ (put6 W2 (w.heap.size + 1) ⟨x1, x2, x3 + n, x4 - n, x5, x6⟩) (w.heap.size + 1) ⟨x1, x2, x3 + n, x4 - n, x5, x6⟩ (put6_blk HZ2.out _) rfl) rfl ?_
    exact ⟨rfl, put6_below HB2.out (by omega) ⟨x1, x2, x3 + n, x4 - n, x5, x6⟩⟩
  · go_wp2
    generalize hW2 : (W0.setCell ⟨w.heap.size, 3, none⟩ (.int .i64 (x4 - n))).setCell ⟨w.heap.size, 4, none⟩ (.int .i64 (x5 + n)) = W2
    have HX2 : Hid (Blk W2 w.heap.size ⟨x1, x2, x3, x4 - n, x5 + n, x6⟩) := hide (hW2 ▸ set2_blk HX0.out rfl)
    have HZ2 : Hid (Blk W2 (w.heap.size + 1) Cl0) := hide (hW2 ▸ ((Below.heap_setCell _ _ _ _ (by simp)).trans ((Below.heap_setCell _ _ _ _ (by simp)).trans HZ0.out)))
    have HB2 : Hid (Below w.heap.size w W2) := hide (hW2 ▸ set2_below HB1.out (Nat.le_refl _) _ _)
    clear hW2 HX0 HZ0 HB1 c1 c2 c3 c4 c5 c6 f1
    obtain ⟨c1, c2, c3, c4, c5, c6⟩ := HX2.out.cells
    obtain ⟨d1, d2, d3, d4, d5, d6⟩ := HZ2.out.cells
    have f2 := HZ2.out.froz
    simp only [Cl0, Nat.zero_add] at c1 c2 c3 c4 c5 c6 d1 d2 d3 d4 d5 d6
    refine HK2.out _ _ ?_
    clear HK2
    go_wp2
    refine bodyPost_ret (res2c rfl _ (put6 W2 (w.heap.size + 1) ⟨x1, x2, x3, x4 - n, x5 + n, x6⟩) (w.heap.size + 1) ⟨x1, x2, x3, x4 - n, x5 + n, x6⟩ (put6_blk HZ2.out _) rfl) rfl ?_
    exact ⟨rfl, put6_below HB2.out (by omega) ⟨x1, x2, x3, x4 - n, x5 + n, x6⟩⟩
  · go_wp2
    generalize hW2 : (W0.setCell ⟨w.heap.size, 4, none⟩ (.int .i64 (x5 - n))).setCell ⟨w.heap.size, 2, none⟩ (.int .i64 (x3 + n)) = W2
    have HX2 : Hid (Blk W2 w.heap.size ⟨x1, x2, x3 + n, x4, x5 - n, x6⟩) := hide (hW2 ▸ set2_blk HX0.out rfl)
    have HZ2 : Hid (Blk W2 (w.heap.size + 1) Cl0) := hide (hW2 ▸ ((Below.heap_setCell _ _ _ _ (by simp)).trans ((Below.heap_setCell _ _ _ _ (by simp)).trans HZ0.out)))
    have HB2 : Hid (Below w.heap.size w W2) := hide (hW2 ▸ set2_below HB1.out (Nat.le_refl _) _ _)
    clear hW2 HX0 HZ0 HB1 c1 c2 c3 c4 c5 c6 f1
    obtain ⟨c1, c2, c3, c4, c5, c6⟩ := HX2.out.cells
    obtain ⟨d1, d2, d3, d4, d5, d6⟩ := HZ2.out.cells
    have f2 := HZ2.out.froz
    simp only [Cl0, Nat.zero_add] at c1 c2 c3 c4 c5 c6 d1 d2 d3 d4 d5 d6
    refine HK2.out _ _ ?_
    clear HK2
    go_wp2
    refine bodyPost_ret (res2c rfl _ (put6 W2 (w.heap.size + 1) ⟨x1, x2, x3 + n, x4, x5 - n, x6⟩) (w.heap.size + 1) ⟨x1, x2, x3 + n, x4, x5 - n, x6⟩ (put6_blk HZ2.out _) rfl) rfl ?_
    exact ⟨rfl, put6_below HB2.out (by omega) ⟨x1, x2, x3 + n, x4, x5 - n, x6⟩⟩
end Go.Proofs.Ytjochdmhhhhgiaa
