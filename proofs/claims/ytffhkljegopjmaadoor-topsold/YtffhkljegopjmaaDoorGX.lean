/- Balance -/
import Derived.Test.YtffhkljegopjmaaDoorGV
import Derived.Test.YtffhkljegopjmaaDoorGSm
namespace Go.Proofs.YtffhkljegopjmaaDoor.Lg
open Go.RowKit
set_option maxRecDepth 40000
def iv (l : List Int) : List Value := l.map fun x => Value.int .i64 x
theorem iv_append (l m : List Int) : iv (l ++ m) = iv l ++ iv m := by simp [iv]
theorem iv_len (l : List Int) : (iv l).length = l.length := by simp [iv]
theorem info2 : (Tryd.prog.info? 2).map (fun i => (i.zero, i.size, i.bytes)) = some (some (.int .i64 0), 1, 8) := by kernel_rfl
theorem iv_one (l : List Int) : ∀ u ∈ iv l, u.oneCell' = true := by
  intro u hu
  obtain ⟨x, _, rfl⟩ := List.mem_map.1 hu
  rfl
/-- append(own, numbers...) -/
theorem wpList_ints {w : World} {ops : Array Oper} {rest : List Oper} {o : Oper} {a : Act} {Q : Exit → Act → World → Prop} (hgd : o.guard = none) (s x : Operand)
    (ho : o.op = .call { callee := .builtin .append, args := #[s, x], argTypes := #[57, 57] }) (base : Nat) (v : Value) (xs : List Int) (hs : a.eval s = v) (hown : w.ownsRow base 2 1 v xs.length (iv xs))
    (q : Nat) (ys : List Int) (n : Nat) (hn : ys.length = n) (hx : a.eval x = .slice (some ⟨q, 0, none⟩) n n) (hq : ∀ j u, (iv ys)[j]? = some u → w.cell? ⟨q, j, none⟩ = some u) (hb : xs.length + n ≤ 10000) (hbase : base ≤ w.heap.size)
    (h : ∀ v' w', Hid (w'.ownsRow base 2 1 v' (xs ++ ys).length (iv (xs ++ ys)) ∧ Below base w w') → wpList Tryd.prog ops Q rest (a.put o.dst v') w') : wpList Tryd.prog ops Q (o :: rest) a w := by
  obtain ⟨i0, hi, hz0, hz1, hz2⟩ := info_partsC info2
  refine wpList_append_own w hgd s x 57 ho base 2 i0 (.int .i64 0) 1 8 Tryd.underlying57 hi hz0 hz1 hz2 rfl (by decide) v xs.length _ hs hown ⟨q, 0, none⟩ n n (iv ys) hx (by rw [iv_len, hn]; omega) ?_ (iv_one ys) (by unfold maxLen; omega) (by omega) hbase ?_
  · intro j u hj
    rw [addr_add, Nat.zero_add]
    exact hq j u hj
  · intro v' w' ho' hg _
    refine h v' w' (hide ⟨by rw [List.length_append, iv_append, hn]; exact ho', (Below.refl _ _).grown hg hbase ?_⟩)
    intro k hk
    exact (hown.lt k hk).1
theorem own_isI {w : World} {base : Nat} {v : Value} {l : List Int} (ho : ∀ x ∈ l, -9223372036854775808 ≤ x ∧ x ≤ 9223372036854775807) (h : w.ownsRow base 2 1 v l.length (iv l)) : ∃ a cap, v = .slice a l.length cap ∧ IsI w a l.length cap l := by
  rcases h.2 with ⟨rfl, h0⟩ | ⟨g, cap, cur, rfl, hb, hg, hn, hm, hs, ht⟩
  · rw [h0]
    exact ⟨none, 0, rfl, ⟨h0, Nat.le_refl _, Nat.zero_le _, ho, .inl ⟨rfl, fun _ => rfl⟩⟩⟩
  · refine ⟨_, cap, rfl, ⟨rfl, hn, hm, ho, .inr ⟨g, 0, rfl, heap_lt hg, fun i hi => ?_⟩⟩⟩
    have h1 : cur.toList[i]? = (iv l)[i]? := by
      rw [← ht, List.getElem?_take]
      rw [if_pos (by omega)]
    rw [Nat.zero_add]
    simp only [World.cell?, hg]
    have h2 : (iv l)[i]? = some (.int .i64 (l.getD i 0)) := by simp [iv, List.getElem?_eq_getElem hi]
    rw [← h2, ← h1]
    simp
/-- what a pay brings to an account -/
def bvL (a : Int) (x : Py) : List Int := if a = 2 then [x.op] else if a = 3 then [x.ca, -x.re] else [-x.op, -x.ca, x.re]
def bv (a : Int) (x : Py) : Int := if a = 2 then x.op else if a = 3 then x.ca - x.re else x.re - x.op - x.ca
def balS (P : List Py) (a : Int) : Int := (P.map (bv a)).sum
theorem bvL_sum (a : Int) (P : List Py) : (P.flatMap (bvL a)).sum = balS P a := by
  unfold balS
  induction P with
  | nil => rfl
  | cons x r ih =>
    rw [List.flatMap_cons, List.sum_append, ih, List.map_cons, List.sum_cons]
    congr 1
    unfold bvL bv
    split
    · simp
    · split
      · simp; omega
      · simp; omega
theorem bvL_len (a : Int) (x : Py) : (bvL a x).length ≤ 3 := by
  unfold bvL
  split
  · simp
  · split <;> simp
theorem bvL_lens (a : Int) (P : List Py) : (P.flatMap (bvL a)).length ≤ 3 * P.length := by
  induction P with
  | nil => simp
  | cons x r ih =>
    have := bvL_len a x
    simp only [List.flatMap_cons, List.length_append, List.length_cons]
    omega
theorem bvL_in (a : Int) (P : List Py) (h : ∀ x ∈ P, inB x) : ∀ y ∈ P.flatMap (bvL a), -9223372036854775808 ≤ y ∧ y ≤ 9223372036854775807 := by
  intro y hy
  obtain ⟨x, hx, hy⟩ := List.mem_flatMap.1 hy
  have := h x hx
  unfold inB at this
  unfold bvL at hy
  split at hy
  · simp at hy; omega
  · split at hy
    · simp at hy; omega
    · simp at hy; omega
theorem flat_take (f : Py → List Int) (P : List Py) (k : Nat) (hk : k < P.length) : (P.take (k + 1)).flatMap f = (P.take k).flatMap f ++ f (P.getD k Py0) := by
  rw [List.take_succ_eq_append_getElem hk, List.flatMap_append, List.getD_eq_getElem?_getD, List.getElem?_eq_getElem hk]
  simp
theorem cells3 {W : World} (x y z : Int) : ∀ j u, (iv [x, y, z])[j]? = some u → (W.alloc (.cells #[.int .i64 x, .int .i64 y, .int .i64 z] 2)).cell? ⟨W.heap.size, j, none⟩ = some u := by
  intro j u hj
  have := heap_alloc_new W (.cells #[.int .i64 x, .int .i64 y, .int .i64 z] 2)
  simp only [World.cell?, this]
  simpa [iv] using hj
theorem cells2 {W : World} (x y : Int) : ∀ j u, (iv [x, y])[j]? = some u → (W.alloc (.cells #[.int .i64 x, .int .i64 y] 2)).cell? ⟨W.heap.size, j, none⟩ = some u := by
  intro j u hj
  have := heap_alloc_new W (.cells #[.int .i64 x, .int .i64 y] 2)
  simp only [World.cell?, this]
  simpa [iv] using hj
theorem cells1 {W : World} (x : Int) : ∀ j u, (iv [x])[j]? = some u → (W.alloc (.cells #[.int .i64 x] 2)).cell? ⟨W.heap.size, j, none⟩ = some u := by
  intro j u hj
  have := heap_alloc_new W (.cells #[.int .i64 x] 2)
  simp only [World.cell?, this]
  simpa [iv] using hj
set_option maxHeartbeats 4000000 in
theorem balance1_any (a : Option Addr) (len cap : Nat) (P : List Py) (a2 : Option Addr) (len2 cap2 : Nat) (G : List Pg) (w : World) (h : IsP w a len cap P) (h2 : IsG w a2 len2 cap2 G) (hc : checkR P G) :
    Calls Tryd.prog 16 #[vb a len cap a2 len2 cap2, .int .u8 1] w fun e w' => Below w.heap.size w w' ∧ e = .returned (.tuple #[.int .i64 (num (balS P 1)), .int .i64 (err (balS P 1))]) := by
  have HP := hide h
  have HLN := hide h.1
  have HRS := hide (pays_rise hc)
  have hlen : len ≤ 1025 := by rw [← h.1]; exact (pays_rise hc).2.1
  have k1 : Below w.heap.size w (w.alloc (.cells #[.slice a len cap, .slice a2 len2 cap2] 35)) := (Below.refl _ _).alloc (Nat.le_refl _) _
  have k2 : BlkB (w.alloc (.cells #[.slice a len cap, .slice a2 len2 cap2] 35)) w.heap.size (.slice a len cap) (.slice a2 len2 cap2) := heap_alloc_new _ _
  have HCK := hide (check_any a len cap P a2 len2 cap2 G _ (h.below' k1) (h2.below' k1))
  have HK := hide (And.intro k1 k2)
  have HC := hide hc
  have HAC := hide (fun W => account_any 1 W)
  have hac : accB 1 = true := by decide
  rw [hac] at HAC
  clear h h2 k1 k2 hc hac
  go_enter Tryd.func16, Tryd.ntmps16
  go_wp2_with fail
  refine HCK.out.mono ?_
  rintro e w1 ⟨⟨r, rfl, hr⟩, hb1⟩
  have HB1 : Hid (Below w.heap.size w w1) := hide (HK.out.1.trans (hb1.mono HK.out.1.size))
  have HBB : Hid (BlkB w1 w.heap.size (.slice a len cap) (.slice a2 len2 cap2)) := hide (HK.out.2.below (heap_lt HK.out.2) hb1)
  clear hb1 HK HCK
  obtain ⟨c1, c2⟩ := HBB.out.cells
  obtain rfl : r = 0 := by
    rcases hr with ⟨h, _⟩ | ⟨_, h⟩
    · exact h
    · exact absurd HC.out h
  clear hr
  go_wp2_with fail
  refine (HAC.out _).mono ?_
  rintro e w2 ⟨rfl, hw⟩
  obtain rfl : w1 = w2 := hw.symm
  clear hw HAC
  go_wp2
  go_loopw [7, 21] (fun am i wr => ∃ k : Nat, k ≤ len ∧ i = .int .i64 k ∧ Hid (wr.ownsRow w.heap.size 2 1 am ((P.take k).flatMap (bvL 1)).length (iv ((P.take k).flatMap (bvL 1))) ∧ Below w.heap.size w wr)) (fun _ i _ => len - (intOf i).toNat)
  case atStart => exact ⟨0, by omega, rfl, hide ⟨by simpa [iv] using World.ownsRow_nil w1 w.heap.size 2 1, HB1.out⟩⟩
  case round =>
    obtain ⟨k, hk, rfl, HW⟩ := hrel
    clear c1 c2 HBB HB1
    by_cases hkl : k < len
    · obtain ⟨bs, off, rfl, hbs, y0⟩ := HP.out.2.2.2.2.1 k hkl
      have HY := hide (y0.below hbs HW.out.2)
      have HIN : Hid (inB (P.getD k Py0)) := hide (HRS.out.2.2 _ (by
        rw [List.getD_eq_getElem?_getD, List.getElem?_eq_getElem (by rw [HLN.out]; exact hkl)]
        exact List.getElem_mem _))
      have HTK := hide (flat_take (bvL 1) P k (by rw [HLN.out]; exact hkl))
      clear y0
      generalize P.getD k Py0 = y at HY HIN HTK
      obtain ⟨y1, y2, y3, y4⟩ := y
      obtain ⟨d1, d2, d3, d4⟩ := HY.out
      dsimp only at d1 d2 d3 d4
      have HVL : Hid (bvL 1 ⟨y1, y2, y3, y4⟩ = [-y2, -y3, y4]) := hide (by simp [bvL])
      have hn2 : IntKind.i64.wrap (-y2) = -y2 := wrap64 (by have := HIN.out; unfold inB at this; dsimp only at this; omega) (by have := HIN.out; unfold inB at this; dsimp only at this; omega)
      have hn3 : IntKind.i64.wrap (-y3) = -y3 := wrap64 (by have := HIN.out; unfold inB at this; dsimp only at this; omega) (by have := HIN.out; unfold inB at this; dsimp only at this; omega)
      have hn4 : IntKind.i64.wrap (-y4) = -y4 := wrap64 (by have := HIN.out; unfold inB at this; dsimp only at this; omega) (by have := HIN.out; unfold inB at this; dsimp only at this; omega)
      have hkI : (k : Int) < (len : Int) := by omega
      have hk0 : (0 : Int) ≤ (k : Int) := by omega
      have hwk : IntKind.i64.wrap ((k : Int) + 1) = (k : Int) + 1 := wrap64 (by omega) (by omega)
      have HLL : Hid (((P.take k).flatMap (bvL 1)).length + 3 ≤ 10000) := hide (by
        have h1 := bvL_lens 1 (P.take k)
        rw [List.length_take] at h1
        omega)
      have HO5 : Hid (((wr.alloc (.cells #[.int .i64 y1, .int .i64 y2, .int .i64 y3, .int .i64 y4] 47)).alloc (.cells #[.int .i64 (-y2), .int .i64 (-y3), .int .i64 y4] 2)).ownsRow w.heap.size 2 1 u7 ((P.take k).flatMap (bvL 1)).length (iv ((P.take k).flatMap (bvL 1)))) := hide (World.ownsRow.alloc (World.ownsRow.alloc HW.out.1 _) _)
      have HB5 : Hid (Below w.heap.size w ((wr.alloc (.cells #[.int .i64 y1, .int .i64 y2, .int .i64 y3, .int .i64 y4] 47)).alloc (.cells #[.int .i64 (-y2), .int .i64 (-y3), .int .i64 y4] 2))) := hide ((HW.out.2.alloc HW.out.2.size _).alloc (by have := HW.out.2.size; simp; omega) _)
      have HQC := hide (cells3 (W := wr.alloc (.cells #[.int .i64 y1, .int .i64 y2, .int .i64 y3, .int .i64 y4] 47)) (-y2) (-y3) y4)
      rw [show (wr.alloc (.cells #[.int .i64 y1, .int .i64 y2, .int .i64 y3, .int .i64 y4] 47)).heap.size = wr.heap.size + 1 by simp] at HQC
      clear HIN
      go_wp2_with (at_builtin; refine wpList_ints rfl _ _ rfl w.heap.size u7 ((P.take k).flatMap (bvL 1)) rfl HO5.out (wr.heap.size + 1) [-y2, -y3, y4] 3 rfl rfl HQC.out HLL.out HB5.out.size ?_; intro v' w' HN)
      go_roundw
      case rel => exact ⟨k + 1, by omega, by simp, hide ⟨by rw [HTK.out, HVL.out]; exact HN.out.1, HB5.out.trans HN.out.2⟩⟩
      case measure => simp [intOf]; omega
    · obtain rfl : k = len := by omega
      have HTA : Hid (P.take k = P) := hide (List.take_of_length_le (by rw [HLN.out]; omega))
      rw [HTA.out] at HW
      have hkI : ¬ (k : Int) < (k : Int) := by omega
      obtain ⟨ai, ci, hv, hI⟩ := own_isI (bvL_in 1 P HRS.out.2.2) HW.out.1
      subst hv
      have HSU := hide (sum_any ai _ ci _ wr hI (by have h1 := bvL_lens 1 P; rw [HLN.out] at h1; omega))
      rw [bvL_sum] at HSU
      have HBW := hide HW.out.2
      clear hI HW HTA
      generalize (P.flatMap (bvL 1)).length = m at *
      go_wp2_with fail
      refine HSU.out.mono ?_
      rintro e w3 ⟨rfl, hw⟩
      obtain rfl : wr = w3 := hw.symm
      go_wp2
      go_ret2
      exact ⟨HBW.out, rfl⟩
set_option maxHeartbeats 4000000 in
theorem balance2_any (a : Option Addr) (len cap : Nat) (P : List Py) (a2 : Option Addr) (len2 cap2 : Nat) (G : List Pg) (w : World) (h : IsP w a len cap P) (h2 : IsG w a2 len2 cap2 G) (hc : checkR P G) :
    Calls Tryd.prog 16 #[vb a len cap a2 len2 cap2, .int .u8 2] w fun e w' => Below w.heap.size w w' ∧ e = .returned (.tuple #[.int .i64 (num (balS P 2)), .int .i64 (err (balS P 2))]) := by
  have HP := hide h
  have HLN := hide h.1
  have HRS := hide (pays_rise hc)
  have hlen : len ≤ 1025 := by rw [← h.1]; exact (pays_rise hc).2.1
  have k1 : Below w.heap.size w (w.alloc (.cells #[.slice a len cap, .slice a2 len2 cap2] 35)) := (Below.refl _ _).alloc (Nat.le_refl _) _
  have k2 : BlkB (w.alloc (.cells #[.slice a len cap, .slice a2 len2 cap2] 35)) w.heap.size (.slice a len cap) (.slice a2 len2 cap2) := heap_alloc_new _ _
  have HCK := hide (check_any a len cap P a2 len2 cap2 G _ (h.below' k1) (h2.below' k1))
  have HK := hide (And.intro k1 k2)
  have HC := hide hc
  have HAC := hide (fun W => account_any 2 W)
  have hac : accB 2 = true := by decide
  rw [hac] at HAC
  clear h h2 k1 k2 hc hac
  go_enter Tryd.func16, Tryd.ntmps16
  go_wp2_with fail
  refine HCK.out.mono ?_
  rintro e w1 ⟨⟨r, rfl, hr⟩, hb1⟩
  have HB1 : Hid (Below w.heap.size w w1) := hide (HK.out.1.trans (hb1.mono HK.out.1.size))
  have HBB : Hid (BlkB w1 w.heap.size (.slice a len cap) (.slice a2 len2 cap2)) := hide (HK.out.2.below (heap_lt HK.out.2) hb1)
  clear hb1 HK HCK
  obtain ⟨c1, c2⟩ := HBB.out.cells
  obtain rfl : r = 0 := by
    rcases hr with ⟨h, _⟩ | ⟨_, h⟩
    · exact h
    · exact absurd HC.out h
  clear hr
  go_wp2_with fail
  refine (HAC.out _).mono ?_
  rintro e w2 ⟨rfl, hw⟩
  obtain rfl : w1 = w2 := hw.symm
  clear hw HAC
  go_wp2
  go_loopw [7, 21] (fun am i wr => ∃ k : Nat, k ≤ len ∧ i = .int .i64 k ∧ Hid (wr.ownsRow w.heap.size 2 1 am ((P.take k).flatMap (bvL 2)).length (iv ((P.take k).flatMap (bvL 2))) ∧ Below w.heap.size w wr)) (fun _ i _ => len - (intOf i).toNat)
  case atStart => exact ⟨0, by omega, rfl, hide ⟨by simpa [iv] using World.ownsRow_nil w1 w.heap.size 2 1, HB1.out⟩⟩
  case round =>
    obtain ⟨k, hk, rfl, HW⟩ := hrel
    clear c1 c2 HBB HB1
    by_cases hkl : k < len
    · obtain ⟨bs, off, rfl, hbs, y0⟩ := HP.out.2.2.2.2.1 k hkl
      have HY := hide (y0.below hbs HW.out.2)
      have HIN : Hid (inB (P.getD k Py0)) := hide (HRS.out.2.2 _ (by
        rw [List.getD_eq_getElem?_getD, List.getElem?_eq_getElem (by rw [HLN.out]; exact hkl)]
        exact List.getElem_mem _))
      have HTK := hide (flat_take (bvL 2) P k (by rw [HLN.out]; exact hkl))
      clear y0
      generalize P.getD k Py0 = y at HY HIN HTK
      obtain ⟨y1, y2, y3, y4⟩ := y
      obtain ⟨d1, d2, d3, d4⟩ := HY.out
      dsimp only at d1 d2 d3 d4
      have HVL : Hid (bvL 2 ⟨y1, y2, y3, y4⟩ = [y2]) := hide (by simp [bvL])
      have hn2 : IntKind.i64.wrap (-y2) = -y2 := wrap64 (by have := HIN.out; unfold inB at this; dsimp only at this; omega) (by have := HIN.out; unfold inB at this; dsimp only at this; omega)
      have hn3 : IntKind.i64.wrap (-y3) = -y3 := wrap64 (by have := HIN.out; unfold inB at this; dsimp only at this; omega) (by have := HIN.out; unfold inB at this; dsimp only at this; omega)
      have hn4 : IntKind.i64.wrap (-y4) = -y4 := wrap64 (by have := HIN.out; unfold inB at this; dsimp only at this; omega) (by have := HIN.out; unfold inB at this; dsimp only at this; omega)
      have hkI : (k : Int) < (len : Int) := by omega
      have hk0 : (0 : Int) ≤ (k : Int) := by omega
      have hwk : IntKind.i64.wrap ((k : Int) + 1) = (k : Int) + 1 := wrap64 (by omega) (by omega)
      have HLL : Hid (((P.take k).flatMap (bvL 2)).length + 1 ≤ 10000) := hide (by
        have h1 := bvL_lens 2 (P.take k)
        rw [List.length_take] at h1
        omega)
      have HO5 : Hid (((wr.alloc (.cells #[.int .i64 y1, .int .i64 y2, .int .i64 y3, .int .i64 y4] 47)).alloc (.cells #[.int .i64 y2] 2)).ownsRow w.heap.size 2 1 u7 ((P.take k).flatMap (bvL 2)).length (iv ((P.take k).flatMap (bvL 2)))) := hide (World.ownsRow.alloc (World.ownsRow.alloc HW.out.1 _) _)
      have HB5 : Hid (Below w.heap.size w ((wr.alloc (.cells #[.int .i64 y1, .int .i64 y2, .int .i64 y3, .int .i64 y4] 47)).alloc (.cells #[.int .i64 y2] 2))) := hide ((HW.out.2.alloc HW.out.2.size _).alloc (by have := HW.out.2.size; simp; omega) _)
      have HQC := hide (cells1 (W := wr.alloc (.cells #[.int .i64 y1, .int .i64 y2, .int .i64 y3, .int .i64 y4] 47)) y2)
      rw [show (wr.alloc (.cells #[.int .i64 y1, .int .i64 y2, .int .i64 y3, .int .i64 y4] 47)).heap.size = wr.heap.size + 1 by simp] at HQC
      clear HIN
      go_wp2_with (at_builtin; refine wpList_ints rfl _ _ rfl w.heap.size u7 ((P.take k).flatMap (bvL 2)) rfl HO5.out (wr.heap.size + 1) [y2] 1 rfl rfl HQC.out HLL.out HB5.out.size ?_; intro v' w' HN)
      go_roundw
      case rel => exact ⟨k + 1, by omega, by simp, hide ⟨by rw [HTK.out, HVL.out]; exact HN.out.1, HB5.out.trans HN.out.2⟩⟩
      case measure => simp [intOf]; omega
    · obtain rfl : k = len := by omega
      have HTA : Hid (P.take k = P) := hide (List.take_of_length_le (by rw [HLN.out]; omega))
      rw [HTA.out] at HW
      have hkI : ¬ (k : Int) < (k : Int) := by omega
      obtain ⟨ai, ci, hv, hI⟩ := own_isI (bvL_in 2 P HRS.out.2.2) HW.out.1
      subst hv
      have HSU := hide (sum_any ai _ ci _ wr hI (by have h1 := bvL_lens 2 P; rw [HLN.out] at h1; omega))
      rw [bvL_sum] at HSU
      have HBW := hide HW.out.2
      clear hI HW HTA
      generalize (P.flatMap (bvL 2)).length = m at *
      go_wp2_with fail
      refine HSU.out.mono ?_
      rintro e w3 ⟨rfl, hw⟩
      obtain rfl : wr = w3 := hw.symm
      go_wp2
      go_ret2
      exact ⟨HBW.out, rfl⟩
set_option maxHeartbeats 4000000 in
theorem balance3_any (a : Option Addr) (len cap : Nat) (P : List Py) (a2 : Option Addr) (len2 cap2 : Nat) (G : List Pg) (w : World) (h : IsP w a len cap P) (h2 : IsG w a2 len2 cap2 G) (hc : checkR P G) :
    Calls Tryd.prog 16 #[vb a len cap a2 len2 cap2, .int .u8 3] w fun e w' => Below w.heap.size w w' ∧ e = .returned (.tuple #[.int .i64 (num (balS P 3)), .int .i64 (err (balS P 3))]) := by
  have HP := hide h
  have HLN := hide h.1
  have HRS := hide (pays_rise hc)
  have hlen : len ≤ 1025 := by rw [← h.1]; exact (pays_rise hc).2.1
  have k1 : Below w.heap.size w (w.alloc (.cells #[.slice a len cap, .slice a2 len2 cap2] 35)) := (Below.refl _ _).alloc (Nat.le_refl _) _
  have k2 : BlkB (w.alloc (.cells #[.slice a len cap, .slice a2 len2 cap2] 35)) w.heap.size (.slice a len cap) (.slice a2 len2 cap2) := heap_alloc_new _ _
  have HCK := hide (check_any a len cap P a2 len2 cap2 G _ (h.below' k1) (h2.below' k1))
  have HK := hide (And.intro k1 k2)
  have HC := hide hc
  have HAC := hide (fun W => account_any 3 W)
  have hac : accB 3 = true := by decide
  rw [hac] at HAC
  clear h h2 k1 k2 hc hac
  go_enter Tryd.func16, Tryd.ntmps16
  go_wp2_with fail
  refine HCK.out.mono ?_
  rintro e w1 ⟨⟨r, rfl, hr⟩, hb1⟩
  have HB1 : Hid (Below w.heap.size w w1) := hide (HK.out.1.trans (hb1.mono HK.out.1.size))
  have HBB : Hid (BlkB w1 w.heap.size (.slice a len cap) (.slice a2 len2 cap2)) := hide (HK.out.2.below (heap_lt HK.out.2) hb1)
  clear hb1 HK HCK
  obtain ⟨c1, c2⟩ := HBB.out.cells
  obtain rfl : r = 0 := by
    rcases hr with ⟨h, _⟩ | ⟨_, h⟩
    · exact h
    · exact absurd HC.out h
  clear hr
  go_wp2_with fail
  refine (HAC.out _).mono ?_
  rintro e w2 ⟨rfl, hw⟩
  obtain rfl : w1 = w2 := hw.symm
  clear hw HAC
  go_wp2
  go_loopw [7, 21] (fun am i wr => ∃ k : Nat, k ≤ len ∧ i = .int .i64 k ∧ Hid (wr.ownsRow w.heap.size 2 1 am ((P.take k).flatMap (bvL 3)).length (iv ((P.take k).flatMap (bvL 3))) ∧ Below w.heap.size w wr)) (fun _ i _ => len - (intOf i).toNat)
  case atStart => exact ⟨0, by omega, rfl, hide ⟨by simpa [iv] using World.ownsRow_nil w1 w.heap.size 2 1, HB1.out⟩⟩
  case round =>
    obtain ⟨k, hk, rfl, HW⟩ := hrel
    clear c1 c2 HBB HB1
    by_cases hkl : k < len
    · obtain ⟨bs, off, rfl, hbs, y0⟩ := HP.out.2.2.2.2.1 k hkl
      have HY := hide (y0.below hbs HW.out.2)
      have HIN : Hid (inB (P.getD k Py0)) := hide (HRS.out.2.2 _ (by
        rw [List.getD_eq_getElem?_getD, List.getElem?_eq_getElem (by rw [HLN.out]; exact hkl)]
        exact List.getElem_mem _))
      have HTK := hide (flat_take (bvL 3) P k (by rw [HLN.out]; exact hkl))
      clear y0
      generalize P.getD k Py0 = y at HY HIN HTK
      obtain ⟨y1, y2, y3, y4⟩ := y
      obtain ⟨d1, d2, d3, d4⟩ := HY.out
      dsimp only at d1 d2 d3 d4
      have HVL : Hid (bvL 3 ⟨y1, y2, y3, y4⟩ = [y3, -y4]) := hide (by simp [bvL])
      have hn2 : IntKind.i64.wrap (-y2) = -y2 := wrap64 (by have := HIN.out; unfold inB at this; dsimp only at this; omega) (by have := HIN.out; unfold inB at this; dsimp only at this; omega)
      have hn3 : IntKind.i64.wrap (-y3) = -y3 := wrap64 (by have := HIN.out; unfold inB at this; dsimp only at this; omega) (by have := HIN.out; unfold inB at this; dsimp only at this; omega)
      have hn4 : IntKind.i64.wrap (-y4) = -y4 := wrap64 (by have := HIN.out; unfold inB at this; dsimp only at this; omega) (by have := HIN.out; unfold inB at this; dsimp only at this; omega)
      have hkI : (k : Int) < (len : Int) := by omega
      have hk0 : (0 : Int) ≤ (k : Int) := by omega
      have hwk : IntKind.i64.wrap ((k : Int) + 1) = (k : Int) + 1 := wrap64 (by omega) (by omega)
      have HLL : Hid (((P.take k).flatMap (bvL 3)).length + 2 ≤ 10000) := hide (by
        have h1 := bvL_lens 3 (P.take k)
        rw [List.length_take] at h1
        omega)
      have HO5 : Hid (((wr.alloc (.cells #[.int .i64 y1, .int .i64 y2, .int .i64 y3, .int .i64 y4] 47)).alloc (.cells #[.int .i64 y3, .int .i64 (-y4)] 2)).ownsRow w.heap.size 2 1 u7 ((P.take k).flatMap (bvL 3)).length (iv ((P.take k).flatMap (bvL 3)))) := hide (World.ownsRow.alloc (World.ownsRow.alloc HW.out.1 _) _)
      have HB5 : Hid (Below w.heap.size w ((wr.alloc (.cells #[.int .i64 y1, .int .i64 y2, .int .i64 y3, .int .i64 y4] 47)).alloc (.cells #[.int .i64 y3, .int .i64 (-y4)] 2))) := hide ((HW.out.2.alloc HW.out.2.size _).alloc (by have := HW.out.2.size; simp; omega) _)
      have HQC := hide (cells2 (W := wr.alloc (.cells #[.int .i64 y1, .int .i64 y2, .int .i64 y3, .int .i64 y4] 47)) y3 (-y4))
      rw [show (wr.alloc (.cells #[.int .i64 y1, .int .i64 y2, .int .i64 y3, .int .i64 y4] 47)).heap.size = wr.heap.size + 1 by simp] at HQC
      clear HIN
      go_wp2_with (at_builtin; refine wpList_ints rfl _ _ rfl w.heap.size u7 ((P.take k).flatMap (bvL 3)) rfl HO5.out (wr.heap.size + 1) [y3, -y4] 2 rfl rfl HQC.out HLL.out HB5.out.size ?_; intro v' w' HN)
      go_roundw
      case rel => exact ⟨k + 1, by omega, by simp, hide ⟨by rw [HTK.out, HVL.out]; exact HN.out.1, HB5.out.trans HN.out.2⟩⟩
      case measure => simp [intOf]; omega
    · obtain rfl : k = len := by omega
      have HTA : Hid (P.take k = P) := hide (List.take_of_length_le (by rw [HLN.out]; omega))
      rw [HTA.out] at HW
      have hkI : ¬ (k : Int) < (k : Int) := by omega
      obtain ⟨ai, ci, hv, hI⟩ := own_isI (bvL_in 3 P HRS.out.2.2) HW.out.1
      subst hv
      have HSU := hide (sum_any ai _ ci _ wr hI (by have h1 := bvL_lens 3 P; rw [HLN.out] at h1; omega))
      rw [bvL_sum] at HSU
      have HBW := hide HW.out.2
      clear hI HW HTA
      generalize (P.flatMap (bvL 3)).length = m at *
      go_wp2_with fail
      refine HSU.out.mono ?_
      rintro e w3 ⟨rfl, hw⟩
      obtain rfl : wr = w3 := hw.symm
      go_wp2
      go_ret2
      exact ⟨HBW.out, rfl⟩
end Go.Proofs.YtffhkljegopjmaaDoor.Lg
