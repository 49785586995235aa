/- contracts: handOut, Share -/
import Derived.Test.YtjhlilamnbbkbaaDoorM3
namespace Go.Proofs.YtjhlilamnbbkbaaDoor
open Go.RowKit Go.Shelf
theorem set_split (m : List Int) (k : Nat) (x : Int) (h : k < m.length) : (m.set k x).take (k + 1) = m.take k ++ [x] ∧ (m.set k x).drop (k + 1) = m.drop (k + 1) := by
  constructor
  · rw [List.take_succ_eq_append_getElem (by simpa using h)]
    simp [List.take_set_of_le]
  · rw [List.drop_set_of_lt (by omega)]
theorem get_le {l : List Int} {T : Int} (k : Nat) (h : ∀ x ∈ l, x + 1 ≤ T) (hk : k < l.length) : l.getD k 0 + 1 ≤ T := by
  rw [List.getD_eq_getElem?_getD, List.getElem?_eq_getElem hk]; exact h _ (List.getElem_mem hk)
set_option maxHeartbeats 400000 in
theorem handOut_any (n : Int) (g len cap : Nat) (S : List Int) (b off cw : Nat) (W : List Int) (w : World) (hn : In64 n) (hr : RowI w g len cap S) (hS : ∀ x ∈ S, -9223372036854775808 ≤ x ∧ (0 < n → x + 1 ≤ 9223372036854775807)) (hlen : len ≤ 4096)
    (hW : W.length = len) (hne : b ≠ g) (hcell : ∀ i, i < len → w.cell? ⟨b, off + i, none⟩ = some (.int .i64 (W.getD i 0))) (B : Nat) (hB : B ≤ g) :
    Calls Tryd.prog 37 #[.int .i64 n, .slice (some ⟨g, 0, none⟩) len cap, .slice (some ⟨b, off, none⟩) len cw] w fun e w' => e = .returned (.tuple #[]) ∧ RowI w' g len cap (hand n S W) ∧ Below B w w' := by
  obtain ⟨hn1, hn2⟩ := hn
  have hSl := hr.1
  go_enter Tryd.func37, Tryd.ntmps37
  go_wp2_with fail
  go_loopw [0, 6, 7, 10] (fun x _ _ i wr => ∃ (k : Nat) (nk : Int) (m : List Int), k ≤ len ∧ i = .int .i64 k ∧ x = .int .i64 nk ∧ -9223372036854775808 ≤ nk ∧ nk ≤ 9223372036854775807 ∧ (0 < nk → 0 < n) ∧ RowI wr g len cap m ∧ Hid (m.drop k = S.drop k) ∧ Hid (hand n S W = m.take k ++ hand nk (m.drop k) (W.drop k)) ∧ (∀ j, j < len → wr.cell? ⟨b, off + j, none⟩ = w.cell? ⟨b, off + j, none⟩) ∧ Below B w wr) (fun _ _ _ i _ => len - (intOf i).toNat)
  case atStart => exact ⟨0, n, S, by omega, rfl, rfl, hn1, hn2, id, hr, hide rfl, hide (by simp), fun _ _ => rfl, Below.refl _ _⟩
  case round =>
    obtain ⟨k, nk, m, hk, rfl, rfl, hk1, hk2, hkn, hr1, hdr, hhd, hcw, hb⟩ := hrel
    have hml := hr1.1
    by_cases hlt : k < len
    · have hcx := (hcw k hlt).trans (hcell k hlt)
      have hc := hr1.cell hlt
      have hf := hr1.frozen k
      have HH := hide (hand_step nk m W k (by omega) (by omega))
      have eS : m.getD k 0 = S.getD k 0 := by
        have : (m.drop k).getD 0 0 = (S.drop k).getD 0 0 := by rw [hdr.out]
        simpa [List.getD_eq_getElem?_getD, List.getElem?_drop] using this
      by_cases hp : 0 < nk ∧ 0 < W.getD k 0
      · obtain ⟨hp1, hp2⟩ := hp
        have hbd : m.getD k 0 + 1 ≤ 9223372036854775807 := by
          rw [eS]; exact get_le k (fun x hx => (hS x hx).2 (hkn hp1)) (by omega)
        have hbd2 : -9223372036854775808 ≤ m.getD k 0 := by
          rw [eS, List.getD_eq_getElem?_getD, List.getElem?_eq_getElem (show k < S.length by omega)]
          exact (hS _ (List.getElem_mem _)).1
        have HR := hide (hr1.set k (m.getD k 0 + 1))
        have HB := hide (hb.setCell (p := ⟨g, k, none⟩) hB (.int .i64 (m.getD k 0 + 1)))
        have hsp := set_split m k (m.getD k 0 + 1) (by omega)
        have HX : Hid (hand n S W = (m.set k (m.getD k 0 + 1)).take (k + 1) ++ hand (nk - 1) ((m.set k (m.getD k 0 + 1)).drop (k + 1)) (W.drop (k + 1))) := hide (by
          rw [hsp.1, hsp.2, hhd.out, HH.out, if_pos ⟨hp1, hp2⟩, List.append_assoc, List.singleton_append])
        have HD : Hid ((m.set k (m.getD k 0 + 1)).drop (k + 1) = S.drop (k + 1)) := hide (by
          rw [hsp.2]
          have : (m.drop k).drop 1 = (S.drop k).drop 1 := by rw [hdr.out]
          simpa [List.drop_drop] using this)
        have HC : Hid (∀ j, j < len → (wr.setCell ⟨g, k, none⟩ (.int .i64 (m.getD k 0 + 1))).cell? ⟨b, off + j, none⟩ = w.cell? ⟨b, off + j, none⟩) := hide (fun j hj => by
          rw [World.cell?_setCell_other _ _ _ _ (by intro h; injection h with h1 h2 h3; exact hne h1.symm)]; exact hcw j hj)
        clear hr1 hcell hcw hb hdr hhd HH hsp hS eS hml hSl
        generalize W.getD k 0 = x at *
        generalize hy : m.getD k 0 = y at *
        clear hy
        go_wp2
        go_roundw
        case rel => exact ⟨k + 1, nk - 1, _, by omega, by go_num, rfl, by omega, by omega, fun h => hkn hp1, HR.out, HD, HX, HC.out, HB.out⟩
        case measure => simp [intOf]; omega
      · have HX : Hid (hand n S W = m.take (k + 1) ++ hand nk (m.drop (k + 1)) (W.drop (k + 1))) := hide (by
          rw [hhd.out, HH.out, if_neg hp, take_snocI m k (by omega), List.append_assoc, List.singleton_append])
        have HD : Hid (m.drop (k + 1) = S.drop (k + 1)) := hide (by
          have : (m.drop k).drop 1 = (S.drop k).drop 1 := by rw [hdr.out]
          simpa [List.drop_drop] using this)
        have hcw' := hide hcw
        clear hcell hcw hdr hhd HH hS eS hml hSl hc
        generalize W.getD k 0 = x at *
        by_cases hp1 : 0 < nk
        · have hp2 : ¬ 0 < x := fun h => hp ⟨hp1, h⟩
          have d2 : decide (0 < x) = false := by simpa using hp2
          clear hp
          go_wp2
          go_roundw
          case rel => exact ⟨k + 1, nk, m, by omega, by go_num, rfl, hk1, hk2, hkn, hr1, HD, HX, hcw'.out, hb⟩
          case measure => simp [intOf]; omega
        · have d1 : decide (0 < nk) = false := by simpa using hp1
          clear hp
          go_wp2
          go_roundw
          case rel => exact ⟨k + 1, nk, m, by omega, by go_num, rfl, hk1, hk2, hkn, hr1, HD, HX, hcw'.out, hb⟩
          case measure => simp [intOf]; omega
    · have HX : Hid (hand n S W = m) := hide (by
        rw [hhd.out, List.take_of_length_le (by omega), List.drop_of_length_le (by omega)]
        simp [hand])
      go_wp2
      go_end0
      exact ⟨rfl, by rw [HX.out]; exact hr1, hb⟩
def parts (T : Int) (l : List Int) : List Int := l.map fun x => T * x / l.sum
def share (T : Int) (l : List Int) : List Int := hand (T - (parts T l).sum) (parts T l) l
theorem sum_map_le (T A : Int) (hT : 0 ≤ T) (hA : 0 < A) (l : List Int) (hl : ∀ x ∈ l, 0 ≤ x) : 0 ≤ (l.map fun x => T * x / A).sum ∧ (l.map fun x => T * x / A).sum * A ≤ T * l.sum := by
  induction l with
  | nil => simp
  | cons x r ih =>
    obtain ⟨h1, h2⟩ := ih (fun y hy => hl y (List.mem_cons_of_mem _ hy))
    simp only [List.map_cons, List.sum_cons]
    have hx := hl x List.mem_cons_self
    have h3 : 0 ≤ T * x := Int.mul_nonneg hT hx
    have h4 := Int.ediv_nonneg h3 (Int.le_of_lt hA)
    have h5 : T * x / A * A ≤ T * x := Int.ediv_mul_le _ (by omega)
    rw [Int.add_mul, Int.mul_add]
    constructor
    · omega
    · omega
theorem sum_nonneg (l : List Int) (hl : ∀ x ∈ l, 0 ≤ x) : 0 ≤ l.sum := by
  induction l with
  | nil => simp
  | cons x r ih =>
    have := ih (fun y hy => hl y (List.mem_cons_of_mem _ hy))
    have := hl x List.mem_cons_self
    simp only [List.sum_cons]; omega
theorem mem_le_sum (l : List Int) (hl : ∀ x ∈ l, 0 ≤ x) : ∀ x ∈ l, x ≤ l.sum := by
  induction l with
  | nil => simp
  | cons y r ih =>
    intro x hx
    have h1 := sum_nonneg r (fun z hz => hl z (List.mem_cons_of_mem _ hz))
    have h2 := hl y List.mem_cons_self
    simp only [List.sum_cons]
    rcases List.mem_cons.1 hx with rfl | hx
    · omega
    · have := ih (fun z hz => hl z (List.mem_cons_of_mem _ hz)) x hx
      omega
theorem aw_nonneg {l : List Int} (h : aw l = true) : ∀ x ∈ l, 0 ≤ x := by
  unfold aw at h
  rw [Bool.and_eq_true, List.all_eq_true] at h
  intro x hx
  simpa using h.1 x hx
theorem aw_pos {l : List Int} (h : aw l = true) : 0 < l.sum := by
  have hn := aw_nonneg h
  unfold aw at h
  rw [Bool.and_eq_true, List.any_eq_true] at h
  obtain ⟨x, hx, h0⟩ := h.2
  have := mem_le_sum l hn x hx
  simp at h0
  omega
theorem parts_len (T : Int) (l : List Int) : (parts T l).length = l.length := by simp [parts]
theorem parts_nonneg {T : Int} {l : List Int} (hT : 0 ≤ T) (h : aw l = true) : ∀ x ∈ parts T l, 0 ≤ x := by
  intro x hx
  simp only [parts, List.mem_map] at hx
  obtain ⟨y, hy, rfl⟩ := hx
  exact Int.ediv_nonneg (Int.mul_nonneg hT (aw_nonneg h y hy)) (Int.le_of_lt (aw_pos h))
theorem parts_sum {T : Int} {l : List Int} (hT : 0 ≤ T) (h : aw l = true) : (parts T l).sum ≤ T := by
  have h1 := (sum_map_le T l.sum hT (aw_pos h) l (aw_nonneg h)).2
  exact Int.le_of_mul_le_mul_right h1 (aw_pos h)
theorem take_sum_le (l : List Int) (hl : ∀ x ∈ l, 0 ≤ x) (k : Nat) : 0 ≤ (l.take k).sum ∧ (l.take k).sum ≤ l.sum := by
  constructor
  · exact sum_nonneg _ (fun x hx => hl x (List.mem_of_mem_take hx))
  · have h1 := sum_nonneg (l.drop k) (fun x hx => hl x (List.mem_of_mem_drop hx))
    have h2 : l.sum = (l.take k).sum + (l.drop k).sum := by rw [← List.sum_append, List.take_append_drop]
    omega
def zer (n : Nat) : List Value := List.replicate n (.int .i64 0)
theorem zer_made (n : Nat) : madeCells #[Value.int .i64 0] n = (zer n).toArray := by
  simp [madeCells, zer, Nat.mod_one, Array.ext_iff]
theorem Tryd.info2 : (Tryd.prog.info? 2).map (fun i => (i.zero, i.size, i.bytes)) = some (some (.int .i64 0), 1, 8) := by kernel_rfl
theorem run_mkI (W : World) (n : Nat) (hb : n ≤ 35184372088832) :
    (Instr.makeSlice 22 (.int .i64 (n : Int)) (.int .i64 (n : Int))).run Tryd.prog W = .ok (.slice (some ⟨W.heap.size, 0, none⟩) n n) (W.alloc (.cells (zer n).toArray 2)) := by
  obtain ⟨i0, hi, hz0, hz1, hz2⟩ := info_parts Tryd.info2
  have hr := run_make (P := Tryd.prog) W 22 2 i0 _ Tryd.underlying22 hi hz0 .i64 .i64 (n : Int) (n : Int) (by omega) (by omega) (by rw [hz2]; omega) (by omega)
  rw [hr, hz1]
  simp only [Int.toNat_natCast, Nat.mul_one]
  rw [show (Value.int IntKind.i64 0).cells = #[Value.int .i64 0] from rfl, zer_made]
/-- the first k parts, noughts behind -/
def pz (T : Int) (l : List Int) (k : Nat) : List Int := (parts T l).take k ++ List.replicate (l.length - k) 0
theorem pz_len (T : Int) (l : List Int) (k : Nat) (h : k ≤ l.length) : (pz T l k).length = l.length := by simp [pz, parts_len]; omega
theorem pz_set (T : Int) (l : List Int) (k : Nat) (h : k < l.length) : (pz T l k).set k ((parts T l).getD k 0) = pz T l (k + 1) := by
  unfold pz
  rw [take_snocI (parts T l) k (by rw [parts_len]; exact h), List.set_append, if_neg (by simp [parts_len]; omega)]
  have e : k - ((parts T l).take k).length = 0 := by simp [parts_len]; omega
  rw [e, show l.length - k = (l.length - (k + 1)) + 1 by omega, List.replicate_succ, List.set_cons_zero, List.append_assoc]; rfl
theorem pz_full (T : Int) (l : List Int) : pz T l l.length = parts T l := by
  unfold pz; rw [List.take_of_length_le (by rw [parts_len]; omega)]; simp
theorem parts_get (T : Int) (l : List Int) (k : Nat) (h : k < l.length) : (parts T l).getD k 0 = T * l.getD k 0 / l.sum := by
  simp [parts, List.getD_eq_getElem?_getD, List.getElem?_eq_getElem h]
theorem RowI.drewN {w : World} {g len cap : Nat} {m : List Int} (h : RowI w g len cap m) (n : Nat) : RowI (w.drewN n) g len cap m := h
set_option maxHeartbeats 1000000 in
/-- money.Share, where there are shares: whatever part answers for each weight -/
theorem share_ok (T : Nat) (b off len cap : Nat) (l : List Int) (w : World) (hT : T ≤ 9223372036854775807) (h : IsI w (some ⟨b, off, none⟩) len cap l) (hpos : 0 < len) (hlen : len ≤ 4096) (haw : aw l = true) (hin : In64 l.sum)
    (hpart : ∀ k, k < len → ∀ W : World, Calls Tryd.prog 36 #[.int .i64 (T : Int), .int .i64 (l.getD k 0), .int .i64 l.sum] W fun e w' => e = .returned (.int .i64 ((T : Int) * l.getD k 0 / l.sum)) ∧ ∃ n, w' = W.drewN n) :
    Calls Tryd.prog 23 #[.int .i64 (T : Int), .slice (some ⟨b, off, none⟩) len cap] w fun e w' => ∃ g, e = .returned (.tuple #[.slice (some ⟨g, 0, none⟩) len len, .int .i64 0]) ∧ RowI w' g len len (share T l) ∧ w.heap.size ≤ g ∧ Below w.heap.size w w' := by
  have hl := h.1
  obtain ⟨_, _, eb, hlt0, hcell⟩ := h.2.2.2.2.resolve_left (by omega)
  cases eb
  have t0 : ¬ (T : Int) < 0 := by omega
  have d0 : decide ((T : Int) < 0) = false := by simp
  have t1 : ¬ (4096 : Int) < (len : Int) := by omega
  have d1 : decide ((4096 : Int) < (len : Int)) = false := by simp; omega
  have hmk := fun W => run_mkI W len (by omega)
  have SU := hide (fun W hW => sumUp_any (some ⟨b, off, none⟩) len cap l W hW (by omega))
  rw [num_in hin, err_in hin] at SU
  have AW := hide (fun W hW => areWeights_any (some ⟨b, off, none⟩) len cap l W hW (by omega))
  rw [haw] at AW
  have PN := parts_nonneg (T := T) (by omega) haw
  have PS := parts_sum (T := T) (by omega) haw
  have HP := hide hpart
  have hpl := parts_len T l
  clear hpart
  go_enter Tryd.func23, Tryd.ntmps23
  go_wp2_with fail
  refine (AW.out _ h).mono ?_
  rintro e w' ⟨rfl, rfl⟩
  go_wp2_with fail
  refine (SU.out _ h).mono ?_
  rintro e w' ⟨rfl, rfl⟩
  go_wp2_with fail
  obtain ⟨w, rfl⟩ : ∃ w, w = w' := ⟨_, rfl⟩
  have hrow : RowI (w.alloc (.cells (zer len).toArray 2)) w.heap.size len len (pz T l 0) := by
    refine ⟨by rw [pz_len T l 0 (by omega), hl], Nat.le_refl _, by unfold maxLen; omega, _, heap_alloc_new w _, by simp [zer], ?_⟩
    simp [pz, zer, iv, hl]
  have hb2 : Below w.heap.size w (w.alloc (.cells (zer len).toArray 2)) := (Below.refl _ _).alloc (Nat.le_refl _) _
  clear hmk AW SU
  generalize w.alloc (.cells (zer len).toArray 2) = w2 at *
  have dnn : ((0 : Int) != 0) = false := rfl
  go_loopw [9, 10, 11, 36] (fun lf _ _ i wr => ∃ (k : Nat) (z : Int), k ≤ len ∧ i = .int .i64 k ∧ lf = .int .i64 z ∧ Hid (z = (T : Int) - ((parts T l).take k).sum) ∧ RowI wr w.heap.size len len (pz T l k) ∧ Below w.heap.size w wr) (fun _ _ _ i _ => len - (intOf i).toNat)
  case atStart => exact ⟨0, T, by omega, rfl, rfl, hide (by simp), hrow, hb2⟩
  case round =>
    obtain ⟨k, z, hk, rfl, rfl, hz, hr1, hb⟩ := hrel
    clear hrow hb2
    by_cases hlt : k < len
    · have hcx : wr.cell? ⟨b, off + k, none⟩ = some (.int .i64 (l.getD k 0)) := (hb.cell (p := ⟨b, off + k, none⟩) hlt0).trans (hcell k hlt)
      have hc := hr1.cell hlt
      have hf := hr1.frozen k
      have hpk := parts_get T l k (by omega)
      have hst := sum_take (parts T l) k (by omega)
      have hs0 := take_sum_le (parts T l) PN k
      have hs1 := take_sum_le (parts T l) PN (k + 1)
      have hp0 : 0 ≤ (parts T l).getD k 0 := by
        rw [List.getD_eq_getElem?_getD, List.getElem?_eq_getElem (show k < (parts T l).length by omega)]
        exact PN _ (List.getElem_mem _)
      have hzz := hz.out
      have b1 : 0 ≤ z - (parts T l).getD k 0 := by omega
      have b2 : z ≤ 9223372036854775807 := by omega
      have HZ : Hid (z - (parts T l).getD k 0 = (T : Int) - ((parts T l).take (k + 1)).sum) := hide (by omega)
      have HR : Hid (RowI (wr.setCell ⟨w.heap.size, k, none⟩ (.int .i64 ((parts T l).getD k 0))) w.heap.size len len (pz T l (k + 1))) := hide (by
        rw [← pz_set T l k (by omega)]; exact hr1.set k _)
      have HB := hide (hb.setCell (p := ⟨w.heap.size, k, none⟩) (Nat.le_refl _) (.int .i64 ((parts T l).getD k 0)))
      have PC := hide (HP.out k hlt)
      rw [← hpk] at PC
      clear hpk hst hs0 hs1 hzz hz hcell hr1 hb PN PS
      generalize l.getD k 0 = x at *
      generalize (parts T l).getD k 0 = pk at *
      generalize (pz T l k).getD k 0 = o at *
      go_wp2_with fail
      refine (PC.out _).mono ?_
      rintro e w3 ⟨rfl, n, rfl⟩
      go_wp2
      go_roundw
      case rel => exact ⟨k + 1, z - pk, by omega, by go_num, rfl, HZ, HR.out, ⟨HB.out.os, HB.out.tape, HB.out.output, HB.out.size, HB.out.block⟩⟩
      case measure => simp [intOf]; omega
    · have hkl : k = l.length := by omega
      have hzz := hz.out
      rw [hkl, List.take_of_length_le (by omega)] at hzz
      have hr2 := hr1
      rw [hkl, pz_full] at hr2
      have hzb : In64 z := by
        have := sum_nonneg _ PN
        unfold In64; omega
      have hSS : ∀ x ∈ parts T l, -9223372036854775808 ≤ x ∧ (0 < z → x + 1 ≤ 9223372036854775807) := fun x hx => by
        have h1 := PN x hx
        have h2 := mem_le_sum _ PN x hx
        exact ⟨by omega, fun _ => by omega⟩
      have HO := hide (handOut_any z w.heap.size len len (parts T l) b off cap l wr hzb hr2 hSS hlen hl (by omega) (fun i hi => (hb.cell (p := ⟨b, off + i, none⟩) hlt0).trans (hcell i hi)) w.heap.size (Nat.le_refl _))
      have HSH : Hid (hand z (parts T l) l = share T l) := hide (by rw [hzz]; rfl)
      clear hr1 hr2 hzz hz hcell PN PS HP hzb hSS
      go_wp2_with fail
      refine (HO.out).mono ?_
      rintro e w4 ⟨rfl, hr4, hb4⟩
      rw [HSH.out] at hr4
      go_wp2
      go_ret2
      exact ⟨_, rfl, hr4, Nat.le_refl _, hb.trans hb4⟩
end Go.Proofs.YtjhlilamnbbkbaaDoor
