/- sizes; short ones, kids -/
import Derived.Test.YtebikoekpbnpbaaCB
namespace Go.Proofs.Ytebikoekpbnpbaa
open Go.RowKit Cod
set_option maxRecDepth 40000
set_option linter.unusedVariables false
set_option linter.unusedSimpArgs false
theorem numSize_any (n : Nat) (hn : n ≤ 9223372036854775807) (w : World) : Calls Try.prog 78 #[.int .i64 (n : Nat)] w fun e w' => e = .returned (.int .i64 (nLen n : Nat)) ∧ Below w.heap.size w w' := by
  have hw : IntKind.u64.wrap (n : Int) = (n : Int) := by rw [IntKind.wrap_u64]; omega
  have H := hide (num_any none 0 0 n [] w (isB_nil w) (by omega) (by omega))
  go_enter Try.func78, Try.ntmps78
  go_wp2_with fail
  refine H.out.mono ?_
  rintro e w' ⟨v, rfl, hr, hb⟩
  obtain ⟨a, c, rfl⟩ := own_formN hr
  have HB := hide hb
  clear hr hb H
  go_wp2
  go_ret
  exact ⟨by unfold nLen; simp, HB.out⟩
theorem short_step {most i : Nat} {L : List (List Nat)} (hi : i < L.length) : shortB most (L.drop i) = (decide ((L.getD i []).length ≤ most) && shortB most (L.drop (i + 1))) := by
  unfold shortB
  rw [List.drop_eq_getElem_cons hi, List.all_cons, List.getD_eq_getElem?_getD, List.getElem?_eq_getElem hi]
  rfl
theorem areShort_any (a : Option Addr) (n c most : Nat) (L : List (List Nat)) (w : World) (h : IsL w a n c L) (hm : most ≤ 100000) : Calls Try.prog 76 #[.slice a n c, .int .i64 (most : Nat)] w fun e w' => e = .returned (.bool (shortB most L)) ∧ w' = w := by
  have HL := hide h
  have HN := hide h.1
  have hcm : c ≤ 9223372036854775807 := h.2.2.1
  have hcap := h.2.1
  have HR : Hid (shortB most L = shortB most (L.drop 0)) := hide rfl
  generalize shortB most L = R at *
  clear h
  go_enter Try.func76, Try.ntmps76
  go_wp2
  go_loop [9] (fun v9 => ∃ i : Nat, i ≤ n ∧ v9 = .int .i64 (i : Nat) ∧ Hid (R = shortB most (L.drop i))) (fun v9 => n - (intOf v9).toNat)
  case atStart => exact ⟨0, Nat.zero_le _, rfl, HR⟩
  case round =>
    obtain ⟨i, hi, rfl, HI⟩ := hrel
    by_cases hlt : i < n
    · obtain ⟨b, off, a', n', c', rfl, hb, z0, hB⟩ := HL.out.2.2.2.2 i hlt
      have hs := short_step (most := most) (i := i) (L := L) (by rw [HN.out]; exact hlt)
      have hlen : (L.getD i []).length = n' := hB.1
      have hnm : n' ≤ 9223372036854775807 := Nat.le_trans hB.2.1 hB.2.2.1
      rw [hlen] at hs
      have HS := hide hs
      have hw1 : IntKind.i64.wrap ((i : Int) + 1) = (i : Int) + 1 := wrapN (by omega) (by omega)
      have hi4 : (0 : Int) ≤ (i : Int) := by omega
      have hiI : (i : Int) < (n : Int) := by omega
      clear hs hB hlen
      by_cases hsh : n' ≤ most
      · have h1 : ¬ (most : Int) < (n' : Int) := by omega
        have HE : Hid (R = shortB most (L.drop (i + 1))) := hide (by rw [HI.out, HS.out, decide_eq_true hsh]; rfl)
        clear HI HS
        go_wp2
        go_round
        case rel => exact ⟨i + 1, by omega, by simp, HE⟩
        case measure => simp [intOf]; omega
      · have h1 : (most : Int) < (n' : Int) := by omega
        have HE : Hid (R = false) := hide (by rw [HI.out, HS.out, decide_eq_false hsh]; rfl)
        clear HI HS
        go_wp2
        go_ret
        exact ⟨by rw [HE.out]; rfl, rfl⟩
    · obtain rfl : n = i := by omega
      have hkk : ¬ ((n : Nat) : Int) < ((n : Nat) : Int) := by omega
      have HE : Hid (R = true) := hide (by rw [HI.out, ← HN.out, List.drop_length]; rfl)
      clear HI
      go_wp2
      go_ret
      exact ⟨by rw [HE.out]; rfl, rfl⟩
theorem kids_step {i : Nat} {l : List Int} (hi : i < l.length) : kidsB (l.drop i) = (decide (1 ≤ l.getD i 0 ∧ l.getD i 0 < 1024) && kidsB (l.drop (i + 1))) := by
  unfold kidsB
  rw [List.drop_eq_getElem_cons hi, List.all_cons, List.getD_eq_getElem?_getD, List.getElem?_eq_getElem hi]
  rfl
theorem areKids_any (a : Option Addr) (n c : Nat) (l : List Int) (w : World) (h : IsK w a n c l) : Calls Try.prog 77 #[.slice a n c] w fun e w' => e = .returned (.bool (kidsB l)) ∧ w' = w := by
  have HL := hide h
  have HN := hide h.1
  have hcm : c ≤ 9223372036854775807 := h.2.2.1
  have hcap := h.2.1
  have HR : Hid (kidsB l = kidsB (l.drop 0)) := hide rfl
  generalize kidsB l = R at *
  clear h
  go_enter Try.func77, Try.ntmps77
  go_wp2
  go_loop [7] (fun v7 => ∃ i : Nat, i ≤ n ∧ v7 = .int .i64 (i : Nat) ∧ Hid (R = kidsB (l.drop i))) (fun v7 => n - (intOf v7).toNat)
  case atStart => exact ⟨0, Nat.zero_le _, rfl, HR⟩
  case round =>
    obtain ⟨i, hi, rfl, HI⟩ := hrel
    by_cases hlt : i < n
    · obtain ⟨ht, b, off, rfl, hb, z0⟩ := HL.out.2.2.2.2 i hlt
      have HS := hide (kids_step (i := i) (l := l) (by rw [HN.out]; exact hlt))
      generalize l.getD i 0 = x at *
      have hw1 : IntKind.i64.wrap ((i : Int) + 1) = (i : Int) + 1 := wrapN (by omega) (by omega)
      have hi4 : (0 : Int) ≤ (i : Int) := by omega
      have hiI : (i : Int) < (n : Int) := by omega
      by_cases h1 : x < 1
      · have HE : Hid (R = false) := hide (by rw [HI.out, HS.out, decide_eq_false (by omega)]; rfl)
        clear HI HS
        go_wp2
        go_ret
        exact ⟨by rw [HE.out]; rfl, rfl⟩
      · by_cases h2 : 1024 ≤ x
        · have HE : Hid (R = false) := hide (by rw [HI.out, HS.out, decide_eq_false (by omega)]; rfl)
          clear HI HS
          go_wp2
          go_ret
          exact ⟨by rw [HE.out]; rfl, rfl⟩
        · have HE : Hid (R = kidsB (l.drop (i + 1))) := hide (by rw [HI.out, HS.out, decide_eq_true (by omega)]; rfl)
          clear HI HS
          go_wp2
          go_round
          case rel => exact ⟨i + 1, by omega, by simp, HE⟩
          case measure => simp [intOf]; omega
    · obtain rfl : n = i := by omega
      have hkk : ¬ ((n : Nat) : Int) < ((n : Nat) : Int) := by omega
      have HE : Hid (R = true) := hide (by rw [HI.out, ← HN.out, List.drop_length]; rfl)
      clear HI
      go_wp2
      go_ret
      exact ⟨by rw [HE.out]; rfl, rfl⟩
theorem getD_mem {l : List (List Nat)} {i : Nat} (h : i < l.length) : l.getD i [] ∈ l := by
  rw [List.getD_eq_getElem?_getD, List.getElem?_eq_getElem h]
  exact List.getElem_mem h
theorem getD_memI {l : List Int} {i : Nat} (h : i < l.length) : l.getD i 0 ∈ l := by
  rw [List.getD_eq_getElem?_getD, List.getElem?_eq_getElem h]
  exact List.getElem_mem h
theorem sumB_take {l : List (List Nat)} {i : Nat} (h : i < l.length) : sumB (l.take (i + 1)) = sumB (l.take i) + bSize (l.getD i []) := by
  unfold sumB
  rw [List.take_succ_eq_append_getElem h, List.map_append, List.sum_append, List.getD_eq_getElem?_getD, List.getElem?_eq_getElem h]
  simp
theorem sumK_take {l : List Int} {i : Nat} (h : i < l.length) : sumK (l.take (i + 1)) = sumK (l.take i) + nLen (l.getD i 0).toNat := by
  unfold sumK
  rw [List.take_succ_eq_append_getElem h, List.map_append, List.sum_append, List.getD_eq_getElem?_getD, List.getElem?_eq_getElem h]
  simp
set_option maxHeartbeats 4000000 in
theorem sizeOf_any (v : Pv) (p : Pg) (w : World) (h : IsG w v p) (hk : ∀ b ∈ p.keys, b.length ≤ 1024) (hv : ∀ b ∈ p.vals, b.length ≤ 1024) (hi : ∀ k ∈ p.kids, 1 ≤ k ∧ k < 1024) (hc : v.kn ≤ 2000000 ∧ v.vn ≤ 2000000 ∧ v.inn ≤ 2000000) :
    Calls Try.prog 44 #[.agg (pgc p.leaf v)] w fun e w' => e = .returned (.int .i64 (sizeP p : Nat)) ∧ Below w.heap.size w w' := by
  have HB0 : Hid (Below w.heap.size w (w.alloc (.cells (pgc p.leaf v) 25))) := hide ((Below.refl _ w).alloc (Nat.le_refl _) _)
  have HX : Hid (BlkG (w.alloc (.cells (pgc p.leaf v) 25)) w.heap.size p.leaf v) := hide (heap_alloc_new _ _)
  have HS0 : Hid ((w.alloc (.cells (pgc p.leaf v) 25)).heap.size = w.heap.size + 1) := hide (by simp)
  have HG := hide (h.below HB0.out)
  have HKN := hide h.keys.1
  have HKB := hide hk
  have HVB := hide hv
  have HKI := hide hi
  have HCNT := hide hc
  have hk1 : v.kc ≤ 9223372036854775807 := h.keys.2.2.1
  have hk2 := h.keys.2.1
  have hv1 : v.vc ≤ 9223372036854775807 := h.vals.2.2.1
  have hv2 := h.vals.2.1
  have hi1 : v.ic ≤ 9223372036854775807 := h.kids.2.2.1
  have hi2 := h.kids.2.1
  have HNK : Hid (nLen p.keys.length ≤ 10) := hide (nLen_le (by rw [h.keys.1]; omega))
  have HNS0 := hide (numSize_any v.kn (by omega) (w.alloc (.cells (pgc p.leaf v) 25)))
  have HKL : Hid (nLen v.kn = nLen p.keys.length) := hide (by rw [h.keys.1])
  rw [HKL.out] at HNS0
  clear h hk hv hi
  obtain ⟨q0, q1, q2, q3⟩ := HX.out.cells
  obtain ⟨K0, hK0⟩ : ∃ K0, nLen p.keys.length = K0 := ⟨_, rfl⟩
  rw [hK0] at HNS0 HNK
  have hw0 : IntKind.i64.wrap ((1 : Int) + (K0 : Int)) = (1 : Int) + (K0 : Int) := wrapN (by omega) (by have := HNK.out; omega)
  have hw00 : IntKind.i64.wrap ((1 : Int) + (K0 : Int) + 4) = ((1 + K0 + 4 : Nat) : Int) := by rw [wrapN (by omega) (by have := HNK.out; omega)]; omega
  go_enter Try.func44, Try.ntmps44
  go_wp2_with fail
  generalize hV : w.alloc (.cells (pgc p.leaf v) 25) = V at *
  refine HNS0.out.mono ?_
  rintro e w1 ⟨rfl, hb1⟩
  have HW0 : Hid (Below (w.heap.size + 1) V w1 ∧ w.heap.size + 1 ≤ w1.heap.size) := hide ⟨by rw [HS0.out] at hb1; exact hb1, by have := hb1.size; rw [HS0.out] at this; exact this⟩
  have HX1 : Hid (BlkG w1 w.heap.size p.leaf v) := hide ((hb1.block _ (heap_ltN HX.out)).trans HX.out)
  clear hb1 HNS0 q0 q1 q2 q3
  obtain ⟨q0, q1, q2, q3⟩ := HX1.out.cells
  have HBASE19 : Hid (1 + K0 + 4 ≤ 3000000000) := hide (by have := HNK.out; omega)
  go_wp2
  clear q0 q1 q2 q3
  go_loopw [3, 19] (fun v3 v19 wr => ∃ (i : Nat) (s : Nat), i ≤ v.kn ∧ v3 = .int .i64 (s : Nat) ∧ v19 = .int .i64 (i : Nat) ∧ Hid (s = (1 + K0 + 4) + sumB (p.keys.take i) ∧ sumB (p.keys.take i) ≤ i * 1034 ∧ Below (w.heap.size + 1) V wr ∧ w.heap.size + 1 ≤ wr.heap.size)) (fun _ v19 _ => v.kn - (intOf v19).toNat)
  case atStart => exact ⟨0, (1 + K0 + 4), Nat.zero_le _, by simp [], rfl, hide ⟨by simp [sumB], by simp [sumB], HW0.out.1, HW0.out.2⟩⟩
  case round =>
    obtain ⟨i, s, hi, rfl, rfl, HI⟩ := hrel
    have HGr : Hid (IsG wr v p) := hide (HG.out.below (by rw [HS0.out]; exact HI.out.2.2.1))
    have HXr : Hid (BlkG wr w.heap.size p.leaf v) := hide ((HI.out.2.2.1.block _ (Nat.lt_succ_self _)).trans HX.out)
    obtain ⟨q0, q1, q2, q3⟩ := HXr.out.cells
    by_cases hlt : i < v.kn
    · obtain ⟨b, off, a', n', c', e1, hb, z0, hB⟩ := HGr.out.keys.2.2.2.2 i hlt
      have HST := hide (sumB_take (l := p.keys) (i := i) (by rw [HGr.out.keys.1]; exact hlt))
      have hsh : (p.keys.getD i []).length ≤ 1024 := HKB.out _ (getD_mem (by rw [HGr.out.keys.1]; exact hlt))
      have hlen : (p.keys.getD i []).length = n' := hB.1
      have HSZ : Hid (bSize (p.keys.getD i []) = nLen n' + n') := hide (by unfold bSize; rw [hlen])
      rw [hlen] at hsh
      have hnl : nLen n' ≤ 10 := nLen_le (by omega)
      have HLE : Hid (s ≤ 3000000000 + i * 1034) := hide (by have h1 := HI.out.1; have h2 := HI.out.2.1; have h3 := HBASE19.out; omega)
      have hs9 : s ≤ 9000000000 := by have := HLE.out; have := HCNT.out; omega
      have hw1 : IntKind.i64.wrap ((i : Int) + 1) = (i : Int) + 1 := wrapN (by omega) (by have := HCNT.out; omega)
      have hi4 : (0 : Int) ≤ (i : Int) := by omega
      have hiI : (i : Int) < (v.kn : Int) := by omega
      have HNS := hide (numSize_any n' (by omega) wr)
      have HNX : Hid (s + (nLen n' + n') = (1 + K0 + 4) + sumB (p.keys.take (i + 1)) ∧ sumB (p.keys.take (i + 1)) ≤ (i + 1) * 1034) := hide (by have h1 := HI.out.1; have h2 := HST.out; have h3 := HSZ.out; have h4 := HI.out.2.1; omega)
      obtain ⟨t, ht⟩ : ∃ t, nLen n' = t := ⟨_, rfl⟩
      rw [ht] at HNS HNX hnl
      have hw2 : IntKind.i64.wrap ((t : Int) + (n' : Int)) = (t : Int) + (n' : Int) := wrapN (by omega) (by omega)
      have hw3 : IntKind.i64.wrap ((s : Int) + ((t : Int) + (n' : Int))) = ((s + (t + n') : Nat) : Int) := by rw [wrapN (by omega) (by omega)]; omega
      have HBW := hide HI.out.2.2
      rw [e1]
      clear hB hsh hlen HST HSZ HI ht
      go_wp2_with fail
      refine HNS.out.mono ?_
      rintro e w2 ⟨rfl, hb2⟩
      have HB2 : Hid (Below (w.heap.size + 1) V w2 ∧ w.heap.size + 1 ≤ w2.heap.size) := hide ⟨HBW.out.1.trans (hb2.mono HBW.out.2), Nat.le_trans HBW.out.2 hb2.size⟩
      clear hb2 HNS z0 q0 q1 q2 q3
      go_wp2
      go_roundw
      case rel => exact ⟨i + 1, s + (t + n'), by omega, rfl, by simp, hide ⟨HNX.out.1, HNX.out.2, HB2.out.1, HB2.out.2⟩⟩
      case measure => simp [intOf]; omega
    · obtain rfl : i = v.kn := by omega
      have hkk : ¬ ((v.kn : Nat) : Int) < ((v.kn : Nat) : Int) := by omega
      have HS1E : Hid (s = 1 + K0 + 4 + sumB p.keys ∧ sumB p.keys ≤ v.kn * 1034) := hide (by
        have h1 := HI.out.1
        have h2 := HI.out.2.1
        rw [← HGr.out.keys.1, List.take_length] at h1 h2
        rw [HKN.out] at h2
        exact ⟨h1, h2⟩)
      have HW1 := hide HI.out.2.2
      obtain ⟨S1, hS1⟩ : ∃ S1 : Nat, S1 = s := ⟨_, rfl⟩
      subst hS1
      clear HI HGr
      have HBASE35 : Hid (S1 ≤ 3000000000) := hide (by have h1 := HS1E.out; have h2 := HCNT.out; have h3 := HNK.out; omega)
      go_wp2
      clear q0 q1 q2 q3
      go_loopw [3, 35] (fun v3 v35 wr => ∃ (i : Nat) (s : Nat), i ≤ v.vn ∧ v3 = .int .i64 (s : Nat) ∧ v35 = .int .i64 (i : Nat) ∧ Hid (s = S1 + sumB (p.vals.take i) ∧ sumB (p.vals.take i) ≤ i * 1034 ∧ Below (w.heap.size + 1) V wr ∧ w.heap.size + 1 ≤ wr.heap.size)) (fun _ v35 _ => v.vn - (intOf v35).toNat)
      case atStart => exact ⟨0, S1, Nat.zero_le _, by simp [], rfl, hide ⟨by simp [sumB], by simp [sumB], HW1.out.1, HW1.out.2⟩⟩
      case round =>
        obtain ⟨i, s, hi, rfl, rfl, HI⟩ := hrel
        have HGr : Hid (IsG wr v p) := hide (HG.out.below (by rw [HS0.out]; exact HI.out.2.2.1))
        have HXr : Hid (BlkG wr w.heap.size p.leaf v) := hide ((HI.out.2.2.1.block _ (Nat.lt_succ_self _)).trans HX.out)
        obtain ⟨q0, q1, q2, q3⟩ := HXr.out.cells
        by_cases hlt : i < v.vn
        · obtain ⟨b, off, a', n', c', e1, hb, z0, hB⟩ := HGr.out.vals.2.2.2.2 i hlt
          have HST := hide (sumB_take (l := p.vals) (i := i) (by rw [HGr.out.vals.1]; exact hlt))
          have hsh : (p.vals.getD i []).length ≤ 1024 := HVB.out _ (getD_mem (by rw [HGr.out.vals.1]; exact hlt))
          have hlen : (p.vals.getD i []).length = n' := hB.1
          have HSZ : Hid (bSize (p.vals.getD i []) = nLen n' + n') := hide (by unfold bSize; rw [hlen])
          rw [hlen] at hsh
          have hnl : nLen n' ≤ 10 := nLen_le (by omega)
          have HLE : Hid (s ≤ 3000000000 + i * 1034) := hide (by have h1 := HI.out.1; have h2 := HI.out.2.1; have h3 := HBASE35.out; omega)
          have hs9 : s ≤ 9000000000 := by have := HLE.out; have := HCNT.out; omega
          have hw1 : IntKind.i64.wrap ((i : Int) + 1) = (i : Int) + 1 := wrapN (by omega) (by have := HCNT.out; omega)
          have hi4 : (0 : Int) ≤ (i : Int) := by omega
          have hiI : (i : Int) < (v.vn : Int) := by omega
          have HNS := hide (numSize_any n' (by omega) wr)
          have HNX : Hid (s + (nLen n' + n') = S1 + sumB (p.vals.take (i + 1)) ∧ sumB (p.vals.take (i + 1)) ≤ (i + 1) * 1034) := hide (by have h1 := HI.out.1; have h2 := HST.out; have h3 := HSZ.out; have h4 := HI.out.2.1; omega)
          obtain ⟨t, ht⟩ : ∃ t, nLen n' = t := ⟨_, rfl⟩
          rw [ht] at HNS HNX hnl
          have hw2 : IntKind.i64.wrap ((t : Int) + (n' : Int)) = (t : Int) + (n' : Int) := wrapN (by omega) (by omega)
          have hw3 : IntKind.i64.wrap ((s : Int) + ((t : Int) + (n' : Int))) = ((s + (t + n') : Nat) : Int) := by rw [wrapN (by omega) (by omega)]; omega
          have HBW := hide HI.out.2.2
          rw [e1]
          clear hB hsh hlen HST HSZ HI ht
          go_wp2_with fail
          refine HNS.out.mono ?_
          rintro e w2 ⟨rfl, hb2⟩
          have HB2 : Hid (Below (w.heap.size + 1) V w2 ∧ w.heap.size + 1 ≤ w2.heap.size) := hide ⟨HBW.out.1.trans (hb2.mono HBW.out.2), Nat.le_trans HBW.out.2 hb2.size⟩
          clear hb2 HNS z0 q0 q1 q2 q3
          go_wp2
          go_roundw
          case rel => exact ⟨i + 1, s + (t + n'), by omega, rfl, by simp, hide ⟨HNX.out.1, HNX.out.2, HB2.out.1, HB2.out.2⟩⟩
          case measure => simp [intOf]; omega
        · obtain rfl : i = v.vn := by omega
          have hkk : ¬ ((v.vn : Nat) : Int) < ((v.vn : Nat) : Int) := by omega
          have HS2E : Hid (s = 1 + K0 + 4 + sumB p.keys + sumB p.vals) := hide (by
            have h1 := HI.out.1
            rw [← HGr.out.vals.1, List.take_length] at h1
            have h2 := HS1E.out.1
            omega)
          have HS2B : Hid (s ≤ 6000000000) := hide (by have h1 := HI.out.1; have h2 := HI.out.2.1; have h3 := HBASE35.out; have h4 := HCNT.out; omega)
          have HW2 := hide HI.out.2.2
          obtain ⟨S2, hS2⟩ : ∃ S2 : Nat, S2 = s := ⟨_, rfl⟩
          subst hS2
          clear HI HGr
          go_wp2
          go_loopw [3, 51] (fun v3 v51 wr => ∃ (i : Nat) (s : Nat), i ≤ v.inn ∧ v3 = .int .i64 (s : Nat) ∧ v51 = .int .i64 (i : Nat) ∧ Hid (s = S2 + sumK (p.kids.take i) ∧ sumK (p.kids.take i) ≤ i * 10 ∧ Below (w.heap.size + 1) V wr ∧ w.heap.size + 1 ≤ wr.heap.size)) (fun _ v51 _ => v.inn - (intOf v51).toNat)
          case atStart => exact ⟨0, S2, Nat.zero_le _, rfl, rfl, hide ⟨by simp [sumK], by simp [sumK], HW2.out.1, HW2.out.2⟩⟩
          case round =>
            obtain ⟨i, s, hi, rfl, rfl, HI⟩ := hrel
            have HGr : Hid (IsG wr v p) := hide (HG.out.below (by rw [HS0.out]; exact HI.out.2.2.1))
            by_cases hlt : i < v.inn
            · obtain ⟨ht, b, off, e1, hb, z0⟩ := HGr.out.kids.2.2.2.2 i hlt
              have HST := hide (sumK_take (l := p.kids) (i := i) (by rw [HGr.out.kids.1]; exact hlt))
              have hsh := HKI.out _ (getD_memI (l := p.kids) (i := i) (by rw [HGr.out.kids.1]; exact hlt))
              obtain ⟨x, hx⟩ : ∃ x : Nat, p.kids.getD i 0 = (x : Int) := ⟨(p.kids.getD i 0).toNat, by omega⟩
              rw [hx] at z0 hsh HST
              rw [Int.toNat_natCast] at HST
              have hnl : nLen x ≤ 10 := nLen_le (by omega)
              have hs9 : s ≤ 9000000000 := by have h1 := HI.out.1; have h2 := HI.out.2.1; have h3 := HS2B.out; have := HCNT.out; omega
              have hw1 : IntKind.i64.wrap ((i : Int) + 1) = (i : Int) + 1 := wrapN (by omega) (by have := HCNT.out; omega)
              have hi4 : (0 : Int) ≤ (i : Int) := by omega
              have hiI : (i : Int) < (v.inn : Int) := by omega
              have HNS := hide (numSize_any x (by omega) wr)
              have HNX : Hid (s + nLen x = S2 + sumK (p.kids.take (i + 1)) ∧ sumK (p.kids.take (i + 1)) ≤ (i + 1) * 10) := hide (by have h1 := HI.out.1; have h2 := HST.out; have h4 := HI.out.2.1; omega)
              obtain ⟨t, ht2⟩ : ∃ t, nLen x = t := ⟨_, rfl⟩
              rw [ht2] at HNS HNX hnl
              have hw3 : IntKind.i64.wrap ((s : Int) + (t : Int)) = ((s + t : Nat) : Int) := by rw [wrapN (by omega) (by omega)]; omega
              have HBW := hide HI.out.2.2
              rw [e1]
              clear hsh HST HI ht2 hx ht
              go_wp2_with fail
              refine HNS.out.mono ?_
              rintro e w2 ⟨rfl, hb2⟩
              have HB2 : Hid (Below (w.heap.size + 1) V w2 ∧ w.heap.size + 1 ≤ w2.heap.size) := hide ⟨HBW.out.1.trans (hb2.mono HBW.out.2), Nat.le_trans HBW.out.2 hb2.size⟩
              clear hb2 HNS z0
              go_wp2
              go_roundw
              case rel => exact ⟨i + 1, s + t, by omega, rfl, by simp, hide ⟨HNX.out.1, HNX.out.2, HB2.out.1, HB2.out.2⟩⟩
              case measure => simp [intOf]; omega
            · obtain rfl : i = v.inn := by omega
              have hkk : ¬ ((v.inn : Nat) : Int) < ((v.inn : Nat) : Int) := by omega
              have HEND : Hid (s = sizeP p ∧ Below w.heap.size w wr) := hide (by
                have h1 := HI.out.1
                rw [← HGr.out.kids.1, List.take_length] at h1
                refine ⟨?_, HB0.out.trans (HI.out.2.2.1.mono (Nat.le_succ _))⟩
                have h2 := HS2E.out
                unfold sizeP
                omega)
              clear HI HGr
              go_wp2
              go_ret
              exact ⟨by rw [HEND.out.1]; rfl, HEND.out.2⟩
end Go.Proofs.Ytebikoekpbnpbaa
