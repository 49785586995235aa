/- move -/
import Derived.Test.YtffhkljegopjmaaDoorKG
import Derived.Test.YtffhkljegopjmaaDoorKI
import Derived.Shelf.Abstract
namespace Go.Proofs.YtffhkljegopjmaaDoor
open Go.RowKit
set_option maxRecDepth 40000
/-- the cells with one as it is said -/
def putC (l : List Cl) (it wa : Int) (c : Cl) : List Cl := l.take (lowN l (noC it wa)) ++ [c] ++ l.drop (lowN l (noC it wa) + if hasB l (noC it wa) = true then 1 else 0)
/-- what a move answers -/
def moveR (k : Nat) (l : List Cl) (it wa n : Int) : List Cl × Int :=
  if goodB l = false then ([], 9)
  else if ¬ (placeB it wa = true ∧ 1 ≤ n ∧ n ≤ 1048576) then ([], 2)
  else if (chgR k (cellOf l it wa) n).1 ≠ 0 then ([], (chgR k (cellOf l it wa) n).1)
  else if hasB l (noC it wa) = false ∧ l.length = 4096 then ([], 3)
  else (putC l it wa (chgR k (cellOf l it wa) n).2, 0)
theorem partB_iff {n : Int} : partB n = true ↔ 0 ≤ n ∧ n ≤ 1125899906842624 := by simp [partB]
theorem sumB_iff {x : Cl} : sumB x = true ↔ (0 ≤ x.fr ∧ x.fr ≤ 1125899906842624) ∧ (0 ≤ x.he ∧ x.he ≤ 1125899906842624) ∧ (0 ≤ x.ou ∧ x.ou ≤ 1125899906842624) ∧ x.al ≤ 1125899906842624 ∧ x.al = x.fr + x.he + x.ou := by
  simp only [sumB, Bool.and_eq_true, partB_iff, decide_eq_true_eq, and_assoc]
theorem placeB_iff {i j : Int} : placeB i j = true ↔ 1 ≤ i ∧ i ≤ 1024 ∧ 1 ≤ j ∧ j ≤ 1024 := by simp [placeB]
/-- the cell that is found is a right one, of that place -/
theorem cellOf_ok {l : List Cl} (h : Good l) (it wa : Int) : (cellOf l it wa).it = it ∧ (cellOf l it wa).wa = wa ∧ sumB (cellOf l it wa) = true := by
  unfold cellOf
  cases hb : hasB l (noC it wa)
  · simp [noC, sumB, partB]
  · simp only [if_true]
    have hb' := hb
    unfold hasB at hb'
    simp only [Bool.and_eq_true, decide_eq_true_eq] at hb'
    have := ordC_zero.1 hb'.2
    exact ⟨this.1, this.2, (h.part hb'.1).2⟩
theorem cellOf_small {l : List Cl} (h : Good l) (it wa : Int) : SmallC (cellOf l it wa) := by
  have := sumB_iff.1 (cellOf_ok h it wa).2.2
  unfold SmallC SmallN
  omega
theorem chgR_place (k : Nat) (c : Cl) (n : Int) : (chgR k c n).2.it = c.it ∧ (chgR k c n).2.wa = c.wa := by
  unfold chgR
  split <;> split <;> exact ⟨rfl, rfl⟩
theorem chgR_ok {k : Nat} {c : Cl} {n : Int} (h : sumB c = true) (h1 : 1 ≤ n) (h0 : (chgR k c n).1 = 0) : sumB (chgR k c n).2 = true := by
  rw [sumB_iff] at h ⊢
  unfold chgR at h0 ⊢
  split <;> split <;> simp_all <;> omega
theorem chgR_none {k : Nat} {it wa n : Int} (hk : k ≠ 0) (h1 : 1 ≤ n) : (chgR k (noC it wa) n).1 = 13 := by
  unfold chgR noC
  split
  · exact absurd rfl hk
  all_goals (rw [if_pos (by show (0 : Int) < n; omega)])
theorem isC_take {w : World} {a : Option Addr} {len cap : Nat} {l : List Cl} (h : IsC w a len cap l) {k : Nat} (hk : k ≤ len) : IsC w a k cap (l.take k) := by
  refine ⟨by rw [List.length_take, h.1]; omega, by have := h.2.1; omega, h.2.2.1, fun x hx => h.2.2.2.1 x (List.mem_of_mem_take hx), fun i hi => ?_, h.2.2.2.2.2⟩
  obtain ⟨b, off, e, hlt, hc⟩ := h.2.2.2.2.1 i (by omega)
  refine ⟨b, off, e, hlt, ?_⟩
  rwa [List.getD_eq_getElem?_getD, List.getElem?_take, if_pos hi, ← List.getD_eq_getElem?_getD]
theorem isC_drop {w : World} {b off len cap : Nat} {l : List Cl} (h : IsC w (some ⟨b, off, none⟩) len cap l) {k : Nat} (hk : k ≤ len) : IsC w (some ⟨b, off + k * 6, none⟩) (len - k) (cap - k) (l.drop k) := by
  refine ⟨by rw [List.length_drop, h.1], by have := h.2.1; omega, by have := h.2.2.1; unfold maxLen at *; omega, fun x hx => h.2.2.2.1 x (List.mem_of_mem_drop hx), fun i hi => ?_, by intro e; cases e⟩
  obtain ⟨b', off', e, hlt, hc⟩ := h.2.2.2.2.1 (k + i) (by omega)
  cases e
  refine ⟨b, off + k * 6, rfl, hlt, ?_⟩
  rw [List.getD_eq_getElem?_getD, List.getElem?_drop, ← List.getD_eq_getElem?_getD, show off + k * 6 + i * 6 = off + (k + i) * 6 by omega]
  exact hc
theorem isC_end {w : World} {a : Option Addr} {len cap : Nat} {l : List Cl} (h : IsC w a len cap l) : IsC w a 0 (cap - len) [] ∨ a = none := by
  cases a with
  | none => exact .inr rfl
  | some ad => exact .inl ⟨rfl, Nat.zero_le _, by have := h.2.2.1; unfold maxLen at *; omega, by simp, fun i hi => by omega, by intro e; cases e⟩
theorem isC_drop' {w : World} {ad : Addr} {len cap : Nat} {l : List Cl} (h : IsC w (some ad) len cap l) {k : Nat} (hk : k ≤ len) : IsC w (some (ad.add (k * 6))) (len - k) (cap - k) (l.drop k) := by
  by_cases h0 : k < len
  · obtain ⟨b, off, e, _⟩ := h.2.2.2.2.1 0 (by omega)
    cases e
    rw [addr_add]
    exact isC_drop h hk
  · have : len - k = 0 := by omega
    rw [this, show l.drop k = [] from List.drop_eq_nil_of_le (by rw [h.1]; omega)]
    exact ⟨rfl, Nat.zero_le _, by have := h.2.2.1; unfold maxLen at *; omega, by simp, fun i hi => by omega, by intro e; cases e⟩
theorem isC_none' {w : World} {ad : Addr} {len cap : Nat} {l : List Cl} (h : IsC w (some ad) len cap l) {k : Nat} (hk : len ≤ k) : IsC w (some ad) 0 0 (l.drop k) := by
  rw [show l.drop k = [] from List.drop_eq_nil_of_le (by rw [h.1]; omega)]
  exact ⟨rfl, Nat.zero_le _, Nat.zero_le _, by simp, fun i hi => by omega, by intro e; cases e⟩
/-- l[:at], the cell, the rest, put together -/
theorem tail_calls (a0 : Option Addr) (n0 c0 : Nat) (l0 : List Cl) (c : Cl) (a2 : Option Addr) (n2 c2 : Nat) (l2 : List Cl) (w : World) (h0 : IsC w a0 n0 c0 l0) (h2 : IsC w a2 n2 c2 l2) (hc : okC c) (hn : n0 + 1 + n2 ≤ 100000) :
    Calls Tryd.prog 43 #[.slice (some ⟨w.heap.size + 1, 0, none⟩) 3 3] ((w.alloc (.cells #[.int .i64 c.it, .int .i64 c.wa, .int .i64 c.fr, .int .i64 c.he, .int .i64 c.ou, .int .i64 c.al] 43)).alloc (.cells #[.slice a0 n0 c0, .slice (some ⟨w.heap.size, 0, none⟩) 1 1, .slice a2 n2 c2] 22)).drew fun e w' => ∃ a' m c', e = .returned (.slice a' m c') ∧ Hid (m = (l0 ++ [c] ++ l2).length ∧ IsC w' a' m c' (l0 ++ [c] ++ l2)) ∧ Below w.heap.size w w' := by
  generalize hW : ((w.alloc (.cells #[.int .i64 c.it, .int .i64 c.wa, .int .i64 c.fr, .int .i64 c.he, .int .i64 c.ou, .int .i64 c.al] 43)).alloc (.cells #[.slice a0 n0 c0, .slice (some ⟨w.heap.size, 0, none⟩) 1 1, .slice a2 n2 c2] 22)).drew = W
  have hB : Below w.heap.size w W := hW ▸ (((Below.refl _ w).alloc (Nat.le_refl _) _).alloc (by simp) _).drew
  have hS : W.heap.size = w.heap.size + 2 := by rw [← hW]; simp
  have hG : Blk W w.heap.size c := by
    rw [← hW]
    exact (Below.heap_alloc _ _ _ (by simp)).trans (heap_alloc_new _ _)
  have hQ : W.heap[w.heap.size + 1]? = some (.cells #[.slice a0 n0 c0, .slice (some ⟨w.heap.size, 0, none⟩) 1 1, .slice a2 n2 c2] 22 (0, 0)) := by
    rw [← hW]
    have := heap_alloc_new (w.alloc (.cells #[.int .i64 c.it, .int .i64 c.wa, .int .i64 c.fr, .int .i64 c.he, .int .i64 c.ou, .int .i64 c.al] 43)) (.cells #[.slice a0 n0 c0, .slice (some ⟨w.heap.size, 0, none⟩) 1 1, .slice a2 n2 c2] 22)
    rwa [show (w.alloc (.cells #[.int .i64 c.it, .int .i64 c.wa, .int .i64 c.fr, .int .i64 c.he, .int .i64 c.ou, .int .i64 c.al] 43)).heap.size = w.heap.size + 1 by simp] at this
  clear hW
  have h1 : IsC W (some ⟨w.heap.size, 0, none⟩) 1 1 [c] := ⟨rfl, Nat.le_refl _, by decide, by simpa using hc, fun i hi => ⟨w.heap.size, 0, rfl, by omega, by
    obtain rfl : i = 0 := by omega
    exact hG.cells⟩, by intro e; cases e⟩
  refine (concat_any (w.heap.size + 1) a0 n0 c0 l0 (some ⟨w.heap.size, 0, none⟩) 1 1 [c] a2 n2 c2 l2 W ⟨cell_blk hQ rfl, cell_blk hQ rfl, cell_blk hQ rfl⟩ (by omega) (h0.below' hB) h1 (h2.below' hB) hn (by omega)).mono ?_
  rintro e w' ⟨⟨v, rfl, hown⟩, hb⟩
  have hl : (l0 ++ [c] ++ l2).length = n0 + 1 + n2 := by simp [h0.1, h2.1]; omega
  obtain ⟨a', c', rfl, hI, _⟩ := own_isC hl (by
    intro x hx
    simp only [List.mem_append, List.mem_singleton] at hx
    rcases hx with (hx | rfl) | hx
    · exact h0.2.2.2.1 x hx
    · exact hc
    · exact h2.2.2.2.1 x hx) hown
  exact ⟨a', _, c', rfl, hide ⟨hl.symm, hI⟩, hB.trans (hb.mono (by omega))⟩
set_option maxHeartbeats 4000000 in
theorem move_any (k fk : Nat) (a : Option Addr) (len cap : Nat) (l : List Cl) (it wa n : Int) (nb : Nat) (w : World) (h : IsC w a len cap l) (hnb : w.cell? ⟨nb, 0, none⟩ = some (.int .i64 n)) (hnl : nb < w.heap.size) (henter : ∀ args W, (callFunc fk args).run Tryd.prog W = .ok (.enter fk args) W)
    (hclo : ∀ (g : Nat) (c : Cl) (W : World), Blk W g c → W.cell? ⟨nb, 0, none⟩ = some (.int .i64 n) → SmallC c → SmallN n → nb ≠ g → Calls Tryd.prog fk #[.pointer (some ⟨g, 0, none⟩), .pointer (some ⟨nb, 0, none⟩)] W (ChgP k c n g W)) :
    Calls Tryd.prog 24 #[.slice a len cap, .int .i64 it, .int .i64 wa, .int .i64 n, .func (.func fk) #[] #[.pointer (some ⟨nb, 0, none⟩)]] w fun e w' => ∃ a' c', e = .returned (.tuple #[.slice a' (moveR k l it wa n).1.length c', .int .i64 (moveR k l it wa n).2]) ∧ IsC w' a' (moveR k l it wa n).1.length c' (moveR k l it wa n).1 ∧ Below w.heap.size w w' := by
  have HV := hide h
  have HLN := hide h.1
  have hcap := h.2.1
  have hcm : cap ≤ 9223372036854775807 := h.2.2.1
  have HNB := hide (And.intro hnb hnl)
  have HCLO := hide hclo
  have HCK := hide (fun W (hW : IsC W a len cap l) => check_any a len cap l W hW)
  have HPL := hide (fun W => place_any it wa W)
  have HFI := hide (fun (hG : Good l) W (hW : IsC W a len cap l) => find_any a len cap l it wa W hW hG)
  clear h hnb hnl hclo
  go_enter Tryd.func24, Tryd.ntmps24
  go_wp2_with fail
  refine (HCK.out w HV.out).mono ?_
  rintro e w1 ⟨rfl, hb1⟩
  have HB1 := hide hb1
  clear hb1
  rcases checkE_cases l with ⟨hg, h0⟩ | ⟨hg, h0⟩
  · rw [h0]
    have HG := hide hg
    clear h0 hg
    by_cases hpn : placeB it wa = true ∧ 1 ≤ n ∧ n ≤ 1048576
    · obtain ⟨hpl, hn1, hn2⟩ := hpn
      have HPN := hide (And.intro hpl (And.intro hn1 hn2))
      rw [hpl] at HPL
      clear hpl
      have hn1' : ¬ n < 1 := by omega
      have hn2' : ¬ 1048576 < n := by omega
      go_wp2_with (first | (go_at_call 19; refine (HPL.out _).mono ?_; rintro e w' ⟨rfl, he'⟩; obtain rfl := he'.symm; clear he'))
      clear hn1 hn2 hn1' hn2'
      refine (HFI.out HG.out w1 (HV.out.below' HB1.out)).mono ?_
      rintro e w2 ⟨rfl, hb2⟩
      have HB2 := hide (HB1.out.trans (hb2.mono HB1.out.size))
      clear hb2 HB1
      have HR : Hid (moveR k l it wa n = if (chgR k (cellOf l it wa) n).1 ≠ 0 then ([], (chgR k (cellOf l it wa) n).1) else if hasB l (noC it wa) = false ∧ l.length = 4096 then ([], 3) else (putC l it wa (chgR k (cellOf l it wa) n).2, 0)) := hide (by
        unfold moveR
        rw [if_neg (by rw [goodB_iff.2 HG.out]; simp), if_neg (fun h => h HPN.out)])
      have HCO := hide (cellOf_ok HG.out it wa)
      have HCS := hide (cellOf_small HG.out it wa)
      have HCG := hide (chgR_place k (cellOf l it wa) n)
      have HLO := hide (lowN_le l (noC it wa))
      have HHL := hide (hasB_lt (l := l) (t := noC it wa))
      have HPT : Hid (∀ c, putC l it wa c = l.take (lowN l (noC it wa)) ++ [c] ++ l.drop (lowN l (noC it wa) + if hasB l (noC it wa) = true then 1 else 0)) := hide (fun _ => rfl)
      have HCL2 := hide (fun g W (hB : Blk W g (cellOf l it wa)) (hn : W.cell? ⟨nb, 0, none⟩ = some (.int .i64 n)) (hne : nb ≠ g) => HCLO.out g (cellOf l it wa) W hB hn HCS.out (by have := HPN.out; unfold SmallN; omega) hne)
      have HOK : Hid ((chgR k (cellOf l it wa) n).1 = 0 → sumB (chgR k (cellOf l it wa) n).2 = true) := hide (fun h => chgR_ok HCO.out.2.2 HPN.out.2.1 h)
      unfold ChgP at HCL2
      generalize chgR k (cellOf l it wa) n = ch at *
      generalize hasB l (noC it wa) = hb at *
      generalize lowN l (noC it wa) = lo at *
      generalize putC l it wa = PU at *
      generalize cellOf l it wa = co at *
      obtain ⟨x1, x2, x3, x4, x5, x6⟩ := co
      rename_i a1 K0 a0
      have HA1 := hide a1
      clear a1
      go_wp2
      generalize hW3 : w2.alloc (.cells #[.int .i64 x1, .int .i64 x2, .int .i64 x3, .int .i64 x4, .int .i64 x5, .int .i64 x6] 43) = W3
      have HG3 : Hid (Blk W3 w2.heap.size ⟨x1, x2, x3, x4, x5, x6⟩) := hide (hW3 ▸ heap_alloc_new _ _)
      have HB3 : Hid (Below w2.heap.size w2 W3) := hide (hW3 ▸ (Below.refl _ w2).alloc (Nat.le_refl _) _)
      clear hW3
      refine HA1.out _ _ ?_
      clear HA1
      have HBw3 : Hid (Below w.heap.size w W3) := hide (HB2.out.trans (HB3.out.mono HB2.out.size))
      have HCC := hide (HCL2.out w2.heap.size W3 HG3.out ((World.cell?_of_block (HBw3.out.block nb HNB.out.2)).trans HNB.out.1) (by have := HNB.out.2; have := HB2.out.size; omega))
      clear HCL2
      go_wp2_with fail
      refine HCC.out.mono ?_
      rintro e w4 ⟨rfl, hblk4, hb4⟩
      have HG4 := hide hblk4
      have HB4 : Hid (Below w.heap.size w w4) := hide (HBw3.out.trans (hb4.mono HB2.out.size))
      have HS4 : Hid (w2.heap.size < w4.heap.size) := hide (heap_lt hblk4)
      have HBG : Hid (Below w2.heap.size w2 w4) := hide (HB3.out.trans hb4)
      clear hblk4 hb4 HCC HB3 HG3 HBw3
      obtain ⟨er, c4⟩ := ch
      dsimp only at *
      by_cases her : er = 0
      · subst her
        simp only [ne_eq, not_true_eq_false, if_false] at HR
        have HOK2 := hide (HOK.out rfl)
        clear HOK
        have hlo : lo ≤ len := by rw [← HLN.out]; exact HLO.out
        have HLE : Hid (len ≤ 4096) := hide (by rw [← HLN.out]; exact HG.out.len)
        have hloI : (lo : Int) ≤ (len : Int) := by omega
        have hloC : (lo : Int) ≤ (cap : Int) := by omega
        have hlo0 : (0 : Int) ≤ (lo : Int) := by omega
        have hlenC : (len : Int) ≤ (cap : Int) := by omega
        have HI4 := hide (HV.out.below' HB4.out)
        have HKO : Hid (okC c4) := hide (by
          have h1 := sumB_iff.1 HOK2.out
          have h2 := placeB_iff.1 HPN.out.1
          have h3 := HCO.out
          have h4 := HCG.out
          try dsimp only at h3 h4
          unfold okC i64B
          omega)
        obtain ⟨c1, c2, c3, c4, c5, c6⟩ := c4
        have HKD : Hid (∀ W, Below w4.heap.size w4 W → (W.cell? ⟨w2.heap.size, 0, none⟩ = some (.int .i64 c1) ∧ W.cell? ⟨w2.heap.size, 1, none⟩ = some (.int .i64 c2) ∧ W.cell? ⟨w2.heap.size, 2, none⟩ = some (.int .i64 c3) ∧ W.cell? ⟨w2.heap.size, 3, none⟩ = some (.int .i64 c4) ∧ W.cell? ⟨w2.heap.size, 4, none⟩ = some (.int .i64 c5) ∧ W.cell? ⟨w2.heap.size, 5, none⟩ = some (.int .i64 c6))) := hide (fun W hW => by
          obtain ⟨d1, d2, d3, d4, d5, d6⟩ := (HG4.out.below HS4.out hW).cells
          simp only [Nat.zero_add] at d1 d2 d3 d4 d5 d6
          exact ⟨d1, d2, d3, d4, d5, d6⟩)
        have HKA := hide (HKD.out w4.drew (Below.refl _ _).drew)
        have HKB := hide (fun o => HKD.out (w4.alloc o).drew ((Below.refl _ _).alloc (Nat.le_refl _) o).drew)
        have HKC := hide (fun o o' => HKD.out ((w4.alloc o).alloc o').drew (((Below.refl _ _).alloc (Nat.le_refl _) o).alloc (by simp) o').drew)
        cases a with
        | none =>
          obtain rfl := HV.out.2.2.2.2.2 rfl
          obtain rfl : len = 0 := by omega
          obtain rfl : lo = 0 := by omega
          have hbF : hb = false := by
            cases hb
            · rfl
            · exact absurd (HHL.out rfl) (by rw [HLN.out]; omega)
          subst hbF
          have hl0 := List.length_eq_zero_iff.1 HLN.out
          subst hl0
          simp only [List.length_nil, Bool.false_eq_true, if_false, List.take_nil, List.drop_nil] at HR HPT
          rw [if_neg (by simp)] at HR
          have HT2 := hide (tail_calls none 0 0 [] ⟨c1, c2, c3, c4, c5, c6⟩ none 0 0 [] w4 HI4.out HI4.out HKO.out (by have := HLE.out; omega))
          go_wp2_with fail
          go_region_held (fun W : World => (W.cell? ⟨w2.heap.size, 0, none⟩ = some (.int .i64 c1) ∧ W.cell? ⟨w2.heap.size, 1, none⟩ = some (.int .i64 c2) ∧ W.cell? ⟨w2.heap.size, 2, none⟩ = some (.int .i64 c3) ∧ W.cell? ⟨w2.heap.size, 3, none⟩ = some (.int .i64 c4) ∧ W.cell? ⟨w2.heap.size, 4, none⟩ = some (.int .i64 c5) ∧ W.cell? ⟨w2.heap.size, 5, none⟩ = some (.int .i64 c6))) (first | exact HKA.out | exact HKB.out _ | exact HKC.out _ _ | exact HKD.out _ HBt) (first | (go_at_call 43; refine HT2.out.mono ?_; rintro e w' ⟨a', m', c', rfl, HIt, HBt⟩))
          go_wp2
          go_ret2
          rw [HR.out]
          exact ⟨a', c', by rw [HPT.out, ← HIt.out.1]; rfl, by rw [HPT.out, ← HIt.out.1]; exact HIt.out.2, HB4.out.trans (HBt.mono HB4.out.size)⟩
        | some ad =>
          cases hb
          · simp only [Bool.false_eq_true, if_false, true_and, Nat.add_zero] at HR HPT
            by_cases hfull : len = 4096
            · rw [if_pos (by rw [HLN.out]; exact hfull)] at HR
              have hfI : ((len : Int) == 4096) = true := by simp; omega
              subst hfull
              by_cases hlc : lo = cap
              all_goals go_wp2
              all_goals go_ret2
              all_goals rw [HR.out]
              all_goals exact ⟨none, 0, rfl, isC_nil _, HB4.out⟩
            · rw [if_neg (by rw [HLN.out]; exact hfull)] at HR
              have hfI : ((len : Int) == 4096) = false := by simp; omega
              have hfD : decide ((len : Int) = 4096) = false := decide_eq_false (by omega)
              have hfE : ¬ (len : Int) = 4096 := by omega
              by_cases hlc : lo = cap
              · have hll : lo = len := by omega
                subst hlc
                obtain rfl : len = lo := by omega
                have HT2 := hide (tail_calls (some ad) len len (l.take len) ⟨c1, c2, c3, c4, c5, c6⟩ (some ad) (0) (0) (l.drop len) w4 (isC_take HI4.out hlo) (isC_none' HI4.out (Nat.le_refl _)) HKO.out (by have := HLE.out; omega))
                go_wp2_with fail
                go_region_held (fun W : World => (W.cell? ⟨w2.heap.size, 0, none⟩ = some (.int .i64 c1) ∧ W.cell? ⟨w2.heap.size, 1, none⟩ = some (.int .i64 c2) ∧ W.cell? ⟨w2.heap.size, 2, none⟩ = some (.int .i64 c3) ∧ W.cell? ⟨w2.heap.size, 3, none⟩ = some (.int .i64 c4) ∧ W.cell? ⟨w2.heap.size, 4, none⟩ = some (.int .i64 c5) ∧ W.cell? ⟨w2.heap.size, 5, none⟩ = some (.int .i64 c6))) (first | exact HKA.out | exact HKB.out _ | exact HKC.out _ _ | exact HKD.out _ HBt) (first | (go_at_call 43; refine HT2.out.mono ?_; rintro e w' ⟨a', m', c', rfl, HIt, HBt⟩))
                go_wp2
                go_ret2
                rw [HR.out]
                exact ⟨a', c', by rw [HPT.out, ← HIt.out.1]; rfl, by rw [HPT.out, ← HIt.out.1]; exact HIt.out.2, HB4.out.trans (HBt.mono HB4.out.size)⟩
              · have hlc' : lo < cap := by omega
                have hlcI : ¬ (lo : Int) = (cap : Int) := by omega
                have HT2 := hide (tail_calls (some ad) lo cap (l.take lo) ⟨c1, c2, c3, c4, c5, c6⟩ (some (ad.add (lo * 6))) (len - lo) (cap - lo) (l.drop lo) w4 (isC_take HI4.out hlo) (isC_drop' HI4.out hlo) HKO.out (by have := HLE.out; omega))
                go_wp2_with fail
                go_region_held (fun W : World => (W.cell? ⟨w2.heap.size, 0, none⟩ = some (.int .i64 c1) ∧ W.cell? ⟨w2.heap.size, 1, none⟩ = some (.int .i64 c2) ∧ W.cell? ⟨w2.heap.size, 2, none⟩ = some (.int .i64 c3) ∧ W.cell? ⟨w2.heap.size, 3, none⟩ = some (.int .i64 c4) ∧ W.cell? ⟨w2.heap.size, 4, none⟩ = some (.int .i64 c5) ∧ W.cell? ⟨w2.heap.size, 5, none⟩ = some (.int .i64 c6))) (first | exact HKA.out | exact HKB.out _ | exact HKC.out _ _ | exact HKD.out _ HBt) (first | (go_at_call 43; refine HT2.out.mono ?_; rintro e w' ⟨a', m', c', rfl, HIt, HBt⟩))
                go_wp2
                go_ret2
                rw [HR.out]
                exact ⟨a', c', by rw [HPT.out, ← HIt.out.1]; rfl, by rw [HPT.out, ← HIt.out.1]; exact HIt.out.2, HB4.out.trans (HBt.mono HB4.out.size)⟩
          · simp only [Bool.true_eq_false, false_and, if_true, if_false] at HR HPT
            have hl1 : lo < len := by have := HHL.out rfl; rw [HLN.out] at this; exact this
            have hwl : IntKind.i64.wrap ((lo : Int) + 1) = (lo : Int) + 1 := wrap64 (by omega) (by omega)
            have hlc0 : ¬ lo = cap := by omega
            have hl1I : (lo : Int) + 1 ≤ (len : Int) := by omega
            have hl1C : (lo : Int) + 1 ≤ (cap : Int) := by omega
            have hl1N : lo + 1 ≤ len := by omega
            have hl1M : lo + 1 ≤ cap := by omega
            have hl10 : (0 : Int) ≤ (lo : Int) + 1 := by omega
            by_cases hlc : lo + 1 = cap
            · have hlcI : (lo : Int) + 1 = (cap : Int) := by omega
              have HT2 := hide (tail_calls (some ad) lo cap (l.take lo) ⟨c1, c2, c3, c4, c5, c6⟩ (some ad) 0 0 (l.drop (lo + 1)) w4 (isC_take HI4.out hlo) (isC_none' HI4.out (by omega)) HKO.out (by have := HLE.out; omega))
              go_wp2_with fail
              go_region_held (fun W : World => (W.cell? ⟨w2.heap.size, 0, none⟩ = some (.int .i64 c1) ∧ W.cell? ⟨w2.heap.size, 1, none⟩ = some (.int .i64 c2) ∧ W.cell? ⟨w2.heap.size, 2, none⟩ = some (.int .i64 c3) ∧ W.cell? ⟨w2.heap.size, 3, none⟩ = some (.int .i64 c4) ∧ W.cell? ⟨w2.heap.size, 4, none⟩ = some (.int .i64 c5) ∧ W.cell? ⟨w2.heap.size, 5, none⟩ = some (.int .i64 c6))) (first | exact HKA.out | exact HKB.out _ | exact HKC.out _ _ | exact HKD.out _ HBt) (first | (go_at_call 43; refine HT2.out.mono ?_; rintro e w' ⟨a', m', c', rfl, HIt, HBt⟩))
              go_wp2
              go_ret2
              rw [HR.out]
              exact ⟨a', c', by rw [HPT.out, ← HIt.out.1]; rfl, by rw [HPT.out, ← HIt.out.1]; exact HIt.out.2, HB4.out.trans (HBt.mono HB4.out.size)⟩
            · have hlcI : ¬ (lo : Int) + 1 = (cap : Int) := by omega
              have HT2 := hide (tail_calls (some ad) lo cap (l.take lo) ⟨c1, c2, c3, c4, c5, c6⟩ (some (ad.add ((lo + 1) * 6))) (len - (lo + 1)) (cap - (lo + 1)) (l.drop (lo + 1)) w4 (isC_take HI4.out hlo) (isC_drop' HI4.out hl1N) HKO.out (by have := HLE.out; omega))
              go_wp2_with fail
              go_region_held (fun W : World => (W.cell? ⟨w2.heap.size, 0, none⟩ = some (.int .i64 c1) ∧ W.cell? ⟨w2.heap.size, 1, none⟩ = some (.int .i64 c2) ∧ W.cell? ⟨w2.heap.size, 2, none⟩ = some (.int .i64 c3) ∧ W.cell? ⟨w2.heap.size, 3, none⟩ = some (.int .i64 c4) ∧ W.cell? ⟨w2.heap.size, 4, none⟩ = some (.int .i64 c5) ∧ W.cell? ⟨w2.heap.size, 5, none⟩ = some (.int .i64 c6))) (first | exact HKA.out | exact HKB.out _ | exact HKC.out _ _ | exact HKD.out _ HBt) (first | (go_at_call 43; refine HT2.out.mono ?_; rintro e w' ⟨a', m', c', rfl, HIt, HBt⟩))
              go_wp2
              go_ret2
              rw [HR.out]
              exact ⟨a', c', by rw [HPT.out, ← HIt.out.1]; rfl, by rw [HPT.out, ← HIt.out.1]; exact HIt.out.2, HB4.out.trans (HBt.mono HB4.out.size)⟩
      · rw [if_pos her] at HR
        have hd : decide (er = 0) = false := decide_eq_false her
        have hd2 : (er == 0) = false := by simpa using her
        go_wp2
        go_ret2
        rw [HR.out]
        exact ⟨none, 0, rfl, isC_nil _, HB4.out⟩
    · have HR : Hid (moveR k l it wa n = ([], 2)) := hide (by
        unfold moveR
        rw [if_neg (by rw [goodB_iff.2 HG.out]; simp), if_pos hpn])
      generalize hpl : placeB it wa = pl at *
      have HN : Hid (pl = true → ¬ (1 ≤ n ∧ n ≤ 1048576)) := hide (fun hp h => hpn ⟨hp, h⟩)
      clear hpl hpn
      cases pl
      · go_wp2_with (first | (go_at_call 19; refine (HPL.out _).mono ?_; rintro e w' ⟨rfl, he'⟩; obtain rfl := he'.symm; clear he'))
        go_ret2
        rw [HR.out]
        exact ⟨none, 0, rfl, isC_nil _, HB1.out⟩
      · have hn := HN.out rfl
        by_cases hn1 : n < 1
        · go_wp2_with (first | (go_at_call 19; refine (HPL.out _).mono ?_; rintro e w' ⟨rfl, he'⟩; obtain rfl := he'.symm; clear he'))
          go_ret2
          rw [HR.out]
          exact ⟨none, 0, rfl, isC_nil _, HB1.out⟩
        · have hn2 : 1048576 < n := by omega
          clear hn
          go_wp2_with (first | (go_at_call 19; refine (HPL.out _).mono ?_; rintro e w' ⟨rfl, he'⟩; obtain rfl := he'.symm; clear he'))
          go_ret2
          rw [HR.out]
          exact ⟨none, 0, rfl, isC_nil _, HB1.out⟩
  · have HR : Hid (moveR k l it wa n = ([], 9)) := hide (by unfold moveR; rw [if_pos (by rw [Bool.eq_false_iff]; exact fun e => hg (goodB_iff.1 e))])
    rw [h0]
    clear h0 hg
    go_wp2
    go_ret2
    rw [HR.out]
    exact ⟨none, 0, rfl, isC_nil _, HB1.out⟩
theorem reserve_any (a : Option Addr) (len cap : Nat) (l : List Cl) (it wa n : Int) (w : World) (h : IsC w a len cap l) : Calls Tryd.prog 8 #[.slice a len cap, .int .i64 it, .int .i64 wa, .int .i64 n] w fun e w' => ∃ a' c', e = .returned (.tuple #[.slice a' (moveR 1 l it wa n).1.length c', .int .i64 (moveR 1 l it wa n).2]) ∧ IsC w' a' (moveR 1 l it wa n).1.length c' (moveR 1 l it wa n).1 ∧ Below w.heap.size w w' := by
  have hmf : ∀ (fn : Fn) (first cap : Array Value) (w : World), (Instr.makeFunc fn first cap).run Tryd.prog w = .ok (.func fn first cap) w := fun _ _ _ _ => rfl
  have HM := hide (move_any 1 25 a len cap l it wa n w.heap.size (w.alloc (.cells #[.int .i64 n] 2)) (h.below' ((Below.refl _ w).alloc (Nat.le_refl _) _)) (by simp) (by simp) (Go.Proofs.enters_of Tryd.func25 (by kernel_rfl) rfl) (fun g c W h1 h2 h3 h4 h5 => clo1_any g w.heap.size c n W h1 h2 h3 h4 h5))
  have HB := hide ((Below.refl _ w).alloc (Nat.le_refl _) (.cells #[.int .i64 n] 2))
  clear h
  generalize moveR 1 l it wa n = R at *
  obtain ⟨R1, R2⟩ := R
  go_enter Tryd.func8, Tryd.ntmps8
  go_wp2_with fail
  refine HM.out.mono ?_
  rintro e w1 ⟨a', c', rfl, hI, hb⟩
  have HI := hide hI
  have HBB := hide (HB.out.trans (hb.mono HB.out.size))
  clear hI hb
  dsimp only
  go_wp2
  go_ret2
  exact ⟨a', c', rfl, HI.out, HBB.out⟩
theorem send_any (a : Option Addr) (len cap : Nat) (l : List Cl) (it wa n : Int) (w : World) (h : IsC w a len cap l) : Calls Tryd.prog 11 #[.slice a len cap, .int .i64 it, .int .i64 wa, .int .i64 n] w fun e w' => ∃ a' c', e = .returned (.tuple #[.slice a' (moveR 3 l it wa n).1.length c', .int .i64 (moveR 3 l it wa n).2]) ∧ IsC w' a' (moveR 3 l it wa n).1.length c' (moveR 3 l it wa n).1 ∧ Below w.heap.size w w' := by
  have hmf : ∀ (fn : Fn) (first cap : Array Value) (w : World), (Instr.makeFunc fn first cap).run Tryd.prog w = .ok (.func fn first cap) w := fun _ _ _ _ => rfl
  have HM := hide (move_any 3 31 a len cap l it wa n w.heap.size (w.alloc (.cells #[.int .i64 n] 2)) (h.below' ((Below.refl _ w).alloc (Nat.le_refl _) _)) (by simp) (by simp) (Go.Proofs.enters_of Tryd.func31 (by kernel_rfl) rfl) (fun g c W h1 h2 h3 h4 h5 => clo3_any g w.heap.size c n W h1 h2 h3 h4 h5))
  have HB := hide ((Below.refl _ w).alloc (Nat.le_refl _) (.cells #[.int .i64 n] 2))
  clear h
  generalize moveR 3 l it wa n = R at *
  obtain ⟨R1, R2⟩ := R
  go_enter Tryd.func11, Tryd.ntmps11
  go_wp2_with fail
  refine HM.out.mono ?_
  rintro e w1 ⟨a', c', rfl, hI, hb⟩
  have HI := hide hI
  have HBB := hide (HB.out.trans (hb.mono HB.out.size))
  clear hI hb
  dsimp only
  go_wp2
  go_ret2
  exact ⟨a', c', rfl, HI.out, HBB.out⟩
theorem takeback_any (a : Option Addr) (len cap : Nat) (l : List Cl) (it wa n : Int) (w : World) (h : IsC w a len cap l) : Calls Tryd.prog 13 #[.slice a len cap, .int .i64 it, .int .i64 wa, .int .i64 n] w fun e w' => ∃ a' c', e = .returned (.tuple #[.slice a' (moveR 4 l it wa n).1.length c', .int .i64 (moveR 4 l it wa n).2]) ∧ IsC w' a' (moveR 4 l it wa n).1.length c' (moveR 4 l it wa n).1 ∧ Below w.heap.size w w' := by
  have hmf : ∀ (fn : Fn) (first cap : Array Value) (w : World), (Instr.makeFunc fn first cap).run Tryd.prog w = .ok (.func fn first cap) w := fun _ _ _ _ => rfl
  have HM := hide (move_any 4 33 a len cap l it wa n w.heap.size (w.alloc (.cells #[.int .i64 n] 2)) (h.below' ((Below.refl _ w).alloc (Nat.le_refl _) _)) (by simp) (by simp) (Go.Proofs.enters_of Tryd.func33 (by kernel_rfl) rfl) (fun g c W h1 h2 h3 h4 h5 => clo4_any g w.heap.size c n W h1 h2 h3 h4 h5))
  have HB := hide ((Below.refl _ w).alloc (Nat.le_refl _) (.cells #[.int .i64 n] 2))
  clear h
  generalize moveR 4 l it wa n = R at *
  obtain ⟨R1, R2⟩ := R
  go_enter Tryd.func13, Tryd.ntmps13
  go_wp2_with fail
  refine HM.out.mono ?_
  rintro e w1 ⟨a', c', rfl, hI, hb⟩
  have HI := hide hI
  have HBB := hide (HB.out.trans (hb.mono HB.out.size))
  clear hI hb
  dsimp only
  go_wp2
  go_ret2
  exact ⟨a', c', rfl, HI.out, HBB.out⟩
end Go.Proofs.YtffhkljegopjmaaDoor
