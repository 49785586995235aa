/- Keep, of pages that may be kept -/
import Derived.Test.YtecmfpgccmmlpaaPs
import Derived.Test.YtecmfpgccmmlpaaOw
namespace Go.Proofs.Ytecmfpgccmmlpaa
open Go.RowKit
open Go.Maps (Keyed IsMap)
set_option maxRecDepth 100000
set_option linter.unusedVariables false
set_option linter.unusedSimpArgs false
/-- numbers of pages, as the memory has them -/
def iN (ks : List Nat) : List Int := ks.map (fun (k : Nat) => (k : Int))
theorem iN_length (ks : List Nat) : (iN ks).length = ks.length := by simp [iN]
theorem iN_get (ks : List Nat) (i : Nat) : (iN ks).getD i 0 = ((ks.getD i 0 : Nat) : Int) := by
  rw [iN, List.getD_eq_getElem?_getD, List.getD_eq_getElem?_getD, List.getElem?_map]
  cases ks[i]? <;> rfl
def Pg.keeps (p : Pg) (ks : List Nat) : Pg := ks.foldl (fun q (k : Nat) => q.put (k : Int) 2) p
theorem keeps_nil (p : Pg) : p.keeps [] = p := rfl
theorem keeps_snoc (p : Pg) (ks : List Nat) (k : Nat) : p.keeps (ks ++ [k]) = (p.keeps ks).put (k : Int) 2 := by simp [Pg.keeps]
theorem put_has (p : Pg) (k : Int) (s : Nat) (i : Int) : (p.put k s).has i = p.has i := by simp [Pg.put, Pg.has]
theorem put_how (p : Pg) (k : Int) (s : Nat) (i : Int) : (p.put k s).how i = (p.ps.set (p.spot k) s).getD (p.spot i) 0 := rfl
theorem keeps_has (p : Pg) (ks : List Nat) (i : Int) : (p.keeps ks).has i = p.has i := by
  induction ks generalizing p with
  | nil => rfl
  | cons k ks ih => rw [show p.keeps (k :: ks) = (p.put (k : Int) 2).keeps ks from rfl, ih, put_has]
theorem take_snoc {α : Type} (l : List α) (d : α) {j : Nat} (h : j < l.length) : l.take (j + 1) = l.take j ++ [l.getD j d] := by
  rw [List.take_add_one, List.getElem?_eq_getElem h, List.getD_eq_getElem?_getD, List.getElem?_eq_getElem h]; rfl
theorem is_has {p : Pg} {k : Int} {l : List Nat} (h : p.is k l = true) : p.has k = true := by
  rw [Pg.is, Bool.and_eq_true] at h; exact h.1
theorem is_how {p : Pg} {k : Int} {l : List Nat} (h : p.is k l = true) : l.contains (p.how k) = true := by
  rw [Pg.is, Bool.and_eq_true] at h; exact h.2
/-- the pages told so far, in the map -/
structure KM (w wr : World) (b j : Nat) (ks : List Nat) : Prop where
  bel : Below w.heap.size w wr
  lo : w.heap.size ≤ b
  mp : ∃ m D, wr.ownsMap Try.prog 3 heldR b m D ∧ m ≤ j ∧ IsMap D ∧ ∀ i, j ≤ i → i < ks.length → D.atKey (ky (ks.getD i 0)) (.held (.int .i64 0)) = .held (.int .i64 0)
theorem KM.made (w wr : World) (h : Below w.heap.size w wr) (ks : List Nat) : KM w (wr.alloc (.map #[] 0)) wr.heap.size 0 ks :=
  ⟨h.alloc h.size _, h.size, 0, _, World.ownsMap_made wr Try.prog 3 heldR, Nat.le_refl _, Go.Maps.isMap_empty, fun i _ _ => rfl⟩
theorem KM.step {w wr : World} {b j : Nat} {ks : List Nat} (h : KM w wr b j ks) (hj : j < ks.length) (hl : ks.length ≤ 1024) (hk : ks.getD j 0 < 4096) (hnd : ∀ i, j < i → i < ks.length → ks.getD j 0 ≠ ks.getD i 0) :
    (Instr.lookup 95 (.map (some b)) (.int .i64 (ks.getD j 0 : Nat)) false).run Try.prog wr = .ok (.int .i64 0) wr ∧ ∃ w2, (Instr.mapUpdate 95 (.map (some b)) (.int .i64 (ks.getD j 0 : Nat)) (.int .i64 1)).run Try.prog wr = .ok () w2 ∧ Below w.heap.size w w2 ∧ ∀ w3, Below w2.heap.size w2 w3 → (Instr.lookup 95 (.map (some b)) (.int .i64 (ks.getD j 0 : Nat)) false).run Try.prog w3 = .ok (.int .i64 1) w3 ∧ KM w w3 b (j + 1) ks := by
  obtain ⟨m, D, hown, hm, hD, hat⟩ := h.mp
  obtain ⟨v, ps, hrun, hv⟩ := hown.lookup kint Try.underlying95 (Try.zeroValue3 wr) (zd := .held (.int .i64 0)) (zp := []) rfl (keyOf_ky _ hk)
  rw [hat j (Nat.le_refl _) hj] at hv
  obtain rfl : v = .int .i64 0 := by simp [heldR] at hv; exact hv.1
  obtain ⟨w2, hst, hown2, hg⟩ := hown.update kint Try.underlying95 (by unfold maxLen; omega) (keyOf_ky _ hk) (val := .int .i64 1) (d := .held (.int .i64 1)) (ps := []) rfl
  have hb2 : Below w.heap.size w w2 := h.bel.grown hg h.bel.size (fun k hk => by cases hk; exact h.lo)
  refine ⟨hrun, w2, hst, hb2, fun w3 hb3 => ?_⟩
  have hown3 : w3.ownsMap Try.prog 3 heldR b (m + 1) (D.put (ky (ks.getD j 0)) (.held (.int .i64 1))) := hown2.kept (row := none) ⟨hb3.os, hb3.tape, hb3.output, hb3.size, fun k hk _ => hb3.block k hk⟩ (by simp)
  obtain ⟨v3, ps3, hrun3, hv3⟩ := hown3.lookup kint Try.underlying95 (Try.zeroValue3 w3) (zd := .held (.int .i64 0)) (zp := []) rfl (keyOf_ky _ hk)
  rw [Go.Maps.atKey_put_same (k := ky (ks.getD j 0)) hD trivial] at hv3
  obtain rfl : v3 = .int .i64 1 := by simp [heldR] at hv3; exact hv3.1
  refine ⟨hrun3, hb2.trans (hb3.mono hb2.size), h.lo, m + 1, _, hown3, by omega, hD.put _ _, fun i hi hil => ?_⟩
  rw [Go.Maps.atKey_put_other (fun e => hnd i (by omega) hil (ky_inj e).symm)]
  exact hat i (by omega) hil
set_option maxHeartbeats 4000000 in
theorem keep_ok {w : World} {gp gq g n : Nat} {p : Pg} (h : IsP w gp gq g n p) (hbad : p.bad = false) (a : Option Addr) (len cap : Nat) (ks : List Nat) (hK : IsK w a len cap (iN ks)) (hh : ∀ i, i < len → p.is ((ks.getD i 0 : Nat) : Int) [0] = true) (hnd : ∀ i j, i < j → j < len → ks.getD i 0 ≠ ks.getD j 0) (hab : ∀ b off, a = some ⟨b, off, none⟩ → b ≠ gp ∧ b ≠ gq) (hlen : len ≤ 1024) :
    Calls Try.prog 28 #[.pointer (some ⟨gp, 0, none⟩), .slice a len cap] w fun e w' => e = .returned (.int .i64 0) ∧ IsP w' gp gq g n (p.keeps ks) ∧ Frm (SP gp gq) w w' := by
  have hkl : ks.length = len := by rw [← iN_length]; exact hK.1
  have HR := hide (pready_any h)
  have hr0 : p.rdy = 0 := by rw [Pg.rdy, hbad]; rfl
  rw [hr0] at HR
  have H := hide h
  have HK := hide hK
  have HH := hide hh
  have HND := hide hnd
  have HAB := hide hab
  have hks : Hid (∀ i, i < len → ks.getD i 0 < 1024) := hide (fun i hi => by
    obtain ⟨h1, h2⟩ := Pg.of_has (is_has (hh i hi))
    have := h.tot
    have := h.n1
    have := (Sup.of_may h.may).2.2.2.2.2.2.2.2.1
    omega)
  clear h hbad hK hh hnd hab hr0
  go_enter Try.func28, Try.ntmps28
  go_wp2_with fail
  refine HR.out.mono ?_
  rintro e w1 ⟨rfl, rfl⟩
  clear HR
  go_wp2_with fail
  go_loopw [20] (fun i wr => ∃ j : Nat, j ≤ len ∧ i = .int .i64 (j : Nat) ∧ Hid (Below w1.heap.size w1 wr)) (fun i _ => len - (intOf i).toNat)
  case atStart => exact ⟨0, Nat.zero_le _, rfl, hide (Below.refl _ _)⟩
  case round =>
    obtain ⟨j, hj, rfl, HB⟩ := hrel
    by_cases hjl : j < len
    · obtain ⟨_, bb, off, rfl, hlt, hc⟩ := HK.out.2.2.2.2 j hjl
      rw [iN_get] at hc
      have hcw := (HB.out.cell (p := ⟨bb, off + j, none⟩) hlt).trans hc
      have hkk := hks.out j hjl
      have HQ := hide (has_q (H.out.below HB.out) ((ks.getD j 0 : Nat) : Int) (by omega) (by omega))
      rw [is_has (HH.out j hjl)] at HQ
      clear hc hlt
      generalize ks.getD j 0 = kk at *
      go_wp2_with fail
      refine HQ.out.mono ?_
      rintro e w2 ⟨rfl, m, rfl⟩
      have HB2 := hide (below_drewN HB.out m)
      clear HQ HB
      go_wp2_with fail
      exact ⟨⟨j + 1, by omega, by simp, HB2⟩, by simp [intOf]; omega⟩
    · have hjj : j = len := by omega
      subst hjj
      have HM := hide (KM.made w1 wr HB.out ks)
      have hmm : (Instr.makeMap 95 none).run Try.prog wr = .ok (.map (some wr.heap.size)) (wr.alloc (.map #[] 0)) := rfl
      clear hj hjl
      go_wp2_with fail
      generalize wr.alloc (.map #[] 0) = w2 at *
      generalize wr.heap.size = b at *
      clear hmm HB
      go_loopw [32] (fun i wr => ∃ j' : Nat, j' ≤ j ∧ i = .int .i64 (j' : Nat) ∧ Hid (KM w1 wr b j' ks)) (fun i _ => j - (intOf i).toNat)
      case atStart => exact ⟨0, Nat.zero_le _, rfl, HM⟩
      case round =>
        obtain ⟨j', hj', rfl, HI⟩ := hrel
        clear HM
        by_cases hjl : j' < j
        · obtain ⟨_, bb, off, rfl, hlt, hc⟩ := HK.out.2.2.2.2 j' hjl
          rw [iN_get] at hc
          have hcw := (HI.out.bel.cell (p := ⟨bb, off + j', none⟩) hlt).trans hc
          have hkk := hks.out j' hjl
          obtain ⟨l1, w3, l2, hb3, l3⟩ := HI.out.step (by omega) (by omega) (by omega) (fun i h1 h2 => HND.out j' i h1 (by omega))
          have hb4 : Below w3.heap.size w3 (w3.alloc (.cells #[.int .u8 0] 83)) := (Below.refl _ _).alloc (Nat.le_refl _) _
          have HB4 := hide (hb3.trans (hb4.mono hb3.size))
          have HQ := hide (is_q (H.out.below HB4.out) ((ks.getD j' 0 : Nat) : Int) (by omega) (by omega) _ 1 1 [0] (isB_lit83 w3 [0] (by decide) (by decide)) (by omega))
          rw [HH.out j' hjl] at HQ
          have L3 : Hid (∀ m, (Instr.lookup 95 (.map (some b)) (.int .i64 (ks.getD j' 0 : Nat)) false).run Try.prog ((w3.alloc (.cells #[.int .u8 0] 83)).drewN m) = .ok (.int .i64 1) ((w3.alloc (.cells #[.int .u8 0] 83)).drewN m) ∧ KM w1 ((w3.alloc (.cells #[.int .u8 0] 83)).drewN m) b (j' + 1) ks) := hide (fun m => l3 _ (below_drewN hb4 m))
          clear hc hlt hb3 l3 hb4 HB4 HI
          generalize ks.getD j' 0 = kk at *
          have hw1 : IntKind.i64.wrap (0 + 1) = 1 := by decide
          go_wp2_with fail
          refine HQ.out.mono ?_
          rintro e w5 ⟨rfl, m, rfl⟩
          obtain ⟨l4, h5⟩ := L3.out m
          have H5 := hide h5
          clear h5 L3 HQ l1 l2
          go_wp2_with fail
          exact ⟨⟨j' + 1, by omega, by simp, H5⟩, by simp [intOf]; omega⟩
        · have hjj : j' = j := by omega
          subst hjj
          have HF0 : Hid (Frm (SP gp gq) w1 wr) := hide (Frm.below HI.out.bel)
          have HP0 : Hid (IsP wr gp gq g n (p.keeps (ks.take 0))) := hide (by rw [List.take_zero, keeps_nil]; exact H.out.below HI.out.bel)
          clear hj' hjl HI
          go_wp2_with fail
          go_loopw [54] (fun i wr => ∃ i' : Nat, i' ≤ j' ∧ i = .int .i64 (i' : Nat) ∧ Hid (IsP wr gp gq g n (p.keeps (ks.take i'))) ∧ Hid (Frm (SP gp gq) w1 wr)) (fun i _ => j' - (intOf i).toNat)
          case atStart => exact ⟨0, Nat.zero_le _, rfl, HP0, HF0⟩
          case round =>
            obtain ⟨i', hi', rfl, HI, HF⟩ := hrel
            clear HP0 HF0
            by_cases hjl : i' < j'
            · obtain ⟨_, bb, off, rfl, hlt, hc⟩ := HK.out.2.2.2.2 i' hjl
              rw [iN_get] at hc
              have hne := HAB.out bb off rfl
              have hcw := (World.cell?_of_block (a := ⟨bb, off + i', none⟩) (HF.out.block bb hlt (fun e => e.elim hne.1 hne.2))).trans hc
              have HS := hide (set_any HI.out ((ks.getD i' 0 : Nat) : Int) (by rw [keeps_has]; exact is_has (HH.out i' hjl)) 2 (by decide))
              have HT : Hid (p.keeps (ks.take (i' + 1)) = (p.keeps (ks.take i')).put ((ks.getD i' 0 : Nat) : Int) 2) := hide (by rw [take_snoc ks 0 (by omega), keeps_snoc])
              clear hc hlt hne HI
              generalize ks.getD i' 0 = kk at *
              go_wp2_with fail
              refine HS.out.mono ?_
              rintro e w6 ⟨rfl, h6, f6⟩
              have H6 := hide h6
              have F6 := hide (HF.out.trans f6)
              clear h6 f6 HS HF
              go_wp2_with fail
              exact ⟨⟨i' + 1, by omega, by simp, by rw [HT.out]; exact H6, F6⟩, by simp [intOf]; omega⟩
            · have hjj : i' = j' := by omega
              subst hjj
              have HE : Hid (IsP wr gp gq g n (p.keeps ks)) := hide (by have := HI.out; rwa [List.take_of_length_le (by omega)] at this)
              clear hi' hjl HI
              go_wp2
              go_ret
              exact ⟨rfl, HE.out, HF.out⟩
end Go.Proofs.Ytecmfpgccmmlpaa
