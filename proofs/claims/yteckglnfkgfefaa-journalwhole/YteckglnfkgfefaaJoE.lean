/- slices.Chunk gives the pieces of a row -/
import Derived.Test.YteckglnfkgfefaaJoB
namespace Go.Proofs.Yteckglnfkgfefaa
open Go.RowKit Go.Shelf
attribute [local go_sem] Oper.semAt_some
set_option maxRecDepth 40000
/-- the length of the piece i of n bytes -/
def mn (n i : Nat) : Nat := min 4064 (n - 4064 * i)
def chN (n : Nat) : Nat := (n + 4063) / 4064
def EncC (b n : Nat) (i : Nat) (vals : Array Value) (_ : World) : Prop := vals = #[.slice (some ⟨b, 4064 * i, none⟩) (mn n i) (mn n i)]
def HoldC (Bs Bn b n cap : Nat) (A : World) : Prop := Boxed A Bs 34 (.slice (some ⟨b, 0, none⟩) n cap) ∧ Boxed A Bn 3 (.int .i64 4064)
theorem holdC_below {Bs Bn b n cap : Nat} {A B : World} (h : HoldC Bs Bn b n cap A) (hb : Below A.heap.size A B) : HoldC Bs Bn b n cap B := ⟨(hb.block _ h.1.lt).trans h.1, (hb.block _ h.2.lt).trans h.2⟩
theorem encC_at {b n k p L : Nat} {w : World} (hp : p = 4064 * k) (hL : L = mn n k) : EncC b n k #[.slice (some ⟨b, p, none⟩) L L] w := by
  subst hp
  subst hL
  rfl
set_option maxHeartbeats 2000000 in
theorem chunk_gives (m : Nat) (hm : 1 ≤ m) (Bs Bn b n cap : Nat) (hn : n ≤ 140737488355328) (hc : n ≤ cap) (hcm : cap ≤ maxLen) :
    Gives m Try.prog 55 #[.pointer (some ⟨Bs, 0, none⟩), .pointer (some ⟨Bn, 0, none⟩)] (EncC b n) (List.range (chN n)) (HoldC Bs Bn b n cap) := by
  intro lo J E W sJ sE hY hH h0
  have HY := hide hY
  have HH := hide hH
  have hcm' : cap ≤ 9223372036854775807 := hcm
  have HSJ := hide sJ
  have HLn : Hid ((List.range (chN n)).length = chN n) := hide List.length_range
  clear hY hH sJ sE hcm
  refine callsIn_of_wp Try.func55 rfl trivial ?_ rfl
  simp only [Try.ntmps55, List.size_toArray, List.length_cons, List.length_nil, Nat.reduceAdd, Nat.reduceSub, Array.replicate_succ, Array.replicate_zero, List.push_toArray, List.append_toArray, List.nil_append, List.cons_append]
  gi_wp2
  gi_loopw [4] (fun i wr => ∃ k p : Nat, i = .int .i64 (p : Nat) ∧ Hid (p = 4064 * k) ∧ Hid (k ≤ chN n) ∧ HoldC Bs Bn b n cap wr ∧ J k wr) (fun i _ => n + 4064 - (intOf i).toNat)
  case atStart => exact ⟨0, 0, rfl, hide rfl, hide (Nat.zero_le _), HH.out, h0⟩
  case round =>
    obtain ⟨k, p, rfl, HP, HK, hH, hJ⟩ := hrel
    have HHk := hide hH
    have HJk := hide hJ
    have cs := hH.1.cell
    have cn := hH.2.cell
    clear hH hJ h0
    by_cases hlt : p < n
    · have HK1 : Hid (k < chN n) := hide (by have := HP.out; unfold chN; omega)
      obtain ⟨L, hL⟩ : ∃ L, L = mn n k := ⟨_, rfl⟩
      have hsum : p + L ≤ n := by have := HP.out; rw [hL]; unfold mn; omega
      have hpos : 0 < L := by have := HP.out; rw [hL]; unfold mn; omega
      have d1 : decide ((p : Int) < (n : Int)) = true := decide_eq_true (by omega)
      have hcp : ¬ cap = p := by omega
      by_cases hbig : 4064 ≤ n - p
      · have d2 : decide ((4064 : Int) ≤ ((n - p : Nat) : Int)) = true := decide_eq_true (by omega)
        have hmn : L = 4064 := by have := HP.out; rw [hL]; unfold mn; omega
        rw [hmn] at hL hpos hsum
        have hN : ((p : Int) + 4064).toNat - p = 4064 := by omega
        have hb1 : Below wr.heap.size wr wr.drew := (Below.refl _ _).drew
        have hY := HY.out k k #[.slice (some ⟨b, p, none⟩) (4064) (4064)] wr.drew (by rw [List.getElem?_range HK1.out]) (encC_at HP.out hL) (holdC_below HHk.out hb1) (HSJ.out k _ _ hb1 HJk.out)
        obtain ⟨fn, tmps, assign, body, hy, hR⟩ := hY
        have HRR := hide hR
        clear hL hb1 hR hmn
        gi_wp2_with fail
        gi_region
        all_goals
          gi_wp2
          refine HRR.out.mono ?_
          rintro e W3 (⟨rfl, hJ3, hH3⟩ | ⟨rfl, hE3⟩)
          · have cn3 := hH3.2.cell
            have HJ3 := hide hJ3
            have HH3 := hide hH3
            clear hJ3 hH3 cs cn hy
            gi_wp2
            exact ⟨⟨k + 1, p + 4064, by simp, hide (by have := HP.out; omega), hide HK1.out, HH3.out, HJ3.out⟩, by simp [intOf]; omega⟩
          · have HE3 := hide hE3
            clear hE3 hy
            gi_wp2
            refine bodyPost_ret (results_none rfl _ _ _) rfl ?_
            exact ⟨⟨_, rfl⟩, .inr ⟨k, by rw [HLn.out]; exact HK1.out, HE3.out⟩⟩
      · have d2 : decide ((4064 : Int) ≤ ((n - p : Nat) : Int)) = false := decide_eq_false (by omega)
        have hmn : L = n - p := by have := HP.out; rw [hL]; unfold mn; omega
        rw [hmn] at hL hpos hsum
        have hN : ((p : Int) + ((n - p : Nat) : Int)).toNat - p = n - p := by omega
        have hb1 : Below wr.heap.size wr wr.drew := (Below.refl _ _).drew
        have hY := HY.out k k #[.slice (some ⟨b, p, none⟩) (n - p) (n - p)] wr.drew (by rw [List.getElem?_range HK1.out]) (encC_at HP.out hL) (holdC_below HHk.out hb1) (HSJ.out k _ _ hb1 HJk.out)
        obtain ⟨fn, tmps, assign, body, hy, hR⟩ := hY
        have HRR := hide hR
        clear hL hb1 hR hmn
        gi_wp2_with fail
        gi_region
        all_goals
          gi_wp2
          refine HRR.out.mono ?_
          rintro e W3 (⟨rfl, hJ3, hH3⟩ | ⟨rfl, hE3⟩)
          · have cn3 := hH3.2.cell
            have HJ3 := hide hJ3
            have HH3 := hide hH3
            clear hJ3 hH3 cs cn hy
            gi_wp2
            exact ⟨⟨k + 1, p + 4064, by simp, hide (by have := HP.out; omega), hide HK1.out, HH3.out, HJ3.out⟩, by simp [intOf]; omega⟩
          · have HE3 := hide hE3
            clear hE3 hy
            gi_wp2
            refine bodyPost_ret (results_none rfl _ _ _) rfl ?_
            exact ⟨⟨_, rfl⟩, .inr ⟨k, by rw [HLn.out]; exact HK1.out, HE3.out⟩⟩
    · have HKE : Hid (k = chN n) := hide (by have := HP.out; have := HK.out; unfold chN at this ⊢; omega)
      have d1 : decide ((p : Int) < (n : Int)) = false := decide_eq_false (by omega)
      gi_wp2_with fail
      go_end0
      exact ⟨⟨_, rfl⟩, .inl (by rw [HLn.out, ← HKE.out]; exact HJk.out)⟩
end Go.Proofs.Yteckglnfkgfefaa
