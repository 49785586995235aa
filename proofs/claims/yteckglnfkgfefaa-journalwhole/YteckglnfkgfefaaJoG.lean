/- Frame: the sectors of a batch -/
import Derived.Test.YteckglnfkgfefaaJoF
import Derived.Test.YteckglnfkgfefaaJoD
namespace Go.Proofs.Yteckglnfkgfefaa
open Go.RowKit Cod
set_option maxRecDepth 40000
theorem pcAt_length (l : List Nat) (j : Nat) : (pcAt l j).length = mn l.length j := by
  simp only [pcAt, List.length_take, List.length_drop, mn]
theorem isB_piece {w : World} {b n cap : Nat} {l : List Nat} (h : IsB w (some ⟨b, 0, none⟩) n cap l) (j : Nat) (hj : j < chN n) : IsB w (some ⟨b, 4064 * j, none⟩) (mn n j) (mn n j) (pcAt l j) := by
  obtain ⟨h1, h2, h3, h4, h5⟩ := h
  have hp : 0 < mn n j := by unfold mn; unfold chN at hj; omega
  have hm : 4064 * j + mn n j ≤ n := by unfold mn; unfold chN at hj; omega
  rcases h5 with ⟨h0, _⟩ | ⟨b', off, e, hlt, hc⟩
  · omega
  · cases e
    refine ⟨by rw [pcAt_length, h1], Nat.le_refl _, by omega, fun x hx => h4 x (List.mem_of_mem_drop (List.mem_of_mem_take hx)), .inr ⟨b, _, rfl, hlt, fun i hi => ?_⟩⟩
    have := hc (4064 * j + i) (by omega)
    rw [Nat.zero_add] at this
    rw [this]
    have e1 : (pcAt l j).getD i 0 = l.getD (4064 * j + i) 0 := by
      simp only [pcAt, List.getD_eq_getElem?_getD]
      rw [List.getElem?_take, if_pos (by unfold mn at hi; omega), List.getElem?_drop]
    rw [e1]
/-- what Frame answers -/
def FrPost (w : World) (rs : List ByteArray) (s : Nat) (e : Ending) (w' : World) : Prop :=
  (∃ v, e = .returned (.tuple #[v, .int .i64 (frE rs s)]) ∧ (frE rs s = 0 → OwnBB w' w.heap.size v (frL rs s)) ∧ (frE rs s ≠ 0 → v = .slice none 0 0)) ∧ Below w.heap.size w w'
theorem FrPost.no {w w' : World} {rs : List ByteArray} {s : Nat} {k : Int} (h : frE rs s = k) (hk : k ≠ 0) (hb : Below w.heap.size w w') : FrPost w rs s (.returned (.tuple #[.slice none 0 0, .int .i64 k])) w' :=
  ⟨⟨_, by rw [h], fun e => absurd (h.symm.trans e) hk, fun _ => rfl⟩, hb⟩
theorem FrPost.ok {w w' : World} {rs : List ByteArray} {s : Nat} {v : Value} (h : frE rs s = 0) (ho : OwnBB w' w.heap.size v (frL rs s)) (hb : Below w.heap.size w w') : FrPost w rs s (.returned (.tuple #[v, .int .i64 0])) w' :=
  ⟨⟨v, by rw [h], fun _ => ho, fun e => absurd h e⟩, hb⟩
theorem batL_le {rs : List ByteArray} (h : okB rs) : (batL rs).length ≤ 5000000000 := by
  have h1 := recL_le rs (fun r hr => by have := h.2 r hr; omega)
  have h2 := h.1
  have h3 := num_len10 (n := rs.length) (by omega)
  unfold batL
  rw [List.length_append]
  have : rs.length * 1048586 ≤ 4096 * 1048586 := Nat.mul_le_mul_right _ h2
  omega
theorem frL_take (rs : List ByteArray) (s j : Nat) (h : j < pcN (batL rs).length) : (frL rs s).take (j + 1) = (frL rs s).take j ++ [secL (pcAt (batL rs) j) s j (pcN (batL rs).length)] := by
  rw [List.take_add_one, List.getElem?_eq_getElem (by rw [frL_length]; exact h)]
  have := frL_get (s := s) h
  rw [List.getD_eq_getElem?_getD, List.getElem?_eq_getElem (by rw [frL_length]; exact h)] at this
  simp only [Option.getD_some] at this
  rw [this]
  rfl
theorem recL_lt (rs : List ByteArray) : ∀ x ∈ recL rs, x < 256 := by
  induction rs with
  | nil => simp [recL]
  | cons r rs ih =>
    intro x hx
    simp only [recL, List.mem_append] at hx
    rcases hx with (h | h) | h
    · exact num_lt _ x h
    · exact bl_lt _ x h
    · exact ih x h
theorem batL_lt (rs : List ByteArray) : ∀ x ∈ batL rs, x < 256 := by
  intro x hx
  rcases List.mem_append.1 hx with h | h
  · exact num_lt _ x h
  · exact recL_lt rs x h
/-- the loop's state -/
def FrInv (w : World) (rs : List ByteArray) (s j : Nat) (x : Value) (wr : World) : Prop := OwnBB wr w.heap.size x ((frL rs s).take j) ∧ Below w.heap.size w wr
set_option maxHeartbeats 2000000 in
/-- Frame of a batch that may be framed -/
theorem frame_ok (w : World) (a : Option Addr) (len cap : Nat) (rs : List ByteArray) (h : IsT w a len cap rs) (s : Nat) (hok : okB rs) (hst : startB s = true) :
    Calls Try.prog 10 #[.slice a len cap, .int .u64 (s : Nat)] w (FrPost w rs s) := by
  obtain ⟨i0, hi, hz0, hz1, hz2⟩ := info_parts info34
  have HE : Hid (frE rs s = 0) := hide (frE_of hok hst)
  have HS := hide (isStart_any s w)
  rw [hst] at HS
  have hs := startB_le hst
  have HT := hide (batchText_any w a len cap rs h (by have := hok.1; have := h.1; omega) (fun r hr => by have := hok.2 r hr; omega))
  have HLE := hide (batL_le hok)
  have HP := hide (batL_pos rs)
  have HX : Hid (∀ x ∈ batL rs, x < 256) := hide (batL_lt rs)
  have HOK := hide hok
  have H := hide h
  have hlen : len ≤ 4096 := by rw [← h.1]; exact hok.1
  have d0 : decide ((4096 : Int) < (len : Int)) = false := decide_eq_false (by omega)
  have HFT := hide (frL_take rs s)
  have HFL := hide (frL_length rs s)
  clear h hok hst
  go_enter Try.func10, Try.ntmps10
  go_wp2_with fail
  go_loopw [17] (fun i wr => ∃ j : Nat, j ≤ len ∧ i = .int .i64 (j : Nat) ∧ wr = w) (fun i _ => len - (intOf i).toNat)
  case atStart => exact ⟨0, Nat.zero_le _, rfl, rfl⟩
  case round =>
    obtain ⟨j, hj, rfl, rfl⟩ := hrel
    by_cases hjn : j < len
    · obtain ⟨h1, h2, h3, h5⟩ := H.out
      rcases h5 with h0 | ⟨b, off, rfl, hlt, hc⟩
      · omega
      have hcj := hc j hjn
      have hsz : (rs.getD j ByteArray.empty).size ≤ 4096 := by
        rw [List.getD_eq_getElem?_getD, List.getElem?_eq_getElem (by omega)]; exact HOK.out.2 _ (List.getElem_mem _)
      have d1 : decide ((4096 : Int) < ((rs.getD j ByteArray.empty).size : Int)) = false := decide_eq_false (by omega)
      clear hc h1 h2 h3 hsz
      generalize rs.getD j ByteArray.empty = r at *
      go_wp2_with fail
      exact ⟨⟨j + 1, by omega, by simp, trivial⟩, by simp [intOf]; omega⟩
    · have : j = len := by omega
      subst this
      go_wp2_with fail
      refine HS.out.mono ?_
      rintro e w2 ⟨rfl, rfl⟩
      go_wp2_with fail
      refine HT.out.mono ?_
      rintro e w3 ⟨v3, rfl, ho3, hb3⟩
      obtain ⟨g3, c3, rfl, _, hI3⟩ := own_isB ho3 HX.out HP.out
      have HI3 := hide hI3
      have HB3 := hide hb3
      clear ho3 hI3 hb3 HT HS
      generalize hT : batL rs = T at *
      have HTT := hide hT
      generalize hTn : T.length = n at *
      clear hT hTn
      go_wp2_with fail
      refine (chunk_any w3 (some ⟨g3, 0, none⟩) n c3).mono ?_
      rintro e w4 ⟨rfl, hw4⟩
      have hb4 : Below w3.heap.size w3 w4 := by rw [hw4]; exact ((Below.refl _ _).alloc (Nat.le_refl _) _).alloc (by simp) _
      have hH4 : HoldC w3.heap.size (w3.heap.size + 1) g3 n c3 w4 := by
        rw [hw4]
        refine ⟨(Boxed.new w3 34 _).alloc _, ?_⟩
        have := Boxed.new (w3.alloc (.cells #[.slice (some ⟨g3, 0, none⟩) n c3] 34)) 3 (.int .i64 4064)
        simpa using this
      have HI4 := hide (HI3.out.below hb4)
      have HB4 : Hid (Below w2.heap.size w2 w4) := hide (HB3.out.trans (hb4.mono HB3.out.size))
      have HC := hide (collect_any w4 _ _ g3 n c3 hH4 (by have := HLE.out; omega) HI4.out.2.1 HI4.out.2.2.1)
      clear hw4 hb4 hH4 HI3 HB3
      go_wp2_with fail
      refine HC.out.mono ?_
      rintro e w5 ⟨v5, rfl, ho5, hb5⟩
      have HI5 := hide (HI4.out.below hb5)
      have HB5 : Hid (Below w2.heap.size w2 w5) := hide (HB4.out.trans (hb5.mono HB4.out.size))
      have hN : chN n = pcN n := rfl
      rw [hN] at ho5
      have hpos : 0 < pcN n := by have := HP.out; unfold pcN; omega
      obtain ⟨m, hm⟩ : ∃ m, m = pcN n := ⟨_, rfl⟩
      rw [← hm] at ho5 hpos
      obtain ⟨g5, c5, rfl⟩ : ∃ g cap, v5 = .slice (some ⟨g, 0, none⟩) m cap := by
        rcases ho5.2 with ⟨_, h0⟩ | ⟨g, cap, cur, e, _⟩
        · omega
        · exact ⟨g, cap, e⟩
      have HO5 := hide ho5
      have HM := hide hm
      have hmle : m ≤ 2000000 := by have := HLE.out; have := HM.out; unfold pcN at this; omega
      clear ho5 hb5 HI4 HB4 HC hN hm
      go_wp2_with fail
      go_loopw [34, 9] (fun i x wr => ∃ j : Nat, j ≤ m ∧ i = .int .i64 (j : Nat) ∧ FrInv w5 rs s j x wr) (fun i _ _ => m - (intOf i).toNat)
      case atStart => exact ⟨0, Nat.zero_le _, rfl, OwnBB.nil _ _, Below.refl _ _⟩
      case round =>
        obtain ⟨j, hj, rfl, hown, hb0⟩ := hrel
        have HOW := hide hown
        have HB0 := hide hb0
        by_cases hjm : j < m
        · have hcj := (own34_below HO5.out hb0).cells (g := g5) rfl j (.slice (some ⟨g3, 4064 * j, none⟩) (mn n j) (mn n j)) (by
            simp [chV, hjm])
          have hIj := isB_piece (HI5.out.below hb0) j (by rw [show chN n = pcN n from rfl, ← HM.out]; exact hjm)
          have hmn : mn n j ≤ 4064 := by unfold mn; omega
          have HSO := hide (sectorOf_any wr _ _ _ _ hIj hmn s j m hs (by omega) (by omega))
          have HTK : Hid ((frL rs s).take (j + 1) = (frL rs s).take j ++ [secL (pcAt T j) s j m]) := hide (by rw [HFT.out j (by rw [← HM.out]; exact hjm), HM.out])
          have HLT : Hid (((frL rs s).take j).length = j) := hide (by rw [List.length_take, HFL.out, ← HM.out]; omega)
          rw [Addr.add_lit, Nat.zero_add] at hcj
          clear hown hb0 hIj hmn
          generalize mn n j = L at *
          go_wp2_with fail
          refine HSO.out.mono ?_
          rintro e w6 ⟨q, rfl, hq, hrow, hb6⟩
          obtain ⟨vs, qs, hvo, hvl⟩ := HOW.out
          have HQS : Hid (∀ i, i < ((frL rs s).take j).length → qs i < q) := hide (fun i hi => Nat.lt_of_lt_of_le (hvl.lt i hi) hq)
          have HVO := hide (own34_below hvo hb6)
          have HVL := hide (hvl.below hb6)
          have HROW := hide hrow
          have HB6 : Hid (Below w5.heap.size w5 w6) := hide (HB0.out.trans (hb6.mono HB0.out.size))
          have HQ : Hid (w5.heap.size ≤ q) := hide (Nat.le_trans HB0.out.size hq)
          have HZ := hide HB6.out.size
          have hvo' := HVO.out
          rw [HLT.out] at hvo'
          have HVJ := hide hvo'
          clear hvo' hvo hvl hq hrow hb6 HSO HOW HB0 hcj
          go_wp2_with (at_builtin; refine wpList_append_own _ rfl _ _ 24 rfl w5.heap.size 34 i0 (.slice none 0 0) 1 24 Try.underlying24 hi hz0 hz1 hz2 rfl (by decide) _ j vs rfl (HVJ.out.alloc _) ⟨w6.heap.size, 0, none⟩ 1 1 [.slice (some ⟨q, 0, none⟩) 4096 4096] rfl rfl (cell_one_new _ _ _) (one_slice _ _ _) ?c3 ?c4 ?c5 ?_)
          case c3 => unfold maxLen; omega
          case c4 => omega
          case c5 => have := HZ.out; simp; omega
          intro v7 w7 hown7 hg7 _
          have HBA : Below w6.heap.size w6 (w6.alloc (.cells #[.slice (some ⟨q, 0, none⟩) 4096 4096] 34)) := (Below.refl _ _).alloc (Nat.le_refl _) _
          have hown7' := hown7
          rw [← HLT.out] at hown7'
          have hP := OwnBB.push (own34_below HVO.out HBA) (HVL.out.below HBA) HQ.out HQS.out (HROW.out.low HBA) hown7' hg7
          rw [← HTK.out] at hP
          have hlt : ∀ k, _ = some k → w5.heap.size ≤ k := fun k hk => (HVJ.out.lt k hk).1
          have hB7 : Below w5.heap.size w5 w7 := (HB6.out.trans (HBA.mono HZ.out)).grown hg7 (by have := HZ.out; simp; omega) (fun k hk => hlt k hk)
          clear hown7 hown7' hg7 HBA hlt
          go_wp2
          go_roundw
          case rel => exact ⟨j + 1, by omega, by go_num, hP, hB7⟩
          case measure => simp [intOf]; omega
        · have : j = m := by omega
          subst this
          have HF : Hid ((frL rs s).take j = frL rs s) := hide (List.take_of_length_le (by rw [HFL.out, ← HM.out]; exact Nat.le_refl _))
          have HO := hide hown
          rw [HF.out] at HO
          clear hown hb0
          go_wp2_with fail
          go_ret2
          exact FrPost.ok HE.out (HO.out.mono HB5.out.size) (HB5.out.trans (HB0.out.mono HB5.out.size))
end Go.Proofs.Yteckglnfkgfefaa
