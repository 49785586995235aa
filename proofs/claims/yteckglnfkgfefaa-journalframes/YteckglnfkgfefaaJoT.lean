/- the document's Frame -/
import Derived.Test.YteckglnfkgfefaaJoS
import Derived.Test.YteckglnfkgfefaaJoH
namespace Go.Proofs.Yteckglnfkgfefaa
open Go.RowKit Cod
set_option maxRecDepth 40000
set_option linter.unusedSimpArgs false
set_option linter.unusedVariables false
/-- a row of sectors that is the document's own -/
def LieD (w : World) (vs : List Value) (bs : List (List Nat)) : Prop :=
  ∀ i, i < bs.length → ∃ q c, vs[i]? = some (.slice (some ⟨q, 0, none⟩) 4096 c) ∧ Row w q 4096 c (bs.getD i [])
theorem LieD.below {w w' : World} {vs : List Value} {bs : List (List Nat)} (h : LieD w vs bs) (hb : Below w.heap.size w w') : LieD w' vs bs := fun i hi => by
  obtain ⟨q, c, h1, h2⟩ := h i hi
  exact ⟨q, c, h1, h2.low hb⟩
theorem LieD.push {w w' : World} {B q c : Nat} {v : Value} {bs : List (List Nat)} {vs : List Value} {l : List Nat} (ho : w.ownsRow B 34 1 v bs.length vs) (hl : LieD w vs bs) (hr : Row w q 4096 c l) (hg : w.grownBy w' v.ownBlock) : LieD w' (vs ++ [.slice (some ⟨q, 0, none⟩) 4096 c]) (bs ++ [l]) := by
  have hvl : vs.length = bs.length := by have := ho.1; omega
  intro i hi
  rw [List.length_append, List.length_cons, List.length_nil] at hi
  by_cases h : i < bs.length
  · obtain ⟨q1, c1, e1, e2⟩ := hl i h
    refine ⟨q1, c1, by rw [List.getElem?_append_left (by omega)]; exact e1, ?_⟩
    rw [List.getD_eq_getElem?_getD, List.getElem?_append_left h, ← List.getD_eq_getElem?_getD]
    exact e2.beside ho hg
  · have : i = bs.length := by omega
    subst this
    refine ⟨q, c, by rw [List.getElem?_append_right (by omega), hvl, Nat.sub_self]; rfl, ?_⟩
    rw [List.getD_eq_getElem?_getD, List.getElem?_append_right (Nat.le_refl _), Nat.sub_self]
    exact hr.beside ho hg
theorem LieD.isBB {w : World} {B : Nat} {v : Value} {bs : List (List Nat)} {vs : List Value} (ho : w.ownsRow B 34 1 v bs.length vs) (hl : LieD w vs bs) (hx : ∀ b ∈ bs, ∀ x ∈ b, x < 256) : ∃ a cap, v = .slice a bs.length cap ∧ IsBB w a bs.length cap bs := by
  rcases ho.2 with ⟨rfl, h0⟩ | ⟨g, cap, cur, rfl, hb, hg, hn, hc, hs, ht⟩
  · refine ⟨none, 0, by rw [h0], rfl, by omega, Nat.zero_le _, .inl h0⟩
  · refine ⟨some ⟨g, 0, none⟩, cap, rfl, rfl, hn, hc, .inr ⟨g, 0, rfl, heap_lt hg, fun i hi => ?_⟩⟩
    obtain ⟨q, c, e1, e3⟩ := hl i hi
    refine ⟨_, _, _, ?_, e3.isB (hx _ (by rw [List.getD_eq_getElem?_getD, List.getElem?_eq_getElem hi]; exact List.getElem_mem _))⟩
    rw [← ht, List.getElem?_take, if_pos (by omega)] at e1
    simp only [World.cell?, hg]
    simpa using e1
theorem frL_lt2 (rs : List ByteArray) (s : Nat) : ∀ q ∈ frL rs s, ∀ x ∈ q, x < 256 := by
  intro q hq
  obtain ⟨i, hi, rfl⟩ := List.mem_map.1 hq
  refine secL_lt (fun x hx => batL_lt rs x ?_) _ _ _
  exact List.mem_of_mem_drop (List.mem_of_mem_take hx)
/-- what the document's Frame answers -/
def FdPost (w : World) (rs : List ByteArray) (s : Nat) (e : Ending) (w' : World) : Prop :=
  (∃ v, e = .returned (.tuple #[v, .int .i64 (frE rs s)]) ∧ (frE rs s = 0 → ∃ a c, v = .slice a (frL rs s).length c ∧ IsBB w' a (frL rs s).length c (frL rs s)) ∧ (frE rs s ≠ 0 → v = .slice none 0 0)) ∧ Below w.heap.size w w'
theorem FdPost.no {w w' : World} {rs : List ByteArray} {s : Nat} {k : Int} (h : frE rs s = k) (hk : k ≠ 0) (hb : Below w.heap.size w w') : FdPost w rs s (.returned (.tuple #[.slice none 0 0, .int .i64 k])) w' :=
  ⟨⟨_, by rw [h], fun e => absurd (h.symm.trans e) hk, fun _ => rfl⟩, hb⟩
theorem FdPost.ok {w w' : World} {rs : List ByteArray} {s : Nat} {v : Value} (h : frE rs s = 0) (ho : ∃ a c, v = .slice a (frL rs s).length c ∧ IsBB w' a (frL rs s).length c (frL rs s)) (hb : Below w.heap.size w w') : FdPost w rs s (.returned (.tuple #[v, .int .i64 0])) w' :=
  ⟨⟨v, by rw [h], fun _ => ho, fun e => absurd h e⟩, hb⟩
theorem startB_true {s : Nat} (h : startB s = true) : 1 ≤ s ∧ s ≤ 4611686018427387904 := by
  have : startB s = decide (1 ≤ s ∧ s ≤ 4611686018427387904) := rfl
  rw [this] at h
  exact of_decide_eq_true h
theorem startB_false {s : Nat} (h : startB s = false) : ¬ (1 ≤ s ∧ s ≤ 4611686018427387904) := by
  have : startB s = decide (1 ≤ s ∧ s ≤ 4611686018427387904) := rfl
  rw [this] at h
  exact of_decide_eq_false h
/-- the loop's state -/
def FdInv (w : World) (rs : List ByteArray) (s j : Nat) (x : Value) (wr : World) : Prop := (∃ vs, wr.ownsRow w.heap.size 34 1 x ((frL rs s).take j).length vs ∧ LieD wr vs ((frL rs s).take j)) ∧ Below w.heap.size w wr
set_option maxHeartbeats 2000000 in
theorem rframe_ok (w : World) (a : Option Addr) (len cap : Nat) (rs : List ByteArray) (h : IsT w a len cap rs) (s : Nat) (hok : okB rs) (hst : startB s = true) :
    Calls Try.prog 11 #[.slice a len cap, .int .u64 (s : Nat)] w (FdPost w rs s) := by
  obtain ⟨i0, hi, hz0, hz1, hz2⟩ := info_parts info34
  have HE : Hid (frE rs s = 0) := hide (frE_of hok hst)
  obtain ⟨hs1, hs⟩ := startB_true hst
  have ds1 : decide ((s : Int) < 1) = false := decide_eq_false (by omega)
  have ds2 : decide ((4611686018427387904 : Int) < (s : Int)) = false := decide_eq_false (by omega)
  have HT := hide (rpieces_any w a len cap rs h hok)
  have HLE := hide (batL_le hok)
  have HP := hide (batL_pos rs)
  have HOK := hide hok
  have H := hide h
  have hlen : len ≤ 4096 := by rw [← h.1]; exact hok.1
  have d0 : decide ((4096 : Int) < (len : Int)) = false := decide_eq_false (by omega)
  have HFT := hide (frL_take rs s)
  have HFL := hide (frL_length rs s)
  clear h hok hst
  go_enter Try.func11, Try.ntmps11
  go_wp2_with fail
  go_loopw [17] (fun i wr => ∃ j : Nat, j ≤ len ∧ i = .int .i64 (j : Nat) ∧ wr = w) (fun i _ => len - (intOf i).toNat)
  case atStart => exact ⟨0, Nat.zero_le _, rfl, rfl⟩
  case round =>
    obtain ⟨j, hj, rfl, rfl⟩ := hrel
    by_cases hjn : j < len
    · obtain ⟨h1, h2, h3, h5⟩ := H.out
      rcases h5 with h0 | ⟨b, off, rfl, hlt, hc⟩
      · omega
      have hcj := hc j hjn
      have hsz : (rs.getD j ByteArray.empty).size ≤ 4096 := by
        rw [List.getD_eq_getElem?_getD, List.getElem?_eq_getElem (by omega)]; exact HOK.out.2 _ (List.getElem_mem _)
      have d1 : decide ((4096 : Int) < ((rs.getD j ByteArray.empty).size : Int)) = false := decide_eq_false (by omega)
      clear hc h1 h2 h3 hsz
      generalize rs.getD j ByteArray.empty = r at *
      go_wp2_with fail
      exact ⟨⟨j + 1, by omega, by simp, trivial⟩, by simp [intOf]; omega⟩
    · have : j = len := by omega
      subst this
      generalize hW0 : wr = w2 at *
      clear hW0
      go_wp2_with fail
      refine HT.out.mono ?_
      rintro e w5 ⟨a5, c5, rfl, hI5, hb5⟩
      have HI5 := hide hI5
      have HB5 := hide hb5
      have hpos : 0 < pcN (batL rs).length := by have := HP.out; unfold pcN; omega
      obtain ⟨m, hm⟩ : ∃ m, m = pcN (batL rs).length := ⟨_, rfl⟩
      rw [← hm] at HI5 hpos ⊢
      have HM := hide hm
      have hmle : m ≤ 2000000 := by have := HLE.out; have := HM.out; unfold pcN at this; omega
      clear hb5 hm HT hI5
      go_wp2_with fail
      go_loopw [35, 9] (fun i x wr => ∃ j : Nat, j ≤ m ∧ i = .int .i64 (j : Nat) ∧ FdInv w5 rs s j x wr) (fun i _ _ => m - (intOf i).toNat)
      case atStart => exact ⟨0, Nat.zero_le _, rfl, ⟨[], World.ownsRow_nil _ _ _ _, fun i hi => by simp at hi⟩, Below.refl _ _⟩
      case round =>
        obtain ⟨j, hj, rfl, ⟨vs, hvo, hvl⟩, hb0⟩ := hrel
        have HVO := hide hvo
        have HVL := hide hvl
        have HB0 := hide hb0
        have HLT : Hid (((frL rs s).take j).length = j) := hide (by rw [List.length_take, HFL.out, ← HM.out]; omega)
        by_cases hjm : j < m
        · rcases (HI5.out.below hb0).2.2.2 with hz | ⟨b, off, rfl, hlt, hc⟩
          · omega
          obtain ⟨a1, l1, c1, hcj, hIj⟩ := hc j hjm
          have hget : (pcs (batL rs)).getD j [] = pcAt (batL rs) j := pcs_get (by rw [← HM.out]; exact hjm)
          rw [hget] at hIj
          have hpl := pcAt_len (t := batL rs) (i := j) (by rw [← HM.out]; exact hjm)
          have hmn : l1 ≤ 4064 := by rw [← hIj.1]; exact hpl.2.1
          have HSO := hide (rsector_any wr a1 l1 c1 _ hIj hmn s j m hs (by omega) (by omega))
          have HTK : Hid ((frL rs s).take (j + 1) = (frL rs s).take j ++ [rsecL (pcAt (batL rs) j) s j m]) := hide (by rw [HFT.out j (by rw [← HM.out]; exact hjm), ← HM.out, secL_eq _ hpl.2.1])
          have HXS : Hid (∀ x ∈ rsecL (pcAt (batL rs) j) s j m, x < 256) := hide (by
            rw [← secL_eq _ hpl.2.1]
            exact secL_lt hIj.2.2.2.1 _ _ _)
          generalize rsecL (pcAt (batL rs) j) s j m = sl at *
          clear hvo hvl hb0 hIj hmn hc hget hpl
          go_wp2_with fail
          refine HSO.out.mono ?_
          rintro e w6 ⟨v6, rfl, ho6, hb6⟩
          obtain ⟨q6, c6, rfl, _, hrow⟩ := Row.of_owns ho6 (by omega)
          have HROW := hide hrow
          have HVO6 := hide (own34_below HVO.out hb6)
          have HVL6 := hide (HVL.out.below hb6)
          have HB6 : Hid (Below w5.heap.size w5 w6) := hide (HB0.out.trans (hb6.mono HB0.out.size))
          have HZ := hide HB6.out.size
          have hvo' := HVO6.out
          rw [HLT.out] at hvo'
          have HVJ := hide hvo'
          clear hvo' hrow hb6 HSO HVO HVL HB0 hcj ho6
          go_wp2_with (at_builtin; refine wpList_append_own _ rfl _ _ 24 rfl w5.heap.size 34 i0 (.slice none 0 0) 1 24 Try.underlying24 hi hz0 hz1 hz2 rfl (by decide) _ j vs rfl (HVJ.out.alloc _) ⟨w6.heap.size, 0, none⟩ 1 1 [.slice (some ⟨q6, 0, none⟩) 4096 c6] rfl rfl (cell_one_new _ _ _) (one_slice _ _ _) ?c3 ?c4 ?c5 ?_)
          case c3 => unfold maxLen; omega
          case c4 => omega
          case c5 => have := HZ.out; simp; omega
          intro v7 w7 hown7 hg7 _
          have HBA : Below w6.heap.size w6 (w6.alloc (.cells #[.slice (some ⟨q6, 0, none⟩) 4096 c6] 34)) := (Below.refl _ _).alloc (Nat.le_refl _) _
          have hP := LieD.push (own34_below HVO6.out HBA) (HVL6.out.below HBA) (HROW.out.low HBA) hg7
          rw [← HTK.out] at hP
          have HLT2 : ((frL rs s).take (j + 1)).length = j + 1 := by rw [List.length_take, HFL.out, ← HM.out]; omega
          have hP0 : w7.ownsRow w5.heap.size 34 1 v7 ((frL rs s).take (j + 1)).length (vs ++ [.slice (some ⟨q6, 0, none⟩) 4096 c6]) := by rw [HLT2]; exact hown7
          have hlt : ∀ k, _ = some k → w5.heap.size ≤ k := fun k hk => (HVJ.out.lt k hk).1
          have hB7 : Below w5.heap.size w5 w7 := (HB6.out.trans (HBA.mono HZ.out)).grown hg7 (by have := HZ.out; simp; omega) (fun k hk => hlt k hk)
          clear hown7 hg7 HBA hlt HLT2
          go_wp2
          go_roundw
          case rel => exact ⟨j + 1, by omega, by go_num, ⟨_, hP0, hP⟩, hB7⟩
          case measure => simp [intOf]; omega
        · have : j = m := by omega
          subst this
          have HF : Hid ((frL rs s).take j = frL rs s) := hide (List.take_of_length_le (by rw [HFL.out, ← HM.out]; exact Nat.le_refl _))
          rw [HF.out] at hvo hvl
          have HIB := hide (LieD.isBB hvo hvl (frL_lt2 rs s))
          clear hvo hvl hb0 HVO HVL
          go_wp2_with fail
          go_ret2
          exact FdPost.ok HE.out HIB.out (HB5.out.trans (HB0.out.mono HB5.out.size))
theorem rframe_no (w : World) (a : Option Addr) (len cap : Nat) (rs : List ByteArray) (h : IsT w a len cap rs) (s : Nat) (hne : ¬ (okB rs ∧ startB s = true)) :
    Calls Try.prog 11 #[.slice a len cap, .int .u64 (s : Nat)] w (FdPost w rs s) := by
  by_cases h1 : 4096 < len
  · have d0 : decide ((4096 : Int) < (len : Int)) = true := decide_eq_true (by omega)
    have HE : Hid (frE rs s = 3) := hide (by unfold frE; rw [if_pos (by rw [h.1]; exact h1)])
    clear h hne h1
    go_enter Try.func11, Try.ntmps11
    go_wp2_with fail
    go_ret2
    exact FdPost.no HE.out (by decide) (Below.refl _ _)
  · have d0 : decide ((4096 : Int) < (len : Int)) = false := decide_eq_false (by omega)
    have hl : rs.length ≤ 4096 := by rw [h.1]; omega
    have hmax : len ≤ 4096 := by omega
    have H := hide h
    have HNE := hide hne
    clear h hne h1
    go_enter Try.func11, Try.ntmps11
    go_wp2_with fail
    go_loopw [17] (fun i wr => ∃ j : Nat, j ≤ len ∧ i = .int .i64 (j : Nat) ∧ wr = w ∧ Hid (∀ k, k < j → (rs.getD k ByteArray.empty).size ≤ 4096)) (fun i _ => len - (intOf i).toNat)
    case atStart => exact ⟨0, Nat.zero_le _, rfl, rfl, hide (fun k hk => by omega)⟩
    case round =>
      obtain ⟨j, hj, rfl, rfl, HA⟩ := hrel
      by_cases hjn : j < len
      · obtain ⟨h1, h2, h3, h5⟩ := H.out
        rcases h5 with h0 | ⟨b, off, rfl, hlt, hc⟩
        · omega
        have hcj := hc j hjn
        by_cases hsz : (rs.getD j ByteArray.empty).size ≤ 4096
        · have HA1 : Hid (∀ k, k < j + 1 → (rs.getD k ByteArray.empty).size ≤ 4096) := hide (fun k hk => by
            by_cases e : k = j
            · rw [e]; exact hsz
            · exact HA.out k (by omega))
          have d1 : decide ((4096 : Int) < ((rs.getD j ByteArray.empty).size : Int)) = false := decide_eq_false (by omega)
          clear hc h1 h2 h3 hsz HA
          generalize rs.getD j ByteArray.empty = r at *
          go_wp2_with fail
          exact ⟨⟨j + 1, by omega, by simp, trivial, HA1⟩, by simp [intOf]; omega⟩
        · have d1 : decide ((4096 : Int) < ((rs.getD j ByteArray.empty).size : Int)) = true := decide_eq_true (by omega)
          have HE : Hid (frE rs s = 4) := hide (by
            unfold frE
            rw [if_neg (by omega), if_pos (fun e => hsz (get_of_all e j (by omega)))])
          clear hc h1 h2 h3 hsz HA
          generalize rs.getD j ByteArray.empty = r at *
          go_wp2_with fail
          go_ret2
          exact FdPost.no HE.out (by decide) (Below.refl _ _)
      · have : j = len := by omega
        subst this
        have HALL : Hid (∀ r ∈ rs, r.size ≤ 4096) := hide (all_of_get (fun k hk => HA.out k (by rw [← H.out.1]; exact hk)))
        have hst : startB s = false := by
          by_cases e : startB s = true
          · exact absurd ⟨⟨hl, HALL.out⟩, e⟩ HNE.out
          · simpa using e
        have HE : Hid (frE rs s = 2) := hide (by
          unfold frE
          rw [if_neg (by omega), if_neg (fun e => e HALL.out), if_neg (by simp [hst])])
        have hsf := startB_false hst
        clear hst HA
        by_cases hs1 : s < 1
        · have ds1 : decide ((s : Int) < 1) = true := decide_eq_true (by omega)
          clear hsf
          go_wp2_with fail
          go_ret2
          exact FdPost.no HE.out (by decide) (Below.refl _ _)
        · have ds1 : decide ((s : Int) < 1) = false := decide_eq_false (by omega)
          have ds2 : decide ((4611686018427387904 : Int) < (s : Int)) = true := decide_eq_true (by omega)
          clear hsf
          go_wp2_with fail
          go_ret2
          exact FdPost.no HE.out (by decide) (Below.refl _ _)
theorem rframe_any (w : World) (a : Option Addr) (len cap : Nat) (rs : List ByteArray) (h : IsT w a len cap rs) (s : Nat) :
    Calls Try.prog 11 #[.slice a len cap, .int .u64 (s : Nat)] w (FdPost w rs s) := by
  by_cases hk : okB rs ∧ startB s = true
  · exact rframe_ok w a len cap rs h s hk.1 hk.2
  · exact rframe_no w a len cap rs h s hk
end Go.Proofs.Yteckglnfkgfefaa
