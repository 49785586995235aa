/- JournalBack, walked -/
import Derived.Test.YteckglnfkgfefaaJoR
import Derived.Test.YteckglnfkgfefaaJoP
import Derived.Test.YteckglnfkgfefaaJoQ
namespace Go.Proofs.Yteckglnfkgfefaa
open Go.RowKit Cod
set_option maxRecDepth 40000
set_option linter.unusedSimpArgs false
set_option linter.unusedVariables false
theorem own_slice {w : World} {B : Nat} {v : Value} {bs : List (List Nat)} (h : OwnBB w B v bs) (h0 : 1 ≤ bs.length) : ∃ g cap, v = .slice (some ⟨g, 0, none⟩) bs.length cap := by
  obtain ⟨vs, qs, ho, _⟩ := h
  rcases ho.2 with ⟨_, h1⟩ | ⟨g, c, cur, e, _⟩
  · omega
  · exact ⟨g, c, e⟩
theorem recL_few (rs : List ByteArray) (h : ∀ r ∈ rs, r.size ≤ 4096) : (recL rs).length ≤ rs.length * 4106 := by
  induction rs with
  | nil => simp [recL]
  | cons r rs ih =>
    have h1 := ih (fun x hx => h x (List.mem_cons_of_mem _ hx))
    have h2 := h r (List.mem_cons_self ..)
    have h3 := num_len10 (n := r.size) (by omega)
    simp only [recL, List.length_append, bl_length, List.length_cons]
    omega
theorem frL_few {rs : List ByteArray} {s : Nat} (h : okB rs) : (frL rs s).length ≤ 65536 := by
  have h1 := h.1
  have h2 := recL_few rs h.2
  have h3 := num_len10 (n := rs.length) (by omega)
  have h4 : (batL rs).length ≤ 10 + rs.length * 4106 := by unfold batL; rw [List.length_append]; omega
  rw [frL_length]
  unfold pcN
  omega
theorem LieBB.poke {w : World} {B i k o n : Nat} {v : Value} {vs : List Value} {qs : Nat → Nat} {bs : List (List Nat)} (hvo : w.ownsRow B 34 1 v n vs) (hvl : LieBB w B vs qs bs) (hi : i < bs.length) :
    (w.setCell ⟨qs i, k, none⟩ (.int .u8 (o : Nat))).ownsRow B 34 1 v n vs ∧ LieBB (w.setCell ⟨qs i, k, none⟩ (.int .u8 (o : Nat))) B vs qs (bs.set i ((bs.getD i []).set k o)) := by
  have hrow := (hvl i hi).2.2.1
  constructor
  · refine ⟨hvo.1, ?_⟩
    rcases hvo.2 with h1 | ⟨g, cap, cur, e, hb, hg, r⟩
    · exact .inl h1
    · refine .inr ⟨g, cap, cur, e, hb, ?_, r⟩
      have hne : g ≠ qs i := by
        rintro rfl
        obtain ⟨_, _, _, cur', h4, _⟩ := hrow
        rw [hg] at h4
        simp at h4
      rw [Below.heap_setCell _ _ _ _ hne]
      exact hg
  · intro x hx
    rw [List.length_set] at hx
    obtain ⟨h1, h2, h3, h4⟩ := hvl x hx
    refine ⟨h1, h2, ?_, h4⟩
    by_cases e : x = i
    · subst e
      have e2 : (bs.set x ((bs.getD x []).set k o)).getD x [] = (bs.getD x []).set k o := by
        simp only [List.getD_eq_getElem?_getD]
        rw [List.getElem?_set_self hx]
        rfl
      rw [e2]
      exact h3.set k o
    · have e2 : (bs.set i ((bs.getD i []).set k o)).getD x [] = bs.getD x [] := by
        simp only [List.getD_eq_getElem?_getD]
        rw [List.getElem?_set_ne (fun h => e h.symm)]
      rw [e2]
      have hne : qs x ≠ qs i := by
        rcases Nat.lt_or_gt_of_ne e with h | h
        · have := (hvl i hi).2.2.2 x h; omega
        · have := h4 i h; omega
      obtain ⟨r1, r2, r3, cur, r4, r5⟩ := h3
      exact ⟨r1, r2, r3, cur, by rw [Below.heap_setCell _ _ _ _ hne]; exact r4, r5⟩
theorem mem_poke {bs : List (List Nat)} {i k o : Nat} (hx : ∀ q ∈ bs, ∀ x ∈ q, x < 256) (ho : o < 256) (hi : i < bs.length) : ∀ q ∈ bs.set i ((bs.getD i []).set k o), ∀ x ∈ q, x < 256 := by
  intro q hq
  rcases List.mem_or_eq_of_mem_set hq with h | rfl
  · exact hx q h
  · refine mem_set ?_ ho
    rw [List.getD_eq_getElem?_getD, List.getElem?_eq_getElem hi]
    exact hx _ (List.getElem_mem _)
set_option maxHeartbeats 4000000 in
theorem backWalk (a : Option Addr) (len cap : Nat) (rs : List ByteArray) (s : Nat) (at' : Int) (o : Int) (w : World) (h : IsT w a len cap rs) (hat : -9223372036854775808 ≤ at' ∧ at' ≤ 9223372036854775807) (ho : 0 ≤ o ∧ o < 256) :
    Calls Try.prog 4 #[.slice a len cap, .int .u64 (s : Nat), .int .i64 at', .int .u8 o] w fun e w' => e = .returned (.bool true) ∧ Below w.heap.size w w' := by
  have HT := hide h
  have HAT := hide hat
  obtain ⟨ob, rfl⟩ := Int.eq_ofNat_of_zero_le ho.1
  have HOB : Hid (ob < 256) := hide (by omega)
  clear h hat ho
  go_enter Try.func4, Try.ntmps4
  go_wp2_with fail
  refine (lives_any w).mono ?_
  rintro e w1 ⟨rfl, hb1⟩
  have HB1 := hide hb1
  have HF := hide (frame_any w1 a len cap rs (HT.out.below hb1) s)
  clear hb1
  go_wp2_with fail
  refine HF.out.mono ?_
  rintro e w2 ⟨⟨v, rfl, hok, hno⟩, hb2⟩
  have HB2 : Hid (Below w.heap.size w w2) := hide (HB1.out.trans (hb2.mono HB1.out.size))
  by_cases hE : frE rs s = 0
  · have hown := hok hE
    obtain ⟨hokB, hst⟩ := frE_ok hE
    have HOK := hide hokB
    have HST := hide hst
    rw [hE]
    obtain ⟨g, c, rfl⟩ := own_slice hown (fr_pos rs s)
    obtain ⟨a2, c2, hv2, hI2⟩ := hown.isBB (frL_lt rs s)
    cases hv2
    have HOWN := hide hown
    have hfew := frL_few (s := s) hokB
    have HUF := hide (unframe_any w2 _ _ _ _ hI2 hfew s)
    obtain ⟨m, hm⟩ : ∃ m, m = (frL rs s).length := ⟨_, rfl⟩
    have HM := hide hm
    have hm1 : 1 ≤ m := by rw [hm]; exact fr_pos rs s
    rw [← hm] at HUF hfew ⊢
    clear hok hno hb2 hE hown hokB hst hI2 hm HF
    go_wp2_with fail
    refine HUF.out.mono ?_
    rintro e w3 ⟨⟨r, rs', rfl, _, hun, hro⟩ | ⟨hf, _⟩ | ⟨_, hun, _⟩, hb3⟩
    · have hrr : rs' = rs := by
        rcases hun with ⟨_, h1, h2⟩ | ⟨h0, _⟩
        · exact frL_inj h1 HOK.out h2
        · exact absurd rfl h0
      subst hrr
      have HB3 : Hid (Below w.heap.size w w3) := hide (HB2.out.trans (hb3.mono HB2.out.size))
      have hlen : rs'.length = len := HT.out.1
      obtain ⟨ra, rc, rfl, hrT, _⟩ := isTT_own hro
      rw [hlen] at hrT ⊢
      have HSM := hide (sameT_any ra len rc rs' a cap w3 hrT (HT.out.below HB3.out))
      have HOWN3 := hide (HOWN.out.below hb3)
      clear hun hro hrT hlen hb3 HUF HOWN
      go_wp2_with fail
      refine HSM.out.mono ?_
      rintro e w4 ⟨rfl, hb4⟩
      have HB4 : Hid (Below w.heap.size w w4) := hide (HB3.out.trans (hb4.mono HB3.out.size))
      have HOWN4 := hide (HOWN3.out.below hb4)
      clear hb4 HSM HOWN3
      by_cases h0 : at' < 0
      · have d0 : decide (at' < 0) = true := decide_eq_true h0
        go_wp2_with fail
        go_ret
        exact ⟨rfl, HB4.out⟩
      · have d0 : decide (at' < 0) = false := decide_eq_false h0
        obtain ⟨p, rfl⟩ := Int.eq_ofNat_of_zero_le (show 0 ≤ at' by omega)
        have hp63 : p ≤ 9223372036854775807 := by have := HAT.out; omega
        have hw0 : IntKind.i64.wrap ((m : Int) * 4096) = ((m * 4096 : Nat) : Int) := by rw [IntKind.wrap_i64]; omega
        by_cases h1 : m * 4096 ≤ p
        · have d1 : decide (((m * 4096 : Nat) : Int) ≤ (p : Int)) = true := decide_eq_true (by omega)
          go_wp2_with fail
          go_ret
          exact ⟨rfl, HB4.out⟩
        · have d1 : decide (((m * 4096 : Nat) : Int) ≤ (p : Int)) = false := decide_eq_false (by omega)
          obtain ⟨vs, qs, hvo, hvl⟩ := HOWN4.out
          have hil : p / 4096 < (frL rs' s).length := by rw [← HM.out]; omega
          have hkl : p % 4096 < 4096 := Nat.mod_lt _ (by decide)
          obtain ⟨e1, e2, e3, e4⟩ := hvl (p / 4096) hil
          have hci := hvo.cells (g := g) rfl _ _ e1
          rw [Addr.add_lit, Nat.zero_add] at hci
          have hck := e3.cell hkl
          have hfk := e3.frozen (p % 4096)
          have him : p / 4096 < m := by omega
          obtain ⟨x, hx⟩ : ∃ x, x = ((frL rs' s).getD (p / 4096) []).getD (p % 4096) 0 := ⟨_, rfl⟩
          have HXX := hide hx
          rw [← hx] at hck
          have HPK := hide (LieBB.poke (k := p % 4096) (o := ob) hvo hvl hil)
          have HQB : Hid (w1.heap.size ≤ qs (p / 4096)) := hide e2
          have HIL := hide hil
          clear e1 e2 e3 e4 hvo hvl hil hx
          by_cases hxo : x = ob
          · subst hxo
            have d2 : ((x : Int) == (x : Int)) = true := by simp
            go_wp2_with fail
            go_ret
            exact ⟨rfl, HB4.out⟩
          · have d2 : ((x : Int) == (ob : Int)) = false := by simp; omega
            have d3 : ¬ ((x : Int) = (ob : Int)) := by omega
            have HNE : Hid (∀ q, frL q s ≠ (frL rs' s).set (p / 4096) (((frL rs' s).getD (p / 4096) []).set (p % 4096) ob)) := hide (fun q => frL_flip HIL.out hkl HOB.out (by rw [← HXX.out]; exact hxo))
            have hown5 : OwnBB (w4.setCell ⟨qs (p / 4096), p % 4096, none⟩ (.int .u8 (ob : Nat))) w1.heap.size (.slice (some ⟨g, 0, none⟩) m c) ((frL rs' s).set (p / 4096) (((frL rs' s).getD (p / 4096) []).set (p % 4096) ob)) := by
              refine ⟨vs, qs, ?_, HPK.out.2⟩
              have := HPK.out.1
              rw [← HM.out] at this
              rw [List.length_set, ← HM.out]
              exact this
            obtain ⟨a6, c6, hv6, hI6⟩ := hown5.isBB (mem_poke (frL_lt rs' s) HOB.out HIL.out)
            have hv6' : (.slice (some ⟨g, 0, none⟩) m c : Value) = .slice a6 m c6 := by
              rw [hv6, List.length_set, ← HM.out]
            cases hv6'
            rw [List.length_set, ← HM.out] at hI6
            have HUF := hide (unframe_any _ _ m c _ hI6 hfew s)
            have HB5 : Hid (Below w.heap.size w (w4.setCell ⟨qs (p / 4096), p % 4096, none⟩ (.int .u8 (ob : Nat)))) := hide (HB4.out.setCell (p := ⟨qs (p / 4096), p % 4096, none⟩) (by show w.heap.size ≤ qs (p / 4096); exact Nat.le_trans HB1.out.size HQB.out) _)
            clear hown5 hI6 hv6 HPK
            go_wp2_with fail
            refine HUF.out.mono ?_
            rintro e w6 ⟨⟨v6, r6, rfl, _, hun6, _⟩ | ⟨hf, _⟩ | ⟨_, _, rfl⟩, hb6⟩
            · exfalso
              rcases hun6 with ⟨_, _, h2⟩ | ⟨h0, _⟩
              · exact HNE.out _ h2
              · exact h0 rfl
            · rw [HST.out] at hf; cases hf
            · have HB6 : Hid (Below w.heap.size w w6) := hide (HB5.out.trans (hb6.mono HB5.out.size))
              clear hb6 HUF
              go_wp2_with fail
              go_ret
              exact ⟨rfl, HB6.out⟩
    · rw [HST.out] at hf; cases hf
    · exfalso
      rcases hun with ⟨h0, _⟩ | ⟨_, h1⟩
      · cases h0
      · exact h1 rs HOK.out rfl
  · obtain rfl := hno hE
    have e0 : (frE rs s == 0) = false := by simpa using hE
    clear hok hno hb2 HF
    generalize frE rs s = E at *
    go_wp2_with fail
    go_ret
    exact ⟨rfl, HB2.out⟩
end Go.Proofs.Yteckglnfkgfefaa
