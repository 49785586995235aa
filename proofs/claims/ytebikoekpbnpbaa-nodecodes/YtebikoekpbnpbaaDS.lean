/- the document's kid, entry -/
import Derived.Test.YtebikoekpbnpbaaDJ
namespace Go.Proofs.Ytebikoekpbnpbaa
open Go.RowKit Cod
set_option maxRecDepth 100000
set_option linter.unusedVariables false
set_option linter.unusedSimpArgs false
/-- a row of one's own, as bytes that are new -/
theorem own_new {w : World} {B n : Nat} {v : Value} {l : List Nat} (h : w.ownsRow B 5 1 v n (bv l)) (hl : ∀ x ∈ l, x < 256) : ∃ a c, v = .slice a n c ∧ IsB w a n c l ∧ NewB w B a ∧ (a = none ∨ ∃ b, a = some ⟨b, 0, none⟩) := by
  obtain ⟨a, c, e, hI⟩ := owns_isB h hl
  refine ⟨a, c, e, hI, fun b off e2 => ?_, ?_⟩
  · rcases h.2 with ⟨e3, _⟩ | ⟨g, cap, cur, e3, hb, hg, _⟩
    · rw [e3] at e
      cases e
      cases e2
    · rw [e3] at e
      cases e
      cases e2
      exact ⟨hb, cur, _, hg⟩
  · rcases h.2 with ⟨e3, _⟩ | ⟨g, cap, cur, e3, _⟩
    · rw [e3] at e
      cases e
      exact .inl rfl
    · rw [e3] at e
      cases e
      exact .inr ⟨g, rfl⟩
/-- what kid answers -/
def Kid73 (R : List Nat) (w : World) (e : Ending) (w' : World) : Prop :=
  ((∃ (m : Nat) (a : Option Addr) (c : Nat) (R' : List Nat), rdNum R = some (m, R') ∧ m ≤ 1023 ∧ e = .returned (.tuple #[.int .i64 (m : Nat), .slice a R'.length c, .bool true]) ∧ IsB w' a R'.length c R' ∧ NewB w' w.heap.size a) ∨
   ((∀ m R', rdNum R = some (m, R') → 1023 < m) ∧ ∃ z v, e = .returned (.tuple #[.int .i64 z, v, .bool false]))) ∧ Below w.heap.size w w'
set_option maxHeartbeats 2000000 in
/-- ladingref06.kid -/
theorem kid73 (a : Option Addr) (n c : Nat) (R : List Nat) (w : World) (h : IsB w a n c R) (hf : R.length ≤ 4096) : Calls Try.prog 73 #[.slice a n c] w fun e w' => Kid73 R w e w' := by
  have HN := hide (refReadNum_any a n c R w h (by have := h.1; omega))
  have HL := hide h.2.2.2.1
  have HLN := hide h.1
  clear h
  go_enter Try.func73, Try.ntmps73
  go_wp2_with fail
  refine HN.out.mono ?_
  rintro e w1 ⟨(⟨m, p', v, hn, hm, hp, rfl, hown⟩ | ⟨hn, rfl⟩), hb⟩
  case inl =>
    obtain ⟨a', c', rfl, hI, hNB, _⟩ := own_new hown (mem_drop HL.out)
    have hlen : n - p' = (R.drop p').length := by rw [List.length_drop, HLN.out]
    rw [hlen] at hI ⊢
    have hrem : ((m : Int)).tmod 4096 = ((m % 4096 : Nat) : Int) := by rw [Int.tmod_eq_emod_of_nonneg (by omega)]; rfl
    have hw1 : IntKind.i64.wrap ((m % 4096 : Nat) : Int) = ((m % 4096 : Nat) : Int) := wrapN (by omega) (by omega)
    have hw2 : IntKind.u64.wrap ((m % 4096 : Nat) : Int) = ((m % 4096 : Nat) : Int) := by rw [IntKind.wrap_u64]; omega
    by_cases hk : m ≤ 1023
    · have hd : decide ((m : Int) ≤ 1023) = true := decide_eq_true (by omega)
      have hd2 : (m : Int) ≤ 1023 := by omega
      have HFI : Hid (Kid73 R w (.returned (.tuple #[.int .i64 ((m : Int) % 4096), .slice a' (R.length - p') c', .bool true])) w1) := hide (by
        rw [show (m : Int) % 4096 = (m : Int) by omega, ← List.length_drop]
        exact ⟨.inl ⟨m, a', c', _, hn, hk, rfl, hI, hNB⟩, hb⟩)
      clear hn hm hp hown hb hI hNB hlen HN
      go_wp2
      go_ret3
      exact HFI.out
    · have hd : decide ((m : Int) ≤ 1023) = false := decide_eq_false (by omega)
      have hd2 : ¬ (m : Int) ≤ 1023 := by omega
      have HFI : Hid (Kid73 R w (.returned (.tuple #[.int .i64 ((m : Int) % 4096), .slice a' (R.length - p') c', .bool false])) w1) := hide ⟨.inr ⟨fun m' R' e => by rw [hn] at e; cases e; omega, _, _, rfl⟩, hb⟩
      clear hn hm hp hown hb hI hNB hlen HN
      go_wp2
      go_ret3
      exact HFI.out
  case inr =>
    have HFI : Hid (Kid73 R w (.returned (.tuple #[.int .i64 0, .slice none 0 0, .bool false])) w1) := hide ⟨.inr ⟨fun m' R' e => (by rw [hn] at e; cases e), _, _, rfl⟩, hb⟩
    clear hn hb HN
    go_wp2
    go_ret3
    exact HFI.out
/-- what entry answers -/
def Ent74 (most : Nat) (R : List Nat) (w : World) (e : Ending) (w' : World) : Prop :=
  ((∃ (s R' : List Nat) (a1 : Option Addr) (c1 : Nat) (a2 : Option Addr) (c2 : Nat), rdText most R = .ok (s, R') ∧ e = .returned (.tuple #[.slice a1 s.length c1, .slice a2 R'.length c2, .bool true]) ∧ IsB w' a1 s.length c1 s ∧ NewB w' w.heap.size a1 ∧ IsB w' a2 R'.length c2 R' ∧ NewB w' w.heap.size a2) ∨
   ((∃ k, rdText most R = .error k) ∧ e = .returned (.tuple #[.slice none 0 0, .slice none 0 0, .bool false]))) ∧ Below w.heap.size w w'
theorem ent_ok {most : Nat} {R L : List Nat} {w w' : World} {m b ln c' : Nat} (hok : rdText most R = .ok (L.take m, L.drop m)) (hI : IsB w' (some ⟨b, 0, none⟩) ln c' L) (hN : NewB w' w.heap.size (some ⟨b, 0, none⟩)) (hm : m ≤ ln) (hb : Below w.heap.size w w') (o2 : Nat) (ho : o2 = m ∨ o2 = 0 ∧ c' = m) :
    Ent74 most R w (.returned (.tuple #[.slice (some ⟨b, 0, none⟩) m c', .slice (some ⟨b, o2, none⟩) (ln - m) (c' - m), .bool true])) w' := by
  have e1 : (L.take m).length = m := by rw [List.length_take, hI.1]; omega
  have e2 : (L.drop m).length = ln - m := by rw [List.length_drop, hI.1]
  have hN2 : NewB w' w.heap.size (some ⟨b, o2, none⟩) := fun b' off' e => by
    cases e
    exact hN b 0 rfl
  refine ⟨.inl ⟨L.take m, L.drop m, some ⟨b, 0, none⟩, c', some ⟨b, o2, none⟩, c' - m, hok, by rw [e1, e2], by rw [e1]; exact IsB.front hI m hm, hN, ?_, hN2⟩, hb⟩
  rw [e2]
  rcases ho with rfl | ⟨rfl, h2⟩
  · have := IsB.back hI o2 hm
    rwa [Nat.zero_add] at this
  · have hlc := hI.2.1
    exact ⟨e2, by omega, Nat.le_trans (Nat.sub_le _ _) hI.2.2.1, mem_drop hI.2.2.2.1, .inl ⟨by omega, nofun⟩⟩
theorem ent_nil {most : Nat} {R : List Nat} {w w' : World} (hok : rdText most R = .ok ([], [])) (hb : Below w.heap.size w w') : Ent74 most R w (.returned (.tuple #[.slice none 0 0, .slice none 0 0, .bool true])) w' :=
  ⟨.inl ⟨[], [], none, 0, none, 0, hok, rfl, isB_nil _, nofun, isB_nil _, nofun⟩, hb⟩
set_option maxHeartbeats 4000000 in
/-- ladingref06.entry -/
theorem entry74 (most : Nat) (hmost : most ≤ 1024) (a : Option Addr) (n c : Nat) (R : List Nat) (w : World) (h : IsB w a n c R) (hf : R.length ≤ 4096) : Calls Try.prog 74 #[.slice a n c, .int .i64 (most : Nat)] w fun e w' => Ent74 most R w e w' := by
  have HN := hide (refReadNum_any a n c R w h (by have := h.1; omega))
  have HL := hide h.2.2.2.1
  have HLN := hide h.1
  have hwm : IntKind.u64.wrap (most : Int) = (most : Int) := by rw [IntKind.wrap_u64]; omega
  clear h
  go_enter Try.func74, Try.ntmps74
  go_wp2_with fail
  refine HN.out.mono ?_
  rintro e w1 ⟨(⟨m, p', v, hn, hm, hp, rfl, hown⟩ | ⟨hn, rfl⟩), hb⟩
  case inr =>
    have HFI : Hid (Ent74 most R w (.returned (.tuple #[.slice none 0 0, .slice none 0 0, .bool false])) w1) := hide ⟨.inr ⟨⟨6, by unfold rdText; rw [hn]⟩, rfl⟩, hb⟩
    clear hn hb HN
    go_wp2
    go_ret3
    exact HFI.out
  case inl =>
  obtain ⟨a', c', rfl, hI, hNB, hab⟩ := own_new hown (mem_drop HL.out)
  obtain ⟨ln, hln'⟩ : ∃ ln, ln = n - p' := ⟨_, rfl⟩
  rw [← hln'] at hI ⊢
  have hln : (R.drop p').length = ln := by rw [List.length_drop, HLN.out]; exact hln'.symm
  obtain ⟨L, hL⟩ : ∃ L, L = R.drop p' := ⟨_, rfl⟩
  rw [← hL] at hI hn hln
  have hlr : ln ≤ 4096 := by rw [← hln, hL, List.length_drop]; omega
  clear hL hln'
  have hwl : IntKind.u64.wrap (ln : Int) = (ln : Int) := by rw [IntKind.wrap_u64]; omega
  have hc1 : ln ≤ c' := hI.2.1
  have hc2 : c' ≤ 9223372036854775807 := hI.2.2.1
  by_cases h1 : most < m
  · have hd1 : (most : Int) < (m : Int) := by omega
    have HFI : Hid (Ent74 most R w (.returned (.tuple #[.slice none 0 0, .slice none 0 0, .bool false])) w1) := hide ⟨.inr ⟨⟨4, by unfold rdText; rw [hn]; simp only; rw [if_pos h1]⟩, rfl⟩, hb⟩
    clear hn hb HN hI hNB hab hown
    go_wp2
    go_ret3
    exact HFI.out
  by_cases h2 : ln < m
  · have hd1 : ¬ (most : Int) < (m : Int) := by omega
    have hd2 : (ln : Int) < (m : Int) := by omega
    have HFI : Hid (Ent74 most R w (.returned (.tuple #[.slice none 0 0, .slice none 0 0, .bool false])) w1) := hide ⟨.inr ⟨⟨6, by unfold rdText; rw [hn]; simp only; rw [if_neg h1, if_pos (by rw [hln]; exact h2)]⟩, rfl⟩, hb⟩
    clear hn hb HN hI hNB hab hown
    go_wp2
    go_ret3
    exact HFI.out
  have HOK : Hid (rdText most R = .ok (L.take m, L.drop m)) := hide (by unfold rdText; rw [hn]; simp only; rw [if_neg h1, if_neg (by rw [hln]; exact h2)])
  have hd1 : ¬ (most : Int) < (m : Int) := by omega
  have hd2 : ¬ (ln : Int) < (m : Int) := by omega
  have hd3 : m ≤ c' := by omega
  have hd4 : m ≤ ln := by omega
  have hd5 : (m : Int) ≤ (c' : Int) := by omega
  have hd6 : (m : Int) ≤ (ln : Int) := by omega
  have hd7 : (ln : Int) ≤ (c' : Int) := by omega
  have HT1 : Hid ((L.take m).length = m ∧ (L.drop m).length = ln - m) := hide (by rw [List.length_take, List.length_drop]; omega)
  have HII := hide hI
  have HNN := hide hNB
  have HBB := hide hb
  have hm63 : (m : Int) ≤ 9223372036854775807 := by omega
  clear hI hNB hb hn HN hown h1 h2 hln
  rcases hab with rfl | ⟨b, rfl⟩
  · have hl0 : ln = 0 := by
      rcases HII.out.2.2.2.2 with ⟨e, _⟩ | ⟨b, off, e, _⟩
      · exact e
      · cases e
    have hc0 : c' = 0 := by
      rcases HII.out.2.2.2.2 with ⟨_, e⟩ | ⟨b, off, e, _⟩
      · exact e rfl
      · cases e
    have hm0 : m = 0 := by omega
    subst hm0
    have hL0 : L = [] := List.length_eq_zero_iff.1 (by rw [HII.out.1]; exact hl0)
    have HFI : Hid (∀ k, Ent74 most R w (.returned (.tuple #[.slice none 0 0, .slice none 0 0, .bool true])) (w1.drewN k)) := hide (fun k => ent_nil (by have := HOK.out; rw [hL0] at this; exact this) (HBB.out.trans ((below_drewN k).mono HBB.out.size)))
    have hmz : ¬ (most : Int) < 0 := by omega
    have hmz2 : decide ((most : Int) < 0) = false := decide_eq_false hmz
    have hmz3 : ¬ most < 0 := by omega
    have hmz4 : decide (most < 0) = false := decide_eq_false hmz3
    subst hl0 hc0
    clear hL0
    go_wp2
    go_quiet (fail)
    go_wp2
    go_ret3
    exact HFI.out nq
  · have HFI : Hid (∀ k o2, (o2 = m ∨ o2 = 0 ∧ c' = m) → Ent74 most R w (.returned (.tuple #[.slice (some ⟨b, 0, none⟩) m c', .slice (some ⟨b, o2, none⟩) (ln - m) (c' - m), .bool true])) (w1.drewN k)) := hide (fun k o2 ho => ent_ok HOK.out (HII.out.below (below_drewN k)) (HNN.out.below (below_drewN k)) hd4 (HBB.out.trans ((below_drewN k).mono HBB.out.size)) o2 ho)
    by_cases hcm : c' = m
    · have hcm0 : c' - m = 0 := by omega
      have hlm0 : ln - m = 0 := by omega
      subst hcm
      go_wp2
      go_quiet (fail)
      go_wp2
      go_ret3
      have h9 := HFI.out nq 0 (.inr ⟨rfl, by first | trivial | rfl⟩)
      rw [show ln - c' = 0 by omega, Nat.sub_self] at h9
      exact h9
    · have hcm1 : ¬ c' ≤ m := by omega
      go_wp2
      go_quiet (fail)
      go_wp2
      go_ret3
      exact HFI.out nq m (.inl rfl)
end Go.Proofs.Ytebikoekpbnpbaa
