/- contracts: Open -/
import Derived.Test.YtmfdcbbeieelfaaD
import Derived.Deep.QuietTactic
import Derived.BigQuiet
namespace Go.Proofs.Ytmfdcbbeieelfaa
open Go.RowKit
theorem open_short (a : Option Addr) (len cap : Nat) (hl : len < 4) (w : World) :
    Calls Try.prog 19 #[.slice a len cap] w fun e w' => e = .returned (.tuple #[.slice none 0 0, .int .i64 6]) ∧ w' = w := by
  have h4 : (len : Int) < 4 := by omega
  go_enter Try.func19, Try.ntmps19
  go_wp2
  go_ret2
  exact ⟨rfl, rfl⟩
theorem IsB.front {w : World} {b off len cap : Nat} {l : List Nat} (h : IsB w (some ⟨b, off, none⟩) len cap l) (n : Nat) (hn : n ≤ len) : IsB w (some ⟨b, off, none⟩) n cap (l.take n) := by
  obtain ⟨h1, h2, h3, h4, h5⟩ := h
  refine ⟨by simp; omega, by omega, h3, mem_take h4, ?_⟩
  rcases h5 with ⟨h5, _⟩ | ⟨b', off', e, hlt, hc⟩
  · exact .inl ⟨by omega, by intro h; cases h⟩
  · cases e
    refine .inr ⟨b, off, rfl, hlt, fun i hi => ?_⟩
    rw [hc i (by omega)]
    simp [List.getD_eq_getElem?_getD, hi]
theorem IsB.src {w : World} {b off len cap : Nat} {l : List Nat} (h : IsB w (some ⟨b, off, none⟩) len cap l) : ∀ j u, (bv l)[j]? = some u → w.cell? ((⟨b, off, none⟩ : Addr).add j) = some u := by
  obtain ⟨h1, h2, h3, h4, h5⟩ := h
  intro j u hj
  have hjl : j < l.length := by
    rw [← bv_length]
    exact (List.getElem?_eq_some_iff.1 hj).1
  rw [bv_get l j hjl] at hj
  cases hj
  rcases h5 with ⟨h5, _⟩ | ⟨b', off', e, hlt, hc⟩
  · omega
  · cases e
    rw [addr_add]
    exact hc j (by omega)
theorem end_eq (l : List Nat) (n c : Nat) (hl : l.length = n + 4) : l.drop n = le c ↔ ∀ j, j < 4 → l.getD (n + j) 0 = c / 2 ^ (8 * j) % 256 := by
  constructor
  · intro h j hj
    have e : (l.drop n).getD j 0 = (le c).getD j 0 := by rw [h]
    rw [getD_le, if_pos hj] at e
    rw [← e]; simp [List.getD_eq_getElem?_getD, List.getElem?_drop]
  · intro h
    apply List.ext_getElem?
    intro j
    by_cases hj : j < 4
    · have h1 : j < (le c).length := by simp [le]; omega
      have h2 : j < (l.drop n).length := by simp; omega
      have e := h j hj
      rw [← if_pos (c := j < 4) hj (t := c / 2 ^ (8 * j) % 256) (e := 0), ← getD_le] at e
      rw [List.getElem?_eq_getElem h1, List.getElem?_eq_getElem h2]
      rw [List.getD_eq_getElem?_getD, List.getD_eq_getElem?_getD, List.getElem?_eq_getElem h1] at e
      have h3 : n + j < l.length := by omega
      rw [List.getElem?_eq_getElem h3] at e
      simp at e
      simp [e]
    · rw [List.getElem?_eq_none (by simp; omega), List.getElem?_eq_none (by simp [le]; omega)]
set_option maxHeartbeats 400000 in
theorem open_any (b off len cap : Nat) (l : List Nat) (w : World) (h : IsB w (some ⟨b, off, none⟩) len cap l) (hr : len ≤ 140737488355328) (hl4 : 4 ≤ len) :
    Calls Try.prog 19 #[.slice (some ⟨b, off, none⟩) len cap] w fun e w' =>
      ((l.drop (len - 4) = le (Crc.update 0 (l.take (len - 4))) ∧ ∃ v, e = .returned (.tuple #[v, .int .i64 0]) ∧ w'.ownsRow w.heap.size 5 1 v (len - 4) (bv (l.take (len - 4)))) ∨
       (l.drop (len - 4) ≠ le (Crc.update 0 (l.take (len - 4))) ∧ e = .returned (.tuple #[.slice none 0 0, .int .i64 6]))) ∧ Below w.heap.size w w' := by
  have hcl : len ≤ cap := h.2.1
  have hcm : cap ≤ 9223372036854775807 := h.2.2.1
  have h4 : (4 : Int) ≤ (len : Int) := by omega
  have h4' : ¬ (len : Int) < 4 := by omega
  obtain ⟨n, rfl⟩ : ∃ n, len = n + 4 := ⟨len - 4, by omega⟩
  have e0 : n + 4 - 4 = n := by omega
  rw [e0]
  have hfr := h.front n (by omega)
  obtain ⟨b', off', hbe, hlt, hcell⟩ := h.2.2.2.2.resolve_left (by omega)
  cases hbe
  have hdec : decide ((n : Int) + 4 < 4) = false := by simp; omega
  have HE : Hid (l.drop n = le (Crc.update 0 (l.take n)) ↔ ∀ j, j < 4 → l.getD (n + j) 0 = (Crc.update 0 (l.take n)) / 2 ^ (8 * j) % 256) := hide (end_eq l n _ h.1)
  obtain ⟨i0, hi, hz0, hz1, hz2⟩ := info_parts Try.info5
  have hn : Hid ((l.take n).length = n) := hfr.1
  go_enter Try.func19, Try.ntmps19
  go_wp2
  go_quiet (fail)
  go_wp2_with fail
  refine (of_any _ n cap (l.take n) _ (hfr.below (below_drewN (Below.refl _ _) nq))).mono ?_
  rintro e w1 ⟨rfl, hb1⟩
  have hb2 : Below w.heap.size w w1 := (below_drewN (Below.refl _ _) nq).trans hb1
  clear hb1
  go_wp2_with fail
  generalize hcu : Crc.update 0 (l.take n) = c at *
  have Hcu := hide hcu
  clear hcu h4 h4' h hl4
  go_loopw [7, 23] (fun _ i wr => ∃ k : Nat, k ≤ 4 ∧ i = .int .i64 k ∧ (∀ j, j < k → Hid (l.getD (n + j) 0 = c / 2 ^ (8 * j) % 256)) ∧ Below w.heap.size w wr) (fun _ i _ => 4 - (intOf i).toNat)
  case atStart => exact ⟨0, by omega, rfl, fun j hj => absurd hj (by omega), hb2⟩
  case round =>
    obtain ⟨k, hk, rfl, hgood, hb⟩ := hrel
    clear hb2
    by_cases hlt4 : k < 4
    · have hcx : wr.cell? ⟨b, off + n + k, none⟩ = some (.int .u8 (l.getD (n + k) 0 : Nat)) := by
        have := hcell (n + k) (by omega)
        rw [← Nat.add_assoc] at this
        exact (hb.cell (p := ⟨b, off + n + k, none⟩) hlt).trans this
      by_cases hxy : l.getD (n + k) 0 = c / 2 ^ (8 * k) % 256
      · have hne : (((l.getD (n + k) 0 : Nat) : Int) != (c : Int) / 2 ^ (8 * k) % 256) = false := by rw [hxy]; simp
        have HG1 : Hid (∀ j, j < k + 1 → Hid (l.getD (n + j) 0 = c / 2 ^ (8 * j) % 256)) := hide (fun j hj => by
          by_cases e : j = k
          · subst e; exact hxy
          · exact hgood j (by omega))
        clear hxy hcell hgood
        generalize hG : l.getD (n + k) 0 = x at *
        clear hG
        go_wp2
        go_quiet (fail)
        go_wp2
        go_roundw
        case rel => exact ⟨k + 1, by omega, by go_num, HG1.out, below_drewN hb nq⟩
        case measure => simp [intOf]; omega
      · have hne : (((l.getD (n + k) 0 : Nat) : Int) != (c : Int) / 2 ^ (8 * k) % 256) = true := by
          simp only [bne_iff_ne, ne_eq]; intro h0; apply hxy; exact Int.ofNat.inj (h0.trans (by simp))
        have HN : Hid (¬ (l.drop n = le c)) := hide (fun h0 => hxy (HE.out.1 h0 k hlt4))
        clear hxy hcell hgood
        generalize hG : l.getD (n + k) 0 = x at *
        clear hG
        go_wp2
        go_quiet (fail)
        go_wp2
        go_ret2
        exact ⟨.inr ⟨by rw [Hcu.out]; exact HN.out, rfl⟩, below_drewN hb nq⟩
    · obtain rfl : k = 4 := by omega
      have HY : Hid (l.drop n = le c) := hide (HE.out.2 (fun j hj => hgood j hj))
      have hsrc := (hfr.below hb)
      have hz := hb.size
      clear hgood hcell
      go_wp2_with (at_builtin; refine wpList_append_own _ rfl _ _ 23 rfl w.heap.size 5 i0 (.int .u8 0) 1 1 Try.underlying23 hi hz0 hz1 hz2 rfl (by decide) _ 0 [] rfl (World.ownsRow_nil _ _ _ _) ⟨b, off, none⟩ n cap (bv (l.take n)) rfl ?c0 ?c1 (bv_one _) ?c3 ?c4 ?c5 ?_)
      case c0 => rw [bv_length, hn.out]; omega
      case c1 => exact hsrc.src
      case c3 => unfold maxLen; omega
      case c4 => omega
      case c5 => exact hz
      intro v' w2 hown' hgrow _
      have hown2 : w2.ownsRow w.heap.size 5 1 v' n (bv (l.take n)) := by simpa using hown'
      have hb3 : Below w.heap.size w w2 := hb.grown hgrow hz (by intro k hk; cases hk)
      clear hown' hgrow
      go_wp2
      go_ret2
      exact ⟨.inl ⟨by rw [Hcu.out]; exact HY.out, _, rfl, hown2⟩, hb3⟩
end Go.Proofs.Ytmfdcbbeieelfaa
