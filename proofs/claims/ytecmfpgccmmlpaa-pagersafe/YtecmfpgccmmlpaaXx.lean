/- contracts: fates -/
import Derived.Test.YtecmfpgccmmlpaaSx
namespace Go.Proofs.Ytecmfpgccmmlpaa
open Go.RowKit
/-- fates in memory: kind and mask -/
def IsF (w : World) (a : Option Addr) (len cap : Nat) (l : List (Nat × Nat)) : Prop :=
  l.length = len ∧ len ≤ cap ∧ cap ≤ maxLen ∧ (∀ x ∈ l, x.1 < 256 ∧ x.2 < 256) ∧ ∀ i, i < len → ∃ b off, a = some ⟨b, off, none⟩ ∧ b < w.heap.size ∧ w.cell? ⟨b, off + i * 2, none⟩ = some (.int .u8 ((l.getD i (0, 0)).1 : Nat)) ∧ w.cell? ⟨b, off + i * 2 + 1, none⟩ = some (.int .u8 ((l.getD i (0, 0)).2 : Nat))
theorem IsF.below {w w' : World} {a : Option Addr} {len cap : Nat} {l : List (Nat × Nat)} (h : IsF w a len cap l) (hb : Below w.heap.size w w') : IsF w' a len cap l := by
  refine ⟨h.1, h.2.1, h.2.2.1, h.2.2.2.1, fun i hi => ?_⟩
  obtain ⟨b, off, e, hlt, h1, h2⟩ := h.2.2.2.2 i hi
  exact ⟨b, off, e, Nat.lt_of_lt_of_le hlt hb.size, (World.cell?_of_block (hb.block b hlt)).trans h1, (World.cell?_of_block (hb.block b hlt)).trans h2⟩
/-- what a sector is that is kept -/
theorem out_keep (w : World) (m : Nat) (a a' : Option Addr) (len cap len' cap' : Nat) :
    Calls Try.prog 54 #[.agg #[.int .u8 1, .int .u8 (m : Nat)], .slice a len cap, .slice a' len' cap'] w fun e w' => e = .returned (.slice a' len' cap') ∧ Below w.heap.size w w' := by
  have HB := hide (fun o : Obj => (Below.refl w.heap.size w).alloc (Nat.le_refl _) o)
  go_enter Try.func54, Try.ntmps54
  go_wp2
  go_ret
  exact ⟨rfl, HB.out _⟩
theorem fates_many (w : World) (a : Option Addr) (len cap : Nat) (h : 1024 < len) : Calls Try.prog 52 #[.slice a len cap] w fun e w' => e = .returned (.int .i64 3) ∧ w' = w := by
  go_enter Try.func52, Try.ntmps52
  go_wp2
  go_ret
  exact ⟨rfl, rfl⟩
/-- fates that are good ones -/
def GoodF (l : List (Nat × Nat)) : Prop := ∀ x ∈ l, x.1 < 3
set_option maxHeartbeats 1000000 in
/-- areFates -/
theorem fates_any (w : World) (a : Option Addr) (len cap : Nat) (l : List (Nat × Nat)) (h : IsF w a len cap l) (hl : len ≤ 1024) :
    Calls Try.prog 52 #[.slice a len cap] w fun e w' => ((e = .returned (.int .i64 0) ∧ GoodF l) ∨ (e = .returned (.int .i64 15) ∧ ¬ GoodF l)) ∧ Below w.heap.size w w' := by
  have H := hide h
  have hcap := h.2.1
  have HLN := hide h.1
  clear h
  go_enter Try.func52, Try.ntmps52
  go_wp2_with fail
  go_loopw [10] (fun i wr => ∃ k : Nat, k ≤ len ∧ i = .int .i64 k ∧ Hid (∀ j, j < k → (l.getD j (0, 0)).1 < 3) ∧ Hid (Below w.heap.size w wr)) (fun i _ => len - (intOf i).toNat)
  case atStart => exact ⟨0, Nat.zero_le _, rfl, hide (fun j hj => by omega), hide (Below.refl _ _)⟩
  case round =>
    obtain ⟨k, hk, rfl, HA, HB⟩ := hrel
    by_cases hkL : k = len
    · subst hkL
      have HE : Hid (GoodF l) := hide (by
        intro x hx
        obtain ⟨j, hj, rfl⟩ := List.mem_iff_getElem.1 hx
        have := HA.out j (by have := HLN.out; omega)
        rw [List.getD_eq_getElem?_getD, List.getElem?_eq_getElem hj] at this
        exact this)
      go_wp2
      go_ret
      exact ⟨.inl ⟨rfl, HE.out⟩, HB.out⟩
    · have hlt : k < len := by omega
      obtain ⟨b, off, rfl, hbl, c0, c1⟩ := (H.out.below HB.out).2.2.2.2 k hlt
      generalize hx : l.getD k (0, 0) = x at *
      obtain ⟨x1, x2⟩ := x
      have HX := hide hx
      clear hx
      by_cases h3 : x1 < 3
      · have HN : Hid (∀ j, j < k + 1 → (l.getD j (0, 0)).1 < 3) := hide (fun j hj => by
          by_cases e : j = k
          · subst e; rw [HX.out]; exact h3
          · exact HA.out j (by omega))
        have d3 : decide ((3 : Int) ≤ (x1 : Int)) = false := decide_eq_false (by omega)
        have HBN := hide (fun o : Obj => HB.out.trans (((Below.refl wr.heap.size wr).alloc (Nat.le_refl _) o).mono HB.out.size))
        go_wp2
        go_roundw
        case rel => exact ⟨k + 1, by omega, by simp, HN, hide (HBN.out _)⟩
        case measure => simp [intOf]; omega
      · have HN : Hid (¬ GoodF l) := hide (fun hall => by
          have hm : (x1, x2) ∈ l := by
            have hkl : k < l.length := by have := HLN.out; omega
            rw [← HX.out, List.getD_eq_getElem?_getD, List.getElem?_eq_getElem hkl]
            exact List.getElem_mem hkl
          exact h3 (hall _ hm))
        have d3 : decide ((3 : Int) ≤ (x1 : Int)) = true := decide_eq_true (by omega)
        have HBN := hide (fun o : Obj => HB.out.trans (((Below.refl wr.heap.size wr).alloc (Nat.le_refl _) o).mono HB.out.size))
        go_wp2
        go_ret
        exact ⟨.inr ⟨rfl, HN.out⟩, HBN.out _⟩
end Go.Proofs.Ytecmfpgccmmlpaa
