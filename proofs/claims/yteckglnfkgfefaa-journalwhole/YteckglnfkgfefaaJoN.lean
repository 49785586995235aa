/- the document's Same, SameBytes, SameAll, at like lists -/
import Derived.Test.YteckglnfkgfefaaJoJ
namespace Go.Proofs.Yteckglnfkgfefaa
open Go.RowKit Cod
set_option maxRecDepth 40000
set_option maxHeartbeats 1000000
set_option linter.unusedSimpArgs false
set_option linter.unusedVariables false
set_option maxHeartbeats 1000000 in
theorem sameT_any (a : Option Addr) (len cap : Nat) (T : List ByteArray) (a' : Option Addr) (cap' : Nat) (w : World) (h : IsT w a len cap T) (h' : IsT w a' len cap' T) :
    Calls Try.prog 16 #[.slice a len cap, .slice a' len cap'] w fun e w' => e = .returned (.bool true) ∧ Below w.heap.size w w' := by
  have HV := hide h
  have HV' := hide h'
  have hcap := h.2.1
  have hcm : cap ≤ 9223372036854775807 := h.2.2.1
  have hcap' := h'.2.1
  have hcm' : cap' ≤ 9223372036854775807 := h'.2.2.1
  clear h h'
  go_enter Try.func16, Try.ntmps16
  go_wp2
  go_loopw [13] (fun i wr => ∃ k : Nat, k ≤ len ∧ i = .int .i64 k ∧ Hid (Below w.heap.size w wr)) (fun i _ => len - (intOf i).toNat)
  case atStart => exact ⟨0, Nat.zero_le _, rfl, hide (Below.refl _ _)⟩
  case round =>
    obtain ⟨k, hk, rfl, HB⟩ := hrel
    by_cases hlt : k < len
    case neg =>
      obtain rfl : k = len := by omega
      go_wp2
      go_ret
      exact ⟨rfl, HB.out⟩
    case pos =>
      rcases (HV.out.below HB.out).2.2.2 with h0 | ⟨b, off, rfl, hbs, z0⟩
      · omega
      rcases (HV'.out.below HB.out).2.2.2 with h0 | ⟨b', off', rfl, hbs', y0⟩
      · omega
      have z0 := z0 k hlt
      have y0 := y0 k hlt
      generalize T.getD k ByteArray.empty = x at *
      have HBD : Hid (Below w.heap.size w wr.drew) := hide HB.out.drew
      have HS : Hid (wr.drew.cell? ⟨b, off + k, none⟩ = some (.string x) ∧ wr.drew.cell? ⟨b', off' + k, none⟩ = some (.string x)) := hide ⟨z0, y0⟩
      have hkc : (k : Int) < len := by omega
      have hk0 : (0 : Int) ≤ (k : Int) := by omega
      go_wp2_with fail
      go_region_held (fun W : World => W.cell? ⟨b, off + k, none⟩ = some (.string x) ∧ W.cell? ⟨b', off' + k, none⟩ = some (.string x)) (exact HS.out) (fail)
      go_wp2
      go_roundw
      case rel => exact ⟨k + 1, by omega, by simp, HBD⟩
      case measure => simp [intOf]; omega
/-- a slice of batches reads as l -/
def IsLL (w : World) (a : Option Addr) (len cap : Nat) (l : List (List ByteArray)) : Prop :=
  l.length = len ∧ len ≤ cap ∧ cap ≤ maxLen ∧ (len = 0 ∨ ∃ b off, a = some ⟨b, off, none⟩ ∧ b < w.heap.size ∧ ∀ i, i < len → ∃ u, w.cell? ⟨b, off + i, none⟩ = some u ∧ IsTT w u (l.getD i []))
theorem IsLL.below {w w1 : World} {a : Option Addr} {len cap : Nat} {l : List (List ByteArray)} (h : IsLL w a len cap l) (hb : Below w.heap.size w w1) : IsLL w1 a len cap l := by
  obtain ⟨h1, h2, h3, h5⟩ := h
  refine ⟨h1, h2, h3, h5.imp id ?_⟩
  rintro ⟨b, off, rfl, hlt, hc⟩
  refine ⟨b, off, rfl, Nat.lt_of_lt_of_le hlt hb.size, fun i hi => ?_⟩
  obtain ⟨u, e, hu⟩ := hc i hi
  exact ⟨u, (hb.cell (p := ⟨b, off + i, none⟩) hlt).trans e, hu.kept (K9.below hb)⟩
set_option maxHeartbeats 1000000 in
theorem sameLL_any (a : Option Addr) (len cap : Nat) (T : List (List ByteArray)) (a' : Option Addr) (cap' : Nat) (w : World) (h : IsLL w a len cap T) (h' : IsLL w a' len cap' T) :
    Calls Try.prog 27 #[.slice a len cap, .slice a' len cap'] w fun e w' => e = .returned (.bool true) ∧ Below w.heap.size w w' := by
  have HV := hide h
  have HV' := hide h'
  have hcap := h.2.1
  have hcm : cap ≤ 9223372036854775807 := h.2.2.1
  have hcap' := h'.2.1
  have hcm' : cap' ≤ 9223372036854775807 := h'.2.2.1
  clear h h'
  go_enter Try.func27, Try.ntmps27
  go_wp2
  go_loopw [13] (fun i wr => ∃ k : Nat, k ≤ len ∧ i = .int .i64 k ∧ Hid (Below w.heap.size w wr)) (fun i _ => len - (intOf i).toNat)
  case atStart => exact ⟨0, Nat.zero_le _, rfl, hide (Below.refl _ _)⟩
  case round =>
    obtain ⟨k, hk, rfl, HB⟩ := hrel
    by_cases hlt : k < len
    case neg =>
      obtain rfl : k = len := by omega
      go_wp2
      go_ret
      exact ⟨rfl, HB.out⟩
    case pos =>
      have HBD : Hid (Below w.heap.size w wr.drew) := hide HB.out.drew
      rcases (HV.out.below HBD.out).2.2.2 with h0 | ⟨b, off, rfl, hbs, z0⟩
      · omega
      rcases (HV'.out.below HBD.out).2.2.2 with h0 | ⟨b', off', rfl, hbs', y0⟩
      · omega
      obtain ⟨u1, z0, a1, c1, rfl, i0, _⟩ := z0 k hlt
      obtain ⟨u2, y0, a2, c2, rfl, i1, _⟩ := y0 k hlt
      have HC := hide (sameT_any a1 _ c1 _ a2 c2 wr.drew i0 i1)
      generalize (T.getD k []).length = n at *
      have HS : Hid (wr.drew.cell? ⟨b, off + k, none⟩ = some (.slice a1 n c1) ∧ wr.drew.cell? ⟨b', off' + k, none⟩ = some (.slice a2 n c2)) := hide ⟨z0, y0⟩
      have HSS : Hid (∀ W, Below wr.drew.heap.size wr.drew W → W.cell? ⟨b, off + k, none⟩ = some (.slice a1 n c1) ∧ W.cell? ⟨b', off' + k, none⟩ = some (.slice a2 n c2)) := hide (fun W hW => ⟨(hW.cell (p := ⟨b, off + k, none⟩) hbs).trans z0, (hW.cell (p := ⟨b', off' + k, none⟩) hbs').trans y0⟩)
      have hkc : (k : Int) < len := by omega
      have hk0 : (0 : Int) ≤ (k : Int) := by omega
      clear z0 y0 i0 i1
      go_wp2_with fail
      go_region_held (fun W : World => W.cell? ⟨b, off + k, none⟩ = some (.slice a1 n c1) ∧ W.cell? ⟨b', off' + k, none⟩ = some (.slice a2 n c2)) (first | with_reducible exact HS.out | with_reducible exact HSS.out _ HQ.out) (first | (go_at_call 16; with_reducible refine HC.out.mono ?_; rintro e w2 ⟨rfl, hb2⟩; have HQ := hide hb2; have HB2 : Hid (Below w.heap.size w w2) := hide (HBD.out.trans (hb2.mono HBD.out.size)); clear hb2))
      go_wp2
      go_roundw
      case rel => exact ⟨k + 1, by omega, by simp, HB2⟩
      case measure => simp [intOf]; omega
end Go.Proofs.Yteckglnfkgfefaa
