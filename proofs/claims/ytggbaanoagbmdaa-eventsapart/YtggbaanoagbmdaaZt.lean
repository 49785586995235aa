/- strings that are alike -/
import Derived.Test.YtggbaanoagbmdaaZs
import Derived.Test.YtggbaanoagbmdaaL
namespace Go.Proofs.Ytggbaanoagbmdaa
open Go.RowKit Go.Maps Go.Sort
/-- names as strings -/
def bys (r : List (List UInt8)) : List ByteArray := r.map (fun x => ⟨x.toArray⟩)
theorem bys_enc (r : List (List UInt8)) : r.map encStr = (bys r).map Value.string := by simp [bys]
theorem own_isT {w : World} {base : Nat} {v : Value} {n : Nat} {T : List ByteArray} (hl : T.length = n) (ho : ∀ x ∈ T, x.size ≤ maxLen) (h : w.ownsRow base 9 1 v n (T.map Value.string)) : ∃ a cap, v = .slice a n cap ∧ IsT w a n cap T := by
  rcases h.2 with ⟨rfl, rfl⟩ | ⟨g, cap, cur, rfl, hb, hg, hn, hm, hs, ht⟩
  · exact ⟨none, 0, rfl, ⟨hl, Nat.le_refl _, Nat.zero_le _, ho, fun i hi => by omega⟩⟩
  · have hlt : g < w.heap.size := by
      by_cases hlt : g < w.heap.size
      · exact hlt
      · rw [Array.getElem?_eq_none (by omega)] at hg; cases hg
    refine ⟨_, cap, rfl, ⟨hl, hn, hm, ho, fun i hi => ⟨g, 0, rfl, hlt, ?_⟩⟩⟩
    have h1 := World.ownsRow.cells h (g := g) rfl i (.string (T.getD i ⟨#[]⟩)) (by
      rw [List.getElem?_map, List.getD_eq_getElem?_getD, List.getElem?_eq_getElem (by omega)]; rfl)
    rw [Addr.add_lit] at h1
    exact h1
set_option maxRecDepth 40000 in
set_option maxHeartbeats 1000000 in
/-- the document's Same of layer 5, at like lists -/
theorem sameT_any (a : Option Addr) (len cap : Nat) (T : List ByteArray) (a' : Option Addr) (cap' : Nat) (w : World) (h : IsT w a len cap T) (h' : IsT w a' len cap' T) :
    Calls Try.prog 24 #[.slice a len cap, .slice a' len cap'] w fun e w' => e = .returned (.bool true) ∧ Below w.heap.size w w' := by
  have HV := hide h
  have HV' := hide h'
  have hcap := h.2.1
  have hcm : cap ≤ 9223372036854775807 := h.2.2.1
  have hcap' := h'.2.1
  have hcm' : cap' ≤ 9223372036854775807 := h'.2.2.1
  clear h h'
  go_enter Try.func24, Try.ntmps24
  go_wp2
  go_loopw [13] (fun i wr => ∃ k : Nat, k ≤ len ∧ i = .int .i64 k ∧ Hid (Below w.heap.size w wr)) (fun i _ => len - (intOf i).toNat)
  case atStart => exact ⟨0, Nat.zero_le _, rfl, hide (Below.refl _ _)⟩
  case round =>
    obtain ⟨k, hk, rfl, HB⟩ := hrel
    by_cases hlt : k < len
    case neg =>
      obtain rfl : k = len := by omega
      go_wp2
      go_ret
      exact ⟨rfl, HB.out⟩
    case pos =>
      obtain ⟨b, off, rfl, hbs, z0⟩ := (HV.out.below' HB.out).2.2.2.2 k hlt
      obtain ⟨b', off', rfl, hbs', y0⟩ := (HV'.out.below' HB.out).2.2.2.2 k hlt
      generalize T.getD k ⟨#[]⟩ = x at *
      have HBD : Hid (Below w.heap.size w wr.drew) := hide HB.out.drew
      have HS : Hid (wr.drew.cell? ⟨b, off + k, none⟩ = some (.string x) ∧ wr.drew.cell? ⟨b', off' + k, none⟩ = some (.string x)) := hide ⟨z0, y0⟩
      have hkc : (k : Int) < len := by omega
      have hk0 : (0 : Int) ≤ (k : Int) := by omega
      have hwr3 : IntKind.i64.wrap ((k : Int) + 1) = (k : Int) + 1 := wrap_nat _ (by omega)
      go_wp2_with fail
      go_region_held (fun W : World => W.cell? ⟨b, off + k, none⟩ = some (.string x) ∧ W.cell? ⟨b', off' + k, none⟩ = some (.string x)) (exact HS.out) (fail)
      go_wp2
      go_roundw
      case rel => exact ⟨k + 1, by omega, by simp, HBD⟩
      case measure => simp [intOf]; omega
end Go.Proofs.Ytggbaanoagbmdaa
