/- Unframe: the batch of some sectors -/
import Derived.Test.YteckglnfkgfefaaJnT
namespace Go.Proofs.Yteckglnfkgfefaa
open Go.RowKit Cod
set_option maxRecDepth 40000
/-- a slice of slices of bytes reads as bs -/
def IsBB (w : World) (a : Option Addr) (len cap : Nat) (bs : List (List Nat)) : Prop :=
  bs.length = len ∧ len ≤ cap ∧ cap ≤ maxLen ∧ (len = 0 ∨ ∃ b off, a = some ⟨b, off, none⟩ ∧ b < w.heap.size ∧ ∀ i, i < len → ∃ a' l' c', w.cell? ⟨b, off + i, none⟩ = some (.slice a' l' c') ∧ IsB w a' l' c' (bs.getD i []))
theorem IsBB.below {w w1 : World} {a : Option Addr} {len cap : Nat} {bs : List (List Nat)} (h : IsBB w a len cap bs) (hb : Below w.heap.size w w1) : IsBB w1 a len cap bs := by
  obtain ⟨h1, h2, h3, h5⟩ := h
  refine ⟨h1, h2, h3, h5.imp id ?_⟩
  rintro ⟨b, off, rfl, hlt, hc⟩
  refine ⟨b, off, rfl, Nat.lt_of_lt_of_le hlt hb.size, fun i hi => ?_⟩
  obtain ⟨a', l', c', e, hI⟩ := hc i hi
  exact ⟨a', l', c', (hb.cell (p := ⟨b, off + i, none⟩) hlt).trans e, hI.below hb⟩
theorem pieceOf_all (w : World) (a : Option Addr) (len cap : Nat) (l : List Nat) (h : IsB w a len cap l) (s i n : Nat) (hs : s ≤ 4611686018427387904) (hi : i < n) (hn : n ≤ 4611686018427387904) :
    Calls Try.prog 39 #[.slice a len cap, .int .u64 (s : Nat), .int .i64 (i : Nat), .int .i64 (n : Nat)] w fun e w' =>
      ((∃ a' c', e = .returned (.tuple #[.slice a' (pieceL l).length c', .bool true]) ∧ Chk1 l s i n ∧ IsB w' a' (pieceL l).length c' (pieceL l)) ∨ (∃ v, e = .returned (.tuple #[v, .bool false]) ∧ ¬ Chk1 l s i n)) ∧ Below w.heap.size w w' := by
  by_cases h4 : len = 4096
  · rcases h.2.2.2.2 with ⟨h0, _⟩ | ⟨b, off, rfl, _⟩
    · omega
    · refine (pieceOf_any w b off len cap l h s i n hs hi hn).mono ?_
      rintro e w2 ⟨⟨rfl, hc⟩ | ⟨v, rfl, hc⟩, hb⟩
      · have h2 := hc.2.1
        have hl := hc.len.2
        refine ⟨.inl ⟨_, _, by rw [hl], hc, ?_⟩, hb⟩
        have := ((h.back 32 (by omega)).front (lenL l) (by omega)).below hb
        rw [hl] at this
        have e2 : (l.drop 32).take (pieceL l).length = pieceL l := by rw [← hl]; rfl
        rwa [e2] at this
      · exact ⟨.inr ⟨v, rfl, hc⟩, hb⟩
  · have d0 : ((len : Int) == 4096) = false := by simp; omega
    have HN : Hid (¬ Chk1 l s i n) := hide (fun hc => h4 (by rw [← h.1]; exact hc.len.1))
    clear h
    go_enter Try.func39, Try.ntmps39
    go_wp2_with fail
    go_ret2
    exact ⟨.inr ⟨_, rfl, HN.out⟩, Below.refl _ _⟩
theorem unL_take (bs : List (List Nat)) (j : Nat) (h : j < bs.length) : unL (bs.take (j + 1)) = unL (bs.take j) ++ pieceL (bs.getD j []) := by
  have : bs.take (j + 1) = bs.take j ++ [bs.getD j []] := by
    rw [List.take_add_one, List.getElem?_eq_getElem h, List.getD_eq_getElem?_getD, List.getElem?_eq_getElem h]; rfl
  rw [this, unL, List.map_append, List.flatten_append]
  simp [unL]
end Go.Proofs.Yteckglnfkgfefaa
