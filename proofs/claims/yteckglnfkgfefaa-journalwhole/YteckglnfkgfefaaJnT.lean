/- bytes.Equal; pieceOf: a sector's piece, if the sector is that of its piece -/
import Derived.Test.YteckglnfkgfefaaJnS
namespace Go.Proofs.Yteckglnfkgfefaa
open Go.RowKit Cod
set_option maxRecDepth 40000
theorem equal_any (a b : Option Addr) (la ca lb cb : Nat) (l m : List Nat) (w : World) (ha : IsB w a la ca l) (hb : IsB w b lb cb m) :
    Calls Try.prog 65 #[.slice a la ca, .slice b lb cb] w fun e w' => e = .returned (.bool (decide (l = m))) ∧ w' = w := by
  have h1 := conv_str ha
  have h2 := conv_str hb
  have hlm := str_eq ha.2.2.2.1 hb.2.2.2.1
  generalize str l = s at *
  generalize str m = s' at *
  go_enter Try.func65, Try.ntmps65
  go_wp2
  go_ret
  exact ⟨rfl, rfl⟩
/-- one sector is that of its piece -/
def Chk1 (l : List Nat) (s i n : Nat) : Prop := 1 ≤ (pieceL l).length ∧ (pieceL l).length ≤ 4064 ∧ (i + 1 < n → (pieceL l).length = 4064) ∧ l = secL (pieceL l) s i n
theorem Chk1.len {l : List Nat} {s i n : Nat} (h : Chk1 l s i n) : l.length = 4096 ∧ lenL l = (pieceL l).length := by
  obtain ⟨_, h2, _, h4⟩ := h
  constructor
  · rw [h4, secL_eq _ h2, rsecL_length _ h2]
  · rw [h4, pieceL_secL _ h2, secL_eq _ h2, lenL_rsecL _ h2]
theorem pieceL_len {l : List Nat} (h : l.length = 4096) (hl : lenL l ≤ 4064) : (pieceL l).length = lenL l := by
  rw [pieceL, List.length_take, List.length_drop, h]
  omega
/-- what pieceOf answers -/
def PoPost (w : World) (b off cap : Nat) (l : List Nat) (s i n : Nat) (e : Ending) (w' : World) : Prop :=
  ((e = .returned (.tuple #[.slice (some ⟨b, off + 32, none⟩) (lenL l) (cap - 32), .bool true]) ∧ Chk1 l s i n) ∨ (∃ v, e = .returned (.tuple #[v, .bool false]) ∧ ¬ Chk1 l s i n)) ∧ Below w.heap.size w w'
theorem PoPost.no {w w' : World} {b off cap : Nat} {l : List Nat} {s i n : Nat} {v : Value} (h : ¬ Chk1 l s i n) (hb : Below w.heap.size w w') : PoPost w b off cap l s i n (.returned (.tuple #[v, .bool false])) w' := ⟨.inr ⟨v, rfl, h⟩, hb⟩
theorem PoPost.eq {w w' : World} {b off cap : Nat} {l : List Nat} {s i n : Nat} {L : Nat} (hL : lenL l = L) (h1 : 1 ≤ (pieceL l).length) (h2 : (pieceL l).length ≤ 4064) (h3 : i + 1 < n → (pieceL l).length = 4064) (hb : Below w.heap.size w w') : PoPost w b off cap l s i n (.returned (.tuple #[.slice (some ⟨b, off + 32, none⟩) L (cap - 32), .bool (decide (l = secL (pieceL l) s i n))])) w' := by
  subst hL
  by_cases e : l = secL (pieceL l) s i n
  · rw [decide_eq_true e]; exact ⟨.inl ⟨rfl, h1, h2, h3, e⟩, hb⟩
  · rw [decide_eq_false e]; exact ⟨.inr ⟨_, rfl, fun h => e h.2.2.2⟩, hb⟩
theorem pieceOf_any (w : World) (b off len cap : Nat) (l : List Nat) (h : IsB w (some ⟨b, off, none⟩) len cap l) (s i n : Nat) (hs : s ≤ 4611686018427387904) (hi : i < n) (hn : n ≤ 4611686018427387904) :
    Calls Try.prog 39 #[.slice (some ⟨b, off, none⟩) len cap, .int .u64 (s : Nat), .int .i64 (i : Nat), .int .i64 (n : Nat)] w (PoPost w b off cap l s i n) := by
  have hll := h.1
  have hcap := h.2.1
  have hmax := h.2.2.1
  unfold maxLen at hmax
  by_cases h4 : len = 4096
  · subst h4
    have hI28 : IsB w (some ⟨b, off + 28, none⟩) 4 (cap - 28) ((l.drop 28).take 4) := (h.back 28 (by omega)).front 4 (by omega)
    have HLo := hide (low_any w _ 4 (cap - 28) _ hI28 (by omega))
    have hlt : lenL l < 4294967296 := by
      have := lowN_lt _ hI28.2.2.2.1
      rw [hI28.1] at this
      exact this
    have HE : Hid (lowN ((l.drop 28).take 4) = lenL l) := hide rfl
    have HEQ : Hid (lenL l = lenL l) := hide rfl
    rw [HE.out] at HLo
    have H := hide h
    clear h hI28 HE
    have hwn : IntKind.i64.wrap ((n : Int) - 1) = ((n - 1 : Nat) : Int) := by rw [IntKind.wrap_i64]; omega
    have HP : Hid (lenL l ≤ 4064 → (pieceL l).length = lenL l) := hide (pieceL_len hll)
    have HK : Hid (Chk1 l s i n → lenL l = (pieceL l).length) := hide (fun h => h.len.2)
    have HIP : Hid (lenL l ≤ 4064 → IsB w (some ⟨b, off + 32, none⟩) (lenL l) (cap - 32) (pieceL l)) := hide (fun h => (H.out.back 32 (by omega)).front (lenL l) (by omega))
    clear HEQ
    generalize hLL : lenL l = L at *
    have HEQ := hide hLL
    clear hLL
    have hc28 : ¬ cap = 28 := by omega
    have hc32 : ¬ cap = 32 := by omega
    by_cases h1 : L < 1
    · have d1 : decide ((L : Int) < 1) = true := by simp; omega
      have HN : Hid (¬ Chk1 l s i n) := hide (fun h => by have := HK.out h; have := h.1; omega)
      go_enter Try.func39, Try.ntmps39
      go_wp2_with fail
      refine HLo.out.mono ?_
      rintro e w2 ⟨rfl, rfl⟩
      go_wp2_with fail
      go_ret2
      exact PoPost.no HN.out (Below.refl _ _)
    · have d1 : decide ((L : Int) < 1) = false := by simp; omega
      by_cases h2 : 4064 < L
      · have d2 : decide ((4064 : Int) < (L : Int)) = true := by simp; omega
        have HN : Hid (¬ Chk1 l s i n) := hide (fun h => by have := HK.out h; have := h.2.1; omega)
        go_enter Try.func39, Try.ntmps39
        go_wp2_with fail
        refine HLo.out.mono ?_
        rintro e w2 ⟨rfl, rfl⟩
        go_wp2_with fail
        go_ret2
        exact PoPost.no HN.out (Below.refl _ _)
      · have d2 : decide ((4064 : Int) < (L : Int)) = false := by simp; omega
        have HPL := hide (HP.out (by omega))
        have hw32 : IntKind.u64.wrap (32 + (L : Int)) = ((32 + L : Nat) : Int) := by rw [IntKind.wrap_u64]; omega
        have HS := hide (sectorOf_any w _ L (cap - 32) (pieceL l) (HIP.out (by omega)) (by omega) s i n hs (by omega) hn)
        have HLT : Hid (∀ x ∈ secL (pieceL l) s i n, x < 256) := hide (secL_lt (HIP.out (by omega)).2.2.2.1 s i n)
        clear HP HIP
        by_cases h3 : i = n - 1
        · have d3 : ((i : Int) == ((n - 1 : Nat) : Int)) = true := by simp [h3]
          have h3n : ¬ i + 1 < n := by omega
          clear h3
          go_enter Try.func39, Try.ntmps39
          go_wp2_with fail
          refine HLo.out.mono ?_
          rintro e w2 ⟨rfl, rfl⟩
          go_wp2_with fail
          refine HS.out.mono ?_
          rintro e w3 ⟨q, rfl, hq, hrow, hb⟩
          have HQ := hide (equal_any (some ⟨b, off, none⟩) (some ⟨q, 0, none⟩) 4096 cap 4096 4096 l _ w3 (H.out.below hb) (hrow.isB HLT.out))
          have HB := hide hb
          clear hrow hb
          go_wp2_with fail
          refine HQ.out.mono ?_
          rintro e w4 ⟨rfl, rfl⟩
          go_wp2_with fail
          go_ret2
          exact PoPost.eq HEQ.out (by rw [HPL.out]; omega) (by rw [HPL.out]; omega) (fun e => absurd e h3n) HB.out
        · have d3 : ((i : Int) == ((n - 1 : Nat) : Int)) = false := by simp; omega
          by_cases h5 : L < 4064
          · have d5 : decide ((L : Int) < 4064) = true := by simp; omega
            have HN : Hid (¬ Chk1 l s i n) := hide (fun h => by have := h.2.2.1 (by omega); have := HK.out h; omega)
            go_enter Try.func39, Try.ntmps39
            go_wp2_with fail
            refine HLo.out.mono ?_
            rintro e w2 ⟨rfl, rfl⟩
            go_wp2_with fail
            go_ret2
            exact PoPost.no HN.out (Below.refl _ _)
          · have d5 : decide ((L : Int) < 4064) = false := by simp; omega
            go_enter Try.func39, Try.ntmps39
            go_wp2_with fail
            refine HLo.out.mono ?_
            rintro e w2 ⟨rfl, rfl⟩
            go_wp2_with fail
            refine HS.out.mono ?_
            rintro e w3 ⟨q, rfl, hq, hrow, hb⟩
            have HQ := hide (equal_any (some ⟨b, off, none⟩) (some ⟨q, 0, none⟩) 4096 cap 4096 4096 l _ w3 (H.out.below hb) (hrow.isB HLT.out))
            have HB := hide hb
            clear hrow hb
            go_wp2_with fail
            refine HQ.out.mono ?_
            rintro e w4 ⟨rfl, rfl⟩
            go_wp2_with fail
            go_ret2
            exact PoPost.eq HEQ.out (by rw [HPL.out]; omega) (by rw [HPL.out]; omega) (fun _ => by rw [HPL.out]; omega) HB.out
  · have d0 : ((len : Int) == 4096) = false := by simp; omega
    have HN : Hid (¬ Chk1 l s i n) := hide (fun h => h4 (by rw [← hll]; exact h.len.1))
    go_enter Try.func39, Try.ntmps39
    go_wp2_with fail
    go_ret2
    exact PoPost.no HN.out (Below.refl _ _)
end Go.Proofs.Yteckglnfkgfefaa
