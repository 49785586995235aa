/- sectors read back: a sector's piece, and what a row of sectors holds (pure) -/
import Derived.Test.YteckglnfkgfefaaJnM
namespace Go.Proofs.Yteckglnfkgfefaa
open Go.RowKit Cod
set_option maxRecDepth 40000
theorem lowN_append (a b : List Nat) : lowN (a ++ b) = lowN a + 256 ^ a.length * lowN b := by
  induction a with
  | nil => simp [lowN]
  | cons x a ih => simp only [List.cons_append, lowN, ih, List.length_cons, Nat.pow_succ, Nat.mul_add]; rw [Nat.mul_comm (256 ^ a.length) 256, Nat.mul_assoc, Nat.add_assoc]
theorem lowN_leB (n i : Nat) : lowN (leB n i) = n % 256 ^ i := by
  induction i with
  | zero => simp [leB, lowN, Nat.mod_one]
  | succ i ih =>
    rw [leB, lowN_append, ih, leB_length]
    simp only [lowN, Nat.mul_zero, Nat.add_zero]
    rw [Nat.pow_succ, Nat.mod_mul, Nat.pow_mul]
/-- the piece's length that a sector says -/
def lenL (b : List Nat) : Nat := lowN ((b.drop 28).take 4)
/-- the piece of a sector -/
def pieceL (b : List Nat) : List Nat := (b.drop 32).take (lenL b)
theorem rsecL_length (l : List Nat) (hl : l.length ≤ 4064) (s i n : Nat) : (rsecL l s i n).length = 4096 := by
  simp only [rsecL, secB, List.length_append, leB_length, markL, List.length_cons, List.length_nil, List.length_replicate]
  omega
theorem rsecL_cut (l : List Nat) (s i n : Nat) : ∃ h : List Nat, h.length = 28 ∧ rsecL l s i n = h ++ (leB l.length 4 ++ (l ++ List.replicate (4064 - l.length) 0)) := by
  refine ⟨markL ++ leB (Crc.update 0 (markL ++ [0, 0, 0, 0] ++ secB l s i n)) 4 ++ leB (s + i) 8 ++ leB s 8 ++ leB n 4, ?_, ?_⟩
  · simp [leB_length, markL]
  · rw [rsecL]
    generalize Crc.update 0 (markL ++ [0, 0, 0, 0] ++ secB l s i n) = c
    simp only [secB, List.append_assoc]
theorem lenL_rsecL (l : List Nat) (hl : l.length ≤ 4064) (s i n : Nat) : lenL (rsecL l s i n) = l.length := by
  obtain ⟨h, h28, e⟩ := rsecL_cut l s i n
  rw [lenL, e, List.drop_left' h28, List.take_left' (leB_length ..), lowN_leB]
  exact Nat.mod_eq_of_lt (by omega)
theorem pieceL_rsecL (l : List Nat) (hl : l.length ≤ 4064) (s i n : Nat) : pieceL (rsecL l s i n) = l := by
  obtain ⟨h, h28, e⟩ := rsecL_cut l s i n
  rw [pieceL, lenL_rsecL l hl, e, ← List.append_assoc, List.drop_left' (by simp [leB_length, h28]), List.take_left' rfl]
theorem pieceL_secL (l : List Nat) (hl : l.length ≤ 4064) (s i n : Nat) : pieceL (secL l s i n) = l := by rw [secL_eq l hl, pieceL_rsecL l hl]
/-- what the sectors hold -/
def unL (bs : List (List Nat)) : List Nat := (bs.map pieceL).flatten
/-- each sector is that of its piece -/
def Chk (bs : List (List Nat)) (s : Nat) : Prop := ∀ i, i < bs.length → 1 ≤ (pieceL (bs.getD i [])).length ∧ (pieceL (bs.getD i [])).length ≤ 4064 ∧ (i + 1 < bs.length → (pieceL (bs.getD i [])).length = 4064) ∧ bs.getD i [] = secL (pieceL (bs.getD i [])) s i bs.length
theorem pcs_map_fr (rs : List ByteArray) (s : Nat) : (frL rs s).map pieceL = pcs (batL rs) := by
  rw [frL, pcs, List.map_map]
  apply List.map_congr_left
  intro i hi
  have h := pcAt_len (List.mem_range.1 hi)
  rw [Function.comp_apply, pieceL_secL _ h.2.1]
theorem unL_fr (rs : List ByteArray) (s : Nat) : unL (frL rs s) = batL rs := by rw [unL, pcs_map_fr, pcs_flat]
theorem chk_fr (rs : List ByteArray) (s : Nat) : Chk (frL rs s) s := by
  intro i hi
  rw [frL_length] at hi
  have h := pcAt_len hi
  rw [frL_get hi, pieceL_secL _ h.2.1, frL_length]
  exact ⟨h.1, h.2.1, h.2.2, rfl⟩
theorem getD_map_piece (bs : List (List Nat)) (i : Nat) (hi : i < bs.length) : (bs.map pieceL).getD i [] = pieceL (bs.getD i []) := by
  simp [List.getD_eq_getElem?_getD, hi]
theorem pcs_un {bs : List (List Nat)} {s : Nat} (h : Chk bs s) : pcs (unL bs) = bs.map pieceL := by
  apply pcs_of
  intro i hi
  rw [List.length_map] at hi
  rw [getD_map_piece bs i hi, List.length_map]
  obtain ⟨h1, h2, h3, _⟩ := h i hi
  exact ⟨h1, h2, h3⟩
/-- sectors that are those of their pieces are the batch's whose text they hold -/
theorem fr_chk {bs : List (List Nat)} {s : Nat} (h : Chk bs s) {rs : List ByteArray} (e : batL rs = unL bs) : frL rs s = bs := by
  have hp := pcs_un h
  have hl : pcN (unL bs).length = bs.length := by rw [← pcs_length, hp, List.length_map]
  apply List.ext_getElem?
  intro i
  by_cases hi : i < bs.length
  · have hi' : i < pcN (batL rs).length := by rw [e, hl]; exact hi
    have h4 := (h i hi).2.2.2
    have e1 : pcAt (unL bs) i = pieceL (bs.getD i []) := by
      rw [← pcs_get (by rw [hl]; exact hi), hp, getD_map_piece bs i hi]
    have e2 := frL_get (s := s) hi'
    rw [e, hl, e1, ← h4] at e2
    rw [List.getD_eq_getElem?_getD, List.getD_eq_getElem?_getD, List.getElem?_eq_getElem (by rw [frL_length]; exact hi'), List.getElem?_eq_getElem hi] at e2
    rw [List.getElem?_eq_getElem (by rw [frL_length]; exact hi'), List.getElem?_eq_getElem hi]
    exact congrArg some e2
  · rw [List.getElem?_eq_none (by rw [frL_length, e, hl]; omega), List.getElem?_eq_none (by omega)]
/-- batches whose sectors are the same are the same -/
theorem frL_inj {a b : List ByteArray} {s : Nat} (ha : okB a) (hb : okB b) (h : frL a s = frL b s) : a = b :=
  batL_inj ha hb (by rw [← unL_fr a s, h, unL_fr b s])
/-- what Unframe answers: the batch whose sectors these are, or that there is none -/
def UnR (bs : List (List Nat)) (s : Nat) (rs : List ByteArray) (er : Nat) : Prop :=
  (er = 0 ∧ okB rs ∧ frL rs s = bs) ∨ (er ≠ 0 ∧ ∀ q, okB q → frL q s ≠ bs)
theorem UnR.same {bs : List (List Nat)} {s : Nat} {a b : List ByteArray} {x y : Nat} (h : UnR bs s a x) (g : UnR bs s b y) : (x = 0 ↔ y = 0) ∧ (x = 0 → a = b) := by
  rcases h with ⟨h0, h1, h2⟩ | ⟨h0, h1⟩ <;> rcases g with ⟨g0, g1, g2⟩ | ⟨g0, g1⟩
  · exact ⟨by simp [h0, g0], fun _ => frL_inj h1 g1 (h2.trans g2.symm)⟩
  · exact absurd h2 (g1 a h1)
  · exact absurd g2 (h1 b g1)
  · exact ⟨by simp [h0, g0], fun e => absurd e h0⟩
end Go.Proofs.Yteckglnfkgfefaa
