/- JnO JnP -/
import Derived.Test.YteckglnfkgfefaaJnM
/- sectors read back: a sector's piece, and what a row of sectors holds (pure) -/
namespace Go.Proofs.Yteckglnfkgfefaa
open Go.RowKit Cod
set_option maxRecDepth 40000
theorem lowN_append (a b : List Nat) : lowN (a ++ b) = lowN a + 256 ^ a.length * lowN b := by
  induction a with
  | nil => simp [lowN]
  | cons x a ih => simp only [List.cons_append, lowN, ih, List.length_cons, Nat.pow_succ, Nat.mul_add]; rw [Nat.mul_comm (256 ^ a.length) 256, Nat.mul_assoc, Nat.add_assoc]
theorem lowN_leB (n i : Nat) : lowN (leB n i) = n % 256 ^ i := by
  induction i with
  | zero => simp [leB, lowN, Nat.mod_one]
  | succ i ih =>
    rw [leB, lowN_append, ih, leB_length]
    simp only [lowN, Nat.mul_zero, Nat.add_zero]
    rw [Nat.pow_succ, Nat.mod_mul, Nat.pow_mul]
/-- the piece's length that a sector says -/
def lenL (b : List Nat) : Nat := lowN ((b.drop 28).take 4)
/-- the piece of a sector -/
def pieceL (b : List Nat) : List Nat := (b.drop 32).take (lenL b)
theorem rsecL_length (l : List Nat) (hl : l.length ≤ 4064) (s i n : Nat) : (rsecL l s i n).length = 4096 := by
  simp only [rsecL, secB, List.length_append, leB_length, markL, List.length_cons, List.length_nil, List.length_replicate]
  omega
theorem rsecL_cut (l : List Nat) (s i n : Nat) : ∃ h : List Nat, h.length = 28 ∧ rsecL l s i n = h ++ (leB l.length 4 ++ (l ++ List.replicate (4064 - l.length) 0)) := by
  refine ⟨markL ++ leB (Crc.update 0 (markL ++ [0, 0, 0, 0] ++ secB l s i n)) 4 ++ leB (s + i) 8 ++ leB s 8 ++ leB n 4, ?_, ?_⟩
  · simp [leB_length, markL]
  · rw [rsecL]
    generalize Crc.update 0 (markL ++ [0, 0, 0, 0] ++ secB l s i n) = c
    simp only [secB, List.append_assoc]
theorem lenL_rsecL (l : List Nat) (hl : l.length ≤ 4064) (s i n : Nat) : lenL (rsecL l s i n) = l.length := by
  obtain ⟨h, h28, e⟩ := rsecL_cut l s i n
  rw [lenL, e, List.drop_left' h28, List.take_left' (leB_length ..), lowN_leB]
  exact Nat.mod_eq_of_lt (by omega)
theorem pieceL_rsecL (l : List Nat) (hl : l.length ≤ 4064) (s i n : Nat) : pieceL (rsecL l s i n) = l := by
  obtain ⟨h, h28, e⟩ := rsecL_cut l s i n
  rw [pieceL, lenL_rsecL l hl, e, ← List.append_assoc, List.drop_left' (by simp [leB_length, h28]), List.take_left' rfl]
theorem pieceL_secL (l : List Nat) (hl : l.length ≤ 4064) (s i n : Nat) : pieceL (secL l s i n) = l := by rw [secL_eq l hl, pieceL_rsecL l hl]
/-- what the sectors hold -/
def unL (bs : List (List Nat)) : List Nat := (bs.map pieceL).flatten
/-- each sector is that of its piece -/
def Chk (bs : List (List Nat)) (s : Nat) : Prop := ∀ i, i < bs.length → 1 ≤ (pieceL (bs.getD i [])).length ∧ (pieceL (bs.getD i [])).length ≤ 4064 ∧ (i + 1 < bs.length → (pieceL (bs.getD i [])).length = 4064) ∧ bs.getD i [] = secL (pieceL (bs.getD i [])) s i bs.length
theorem pcs_map_fr (rs : List ByteArray) (s : Nat) : (frL rs s).map pieceL = pcs (batL rs) := by
  rw [frL, pcs, List.map_map]
  apply List.map_congr_left
  intro i hi
  have h := pcAt_len (List.mem_range.1 hi)
  rw [Function.comp_apply, pieceL_secL _ h.2.1]
theorem unL_fr (rs : List ByteArray) (s : Nat) : unL (frL rs s) = batL rs := by rw [unL, pcs_map_fr, pcs_flat]
theorem chk_fr (rs : List ByteArray) (s : Nat) : Chk (frL rs s) s := by
  intro i hi
  rw [frL_length] at hi
  have h := pcAt_len hi
  rw [frL_get hi, pieceL_secL _ h.2.1, frL_length]
  exact ⟨h.1, h.2.1, h.2.2, rfl⟩
theorem getD_map_piece (bs : List (List Nat)) (i : Nat) (hi : i < bs.length) : (bs.map pieceL).getD i [] = pieceL (bs.getD i []) := by
  simp [List.getD_eq_getElem?_getD, hi]
theorem pcs_un {bs : List (List Nat)} {s : Nat} (h : Chk bs s) : pcs (unL bs) = bs.map pieceL := by
  apply pcs_of
  intro i hi
  rw [List.length_map] at hi
  rw [getD_map_piece bs i hi, List.length_map]
  obtain ⟨h1, h2, h3, _⟩ := h i hi
  exact ⟨h1, h2, h3⟩
/-- sectors that are those of their pieces are the batch's whose text they hold -/
theorem fr_chk {bs : List (List Nat)} {s : Nat} (h : Chk bs s) {rs : List ByteArray} (e : batL rs = unL bs) : frL rs s = bs := by
  have hp := pcs_un h
  have hl : pcN (unL bs).length = bs.length := by rw [← pcs_length, hp, List.length_map]
  apply List.ext_getElem?
  intro i
  by_cases hi : i < bs.length
  · have hi' : i < pcN (batL rs).length := by rw [e, hl]; exact hi
    have h4 := (h i hi).2.2.2
    have e1 : pcAt (unL bs) i = pieceL (bs.getD i []) := by
      rw [← pcs_get (by rw [hl]; exact hi), hp, getD_map_piece bs i hi]
    have e2 := frL_get (s := s) hi'
    rw [e, hl, e1, ← h4] at e2
    rw [List.getD_eq_getElem?_getD, List.getD_eq_getElem?_getD, List.getElem?_eq_getElem (by rw [frL_length]; exact hi'), List.getElem?_eq_getElem hi] at e2
    rw [List.getElem?_eq_getElem (by rw [frL_length]; exact hi'), List.getElem?_eq_getElem hi]
    exact congrArg some e2
  · rw [List.getElem?_eq_none (by rw [frL_length, e, hl]; omega), List.getElem?_eq_none (by omega)]
/-- batches whose sectors are the same are the same -/
theorem frL_inj {a b : List ByteArray} {s : Nat} (ha : okB a) (hb : okB b) (h : frL a s = frL b s) : a = b :=
  batL_inj ha hb (by rw [← unL_fr a s, h, unL_fr b s])
/-- what Unframe answers: the batch whose sectors these are, or that there is none -/
def UnR (bs : List (List Nat)) (s : Nat) (rs : List ByteArray) (er : Nat) : Prop :=
  (er = 0 ∧ okB rs ∧ frL rs s = bs) ∨ (er ≠ 0 ∧ ∀ q, okB q → frL q s ≠ bs)
theorem UnR.same {bs : List (List Nat)} {s : Nat} {a b : List ByteArray} {x y : Nat} (h : UnR bs s a x) (g : UnR bs s b y) : (x = 0 ↔ y = 0) ∧ (x = 0 → a = b) := by
  rcases h with ⟨h0, h1, h2⟩ | ⟨h0, h1⟩ <;> rcases g with ⟨g0, g1, g2⟩ | ⟨g0, g1⟩
  · exact ⟨by simp [h0, g0], fun _ => frL_inj h1 g1 (h2.trans g2.symm)⟩
  · exact absurd h2 (g1 a h1)
  · exact absurd g2 (h1 b g1)
  · exact ⟨by simp [h0, g0], fun e => absurd e h0⟩
end Go.Proofs.Yteckglnfkgfefaa
/- reading a batch's text: records one after another (pure) -/
namespace Go.Proofs.Yteckglnfkgfefaa
open Go.RowKit Cod
set_option maxRecDepth 40000
/-- out has been read of R, and rest is what comes after -/
def Red (R : List Nat) (out : List ByteArray) (rest : List Nat) : Prop := R = recL out ++ rest ∧ ∀ r ∈ out, r.size ≤ 4096
theorem Red.start (R : List Nat) : Red R [] R := ⟨rfl, by simp⟩
theorem Red.step {R rest r : List Nat} {out : List ByteArray} {x : ByteArray} (h : Red R out rest) (hx : ∀ y ∈ rest, y < 256) (e : rdR rest = some (x, r)) : Red R (out ++ [x]) r := by
  obtain ⟨e1, e2⟩ := rdR_ok hx e
  refine ⟨?_, ?_⟩
  · rw [recL_append, h.1]
    simp only [recL, List.append_nil, List.append_assoc]
    rw [e1]
    simp only [List.append_assoc]
  · intro y hy
    rcases List.mem_append.1 hy with hy | hy
    · exact h.2 y hy
    · rw [List.mem_singleton.1 hy]; exact e2
theorem Red.split {R rest : List Nat} {out q : List ByteArray} (h : Red R out rest) (hl : out.length ≤ q.length) (hq : ∀ r ∈ q, r.size ≤ 4096) (e : recL q = R) : q.take out.length = out ∧ rest = recL (q.drop out.length) := by
  have e2 : recL (q.take out.length) ++ recL (q.drop out.length) = recL out ++ rest := by rw [← recL_append, List.take_append_drop, e, h.1]
  obtain ⟨a, b⟩ := recL_apart _ _ _ _ (by rw [List.length_take]; omega) (fun r hr => hq r (List.mem_of_mem_take hr)) h.2 e2
  exact ⟨a, b.symm⟩
/-- where no record can be read there is no batch -/
theorem Red.stuck {R rest : List Nat} {out q : List ByteArray} (h : Red R out rest) (e : rdR rest = none) (hl : out.length < q.length) (hq : ∀ r ∈ q, r.size ≤ 4096) : recL q ≠ R := by
  intro g
  obtain ⟨_, e2⟩ := h.split (by omega) hq g
  cases hd : q.drop out.length with
  | nil =>
    have := congrArg List.length hd
    rw [List.length_drop, List.length_nil] at this
    omega
  | cons x t =>
    have hx : x.size ≤ 4096 := hq x (List.mem_of_mem_drop (i := out.length) (by rw [hd]; exact List.mem_cons_self ..))
    rw [hd, recL] at e2
    rw [e2, rdR_rec hx] at e
    cases e
/-- where something is left there is no batch -/
theorem Red.left {R rest : List Nat} {out q : List ByteArray} (h : Red R out rest) (h0 : rest ≠ []) (hl : q.length = out.length) (hq : ∀ r ∈ q, r.size ≤ 4096) : recL q ≠ R := by
  intro g
  obtain ⟨_, e2⟩ := h.split (by omega) hq g
  rw [List.drop_of_length_le (by omega)] at e2
  exact h0 e2
theorem Red.done {R : List Nat} {out : List ByteArray} (h : Red R out []) : recL out = R := by rw [h.1, List.append_nil]
/-- what reading a text answers: the batch whose text it is, or that there is none -/
def RdB (l : List Nat) (rs : List ByteArray) (ok : Bool) : Prop :=
  (ok = true ∧ okB rs ∧ batL rs = l) ∨ (ok = false ∧ ∀ q, okB q → batL q ≠ l)
theorem RdB.noNum {l : List Nat} (h : rdNum l = none) (rs : List ByteArray) : RdB l rs false := by
  refine .inr ⟨rfl, fun q hq e => ?_⟩
  rw [← e, batL, rdNum_num (by have := hq.1; omega)] at h
  cases h
theorem batL_num {l R : List Nat} {n : Nat} (h : rdNum l = some (n, R)) {q : List ByteArray} (hq : okB q) (e : batL q = l) : q.length = n ∧ recL q = R := by
  rw [← e, batL, rdNum_num (by have := hq.1; omega)] at h
  exact Prod.mk.inj (Option.some.inj h)
theorem RdB.many {l R : List Nat} {n : Nat} (h : rdNum l = some (n, R)) (hn : 4096 < n) (rs : List ByteArray) : RdB l rs false := by
  refine .inr ⟨rfl, fun q hq e => ?_⟩
  have := (batL_num h hq e).1
  have := hq.1
  omega
theorem RdB.stuck {l R rest : List Nat} {n : Nat} {out : List ByteArray} (h : rdNum l = some (n, R)) (hr : Red R out rest) (hn : out.length < n) (e : rdR rest = none) (rs : List ByteArray) : RdB l rs false := by
  refine .inr ⟨rfl, fun q hq e2 => ?_⟩
  obtain ⟨h1, h2⟩ := batL_num h hq e2
  exact hr.stuck e (by omega) hq.2 h2
theorem RdB.left {l R rest : List Nat} {n : Nat} {out : List ByteArray} (h : rdNum l = some (n, R)) (hr : Red R out rest) (hn : out.length = n) (h0 : rest ≠ []) (rs : List ByteArray) : RdB l rs false := by
  refine .inr ⟨rfl, fun q hq e2 => ?_⟩
  obtain ⟨h1, h2⟩ := batL_num h hq e2
  exact hr.left h0 (by omega) hq.2 h2
theorem RdB.done {l R : List Nat} {n : Nat} {out : List ByteArray} (hx : ∀ x ∈ l, x < 256) (h : rdNum l = some (n, R)) (hr : Red R out []) (hn : out.length = n) (h4 : n ≤ 4096) : RdB l out true := by
  refine .inl ⟨rfl, ⟨by omega, hr.2⟩, ?_⟩
  rw [batL, hr.done, hn]
  exact (rdNum_some hx h).1.symm
/-- the program's Unframe: its sectors are those of their pieces, and the text is read -/
theorem UnR.of_chk {bs : List (List Nat)} {s : Nat} (h : Chk bs s) {rs : List ByteArray} {ok : Bool} (g : RdB (unL bs) rs ok) (er : Nat) (he : er = 0 ↔ ok = true) : UnR bs s rs er := by
  rcases g with ⟨rfl, h1, h2⟩ | ⟨rfl, h1⟩
  · exact .inl ⟨he.2 rfl, h1, fr_chk h h2⟩
  · refine .inr ⟨fun e => by have := he.1 e; simp at this, fun q hq e => h1 q hq ?_⟩
    rw [← e, unL_fr]
/-- a sector that isn't that of its piece: none -/
theorem UnR.of_not {bs : List (List Nat)} {s : Nat} (h : ¬ Chk bs s) (rs : List ByteArray) {er : Nat} (he : er ≠ 0) : UnR bs s rs er :=
  .inr ⟨he, fun q _ e => h (by rw [← e]; exact chk_fr q s)⟩
/-- what the sectors say is no batch: none -/
theorem UnR.of_text {bs : List (List Nat)} {s : Nat} {rs : List ByteArray} (h : RdB (unL bs) rs false) {er : Nat} (he : er ≠ 0) : UnR bs s rs er := by
  refine .inr ⟨he, fun q hq e => ?_⟩
  rcases h with ⟨h1, _⟩ | ⟨_, h1⟩
  · cases h1
  · exact h1 q hq (by rw [← e, unL_fr])
end Go.Proofs.Yteckglnfkgfefaa
