/- JnF JnH JnI -/
import Derived.Test.YteckglnfkgfefaaJnC
import Derived.Lib.AppendZeros
import Derived.ArgAppend
/- the document's sector, as bytes; literals as own rows -/
namespace Go.Proofs.Yteckglnfkgfefaa
open Go.RowKit
set_option maxRecDepth 40000
/-- what lies behind the checksum -/
def secB (l : List Nat) (s i n : Nat) : List Nat := leB (s + i) 8 ++ leB s 8 ++ leB n 4 ++ leB l.length 4 ++ l ++ List.replicate (4064 - l.length) 0
def markL : List Nat := [76, 68, 78, 71]
/-- the document's sector, as bytes -/
def rsecL (l : List Nat) (s i n : Nat) : List Nat := markL ++ leB (Crc.update 0 (markL ++ [0, 0, 0, 0] ++ secB l s i n)) 4 ++ secB l s i n
theorem own_below {w w' : World} {base : Nat} {v : Value} {n : Nat} {l : List Value} (h : w.ownsRow base 5 1 v n l) (hb : Below w.heap.size w w') : w'.ownsRow base 5 1 v n l :=
  h.kept (row := none) ⟨hb.os, hb.tape, hb.output, hb.size, fun k hk _ => hb.block k hk⟩ (by cases hv : v.ownBlock <;> simp)
theorem own_isB {w : World} {base : Nat} {v : Value} {n : Nat} {l : List Nat} (h : w.ownsRow base 5 1 v n (bv l)) (hl : ∀ x ∈ l, x < 256) (hn : 0 < n) : ∃ g cap, v = .slice (some ⟨g, 0, none⟩) n cap ∧ base ≤ g ∧ IsB w (some ⟨g, 0, none⟩) n cap l := by
  obtain ⟨g, cap, rfl, hb, hr⟩ := Row.of_owns h hn
  exact ⟨g, cap, rfl, hb, hr.isB hl⟩
end Go.Proofs.Yteckglnfkgfefaa
/- the program's sector is the document's -/
namespace Go.Proofs.Yteckglnfkgfefaa
open Go.RowKit
set_option maxRecDepth 40000
theorem putN_eq (m : List Nat) (off n i : Nat) (h : off + i ≤ m.length) : putN m off n i = m.take off ++ (leB n i ++ m.drop (off + i)) := by
  induction i with
  | zero => simp [putN, leB]
  | succ i ih =>
    rw [putN, ih (by omega), leB]
    have hd : m.drop (off + i) = m.getD (off + i) 0 :: m.drop (off + (i + 1)) := drop_cons m (off + i) (by omega)
    have h1 : (m.take off).length = off := by simp; omega
    rw [List.set_append_right _ _ (by omega), h1, Nat.add_sub_cancel_left, List.set_append_right _ _ (by rw [leB_length]; exact Nat.le_refl _), leB_length, Nat.sub_self, hd, List.set_cons_zero]
    simp
theorem put_mid (A Z B : List Nat) (off n k : Nat) (ha : A.length = off) (hz : Z.length = k) : putN (A ++ (Z ++ B)) off n k = A ++ (leB n k ++ B) := by
  rw [putN_eq _ _ _ _ (by simp; omega), List.take_left' ha, ← List.append_assoc A Z B, List.drop_left' (by simp; omega)]
theorem splice_mid (A Z B cs : List Nat) (off : Nat) (ha : A.length = off) (hz : Z.length = cs.length) : splice (A ++ (Z ++ B)) off cs = A ++ (cs ++ B) := by
  rw [splice, List.take_left' ha, ← List.append_assoc A Z B, List.drop_left' (by simp; omega)]
theorem rep_split (r k : Nat) (h : k ≤ r) : List.replicate r (0 : Nat) = List.replicate k 0 ++ List.replicate (r - k) 0 := by
  rw [List.replicate_append_replicate]; congr 1; omega
theorem put_rep (A : List Nat) (off n k r : Nat) (ha : A.length = off) (hk : k ≤ r) : putN (A ++ List.replicate r 0) off n k = (A ++ leB n k) ++ List.replicate (r - k) 0 := by
  rw [rep_split r k hk, put_mid A _ _ off n k ha (List.length_replicate), List.append_assoc]
theorem splice_rep (A cs : List Nat) (off r : Nat) (ha : A.length = off) (hk : cs.length ≤ r) : splice (A ++ List.replicate r 0) off cs = (A ++ cs) ++ List.replicate (r - cs.length) 0 := by
  rw [rep_split r cs.length hk, splice_mid A _ _ cs off ha (List.length_replicate), List.append_assoc]
theorem secH_eq (l : List Nat) (hl : l.length ≤ 4064) (s i n : Nat) : secH l s i n = markL ++ [0, 0, 0, 0] ++ secB l s i n := by
  have h0 : splice (List.replicate 4096 0) 0 [76, 68, 78, 71] = (markL ++ [0, 0, 0, 0]) ++ List.replicate 4088 0 := by
    have := splice_rep [] [76, 68, 78, 71] 0 4096 rfl (by simp)
    rw [List.nil_append] at this
    rw [this, List.nil_append, show 4096 - [76, 68, 78, 71].length = 4092 from rfl, rep_split 4092 4 (by omega), ← List.append_assoc]
    rfl
  rw [secH, h0, put_rep _ 8 _ 8 4088 rfl (by omega), put_rep _ 16 _ 8 _ (by simp [leB_length, markL]) (by omega), put_rep _ 24 _ 4 _ (by simp [leB_length, markL]) (by omega), put_rep _ 28 _ 4 _ (by simp [leB_length, markL]) (by omega), splice_rep _ l 32 _ (by simp [leB_length, markL]) (by omega)]
  simp only [secB, List.append_assoc]
theorem secL_eq (l : List Nat) (hl : l.length ≤ 4064) (s i n : Nat) : secL l s i n = rsecL l s i n := by
  rw [secL, secH_eq l hl, rsecL]
  generalize Crc.update 0 (markL ++ [0, 0, 0, 0] ++ secB l s i n) = c
  rw [List.append_assoc, put_mid markL [0, 0, 0, 0] _ 4 c 4 rfl rfl, List.append_assoc]
end Go.Proofs.Yteckglnfkgfefaa
/- batchText -/
namespace Go.Proofs.Yteckglnfkgfefaa
open Go.RowKit Cod
set_option maxRecDepth 40000
/-- a slice of strings reads as rs -/
def IsT (w : World) (a : Option Addr) (len cap : Nat) (rs : List ByteArray) : Prop :=
  rs.length = len ∧ len ≤ cap ∧ cap ≤ maxLen ∧ (len = 0 ∨ ∃ b off, a = some ⟨b, off, none⟩ ∧ b < w.heap.size ∧ ∀ i, i < len → w.cell? ⟨b, off + i, none⟩ = some (.string (rs.getD i ByteArray.empty)))
theorem IsT.below {w w1 : World} {a : Option Addr} {len cap : Nat} {rs : List ByteArray} (h : IsT w a len cap rs) (hb : Below w.heap.size w w1) : IsT w1 a len cap rs := by
  obtain ⟨h1, h2, h3, h5⟩ := h
  refine ⟨h1, h2, h3, ?_⟩
  rcases h5 with h5 | ⟨b, off, rfl, hlt, hc⟩
  · exact .inl h5
  · exact .inr ⟨b, off, rfl, Nat.lt_of_lt_of_le hlt hb.size, fun i hi => (hb.cell (p := ⟨b, off + i, none⟩) hlt).trans (hc i hi)⟩
/-- the records, each as a text -/
def recL : List ByteArray → List Nat
  | [] => []
  | r :: rs => num r.size ++ bl r ++ recL rs
theorem recL_append (a b : List ByteArray) : recL (a ++ b) = recL a ++ recL b := by
  induction a with
  | nil => rfl
  | cons r a ih => simp [recL, ih]
/-- a batch's text -/
def batL (rs : List ByteArray) : List Nat := num rs.length ++ recL rs
theorem recL_take (rs : List ByteArray) (j : Nat) (h : j < rs.length) : recL (rs.take (j + 1)) = recL (rs.take j) ++ (num (rs.getD j ByteArray.empty).size ++ bl (rs.getD j ByteArray.empty)) := by
  have : rs.take (j + 1) = rs.take j ++ [rs.getD j ByteArray.empty] := by
    rw [List.take_add_one, List.getElem?_eq_getElem h, List.getD_eq_getElem?_getD, List.getElem?_eq_getElem h]; rfl
  rw [this, recL_append]; simp [recL]
theorem recL_le (rs : List ByteArray) (h : ∀ r ∈ rs, r.size ≤ 1048576) : (recL rs).length ≤ rs.length * 1048586 := by
  induction rs with
  | nil => simp [recL]
  | cons r rs ih =>
    have h1 := ih (fun x hx => h x (List.mem_cons_of_mem _ hx))
    have h2 := h r (List.mem_cons_self ..)
    have h3 := num_len10 (n := r.size) (by omega)
    simp only [recL, List.length_append, bl_length, List.length_cons]
    omega
set_option maxHeartbeats 1000000 in
theorem batchText_any (w : World) (a : Option Addr) (len cap : Nat) (rs : List ByteArray) (h : IsT w a len cap rs) (hl : len ≤ 65536) (hr : ∀ r ∈ rs, r.size ≤ 1048576) :
    Calls Try.prog 35 #[.slice a len cap] w fun e w' => ∃ v, e = .returned v ∧ w'.ownsRow w.heap.size 5 1 v (batL rs).length (bv (batL rs)) ∧ Below w.heap.size w w' := by
  have hwl : IntKind.u64.wrap (len : Int) = (len : Int) := by rw [IntKind.wrap_u64]; omega
  have CN := hide (num_any none 0 0 len [] w (isB_nil w) (by omega) (by omega))
  have HR := hide hr
  have H := hide h
  clear h hr
  go_enter Try.func35, Try.ntmps35
  go_wp2_with fail
  refine CN.out.mono ?_
  rintro e w1 ⟨v1, rfl, ho1, hb1⟩
  clear CN hwl
  rw [Nat.zero_add, List.nil_append] at ho1
  go_wp2_with fail
  go_loopw [12, 3] (fun i x wr => ∃ (j q : Nat), j ≤ len ∧ i = .int .i64 (j : Nat) ∧ wr.ownsRow w.heap.size 5 1 x q (bv (num len ++ recL (rs.take j))) ∧ Below w.heap.size w wr) (fun i _ _ => len - (intOf i).toNat)
  case atStart => exact ⟨0, _, Nat.zero_le _, rfl, by simpa [recL] using ho1, hb1⟩
  case round =>
    obtain ⟨j, q, hj, rfl, hown, hb⟩ := hrel
    clear ho1 hb1
    have hq : (num len ++ recL (rs.take j)).length = q := by have := hown.1; rw [bv_length, Nat.mul_one] at this; exact this
    by_cases hjk : j < len
    · obtain ⟨h1, h2, h3, h5⟩ := H.out.below hb
      rcases h5 with h0 | ⟨b, off, rfl, hlt, hc⟩
      · omega
      have hcj := hc j hjk
      have HT := hide (recL_take rs j (by omega))
      have hsz : (rs.getD j ByteArray.empty).size ≤ 1048576 := by
        rw [List.getD_eq_getElem?_getD, List.getElem?_eq_getElem (by omega)]; exact HR.out _ (List.getElem_mem _)
      have hq2 : q ≤ 70000000000 := by
        have e1 := recL_le (rs.take j) (fun r hr => HR.out r (List.mem_of_mem_take hr))
        have e2 := num_len10 (n := len) (by omega)
        rw [List.length_append] at hq
        rw [List.length_take] at e1
        have : min j rs.length * 1048586 ≤ 65536 * 1048586 := Nat.mul_le_mul_right _ (by omega)
        omega
      have hn10 := num_len10 (n := (rs.getD j ByteArray.empty).size) (by omega)
      have CT := hide (text_any none 0 0 (rs.getD j ByteArray.empty) [] wr (isB_nil wr) (by omega))
      have HXL : Hid (∀ x ∈ num (rs.getD j ByteArray.empty).size ++ bl (rs.getD j ByteArray.empty), x < 256) := hide (by
        intro x hx
        rcases List.mem_append.1 hx with h | h
        · exact num_lt _ x h
        · exact bl_lt _ x h)
      have HLn : Hid ((num (rs.getD j ByteArray.empty).size ++ bl (rs.getD j ByteArray.empty)).length = (num (rs.getD j ByteArray.empty).size).length + (rs.getD j ByteArray.empty).size) := hide (by rw [List.length_append, bl_length])
      have HO := hide hown
      have HB := hide hb
      clear hc hown hb hq
      generalize rs.getD j ByteArray.empty = r at *
      go_wp2_with fail
      refine CT.out.mono ?_
      rintro e w2 ⟨v2, rfl, ho2, hb2⟩
      rw [List.nil_append, Nat.zero_add, ← HLn.out] at ho2
      obtain ⟨a2, c2, rfl, hI2⟩ := owns_isB ho2 HXL.out
      have hx2 := own_below HO.out hb2
      have hb02 : Below w.heap.size w w2 := HB.out.trans (hb2.mono HB.out.size)
      have hL2 : (num r.size ++ bl r).length ≤ 1048586 := by rw [HLn.out]; omega
      have HT2 : Hid (num len ++ recL (rs.take j) ++ (num r.size ++ bl r) = num len ++ recL (rs.take (j + 1))) := hide (by rw [HT.out, List.append_assoc])
      clear ho2 hb2 CT HO HB HXL HLn HT hn10 hsz
      generalize num r.size ++ bl r = t at *
      go_wp2_with (at_builtin; refine wpList_clone rfl _ _ rfl w.heap.size _ q _ rfl hx2 a2 t.length c2 t rfl hI2 (by omega) hb02.size w.heap.size w hb02 (Nat.le_refl _) ?_)
      intro v3 w3 ho3 hb3
      rw [← bv_append, HT2.out] at ho3
      clear hx2 hb02 hI2 HT2
      go_wp2
      go_roundw
      case rel => exact ⟨j + 1, _, by omega, by go_num, ho3, hb3⟩
      case measure => simp [intOf]; omega
    · have : j = len := by omega
      subst this
      have HE : Hid (num j ++ recL (rs.take j) = batL rs) := hide (by rw [batL, H.out.1, List.take_of_length_le (by rw [H.out.1]; exact Nat.le_refl _)])
      rw [HE.out] at hown hq
      subst hq
      have HO := hide hown
      clear hown
      go_wp2_with fail
      go_ret
      exact ⟨_, rfl, HO.out, hb⟩
end Go.Proofs.Yteckglnfkgfefaa
