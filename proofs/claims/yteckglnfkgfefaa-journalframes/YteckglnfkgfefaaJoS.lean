/- the document's Pieces -/
import Derived.Test.YteckglnfkgfefaaJoG
namespace Go.Proofs.Yteckglnfkgfefaa
open Go.RowKit Cod
set_option maxRecDepth 40000
set_option linter.unusedSimpArgs false
set_option linter.unusedVariables false
/-- the first i pieces, as values -/
def pcV (b c i : Nat) : List Value := (List.range i).map fun k => .slice (some ⟨b, 4064 * k, none⟩) 4064 (c - 4064 * k)
theorem pcV_succ (b c i : Nat) : pcV b c (i + 1) = pcV b c i ++ [.slice (some ⟨b, 4064 * i, none⟩) 4064 (c - 4064 * i)] := by simp [pcV, List.range_succ]
theorem pcV_len (b c i : Nat) : (pcV b c i).length = i := by simp [pcV]
theorem pcV_get {b c i k : Nat} (h : k < i) : (pcV b c i)[k]? = some (.slice (some ⟨b, 4064 * k, none⟩) 4064 (c - 4064 * k)) := by simp [pcV, h]
theorem isB_pieceC {w : World} {b n cap : Nat} {l : List Nat} (h : IsB w (some ⟨b, 0, none⟩) n cap l) (j : Nat) (hj : j < chN n) : IsB w (some ⟨b, 4064 * j, none⟩) (mn n j) (cap - 4064 * j) (pcAt l j) := by
  have h2 := h.2.1
  have h3 := h.2.2.1
  obtain ⟨g1, g2, g3, g4, g5⟩ := isB_piece h j hj
  have hm : 4064 * j + mn n j ≤ n := by unfold mn; unfold chN at hj; omega
  exact ⟨g1, by omega, by omega, g4, g5.imp (fun x => ⟨x.1, fun e => by cases e⟩) id⟩
/-- pieces and what is left, in a row -/
theorem isBB_pieces {w : World} {b n c g i cap : Nat} {T : List Nat} (hT : IsB w (some ⟨b, 0, none⟩) n c T) {B : Nat} (h : w.ownsRow B 34 1 (.slice (some ⟨g, 0, none⟩) (i + 1) cap) (i + 1) (pcV b c i ++ [.slice (some ⟨b, 4064 * i, none⟩) (n - 4064 * i) (c - 4064 * i)])) (h1 : 4064 * i < n) (h2 : n - 4064 * i ≤ 4064) :
    pcN n = i + 1 ∧ IsBB w (some ⟨g, 0, none⟩) (i + 1) cap (pcs T) := by
  have hpc : pcN n = i + 1 := by unfold pcN; omega
  have hch : chN n = i + 1 := hpc
  refine ⟨hpc, by rw [pcs_length, hT.1, hpc], ?_⟩
  rcases id h.2 with ⟨_, h0⟩ | ⟨g', cap', cur, e, _, hg, hn, hc, _⟩
  · omega
  · cases e
    refine ⟨hn, hc, .inr ⟨g, 0, rfl, heap_lt hg, fun k hk => ?_⟩⟩
    have hget : (pcs T).getD k [] = pcAt T k := pcs_get (by rw [hT.1, hpc]; exact hk)
    rw [hget]
    have hI := isB_pieceC hT k (by rw [hch]; exact hk)
    by_cases hki : k < i
    · have hm : mn n k = 4064 := by unfold mn; omega
      rw [hm] at hI
      have := h.cells (g := g) rfl k _ (by rw [List.getElem?_append_left (by rw [pcV_len]; exact hki)]; exact pcV_get hki)
      rw [Addr.add_lit] at this
      exact ⟨_, _, _, this, hI⟩
    · have : k = i := by omega
      subst this
      have hm : mn n k = n - 4064 * k := by unfold mn; omega
      rw [hm] at hI
      have := h.cells (g := g) rfl k _ (by rw [List.getElem?_append_right (by rw [pcV_len]; exact Nat.le_refl _), pcV_len, Nat.sub_self]; rfl)
      rw [Addr.add_lit] at this
      exact ⟨_, _, _, this, hI⟩
def lenV : Value → Nat
  | .slice _ n _ => n
  | _ => 0
set_option maxHeartbeats 4000000 in
/-- ladingref05.Pieces -/
theorem rpieces_any (w : World) (a : Option Addr) (len cap : Nat) (rs : List ByteArray) (h : IsT w a len cap rs) (hok : okB rs) :
    Calls Try.prog 37 #[.slice a len cap] w fun e w' => ∃ a' c', e = .returned (.slice a' (pcN (batL rs).length) c') ∧ IsBB w' a' (pcN (batL rs).length) c' (pcs (batL rs)) ∧ Below w.heap.size w w' := by
  obtain ⟨i0, hi, hz0, hz1, hz2⟩ := info_parts info34
  have hlen : len ≤ 4096 := by rw [← h.1]; exact hok.1
  have hwl : IntKind.u64.wrap (len : Int) = (len : Int) := by rw [IntKind.wrap_u64]; omega
  have CN := hide (refNum_any none 0 0 len [] w (isB_nil w) (by omega) (by omega))
  have HOK := hide hok
  have H := hide h
  have HLE := hide (batL_le hok)
  have HP := hide (batL_pos rs)
  have HX : Hid (∀ x ∈ batL rs, x < 256) := hide (batL_lt rs)
  clear h hok
  go_enter Try.func37, Try.ntmps37
  go_wp2_with fail
  refine CN.out.mono ?_
  rintro e w1 ⟨v1, rfl, ho1, hb1⟩
  clear CN hwl
  rw [Nat.zero_add, List.nil_append] at ho1
  go_wp2_with fail
  go_loopw [13, 3] (fun i x wr => ∃ (j q : Nat), j ≤ len ∧ i = .int .i64 (j : Nat) ∧ wr.ownsRow w.heap.size 5 1 x q (bv (num len ++ recL (rs.take j))) ∧ Below w.heap.size w wr) (fun i _ _ => len - (intOf i).toNat)
  case atStart => exact ⟨0, _, Nat.zero_le _, rfl, by simpa [recL] using ho1, hb1⟩
  case round =>
    obtain ⟨j, q, hj, rfl, hown, hb⟩ := hrel
    clear ho1 hb1
    have hq : (num len ++ recL (rs.take j)).length = q := by have := hown.1; rw [bv_length, Nat.mul_one] at this; exact this
    have hql : q ≤ 10 + j * 1048586 := by
      have e1 := recL_le (rs.take j) (fun r hr => by have := HOK.out.2 r (List.mem_of_mem_take hr); omega)
      have e2 := num_len10 (n := len) (by omega)
      rw [List.length_append] at hq
      rw [List.length_take] at e1
      have : min j rs.length * 1048586 ≤ j * 1048586 := Nat.mul_le_mul_right _ (Nat.min_le_left _ _)
      omega
    have HXL : Hid (∀ x ∈ num len ++ recL (rs.take j), x < 256) := hide (by
      intro x hx
      rcases List.mem_append.1 hx with h | h
      · exact num_lt _ x h
      · exact recL_lt _ x h)
    by_cases hjk : j < len
    · rcases (H.out.below hb).2.2.2 with h0 | ⟨b, off, rfl, hlt, hc⟩
      · omega
      have hcj := hc j hjk
      have HT := hide (recL_take rs j (by rw [H.out.1]; exact hjk))
      have hsz : (rs.getD j ByteArray.empty).size ≤ 4096 := by
        rw [List.getD_eq_getElem?_getD, List.getElem?_eq_getElem (by rw [H.out.1]; exact hjk)]; exact HOK.out.2 _ (List.getElem_mem _)
      obtain ⟨a2, c2, rfl, hI2⟩ := owns_isB hown HXL.out
      have CT := hide (refText_any a2 q c2 (rs.getD j ByteArray.empty) _ wr hI2 (by omega))
      have HB := hide hb
      clear hc hb hq hI2 hown
      generalize rs.getD j ByteArray.empty = r at *
      go_wp2_with fail
      refine CT.out.mono ?_
      rintro e w2 ⟨v2, rfl, ho2, hb2⟩
      have hown3 : w2.ownsRow w.heap.size 5 1 v2 (q + (num r.size).length + r.size) (bv (num len ++ recL (rs.take (j + 1)))) := by
        have := own_low ho2 HB.out.size
        rw [List.append_assoc] at this
        rw [HT.out, ← List.append_assoc]
        simpa using this
      have hb3 : Below w.heap.size w w2 := HB.out.trans (hb2.mono HB.out.size)
      clear ho2 hb2 CT HT HB
      go_wp2
      go_roundw
      case rel => exact ⟨j + 1, _, by omega, by go_num, hown3, hb3⟩
      case measure => simp [intOf]; omega
    · have : j = len := by omega
      subst this
      have HE : Hid (num j ++ recL (rs.take j) = batL rs) := hide (by rw [batL, H.out.1, List.take_of_length_le (by rw [H.out.1]; exact Nat.le_refl _)])
      rw [HE.out] at hown hq
      obtain ⟨b, c, rfl, _, hT⟩ := own_isB hown HX.out (by rw [← hq]; exact HP.out)
      have HTB := hide hT
      have HB := hide hb
      have HQ : Hid ((batL rs).length = q) := hide hq
      have hqp : 1 ≤ q := by rw [← hq]; exact HP.out
      have hqm : q ≤ 5000000000 := by rw [← hq]; exact HLE.out
      have hcap := hT.2.1
      have hcm : c ≤ 9223372036854775807 := hT.2.2.1
      clear hown hb hT hq HXL hql
      go_wp2_with fail
      generalize wr = W1 at *
      go_loopw [3, 6] (fun x y wr => ∃ (i p N C : Nat), x = .slice (some ⟨b, p, none⟩) N C ∧ Hid (p = 4064 * i) ∧ p + N = q ∧ p + C = c ∧ 0 < N ∧ wr.ownsRow W1.heap.size 34 1 y i (pcV b c i) ∧ Below W1.heap.size W1 wr) (fun x _ _ => lenV x)
      case atStart => exact ⟨0, 0, q, c, rfl, hide rfl, by omega, by omega, by omega, World.ownsRow_nil _ _ _ _, Below.refl _ _⟩
      case round =>
        obtain ⟨i, p, N, C, rfl, HPI, hpn, hpc, hN0, hown, hb⟩ := hrel
        have hil : i ≤ 2000000 := by have := HPI.out; omega
        have HO := hide hown
        have HB2 := hide hb
        clear hown hb
        by_cases hbig : 4064 < N
        · have d1 : decide ((4064 : Int) < (N : Int)) = true := decide_eq_true (by omega)
          have hC : ¬ C = 4064 := by omega
          have HS := hide (pcV_succ b c i)
          have HV : Hid ((.slice (some ⟨b, 4064 * i, none⟩) 4064 (c - 4064 * i) : Value) = .slice (some ⟨b, p, none⟩) 4064 C) := hide (by rw [← HPI.out, show c - p = C by omega])
          have HZ := hide HB2.out.size
          go_wp2_with (at_builtin; refine wpList_append_own _ rfl _ _ 24 rfl W1.heap.size 34 i0 (.slice none 0 0) 1 24 Try.underlying24 hi hz0 hz1 hz2 rfl (by decide) _ i _ rfl (HO.out.alloc _) ⟨wr.heap.size, 0, none⟩ 1 1 [.slice (some ⟨b, p, none⟩) 4064 C] rfl rfl (cell_one_new _ _ _) (one_slice _ _ _) ?c3 ?c4 ?c5 ?_)
          case c3 => unfold maxLen; omega
          case c4 => omega
          case c5 => have := HZ.out; simp; omega
          intro v7 w7 hown7 hg7 _
          have hown7' : w7.ownsRow W1.heap.size 34 1 v7 (i + 1) (pcV b c (i + 1)) := by rw [HS.out, HV.out]; exact hown7
          have hlt : ∀ k, _ = some k → W1.heap.size ≤ k := fun k hk => (HO.out.lt k hk).1
          have hB7 : Below W1.heap.size W1 w7 := (HB2.out.alloc HZ.out _).grown hg7 (by have := HZ.out; simp; omega) (fun k hk => hlt k hk)
          clear hown7 hg7 hlt
          go_wp2
          exact ⟨⟨i + 1, p + 4064, N - 4064, C - 4064, rfl, hide (by have := HPI.out; omega), by omega, by omega, by omega, hown7', hB7⟩, by show N - 4064 < N; omega⟩
        · have d1 : decide ((4064 : Int) < (N : Int)) = false := decide_eq_false (by omega)
          have HV : Hid ((.slice (some ⟨b, 4064 * i, none⟩) (q - 4064 * i) (c - 4064 * i) : Value) = .slice (some ⟨b, p, none⟩) N C) := hide (by rw [← HPI.out, show c - p = C by omega, show q - p = N by omega])
          have HZ := hide HB2.out.size
          go_wp2_with (at_builtin; refine wpList_append_own _ rfl _ _ 24 rfl W1.heap.size 34 i0 (.slice none 0 0) 1 24 Try.underlying24 hi hz0 hz1 hz2 rfl (by decide) _ i _ rfl (HO.out.alloc _) ⟨wr.heap.size, 0, none⟩ 1 1 [.slice (some ⟨b, p, none⟩) N C] rfl rfl (cell_one_new _ _ _) (one_slice _ _ _) ?c3 ?c4 ?c5 ?_)
          case c3 => unfold maxLen; omega
          case c4 => omega
          case c5 => have := HZ.out; simp; omega
          intro v7 w7 hown7 hg7 _
          obtain ⟨g7, cap7, rfl⟩ : ∃ g c, v7 = .slice (some ⟨g, 0, none⟩) (i + 1) c := by
            rcases hown7.2 with ⟨_, h0⟩ | ⟨g, c, cur, e, _⟩
            · omega
            · exact ⟨g, c, e⟩
          have hlt : ∀ k, _ = some k → W1.heap.size ≤ k := fun k hk => (HO.out.lt k hk).1
          have hB7 : Below W1.heap.size W1 w7 := (HB2.out.alloc HZ.out _).grown hg7 (by have := HZ.out; simp; omega) (fun k hk => hlt k hk)
          rw [← HV.out] at hown7
          obtain ⟨r1, r2⟩ := isBB_pieces (HTB.out.below hB7) hown7 (by have := HPI.out; omega) (by have := HPI.out; omega)
          have HR : Hid (pcN (batL rs).length = i + 1) := hide (by rw [HQ.out]; exact r1)
          have HR2 := hide r2
          have HB7 := hide hB7
          clear hown7 hg7 hlt r1 r2 hB7
          go_wp2_with fail
          go_ret
          refine ⟨some ⟨g7, 0, none⟩, cap7, by rw [HR.out]; rfl, by rw [HR.out]; exact HR2.out, HB.out.trans (HB7.out.mono HB.out.size)⟩
end Go.Proofs.Yteckglnfkgfefaa
