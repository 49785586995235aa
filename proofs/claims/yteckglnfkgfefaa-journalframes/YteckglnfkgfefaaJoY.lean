/- a row of strings made anew; Unframe, of as many sectors as can be handed in -/
import Derived.Test.YteckglnfkgfefaaJoQ
import Derived.Test.YteckglnfkgfefaaJoP
import Derived.Test.YteckglnfkgfefaaJoX
import Derived.WalkKit
import Derived.Deep.Slices
import Derived.ChangeSame
import Derived.ProofKit
import Derived.OpenShut
import Derived.ShutString
import Derived.ChangeOld
import Derived.Below
import Derived.JoinedCond
import Derived.SizedLaws
import Derived.SliceStrings
namespace Go.Proofs.Yteckglnfkgfefaa
open Go.RowKit Cod
set_option maxRecDepth 40000
set_option linter.unusedSimpArgs false
set_option linter.unusedVariables false
theorem map_one (l : List ByteArray) : ∀ v ∈ l.map Value.string, v.oneCell' = true := by
  intro v hv
  obtain ⟨x, _, rfl⟩ := List.mem_map.1 hv
  rfl
theorem owns9_empty (w : World) (base : Nat) (h : base ≤ w.heap.size) : (w.alloc (.cells #[] 9)).ownsRow base 9 1 (.slice (some ⟨w.heap.size, 0, none⟩) 0 0) 0 [] :=
  World.ownsRow_made w #[] 0 h (Nat.zero_le _) rfl
/-- append(own, l...), l whatever came in -/
theorem wpList_cloneT {w : World} {ops : Array Oper} {rest : List Oper} {o : Oper} {a : Act} {Q : Exit → Act → World → Prop} (hgd : o.guard = none) (s x : Operand)
    (ho : o.op = .call { callee := .builtin .append, args := #[s, x], argTypes := #[22, 22] }) (base : Nat) (v : Value) (n : Nat) (xs : List Value) (hs : a.eval s = v) (hown : w.ownsRow base 9 1 v n xs)
    (src : Option Addr) (len cap : Nat) (l : List ByteArray) (hx : a.eval x = .slice src len cap) (hB : IsT w src len cap l) (h6 : src = none → cap = 0) (hb : n + len ≤ 8000000000000) (hbase : base ≤ w.heap.size)
    (B : Nat) (w0 : World) (hbel : Below B w0 w) (hB0 : B ≤ base)
    (h : ∀ v' w', w'.ownsRow base 9 1 v' (n + len) (xs ++ l.map Value.string) → Below B w0 w' → wpList Try.prog ops Q rest (a.put o.dst v') w') : wpList Try.prog ops Q (o :: rest) a w := by
  obtain ⟨i0, hi, hz0, hz1, hz2⟩ := info_parts info9
  obtain ⟨h1, h2, h3, h5⟩ := id hB
  have key : ∀ ad : Addr, src = some ad → (∀ j u, (l.map Value.string)[j]? = some u → w.cell? (ad.add j) = some u) → wpList Try.prog ops Q (o :: rest) a w := by
    intro ad had hsrc
    refine wpList_append_own w hgd s x 22 ho base 9 i0 (.string ⟨#[]⟩) 1 16 Try.underlying22 hi hz0 hz1 hz2 rfl (by decide) v n xs hs hown ad len cap (l.map Value.string) (by rw [hx, had]) (by rw [List.length_map, h1]; omega) hsrc (map_one l) (by unfold maxLen; omega) (by omega) hbase ?_
    intro v' w' ho' hg _
    refine h v' w' ho' (hbel.grown hg (by omega) ?_)
    intro k hk
    have := (hown.lt k hk).1
    omega
  rcases h5 with h5 | ⟨b, off, rfl, hlt, hc⟩
  · subst h5
    obtain rfl : l = [] := List.length_eq_zero_iff.1 h1
    cases src with
    | none =>
      obtain rfl := h6 rfl
      refine wpList_append_own_none hgd s x 22 ho base 9 i0 1 Try.underlying22 hi v n xs hs hown hx ?_
      exact h v w (by simpa using hown) hbel
    | some ad => exact key ad rfl (by simp)
  · refine key _ rfl ?_
    intro j u hj
    have hjl : j < l.length := by
      have := (List.getElem?_eq_some_iff.1 hj).1
      rwa [List.length_map] at this
    rw [List.getElem?_map, List.getElem?_eq_getElem hjl] at hj
    cases hj
    rw [addr_add, hc j (by omega), List.getD_eq_getElem?_getD, List.getElem?_eq_getElem hjl]
    rfl
set_option maxHeartbeats 1000000 in
theorem unframe_up (w : World) (a : Option Addr) (len cap : Nat) (bs : List (List Nat)) (h : IsBB w a len cap bs) (hl : len ≤ 1048576) (s : Nat) :
    Calls Try.prog 12 #[.slice a len cap, .int .u64 (s : Nat)] w (UfPost w bs s) := by
  have HS := hide (isStart_any s w)
  have H := hide h
  clear h
  by_cases hst : startB s = true
  · have HT := hide hst
    have hs := startB_le hst
    rw [hst] at HS
    clear hst
    go_enter Try.func12, Try.ntmps12
    go_wp2_with fail
    refine HS.out.mono ?_
    rintro e w2 ⟨rfl, rfl⟩
    go_wp2_with fail
    go_loopw [18, 6] (fun i x wr => ∃ j : Nat, j ≤ len ∧ i = .int .i64 (j : Nat) ∧ UfInv w2 bs s j x wr) (fun i _ _ => len - (intOf i).toNat)
    case atStart => exact ⟨0, Nat.zero_le _, rfl, 0, by omega, ⟨rfl, .inl ⟨rfl, rfl⟩⟩, by simp [unL], fun i hi => by omega, Below.refl _ _⟩
    case round =>
      obtain ⟨j, hj, rfl, q, hq, hown, hxs, hck, hb⟩ := hrel
      have HO := hide hown
      have HXs := hide hxs
      have HCk := hide hck
      have HB := hide hb
      clear hown hxs hck hb
      by_cases hjn : j < len
      · obtain ⟨h1, h2, h3, h5⟩ := H.out.below HB.out
        rcases h5 with h0 | ⟨b, off, rfl, hlt, hc⟩
        · omega
        obtain ⟨a1, l1, c1, hcj, hI⟩ := hc j hjn
        have HP := hide (pieceOf_all wr a1 l1 c1 (bs.getD j []) hI s j len hs hjn (by omega))
        have HT1 := hide (unL_take bs j (by omega))
        have HL1 := hide h1
        clear hc hI h1
        go_wp2_with fail
        refine HP.out.mono ?_
        rintro e w3 ⟨⟨a4, c4, rfl, hc, hI4⟩ | ⟨v, rfl, hc⟩, hb3⟩
        · have hL4 := hc.2.1
          have HO3 := hide (own_below HO.out hb3)
          have HB3 : Hid (Below w2.heap.size w2 w3) := hide (HB.out.trans (hb3.mono HB.out.size))
          have HC3 := hide hc
          have HX3 := hide hI4.2.2.2.1
          generalize hlj : bs.getD j [] = lj at *
          have HLj := hide hlj
          clear hlj hc hb3 HP HO HB
          go_wp2_with (at_builtin; refine wpList_clone rfl _ _ rfl w2.heap.size _ q _ rfl HO3.out a4 _ c4 _ rfl hI4 (by omega) HB3.out.size w2.heap.size w2 HB3.out (Nat.le_refl _) ?_)
          intro v5 w5 ho5 hb5
          rw [← bv_append, ← HT1.out] at ho5
          have hx5 : ∀ y ∈ unL (bs.take (j + 1)), y < 256 := by
            rw [HT1.out]
            intro y hy
            rcases List.mem_append.1 hy with hy | hy
            · exact HXs.out y hy
            · exact HX3.out y hy
          have hk5 : ∀ i, i < j + 1 → Chk1 (bs.getD i []) s i bs.length := by
            intro i hi
            by_cases e : i = j
            · subst e; rw [HLj.out, HL1.out]; exact HC3.out
            · exact HCk.out i (by omega)
          have hq5 : q + (pieceL lj).length ≤ (j + 1) * 4064 := by omega
          clear HT1 HX3 HC3 HLj HXs HCk hI4
          go_wp2
          go_roundw
          case rel => exact ⟨j + 1, by omega, by go_num, q + (pieceL lj).length, hq5, ho5, hx5, hk5, hb5⟩
          case measure => simp [intOf]; omega
        · have HB3 : Hid (Below w2.heap.size w2 w3) := hide (HB.out.trans (hb3.mono HB.out.size))
          have HF : Hid (UnR bs s [] 6) := hide (UnR.of_not (fun hk => hc (by have := hk j (by rw [HL1.out]; exact hjn); rw [HL1.out] at this; exact this)) [] (by omega))
          clear hc hb3 HP HO HB
          go_wp2_with fail
          go_ret2
          exact UfPost.code HT.out HF.out HB3.out
      · have : j = len := by omega
        subst this
        have HE : Hid (bs.take j = bs) := hide (List.take_of_length_le (by rw [H.out.1]; exact Nat.le_refl _))
        rw [HE.out] at HO HXs
        obtain ⟨a6, c6, rfl, hI6, hp6⟩ := owns_pos HO.out HXs.out
        have HQ := hide (readBatch_any wr a6 q c6 (unL bs) hI6 hp6 (by omega))
        have HK : Hid (Chk bs s) := hide (fun i hi => HCk.out i (by have := H.out.1; omega))
        clear hI6 hp6 HO HXs HCk
        go_wp2_with fail
        refine HQ.out.mono ?_
        rintro e w4 ⟨⟨v, rs, ok, rfl, hr, ho⟩, hb4⟩
        have HB4 : Hid (Below w2.heap.size w2 w4) := hide (HB.out.trans (hb4.mono HB.out.size))
        have HB0 := hide HB.out.size
        clear HQ HB hb4
        cases ok with
        | true =>
          have HU := hide (UnR.of_chk HK.out hr 0 (by simp))
          have HO4 := hide (own_le (ho rfl) HB0.out)
          clear hr ho
          go_wp2_with fail
          go_ret2
          exact UfPost.ok HT.out HU.out HO4.out HB4.out
        | false =>
          have HU : Hid (UnR bs s [] 6) := hide (UnR.of_text (hr.elim (fun h => by cases h.1) (fun h => .inr h)) (by omega))
          clear hr ho
          go_wp2_with fail
          go_ret2
          exact UfPost.code HT.out HU.out HB4.out
  · have HT : Hid (startB s = false) := hide (by simpa using hst)
    rw [HT.out] at HS
    clear hst
    go_enter Try.func12, Try.ntmps12
    go_wp2_with fail
    refine HS.out.mono ?_
    rintro e w2 ⟨rfl, rfl⟩
    go_wp2_with fail
    go_ret2
    exact UfPost.range HT.out (Below.refl _ _)
section
open Go.ChangeShapes Go.WideShapes Go.Deep
variable {H : Type} {enc : TypeId × Value → H} {W : World} {base : Nat} {spare : Nat → Bool} {held : Bool}
theorem open_strs2 {fuel : Nat} {cs : List Value} {x : DataW H × List MemPlace} (h : DataW.trod enc Try.prog W base spare held fuel 22 cs = some x) (hlt : ∀ p ∈ x.2, p.block < W.heap.size) :
    ∃ a len cap l, cs = [.slice a len cap] ∧ IsT W a len cap l ∧ len ≤ Rows.uptoBulk x.1 ∧ (a = none → cap = 0) := by
  rcases open_strings Try.underlying22 Try.underlying9 ocells9 h with ⟨rfl, _⟩ | ⟨a, len, cap, ss, rfl, hb, hl, hm, hss, rfl, hcell, hsz⟩
  · exact ⟨none, 0, 0, [], rfl, ⟨rfl, Nat.le_refl _, Nat.zero_le _, .inl rfl⟩, Nat.zero_le _, fun _ => rfl⟩
  · have hz' : len ≤ ss.length := by rw [hss]; split <;> omega
    refine ⟨some a, len, cap, ss.take len, rfl, ⟨by simp; omega, hl, hm, ?_⟩, ?_, fun e => by cases e⟩
    · by_cases h0 : len = 0
      · exact .inl h0
      · obtain ⟨b, off, spot⟩ := a
        have hspot : spot = none := by
          have := World.cell?_spot (hcell 0 (by omega))
          simpa [Addr.add] using this
        subst hspot
        refine .inr ⟨b, off, rfl, hlt (.cell b off) (MemPlace.mem_row.2 ⟨0, by omega, by simp⟩), fun i hi => ?_⟩
        have := hcell i (by omega)
        rw [oadd0] at this
        rw [this, List.getD_eq_getElem?_getD, List.getD_eq_getElem?_getD, List.getElem?_take, if_pos hi]
    · have := obulk_len (H := H) (strs (ss.take len))
      have e : (strs (H := H) (ss.take len)).length = len := by simp only [strs, List.length_map, List.length_take]; omega
      rw [e] at this
      simp only [Rows.uptoBulk]
      omega
end
end Go.Proofs.Yteckglnfkgfefaa
