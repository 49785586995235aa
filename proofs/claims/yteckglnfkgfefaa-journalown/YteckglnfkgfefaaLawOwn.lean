/- JournalOwn, walked -/
import Derived.Test.YteckglnfkgfefaaLawBack
namespace Go.Proofs.Yteckglnfkgfefaa
open Go.RowKit Cod
set_option maxRecDepth 40000
set_option linter.unusedSimpArgs false
set_option linter.unusedVariables false
/-- a row of sectors, all below U, whose numbers may have been turned -/
def Tn (W : World) (B U g m c : Nat) : Prop := ∃ (bs : List (List Nat)) (vs : List Value) (qs : Nat → Nat), bs.length = m ∧ (∀ q ∈ bs, ∀ x ∈ q, x < 256) ∧ W.ownsRow B 34 1 (.slice (some ⟨g, 0, none⟩) m c) m vs ∧ LieBB W B vs qs bs ∧ ∀ i, i < m → qs i < U
theorem Tn.of {W : World} {B g m c : Nat} {bs : List (List Nat)} (h : OwnBB W B (.slice (some ⟨g, 0, none⟩) m c) bs) (hm : bs.length = m) (hx : ∀ q ∈ bs, ∀ x ∈ q, x < 256) : Tn W B W.heap.size g m c := by
  obtain ⟨vs, qs, h1, h2⟩ := h
  exact ⟨bs, vs, qs, hm, hx, by rw [hm] at h1; exact h1, h2, fun i hi => h2.lt i (by omega)⟩
theorem Tn.below {W W' : World} {B U g m c : Nat} (h : Tn W B U g m c) (hb : Below W.heap.size W W') : Tn W' B U g m c := by
  obtain ⟨bs, vs, qs, h1, h2, h3, h4, h5⟩ := h
  exact ⟨bs, vs, qs, h1, h2, own34_below h3 hb, h4.below hb, h5⟩
theorem Tn.spot {W : World} {B U g m c i k : Nat} (h : Tn W B U g m c) (hi : i < m) (hk : k < 4096) :
    ∃ q x, B ≤ q ∧ q < U ∧ x < 256 ∧ W.cell? ⟨g, i, none⟩ = some (.slice (some ⟨q, 0, none⟩) 4096 4096) ∧ W.cell? ⟨q, k, none⟩ = some (.int .u8 (x : Nat)) ∧ W.frozen? ⟨q, k, none⟩ = false ∧
      (∀ o : Nat, o < 256 → Tn (W.setCell ⟨q, k, none⟩ (.int .u8 (o : Nat))) B U g m c) ∧ ∃ cur, W.heap[q]? = some (.cells cur 5 (0, 0)) := by
  obtain ⟨bs, vs, qs, hl, hx, hvo, hvl, hU⟩ := h
  have hi' : i < bs.length := by omega
  obtain ⟨e1, e2, e3, e4⟩ := hvl i hi'
  have hci := hvo.cells (g := g) rfl _ _ e1
  rw [Addr.add_lit, Nat.zero_add] at hci
  have hxl : (bs.getD i []).getD k 0 < 256 := by
    refine getD_lt _ _ ?_
    rw [List.getD_eq_getElem?_getD, List.getElem?_eq_getElem hi']
    exact hx _ (List.getElem_mem _)
  have e3' := e3
  obtain ⟨_, _, _, cur, h5, _⟩ := e3'
  refine ⟨qs i, (bs.getD i []).getD k 0, e2, hU i hi, hxl, hci, e3.cell hk, e3.frozen k, fun o ho => ?_, cur, h5⟩
  have hp := LieBB.poke (k := k) (o := o) hvo hvl hi'
  exact ⟨bs.set i ((bs.getD i []).set k o), vs, qs, by rw [List.length_set]; exact hl, mem_poke hx ho hi', hp.1, hp.2, hU⟩
theorem Tn.row {W : World} {B U g m c i : Nat} (h : Tn W B U g m c) (hi : i < m) : ∃ q, W.cell? ⟨g, i, none⟩ = some (.slice (some ⟨q, 0, none⟩) 4096 4096) := by
  obtain ⟨q, x, _, _, _, h1, _⟩ := h.spot (k := 0) hi (by omega)
  exact ⟨q, h1⟩
theorem IsTT.poke {W : World} {v : Value} {rs : List ByteArray} {q k : Nat} {z : Value} (h : IsTT W v rs) (hq : ∃ cur, W.heap[q]? = some (.cells cur 5 (0, 0))) : IsTT (W.setCell ⟨q, k, none⟩ z) v rs := by
  refine h.kept ?_
  intro i cur m e
  have hne : i ≠ q := by
    rintro rfl
    obtain ⟨c, hc⟩ := hq
    rw [hc] at e
    simp at e
  rw [Below.heap_setCell _ _ _ _ hne]
  exact e
/-- what the loops keep: the first row turns, then the second -/
structure Kq (w W : World) (rs : List ByteArray) (r : Value) (B U g c B' U' g' c' m : Nat) : Prop where
  x : Tn W B U g m c
  y : Tn W B' U' g' m c'
  t : IsTT W r rs
  b : Below w.heap.size w W
theorem Kq.poke {w W : World} {rs : List ByteArray} {r : Value} {B U g c B' U' g' c' m i k : Nat} (h : Kq w W rs r B U g c B' U' g' c' m) (hB : w.heap.size ≤ B) (hU : U ≤ B') (hi : i < m) (hk : k < 4096) :
    ∃ q x, x < 256 ∧ W.cell? ⟨g, i, none⟩ = some (.slice (some ⟨q, 0, none⟩) 4096 4096) ∧ W.cell? ⟨q, k, none⟩ = some (.int .u8 (x : Nat)) ∧ W.frozen? ⟨q, k, none⟩ = false ∧ ∀ o : Nat, o < 256 → Kq w (W.setCell ⟨q, k, none⟩ (.int .u8 (o : Nat))) rs r B U g c B' U' g' c' m := by
  obtain ⟨q, x, h1, h2, h3, h4, h5, h6, h7, h8⟩ := h.x.spot hi hk
  refine ⟨q, x, h3, h4, h5, h6, fun o ho => ⟨h7 o ho, ?_, h.t.poke h8, h.b.setCell (p := ⟨q, k, none⟩) (by show w.heap.size ≤ q; omega) _⟩⟩
  obtain ⟨bs, vs, qs, g1, g2, g3, g4, g5⟩ := h.y
  have hf : Frm (fun i => i = q) W (W.setCell ⟨q, k, none⟩ (.int .u8 (o : Nat))) := Frm.set (S := fun i => i = q) (Frm.refl _ _) rfl _
  exact ⟨bs, vs, qs, g1, g2, own34_frm g3 hf (fun i e => by rw [e]; omega), g4.frm hf (fun i e => by rw [e]; omega), g5⟩
/-- the second row turns, the first one is as it may be -/
structure Kr (w W : World) (rs : List ByteArray) (r : Value) (B' U' g' c' m : Nat) : Prop where
  y : Tn W B' U' g' m c'
  t : IsTT W r rs
  b : Below w.heap.size w W
theorem Kr.poke {w W : World} {rs : List ByteArray} {r : Value} {B' U' g' c' m i k : Nat} (h : Kr w W rs r B' U' g' c' m) (hB : w.heap.size ≤ B') (hi : i < m) (hk : k < 4096) :
    ∃ q x, x < 256 ∧ W.cell? ⟨g', i, none⟩ = some (.slice (some ⟨q, 0, none⟩) 4096 4096) ∧ W.cell? ⟨q, k, none⟩ = some (.int .u8 (x : Nat)) ∧ W.frozen? ⟨q, k, none⟩ = false ∧ ∀ o : Nat, o < 256 → Kr w (W.setCell ⟨q, k, none⟩ (.int .u8 (o : Nat))) rs r B' U' g' c' m := by
  obtain ⟨q, x, h1, h2, h3, h4, h5, h6, h7, h8⟩ := h.y.spot hi hk
  exact ⟨q, x, h3, h4, h5, h6, fun o ho => ⟨h7 o ho, h.t.poke h8, h.b.setCell (p := ⟨q, k, none⟩) (by show w.heap.size ≤ q; omega) _⟩⟩
theorem up8 (x : Nat) (h : x < 256) : IntKind.u8.wrap ((x : Int) + 1) = (((x + 1) % 256 : Nat) : Int) := by
  unfold IntKind.wrap
  simp [IntKind.signed, IntKind.bits]
set_option maxHeartbeats 4000000 in
theorem ownWalk (a : Option Addr) (len cap : Nat) (rs : List ByteArray) (s : Nat) (w : World) (h : IsT w a len cap rs) :
    Calls Try.prog 9 #[.slice a len cap, .int .u64 (s : Nat)] w fun e w' => e = .returned (.bool true) ∧ Below w.heap.size w w' := by
  have HT := hide h
  clear h
  go_enter Try.func9, Try.ntmps9
  go_wp2_with fail
  refine (lives_any w).mono ?_
  rintro e w1 ⟨rfl, hb1⟩
  have HB1 := hide hb1
  have HF := hide (frame_any w1 a len cap rs (HT.out.below hb1) s)
  clear hb1
  go_wp2_with fail
  refine HF.out.mono ?_
  rintro e w2 ⟨⟨v, rfl, hok, hno⟩, hb2⟩
  have HB2 : Hid (Below w.heap.size w w2) := hide (HB1.out.trans (hb2.mono HB1.out.size))
  by_cases hE : frE rs s = 0
  · have hown := hok hE
    obtain ⟨hokB, hst⟩ := frE_ok hE
    have HOK := hide hokB
    have HST := hide hst
    have HEE := hide hE
    obtain ⟨g, c, rfl⟩ := own_slice hown (fr_pos rs s)
    have hfew := frL_few (s := s) hokB
    have HA2 := hide (Tn.of (by rw [← show (frL rs s).length = (frL rs s).length from rfl] at hown; exact hown) rfl (frL_lt rs s))
    have HBB1 : Hid (w.heap.size ≤ w1.heap.size) := hide HB1.out.size
    have HF2 := hide (frame_any w2 a len cap rs (HT.out.below HB2.out) s)
    obtain ⟨m, hm⟩ : ∃ m, m = (frL rs s).length := ⟨_, rfl⟩
    have HM := hide hm
    have hm1 : 1 ≤ m := by rw [hm]; exact fr_pos rs s
    rw [← hm] at hfew HA2 ⊢
    rw [hE]
    clear hok hno hb2 hE hown hokB hst hm HF HB1
    go_wp2_with fail
    refine HF2.out.mono ?_
    rintro e w3 ⟨⟨v, rfl, hok, _⟩, hb3⟩
    have hown := hok HEE.out
    obtain ⟨gb, cb, rfl⟩ := own_slice hown (fr_pos rs s)
    obtain ⟨a3, c3, hv3, hI3⟩ := hown.isBB (frL_lt rs s)
    cases hv3
    have HA3 := hide (HA2.out.below hb3)
    have HBo3 := hide hown
    have HB3 : Hid (Below w.heap.size w w3) := hide (HB2.out.trans (hb3.mono HB2.out.size))
    rw [← HM.out] at hI3
    have HUF := hide (unframe_any w3 _ m _ _ hI3 hfew s)
    rw [HEE.out, ← HM.out]
    have HZ2 : Hid (w2.heap.size ≤ w3.heap.size) := hide hb3.size
    have HW2 : Hid (w.heap.size ≤ w2.heap.size) := hide HB2.out.size
    clear hok hown hb3 hI3 HF2
    go_wp2_with fail
    refine HUF.out.mono ?_
    rintro e w4 ⟨⟨r, rs', rfl, _, hun, hro⟩ | ⟨hf, _⟩ | ⟨_, hun, _⟩, hb4⟩
    · have hrr : rs' = rs := by
        rcases hun with ⟨_, h1, h2⟩ | ⟨h0, _⟩
        · exact frL_inj h1 HOK.out h2
        · exact absurd rfl h0
      subst hrr
      have HB4 : Hid (Below w.heap.size w w4) := hide (HB3.out.trans (hb4.mono HB3.out.size))
      have HR4 := hide (isTT_own hro)
      have hbo := HBo3.out.below hb4
      have hTb := Tn.of hbo rfl (frL_lt rs' s)
      rw [← HM.out] at hTb
      have HK4 : Hid (Kq w w4 rs' r w1.heap.size w2.heap.size g c w2.heap.size w4.heap.size gb cb m) := hide ⟨HA3.out.below hb4, hTb, HR4.out, HB4.out⟩
      obtain ⟨ra, rc, rfl, _, _⟩ := id HR4.out
      clear hun hro hb4 HUF HA3 HBo3 hbo hTb HB4 HR4
      generalize hRV : (Value.slice ra rs'.length rc) = rv at *
      have HRV := hide hRV
      clear hRV
      go_wp2_with fail
      go_loopw [44] (fun i wr => ∃ j : Nat, j ≤ m ∧ i = .int .i64 (j : Nat) ∧ Kq w wr rs' rv w1.heap.size w2.heap.size g c w2.heap.size w4.heap.size gb cb m) (fun i _ => m - (intOf i).toNat)
      case atStart => exact ⟨0, Nat.zero_le _, rfl, HK4.out⟩
      case round =>
        obtain ⟨j, hj, rfl, hk⟩ := hrel
        have HK := hide hk
        clear hk HK4
        by_cases hjm : j < m
        · go_wp2_with fail
          go_loopw [12] (fun kv wr => ∃ k : Nat, k ≤ 4196 ∧ kv = .int .i64 (k : Nat) ∧ Kq w wr rs' rv w1.heap.size w2.heap.size g c w2.heap.size w4.heap.size gb cb m) (fun kv _ => 5000 - (intOf kv).toNat)
          case atStart => exact ⟨0, by omega, rfl, HK.out⟩
          case round =>
            obtain ⟨k, hkk, rfl, hk⟩ := hrel
            have HKi := hide hk
            clear hk
            by_cases hk4 : k < 4096
            · obtain ⟨q, x, hx, hc1, hc2, hfz, hpk⟩ := HKi.out.poke HBB1.out (Nat.le_refl _) hjm hk4
              have HP := hide (hpk ((x + 1) % 256) (Nat.mod_lt _ (by decide)))
              have hup := up8 x hx
              clear hpk
              generalize (x + 1) % 256 = y at *
              go_wp2_with fail
              exact ⟨⟨k + 100, by omega, by simp, HP.out⟩, by simp [intOf]; omega⟩
            · obtain ⟨q, hc1⟩ := HKi.out.x.row hjm
              go_wp2_with fail
              exact ⟨⟨j + 1, by omega, by simp, HKi.out⟩, by simp [intOf]; omega⟩
        · have : j = m := by omega
          subst this
          have HR5 : Hid (Kr w wr rs' rv w2.heap.size w4.heap.size gb cb j) := hide ⟨HK.out.y, HK.out.t, HK.out.b⟩
          clear HK
          rename_i Kc hKc
          go_wp2_with fail
          go_loopw [68] (fun i wr => ∃ j2 : Nat, j2 ≤ j ∧ i = .int .i64 (j2 : Nat) ∧ Kr w wr rs' rv w2.heap.size w4.heap.size gb cb j) (fun i _ => j - (intOf i).toNat)
          case atStart => exact ⟨0, Nat.zero_le _, rfl, HR5.out⟩
          case round =>
            obtain ⟨j2, hj2, rfl, hk⟩ := hrel
            have HK := hide hk
            clear hk HR5
            by_cases hjm : j2 < j
            · go_wp2_with fail
              go_loopw [14] (fun kv wr => ∃ k : Nat, k ≤ 4196 ∧ kv = .int .i64 (k : Nat) ∧ Kr w wr rs' rv w2.heap.size w4.heap.size gb cb j) (fun kv _ => 5000 - (intOf kv).toNat)
              case atStart => exact ⟨0, by omega, rfl, HK.out⟩
              case round =>
                obtain ⟨k, hkk, rfl, hk⟩ := hrel
                have HKi := hide hk
                clear hk
                by_cases hk4 : k < 4096
                · obtain ⟨q, x, hx, hc1, hc2, hfz, hpk⟩ := HKi.out.poke HW2.out hjm hk4
                  have HP := hide (hpk ((x + 1) % 256) (Nat.mod_lt _ (by decide)))
                  have hup := up8 x hx
                  clear hpk
                  generalize (x + 1) % 256 = y at *
                  go_wp2_with fail
                  exact ⟨⟨k + 77, by omega, by simp, HP.out⟩, by simp [intOf]; omega⟩
                · obtain ⟨q, hc1⟩ := HKi.out.y.row hjm
                  go_wp2_with fail
                  exact ⟨⟨j2 + 1, by omega, by simp, HKi.out⟩, by simp [intOf]; omega⟩
            · have HF5 := hide (frame_any wr a len cap rs' (HT.out.below HK.out.b) s)
              go_wp2_with fail
              refine HF5.out.mono ?_
              rintro e w5 ⟨⟨v5, rfl, hok5, _⟩, hb5⟩
              obtain ⟨g5, c5, rfl⟩ := own_slice (hok5 HEE.out) (fr_pos rs' s)
              rw [HEE.out, ← HM.out]
              have HB5 : Hid (Below w.heap.size w w5) := hide (HK.out.b.trans (hb5.mono HK.out.b.size))
              obtain ⟨ra5, rc5, hrv, hrT, _⟩ := HK.out.t.kept (K9.below hb5)
              subst hrv
              rw [HT.out.1] at hrT
              have hT5 := HT.out.below HB5.out
              have HSM := hide (sameT_any ra5 len rc5 rs' a cap w5 hrT hT5)
              have hlenT : rs'.length = len := HT.out.1
              rw [hlenT]
              clear hok5 hb5 HF5 hrT hT5
              go_wp2_with fail
              refine HSM.out.mono ?_
              rintro e w6 ⟨rfl, hb6⟩
              have HB6 : Hid (Below w.heap.size w w6) := hide (HB5.out.trans (hb6.mono HB5.out.size))
              clear hb6 HSM
              go_wp2_with fail
              go_ret
              exact ⟨rfl, HB6.out⟩
    · rw [HST.out] at hf; cases hf
    · exfalso
      rcases hun with ⟨h0, _⟩ | ⟨_, h1⟩
      · cases h0
      · exact h1 rs HOK.out rfl
  · obtain rfl := hno hE
    have e0 : (frE rs s == 0) = false := by simpa using hE
    clear hok hno hb2 HF
    generalize frE rs s = E at *
    go_wp2_with fail
    go_ret
    exact ⟨rfl, HB2.out⟩
end Go.Proofs.Yteckglnfkgfefaa
