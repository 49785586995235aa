/- Append -/
import Derived.Test.YteckglnfkgfefaaJoN
import Derived.Test.YteckglnfkgfefaaJoS
namespace Go.Proofs.Yteckglnfkgfefaa
open Go.RowKit Cod
variable {X : Nat → Prop}
set_option maxRecDepth 40000
set_option linter.unusedSimpArgs false
set_option linter.unusedVariables false
/-- what Append leaves -/
def ApPost (X : Nat → Prop) (w : World) (gj g gs b n : Nat) (r : Jn × St × Int) (e : Ending) (w' : World) : Prop :=
  e = .returned (.int .i64 r.2.2) ∧ IsD X w' g gs b n r.2.1 ∧ IsJ w' gj g r.1 ∧ Frm (fun i => i = gj ∨ SD g gs b i) w w'
theorem frL_lt (rs : List ByteArray) (s : Nat) : ∀ q ∈ frL rs s, ∀ x ∈ q, x < 256 := by
  intro q hq
  obtain ⟨i, hi, rfl⟩ := List.mem_map.1 hq
  refine secL_lt (fun x hx => batL_lt rs x ?_) _ _ _
  exact List.mem_of_mem_drop (List.mem_of_mem_take hx)
theorem IsD.lt {w : World} {g gs b n : Nat} {st : St} (h : IsD X w g gs b n st) : ∀ i, SD g gs b i → i < w.heap.size := by
  obtain ⟨c, hc, _⟩ := h.syn
  obtain ⟨es, clock, hb⟩ := h.map_blk
  rintro i (rfl | rfl | rfl)
  · exact heap_lt h.blk
  · exact heap_lt hc
  · exact heap_lt hb
theorem Frm.orL {S T : Nat → Prop} {a b : World} (h : Frm S a b) : Frm (fun i => T i ∨ S i) a b := h.mono (fun i _ e => .inr e)
/-- a journal's own cells turn: its disk is as it was -/
theorem IsD.setJ {w : World} {gj g gs b n k : Nat} {j : Jn} {st : St} (h : IsD X w g gs b n st) (hj : IsJ w gj g j) (v : Value) : IsD X (w.setCell ⟨gj, k, none⟩ v) g gs b n st := by
  refine h.kept (S := fun i => i = gj) (Frm.set (S := fun i => i = gj) (Frm.refl _ _) rfl _) (by rintro i rfl e; exact hj.ne h e) ?_
  intro i cur m e
  have hne : i ≠ gj := by
    rintro rfl
    rw [hj.blk] at e
    simp at e
  rw [Below.heap_setCell _ _ _ _ hne]
  exact e
theorem append_nil (w : World) (v : Value) : Calls Try.prog 19 #[.pointer none, v] w fun e w' => e = .returned (.int .i64 1) ∧ w' = w := by
  go_enter Try.func19, Try.ntmps19
  go_wp2
  go_ret
  exact ⟨rfl, rfl⟩
set_option maxHeartbeats 2000000 in
theorem append_any (w : World) (gj g gs b n : Nat) (j : Jn) (st : St) (a : Option Addr) (len cap : Nat) (rs : List ByteArray) (hj : IsJ w gj g j) (hd : IsD X w g gs b n st) (h : IsT w a len cap rs) (hw : st.wr < 4611686018427380000) :
    Calls Try.prog 19 #[.pointer (some ⟨gj, 0, none⟩), .slice a len cap] w (ApPost X w gj g gs b n (Jn.append n rs j st)) := by
  have g5 := cell_bk (j := 5) hj.blk rfl
  have g4 := cell_bk (j := 4) hj.blk rfl
  simp only [List.getElem_toArray, List.getElem_cons_zero, List.getElem_cons_succ] at g5 g4
  obtain ⟨R, hR⟩ : ∃ R, R = Jn.append n rs j st := ⟨_, rfl⟩
  rw [← hR]
  unfold Jn.append at hR
  have HR := hide hR
  clear hR
  by_cases hf : j.failed = true
  · have hR := HR.out
    rw [if_pos hf] at hR
    subst hR
    clear HR
    rw [hf] at g5
    have HD := hide hd
    have HJ := hide hj
    clear hd hj h hf
    go_enter Try.func19, Try.ntmps19
    go_wp2_with fail
    go_ret
    exact ⟨rfl, HD.out, HJ.out, Frm.refl _ _⟩
  · have hR := HR.out
    rw [if_neg hf] at hR
    have HR := hide hR
    clear hR
    have hf' : j.failed = false := by simpa using hf
    rw [hf'] at g5
    have HFR := hide (frame_any w a len cap rs h j.nxt)
    have HD := hide hd
    have HJ := hide hj
    have HFA := hide hf'
    have HLT := hide hd.lt
    have hf2 := hj.f2
    have hf1 := hj.f1
    have hc1 := hj.c1
    clear hd hj h hf hf'
    go_enter Try.func19, Try.ntmps19
    go_wp2_with fail
    refine HFR.out.mono ?_
    rintro e w2 ⟨⟨v, rfl, hok, hno⟩, hb2⟩
    have HB2 := hide hb2
    by_cases hE : frE rs j.nxt = 0
    · have HO2 := hide (hok hE)
      have hR := HR.out
      rw [if_neg (fun e => e hE)] at hR
      have hst := (frE_ok hE).2
      have hn62 := startB_le hst
      rw [hE]
      obtain ⟨vs, qs, hvo, _⟩ := id HO2.out
      obtain ⟨av, cv, rfl⟩ : ∃ a c, v = .slice a (frL rs j.nxt).length c := by
        rcases hvo.2 with ⟨rfl, h0⟩ | ⟨q, c, cur, rfl, _⟩
        · exact ⟨none, 0, by rw [h0]⟩
        · exact ⟨_, _, rfl⟩
      obtain ⟨L, hL⟩ : ∃ L, L = (frL rs j.nxt).length := ⟨_, rfl⟩
      rw [← hL] at hR ⊢
      have HR := hide hR
      clear hR
      have HL := hide hL
      have HRM := hide (room_any w2 gj g j (HJ.out.below hb2))
      have hroom : j.room ≤ 1024 := by unfold Jn.room; omega
      clear hok hno hb2 hE hst hvo hL HFR
      go_wp2_with fail
      refine HRM.out.mono ?_
      rintro e w3 ⟨rfl, hb3⟩
      have HB3 : Hid (Below w.heap.size w w3) := hide (HB2.out.trans (hb3.mono HB2.out.size))
      have HO3 := hide (HO2.out.below hb3)
      clear hb3 HRM HO2
      by_cases hfull : j.room < L
      · have d1 : decide ((j.room : Int) < (L : Int)) = true := decide_eq_true (by omega)
        have hR := HR.out
        rw [if_pos hfull] at hR
        subst hR
        clear HR
        go_wp2_with fail
        go_ret
        exact ⟨rfl, HD.out.below HB3.out, HJ.out.below HB3.out, Frm.below HB3.out⟩
      · have d1 : decide ((j.room : Int) < (L : Int)) = false := decide_eq_false (by omega)
        have hR := HR.out
        rw [if_neg hfull] at hR
        have HR := hide hR
        clear hR
        have HLE : Hid (j.nxt + L ≤ j.frm + j.count) := hide (by unfold Jn.room at hfull; omega)
        have HW := hide (jwrite_any (X := X) w3 gj g gs b n w.heap.size j st (.slice av (frL rs j.nxt).length cv) (frL rs j.nxt) (HJ.out.below HB3.out) (HD.out.below HB3.out) HO3.out HLT.out (frL_lt rs j.nxt) (by rw [← HL.out]; omega) (by rw [← HL.out]; omega))
        rw [← HL.out] at HW
        have hwl : IntKind.u64.wrap (L : Int) = (L : Int) := by rw [IntKind.wrap_u64]; omega
        have hwn : IntKind.u64.wrap ((j.nxt : Int) + (L : Int)) = ((j.nxt + L : Nat) : Int) := by rw [IntKind.wrap_u64]; omega
        obtain ⟨⟨W1, W2⟩, hW⟩ : ∃ r, r = St.wrs n j.sec j.nxt (frL rs j.nxt) st := ⟨_, rfl⟩
        rw [← hW] at HW HR
        clear HO3 HB2 hW
        go_wp2_with fail
        refine HW.out.mono ?_
        rintro e w4 ⟨rfl, hd4, hj4, hf4⟩
        have HD4 := hide hd4
        have HJ4 := hide hj4
        have HF4 : Hid (Frm (fun i => i = gj ∨ SD g gs b i) w w4) := hide ((Frm.below HB3.out).trans hf4.orL)
        dsimp only at HD4 HR ⊢
        have g4' := cell_bk (j := 4) hj4.blk rfl
        have g5' := cell_bk (j := 5) hj4.blk rfl
        have f4' := froz_bk hj4.blk 4
        have f5' := froz_bk hj4.blk 5
        simp only [List.getElem_toArray, List.getElem_cons_zero, List.getElem_cons_succ] at g4' g5'
        clear hd4 hj4 hf4 HW g4 g5
        by_cases hz : W2 = 0
        · subst hz
          have hR := HR.out
          rw [if_neg (fun e => e rfl)] at hR
          subst hR
          clear HR
          have HN : Hid (IsJ (w4.setCell ⟨gj, 4, none⟩ (.int .u64 ((j.nxt + L : Nat) : Int))) gj g { j with nxt := j.nxt + L }) := hide ⟨by rw [blk_set HJ4.out.blk]; rfl, HJ4.out.c0, HJ4.out.c1, HJ4.out.f0, by show j.frm ≤ j.nxt + L; omega, HLE.out, by show j.nxt + L ≤ 4611686018427388928; have := HLE.out; omega⟩
          have HDN := hide (HD4.out.setJ (k := 4) HJ4.out (.int .u64 ((j.nxt + L : Nat) : Int)))
          have HFN := hide (HF4.out.set (g := gj) (j := 4) (.inl rfl) (.int .u64 ((j.nxt + L : Nat) : Int)))
          rw [Int.natCast_add] at HN HDN HFN
          go_wp2_with fail
          go_ret
          exact ⟨rfl, HDN.out, HN.out, HFN.out⟩
        · have e0 : (W2 == 0) = false := by simpa using hz
          have hR := HR.out
          rw [if_pos hz] at hR
          subst hR
          clear HR
          have HN : Hid (IsJ (w4.setCell ⟨gj, 5, none⟩ (.bool true)) gj g { j with failed := true }) := hide ⟨by rw [blk_set HJ4.out.blk]; rfl, HJ4.out.c0, HJ4.out.c1, HJ4.out.f0, HJ4.out.f1, HJ4.out.f2, HJ4.out.f3⟩
          have HDN := hide (HD4.out.setJ (k := 5) HJ4.out (.bool true))
          have HFN := hide (HF4.out.set (g := gj) (j := 5) (.inl rfl) (.bool true))
          go_wp2_with fail
          go_ret
          exact ⟨rfl, HDN.out, HN.out, HFN.out⟩
    · have hR := HR.out
      rw [if_pos hE] at hR
      obtain rfl := hno hE
      subst hR
      clear HR
      have e0 : (frE rs j.nxt == 0) = false := by simpa using hE
      clear hok hno hb2 HFR
      generalize frE rs j.nxt = E at *
      go_wp2_with fail
      go_ret
      exact ⟨rfl, HD.out.below HB2.out, HJ.out.below HB2.out, Frm.below HB2.out⟩
end Go.Proofs.Yteckglnfkgfefaa
