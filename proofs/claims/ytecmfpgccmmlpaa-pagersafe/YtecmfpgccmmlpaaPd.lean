/- the disk through the interface: a block's write; inTurn -/
import Derived.Test.YtecmfpgccmmlpaaPc
namespace Go.Proofs.Ytecmfpgccmmlpaa
open Go.RowKit
set_option maxRecDepth 100000
set_option linter.unusedVariables false
set_option linter.unusedSimpArgs false
theorem method_write (w : World) (a : Addr) : (method 251 34 (.pointer (some a)) "Write").run Try.prog w = .ok (115, .pointer (some a)) w := by kernel_rfl
theorem method_read (w : World) (a : Addr) : (method 251 34 (.pointer (some a)) "Read").run Try.prog w = .ok (114, .pointer (some a)) w := by kernel_rfl
theorem method_sync (w : World) (a : Addr) : (method 251 34 (.pointer (some a)) "Sync").run Try.prog w = .ok (44, .pointer (some a)) w := by kernel_rfl
theorem method_sectors (w : World) (a : Addr) : (method 251 34 (.pointer (some a)) "Sectors").run Try.prog w = .ok (40, .pointer (some a)) w := by kernel_rfl
/-- a block that is to be written -/
def blkC (g : Nat) (i : Int) (a : Option Addr) (len cap : Nat) : Array Value := #[.iface 34 (.pointer (some ⟨g, 0, none⟩)), .int .i64 i, .slice a len cap]
theorem bwrite_any (w : World) (g gs b n : Nat) (st : St) (h : IsD NoX w g gs b n st) (i : Int) (a : Option Addr) (len cap : Nat) (l : List Nat) (hB : IsB w a len cap l) (hw : st.wr < 4611686018427387904) :
    Calls Try.prog 43 #[.agg (blkC g i a len cap)] w fun e w' => e = .returned (.int .i64 (st.write n i l).2) ∧ IsD NoX w' g gs b n (st.write n i l).1 ∧ Frm (SD g gs b) w w' := by
  unfold blkC
  have hb0 : Below w.heap.size w (w.alloc (.cells #[.iface 34 (.pointer (some ⟨g, 0, none⟩)), .int .i64 i, .slice a len cap] 73)) := (Below.refl _ w).alloc (Nat.le_refl _) _
  have HW := hide (write_any (X := NoX) (w.alloc (.cells #[.iface 34 (.pointer (some ⟨g, 0, none⟩)), .int .i64 i, .slice a len cap] 73)) g gs b n st (h.below hb0) i a len cap l (hB.below hb0) hw)
  have HF : Hid (Frm (SD g gs b) w (w.alloc (.cells #[.iface 34 (.pointer (some ⟨g, 0, none⟩)), .int .i64 i, .slice a len cap] 73))) := hide (Frm.below hb0)
  have hm : ∀ W : World, (method 251 34 (.pointer (some ⟨g, 0, none⟩)) "Write").run Try.prog W = .ok (115, .pointer (some ⟨g, 0, none⟩)) W := fun W => method_write W _
  clear h hB hw hb0
  generalize st.write n i l = R at *
  go_enter Try.func43, Try.ntmps43
  go_wp2_with fail
  go_at_call 115
  refine HW.out.mono ?_
  rintro e w1 ⟨rfl, h1, h2⟩
  have H1 := hide h1
  have H2 := hide (HF.out.trans h2)
  clear h1 h2 HW HF
  go_wp2
  go_ret
  exact ⟨rfl, H1.out, H2.out⟩
theorem IsD.noT {X : Nat → Prop} {w : World} {g gs b n : Nat} {st : St} (h : IsD X w g gs b n st) {t : TypeId} (h1 : t ≠ 68) (h2 : t ≠ 25) {i : Nat} {cur : Array Value} {m : Nat × Nat} (hi : SD g gs b i) : w.heap[i]? ≠ some (.cells cur t m) := by
  intro e
  rcases hi with rfl | rfl | rfl
  · rw [h.blk] at e; simp at e; exact h1 e.2.1.symm
  · obtain ⟨c, hc, _⟩ := h.syn; rw [hc] at e; simp at e; exact h2 e.2.1.symm
  · obtain ⟨es, clock, hb⟩ := h.map_blk; rw [hb] at e; cases e
/-- three steps, till one of them can't be done -/
def seq3 (s : St) (T0 T1 T2 : St → St × Int) : St × Int := if (T0 s).2 ≠ 0 then T0 s else if (T1 (T0 s).1).2 ≠ 0 then T1 (T0 s).1 else T2 (T1 (T0 s).1).1
set_option maxHeartbeats 1000000 in
theorem inTurnF (w : World) (g gs b n : Nat) (st : St) (h : IsD NoX w g gs b n st) (i : Int) (a : Option Addr) (len cap : Nat) (B : Nat) (T0 T1 T2 : St → St × Int)
    (c0 : w.heap[B]? = some (.cells #[.func (.func 43) #[.agg (blkC g i a len cap)] #[], .func (.func 43) #[.agg (blkC g 0 none 0 0)] #[], .func (.func 44) #[.pointer (some ⟨g, 0, none⟩)] #[]] 43 (0, 0)))
    (k0 : ∀ (W : World) (s : St), Frm (SD g gs b) w W → IsD NoX W g gs b n s → s = st → Calls Try.prog 43 #[.agg (blkC g i a len cap)] W fun e W' => e = .returned (.int .i64 (T0 s).2) ∧ IsD NoX W' g gs b n (T0 s).1 ∧ Frm (SD g gs b) W W')
    (k1 : ∀ (W : World) (s : St), Frm (SD g gs b) w W → IsD NoX W g gs b n s → s = (T0 st).1 → Calls Try.prog 43 #[.agg (blkC g 0 none 0 0)] W fun e W' => e = .returned (.int .i64 (T1 s).2) ∧ IsD NoX W' g gs b n (T1 s).1 ∧ Frm (SD g gs b) W W')
    (k2 : ∀ (W : World) (s : St), Frm (SD g gs b) w W → IsD NoX W g gs b n s → s = (T1 (T0 st).1).1 → Calls Try.prog 44 #[.pointer (some ⟨g, 0, none⟩)] W fun e W' => e = .returned (.int .i64 (T2 s).2) ∧ IsD NoX W' g gs b n (T2 s).1 ∧ Frm (SD g gs b) W W') :
    Calls Try.prog 42 #[.slice (some ⟨B, 0, none⟩) 3 3] w fun e w' => e = .returned (.int .i64 (seq3 st T0 T1 T2).2) ∧ IsD NoX w' g gs b n (seq3 st T0 T1 T2).1 ∧ Frm (SD g gs b) w w' := by
  have HQ : Hid (∀ W : World, Frm (SD g gs b) w W → W.heap[B]? = w.heap[B]?) := hide (fun W hW => hW.block B (heap_lt c0) (fun e => h.noT (by decide) (by decide) e c0))
  have hm : ∀ W : World, (method 251 34 (.pointer (some ⟨g, 0, none⟩)) "Sync").run Try.prog W = .ok (44, .pointer (some ⟨g, 0, none⟩)) W := fun W => method_sync W _
  have HC := hide c0
  have K0 := hide k0
  have K1 := hide k1
  have K2 := hide k2
  have HD := hide h
  have HS : Hid (∀ x, x = seq3 st T0 T1 T2 → ((T0 st).2 ≠ 0 → x = T0 st) ∧ ((T0 st).2 = 0 → (T1 (T0 st).1).2 ≠ 0 → x = T1 (T0 st).1) ∧ ((T0 st).2 = 0 → (T1 (T0 st).1).2 = 0 → x = T2 (T1 (T0 st).1).1)) := hide (by
    rintro x rfl
    refine ⟨fun h => by rw [seq3, if_pos h], fun h h' => by rw [seq3, if_neg (by simp [h]), if_pos h'], fun h h' => by rw [seq3, if_neg (by simp [h]), if_neg (by simp [h'])]⟩)
  have HS2 := hide (HS.out _ rfl)
  generalize seq3 st T0 T1 T2 = R at *
  clear c0 k0 k1 k2 h HS
  generalize hB : blkC g i a len cap = BC at *
  clear hB
  go_enter Try.func42, Try.ntmps42
  go_wp2_with fail
  go_loopw [8] (fun i wr => Hid (Frm (SD g gs b) w wr) ∧ ((i = .int .i64 0 ∧ Hid (IsD NoX wr g gs b n st)) ∨ (i = .int .i64 1 ∧ Hid (IsD NoX wr g gs b n (T0 st).1 ∧ (T0 st).2 = 0)) ∨ (i = .int .i64 2 ∧ Hid (IsD NoX wr g gs b n (T1 (T0 st).1).1 ∧ (T0 st).2 = 0 ∧ (T1 (T0 st).1).2 = 0)) ∨ (i = .int .i64 3 ∧ Hid (IsD NoX wr g gs b n (T2 (T1 (T0 st).1).1).1 ∧ (T0 st).2 = 0 ∧ (T1 (T0 st).1).2 = 0 ∧ (T2 (T1 (T0 st).1).1).2 = 0)))) (fun i _ => 3 - (intOf i).toNat)
  case atStart => exact ⟨hide (Frm.refl _ _), .inl ⟨rfl, HD⟩⟩
  case round =>
    obtain ⟨HF, hrel⟩ := hrel
    have HB := hide ((HQ.out wr HF.out).trans HC.out)
    rcases hrel with ⟨rfl, HI⟩ | ⟨rfl, HI⟩ | ⟨rfl, HI⟩ | ⟨rfl, HI⟩
    · have q0 : wr.cell? ⟨B, 0, none⟩ = some (.func (.func 43) #[.agg BC] #[]) := cell_bk HB.out rfl
      have CK := hide (K0.out wr st HF.out HI.out rfl)
      obtain ⟨⟨S', e'⟩, hE⟩ : ∃ E, T0 st = E := ⟨_, rfl⟩
      rw [hE] at CK
      have HE := hide hE
      clear hE
      dsimp only at CK
      by_cases he : e' = 0
      · subst he
        go_wp2_with fail
        (try go_at_call 43); refine CK.out.mono ?_
        rintro e w1 ⟨rfl, h1, h2⟩
        have H1 := hide h1
        have H2 := hide (HF.out.trans h2)
        clear h1 h2 CK q0
        go_wp2
        go_roundw
        case rel => exact ⟨H2, .inr (.inl ⟨rfl, hide ⟨by rw [HE.out]; exact H1.out, by rw [HE.out]⟩⟩)⟩
        case measure => simp [intOf]
      · have he1 : (e' != 0) = true := by simpa using he
        go_wp2_with fail
        (try go_at_call 43); refine CK.out.mono ?_
        rintro e w1 ⟨rfl, h1, h2⟩
        have H1 := hide h1
        have H2 := hide (HF.out.trans h2)
        clear h1 h2 CK q0
        have HR : Hid (R = (S', e')) := hide (by rw [HS2.out.1 (by rw [HE.out]; exact he), HE.out])
        go_wp2
        go_ret
        exact ⟨by rw [HR.out]; rfl, by rw [HR.out]; exact H1.out, H2.out⟩
    · have q1 : wr.cell? ⟨B, 1, none⟩ = some (.func (.func 43) #[.agg (blkC g 0 none 0 0)] #[]) := cell_bk HB.out rfl
      have CK := hide (K1.out wr (T0 st).1 HF.out HI.out.1 rfl)
      obtain ⟨⟨S', e'⟩, hE⟩ : ∃ E, T1 (T0 st).1 = E := ⟨_, rfl⟩
      rw [hE] at CK
      have HE := hide hE
      clear hE
      dsimp only at CK
      by_cases he : e' = 0
      · subst he
        go_wp2_with fail
        (try go_at_call 43); refine CK.out.mono ?_
        rintro e w1 ⟨rfl, h1, h2⟩
        have H1 := hide h1
        have H2 := hide (HF.out.trans h2)
        clear h1 h2 CK q1
        go_wp2
        go_roundw
        case rel => exact ⟨H2, .inr (.inr (.inl ⟨rfl, hide ⟨by rw [HE.out]; exact H1.out, HI.out.2, by rw [HE.out]⟩⟩))⟩
        case measure => simp [intOf]
      · have he1 : (e' != 0) = true := by simpa using he
        go_wp2_with fail
        (try go_at_call 43); refine CK.out.mono ?_
        rintro e w1 ⟨rfl, h1, h2⟩
        have H1 := hide h1
        have H2 := hide (HF.out.trans h2)
        clear h1 h2 CK q1
        have HR : Hid (R = (S', e')) := hide (by rw [HS2.out.2.1 HI.out.2 (by rw [HE.out]; exact he), HE.out])
        go_wp2
        go_ret
        exact ⟨by rw [HR.out]; rfl, by rw [HR.out]; exact H1.out, H2.out⟩
    · have q2 : wr.cell? ⟨B, 2, none⟩ = some (.func (.func 44) #[.pointer (some ⟨g, 0, none⟩)] #[]) := cell_bk HB.out rfl
      have CK := hide (K2.out wr (T1 (T0 st).1).1 HF.out HI.out.1 rfl)
      obtain ⟨⟨S', e'⟩, hE⟩ : ∃ E, T2 (T1 (T0 st).1).1 = E := ⟨_, rfl⟩
      rw [hE] at CK
      have HE := hide hE
      clear hE
      dsimp only at CK
      by_cases he : e' = 0
      · subst he
        go_wp2_with fail
        (try go_at_call 44); refine CK.out.mono ?_
        rintro e w1 ⟨rfl, h1, h2⟩
        have H1 := hide h1
        have H2 := hide (HF.out.trans h2)
        clear h1 h2 CK q2
        go_wp2
        go_roundw
        case rel => exact ⟨H2, .inr (.inr (.inr ⟨rfl, hide ⟨by rw [HE.out]; exact H1.out, HI.out.2.1, HI.out.2.2, by rw [HE.out]⟩⟩))⟩
        case measure => simp [intOf]
      · have he1 : (e' != 0) = true := by simpa using he
        go_wp2_with fail
        (try go_at_call 44); refine CK.out.mono ?_
        rintro e w1 ⟨rfl, h1, h2⟩
        have H1 := hide h1
        have H2 := hide (HF.out.trans h2)
        clear h1 h2 CK q2
        have HR : Hid (R = (S', e')) := hide (by rw [HS2.out.2.2 HI.out.2.1 HI.out.2.2, HE.out])
        go_wp2
        go_ret
        exact ⟨by rw [HR.out]; rfl, by rw [HR.out]; exact H1.out, H2.out⟩
    · have HR : Hid (R = T2 (T1 (T0 st).1).1) := hide (HS2.out.2.2 HI.out.2.1 HI.out.2.2.1)
      go_wp2_with fail
      go_ret
      exact ⟨by rw [HR.out, HI.out.2.2.2]; rfl, by rw [HR.out]; exact HI.out.1, HF.out⟩
set_option maxHeartbeats 1000000 in
theorem inTurnC (w : World) (g gs b n : Nat) (st : St) (h : IsD NoX w g gs b n st) (i : Int) (a : Option Addr) (len cap : Nat) (B : Nat) (T0 T1 T2 : St → St × Int)
    (c0 : w.heap[B]? = some (.cells #[.func (.method "Sync") #[.iface 34 (.pointer (some ⟨g, 0, none⟩))] #[], .func (.func 43) #[.agg (blkC g i a len cap)] #[], .func (.method "Sync") #[.iface 34 (.pointer (some ⟨g, 0, none⟩))] #[]] 43 (0, 0)))
    (k0 : ∀ (W : World) (s : St), Frm (SD g gs b) w W → IsD NoX W g gs b n s → s = st → Calls Try.prog 44 #[.pointer (some ⟨g, 0, none⟩)] W fun e W' => e = .returned (.int .i64 (T0 s).2) ∧ IsD NoX W' g gs b n (T0 s).1 ∧ Frm (SD g gs b) W W')
    (k1 : ∀ (W : World) (s : St), Frm (SD g gs b) w W → IsD NoX W g gs b n s → s = (T0 st).1 → Calls Try.prog 43 #[.agg (blkC g i a len cap)] W fun e W' => e = .returned (.int .i64 (T1 s).2) ∧ IsD NoX W' g gs b n (T1 s).1 ∧ Frm (SD g gs b) W W')
    (k2 : ∀ (W : World) (s : St), Frm (SD g gs b) w W → IsD NoX W g gs b n s → s = (T1 (T0 st).1).1 → Calls Try.prog 44 #[.pointer (some ⟨g, 0, none⟩)] W fun e W' => e = .returned (.int .i64 (T2 s).2) ∧ IsD NoX W' g gs b n (T2 s).1 ∧ Frm (SD g gs b) W W') :
    Calls Try.prog 42 #[.slice (some ⟨B, 0, none⟩) 3 3] w fun e w' => e = .returned (.int .i64 (seq3 st T0 T1 T2).2) ∧ IsD NoX w' g gs b n (seq3 st T0 T1 T2).1 ∧ Frm (SD g gs b) w w' := by
  have HQ : Hid (∀ W : World, Frm (SD g gs b) w W → W.heap[B]? = w.heap[B]?) := hide (fun W hW => hW.block B (heap_lt c0) (fun e => h.noT (by decide) (by decide) e c0))
  have hm : ∀ W : World, (method 251 34 (.pointer (some ⟨g, 0, none⟩)) "Sync").run Try.prog W = .ok (44, .pointer (some ⟨g, 0, none⟩)) W := fun W => method_sync W _
  have HC := hide c0
  have K0 := hide k0
  have K1 := hide k1
  have K2 := hide k2
  have HD := hide h
  have HS : Hid (∀ x, x = seq3 st T0 T1 T2 → ((T0 st).2 ≠ 0 → x = T0 st) ∧ ((T0 st).2 = 0 → (T1 (T0 st).1).2 ≠ 0 → x = T1 (T0 st).1) ∧ ((T0 st).2 = 0 → (T1 (T0 st).1).2 = 0 → x = T2 (T1 (T0 st).1).1)) := hide (by
    rintro x rfl
    refine ⟨fun h => by rw [seq3, if_pos h], fun h h' => by rw [seq3, if_neg (by simp [h]), if_pos h'], fun h h' => by rw [seq3, if_neg (by simp [h]), if_neg (by simp [h'])]⟩)
  have HS2 := hide (HS.out _ rfl)
  generalize seq3 st T0 T1 T2 = R at *
  clear c0 k0 k1 k2 h HS
  generalize hB : blkC g i a len cap = BC at *
  clear hB
  go_enter Try.func42, Try.ntmps42
  go_wp2_with fail
  go_loopw [8] (fun i wr => Hid (Frm (SD g gs b) w wr) ∧ ((i = .int .i64 0 ∧ Hid (IsD NoX wr g gs b n st)) ∨ (i = .int .i64 1 ∧ Hid (IsD NoX wr g gs b n (T0 st).1 ∧ (T0 st).2 = 0)) ∨ (i = .int .i64 2 ∧ Hid (IsD NoX wr g gs b n (T1 (T0 st).1).1 ∧ (T0 st).2 = 0 ∧ (T1 (T0 st).1).2 = 0)) ∨ (i = .int .i64 3 ∧ Hid (IsD NoX wr g gs b n (T2 (T1 (T0 st).1).1).1 ∧ (T0 st).2 = 0 ∧ (T1 (T0 st).1).2 = 0 ∧ (T2 (T1 (T0 st).1).1).2 = 0)))) (fun i _ => 3 - (intOf i).toNat)
  case atStart => exact ⟨hide (Frm.refl _ _), .inl ⟨rfl, HD⟩⟩
  case round =>
    obtain ⟨HF, hrel⟩ := hrel
    have HB := hide ((HQ.out wr HF.out).trans HC.out)
    rcases hrel with ⟨rfl, HI⟩ | ⟨rfl, HI⟩ | ⟨rfl, HI⟩ | ⟨rfl, HI⟩
    · have q0 : wr.cell? ⟨B, 0, none⟩ = some (.func (.method "Sync") #[.iface 34 (.pointer (some ⟨g, 0, none⟩))] #[]) := cell_bk HB.out rfl
      have CK := hide (K0.out wr st HF.out HI.out rfl)
      obtain ⟨⟨S', e'⟩, hE⟩ : ∃ E, T0 st = E := ⟨_, rfl⟩
      rw [hE] at CK
      have HE := hide hE
      clear hE
      dsimp only at CK
      by_cases he : e' = 0
      · subst he
        go_wp2_with fail
        (try go_at_call 44); refine CK.out.mono ?_
        rintro e w1 ⟨rfl, h1, h2⟩
        have H1 := hide h1
        have H2 := hide (HF.out.trans h2)
        clear h1 h2 CK q0
        go_wp2
        go_roundw
        case rel => exact ⟨H2, .inr (.inl ⟨rfl, hide ⟨by rw [HE.out]; exact H1.out, by rw [HE.out]⟩⟩)⟩
        case measure => simp [intOf]
      · have he1 : (e' != 0) = true := by simpa using he
        go_wp2_with fail
        (try go_at_call 44); refine CK.out.mono ?_
        rintro e w1 ⟨rfl, h1, h2⟩
        have H1 := hide h1
        have H2 := hide (HF.out.trans h2)
        clear h1 h2 CK q0
        have HR : Hid (R = (S', e')) := hide (by rw [HS2.out.1 (by rw [HE.out]; exact he), HE.out])
        go_wp2
        go_ret
        exact ⟨by rw [HR.out]; rfl, by rw [HR.out]; exact H1.out, H2.out⟩
    · have q1 : wr.cell? ⟨B, 1, none⟩ = some (.func (.func 43) #[.agg BC] #[]) := cell_bk HB.out rfl
      have CK := hide (K1.out wr (T0 st).1 HF.out HI.out.1 rfl)
      obtain ⟨⟨S', e'⟩, hE⟩ : ∃ E, T1 (T0 st).1 = E := ⟨_, rfl⟩
      rw [hE] at CK
      have HE := hide hE
      clear hE
      dsimp only at CK
      by_cases he : e' = 0
      · subst he
        go_wp2_with fail
        (try go_at_call 43); refine CK.out.mono ?_
        rintro e w1 ⟨rfl, h1, h2⟩
        have H1 := hide h1
        have H2 := hide (HF.out.trans h2)
        clear h1 h2 CK q1
        go_wp2
        go_roundw
        case rel => exact ⟨H2, .inr (.inr (.inl ⟨rfl, hide ⟨by rw [HE.out]; exact H1.out, HI.out.2, by rw [HE.out]⟩⟩))⟩
        case measure => simp [intOf]
      · have he1 : (e' != 0) = true := by simpa using he
        go_wp2_with fail
        (try go_at_call 43); refine CK.out.mono ?_
        rintro e w1 ⟨rfl, h1, h2⟩
        have H1 := hide h1
        have H2 := hide (HF.out.trans h2)
        clear h1 h2 CK q1
        have HR : Hid (R = (S', e')) := hide (by rw [HS2.out.2.1 HI.out.2 (by rw [HE.out]; exact he), HE.out])
        go_wp2
        go_ret
        exact ⟨by rw [HR.out]; rfl, by rw [HR.out]; exact H1.out, H2.out⟩
    · have q2 : wr.cell? ⟨B, 2, none⟩ = some (.func (.method "Sync") #[.iface 34 (.pointer (some ⟨g, 0, none⟩))] #[]) := cell_bk HB.out rfl
      have CK := hide (K2.out wr (T1 (T0 st).1).1 HF.out HI.out.1 rfl)
      obtain ⟨⟨S', e'⟩, hE⟩ : ∃ E, T2 (T1 (T0 st).1).1 = E := ⟨_, rfl⟩
      rw [hE] at CK
      have HE := hide hE
      clear hE
      dsimp only at CK
      by_cases he : e' = 0
      · subst he
        go_wp2_with fail
        (try go_at_call 44); refine CK.out.mono ?_
        rintro e w1 ⟨rfl, h1, h2⟩
        have H1 := hide h1
        have H2 := hide (HF.out.trans h2)
        clear h1 h2 CK q2
        go_wp2
        go_roundw
        case rel => exact ⟨H2, .inr (.inr (.inr ⟨rfl, hide ⟨by rw [HE.out]; exact H1.out, HI.out.2.1, HI.out.2.2, by rw [HE.out]⟩⟩))⟩
        case measure => simp [intOf]
      · have he1 : (e' != 0) = true := by simpa using he
        go_wp2_with fail
        (try go_at_call 44); refine CK.out.mono ?_
        rintro e w1 ⟨rfl, h1, h2⟩
        have H1 := hide h1
        have H2 := hide (HF.out.trans h2)
        clear h1 h2 CK q2
        have HR : Hid (R = (S', e')) := hide (by rw [HS2.out.2.2 HI.out.2.1 HI.out.2.2, HE.out])
        go_wp2
        go_ret
        exact ⟨by rw [HR.out]; rfl, by rw [HR.out]; exact H1.out, H2.out⟩
    · have HR : Hid (R = T2 (T1 (T0 st).1).1) := hide (HS2.out.2.2 HI.out.2.1 HI.out.2.2.1)
      go_wp2_with fail
      go_ret
      exact ⟨by rw [HR.out, HI.out.2.2.2]; rfl, by rw [HR.out]; exact HI.out.1, HF.out⟩
end Go.Proofs.Ytecmfpgccmmlpaa
