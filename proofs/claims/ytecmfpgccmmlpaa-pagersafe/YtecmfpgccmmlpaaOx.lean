/- contracts: Write, Read -/
import Derived.Test.YtecmfpgccmmlpaaNx
namespace Go.Proofs.Ytecmfpgccmmlpaa
open Go.RowKit
open Go.Maps (Keyed has size)
variable {X : Nat → Prop}
theorem IsD.noU8 {w : World} {g gs b n : Nat} {st : St} (h : IsD X w g gs b n st) {i j : Nat} {x : Int} (hi : SD g gs b i) : w.cell? ⟨i, j, none⟩ ≠ some (.int .u8 x) := by
  intro e
  rcases hi with rfl | rfl | rfl
  · simp only [World.cell?, h.blk] at e
    match j, e with
    | 0, e => simp at e
    | 1, e => simp at e
    | 2, e => simp at e
    | 3, e => simp at e
    | 4, e => simp at e
    | 5, e => simp at e
    | j + 6, e => simp at e
  · obtain ⟨cur, hc, hsz, hd⟩ := h.syn
    simp only [World.cell?, hc] at e
    by_cases hj : j < n
    · obtain ⟨v, hv, ⟨a, len, cap, rfl, _⟩⟩ := hd j hj
      rw [hv] at e; simp at e
    · cases hv : cur[j]? with
      | none => rw [hv] at e; simp at e
      | some v => rw [hv, hsz.2 j v (by omega) hv] at e; simp at e
  · obtain ⟨es, clock, hb⟩ := h.map_blk
    simp only [World.cell?, hb] at e
    simp at e
/-- bytes that are handed in are as they were -/
theorem IsB.frm {w w' : World} {g gs b n : Nat} {st : St} {a : Option Addr} {len cap : Nat} {l : List Nat} (h : IsB w a len cap l) (hI : IsD X w g gs b n st) (hf : Frm (SD g gs b) w w') : IsB w' a len cap l := by
  obtain ⟨h1, h2, h3, h4, h5⟩ := h
  refine ⟨h1, h2, h3, h4, ?_⟩
  rcases h5 with h5 | ⟨b', off, rfl, hlt, hc⟩
  · exact .inl h5
  · by_cases h0 : len = 0
    · exact .inl ⟨h0, by intro h; cases h⟩
    · have hne : ¬ SD g gs b b' := fun hi => by
        have := hc 0 (by omega)
        exact hI.noU8 hi this
      exact .inr ⟨b', off, rfl, Nat.lt_of_lt_of_le hlt hf.size, fun i hi => (World.cell?_of_block (hf.block b' hlt hne)).trans (hc i hi)⟩
theorem passes_yes' (w : World) (g gs b n : Nat) (st : St) (h : IsD X w g gs b n st) (ha : st.arm = true) (hl : 0 < st.left) :
    Calls Try.prog 117 #[.pointer (some ⟨g, 0, none⟩)] w fun e w' => e = .returned (.bool true) ∧ w' = w.setCell ⟨g, 4, none⟩ (.int .i64 ((st.left - 1 : Nat) : Int)) := by
  have c3 := h.cells.c3
  have c4 := h.cells.c4
  have f4 := h.cells.fz 4
  have hlm := h.left
  rw [ha] at c3
  have e1 : ((st.left - 1 : Nat) : Int) = (st.left : Int) - 1 := by omega
  rw [e1]
  have hz : ((st.left : Int) == 0) = false := by simp; omega
  clear h ha e1
  generalize st.left = L at *
  go_enter Try.func117, Try.ntmps117
  go_wp2
  go_ret
  exact ⟨rfl, rfl⟩
/-- the disk behind a write that goes -/
def St.goes (st : St) (i : Nat) (l : List Nat) : St := (if st.arm then st.less else st).puts i l
theorem write_ok (w : World) (g gs b n : Nat) (st : St) (h : IsD X w g gs b n st) (hd : st.down = false) (i : Nat) (hi : i < n) (a : Option Addr) (len cap : Nat) (l : List Nat) (hB : IsB w a len cap l) (hl : len ≤ 4096) (hw : st.wr < 4611686018427387904) (hp : st.arm = true → 0 < st.left) :
    Calls Try.prog 115 #[.pointer (some ⟨g, 0, none⟩), .int .i64 (i : Int), .slice a len cap] w fun e w' => e = .returned (.int .i64 0) ∧ IsD X w' g gs b n (st.goes i l) ∧ Frm (SD g gs b) w w' := by
  unfold St.goes
  cases ha : st.arm
  · exact write_tail w g gs b n st h hd i hi a len cap l hl hw st w h (Frm.refl _ _) hB rfl (passes_off w g gs b n st h ha)
  · have hl0 := hp ha
    have hI : IsD X (w.setCell ⟨g, 4, none⟩ (.int .i64 ((st.left - 1 : Nat) : Int))) g gs b n st.less := h.upd (Frm.set (S := fun i => i = g) (Frm.refl _ _) rfl _) (by rw [blk_set h.blk]; rfl) rfl rfl (Nat.le_refl _) h.wr (by have := h.left; simp only [St.less]; omega)
    have hF : Frm (SD g gs b) w (w.setCell ⟨g, 4, none⟩ (.int .i64 ((st.left - 1 : Nat) : Int))) := Frm.set (Frm.refl _ _) (.inl rfl) _
    exact write_tail w g gs b n st h hd i hi a len cap l hl hw st.less _ hI hF (hB.frm h hF) rfl (passes_yes' w g gs b n st h ha hl0)
/-- what is read from a sector -/
def St.reads (st : St) (i : Nat) : List Nat := (st.fr i).getD (st.syn i)
/-- (*Disk).Read -/
theorem read_dn (w : World) (g gs b n : Nat) (st : St) (h : IsD X w g gs b n st) (hd : st.down = true) (i : Int) :
    Calls Try.prog 114 #[.pointer (some ⟨g, 0, none⟩), .int .i64 i] w fun e w' => e = .returned (.tuple #[.slice none 0 0, .int .i64 8]) ∧ w' = w := by
  have RD := hide (ready_dn w g gs b n st h hd)
  clear h hd
  go_enter Try.func114, Try.ntmps114
  go_wp2_with fail
  refine RD.out.mono ?_
  rintro e w' ⟨rfl, rfl⟩
  go_wp2
  go_ret2
  exact ⟨rfl, rfl⟩
theorem read_nil (w : World) (i : Int) : Calls Try.prog 114 #[.pointer none, .int .i64 i] w fun e w' => e = .returned (.tuple #[.slice none 0 0, .int .i64 1]) ∧ w' = w := by
  go_enter Try.func114, Try.ntmps114
  go_wp2_with fail
  refine (ready_nil w).mono ?_
  rintro e w' ⟨rfl, rfl⟩
  go_wp2
  go_ret2
  exact ⟨rfl, rfl⟩
theorem read_range (w : World) (g gs b n : Nat) (st : St) (h : IsD X w g gs b n st) (hd : st.down = false) (i : Int) (hi : ¬ (0 ≤ i ∧ i < n)) :
    Calls Try.prog 114 #[.pointer (some ⟨g, 0, none⟩), .int .i64 i] w fun e w' => e = .returned (.tuple #[.slice none 0 0, .int .i64 2]) ∧ w' = w := by
  have RD := hide (ready_up w g gs b n st h hd)
  have HA := hide (has_any w g gs b n st h i)
  rw [hasB_false hi] at HA
  clear h hd hi
  go_enter Try.func114, Try.ntmps114
  go_wp2_with fail
  refine RD.out.mono ?_
  rintro e w' ⟨rfl, rfl⟩
  go_wp2_with fail
  refine HA.out.mono ?_
  rintro e w' ⟨rfl, rfl⟩
  go_wp2
  go_ret2
  exact ⟨rfl, rfl⟩
set_option maxRecDepth 20000 in
theorem read_ok (w : World) (g gs b n : Nat) (st : St) (h : IsD X w g gs b n st) (hd : st.down = false) (i : Nat) (hi : i < n) :
    Calls Try.prog 114 #[.pointer (some ⟨g, 0, none⟩), .int .i64 (i : Int)] w fun e w' => ∃ q, e = .returned (.tuple #[.slice (some ⟨q, 0, none⟩) 4096 4096, .int .i64 0]) ∧ w.heap.size ≤ q ∧ Row w' q 4096 4096 (full (st.reads i)) ∧ Below w.heap.size w w' := by
  have RD := hide (ready_up w g gs b n st h hd)
  have HA := hide (has_any w g gs b n st h i)
  rw [hasB_true (by omega) (by omega)] at HA
  have c0 := h.cells.c0
  have c1 := h.cells.c1
  have hn1 := h.n1
  obtain ⟨m, D, hown, hm, hfr⟩ := h.map
  obtain ⟨cur, hc, hsz, hsy⟩ := h.syn
  obtain ⟨v0, hv0, hd0⟩ := hsy i hi
  have cs : w.cell? ⟨gs, i, none⟩ = some v0 := by simp only [World.cell?, hc]; exact hv0
  obtain ⟨v, pl, hlk, hRv⟩ := hown.look_ok kint Try.underlying66 (zero32 w) (zd := .held (.slice none 0 0)) (zp := []) rfl (keyOf_ky i (by omega))
  have HI := hide hi
  rcases hfr.1 i hi with ⟨hf, hh⟩ | ⟨l, v', hf, hh, hdv, hat⟩
  · rw [hh] at hlk
    obtain ⟨a0, len0, cap0, rfl, hB0, hl0, _⟩ := hd0
    have WH := hide (whole_any a0 len0 cap0 _ w hB0 hl0)
    have HR : Hid (st.reads i = st.syn i) := hide (by unfold St.reads; rw [hf]; rfl)
    clear h hd hi hown hfr hc hsy hv0 hB0 hl0 hRv hf hh hm
    go_enter Try.func114, Try.ntmps114
    go_wp2_with fail
    refine RD.out.mono ?_
    rintro e w' ⟨rfl, rfl⟩
    go_wp2_with fail
    refine HA.out.mono ?_
    rintro e w' ⟨rfl, rfl⟩
    go_wp2_with fail
    refine WH.out.mono ?_
    rintro e w2 ⟨q, rfl, hq, hrow, hb⟩
    go_wp2
    go_ret2
    exact ⟨q, rfl, hq, by rw [HR.out]; exact hrow, hb⟩
  · rw [hh] at hlk
    rw [hat] at hRv
    obtain rfl : v = v' := by simp [heldR] at hRv; exact hRv.1
    obtain ⟨a0, len0, cap0, rfl, hB0, hl0, _⟩ := hdv
    have WH := hide (whole_any a0 len0 cap0 _ w hB0 hl0)
    have HR : Hid (st.reads i = l) := hide (by unfold St.reads; rw [hf]; rfl)
    clear h hd hi hown hfr hc hsy hv0 hB0 hl0 hRv hf hh hm hat hd0
    go_enter Try.func114, Try.ntmps114
    go_wp2_with fail
    refine RD.out.mono ?_
    rintro e w' ⟨rfl, rfl⟩
    go_wp2_with fail
    refine HA.out.mono ?_
    rintro e w' ⟨rfl, rfl⟩
    go_wp2_with fail
    refine WH.out.mono ?_
    rintro e w2 ⟨q, rfl, hq, hrow, hb⟩
    go_wp2
    go_ret2
    exact ⟨q, rfl, hq, by rw [HR.out]; exact hrow, hb⟩
end Go.Proofs.Ytecmfpgccmmlpaa
