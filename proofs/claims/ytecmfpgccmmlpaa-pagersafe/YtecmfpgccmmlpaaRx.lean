/- contracts: what a round of Restore reads -/
import Derived.Test.YtecmfpgccmmlpaaQx
namespace Go.Proofs.Ytecmfpgccmmlpaa
open Go.RowKit
open Go.ChangeMaps (setBlock)
open Go.Maps (Keyed has size)
variable {X : Nat → Prop}
/-- what a sector is that loses -/
theorem out_lose (w : World) (k m : Nat) (h1 : k ≠ 1) (h2 : k ≠ 2) (a a' : Option Addr) (len cap len' cap' : Nat) :
    Calls Try.prog 54 #[.agg #[.int .u8 (k : Nat), .int .u8 (m : Nat)], .slice a len cap, .slice a' len' cap'] w fun e w' => e = .returned (.slice a len cap) ∧ Below w.heap.size w w' := by
  have hb : ∀ o : Obj, Below w.heap.size w (w.alloc o) := fun o => (Below.refl _ _).alloc (Nat.le_refl _) _
  have HB := hide hb
  have d1 : decide ((k : Int) = 1) = false := decide_eq_false (by omega)
  have d2 : decide ((k : Int) = 2) = false := decide_eq_false (by omega)
  have d3 : decide (k = 1) = false := decide_eq_false (by omega)
  have d4 : decide (k = 2) = false := decide_eq_false (by omega)
  clear hb
  go_enter Try.func54, Try.ntmps54
  go_wp2
  go_ret
  exact ⟨rfl, HB.out _⟩
/-- no fates are good ones -/
theorem fates_nil (w : World) : Calls Try.prog 52 #[.slice none 0 0] w fun e w' => e = .returned (.int .i64 0) ∧ w' = w := by
  go_enter Try.func52, Try.ntmps52
  go_wp2_with fail
  go_loopw [10] (fun i wr => i = .int .i64 0 ∧ wr = w) (fun _ _ => 0)
  case atStart => exact ⟨rfl, rfl⟩
  case round =>
    obtain ⟨rfl, rfl⟩ := hrel
    go_wp2
    go_ret
    exact ⟨rfl, rfl⟩
def St.back (st : St) : St := { st with fr := fun _ => none, arm := false, left := 0, down := false }
theorem IsD.same {w : World} {g gs b n : Nat} {st : St} (h : IsD X w g gs b n st) {k : Nat} {v : Value} (hk : k < n) (hD : Dat X w v (st.syn k)) : IsD X (w.setCell ⟨gs, k, none⟩ v) g gs b n st := by
  obtain ⟨n1, n2, n3⟩ := h.ne
  obtain ⟨cur, hc, hsz, hd⟩ := h.syn
  obtain ⟨m, D, hown, hm, hfr⟩ := h.map
  have hK : K5 w (w.setCell ⟨gs, k, none⟩ v) := fun j cur' m' hj => by
    have hne : j ≠ gs := by rintro rfl; rw [hc] at hj; simp at hj
    exact (Below.heap_setCell _ _ _ _ hne).trans hj
  refine ⟨h.n0, h.n1, (Below.heap_setCell _ _ _ _ n1).trans h.blk, ⟨cur.setIfInBounds k v, blk_set hc _, hsz.set hk, fun i hi => ?_⟩, ⟨m, D, ?_, hm, hfr.kept hK⟩, h.wr, h.left, fun i hi => by have := h.xb i hi; simpa [World.setCell] using this⟩
  · by_cases hik : i = k
    · subst hik
      exact ⟨v, by simp [hsz.lt hi], hD.kept hK⟩
    · obtain ⟨u, hu, hdu⟩ := hd i hi
      exact ⟨u, by simp [Ne.symm hik, hu], hdu.kept hK⟩
  · obtain ⟨es, clock, hb, rest⟩ := hown
    exact ⟨es, clock, (Below.heap_setCell _ _ _ _ (Ne.symm n3)).trans hb, rest⟩
theorem IsD.clears {w : World} {g gs b n : Nat} {st : St} (h : IsD X w g gs b n st) (es : Array MapEntry) (clock : Nat) (hb : w.heap[b]? = some (.map es clock)) :
    IsD X (((((setBlock w b (.map #[] clock)).setCell ⟨g, 3, none⟩ (.bool false)).setCell ⟨g, 4, none⟩ (.int .i64 0))).setCell ⟨g, 5, none⟩ (.bool false)) g gs b n st.back ∧ Frm (SD g gs b) w (((((setBlock w b (.map #[] clock)).setCell ⟨g, 3, none⟩ (.bool false)).setCell ⟨g, 4, none⟩ (.int .i64 0))).setCell ⟨g, 5, none⟩ (.bool false)) := by
  obtain ⟨n1, n2, n3⟩ := h.ne
  obtain ⟨cur, hc, hsz, hd⟩ := h.syn
  have hoth : ∀ j, j ≠ b → (setBlock w b (.map #[] clock)).heap[j]? = w.heap[j]? := fun j hj => by simp [setBlock, Ne.symm hj]
  have hK : K5 w (setBlock w b (.map #[] clock)) := fun j cur' m' hj => by
    have hne : j ≠ b := by rintro rfl; rw [hb] at hj; cases hj
    exact (hoth j hne).trans hj
  have hbb : (setBlock w b (.map #[] clock)).heap[b]? = some (.map #[] clock) := by simp [setBlock, heap_lt hb]
  have hF : Frm (SD g gs b) w (setBlock w b (.map #[] clock)) := ⟨rfl, rfl, rfl, by simp [setBlock], fun i hi hn => hoth i (fun e => hn (.inr (.inr e)))⟩
  have h1 : IsD X (setBlock w b (.map #[] clock)) g gs b n { st with fr := fun _ => none } := by
    refine ⟨h.n0, h.n1, (hoth g n2).trans h.blk, ⟨cur, (hoth gs n3).trans hc, hsz, fun i hi => ?_⟩, ⟨0, .map [], ⟨#[], clock, hbb, ?_, Nat.le_refl _, rfl⟩, Nat.zero_le _, fun k hk => .inl ⟨rfl, rfl⟩, fun kl hkl => by cases hkl⟩, h.wr, h.left, fun i hi => by have := h.xb i hi; simpa [setBlock] using this⟩
    · obtain ⟨v, hv, hdv⟩ := hd i hi
      exact ⟨v, hv, hdv.kept hK⟩
    · exact ⟨Nat.zero_le _, by simp [Go.MapKept.Stamped], by simp⟩
  exact ⟨h1.upd (Frm.set (S := fun i => i = g) (Frm.set (S := fun i => i = g) (Frm.set (S := fun i => i = g) (Frm.refl _ _) rfl _) rfl _) rfl _) (by rw [blk_set (blk_set (blk_set h1.blk _) _)]; rfl) rfl rfl (Nat.le_refl _) h.wr (by simp [St.back]), Frm.set (Frm.set (Frm.set hF (.inl rfl) _) (.inl rfl) _) (.inl rfl) _⟩
/-- the list of the sectors that are unsynced, in memory -/
def IsU (w : World) (base : Nat) (a : Option Addr) (l : List Nat) : Prop := ∀ i, i < l.length → ∃ q, a = some ⟨q, 0, none⟩ ∧ base ≤ q ∧ q < w.heap.size ∧ ∃ x, l[i]? = some x ∧ w.cell? ⟨q, i, none⟩ = some (.int .i64 (x : Nat))
theorem isU_row {w : World} {base : Nat} {v : Value} {st : St} {n : Nat} (h : w.ownsRow base 3 1 v (st.uns n).length ((st.unsI n).map encZ)) : ∃ a cap, v = .slice a (st.uns n).length cap ∧ (st.uns n).length ≤ cap ∧ IsU w base a (st.uns n) := by
  rcases h.2 with ⟨rfl, h0⟩ | ⟨q, cap, cur, rfl, hq, hb, hc, hm, hs, ht⟩
  · exact ⟨none, 0, by rw [h0], by omega, fun i hi => by omega⟩
  · refine ⟨_, cap, rfl, hc, fun i hi => ⟨q, rfl, hq, heap_lt hb, (st.uns n)[i], by simp [hi], ?_⟩⟩
    rw [h.cellAt i (by omega)]
    simp [St.unsI, hi, encZ]
theorem IsU.frm {w w' : World} {base : Nat} {a : Option Addr} {l : List Nat} {g gs b : Nat} (h : IsU w base a l) (hf : Frm (SD g gs b) w w') (hs : g < base ∧ gs < base ∧ b < base) : IsU w' base a l := by
  intro i hi
  obtain ⟨q, e, hq, hlt, x, hx, hc⟩ := h i hi
  refine ⟨q, e, hq, Nat.lt_of_lt_of_le hlt hf.size, x, hx, ?_⟩
  rw [World.cell?_of_block (hf.block q hlt (by rintro (rfl | rfl | rfl) <;> omega))]
  exact hc
theorem IsD.lts {w : World} {g gs b n : Nat} {st : St} (h : IsD X w g gs b n st) : g < w.heap.size ∧ gs < w.heap.size ∧ b < w.heap.size := by
  obtain ⟨es, clock, hb⟩ := h.map_blk
  obtain ⟨cur, hc, _⟩ := h.syn
  exact ⟨heap_lt h.blk, heap_lt hc, heap_lt hb⟩
theorem look_no {w : World} {b m : Nat} {D : DataW Value} (h : w.ownsMap Try.prog 3 heldR b m D) {k : Nat} (hk : k < 4096) {v : Value} (hat : ∀ z, D.atKey (ky k) z = .held v) : (Instr.lookup 66 (.map (some b)) (.int .i64 (k : Int)) false).run Try.prog w = .ok v w := by
  obtain ⟨es, clock, hb, F, _, rfl⟩ := h
  rcases Maps.fit_look false kint Try.underlying66 (zero32 w) hb F (keyOf_ky k hk) with ⟨_, _, h2⟩ | ⟨e0, y, _, _, hrun, hRv, h2, _⟩
  · have e1 := (h2 (.held (.int .i64 0))).symm.trans (hat (.held (.int .i64 0)))
    have e2 := (h2 (.held (.int .i64 1))).symm.trans (hat (.held (.int .i64 1)))
    rw [← e1] at e2
    cases e2
  · have e1 := (h2 (.held v)).symm.trans (hat (.held v))
    have e2 : e0.val = v := by
      unfold heldR at hRv
      cases hRv
      simpa using e1
    rw [e2] at hrun
    exact hrun
/-- what a round of Restore reads -/
theorem IsD.rnd {w : World} {g gs b n k : Nat} {st : St} (h : IsD X w g gs b n st) (hk : k < n) (l : List Nat) (hl : st.fr k = some l) : ∃ vo vf, Dat X w vo (st.syn k) ∧ Dat X w vf l ∧ (∀ W : World, W.heap[gs]? = w.heap[gs]? → W.cell? ⟨gs, k, none⟩ = some vo ∧ W.frozen? ⟨gs, k, none⟩ = false) ∧
    ∀ W : World, W.heap[g]? = w.heap[g]? → W.heap[b]? = w.heap[b]? → W.cell? ⟨g, 0, none⟩ = some (.slice (some ⟨gs, 0, none⟩) n (n + st.xs)) ∧ W.cell? ⟨g, 1, none⟩ = some (.map (some b)) ∧ (Instr.lookup 66 (.map (some b)) (.int .i64 (k : Int)) false).run Try.prog W = .ok vf W := by
  obtain ⟨cur, hc, hsz, hd⟩ := h.syn
  obtain ⟨vo, hvo, hdo⟩ := hd k hk
  obtain ⟨m, D, hown, hm, hfr⟩ := h.map
  have hn1 := h.n1
  rcases hfr.1 k hk with ⟨h1, _⟩ | ⟨l', vf, h1, _, h2, h3⟩
  · rw [h1] at hl; cases hl
  rw [h1] at hl; cases hl
  refine ⟨vo, vf, hdo, h2, fun W hW => ?_, fun W hg hb => ?_⟩
  · have hcW := hW.trans hc
    exact ⟨by simp only [World.cell?, hcW]; exact hvo, by simp [World.frozen?, hcW]⟩
  · have hownW : W.ownsMap Try.prog 3 heldR b m D := by
      obtain ⟨es, clock, hb', rest⟩ := hown
      exact ⟨es, clock, hb.trans hb', rest⟩
    exact ⟨(World.cell?_of_block hg).trans h.cells.c0, (World.cell?_of_block hg).trans h.cells.c1, look_no hownW (by omega) h3⟩
theorem rest_nil (w : World) (v : Value) : Calls Try.prog 21 #[.pointer none, v] w fun e w' => e = .returned (.int .i64 1) ∧ w' = w := by
  go_enter Try.func21, Try.ntmps21
  go_wp2
  go_ret
  exact ⟨rfl, rfl⟩
theorem rest_up (w : World) (g gs b n : Nat) (st : St) (h : IsD X w g gs b n st) (hd : st.down = false) (v : Value) : Calls Try.prog 21 #[.pointer (some ⟨g, 0, none⟩), v] w fun e w' => e = .returned (.int .i64 9) ∧ w' = w := by
  have c5 := h.cells.c5
  rw [hd] at c5
  clear h
  go_enter Try.func21, Try.ntmps21
  go_wp2
  go_ret
  exact ⟨rfl, rfl⟩
theorem clears_step {w : World} {g gs b n : Nat} {st : St} (h : IsD X w g gs b n st) : ∃ w5, (∀ ty, (Builtin.clear_ #[66] ty #[.map (some b)]).run Try.prog w = .ok (.tuple #[]) w5) ∧ w5.cell? ⟨g, 3, none⟩ = some (.bool st.arm) ∧ w5.cell? ⟨g, 4, none⟩ = some (.int .i64 (st.left : Nat)) ∧ w5.cell? ⟨g, 5, none⟩ = some (.bool st.down) ∧ (∀ j, w5.frozen? ⟨g, j, none⟩ = false) ∧
    IsD X (((w5.setCell ⟨g, 3, none⟩ (.bool false)).setCell ⟨g, 4, none⟩ (.int .i64 0)).setCell ⟨g, 5, none⟩ (.bool false)) g gs b n st.back ∧ Frm (SD g gs b) w (((w5.setCell ⟨g, 3, none⟩ (.bool false)).setCell ⟨g, 4, none⟩ (.int .i64 0)).setCell ⟨g, 5, none⟩ (.bool false)) := by
  obtain ⟨es, clock, hb⟩ := h.map_blk
  have hc := h.clears es clock hb
  have hg : (setBlock w b (.map #[] clock)).heap[g]? = w.heap[g]? := by simp [setBlock, Ne.symm h.ne.2.1]
  exact ⟨_, fun ty => run_clear60 w ty b es clock hb, (World.cell?_of_block hg).trans h.cells.c3, (World.cell?_of_block hg).trans h.cells.c4, (World.cell?_of_block hg).trans h.cells.c5, fun j => (World.frozen?_of_block hg).trans (h.cells.fz j), hc.1, hc.2⟩
end Go.Proofs.Ytecmfpgccmmlpaa
