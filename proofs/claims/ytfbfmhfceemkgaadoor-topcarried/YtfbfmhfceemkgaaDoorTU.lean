/- what comes up in TopCarried -/
import Derived.Test.YtfbfmhfceemkgaaDoorSM
import Derived.Test.YtfbfmhfceemkgaaDoorPF
import Derived.Test.YtfbfmhfceemkgaaDoorTB
namespace Go.Proofs.YtfbfmhfceemkgaaDoor
open Go.RowKit
set_option linter.unusedVariables false
/-- what a step does with a shipment -/
def mvOf (x : Int) : Int := if x = 3 then 1 else if x = 8 then 4 else if x = 5 then 2 else if x = 10 then 5 else if x = 11 then 6 else 0
/-- the shipments, where an order's is in a state -/
def lst (o st : Int) : List Sh := if st = 0 then [] else [⟨o, st⟩]
theorem lst_good {o st : Int} (ho : 1 ≤ o ∧ o ≤ 1024) (h : 0 ≤ st ∧ st < 7) : Good 0 (lst o st) ∧ stL (lst o st) o = st ∧ ∀ s', insL (lst o st) ⟨o, s'⟩ = [⟨o, s'⟩] := by
  unfold lst
  by_cases h0 : st = 0
  · rw [if_pos h0]
    exact ⟨trivial, by rw [h0]; rfl, fun s' => rfl⟩
  · rw [if_neg h0]
    refine ⟨⟨by show 0 < o; omega, ho.2, by show 0 < o; omega, h.2, h0, trivial⟩, ?_, fun s' => ?_⟩
    · unfold stL; rw [if_pos rfl]
    · unfold insL; rw [if_neg (by exact Int.lt_irrefl _), if_pos rfl]
theorem mv_lst {o st m v : Int} (ho : 1 ≤ o ∧ o ≤ 1024) (h : 0 ≤ st ∧ st < 7) : moveR (lst o st) o m v = if veB v = false then ([], 15) else if ¬ (nxR st m).2 = 0 then ([], (nxR st m).2) else if asB m = true ∧ v = 1 then ([], 10) else ([⟨o, (nxR st m).1⟩], 0) := by
  obtain ⟨h1, h2, h3⟩ := lst_good ho h
  rw [moveR_L, if_neg (by rw [goodL_iff]; exact fun h' => h' ⟨h1, orB_iff.2 ho⟩), h2, h3]
theorem of_lst {o st : Int} (ho : 1 ≤ o ∧ o ≤ 1024) (h : 0 ≤ st ∧ st < 7) : ofR (lst o st) o = (st, 0) := by
  obtain ⟨h1, h2, h3⟩ := lst_good ho h
  rw [ofR_good h1 (orB_iff.2 ho), h2]
theorem lst_ok {o st : Int} (ho : 1 ≤ o ∧ o ≤ 1024) (h : 0 ≤ st ∧ st < 7) : ∀ x ∈ lst o st, okS x := by
  unfold lst
  split
  · simp
  · intro x hx
    rw [List.mem_singleton.1 hx]
    unfold okS i64B u8B
    exact ⟨⟨by show _ ≤ o; omega, by show o ≤ _; omega⟩, by show _ ≤ st; omega, by show st ≤ _; omega⟩
/-- what comes up: a saga's kind, place and way, the shipment's state, and how many steps are left at most -/
def cfgs : List (Int × Int × Bool × Int × Nat) := [(1, 0, false, 0, 10), (1, 1, false, 0, 9), (1, 2, false, 0, 8), (1, 3, false, 1, 7), (1, 4, false, 1, 6), (1, 5, false, 2, 5), (1, 4, true, 1, 5), (1, 3, true, 1, 4), (1, 2, true, 4, 3), (1, 1, true, 4, 2), (1, 0, true, 4, 1), (1, 2, true, 0, 3), (1, 1, true, 0, 2), (1, 0, true, 0, 1), (3, 0, false, 2, 4), (3, 1, false, 5, 3), (3, 2, false, 6, 2), (3, 3, false, 6, 1), (3, 0, true, 2, 1)]
def Cfg (o : Int) (s : Pl.Sg) (st : Int) (p : Nat) : Prop := s.od = o ∧ (s.k, s.at', s.u, st, p) ∈ cfgs
/-- one step more -/
def Going (o : Int) (s : Pl.Sg) (st : Int) (p : Nat) : Prop :=
  ∃ x, Pl.nextR s = ⟨x, true, 0⟩ ∧ u8B x ∧ ∀ dn : Bool, (dn = false → Pl.asB x = true) → ∃ s' st' p', Pl.advR s dn = (s', 0) ∧ Cfg o s' st' p' ∧ (dn = true → p' < p) ∧ p' ≤ 10 ∧ (0 ≤ st' ∧ st' < 7) ∧
    ((mvOf x = 0 ∧ st' = st) ∨ (¬ mvOf x = 0 ∧ u8B (mvOf x) ∧ ∃ l' no, moveR (lst o st) o (mvOf x) (if dn = true then 0 else 1) = (l', no) ∧ (dn = true → no = 0 ∧ l' = lst o st') ∧ (dn = false → st' = st) ∧ ((dn != (no == 0)) && (asB (mvOf x) || (no != 0))) = false))
/-- no step more -/
def Done (o : Int) (s : Pl.Sg) (st : Int) (p : Nat) : Prop :=
  Pl.nextR s = ⟨0, false, 0⟩ ∧ ((s.k = 1 ∧ s.u = false ∧ st = 2 ∧ p = 5) ∨ (s.k = 3 ∧ s.u = false ∧ st = 6) ∨ (s.k = 3 ∧ s.u = true ∧ st = 2) ∨ (s.k = 1 ∧ s.u = true ∧ st = 0) ∨ (s.k = 1 ∧ s.u = true ∧ st = 4))
theorem cfg_cases {o : Int} (ho : 1 ≤ o ∧ o ≤ 1024) {s : Pl.Sg} {st : Int} {p : Nat} (h : Cfg o s st p) : (0 ≤ st ∧ st < 7) ∧ p ≤ 10 ∧ 1 ≤ p ∧ u8B s.k ∧ (Going o s st p ∨ Done o s st p) := by
  obtain ⟨o', k, t, u⟩ := s
  obtain ⟨rfl, h⟩ := h
  simp only [cfgs, List.mem_cons, List.not_mem_nil, or_false, Prod.mk.injEq] at h
  rcases h with ⟨rfl, rfl, rfl, rfl, rfl⟩ | ⟨rfl, rfl, rfl, rfl, rfl⟩ | ⟨rfl, rfl, rfl, rfl, rfl⟩ | ⟨rfl, rfl, rfl, rfl, rfl⟩ | ⟨rfl, rfl, rfl, rfl, rfl⟩ | ⟨rfl, rfl, rfl, rfl, rfl⟩ | ⟨rfl, rfl, rfl, rfl, rfl⟩ | ⟨rfl, rfl, rfl, rfl, rfl⟩ | ⟨rfl, rfl, rfl, rfl, rfl⟩ | ⟨rfl, rfl, rfl, rfl, rfl⟩ | ⟨rfl, rfl, rfl, rfl, rfl⟩ | ⟨rfl, rfl, rfl, rfl, rfl⟩ | ⟨rfl, rfl, rfl, rfl, rfl⟩ | ⟨rfl, rfl, rfl, rfl, rfl⟩ | ⟨rfl, rfl, rfl, rfl, rfl⟩ | ⟨rfl, rfl, rfl, rfl, rfl⟩ | ⟨rfl, rfl, rfl, rfl, rfl⟩ | ⟨rfl, rfl, rfl, rfl, rfl⟩ | ⟨rfl, rfl, rfl, rfl, rfl⟩
  · refine ⟨by decide, by decide, by decide, by unfold u8B; show (0 : Int) ≤ 1 ∧ (1 : Int) ≤ 255; decide, ?_⟩
    refine .inl ⟨1, rfl, by unfold u8B; decide, fun dn hdn => ?_⟩
    cases dn
    · exact absurd (hdn rfl) (by decide)
    · refine ⟨⟨o', 1, 1, false⟩, 0, 9, rfl, ⟨rfl, by simp [cfgs]⟩, by decide, by decide, by decide, ?_⟩
      exact .inl ⟨rfl, rfl⟩
  · refine ⟨by decide, by decide, by decide, by unfold u8B; show (0 : Int) ≤ 1 ∧ (1 : Int) ≤ 255; decide, ?_⟩
    refine .inl ⟨2, rfl, by unfold u8B; decide, fun dn hdn => ?_⟩
    cases dn
    · refine ⟨⟨o', 1, 1, true⟩, 0, 2, rfl, ⟨rfl, by simp [cfgs]⟩, by decide, by decide, by decide, ?_⟩
      exact .inl ⟨rfl, rfl⟩
    · refine ⟨⟨o', 1, 2, false⟩, 0, 8, rfl, ⟨rfl, by simp [cfgs]⟩, by decide, by decide, by decide, ?_⟩
      exact .inl ⟨rfl, rfl⟩
  · refine ⟨by decide, by decide, by decide, by unfold u8B; show (0 : Int) ≤ 1 ∧ (1 : Int) ≤ 255; decide, ?_⟩
    refine .inl ⟨3, rfl, by unfold u8B; decide, fun dn hdn => ?_⟩
    cases dn
    · refine ⟨⟨o', 1, 2, true⟩, 0, 3, rfl, ⟨rfl, by simp [cfgs]⟩, by decide, by decide, by decide, ?_⟩
      exact .inr ⟨by decide, by unfold u8B; decide, [], 10, (mv_lst ho (by decide)).trans rfl, by first | exact fun _ => ⟨rfl, rfl⟩ | exact fun h => absurd h (by decide), by first | exact fun _ => rfl | exact fun h => absurd h (by decide), by decide⟩
    · refine ⟨⟨o', 1, 3, false⟩, 1, 7, rfl, ⟨rfl, by simp [cfgs]⟩, by decide, by decide, by decide, ?_⟩
      exact .inr ⟨by decide, by unfold u8B; decide, [⟨o', 1⟩], 0, (mv_lst ho (by decide)).trans rfl, by first | exact fun _ => ⟨rfl, rfl⟩ | exact fun h => absurd h (by decide), by first | exact fun _ => rfl | exact fun h => absurd h (by decide), by decide⟩
  · refine ⟨by decide, by decide, by decide, by unfold u8B; show (0 : Int) ≤ 1 ∧ (1 : Int) ≤ 255; decide, ?_⟩
    refine .inl ⟨4, rfl, by unfold u8B; decide, fun dn hdn => ?_⟩
    cases dn
    · refine ⟨⟨o', 1, 3, true⟩, 1, 4, rfl, ⟨rfl, by simp [cfgs]⟩, by decide, by decide, by decide, ?_⟩
      exact .inl ⟨rfl, rfl⟩
    · refine ⟨⟨o', 1, 4, false⟩, 1, 6, rfl, ⟨rfl, by simp [cfgs]⟩, by decide, by decide, by decide, ?_⟩
      exact .inl ⟨rfl, rfl⟩
  · refine ⟨by decide, by decide, by decide, by unfold u8B; show (0 : Int) ≤ 1 ∧ (1 : Int) ≤ 255; decide, ?_⟩
    refine .inl ⟨5, rfl, by unfold u8B; decide, fun dn hdn => ?_⟩
    cases dn
    · refine ⟨⟨o', 1, 4, true⟩, 1, 5, rfl, ⟨rfl, by simp [cfgs]⟩, by decide, by decide, by decide, ?_⟩
      exact .inr ⟨by decide, by unfold u8B; decide, [], 10, (mv_lst ho (by decide)).trans rfl, by first | exact fun _ => ⟨rfl, rfl⟩ | exact fun h => absurd h (by decide), by first | exact fun _ => rfl | exact fun h => absurd h (by decide), by decide⟩
    · refine ⟨⟨o', 1, 5, false⟩, 2, 5, rfl, ⟨rfl, by simp [cfgs]⟩, by decide, by decide, by decide, ?_⟩
      exact .inr ⟨by decide, by unfold u8B; decide, [⟨o', 2⟩], 0, (mv_lst ho (by decide)).trans rfl, by first | exact fun _ => ⟨rfl, rfl⟩ | exact fun h => absurd h (by decide), by first | exact fun _ => rfl | exact fun h => absurd h (by decide), by decide⟩
  · refine ⟨by decide, by decide, by decide, by unfold u8B; show (0 : Int) ≤ 1 ∧ (1 : Int) ≤ 255; decide, ?_⟩
    exact .inr ⟨rfl, .inl ⟨rfl, rfl, rfl, rfl⟩⟩
  · refine ⟨by decide, by decide, by decide, by unfold u8B; show (0 : Int) ≤ 1 ∧ (1 : Int) ≤ 255; decide, ?_⟩
    refine .inl ⟨9, rfl, by unfold u8B; decide, fun dn hdn => ?_⟩
    cases dn
    · refine ⟨⟨o', 1, 4, true⟩, 1, 5, rfl, ⟨rfl, by simp [cfgs]⟩, by decide, by decide, by decide, ?_⟩
      exact .inl ⟨rfl, rfl⟩
    · refine ⟨⟨o', 1, 3, true⟩, 1, 4, rfl, ⟨rfl, by simp [cfgs]⟩, by decide, by decide, by decide, ?_⟩
      exact .inl ⟨rfl, rfl⟩
  · refine ⟨by decide, by decide, by decide, by unfold u8B; show (0 : Int) ≤ 1 ∧ (1 : Int) ≤ 255; decide, ?_⟩
    refine .inl ⟨8, rfl, by unfold u8B; decide, fun dn hdn => ?_⟩
    cases dn
    · refine ⟨⟨o', 1, 3, true⟩, 1, 4, rfl, ⟨rfl, by simp [cfgs]⟩, by decide, by decide, by decide, ?_⟩
      exact .inr ⟨by decide, by unfold u8B; decide, [⟨o', 4⟩], 0, (mv_lst ho (by decide)).trans rfl, by first | exact fun _ => ⟨rfl, rfl⟩ | exact fun h => absurd h (by decide), by first | exact fun _ => rfl | exact fun h => absurd h (by decide), by decide⟩
    · refine ⟨⟨o', 1, 2, true⟩, 4, 3, rfl, ⟨rfl, by simp [cfgs]⟩, by decide, by decide, by decide, ?_⟩
      exact .inr ⟨by decide, by unfold u8B; decide, [⟨o', 4⟩], 0, (mv_lst ho (by decide)).trans rfl, by first | exact fun _ => ⟨rfl, rfl⟩ | exact fun h => absurd h (by decide), by first | exact fun _ => rfl | exact fun h => absurd h (by decide), by decide⟩
  · refine ⟨by decide, by decide, by decide, by unfold u8B; show (0 : Int) ≤ 1 ∧ (1 : Int) ≤ 255; decide, ?_⟩
    refine .inl ⟨7, rfl, by unfold u8B; decide, fun dn hdn => ?_⟩
    cases dn
    · refine ⟨⟨o', 1, 2, true⟩, 4, 3, rfl, ⟨rfl, by simp [cfgs]⟩, by decide, by decide, by decide, ?_⟩
      exact .inl ⟨rfl, rfl⟩
    · refine ⟨⟨o', 1, 1, true⟩, 4, 2, rfl, ⟨rfl, by simp [cfgs]⟩, by decide, by decide, by decide, ?_⟩
      exact .inl ⟨rfl, rfl⟩
  · refine ⟨by decide, by decide, by decide, by unfold u8B; show (0 : Int) ≤ 1 ∧ (1 : Int) ≤ 255; decide, ?_⟩
    refine .inl ⟨6, rfl, by unfold u8B; decide, fun dn hdn => ?_⟩
    cases dn
    · exact absurd (hdn rfl) (by decide)
    · refine ⟨⟨o', 1, 0, true⟩, 4, 1, rfl, ⟨rfl, by simp [cfgs]⟩, by decide, by decide, by decide, ?_⟩
      exact .inl ⟨rfl, rfl⟩
  · refine ⟨by decide, by decide, by decide, by unfold u8B; show (0 : Int) ≤ 1 ∧ (1 : Int) ≤ 255; decide, ?_⟩
    exact .inr ⟨rfl, .inr (.inr (.inr (.inr ⟨rfl, rfl, rfl⟩)))⟩
  · refine ⟨by decide, by decide, by decide, by unfold u8B; show (0 : Int) ≤ 1 ∧ (1 : Int) ≤ 255; decide, ?_⟩
    refine .inl ⟨7, rfl, by unfold u8B; decide, fun dn hdn => ?_⟩
    cases dn
    · refine ⟨⟨o', 1, 2, true⟩, 0, 3, rfl, ⟨rfl, by simp [cfgs]⟩, by decide, by decide, by decide, ?_⟩
      exact .inl ⟨rfl, rfl⟩
    · refine ⟨⟨o', 1, 1, true⟩, 0, 2, rfl, ⟨rfl, by simp [cfgs]⟩, by decide, by decide, by decide, ?_⟩
      exact .inl ⟨rfl, rfl⟩
  · refine ⟨by decide, by decide, by decide, by unfold u8B; show (0 : Int) ≤ 1 ∧ (1 : Int) ≤ 255; decide, ?_⟩
    refine .inl ⟨6, rfl, by unfold u8B; decide, fun dn hdn => ?_⟩
    cases dn
    · exact absurd (hdn rfl) (by decide)
    · refine ⟨⟨o', 1, 0, true⟩, 0, 1, rfl, ⟨rfl, by simp [cfgs]⟩, by decide, by decide, by decide, ?_⟩
      exact .inl ⟨rfl, rfl⟩
  · refine ⟨by decide, by decide, by decide, by unfold u8B; show (0 : Int) ≤ 1 ∧ (1 : Int) ≤ 255; decide, ?_⟩
    exact .inr ⟨rfl, .inr (.inr (.inr (.inl ⟨rfl, rfl, rfl⟩)))⟩
  · refine ⟨by decide, by decide, by decide, by unfold u8B; show (0 : Int) ≤ 3 ∧ (3 : Int) ≤ 255; decide, ?_⟩
    refine .inl ⟨10, rfl, by unfold u8B; decide, fun dn hdn => ?_⟩
    cases dn
    · refine ⟨⟨o', 3, 0, true⟩, 2, 1, rfl, ⟨rfl, by simp [cfgs]⟩, by decide, by decide, by decide, ?_⟩
      exact .inr ⟨by decide, by unfold u8B; decide, [], 10, (mv_lst ho (by decide)).trans rfl, by first | exact fun _ => ⟨rfl, rfl⟩ | exact fun h => absurd h (by decide), by first | exact fun _ => rfl | exact fun h => absurd h (by decide), by decide⟩
    · refine ⟨⟨o', 3, 1, false⟩, 5, 3, rfl, ⟨rfl, by simp [cfgs]⟩, by decide, by decide, by decide, ?_⟩
      exact .inr ⟨by decide, by unfold u8B; decide, [⟨o', 5⟩], 0, (mv_lst ho (by decide)).trans rfl, by first | exact fun _ => ⟨rfl, rfl⟩ | exact fun h => absurd h (by decide), by first | exact fun _ => rfl | exact fun h => absurd h (by decide), by decide⟩
  · refine ⟨by decide, by decide, by decide, by unfold u8B; show (0 : Int) ≤ 3 ∧ (3 : Int) ≤ 255; decide, ?_⟩
    refine .inl ⟨11, rfl, by unfold u8B; decide, fun dn hdn => ?_⟩
    cases dn
    · exact absurd (hdn rfl) (by decide)
    · refine ⟨⟨o', 3, 2, false⟩, 6, 2, rfl, ⟨rfl, by simp [cfgs]⟩, by decide, by decide, by decide, ?_⟩
      exact .inr ⟨by decide, by unfold u8B; decide, [⟨o', 6⟩], 0, (mv_lst ho (by decide)).trans rfl, by first | exact fun _ => ⟨rfl, rfl⟩ | exact fun h => absurd h (by decide), by first | exact fun _ => rfl | exact fun h => absurd h (by decide), by decide⟩
  · refine ⟨by decide, by decide, by decide, by unfold u8B; show (0 : Int) ≤ 3 ∧ (3 : Int) ≤ 255; decide, ?_⟩
    refine .inl ⟨9, rfl, by unfold u8B; decide, fun dn hdn => ?_⟩
    cases dn
    · refine ⟨⟨o', 3, 2, false⟩, 6, 2, rfl, ⟨rfl, by simp [cfgs]⟩, by decide, by decide, by decide, ?_⟩
      exact .inl ⟨rfl, rfl⟩
    · refine ⟨⟨o', 3, 3, false⟩, 6, 1, rfl, ⟨rfl, by simp [cfgs]⟩, by decide, by decide, by decide, ?_⟩
      exact .inl ⟨rfl, rfl⟩
  · refine ⟨by decide, by decide, by decide, by unfold u8B; show (0 : Int) ≤ 3 ∧ (3 : Int) ≤ 255; decide, ?_⟩
    exact .inr ⟨rfl, .inr (.inl ⟨rfl, rfl, rfl⟩)⟩
  · refine ⟨by decide, by decide, by decide, by unfold u8B; show (0 : Int) ≤ 3 ∧ (3 : Int) ≤ 255; decide, ?_⟩
    exact .inr ⟨rfl, .inr (.inr (.inl ⟨rfl, rfl, rfl⟩))⟩
end Go.Proofs.YtfbfmhfceemkgaaDoor
