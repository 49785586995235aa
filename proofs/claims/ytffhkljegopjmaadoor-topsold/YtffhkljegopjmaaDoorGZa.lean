/- answers as books, whatever they are -/
import Derived.Test.YtffhkljegopjmaaDoorGZ
namespace Go.Proofs.YtffhkljegopjmaaDoor.Lg
open Go.RowKit
set_option maxRecDepth 40000
abbrev A0 : List Py := List.replicate 1025 Py0
/-- what books an answer has -/
def Which (r : Int) (A' : List Py) (G' : List Pg) (A'' : List Py) (G'' : List Pg) : Prop := (r = 0 ∧ A'' = A' ∧ G'' = G') ∨ (r ≠ 0 ∧ A'' = A0 ∧ G'' = [])
theorem a0_filter : A0.filter keepB = [] := by rw [List.filter_replicate]; rfl
theorem OpP.all {r : Int} {A' : List Py} {G' : List Pg} {w : World} {e : Ending} {w' : World} (h : OpP r A' G' w e w') : Below w.heap.size w w' ∧ ∃ A'' G'' a n c b d, e = .returned (.tuple #[vb a n c b (List.length G'') d, .int .i64 r]) ∧ IsP w' a n c (List.filter keepB A'') ∧ IsG w' b G''.length d G'' ∧ BksA A'' (A''.filter keepB) G'' ∧ NewA w.heap.size a ∧ NewA w.heap.size b ∧ Which r A' G' A'' G'' := by
  obtain ⟨h1, ⟨h2, h3⟩ | ⟨h2, a, c, b, d, h3, h4, h5, h6, h7, h8⟩⟩ := h
  · refine ⟨h1, A0, [], none, 0, 0, none, 0, h3, ?_, isG_nil _, ?_, newA_none _, newA_none _, .inr ⟨h2, rfl, rfl⟩⟩
    · rw [a0_filter]; exact isP_nil _
    · rw [a0_filter]; exact bks_none
  · subst h2
    exact ⟨h1, A', G', a, _, c, b, d, h3, h4, h5, h6, h7, h8, .inl ⟨rfl, rfl, rfl⟩⟩
theorem SetP.all {r v : Int} {A' : List Py} {G' : List Pg} {w : World} {e : Ending} {w' : World} (h : SetP r v A' G' w e w') : Below w.heap.size w w' ∧ ∃ A'' G'' a n c b d v', e = .returned (.tuple #[vb a n c b (List.length G'') d, .int .i64 v', .int .i64 r]) ∧ IsP w' a n c (List.filter keepB A'') ∧ IsG w' b G''.length d G'' ∧ BksA A'' (A''.filter keepB) G'' ∧ NewA w.heap.size a ∧ NewA w.heap.size b ∧ Which r A' G' A'' G'' ∧ (r = 0 → v' = v) := by
  obtain ⟨h1, ⟨h2, h3⟩ | ⟨h2, a, c, b, d, h3, h4, h5, h6, h7, h8⟩⟩ := h
  · refine ⟨h1, A0, [], none, 0, 0, none, 0, 0, h3, ?_, isG_nil _, ?_, newA_none _, newA_none _, .inr ⟨h2, rfl, rfl⟩, fun e => absurd e h2⟩
    · rw [a0_filter]; exact isP_nil _
    · rw [a0_filter]; exact bks_none
  · subst h2
    exact ⟨h1, A', G', a, _, c, b, d, v, h3, h4, h5, h6, h7, h8, .inl ⟨rfl, rfl, rfl⟩, fun _ => rfl⟩
theorem a0_pvn {n : Int} (hn : ordB n = true) : pvA A0 n = ⟨n, 0, 0, 0⟩ := by
  unfold pvA atA
  rw [List.getD_eq_getElem?_getD, List.getElem?_replicate, if_pos (ord_nat hn).1]
  rfl
theorem set_pv {A : List Py} (hA : IdxR A) {n : Int} (hn : ordB n = true) {y : Py} (hy : noneB y = false) : pvA (A.set n.toNat y) n = y := by
  rw [pv_set hA hn hn, if_pos rfl, if_neg (by rw [hy]; decide)]
theorem set_pv0 {A : List Py} (hA : IdxR A) {n : Int} (hn : ordB n = true) {y : Py} (hy : noneB y = true) : pvA (A.set n.toNat y) n = ⟨n, 0, 0, 0⟩ := by
  rw [pv_set hA hn hn, if_pos rfl, if_pos hy]
theorem pv_nums {A : List Py} {n : Int} : (payV A n).op = (pvA A n).op ∧ (payV A n).ca = (pvA A n).ca ∧ (payV A n).re = (pvA A n).re := by
  unfold payV pvA
  split
  · exact ⟨rfl, rfl, rfl⟩
  · exact ⟨rfl, rfl, rfl⟩
theorem noneB_ca {y : Py} (h : y.ca ≠ 0) : noneB y = false := by
  unfold noneB; simp; intro _ e; exact absurd e h
theorem noneB_op {y : Py} (h : y.op ≠ 0) : noneB y = false := by
  unfold noneB; simp; intro e; exact absurd e h
/-- all that is known of an order's pay -/
structure Pv (p : Py) (n : Int) : Prop where
  o : p.o = n
  op0 : 0 ≤ p.op
  op1 : p.op ≤ 1152921504606846976
  ca1 : p.ca ≤ 1152921504606846976
  re0 : 0 ≤ p.re
  rc : p.re ≤ p.ca
theorem BksA.pv {A P : List Py} {G : List Pg} (h : BksA A P G) {n : Int} (hn : ordB n = true) : Pv (pvA A n) n := by
  have h1 := pv_in h.2.2.1 hn
  have h2 := h.pvOwes hn
  unfold owesB at h2
  simp at h2
  obtain ⟨⟨_, h3, h4, h5⟩, h6⟩ := h1
  exact ⟨h6, by omega, by omega, by omega, by omega, by omega⟩
theorem beyB_no {p : Py} (h1 : p.op ≤ 1152921504606846976) (h2 : p.ca ≤ 1152921504606846976) (h3 : p.re ≤ 1152921504606846976) (h4 : 0 ≤ p.op) : beyB p = false := by
  unfold beyB
  simp
  omega
theorem amtB_iff (n : Int) : amtB n = true ↔ 1 ≤ n ∧ n ≤ 1152921504606846976 := by unfold amtB; simp
/-- an amount is held -/
theorem auth_zero {A : List Py} {G : List Pg} {n am : Int} (hE : authE A G n am = 0) : ordB n = true ∧ (1 ≤ am ∧ am ≤ 1152921504606846976) ∧ (pvA A n).op = 0 ∧ G.length < 16384 ∧ behR (pvA A n) ⟨n, 1, 2, am⟩ = ⟨n, am, (pvA A n).ca, (pvA A n).re⟩ := by
  unfold authE at hE
  split at hE
  · omega
  · split at hE
    · omega
    · split at hE
      · omega
      · split at hE
        · omega
        · rename_i h1 h2 h3 h4
          have h3' : (pvA A n).op = 0 := by omega
          refine ⟨by simpa using h1, (amtB_iff am).1 (by simpa using h2), h3', by omega, ?_⟩
          unfold behR
          simp [h3']
/-- what is open is captured, or there is no room, or it is too much -/
theorem set3 {A : List Py} {G : List Pg} {n am ca re : Int} (hn : ordB n = true) (hp : pvA A n = ⟨n, am, ca, re⟩) (ham : am ≠ 0) : setE A G n 3 = (if 16384 ≤ G.length then 3 else if beyB ⟨n, 0, ca + am, re⟩ = true then 5 else 0) ∧ behR (pvA A n) ⟨n, 2, 3, (pvA A n).op⟩ = ⟨n, 0, ca + am, re⟩ := by
  have hb : behR (pvA A n) ⟨n, 2, 3, (pvA A n).op⟩ = ⟨n, 0, ca + am, re⟩ := by rw [hp]; unfold behR; simp
  refine ⟨?_, hb⟩
  unfold setE
  rw [hb, hp, if_neg (by rw [hn]; decide), if_neg ham]
theorem set1 {A : List Py} {G : List Pg} {n am ca re : Int} (hn : ordB n = true) (hp : pvA A n = ⟨n, am, ca, re⟩) (ham : am ≠ 0) : setE A G n 1 = (if 16384 ≤ G.length then 3 else if beyB ⟨n, 0, ca, re⟩ = true then 5 else 0) ∧ behR (pvA A n) ⟨n, 2, 1, (pvA A n).op⟩ = ⟨n, 0, ca, re⟩ := by
  have hb : behR (pvA A n) ⟨n, 2, 1, (pvA A n).op⟩ = ⟨n, 0, ca, re⟩ := by rw [hp]; unfold behR; simp
  refine ⟨?_, hb⟩
  unfold setE
  rw [hb, hp, if_neg (by rw [hn]; decide), if_neg ham]
theorem set_nine {A : List Py} {G : List Pg} {n to : Int} (hn : ordB n = true) (hp : (pvA A n).op = 0) : setE A G n to = 9 := by
  unfold setE
  rw [if_neg (by rw [hn]; decide), if_pos hp]
/-- an amount is given back -/
theorem ref_is {A : List Py} {G : List Pg} {n am op ca re : Int} (hn : ordB n = true) (hp : pvA A n = ⟨n, op, ca, re⟩) (ham : 1 ≤ am ∧ am ≤ 1152921504606846976) : refE A G n am = (if ca - re < am then 13 else if 16384 ≤ G.length then 3 else if beyB ⟨n, op, ca, re + am⟩ = true then 5 else 0) ∧ behR (pvA A n) ⟨n, 3, 1, am⟩ = ⟨n, op, ca, re + am⟩ := by
  have hb : behR (pvA A n) ⟨n, 3, 1, am⟩ = ⟨n, op, ca, re + am⟩ := by rw [hp]; unfold behR; simp
  refine ⟨?_, hb⟩
  unfold refE
  rw [hb, hp, if_neg (by rw [hn]; decide), if_neg (by rw [(amtB_iff am).2 ham]; decide)]
theorem ref_zero {A : List Py} {G : List Pg} {n am : Int} (hE : refE A G n am = 0) : ordB n = true ∧ (1 ≤ am ∧ am ≤ 1152921504606846976) ∧ am ≤ (pvA A n).ca - (pvA A n).re ∧ G.length < 16384 := by
  unfold refE at hE
  split at hE
  · omega
  · split at hE
    · omega
    · split at hE
      · omega
      · split at hE
        · omega
        · rename_i h1 h2 h3 h4
          exact ⟨by simpa using h1, (amtB_iff am).1 (by simpa using h2), by omega, by omega⟩
end Go.Proofs.YtffhkljegopjmaaDoor.Lg
