/- JoS JoH JoT JoU -/
import Derived.Test.YteckglnfkgfefaaJoG
import Derived.Test.YteckglnfkgfefaaJnU
import Derived.Test.YteckglnfkgfefaaCdC
/- the document's Pieces -/
namespace Go.Proofs.Yteckglnfkgfefaa
open Go.RowKit Cod
set_option maxRecDepth 40000
set_option linter.unusedSimpArgs false
set_option linter.unusedVariables false
/-- the first i pieces, as values -/
def pcV (b c i : Nat) : List Value := (List.range i).map fun k => .slice (some ⟨b, 4064 * k, none⟩) 4064 (c - 4064 * k)
def lenV : Value → Nat
  | .slice _ n _ => n
  | _ => 0
end Go.Proofs.Yteckglnfkgfefaa
/- Frame, whatever the batch -/
namespace Go.Proofs.Yteckglnfkgfefaa
open Go.RowKit Cod
set_option maxRecDepth 40000
theorem all_of_get {rs : List ByteArray} (h : ∀ k, k < rs.length → (rs.getD k ByteArray.empty).size ≤ 4096) : ∀ r ∈ rs, r.size ≤ 4096 := by
  intro r hr
  obtain ⟨i, hi, rfl⟩ := List.mem_iff_getElem.1 hr
  have := h i hi
  rw [List.getD_eq_getElem?_getD, List.getElem?_eq_getElem hi] at this
  exact this
theorem get_of_all {rs : List ByteArray} (h : ∀ r ∈ rs, r.size ≤ 4096) (k : Nat) (hk : k < rs.length) : (rs.getD k ByteArray.empty).size ≤ 4096 := by
  rw [List.getD_eq_getElem?_getD, List.getElem?_eq_getElem hk]
  exact h _ (List.getElem_mem _)
theorem frame_no (w : World) (a : Option Addr) (len cap : Nat) (rs : List ByteArray) (h : IsT w a len cap rs) (s : Nat) (hne : ¬ (okB rs ∧ startB s = true)) :
    Calls Try.prog 10 #[.slice a len cap, .int .u64 (s : Nat)] w (FrPost w rs s) := by
  by_cases h1 : 4096 < len
  · have d0 : decide ((4096 : Int) < (len : Int)) = true := decide_eq_true (by omega)
    have HE : Hid (frE rs s = 3) := hide (by unfold frE; rw [if_pos (by rw [h.1]; exact h1)])
    clear h hne h1
    go_enter Try.func10, Try.ntmps10
    go_wp2_with fail
    go_ret2
    exact FrPost.no HE.out (by decide) (Below.refl _ _)
  · have d0 : decide ((4096 : Int) < (len : Int)) = false := decide_eq_false (by omega)
    have hl : rs.length ≤ 4096 := by rw [h.1]; omega
    have hmax : len ≤ 4096 := by omega
    have H := hide h
    have HNE := hide hne
    have HS := hide (isStart_any s w)
    clear h hne h1
    go_enter Try.func10, Try.ntmps10
    go_wp2_with fail
    go_loopw [17] (fun i wr => ∃ j : Nat, j ≤ len ∧ i = .int .i64 (j : Nat) ∧ wr = w ∧ Hid (∀ k, k < j → (rs.getD k ByteArray.empty).size ≤ 4096)) (fun i _ => len - (intOf i).toNat)
    case atStart => exact ⟨0, Nat.zero_le _, rfl, rfl, hide (fun k hk => by omega)⟩
    case round =>
      obtain ⟨j, hj, rfl, rfl, HA⟩ := hrel
      by_cases hjn : j < len
      · obtain ⟨h1, h2, h3, h5⟩ := H.out
        rcases h5 with h0 | ⟨b, off, rfl, hlt, hc⟩
        · omega
        have hcj := hc j hjn
        by_cases hsz : (rs.getD j ByteArray.empty).size ≤ 4096
        · have HA1 : Hid (∀ k, k < j + 1 → (rs.getD k ByteArray.empty).size ≤ 4096) := hide (fun k hk => by
            by_cases e : k = j
            · rw [e]; exact hsz
            · exact HA.out k (by omega))
          have d1 : decide ((4096 : Int) < ((rs.getD j ByteArray.empty).size : Int)) = false := decide_eq_false (by omega)
          clear hc h1 h2 h3 hsz HA
          generalize rs.getD j ByteArray.empty = r at *
          go_wp2_with fail
          exact ⟨⟨j + 1, by omega, by simp, trivial, HA1⟩, by simp [intOf]; omega⟩
        · have d1 : decide ((4096 : Int) < ((rs.getD j ByteArray.empty).size : Int)) = true := decide_eq_true (by omega)
          have HE : Hid (frE rs s = 4) := hide (by
            unfold frE
            rw [if_neg (by omega), if_pos (fun e => hsz (get_of_all e j (by omega)))])
          clear hc h1 h2 h3 hsz HA
          generalize rs.getD j ByteArray.empty = r at *
          go_wp2_with fail
          go_ret2
          exact FrPost.no HE.out (by decide) (Below.refl _ _)
      · have : j = len := by omega
        subst this
        have HALL : Hid (∀ r ∈ rs, r.size ≤ 4096) := hide (all_of_get (fun k hk => HA.out k (by rw [← H.out.1]; exact hk)))
        have hst : startB s = false := by
          by_cases e : startB s = true
          · exact absurd ⟨⟨hl, HALL.out⟩, e⟩ HNE.out
          · simpa using e
        have HE : Hid (frE rs s = 2) := hide (by
          unfold frE
          rw [if_neg (by omega), if_neg (fun e => e HALL.out), if_neg (by simp [hst])])
        rw [hst] at HS
        clear hst HA
        go_wp2_with fail
        refine HS.out.mono ?_
        rintro e w2 ⟨rfl, rfl⟩
        go_wp2_with fail
        go_ret2
        exact FrPost.no HE.out (by decide) (Below.refl _ _)
theorem frame_any (w : World) (a : Option Addr) (len cap : Nat) (rs : List ByteArray) (h : IsT w a len cap rs) (s : Nat) :
    Calls Try.prog 10 #[.slice a len cap, .int .u64 (s : Nat)] w (FrPost w rs s) := by
  by_cases hk : okB rs ∧ startB s = true
  · exact frame_ok w a len cap rs h s hk.1 hk.2
  · exact frame_no w a len cap rs h s hk
end Go.Proofs.Yteckglnfkgfefaa
/- the document's Frame -/
namespace Go.Proofs.Yteckglnfkgfefaa
open Go.RowKit Cod
set_option maxRecDepth 40000
set_option linter.unusedSimpArgs false
set_option linter.unusedVariables false
/-- a row of sectors that is the document's own -/
def LieD (w : World) (vs : List Value) (bs : List (List Nat)) : Prop :=
  ∀ i, i < bs.length → ∃ q c, vs[i]? = some (.slice (some ⟨q, 0, none⟩) 4096 c) ∧ Row w q 4096 c (bs.getD i [])
theorem LieD.below {w w' : World} {vs : List Value} {bs : List (List Nat)} (h : LieD w vs bs) (hb : Below w.heap.size w w') : LieD w' vs bs := fun i hi => by
  obtain ⟨q, c, h1, h2⟩ := h i hi
  exact ⟨q, c, h1, h2.low hb⟩
theorem LieD.push {w w' : World} {B q c : Nat} {v : Value} {bs : List (List Nat)} {vs : List Value} {l : List Nat} (ho : w.ownsRow B 34 1 v bs.length vs) (hl : LieD w vs bs) (hr : Row w q 4096 c l) (hg : w.grownBy w' v.ownBlock) : LieD w' (vs ++ [.slice (some ⟨q, 0, none⟩) 4096 c]) (bs ++ [l]) := by
  have hvl : vs.length = bs.length := by have := ho.1; omega
  intro i hi
  rw [List.length_append, List.length_cons, List.length_nil] at hi
  by_cases h : i < bs.length
  · obtain ⟨q1, c1, e1, e2⟩ := hl i h
    refine ⟨q1, c1, by rw [List.getElem?_append_left (by omega)]; exact e1, ?_⟩
    rw [List.getD_eq_getElem?_getD, List.getElem?_append_left h, ← List.getD_eq_getElem?_getD]
    exact e2.beside ho hg
  · have : i = bs.length := by omega
    subst this
    refine ⟨q, c, by rw [List.getElem?_append_right (by omega), hvl, Nat.sub_self]; rfl, ?_⟩
    rw [List.getD_eq_getElem?_getD, List.getElem?_append_right (Nat.le_refl _), Nat.sub_self]
    exact hr.beside ho hg
theorem LieD.isBB {w : World} {B : Nat} {v : Value} {bs : List (List Nat)} {vs : List Value} (ho : w.ownsRow B 34 1 v bs.length vs) (hl : LieD w vs bs) (hx : ∀ b ∈ bs, ∀ x ∈ b, x < 256) : ∃ a cap, v = .slice a bs.length cap ∧ IsBB w a bs.length cap bs := by
  rcases ho.2 with ⟨rfl, h0⟩ | ⟨g, cap, cur, rfl, hb, hg, hn, hc, hs, ht⟩
  · refine ⟨none, 0, by rw [h0], rfl, by omega, Nat.zero_le _, .inl h0⟩
  · refine ⟨some ⟨g, 0, none⟩, cap, rfl, rfl, hn, hc, .inr ⟨g, 0, rfl, heap_lt hg, fun i hi => ?_⟩⟩
    obtain ⟨q, c, e1, e3⟩ := hl i hi
    refine ⟨_, _, _, ?_, e3.isB (hx _ (by rw [List.getD_eq_getElem?_getD, List.getElem?_eq_getElem hi]; exact List.getElem_mem _))⟩
    rw [← ht, List.getElem?_take, if_pos (by omega)] at e1
    simp only [World.cell?, hg]
    simpa using e1
/-- what the document's Frame answers -/
def FdPost (w : World) (rs : List ByteArray) (s : Nat) (e : Ending) (w' : World) : Prop :=
  (∃ v, e = .returned (.tuple #[v, .int .i64 (frE rs s)]) ∧ (frE rs s = 0 → ∃ a c, v = .slice a (frL rs s).length c ∧ IsBB w' a (frL rs s).length c (frL rs s)) ∧ (frE rs s ≠ 0 → v = .slice none 0 0)) ∧ Below w.heap.size w w'
theorem FdPost.no {w w' : World} {rs : List ByteArray} {s : Nat} {k : Int} (h : frE rs s = k) (hk : k ≠ 0) (hb : Below w.heap.size w w') : FdPost w rs s (.returned (.tuple #[.slice none 0 0, .int .i64 k])) w' :=
  ⟨⟨_, by rw [h], fun e => absurd (h.symm.trans e) hk, fun _ => rfl⟩, hb⟩
theorem FdPost.ok {w w' : World} {rs : List ByteArray} {s : Nat} {v : Value} (h : frE rs s = 0) (ho : ∃ a c, v = .slice a (frL rs s).length c ∧ IsBB w' a (frL rs s).length c (frL rs s)) (hb : Below w.heap.size w w') : FdPost w rs s (.returned (.tuple #[v, .int .i64 0])) w' :=
  ⟨⟨v, by rw [h], fun _ => ho, fun e => absurd h e⟩, hb⟩
/-- the loop's state -/
def FdInv (w : World) (rs : List ByteArray) (s j : Nat) (x : Value) (wr : World) : Prop := (∃ vs, wr.ownsRow w.heap.size 34 1 x ((frL rs s).take j).length vs ∧ LieD wr vs ((frL rs s).take j)) ∧ Below w.heap.size w wr
end Go.Proofs.Yteckglnfkgfefaa
/- the document's text: one record read -/
namespace Go.Proofs.Yteckglnfkgfefaa
open Go.RowKit Cod
set_option maxRecDepth 40000
set_option linter.unusedSimpArgs false
set_option linter.unusedVariables false
/-- what text answers -/
def TxPost (w : World) (l : List Nat) (e : Ending) (w' : World) : Prop :=
  ((∃ x r a n c, rdR l = some (x, r) ∧ e = .returned (.tuple #[.string x, .slice a n c, .bool true]) ∧ IsB w' a n c r ∧ n ≤ l.length ∧ ∀ ad, a = some ad → w.heap.size ≤ ad.block) ∨ (rdR l = none ∧ e = .returned (.tuple #[.string ⟨#[]⟩, .slice none 0 0, .bool false]))) ∧ Below w.heap.size w w'
theorem TxPost.no {w w' : World} {l : List Nat} (h : rdR l = none) (hb : Below w.heap.size w w') : TxPost w l (.returned (.tuple #[.string ⟨#[]⟩, .slice none 0 0, .bool false])) w' := ⟨.inr ⟨h, rfl⟩, hb⟩
theorem isB_backAny {w : World} {a : Option Addr} {len cap : Nat} {l : List Nat} (h : IsB w a len cap l) (k : Nat) (hk : k ≤ len) : IsB w (if cap = k then a else a.map (·.add k)) (len - k) (cap - k) (l.drop k) := by
  obtain ⟨h1, h2, h3, h4, h5⟩ := h
  refine ⟨by rw [List.length_drop, h1], by omega, by omega, fun x hx => h4 x (List.mem_of_mem_drop hx), ?_⟩
  by_cases h0 : len - k = 0
  · refine .inl ⟨h0, ?_⟩
    intro e
    by_cases hc : cap = k
    · omega
    · rw [if_neg hc] at e
      rcases h5 with ⟨g1, g2⟩ | ⟨b, off, rfl, _⟩
      · have : a = none := by cases a with
          | none => rfl
          | some _ => cases e
        have := g2 this
        omega
      · cases e
  · rcases h5 with ⟨g1, _⟩ | ⟨b, off, rfl, hlt, hc⟩
    · omega
    · rw [if_neg (by omega)]
      refine .inr ⟨b, off + k, by simp [addr_add], hlt, fun i hi => ?_⟩
      have := hc (k + i) (by omega)
      rw [← Nat.add_assoc] at this
      rw [this]
      congr 2
      simp [List.getD_eq_getElem?_getD]
theorem isB_frontAny {w : World} {a : Option Addr} {len cap : Nat} {l : List Nat} (h : IsB w a len cap l) (k : Nat) (hk : k ≤ len) : IsB w a k cap (l.take k) := by
  obtain ⟨h1, h2, h3, h4, h5⟩ := h
  refine ⟨by rw [List.length_take, h1]; omega, by omega, h3, fun x hx => h4 x (List.mem_of_mem_take hx), ?_⟩
  by_cases h0 : k = 0
  · refine .inl ⟨h0, ?_⟩
    intro e
    rcases h5 with ⟨_, g2⟩ | ⟨b, off, e2, _⟩
    · exact g2 e
    · rw [e] at e2; cases e2
  · rcases h5 with ⟨g1, _⟩ | ⟨b, off, rfl, hlt, hc⟩
    · omega
    · refine .inr ⟨b, off, rfl, hlt, fun i hi => ?_⟩
      have := hc i (by omega)
      rw [this]
      congr 2
      simp [List.getD_eq_getElem?_getD, List.getElem?_take, hi]
theorem TxPost.yes {w w' : World} {l : List Nat} {x : ByteArray} {r : List Nat} {a : Option Addr} {n c : Nat} (h : rdR l = some (x, r)) (hI : IsB w' a n c r) (hn : n ≤ l.length) (ha : ∀ ad, a = some ad → w.heap.size ≤ ad.block) (hb : Below w.heap.size w w') : TxPost w l (.returned (.tuple #[.string x, .slice a n c, .bool true])) w' := ⟨.inl ⟨x, r, a, n, c, h, rfl, hI, hn, ha⟩, hb⟩
end Go.Proofs.Yteckglnfkgfefaa
