/- a region whose last operation writes what an earlier one has read -/
import Derived.Test.YtlkmcbelmldleaaGreatVA
namespace Go.Proofs.YtlkmcbelmldleaaGreat
section
variable {P : Program} {ops : Array Oper} {Q : Exit → Act → World → Prop} {md : Region.Mode} {S : World → Prop} {s : Nat}
/-- whatever order is picked; S holds behind every operation but number s -/
def wpAnyL (P : Program) (md : Region.Mode) (ops : Array Oper) (Q : Exit → Act → World → Prop) (S : World → Prop) (s : Nat) : Nat → Array Bool → Act → World → Prop
  | 0, listed, a, w => Region.ready md ops listed = [] ∧ Q .normal a w
  | fuel + 1, listed, a, w =>
    (Region.ready md ops listed = [] → Q .normal a w) ∧
    ∀ i ∈ Region.ready md ops listed, wpOp P ops Q i (fun a' w' => (i = s ∨ S w') ∧ wpAnyL P md ops Q S s fuel (listed.setIfInBounds i true) a' w') a w
/-- to ask for S besides is to ask for more -/
theorem wpAny_of_L (fuel : Nat) : ∀ (listed : Array Bool) (a : Act) (w : World), wpAnyL P md ops Q S s fuel listed a w → wpAny P md ops Q fuel listed a w := by
  induction fuel with
  | zero => exact fun _ _ _ => id
  | succ n less =>
    intro listed a w asked
    obtain ⟨atEnd, each⟩ := asked
    constructor
    · exact atEnd
    · intro k hk
      refine wpOp_mono ?_ (each k hk)
      rintro b u ⟨-, rest⟩
      exact less _ b u rest
/-- what is listed has all listed that it waits for -/
def Shutd (md : Region.Mode) (ops : Array Oper) (listed : Array Bool) : Prop :=
  ∀ j oj, ops[j]? = some oj → listed.getD j false = true → ∀ e ∈ oj.after, Region.binds md e = true → listed.getD e.on false = true
def shutdB (md : Region.Mode) (ops : Array Oper) (listed : Array Bool) : Bool :=
  (List.range ops.size).all fun j => !listed.getD j false || match ops[j]? with
    | some oj => oj.after.all fun e => !Region.binds md e || listed.getD e.on false
    | none => true
theorem shutdB_spec {listed : Array Bool} (h : shutdB md ops listed = true) : Shutd md ops listed := by
  intro j oj hj hl e he hb
  have hlt : j < ops.size := by
    by_cases hlt : j < ops.size
    · exact hlt
    · rw [Array.getElem?_eq_none (by omega)] at hj; cases hj
  have := List.all_eq_true.1 h j (List.mem_range.2 hlt)
  rw [hl, hj] at this
  simp only [Bool.not_true, Bool.false_or] at this
  have := Array.all_eq_true'.1 this e he
  rw [hb] at this
  simpa using this
theorem Shutd.set {listed : Array Bool} (h : Shutd md ops listed) {i : Nat} (hi : i ∈ Region.ready md ops listed) : Shutd md ops (listed.setIfInBounds i true) := by
  intro j oj hj hl e he hb
  by_cases hji : i = j
  · subst hji
    obtain ⟨_, o, ho, hall⟩ := mem_ready.1 hi
    rw [hj] at ho
    cases ho
    exact getD_set_true (hall e he hb)
  · rw [getD_set_ne false hji] at hl
    exact getD_set_true (h j oj hj hl e he hb)
/-- each operation but s has a later one that waits for it -/
def lastB (md : Region.Mode) (ops : Array Oper) (s : Nat) : Bool :=
  (List.range s).all fun i => (List.range (s + 1)).any fun j => decide (i < j) && match ops[j]? with
    | some oj => oj.after.any fun e => Region.binds md e && e.on == i
    | none => false
theorem lastB_spec (h : lastB md ops s = true) {listed : Array Bool} (hc : Shutd md ops listed) : ∀ (k i : Nat), s - i = k → i < s → listed.getD i false = false → s ∉ Region.ready md ops listed := by
  intro k
  induction k using Nat.strongRecOn with
  | ind k ih =>
    intro i hk hi hl hs
    have := List.all_eq_true.1 h i (List.mem_range.2 hi)
    obtain ⟨j, hjr, hj⟩ := List.any_eq_true.1 this
    have hjs := List.mem_range.1 hjr
    simp only [Bool.and_eq_true, decide_eq_true_eq] at hj
    obtain ⟨hij, hw⟩ := hj
    cases hoj : ops[j]? with
    | none => rw [hoj] at hw; cases hw
    | some oj =>
      rw [hoj] at hw
      obtain ⟨e, he, heb⟩ := Array.any_eq_true'.1 hw
      simp only [Bool.and_eq_true, beq_iff_eq] at heb
      by_cases hjeq : j = s
      · subst hjeq
        obtain ⟨_, o, ho, hall⟩ := mem_ready.1 hs
        rw [hoj] at ho
        cases ho
        have := hall e he heb.1
        rw [heb.2, hl] at this
        cases this
      · refine ih (s - j) (by omega) j rfl (by omega) ?_ hs
        cases hlj : listed.getD j false with
        | false => rfl
        | true =>
          have := hc j oj hoj hlj e he heb.1
          rw [heb.2, hl] at this
          cases this
/-- number i may come up, and nothing that may come up beside it minds whether it has -/
structure Early (md : Region.Mode) (ops : Array Oper) (i : Nat) (oi : Oper) (listed : Array Bool) : Prop where
  shut : Shutd md ops listed
  up : i ∈ Region.ready md ops listed
  free : ∀ j oj, ops[j]? = some oj → j ≠ i → listed.getD j true = false → (∀ e ∈ oj.after, Region.binds md e = true → e.on ≠ i) → oi.apart ops oj = true
theorem Early.still {i : Nat} {oi : Oper} {listed : Array Bool} (E : Early md ops i oi listed) : listed.getD i false = false := by
  have away := (mem_ready.1 E.up).1
  by_cases inside : i < listed.size
  · simp only [Array.getD, inside, dite_true] at away ⊢
    exact away
  · simp only [Array.getD, inside, dite_false] at away
    cases away
theorem Early.mild {i j : Nat} {oi oj : Oper} {listed : Array Bool} (E : Early md ops i oi listed) (hj : j ∈ Region.ready md ops listed) (ne : j ≠ i) (hoj : ops[j]? = some oj) : oi.apart ops oj = true := by
  obtain ⟨un, o, ho, waits⟩ := mem_ready.1 hj
  obtain rfl : oj = o := Option.some.inj (hoj.symm.trans ho)
  refine E.free j oj hoj ne un ?_
  rintro e he hb rfl
  exact absurd (waits e he hb) (by rw [E.still]; decide)
theorem Early.next {i j : Nat} {oi : Oper} {listed : Array Bool} (E : Early md ops i oi listed) (hj : j ∈ Region.ready md ops listed) (ne : j ≠ i) : Early md ops i oi (listed.setIfInBounds j true) where
  shut := E.shut.set hj
  up := ready_mono E.up ne.symm
  free := by
    intro k ok hk hki un
    refine E.free k ok hk hki ?_
    rcases Nat.decEq j k with no | yes
    · exact (getD_set_ne true no).symm.trans un
    · exact yes ▸ (mem_ready.1 hj).1
/-- a step of another one with number i taken ahead of it is one with number i still to be taken -/
theorem Early.over {i j : Nat} {oi : Oper} {v : Value} {listed : Array Bool} {a : Act} {w : World} {K : Act → World → Prop} (E : Early md ops i oi listed) (hi : ops[i]? = some oi)
    (hsel : ∀ (j : Nat) (o : Oper) cs b, ops[j]? = some o → o.op ≠ .select cs b) (hQ : ∀ c a w, Q (.panic c) (a.put oi.dst v) w → Q (.panic c) a w)
    (hj : j ∈ Region.ready md ops listed) (ne : j ≠ i) (hy : YieldsIf P ops S oi v a) (h : wpOp P ops Q j K (a.put oi.dst v) w) :
    wpOp P ops Q j (fun a' w' => YieldsIf P ops S oi v a' ∧ K (a'.put oi.dst v) w') a w := by
  obtain ⟨-, oj, hoj, -⟩ := mem_ready.1 hj
  exact wpOp_putIf hoj (E.mild hj ne hoj) (fun cs b => hsel i oi cs b hi) (fun cs b => hsel j oj cs b hoj) hQ hy h
theorem wpAnyL_first {i : Nat} {oi : Oper} {v : Value} (hi : ops[i]? = some oi) (hsel : ∀ (j : Nat) (o : Oper) cs b, ops[j]? = some o → o.op ≠ .select cs b)
    (hQ : ∀ c a w, Q (.panic c) (a.put oi.dst v) w → Q (.panic c) a w) (hla : lastB md ops s = true) (his : i < s) (fuel : Nat) :
    ∀ (listed : Array Bool) (a : Act) (w : World), Early md ops i oi listed → YieldsIf P ops S oi v a → S w →
      wpAnyL P md ops Q S s fuel (listed.setIfInBounds i true) (a.put oi.dst v) w → wpAnyL P md ops Q S s (fuel + 1) listed a w := by
  induction fuel with
  | zero =>
    intro listed a w E hy hS done
    refine ⟨fun none => absurd E.up (by rw [none]; exact List.not_mem_nil), fun j hj => ?_⟩
    rcases Nat.decEq j i with no | rfl
    · exact absurd (ready_mono hj no) (by rw [done.1]; exact List.not_mem_nil)
    · exact hy.wpOp hi hS ⟨Or.inr hS, done⟩
  | succ n less =>
    intro listed a w E hy hS left
    refine ⟨fun none => absurd E.up (by rw [none]; exact List.not_mem_nil), fun j hj => ?_⟩
    rcases Nat.decEq j i with no | rfl
    · have notLast : j ≠ s := fun js => lastB_spec hla E.shut (s - i) i rfl his E.still (js ▸ hj)
      refine wpOp_mono ?_ (E.over hi hsel hQ hj no hy (left.2 j (ready_mono hj no)))
      rintro b u ⟨hb, hu | hu, rest⟩
      · exact absurd hu notLast
      · refine ⟨Or.inr hu, less _ b u (E.next hj no) hb hu ?_⟩
        exact Array.setIfInBounds_comm true true no ▸ rest
    · exact hy.wpOp hi hS ⟨Or.inr hS, left⟩
/-- take number i first -/
theorem wpAnyL_take {i : Nat} {oi : Oper} {v : Value} {fuel : Nat} {listed : Array Bool} {a : Act} {w : World} (hi : ops[i]? = some oi)
    (hc : (Region.noSelect ops && Region.free md ops listed i && (Region.ready md ops listed).contains i && shutdB md ops listed && lastB md ops s && decide (i < s)) = true)
    (hQ : ∀ c a w, Q (.panic c) (a.put oi.dst v) w → Q (.panic c) a w) (hS : S w) (hwt : Region.wanted oi (yielded ops a.tmps) = true) (hy : ∀ w, S w → (execOp a.eval oi).run P w = .ok (.value v) w)
    (h : wpAnyL P md ops Q S s fuel (listed.setIfInBounds i true) (a.put oi.dst v) w) : wpAnyL P md ops Q S s (fuel + 1) listed a w := by
  simp only [Bool.and_eq_true, decide_eq_true_eq] at hc
  obtain ⟨⟨⟨⟨⟨h1, h2⟩, h3⟩, h4⟩, h5⟩, h6⟩ := hc
  exact wpAnyL_first hi (Region.noSelect_spec h1) hQ h5 h6 fuel listed a w ⟨shutdB_spec h4, by simpa using h3, Region.free_spec hi h2⟩ (.inl ⟨hwt, hy⟩) hS h
/-- one alone may come up -/
theorem wpAnyL_one {i : Nat} {o : Oper} {fuel : Nat} {listed : Array Bool} {a : Act} {w : World} (ho : ops[i]? = some o) (hr : Region.ready md ops listed = [i])
    (h : ∀ K' : Act → World → Prop, Shut (∀ a w, S w → (S w → wpAnyL P md ops Q S s fuel (listed.setIfInBounds i true) a w) → K' a w) → if Region.wanted o (yielded ops a.tmps) = true then Oper.wp P o a w K' Q else K' (a.put o.dst undef) w) : wpAnyL P md ops Q S s (fuel + 1) listed a w := by
  refine ⟨fun h0 => (by rw [hr] at h0; cases h0), fun j hj => ?_⟩
  rw [hr] at hj
  have hji : j = i := by simpa using hj
  subst hji
  exact wpOp_step ho (fun K' hK => h K' (fun a w hS hW => hK a w ⟨.inr hS, hW hS⟩))
/-- the last one -/
theorem wpAnyL_last {o : Oper} {fuel : Nat} {listed : Array Bool} {a : Act} {w : World} (ho : ops[s]? = some o) (hr : Region.ready md ops listed = [s]) (hr2 : Region.ready md ops (listed.setIfInBounds s true) = [])
    (h : ∀ K' : Act → World → Prop, Shut (∀ a w, Q .normal a w → K' a w) → if Region.wanted o (yielded ops a.tmps) = true then Oper.wp P o a w K' Q else K' (a.put o.dst undef) w) : wpAnyL P md ops Q S s (fuel + 1) listed a w := by
  refine ⟨fun h0 => (by rw [hr] at h0; cases h0), fun j hj => ?_⟩
  rw [hr] at hj
  have hji : j = s := by simpa using hj
  subst hji
  refine wpOp_step ho (fun K' hK => h K' (fun a w hq => hK a w ⟨.inl rfl, ?_⟩))
  cases fuel with
  | zero => exact ⟨hr2, hq⟩
  | succ f => exact ⟨fun _ => hq, by rw [hr2]; intro i hi; cases hi⟩
/-- the beginning -/
theorem wp_region_last {id : Nat} {a : Act} {w : World} (s : Nat) (S : World → Prop) (hm : P.follows .mixedOrders = true) (hS : S w.drew)
    (h : S w.drew → wpAnyL P .any ops Q S s ops.size (Array.replicate ops.size false) a w.drew) : (Code.region id ops true).wp P Q a w :=
  wp_region_any hm (wpAny_of_L _ _ _ _ (h hS))
end
end Go.Proofs.YtlkmcbelmldleaaGreat
