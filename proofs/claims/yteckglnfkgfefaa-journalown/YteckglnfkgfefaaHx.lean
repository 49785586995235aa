/- a region whose last operation writes what an earlier one has read -/
import Derived.Test.YteckglnfkgfefaaJ
import Derived.Deep.RegionHeld
namespace Go.Proofs.Yteckglnfkgfefaa
section
variable {P : Program} {ops : Array Oper} {Q : Exit → Act → World → Prop} {md : Region.Mode} {S : World → Prop} {s : Nat}
/-- whatever order is picked; S holds behind every operation but number s -/
def wpAnyL (P : Program) (md : Region.Mode) (ops : Array Oper) (Q : Exit → Act → World → Prop) (S : World → Prop) (s : Nat) : Nat → Array Bool → Act → World → Prop
  | 0, listed, a, w => Region.ready md ops listed = [] ∧ Q .normal a w
  | fuel + 1, listed, a, w =>
    (Region.ready md ops listed = [] → Q .normal a w) ∧
    ∀ i ∈ Region.ready md ops listed, wpOp P ops Q i (fun a' w' => (i = s ∨ S w') ∧ wpAnyL P md ops Q S s fuel (listed.setIfInBounds i true) a' w') a w
/-- what is listed has all listed that it waits for -/
def Shutd (md : Region.Mode) (ops : Array Oper) (listed : Array Bool) : Prop :=
  ∀ j oj, ops[j]? = some oj → listed.getD j false = true → ∀ e ∈ oj.after, Region.binds md e = true → listed.getD e.on false = true
def shutdB (md : Region.Mode) (ops : Array Oper) (listed : Array Bool) : Bool :=
  (List.range ops.size).all fun j => !listed.getD j false || match ops[j]? with
    | some oj => oj.after.all fun e => !Region.binds md e || listed.getD e.on false
    | none => true
theorem Shutd.set {listed : Array Bool} (h : Shutd md ops listed) {i : Nat} (hi : i ∈ Region.ready md ops listed) : Shutd md ops (listed.setIfInBounds i true) := by
  intro j oj hj hl e he hb
  by_cases hji : i = j
  · subst hji
    obtain ⟨_, o, ho, hall⟩ := mem_ready.1 hi
    rw [hj] at ho
    cases ho
    exact getD_set_true (hall e he hb)
  · rw [getD_set_ne false hji] at hl
    exact getD_set_true (h j oj hj hl e he hb)
/-- each operation but s has a later one that waits for it -/
def lastB (md : Region.Mode) (ops : Array Oper) (s : Nat) : Bool :=
  (List.range s).all fun i => (List.range (s + 1)).any fun j => decide (i < j) && match ops[j]? with
    | some oj => oj.after.any fun e => Region.binds md e && e.on == i
    | none => false
/-- number i may come up, and nothing that may come up beside it minds whether it has -/
structure Early (md : Region.Mode) (ops : Array Oper) (i : Nat) (oi : Oper) (listed : Array Bool) : Prop where
  shut : Shutd md ops listed
  up : i ∈ Region.ready md ops listed
  free : ∀ j oj, ops[j]? = some oj → j ≠ i → listed.getD j true = false → (∀ e ∈ oj.after, Region.binds md e = true → e.on ≠ i) → oi.apart ops oj = true
theorem Early.still {i : Nat} {oi : Oper} {listed : Array Bool} (E : Early md ops i oi listed) : listed.getD i false = false := by
  have away := (mem_ready.1 E.up).1
  by_cases inside : i < listed.size
  · simp only [Array.getD, inside, dite_true] at away ⊢
    exact away
  · simp only [Array.getD, inside, dite_false] at away
    cases away
theorem Early.mild {i j : Nat} {oi oj : Oper} {listed : Array Bool} (E : Early md ops i oi listed) (hj : j ∈ Region.ready md ops listed) (ne : j ≠ i) (hoj : ops[j]? = some oj) : oi.apart ops oj = true := by
  obtain ⟨un, o, ho, waits⟩ := mem_ready.1 hj
  obtain rfl : oj = o := Option.some.inj (hoj.symm.trans ho)
  refine E.free j oj hoj ne un ?_
  rintro e he hb rfl
  exact absurd (waits e he hb) (by rw [E.still]; decide)
theorem Early.next {i j : Nat} {oi : Oper} {listed : Array Bool} (E : Early md ops i oi listed) (hj : j ∈ Region.ready md ops listed) (ne : j ≠ i) : Early md ops i oi (listed.setIfInBounds j true) where
  shut := E.shut.set hj
  up := ready_mono E.up ne.symm
  free := by
    intro k ok hk hki un
    refine E.free k ok hk hki ?_
    rcases Nat.decEq j k with no | yes
    · exact (getD_set_ne true no).symm.trans un
    · exact yes ▸ (mem_ready.1 hj).1
/-- a step of another one with number i taken ahead of it is one with number i still to be taken -/
theorem Early.over {i j : Nat} {oi : Oper} {v : Value} {listed : Array Bool} {a : Act} {w : World} {K : Act → World → Prop} (E : Early md ops i oi listed) (hi : ops[i]? = some oi)
    (hsel : ∀ (j : Nat) (o : Oper) cs b, ops[j]? = some o → o.op ≠ .select cs b) (hQ : ∀ c a w, Q (.panic c) (a.put oi.dst v) w → Q (.panic c) a w)
    (hj : j ∈ Region.ready md ops listed) (ne : j ≠ i) (hy : YieldsIf P ops S oi v a) (h : wpOp P ops Q j K (a.put oi.dst v) w) :
    wpOp P ops Q j (fun a' w' => YieldsIf P ops S oi v a' ∧ K (a'.put oi.dst v) w') a w := by
  obtain ⟨-, oj, hoj, -⟩ := mem_ready.1 hj
  exact wpOp_putIf hoj (E.mild hj ne hoj) (fun cs b => hsel i oi cs b hi) (fun cs b => hsel j oj cs b hoj) hQ hy h
end
end Go.Proofs.Yteckglnfkgfefaa
