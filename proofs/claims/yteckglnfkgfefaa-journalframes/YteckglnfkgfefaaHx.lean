/- Hx Zx -/
import Derived.Test.YteckglnfkgfefaaJ
import Derived.Deep.RegionHeld
/- a region whose last operation writes what an earlier one has read -/
namespace Go.Proofs.Yteckglnfkgfefaa
section
variable {P : Program} {ops : Array Oper} {Q : Exit → Act → World → Prop} {md : Region.Mode} {S : World → Prop} {s : Nat}
/-- whatever order is picked; S holds behind every operation but number s -/
def wpAnyL (P : Program) (md : Region.Mode) (ops : Array Oper) (Q : Exit → Act → World → Prop) (S : World → Prop) (s : Nat) : Nat → Array Bool → Act → World → Prop
  | 0, listed, a, w => Region.ready md ops listed = [] ∧ Q .normal a w
  | fuel + 1, listed, a, w =>
    (Region.ready md ops listed = [] → Q .normal a w) ∧
    ∀ i ∈ Region.ready md ops listed, wpOp P ops Q i (fun a' w' => (i = s ∨ S w') ∧ wpAnyL P md ops Q S s fuel (listed.setIfInBounds i true) a' w') a w
/-- what is listed has all listed that it waits for -/
def Shutd (md : Region.Mode) (ops : Array Oper) (listed : Array Bool) : Prop :=
  ∀ j oj, ops[j]? = some oj → listed.getD j false = true → ∀ e ∈ oj.after, Region.binds md e = true → listed.getD e.on false = true
def shutdB (md : Region.Mode) (ops : Array Oper) (listed : Array Bool) : Bool :=
  (List.range ops.size).all fun j => !listed.getD j false || match ops[j]? with
    | some oj => oj.after.all fun e => !Region.binds md e || listed.getD e.on false
    | none => true
theorem Shutd.set {listed : Array Bool} (h : Shutd md ops listed) {i : Nat} (hi : i ∈ Region.ready md ops listed) : Shutd md ops (listed.setIfInBounds i true) := by
  intro j oj hj hl e he hb
  by_cases hji : i = j
  · subst hji
    obtain ⟨_, o, ho, hall⟩ := mem_ready.1 hi
    rw [hj] at ho
    cases ho
    exact getD_set_true (hall e he hb)
  · rw [getD_set_ne false hji] at hl
    exact getD_set_true (h j oj hj hl e he hb)
/-- each operation but s has a later one that waits for it -/
def lastB (md : Region.Mode) (ops : Array Oper) (s : Nat) : Bool :=
  (List.range s).all fun i => (List.range (s + 1)).any fun j => decide (i < j) && match ops[j]? with
    | some oj => oj.after.any fun e => Region.binds md e && e.on == i
    | none => false
/-- number i may come up, and nothing that may come up beside it minds whether it has -/
structure Early (md : Region.Mode) (ops : Array Oper) (i : Nat) (oi : Oper) (listed : Array Bool) : Prop where
  shut : Shutd md ops listed
  up : i ∈ Region.ready md ops listed
  free : ∀ j oj, ops[j]? = some oj → j ≠ i → listed.getD j true = false → (∀ e ∈ oj.after, Region.binds md e = true → e.on ≠ i) → oi.apart ops oj = true
theorem Early.still {i : Nat} {oi : Oper} {listed : Array Bool} (E : Early md ops i oi listed) : listed.getD i false = false := by
  have away := (mem_ready.1 E.up).1
  by_cases inside : i < listed.size
  · simp only [Array.getD, inside, dite_true] at away ⊢
    exact away
  · simp only [Array.getD, inside, dite_false] at away
    cases away
theorem Early.mild {i j : Nat} {oi oj : Oper} {listed : Array Bool} (E : Early md ops i oi listed) (hj : j ∈ Region.ready md ops listed) (ne : j ≠ i) (hoj : ops[j]? = some oj) : oi.apart ops oj = true := by
  obtain ⟨un, o, ho, waits⟩ := mem_ready.1 hj
  obtain rfl : oj = o := Option.some.inj (hoj.symm.trans ho)
  refine E.free j oj hoj ne un ?_
  rintro e he hb rfl
  exact absurd (waits e he hb) (by rw [E.still]; decide)
theorem Early.next {i j : Nat} {oi : Oper} {listed : Array Bool} (E : Early md ops i oi listed) (hj : j ∈ Region.ready md ops listed) (ne : j ≠ i) : Early md ops i oi (listed.setIfInBounds j true) where
  shut := E.shut.set hj
  up := ready_mono E.up ne.symm
  free := by
    intro k ok hk hki un
    refine E.free k ok hk hki ?_
    rcases Nat.decEq j k with no | yes
    · exact (getD_set_ne true no).symm.trans un
    · exact yes ▸ (mem_ready.1 hj).1
/-- a step of another one with number i taken ahead of it is one with number i still to be taken -/
theorem Early.over {i j : Nat} {oi : Oper} {v : Value} {listed : Array Bool} {a : Act} {w : World} {K : Act → World → Prop} (E : Early md ops i oi listed) (hi : ops[i]? = some oi)
    (hsel : ∀ (j : Nat) (o : Oper) cs b, ops[j]? = some o → o.op ≠ .select cs b) (hQ : ∀ c a w, Q (.panic c) (a.put oi.dst v) w → Q (.panic c) a w)
    (hj : j ∈ Region.ready md ops listed) (ne : j ≠ i) (hy : YieldsIf P ops S oi v a) (h : wpOp P ops Q j K (a.put oi.dst v) w) :
    wpOp P ops Q j (fun a' w' => YieldsIf P ops S oi v a' ∧ K (a'.put oi.dst v) w') a w := by
  obtain ⟨-, oj, hoj, -⟩ := mem_ready.1 hj
  exact wpOp_putIf hoj (E.mild hj ne hoj) (fun cs b => hsel i oi cs b hi) (fun cs b => hsel j oj cs b hoj) hQ hy h
end
end Go.Proofs.Yteckglnfkgfefaa
/- contracts: Restore with fates -/
namespace Go.Proofs.Yteckglnfkgfefaa
open Go.RowKit
open Go.ChangeMaps (setBlock)
open Go.Maps (Keyed has size)
variable {X : Nat → Prop}
def setSyn (f : Nat → List Nat) (x : Nat) (v : List Nat) : Nat → List Nat := fun i => if i = x then v else f i
/-- what sectors are behind the fates of the first k of those that were unsynced -/
def fated (fr : Nat → Option (List Nat)) (l : List (Nat × Nat)) (us : List Nat) (f : Nat → List Nat) : Nat → Nat → List Nat
  | 0 => f
  | k + 1 => setSyn (fated fr l us f k) (us.getD k 0) (outL (l.getD k (0, 0)).1 (l.getD k (0, 0)).2 (fated fr l us f k (us.getD k 0)) ((fr (us.getD k 0)).getD []))
def St.fates (st : St) (l : List (Nat × Nat)) (us : List Nat) (k : Nat) : St := { st with syn := fated st.fr l us st.syn k }
theorem IsD.puts {w : World} {g gs b n : Nat} {st : St} (h : IsD X w g gs b n st) {k : Nat} {v : Value} {l : List Nat} (hk : k < n) (hD : Dat X w v l) : IsD X (w.setCell ⟨gs, k, none⟩ v) g gs b n { st with syn := setSyn st.syn k l } := by
  obtain ⟨n1, n2, n3⟩ := h.ne
  obtain ⟨cur, hc, hsz, hd⟩ := h.syn
  obtain ⟨m, D, hown, hm, hfr⟩ := h.map
  have hK : K5 w (w.setCell ⟨gs, k, none⟩ v) := fun j cur' m' hj => by
    have hne : j ≠ gs := by rintro rfl; rw [hc] at hj; simp at hj
    exact (Below.heap_setCell _ _ _ _ hne).trans hj
  refine ⟨h.n0, h.n1, (Below.heap_setCell _ _ _ _ n1).trans h.blk, ⟨cur.setIfInBounds k v, blk_set hc _, hsz.set hk, fun i hi => ?_⟩, ⟨m, D, ?_, hm, hfr.kept hK⟩, h.wr, h.left, fun i hi => by have := h.xb i hi; simpa [World.setCell] using this⟩
  · by_cases hik : i = k
    · subst hik
      exact ⟨v, by simp [hsz.lt hi], by simp only [setSyn, if_true]; exact hD.kept hK⟩
    · obtain ⟨u, hu, hdu⟩ := hd i hi
      exact ⟨u, by simp [Ne.symm hik, hu], by simp only [setSyn, if_neg hik]; exact hdu.kept hK⟩
  · obtain ⟨es, clock, hb, rest⟩ := hown
    exact ⟨es, clock, (Below.heap_setCell _ _ _ _ (Ne.symm n3)).trans hb, rest⟩
theorem IsF.frm {w w' : World} {g gs b n : Nat} {st : St} {a : Option Addr} {len cap : Nat} {l : List (Nat × Nat)} (h : IsF w a len cap l) (hI : IsD X w g gs b n st) (hf : Frm (SD g gs b) w w') : IsF w' a len cap l := by
  refine ⟨h.1, h.2.1, h.2.2.1, h.2.2.2.1, fun i hi => ?_⟩
  obtain ⟨b', off, e, hlt, h1, h2⟩ := h.2.2.2.2 i hi
  have hne : ¬ SD g gs b b' := fun hi => hI.noU8 hi h1
  exact ⟨b', off, e, Nat.lt_of_lt_of_le hlt hf.size, (World.cell?_of_block (hf.block b' hlt hne)).trans h1, (World.cell?_of_block (hf.block b' hlt hne)).trans h2⟩
end Go.Proofs.Yteckglnfkgfefaa
