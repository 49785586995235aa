/- versions by key: groups, and the iterator that gives them -/
import Derived.Test.YtlkmcbelmldleaaGreatVE
namespace Go.Proofs.YtlkmcbelmldleaaGreat
open Go.RowKit Go.Shelf
set_option maxRecDepth 40000
attribute [local go_sem] Oper.semAt_some
def sameK (k : ByteArray) (x : Vr) : Bool := x.key.toList == k.toList
/-- the groups of one key, each with the place at which it begins -/
def gps : Nat → Nat → List Vr → List (Nat × List Vr)
  | 0, _, _ => []
  | _ + 1, _, [] => []
  | f + 1, s, x :: r => (s, x :: r.takeWhile (sameK x.key)) :: gps f (s + 1 + (r.takeWhile (sameK x.key)).length) (r.dropWhile (sameK x.key))
def gpsOf (s : Nat) (l : List Vr) : List (Nat × List Vr) := gps l.length s l
theorem dropWhile_len (p : Vr → Bool) (l : List Vr) : (l.dropWhile p).length ≤ l.length := by
  induction l with
  | nil => simp
  | cons x r ih => rw [List.dropWhile_cons]; split <;> simp <;> omega
theorem gps_fuel : ∀ (f f' s : Nat) (l : List Vr), l.length ≤ f → l.length ≤ f' → gps f s l = gps f' s l := by
  intro f
  induction f with
  | zero =>
    intro f' s l h _
    have : l = [] := List.eq_nil_of_length_eq_zero (by omega)
    subst this
    cases f' <;> rfl
  | succ f ih =>
    intro f' s l h h'
    cases l with
    | nil => cases f' <;> rfl
    | cons x r =>
      cases f' with
      | zero => simp at h'
      | succ f' =>
        have h1 := dropWhile_len (sameK x.key) r
        simp only [List.length_cons] at h h'
        simp only [gps]
        rw [ih f' _ _ (by omega) (by omega)]
theorem gpsOf_nil (s : Nat) : gpsOf s [] = [] := rfl
theorem gpsOf_cons (s : Nat) (x : Vr) (r : List Vr) : gpsOf s (x :: r) = (s, x :: r.takeWhile (sameK x.key)) :: gpsOf (s + 1 + (r.takeWhile (sameK x.key)).length) (r.dropWhile (sameK x.key)) := by
  unfold gpsOf
  simp only [List.length_cons, gps]
  rw [gps_fuel _ _ _ _ (dropWhile_len _ _) (Nat.le_refl _)]
theorem while_take (p : Vr → Bool) : ∀ (q : List Vr) (m : Nat), m ≤ q.length → (∀ j, j < m → p (q.getD j Vr0) = true) → (m = q.length ∨ p (q.getD m Vr0) = false) → q.takeWhile p = q.take m ∧ q.dropWhile p = q.drop m := by
  intro q
  induction q with
  | nil => intro m hm _ _; simp at hm; subst hm; simp
  | cons x r ih =>
    intro m hm hall hend
    cases m with
    | zero =>
      rcases hend with h | h
      · simp at h
      · simp only [List.getD_cons_zero] at h
        simp [h]
    | succ m =>
      have h0 : p x = true := by have := hall 0 (by omega); simpa using this
      have := ih m (by simpa using hm) (fun j hj => by have := hall (j + 1) (by omega); simpa using this) (by
        rcases hend with h | h
        · left; simpa using h
        · right; simpa using h)
      simp [h0, this.1, this.2]
abbrev hd (g : Nat × List Vr) : Vr := g.2.headD Vr0
/-- what a round is handed: the key, and its versions -/
abbrev encG (b off cap : Nat) (g : Nat × List Vr) : Array Value := #[.string (hd g).key, .slice (some ⟨b, off + g.1 * 4, none⟩) g.2.length (cap - g.1)]
/-- what a round keeps: all blocks below n but those of X -/
structure Kp (X : Nat → Bool) (n : Nat) (W W' : World) : Prop where
  size : W.heap.size ≤ W'.heap.size
  block : ∀ b, b < n → X b = false → W'.heap[b]? = W.heap[b]?
theorem Kp.trans {X : Nat → Bool} {n : Nat} {A B C : World} (h : Kp X n A B) (k : Kp X n B C) : Kp X n A C :=
  ⟨Nat.le_trans h.size k.size, fun b hb hx => (k.block b hb hx).trans (h.block b hb hx)⟩
theorem kp_put {X : Nat → Bool} {n : Nat} {w : World} (hn : n ≤ w.heap.size) (W : World) (l : Nat) (o o' : Obj) (hl : w.heap.size ≤ l) (_ : W.heap[l]? = some o) (_ : o.isCells = false) : Kp X n W (W.putObj l o') :=
  ⟨by simp, fun b hb _ => World.putObj_heap_other (by omega)⟩
theorem Kp.of_below {X : Nat → Bool} {n : Nat} {A B : World} (h : Below n A B) : Kp X n A B := ⟨h.size, fun b hb _ => h.block b hb⟩
theorem IsV.blk {w w' : World} {a : Option Addr} {len cap : Nat} {l : List Vr} (h : IsV w a len cap l) (hs : w.heap.size ≤ w'.heap.size) (hb : ∀ b off, a = some ⟨b, off, none⟩ → 0 < len → w'.heap[b]? = w.heap[b]?) : IsV w' a len cap l := by
  refine ⟨h.1, h.2.1, h.2.2.1, fun i hi => ?_⟩
  obtain ⟨b, off, e, hlt, h0, h1, h2, h3⟩ := h.2.2.2 i hi
  have k : ∀ j, w'.cell? ⟨b, j, none⟩ = w.cell? ⟨b, j, none⟩ := fun j => World.cell?_of_block (hb b off e (by omega))
  exact ⟨b, off, e, Nat.lt_of_lt_of_le hlt hs, (k _).trans h0, (k _).trans h1, (k _).trans h2, (k _).trans h3⟩
theorem Turn.block {box : Nat} {A B : World} (h : Turn (some box) A B) {b : Nat} (hb : b < A.heap.size) (hne : b ≠ box) : B.heap[b]? = A.heap[b]? := by
  cases h with
  | lay o => exact heap_alloc_old A o b hb
  | draw => rfl
  | put c v hc => cases hc; exact Below.heap_setCell A _ v b hne
def leftAt (B : Nat) (W : World) : Nat :=
  match W.cell? ⟨B, 0, none⟩ with
  | some (.slice _ n _) => n
  | _ => 0
theorem only_in (n : Nat) (k : ByteArray) (w : World) : CallsIn Fence.wide n Tryz.prog 89 #[.string k] w fun e w' => e = .returned (.func (.func 116) #[] #[.pointer (some ⟨w.heap.size, 0, none⟩)]) ∧ w' = w.alloc (.cells #[.string k] 9) := by
  refine callsIn_of_wp Tryz.func89 rfl trivial ?_ rfl
  simp only [Tryz.ntmps89, List.size_toArray, List.length_cons, List.length_nil, Nat.reduceAdd, Nat.reduceSub, Array.replicate_succ, Array.replicate_zero, List.push_toArray, List.append_toArray, List.nil_append, List.cons_append]
  gi_wp2
  go_ret
  exact ⟨rfl, rfl⟩
theorem only1_any (k key : ByteArray) (B : Nat) (w : World) (h : w.cell? ⟨B, 0, none⟩ = some (.string key)) : Calls Tryz.prog 116 #[.string k, .pointer (some ⟨B, 0, none⟩)] w fun e w' => e = .returned (.bool (k.toList == key.toList)) ∧ w' = w := by
  go_enter Tryz.func116, Tryz.ntmps116
  go_wp2
  go_ret
  exact ⟨rfl, rfl⟩
theorem within_in (n : Nat) (k t : ByteArray) (w : World) : CallsIn Fence.wide n Tryz.prog 84 #[.string k, .string t] w fun e w' => e = .returned (.func (.func 113) #[] #[.pointer (some ⟨w.heap.size, 0, none⟩), .pointer (some ⟨w.heap.size + 1, 0, none⟩)]) ∧ w' = (w.alloc (.cells #[.string k] 9)).alloc (.cells #[.string t] 9) := by
  refine callsIn_of_wp Tryz.func84 rfl trivial ?_ rfl
  simp only [Tryz.ntmps84, List.size_toArray, List.length_cons, List.length_nil, Nat.reduceAdd, Nat.reduceSub, Array.replicate_succ, Array.replicate_zero, List.push_toArray, List.append_toArray, List.nil_append, List.cons_append]
  gi_wp2
  go_ret
  exact ⟨rfl, rfl⟩
def inSpan (fr to k : ByteArray) : Bool := !Op.bytesLess k.toList fr.toList && (to.toList.isEmpty || Op.bytesLess k.toList to.toList)
theorem within1_any (k fr to : ByteArray) (B B' : Nat) (w : World) (h : w.cell? ⟨B, 0, none⟩ = some (.string fr)) (h' : w.cell? ⟨B', 0, none⟩ = some (.string to)) : Calls Tryz.prog 113 #[.string k, .pointer (some ⟨B, 0, none⟩), .pointer (some ⟨B', 0, none⟩)] w fun e w' => e = .returned (.bool (inSpan fr to k)) ∧ w' = w := by
  have HR : Hid (inSpan fr to k = (!Op.bytesLess k.toList fr.toList && (to.toList.isEmpty || Op.bytesLess k.toList to.toList))) := hide rfl
  generalize inSpan fr to k = R at *
  go_enter Tryz.func113, Tryz.ntmps113
  go_wp2
  all_goals go_ret
  all_goals refine ⟨?_, rfl⟩
  all_goals rw [HR.out]
  all_goals clear HR
  all_goals simp_all
theorem every_any (k : ByteArray) (w : World) : Calls Tryz.prog 117 #[.string k] w fun e w' => e = .returned (.bool true) ∧ w' = w := by
  go_enter Tryz.func117, Tryz.ntmps117
  go_wp2
  go_ret
  exact ⟨rfl, rfl⟩
theorem byKey_in (n : Nat) (a : Option Addr) (len cap fi : Nat) (lb : Array Value) (w : World) : CallsIn Fence.wide n Tryz.prog 83 #[.slice a len cap, .func (.func fi) #[] lb] w fun e w' =>
    e = .returned (.func (.func 112) #[] #[.pointer (some ⟨w.heap.size, 0, none⟩), .pointer (some ⟨w.heap.size + 1, 0, none⟩)]) ∧ w' = (w.alloc (.cells #[.slice a len cap] 28)).alloc (.cells #[.func (.func fi) #[] lb] 145) := by
  refine callsIn_of_wp Tryz.func83 rfl trivial ?_ rfl
  simp only [Tryz.ntmps83, List.size_toArray, List.length_cons, List.length_nil, Nat.reduceAdd, Nat.reduceSub, Array.replicate_succ, Array.replicate_zero, List.push_toArray, List.append_toArray, List.nil_append, List.cons_append]
  gi_wp2
  go_ret
  exact ⟨rfl, rfl⟩
end Go.Proofs.YtlkmcbelmldleaaGreat
