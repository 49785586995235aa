/- a range over a function whose iterator writes a box of its own: contract and law -/
import Derived.RangeFuncNested
import Derived.RangeFuncBound
import Derived.RangeFuncBox
import Derived.RangeFuncCalls
import Derived.RangeFuncLeaves
import Derived.Shelf.Abstract
import Derived.Shelf.RegionOpen
import Derived.WalkKit
import Derived.OwnWalkIn
import Derived.TacticsInMore
import Derived.LoopNIn
import Derived.LoopIn
import Derived.Test.YtlkmcbelmldleaaGreatVB
namespace Go.Proofs.YtlkmcbelmldleaaGreat
open Go.RowKit Go.Shelf
set_option maxRecDepth 40000
/-- one step of an iterator's own: a new block, a draw, a store into its box -/
inductive Turn (box : Option Nat) : World → World → Prop
  | lay (A : World) (o : Obj) : Turn box A (A.alloc o)
  | draw (A : World) : Turn box A A.drew
  | put (A : World) (b : Nat) (v : Value) (h : box = some b) : Turn box A (A.setCell ⟨b, 0, none⟩ v)
theorem Turn.others {box : Option Nat} {A B : World} (h : Turn box A B) : KeepsOthers A B := by
  cases h with
  | lay o => exact KeepsOthers.alloc A o
  | draw => exact KeepsOthers.drew A
  | put b v hb => exact KeepsOthers.setCell A _ _
/-- what is said of a world for each number of rounds abides an iterator's steps -/
def Stays (box : Option Nat) (J : Nat → World → Prop) : Prop := ∀ k A B, Turn box A B → J k A → J k B
/-- an iterator gives the elements of xs, one behind the other, for rounds that keep what Kp says -/
def Gives {α : Type} (n : Nat) (P : Program) (g : Nat) (lb : Array Value) (encs : α → Array Value) (xs : List α) (box : Option Nat) (Kp : World → World → Prop) (w : World) : Prop :=
  ∀ (l : Nat) (J E : Nat → World → Prop) (W : World), Below w.heap.size w W → Stays box J → Stays box E →
    (∀ k x A, xs[k]? = some x → J k A → YieldAt Fence.wide (n - 1) P l (encs x) A fun e B => (e = .returned (.bool true) ∧ J (k + 1) B ∧ Kp A B) ∨ (e = .returned (.bool false) ∧ E k B)) →
    J 0 W → CallsIn Fence.wide n P g (#[.func (.yield l) #[] #[]] ++ lb) W fun e B => (∃ v, e = .returned v) ∧ (J xs.length B ∨ ∃ k, k < xs.length ∧ E k B)
/-- the book of a loop: its record and its block of deferred calls, at two places behind one another -/
structure Book (N : Nat) (r : Loop) (A : World) : Prop where
  rec_ : A.heap[N + 1]? = some (.loop r)
  defs : A.heap[N]? = some (.deferred (some []))
theorem Book.keeps {N : Nat} {r : Loop} {A B : World} (h : Book N r A) (k : KeepsOthers A B) : Book N r B := ⟨k.same _ _ h.rec_ rfl, k.same _ _ h.defs rfl⟩
theorem Book.put {N : Nat} {r r' : Loop} {A : World} (h : Book N r A) : Book N r' (A.putObj (N + 1) (.loop r')) :=
  ⟨World.putObj_heap_same (Array.getElem?_eq_some_iff.1 h.rec_).1, (World.putObj_heap_other (by omega)).trans h.defs⟩
/-- what a round leaves: it goes on, or by one of the jumps -/
def After (Kp : World → World → Prop) (I : World → Prop) (X : Code → World → Prop) (A : World) : Exit → Act → World → Prop
  | .normal, _, B => KeepsOthers A B ∧ Kp A B ∧ I B
  | .ret, _, B => KeepsOthers A B ∧ X .ret B
  | .exit i, _, B => KeepsOthers A B ∧ X (.exit i) B
  | .goto t, _, B => KeepsOthers A B ∧ X (.goto t) B
  | .panic _, _, _ => False
  | .outgrown, _, _ => False
theorem wp_gives {α : Type} {n : Nat} {P : Program} {g : Operand} {ps : Array Tmp} {assign body : Code} {Q : Exit → Act → World → Prop} {a : Act} {w w0 : World} {gf : Nat} {lb : Array Value} {encs : α → Array Value} {xs : List α} {box : Option Nat} {Kp : World → World → Prop}
    (hg : a.eval g = .func (.func gf) #[] lb) (eg : ∀ args w, (callFunc gf args).run P w = .ok (.enter gf args) w)
    (hit : Gives (n - 1) P gf lb encs xs box Kp w0) (hb : Below w0.heap.size w0 w) (hps : ∀ x, (encs x).size = ps.size)
    (ktr : ∀ {A B C : World}, Kp A B → Kp B C → Kp A C) (kput : ∀ (A : World) (l : Nat) (o o' : Obj), w.heap.size ≤ l → A.heap[l]? = some o → o.isCells = false → Kp A (A.putObj l o'))
    (I : Nat → World → Prop) (X : Code → Nat → World → Prop) (iT : Stays box I) (xT : ∀ c, Stays box (X c))
    (iP : ∀ k (A : World) l o o', w.heap.size ≤ l → A.heap[l]? = some o → o.isCells = false → I k A → I k (A.putObj l o'))
    (xP : ∀ c k (A : World) l o o', w.heap.size ≤ l → A.heap[l]? = some o → o.isCells = false → X c k A → X c k (A.putObj l o'))
    (i0 : I 0 w) (Ax : α → Act → World → Prop) (aP : ∀ x a' (A : World) l o o', w.heap.size ≤ l → A.heap[l]? = some o → o.isCells = false → Ax x a' A → Ax x a' (A.putObj l o'))
    (hassign : ∀ (l k : Nat) (x : α) (A : World) (K : Act → World → Prop), xs[k]? = some x → I k A → (∀ a' B, KeepsOthers A B → Kp A B → I k B → Ax x a' B → K a' B) →
      assign.wpIn (Fence.wide.inRound l) (n - 1 - 1) P (Exit.then K (fun _ _ _ => False)) { tmps := (ps.zip (encs x)).foldl (fun t (p, v) => t.setIfInBounds p v) a.tmps, defers := [] } A)
    (hbody : ∀ (l k : Nat) (x : α) (a' : Act) (A : World), xs[k]? = some x → I k A → Ax x a' A → body.wpIn (Fence.wide.inRound l) (n - 1 - 1) P (After Kp (I (k + 1)) (fun c => X c k) A) a' A)
    (hall : ∀ (D : Nat) (A : World), w.heap.size ≤ D → A.heap[D]? = some (.deferred (some [])) → I xs.length A → Q .normal { a with defers := { target := .collected D, args := #[] } :: a.defers } A)
    (hleft : ∀ (D : Nat) (c : Code) (k : Nat) (A : World), w.heap.size ≤ D → A.heap[D]? = some (.deferred (some [])) → k < xs.length → X c k A → c.wpIn Fence.wide n P Q { a with defers := { target := .collected D, args := #[] } :: a.defers } A) :
    (Code.rangeFunc g ps assign body).wpIn Fence.wide n P Q a w := by
  apply wpIn_rangeFunc
  intro fn _
  let R : LoopState → Option Code → Loop := fun s p => ⟨s, p, fn, a.tmps, ps, assign, body, w.heap.size⟩
  have bk0 : Book w.heap.size (R .ready none) ((w.alloc (.deferred (some []))).alloc (.loop (R .ready none))) := by
    constructor
    · have e := World.alloc_heap_new (w.alloc (.deferred (some []))) (.loop (R .ready none))
      simpa using e
    · exact (Below.heap_alloc _ _ _ (by simp)).trans (World.alloc_heap_new w _)
  have hin : I 0 ((w.alloc (.deferred (some []))).alloc (.loop (R .ready none))) := iT 0 _ _ (.lay _ _) (iT 0 _ _ (.lay _ _) i0)
  have hlow : Below w0.heap.size w0 ((w.alloc (.deferred (some []))).alloc (.loop (R .ready none))) :=
    (hb.alloc hb.size _).alloc (by have := hb.size; simp; omega) _
  have hent := run_enterLoop_outer (P := P) (w := w) fn a.tmps ps assign body
  generalize ((w.alloc (.deferred (some []))).alloc (.loop (R .ready none))) = V at bk0 hin hlow hent
  refine ⟨_, _, V, ⟨.fn (.func gf) lb, #[.func (.yield (w.heap.size + 1)) #[] #[]]⟩, V, gf, #[.func (.yield (w.heap.size + 1)) #[] #[]] ++ lb, V, hent, ?_, fun f' _ => trivial, ?_, fun h => absurd h (by simp [Fence.wide]), ?_⟩
  · simp only [resolve, hg]; simp [go_sem]
  · simp [invoke, go_sem, eg]
  have hround : ∀ (k : Nat) (x : α) (A : World), xs[k]? = some x → (I k A ∧ Book w.heap.size (R .ready none) A) →
      YieldAt Fence.wide (n - 1 - 1) P (w.heap.size + 1) (encs x) A fun e B => (e = .returned (.bool true) ∧ (I (k + 1) B ∧ Book w.heap.size (R .ready none) B) ∧ Kp A B) ∨ (e = .returned (.bool false) ∧ ∃ c, X c k B ∧ Book w.heap.size (R .done (some c)) B) := by
    rintro k x A hx ⟨hi, bk⟩
    refine ⟨fn, _, assign, body, run_yield bk.rec_ (hps x), roundIn_of_wpIn trivial (hassign _ k x A _ hx hi (fun a' A2 hk2 hkp2 hi2 hax => ⟨_, run_beginRound (bk.keeps hk2).rec_ rfl, ?_⟩))⟩
    have bk' := bk.keeps hk2
    have bk1 : Book w.heap.size (R .busy none) (A2.putObj (w.heap.size + 1) (.loop (R .busy none))) := bk'.put
    have kp1 := ktr hkp2 (kput A2 _ _ (.loop (R .busy none)) (Nat.le_succ _) bk'.rec_ rfl)
    have hi1 := iP k A2 _ _ (.loop (R .busy none)) (Nat.le_succ _) bk'.rec_ rfl hi2
    refine wpIn_mono (hbody _ k x a' _ hx hi1 (aP x a' A2 _ _ _ (Nat.le_succ _) bk'.rec_ rfl hax)) ?_
    have leave : ∀ (c : Code) (B : World), KeepsOthers (A2.putObj (w.heap.size + 1) (.loop (R .busy none))) B → X c k B →
        ∃ v B', (Instr.endRound (w.heap.size + 1) (some c)).run P B = .ok v B' ∧ ((Ending.returned v = .returned (.bool true) ∧ (I (k + 1) B' ∧ Book w.heap.size (R .ready none) B') ∧ Kp A B') ∨ (Ending.returned v = .returned (.bool false) ∧ ∃ c, X c k B' ∧ Book w.heap.size (R .done (some c)) B')) := by
      intro c B hk hxc
      have bk2 := bk1.keeps hk
      exact ⟨_, _, run_endRound (some c) bk2.rec_, .inr ⟨rfl, c, xP c k B _ _ _ (Nat.le_succ _) bk2.rec_ rfl hxc, bk2.put⟩⟩
    intro e a3 B hp
    cases e with
    | normal =>
      obtain ⟨hk, hkp, hi2⟩ := hp
      have bk2 := bk1.keeps hk
      exact ⟨_, _, run_endRound none bk2.rec_, .inl ⟨rfl, ⟨iP (k + 1) B _ _ _ (Nat.le_succ _) bk2.rec_ rfl hi2, bk2.put⟩, ktr (ktr kp1 hkp) (kput B _ _ _ (Nat.le_succ _) bk2.rec_ rfl)⟩⟩
    | ret => exact leave .ret B hp.1 hp.2
    | exit i => exact leave (.exit i) B hp.1 hp.2
    | goto t => exact leave (.goto t) B hp.1 hp.2
    | panic c => exact hp.elim
    | outgrown => exact hp.elim
  refine (hit (w.heap.size + 1) (fun k A => I k A ∧ Book w.heap.size (R .ready none) A) (fun k A => ∃ c, X c k A ∧ Book w.heap.size (R .done (some c)) A) V hlow
    (fun k A B t h => ⟨iT k A B t h.1, h.2.keeps t.others⟩) (fun k A B t h => by obtain ⟨c, h1, h2⟩ := h; exact ⟨c, xT c k A B t h1, h2.keeps t.others⟩) hround ⟨hin, bk0⟩).mono ?_
  rintro e B ⟨⟨v, rfl⟩, hh⟩
  rcases hh with ⟨hi, bk⟩ | ⟨k, hk, c, hx, bk⟩
  · have hend := run_endLoop (P := P) bk.rec_ (show LoopState.ready ≠ .busy by intro h; cases h)
    exact ⟨none, _, hend, hall _ _ (Nat.le_refl _) ((World.putObj_heap_other (by omega)).trans bk.defs) (iP _ B _ _ _ (Nat.le_succ _) bk.rec_ rfl hi)⟩
  · have hend := run_endLoop (P := P) bk.rec_ (show LoopState.done ≠ .busy by intro h; cases h)
    exact ⟨some c, _, hend, hleft _ c k _ (Nat.le_refl _) ((World.putObj_heap_other (by omega)).trans bk.defs) hk (xP c k B _ _ _ (Nat.le_succ _) bk.rec_ rfl hx)⟩
end Go.Proofs.YtlkmcbelmldleaaGreat
