/- numbers that are turned in memory, all else kept -/
import Derived.Test.YtebikoekpbnpbaaLawKeys
namespace Go.Proofs.Ytebikoekpbnpbaa
open Go.RowKit Cod
set_option maxRecDepth 100000
set_option linter.unusedVariables false
set_option linter.unusedSimpArgs false
def isI : Value → Bool
  | .int _ _ => true
  | _ => false
/-- numbers alone have been turned, in blocks from B on -/
structure Mut (B : Nat) (w W : World) : Prop where
  bel : Below B w W
  keep : ∀ x v, w.cell? x = some v → isI v = false → W.cell? x = some v
  ints : ∀ x k z, w.cell? x = some (.int k z) → ∃ z', W.cell? x = some (.int k z')
  frz : ∀ x, (w.cell? x).isSome = true → W.frozen? x = w.frozen? x
theorem Mut.refl (B : Nat) (w : World) : Mut B w w := ⟨Below.refl _ _, fun _ _ h _ => h, fun _ _ z h => ⟨z, h⟩, fun _ _ => rfl⟩
theorem Mut.stays {B : Nat} {w W : World} (h : Mut B w W) {x : Addr} (hx : (w.cell? x).isSome = true) : (W.cell? x).isSome = true := by
  obtain ⟨v, hv⟩ := Option.isSome_iff_exists.1 hx
  cases hi : isI v with
  | false => rw [h.keep x v hv hi]; rfl
  | true =>
    cases v <;> simp [isI] at hi
    obtain ⟨z', hz⟩ := h.ints x _ _ hv
    rw [hz]; rfl
theorem Mut.trans {B : Nat} {u w W : World} (h : Mut B u w) (k : Mut B w W) : Mut B u W :=
  ⟨h.bel.trans k.bel, fun x v hx hv => k.keep x v (h.keep x v hx hv) hv, fun x kd z hx => by
    obtain ⟨z', hz⟩ := h.ints x kd z hx
    exact k.ints x kd z' hz, fun x hx => (k.frz x (h.stays hx)).trans (h.frz x hx)⟩
theorem cell_lt {w : World} {x : Addr} (h : (w.cell? x).isSome = true) : x.block < w.heap.size := by
  obtain ⟨v, hv⟩ := Option.isSome_iff_exists.1 h
  unfold World.cell? at hv
  cases hb : w.heap[x.block]? with
  | none => rw [hb] at hv; cases hv
  | some o => exact heap_ltN hb
theorem Mut.alloc {B : Nat} {w : World} (hB : B ≤ w.heap.size) (o : Obj) : Mut B w (w.alloc o) := by
  have hb : ∀ x : Addr, (w.cell? x).isSome = true → (w.alloc o).heap[x.block]? = w.heap[x.block]? := fun x hx => heap_alloc_old _ _ (cell_lt hx)
  refine ⟨(Below.refl _ _).alloc hB _, fun x v hx _ => ?_, fun x k z hx => ⟨z, ?_⟩, fun x hx => World.frozen?_of_block (hb x hx)⟩
  · exact (World.cell?_of_block (hb x (by rw [hx]; rfl))).trans hx
  · exact (World.cell?_of_block (hb x (by rw [hx]; rfl))).trans hx
theorem Mut.set {B : Nat} {w : World} {b o : Nat} {k : IntKind} {z : Int} (hB : B ≤ b) (hx : w.cell? ⟨b, o, none⟩ = some (.int k z)) (z' : Int) : Mut B w (w.setCell ⟨b, o, none⟩ (.int k z')) := by
  refine ⟨(Below.refl _ _).setCell hB _, fun x v hv hi => ?_, fun x k2 z2 hv => ?_, fun x _ => World.frozen?_setCell _ _ _ _⟩
  · by_cases e : x = ⟨b, o, none⟩
    · rw [e, hx] at hv
      cases hv
      cases hi
    · rw [World.cell?_setCell_other (h := Ne.symm e)]
      exact hv
  · by_cases e : x = ⟨b, o, none⟩
    · rw [e, hx] at hv
      cases hv
      exact ⟨z', by rw [e]; exact World.cell?_setCell_same w ⟨b, o, none⟩ _ hx⟩
    · exact ⟨z2, by rw [World.cell?_setCell_other (h := Ne.symm e)]; exact hv⟩
/-- a byte that may be turned -/
def ByW (B : Nat) (V : World) (a : Option Addr) (j : Nat) : Prop := ∃ b off, a = some ⟨b, off, none⟩ ∧ ∀ W, Mut B V W → (∃ z, W.cell? ⟨b, off + j, none⟩ = some (.int .u8 z)) ∧ W.frozen? ⟨b, off + j, none⟩ = false ∧ ∀ z', Mut B W (W.setCell ⟨b, off + j, none⟩ (.int .u8 z'))
def KdW (B : Nat) (V : World) (a : Option Addr) (j : Nat) : Prop := ∃ b off, a = some ⟨b, off, none⟩ ∧ ∀ W, Mut B V W → (∃ z, W.cell? ⟨b, off + j, none⟩ = some (.int .i64 z)) ∧ W.frozen? ⟨b, off + j, none⟩ = false ∧ ∀ z', Mut B W (W.setCell ⟨b, off + j, none⟩ (.int .i64 z'))
theorem fz_no {w : World} {b o : Nat} (h : FzB w b) : w.frozen? ⟨b, o, none⟩ = false := by
  obtain ⟨cs, hc⟩ := h
  exact frzN hc o
theorem fzk_no {w : World} {b o : Nat} (h : FzK w b) : w.frozen? ⟨b, o, none⟩ = false := by
  obtain ⟨cs, hc⟩ := h
  exact frzN hc o
theorem byW {B : Nat} {V : World} {a : Option Addr} {n c : Nat} {l : List Nat} (h : IsB V a n c l) (hf : ∀ b off, a = some ⟨b, off, none⟩ → B ≤ b ∧ FzB V b) {j : Nat} (hj : j < n) : ByW B V a j := by
  rcases h.2.2.2.2 with ⟨h0, _⟩ | ⟨b, off, e, hlt, hc⟩
  · omega
  · have hx := hc j hj
    obtain ⟨g1, g2⟩ := hf b off e
    refine ⟨b, off, e, fun W hW => ?_⟩
    obtain ⟨z', hz⟩ := hW.ints _ _ _ hx
    exact ⟨⟨z', hz⟩, (hW.frz _ (by rw [hx]; rfl)).trans (fz_no g2), fun z2 => Mut.set g1 hz z2⟩
/-- an element of a list of one's own, and its bytes -/
theorem elW {B G : Nat} {V : World} {a : Option Addr} {n c : Nat} {L : List (List Nat)} (h : NwL V G a n c L) (hB : B ≤ G) {i : Nat} (hi : i < n) : ∃ b off a' n' c', a = some ⟨b, off, none⟩ ∧ (∀ W, Mut B V W → W.cell? ⟨b, off + i, none⟩ = some (.slice a' n' c')) ∧ n' ≤ c' ∧ c' ≤ maxLen ∧ ∀ j, j < n' → ByW B V a' j := by
  obtain ⟨b, off, a', n', c', e, hlt, hc, hI⟩ := h.is.2.2.2.2 i hi
  refine ⟨b, off, a', n', c', e, fun W hW => hW.keep _ _ hc rfl, hI.2.1, hI.2.2.1, fun j hj => byW hI (fun b' off' e' => ?_) hj⟩
  subst e'
  have := h.far i hi b off b' off' n' c' e hc
  exact ⟨by omega, this.2⟩
theorem kdW {B G : Nat} {V : World} {v : Pv} {p : Pg} (h : NwG V G v p) (hB : B ≤ G) {j : Nat} (hj : j < v.inn) : KdW B V v.ia j := by
  obtain ⟨_, b, off, e, hlt, hx⟩ := h.kids.2.2.2.2 j hj
  obtain ⟨g1, g2⟩ := h.far b off e
  refine ⟨b, off, e, fun W hW => ?_⟩
  obtain ⟨z', hz⟩ := hW.ints _ _ _ hx
  exact ⟨⟨z', hz⟩, (hW.frz _ (by rw [hx]; rfl)).trans (fzk_no g2), fun z2 => Mut.set (by omega) hz z2⟩
/-- node.Split, whatever it answers -/
theorem split_all (v : Pv) (p : Pg) (w : World) (h : IsG w v p) (hc : FewP v) :
    Calls Try.prog 29 #[.agg (pgc p.leaf v)] w fun e w' => ∃ (l1 l2 : Bool) (v1 v2 : Pv) (p1 p2 : Pg) (xa : Option Addr) (xn xc : Nat) (xl : List Nat) (er : Int), e = .returned (.tuple #[.agg (pgc l1 v1), .slice xa xn xc, .agg (pgc l2 v2), .int .i64 er]) ∧ NwG w' (w.heap.size + 2) v1 p1 ∧ NwG w' (w.heap.size + 2) v2 p2 ∧ IsB w' xa xn xc xl ∧ (∀ b off, xa = some ⟨b, off, none⟩ → w.heap.size + 2 < b ∧ FzB w' b) ∧ Below w.heap.size w w' := by
  by_cases hE : splitE p = 0
  · refine (split_yes v p w h hc hE).mono ?_
    rintro e w' ⟨m, v1, v2, xa, xc, rfl, hs, n1, n2, hB, hF, hb⟩
    exact ⟨_, _, v1, v2, _, _, xa, _, xc, _, 0, rfl, n1, n2, hB, hF, hb⟩
  · refine (split_no v p w h hc hE).mono ?_
    rintro e w' ⟨rfl, hb⟩
    exact ⟨false, false, Pv0, Pv0, Pg0, Pg0, none, 0, 0, [], splitE p, rfl, nwG_0 _ _, nwG_0 _ _, isB_nil _, nofun, hb⟩
end Go.Proofs.Ytebikoekpbnpbaa
