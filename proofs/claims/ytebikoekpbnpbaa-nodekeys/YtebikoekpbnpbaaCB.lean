/- contracts: the cursor -/
import Derived.Test.YtebikoekpbnpbaaCA
import Derived.Deep.QuietTactic
import Derived.BigQuiet
import Derived.Deep.RegionWith
namespace Go.Proofs.Ytebikoekpbnpbaa
open Go.RowKit Cod
set_option maxRecDepth 40000
theorem grown_trans {a b c : World} {g : Nat} (h : a.grownBy b (some g)) (k : b.grownBy c (some g)) : a.grownBy c (some g) :=
  ⟨k.os.trans h.os, k.tape.trans h.tape, k.output.trans h.output, Nat.le_trans h.size k.size, fun i hi hne => (k.block i (Nat.lt_of_lt_of_le hi h.size) hne).trans (h.block i hi hne)⟩
theorem grown_drewN {a b : World} {r : Option Nat} (h : a.grownBy b r) (n : Nat) : a.grownBy (b.drewN n) r := ⟨h.os, h.tape, h.output, h.size, h.block⟩
theorem grown_drew {a b : World} {r : Option Nat} (h : a.grownBy b r) : a.grownBy b.drew r := ⟨h.os, h.tape, h.output, h.size, h.block⟩
theorem grown_set {a b : World} {g j : Nat} (h : a.grownBy b (some g)) (v : Value) : a.grownBy (b.setCell ⟨g, j, none⟩ v) (some g) :=
  grown_trans h ⟨rfl, rfl, rfl, by simp [World.setCell], fun i _ hne => Below.heap_setCell _ _ _ _ (fun e => hne (by rw [e]))⟩
theorem grown_any {a b : World} {g : Nat} (h : a.grownBy b none) : a.grownBy b (some g) := ⟨h.os, h.tape, h.output, h.size, fun k hk _ => h.block k hk (by simp)⟩
theorem IsB.kept {w w' : World} {a : Option Addr} {len cap : Nat} {l : List Nat} {g : Nat} (h : IsB w a len cap l) (hg : w.grownBy w' (some g)) (hne : ∀ b off, a = some ⟨b, off, none⟩ → 0 < len → b ≠ g) : IsB w' a len cap l := by
  obtain ⟨h1, h2, h3, h4, h5⟩ := h
  refine ⟨h1, h2, h3, h4, ?_⟩
  rcases h5 with h5 | ⟨b, off, rfl, hlt, hc⟩
  · exact .inl h5
  · by_cases h0 : len = 0
    · exact .inl ⟨h0, by intro h; cases h⟩
    · exact .inr ⟨b, off, rfl, Nat.lt_of_lt_of_le hlt hg.size, fun i hi => hg.cell (hc i hi) (by have := hne b off rfl (by omega); simpa using this)⟩
/-- a cursor at block g, over the bytes l, at place p -/
structure Cur (w : World) (g : Nat) (a : Option Addr) (len cap : Nat) (l : List Nat) (p : Nat) : Prop where
  c0 : w.cell? ⟨g, 0, none⟩ = some (.slice a len cap)
  c1 : w.cell? ⟨g, 1, none⟩ = some (.int .i64 (p : Nat))
  fr : w.frozen? ⟨g, 1, none⟩ = false
  isb : IsB w a len cap l
  ne : ∀ b off, a = some ⟨b, off, none⟩ → 0 < len → b ≠ g
  le : p ≤ len
theorem Cur.lt {w : World} {g : Nat} {a : Option Addr} {len cap : Nat} {l : List Nat} {p : Nat} (h : Cur w g a len cap l p) : g < w.heap.size := block_lt_of_cell h.c0
theorem Cur.drewN {w : World} {g : Nat} {a : Option Addr} {len cap : Nat} {l : List Nat} {p : Nat} (h : Cur w g a len cap l p) (n : Nat) : Cur (w.drewN n) g a len cap l p :=
  ⟨h.c0, h.c1, h.fr, h.isb.kept (g := g) (grown_drewN (World.grownBy.refl _ _) n) h.ne, h.ne, h.le⟩
theorem Cur.kept {w w' : World} {g : Nat} {a : Option Addr} {len cap : Nat} {l : List Nat} {p : Nat} (h : Cur w g a len cap l p) (hg : w.grownBy w' none) : Cur w' g a len cap l p :=
  ⟨hg.cell h.c0 (by simp), hg.cell h.c1 (by simp), (World.frozen?_of_block (hg.block g h.lt (by simp))).trans h.fr, h.isb.kept (grown_any hg) h.ne, h.ne, h.le⟩
theorem Cur.set {w : World} {g : Nat} {a : Option Addr} {len cap : Nat} {l : List Nat} {p : Nat} (h : Cur w g a len cap l p) (q : Nat) (hq : q ≤ len) : Cur (w.setCell ⟨g, 1, none⟩ (.int .i64 (q : Nat))) g a len cap l q := by
  have hb : w.grownBy (w.setCell ⟨g, 1, none⟩ (.int .i64 (q : Nat))) (some g) := grown_set (World.grownBy.refl _ _) _
  refine ⟨?_, ?_, ?_, h.isb.kept hb h.ne, h.ne, hq⟩
  · rw [World.cell?_setCell_other (h := by simp)]; exact h.c0
  · exact World.cell?_setCell_same w ⟨g, 1, none⟩ _ h.c1
  · have := h.fr; simpa using this
theorem Row.set_far {w : World} {q len cap : Nat} {m : List Nat} {g j : Nat} {v : Value} (h : Row w q len cap m) (hne : q ≠ g) : Row (w.setCell ⟨g, j, none⟩ v) q len cap m := by
  obtain ⟨h1, h2, h3, cur, h4, h5, h6⟩ := h
  exact ⟨h1, h2, h3, cur, by rw [Below.heap_setCell _ _ _ _ hne]; exact h4, h5, h6⟩
set_option maxHeartbeats 400000 in
theorem take_zero (w : World) (g : Nat) (a : Option Addr) (len cap : Nat) (l : List Nat) (p : Nat) (h : Cur w g a len cap l p) :
    Calls Try.prog 107 #[.pointer (some ⟨g, 0, none⟩), .int .i64 0] w fun e w' => ∃ q, e = .returned (.tuple #[.slice (some ⟨q, 0, none⟩) 0 0, .bool true]) ∧ w.heap.size ≤ q ∧ Row w' q 0 0 [] ∧ Cur w' g a len cap l p ∧ w.grownBy w' (some g) := by
  have hlc : len ≤ cap := h.isb.2.1
  have hcm : cap ≤ 9223372036854775807 := h.isb.2.2.1
  have hle := h.le
  have c0 := h.c0
  have c1 := h.c1
  have hd : decide ((len : Int) - (p : Int) < 0) = false := by simp; omega
  have hmk : ∀ W : World, (Instr.makeSlice 26 (.int .i64 0) (.int .i64 0)).run Try.prog W = .ok (.slice (some ⟨W.heap.size, 0, none⟩) 0 0) (W.alloc (.cells (zeros 0).toArray 5)) := fun W => run_mk W 0 0 (Nat.le_refl _) (by omega)
  have hsz : (Try.prog.info? 5).map (·.size) = some 1 := by kernel_rfl
  have hcp := fun (W : World) (d a : Option Addr) (s c : Nat) => run_copy_none (P := Try.prog) W 26 26 3 5 d a 0 0 s c Try.underlying26 hsz (by simp)
  clear hsz
  have H := hide h
  clear h
  go_enter Try.func107, Try.ntmps107
  go_wp2
  go_quiet (fail)
  go_wp2
  have hq : ((w.drewN nq).alloc (.cells (zeros 0).toArray 5)).heap[w.heap.size]? = some (.cells (zeros 0).toArray 5 (0, 0)) := heap_alloc_new (w.drewN nq) _
  have hgr : w.grownBy ((w.drewN nq).alloc (.cells (zeros 0).toArray 5)) none := ⟨rfl, rfl, rfl, by simp, fun k hk _ => Below.heap_alloc _ _ _ hk⟩
  have hcur := H.out.kept hgr
  generalize (w.drewN nq).alloc (.cells (zeros 0).toArray 5) = W0 at *
  have e0 := hcur.c0
  have e1 := hcur.c1
  have fr := hcur.fr
  have H1 := hide hcur
  have HG := hide hgr
  have HQ := hide hq
  have hgs : g < w.heap.size := H.out.lt
  clear hcur hgr hq H c0 c1 hmk
  by_cases hcp0 : cap = p <;> cases a <;>
    (go_region
     go_wp2
     go_ret2
     refine ⟨_, rfl, Nat.le_refl _, ?_, (H1.out.drewN 1).set p hle, grown_set (grown_any (grown_drew HG.out)) _⟩
     exact Row.set_far (w := W0.drew) ⟨rfl, Nat.le_refl _, Nat.zero_le _, _, HQ.out, by simp [zeros], by simp [bv]⟩ (by omega))
end Go.Proofs.Ytebikoekpbnpbaa
