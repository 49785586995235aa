/- contracts: the cursor -/
import Derived.Test.YteckglnfkgfefaaCdA
import Derived.Deep.QuietTactic
import Derived.BigQuiet
import Derived.Deep.RegionWith
namespace Go.Proofs.Yteckglnfkgfefaa
open Go.RowKit Cod
set_option maxRecDepth 40000
/-- a cursor at block g, over the bytes l, at place p -/
structure Cur (w : World) (g : Nat) (a : Option Addr) (len cap : Nat) (l : List Nat) (p : Nat) : Prop where
  c0 : w.cell? ⟨g, 0, none⟩ = some (.slice a len cap)
  c1 : w.cell? ⟨g, 1, none⟩ = some (.int .i64 (p : Nat))
  fr : w.frozen? ⟨g, 1, none⟩ = false
  isb : IsB w a len cap l
  ne : ∀ b off, a = some ⟨b, off, none⟩ → 0 < len → b ≠ g
  le : p ≤ len
theorem Cur.lt {w : World} {g : Nat} {a : Option Addr} {len cap : Nat} {l : List Nat} {p : Nat} (h : Cur w g a len cap l p) : g < w.heap.size := block_lt_of_cell h.c0
theorem Cur.drewN {w : World} {g : Nat} {a : Option Addr} {len cap : Nat} {l : List Nat} {p : Nat} (h : Cur w g a len cap l p) (n : Nat) : Cur (w.drewN n) g a len cap l p :=
  ⟨h.c0, h.c1, h.fr, h.isb.kept (g := g) (grown_drewN (World.grownBy.refl _ _) n) h.ne, h.ne, h.le⟩
theorem Cur.kept {w w' : World} {g : Nat} {a : Option Addr} {len cap : Nat} {l : List Nat} {p : Nat} (h : Cur w g a len cap l p) (hg : w.grownBy w' none) : Cur w' g a len cap l p :=
  ⟨hg.cell h.c0 (by simp), hg.cell h.c1 (by simp), (World.frozen?_of_block (hg.block g h.lt (by simp))).trans h.fr, h.isb.kept (grown_any hg) h.ne, h.ne, h.le⟩
theorem Cur.set {w : World} {g : Nat} {a : Option Addr} {len cap : Nat} {l : List Nat} {p : Nat} (h : Cur w g a len cap l p) (q : Nat) (hq : q ≤ len) : Cur (w.setCell ⟨g, 1, none⟩ (.int .i64 (q : Nat))) g a len cap l q := by
  have hb : w.grownBy (w.setCell ⟨g, 1, none⟩ (.int .i64 (q : Nat))) (some g) := grown_set (World.grownBy.refl _ _) _
  refine ⟨?_, ?_, ?_, h.isb.kept hb h.ne, h.ne, hq⟩
  · rw [World.cell?_setCell_other (h := by simp)]; exact h.c0
  · exact World.cell?_setCell_same w ⟨g, 1, none⟩ _ h.c1
  · have := h.fr; simpa using this
theorem Cur.byte {w : World} {g : Nat} {a : Option Addr} {len cap : Nat} {l : List Nat} {p : Nat} (h : Cur w g a len cap l p) (hp : p < len) : ∃ b off, a = some ⟨b, off, none⟩ ∧ w.cell? ⟨b, off + p, none⟩ = some (.int .u8 (l.getD p 0 : Nat)) := by
  obtain ⟨h1, h2, h3, h4, h5⟩ := h.isb
  rcases h5 with ⟨h5, _⟩ | ⟨b, off, rfl, hlt, hc⟩
  · omega
  · exact ⟨b, off, rfl, hc p hp⟩
theorem isEnd_any (w : World) (g : Nat) (a : Option Addr) (len cap : Nat) (l : List Nat) (p : Nat) (h : Cur w g a len cap l p) :
    Calls Try.prog 110 #[.pointer (some ⟨g, 0, none⟩)] w fun e w' => e = .returned (.bool (decide (p = len))) ∧ ∃ m, w' = w.drewN m := by
  have c0 := h.c0
  have c1 := h.c1
  by_cases hp : p = len
  · subst hp
    have e0 : ((p : Int) == (p : Int)) = true := by simp
    clear h
    go_enter Try.func110, Try.ntmps110
    go_wp2
    go_quiet (fail)
    go_wp2
    go_ret
    exact ⟨by simp, _, rfl⟩
  · have e0 : ((p : Int) == (len : Int)) = false := by simp; omega
    have hd : decide (p = len) = false := by simpa using hp
    clear h
    go_enter Try.func110, Try.ntmps110
    go_wp2
    go_quiet (fail)
    go_wp2
    go_ret
    exact ⟨by rw [hd]; rfl, _, rfl⟩
theorem next_none (w : World) (g : Nat) (a : Option Addr) (len cap : Nat) (l : List Nat) (h : Cur w g a len cap l len) :
    Calls Try.prog 97 #[.pointer (some ⟨g, 0, none⟩)] w fun e w' => e = .returned (.tuple #[.int .u8 0, .bool false]) ∧ Cur w' g a len cap l len ∧ w.grownBy w' (some g) := by
  have hc := isEnd_any w g a len cap l len h
  rw [decide_eq_true rfl] at hc
  go_enter Try.func97, Try.ntmps97
  go_wp2_with fail
  refine hc.mono ?_
  rintro e w' ⟨rfl, m, rfl⟩
  go_wp2
  go_ret2
  exact ⟨rfl, h.drewN m, grown_drewN (World.grownBy.refl _ _) m⟩
set_option maxHeartbeats 400000 in
theorem next_some (w : World) (g : Nat) (a : Option Addr) (len cap : Nat) (l : List Nat) (p : Nat) (h : Cur w g a len cap l p) (hp : p < len) :
    Calls Try.prog 97 #[.pointer (some ⟨g, 0, none⟩)] w fun e w' => e = .returned (.tuple #[.int .u8 (l.getD p 0 : Nat), .bool true]) ∧ Cur w' g a len cap l (p + 1) ∧ w.grownBy w' (some g) := by
  have hc := isEnd_any w g a len cap l p h
  rw [decide_eq_false (by omega)] at hc
  have hlc : len ≤ cap := h.isb.2.1
  have hcm : cap ≤ 9223372036854775807 := h.isb.2.2.1
  have c1 := h.c1
  have fr := h.fr
  go_enter Try.func97, Try.ntmps97
  go_wp2_with fail
  refine hc.mono ?_
  rintro e w' ⟨rfl, m, rfl⟩
  clear hc
  go_wp2_with fail
  have h2 := (h.drewN m).set (p + 1) (by omega)
  have hg : w.grownBy ((w.drewN m).setCell ⟨g, 1, none⟩ (.int .i64 ((p + 1 : Nat) : Int))) (some g) := grown_set (grown_drewN (World.grownBy.refl _ _) m) _
  rw [show ((p + 1 : Nat) : Int) = (p : Int) + 1 from rfl] at h2 hg
  generalize (w.drewN m).setCell ⟨g, 1, none⟩ (.int .i64 ((p : Int) + 1)) = w2 at *
  have d0 := h2.c0
  have d1 := h2.c1
  obtain ⟨b, off, hab, hx⟩ : ∃ b off, a = some ⟨b, off, none⟩ ∧ w2.cell? ⟨b, off + p, none⟩ = some (.int .u8 (l.getD p 0 : Nat)) := by
    obtain ⟨h1, _, _, _, h5⟩ := h2.isb
    rcases h5 with ⟨h5, _⟩ | ⟨b, off, hab, hlt, hc⟩
    · omega
    · exact ⟨b, off, hab, hc p hp⟩
  have H2 := hide h2
  have HG := hide hg
  clear c1 fr h h2 hg
  subst hab
  generalize hX : l.getD p 0 = x at *
  have HX := hide hX
  clear hX
  go_quiet (fail)
  go_wp2
  go_ret2
  exact ⟨by rw [HX.out]; rfl, H2.out.drewN nq, grown_drewN HG.out nq⟩
theorem cp_fact {W0 : World} {q n b off p len cap : Nat} {l : List Nat} (hq : W0.heap[q]? = some (.cells (zeros n).toArray 5 (0, 0))) (hb : IsB W0 (some ⟨b, off, none⟩) len cap l) (hn : p + n ≤ len) (h0 : 0 < n) (W : World) (hW : W.heap = W0.heap) :
    (Builtin.copy_ #[34, 34] 3 #[.slice (some ⟨q, 0, none⟩) n n, .slice (some ⟨b, off + p, none⟩) (len - p) (cap - p)]).run Try.prog W = .ok (.int .i64 (n : Int)) (W.setRow q (bv ((l.drop p).take n)).toArray) := by
  obtain ⟨h1, h2, h3, h4, h5⟩ := hb
  obtain ⟨b', off', hbe, hlt, hc⟩ := h5.resolve_left (by omega)
  cases hbe
  have hsz : (Try.prog.info? 5).map (·.size) = some 1 := by kernel_rfl
  have hlen : ((l.drop p).take n).length = n := by simp; omega
  have hr := run_copy_row (P := Try.prog) W 34 34 3 5 q 0 n n ⟨b, off + p, none⟩ (len - p) (cap - p) (zeros n).toArray 5 (bv ((l.drop p).take n)) Try.underlying34 hsz (by rw [hW]; exact hq) (by rw [bv_length, hlen]; exact (Nat.min_eq_right (by omega)).symm)
    (by
      intro j v hj
      have hjl : j < n := by
        rw [← hlen, ← bv_length]
        exact (List.getElem?_eq_some_iff.1 hj).1
      rw [bv_get _ j (by omega)] at hj
      cases hj
      rw [addr_add]
      have hcj := hc (p + j) (by omega)
      have : W.cell? ⟨b, off + (p + j), none⟩ = W0.cell? ⟨b, off + (p + j), none⟩ := World.cell?_of_block (by rw [hW])
      rw [show off + p + j = off + (p + j) by omega, this, hcj]
      congr 3
      simp [List.getD_eq_getElem?_getD, hjl, List.getElem?_drop])
    (by rw [bv_length, hlen]; simp [zeros]) (bv_one _)
  rw [hr]
  congr 2
  · rw [bv_length, hlen]
  · simp [bv_length, hlen, zeros]
set_option maxHeartbeats 400000 in
theorem take_some (w : World) (g : Nat) (a : Option Addr) (len cap : Nat) (l : List Nat) (p n : Nat) (h : Cur w g a len cap l p) (hn : p + n ≤ len) (hn2 : n ≤ 140737488355328) (h0 : 0 < n) :
    Calls Try.prog 98 #[.pointer (some ⟨g, 0, none⟩), .int .i64 n] w fun e w' => ∃ q, e = .returned (.tuple #[.slice (some ⟨q, 0, none⟩) n n, .bool true]) ∧ w.heap.size ≤ q ∧ Row w' q n n ((l.drop p).take n) ∧ Cur w' g a len cap l (p + n) ∧ w.grownBy w' (some g) := by
  have hlc : len ≤ cap := h.isb.2.1
  have hcm : cap ≤ 9223372036854775807 := h.isb.2.2.1
  have hle := h.le
  have c0 := h.c0
  have c1 := h.c1
  have hd : decide ((len : Int) - (p : Int) < (n : Int)) = false := by simp; omega
  have hmk := fun W => run_mk W n n (Nat.le_refl _) (by omega)
  have H := hide h
  clear h
  go_enter Try.func98, Try.ntmps98
  go_wp2
  go_quiet (fail)
  go_wp2
  have hq : ((w.drewN nq).alloc (.cells (zeros n).toArray 5)).heap[w.heap.size]? = some (.cells (zeros n).toArray 5 (0, 0)) := heap_alloc_new (w.drewN nq) _
  have hcur : Cur ((w.drewN nq).alloc (.cells (zeros n).toArray 5)) g a len cap l p := (H.out.drewN nq).kept (World.grownBy_alloc _ _ _)
  have hgr : w.grownBy ((w.drewN nq).alloc (.cells (zeros n).toArray 5)) none := ⟨rfl, rfl, rfl, by simp, fun k hk _ => Below.heap_alloc _ _ _ hk⟩
  have hgs : g < w.heap.size := H.out.lt
  generalize (w.drewN nq).alloc (.cells (zeros n).toArray 5) = W0 at *
  have e0 := hcur.c0
  have e1 := hcur.c1
  obtain ⟨b, off, rfl, _⟩ := hcur.byte (show p < len by omega)
  have hcp := cp_fact hq hcur.isb hn h0 W0.drew rfl
  have hrow : Row (W0.drew.setRow w.heap.size (bv ((l.drop p).take n)).toArray) w.heap.size n n ((l.drop p).take n) := row_setRow hq (by have := H.out.isb.1; simp; omega) (by unfold maxLen; omega)
  have hgr1 : w.grownBy (W0.drew.setRow w.heap.size (bv ((l.drop p).take n)).toArray) none := grown_setRow (grown_drew hgr) _ (Nat.le_refl _) _
  have hcur1 := H.out.kept hgr1
  clear hcur hgr H c0 c1 hmk
  have hrow := hide hrow
  go_region
  clear e0 e1 hcp hq
  generalize W0.drew.setRow w.heap.size (bv ((l.drop p).take n)).toArray = W1 at *
  have c1 := hcur1.c1
  have fr := hcur1.fr
  have H1 := hide hcur1
  have HG := hide hgr1
  clear hcur1 hgr1
  go_wp2
  go_ret2
  refine ⟨_, rfl, Nat.le_refl _, ?_, H1.out.set (p + n) hn, grown_set (grown_any HG.out) _⟩
  exact hrow.out.set_far (by omega)
set_option maxHeartbeats 400000 in
theorem take_zero (w : World) (g : Nat) (a : Option Addr) (len cap : Nat) (l : List Nat) (p : Nat) (h : Cur w g a len cap l p) :
    Calls Try.prog 98 #[.pointer (some ⟨g, 0, none⟩), .int .i64 0] w fun e w' => ∃ q, e = .returned (.tuple #[.slice (some ⟨q, 0, none⟩) 0 0, .bool true]) ∧ w.heap.size ≤ q ∧ Row w' q 0 0 [] ∧ Cur w' g a len cap l p ∧ w.grownBy w' (some g) := by
  have hlc : len ≤ cap := h.isb.2.1
  have hcm : cap ≤ 9223372036854775807 := h.isb.2.2.1
  have hle := h.le
  have c0 := h.c0
  have c1 := h.c1
  have hd : decide ((len : Int) - (p : Int) < 0) = false := by simp; omega
  have hmk : ∀ W : World, (Instr.makeSlice 34 (.int .i64 0) (.int .i64 0)).run Try.prog W = .ok (.slice (some ⟨W.heap.size, 0, none⟩) 0 0) (W.alloc (.cells (zeros 0).toArray 5)) := fun W => run_mk W 0 0 (Nat.le_refl _) (by omega)
  have hsz : (Try.prog.info? 5).map (·.size) = some 1 := by kernel_rfl
  have hcp := fun (W : World) (d a : Option Addr) (s c : Nat) => run_copy_none (P := Try.prog) W 34 34 3 5 d a 0 0 s c Try.underlying34 hsz (by simp)
  clear hsz
  have H := hide h
  clear h
  go_enter Try.func98, Try.ntmps98
  go_wp2
  go_quiet (fail)
  go_wp2
  have hq : ((w.drewN nq).alloc (.cells (zeros 0).toArray 5)).heap[w.heap.size]? = some (.cells (zeros 0).toArray 5 (0, 0)) := heap_alloc_new (w.drewN nq) _
  have hgr : w.grownBy ((w.drewN nq).alloc (.cells (zeros 0).toArray 5)) none := ⟨rfl, rfl, rfl, by simp, fun k hk _ => Below.heap_alloc _ _ _ hk⟩
  have hcur := H.out.kept hgr
  generalize (w.drewN nq).alloc (.cells (zeros 0).toArray 5) = W0 at *
  have e0 := hcur.c0
  have e1 := hcur.c1
  have fr := hcur.fr
  have H1 := hide hcur
  have HG := hide hgr
  have HQ := hide hq
  have hgs : g < w.heap.size := H.out.lt
  clear hcur hgr hq H c0 c1 hmk
  by_cases hcp0 : cap = p <;> cases a <;>
    (go_region
     go_wp2
     go_ret2
     refine ⟨_, rfl, Nat.le_refl _, ?_, (H1.out.drewN 1).set p hle, grown_set (grown_any (grown_drew HG.out)) _⟩
     exact Row.set_far (w := W0.drew) ⟨rfl, Nat.le_refl _, Nat.zero_le _, _, HQ.out, by simp [zeros], by simp [bv]⟩ (by omega))
theorem take_any (w : World) (g : Nat) (a : Option Addr) (len cap : Nat) (l : List Nat) (p n : Nat) (h : Cur w g a len cap l p) (hn : p + n ≤ len) (hn2 : n ≤ 140737488355328) :
    Calls Try.prog 98 #[.pointer (some ⟨g, 0, none⟩), .int .i64 n] w fun e w' => ∃ q, e = .returned (.tuple #[.slice (some ⟨q, 0, none⟩) n n, .bool true]) ∧ w.heap.size ≤ q ∧ Row w' q n n ((l.drop p).take n) ∧ Cur w' g a len cap l (p + n) ∧ w.grownBy w' (some g) := by
  by_cases h0 : n = 0
  · subst h0
    simpa using take_zero w g a len cap l p h
  · exact take_some w g a len cap l p n h hn hn2 (by omega)
end Go.Proofs.Yteckglnfkgfefaa
