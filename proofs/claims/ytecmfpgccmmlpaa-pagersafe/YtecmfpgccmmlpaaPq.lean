/- a disk and a pager on it, in blocks that are new -/
import Derived.Test.YtecmfpgccmmlpaaPp
import Derived.Test.YtecmfpgccmmlpaaPo
namespace Go.Proofs.Ytecmfpgccmmlpaa
open Go.RowKit
set_option maxRecDepth 100000
set_option linter.unusedVariables false
set_option linter.unusedSimpArgs false
structure DD (w W : World) (g gs b n : Nat) (st : St) : Prop where
  d : IsD NoX W g gs b n st
  lo : ∀ i, SD g gs b i → w.heap.size ≤ i
  b : Below w.heap.size w W
structure PD (w W : World) (gp gq g gs b n : Nat) (p : Pg) (st : St) : Prop where
  d : IsD NoX W g gs b n st
  p : IsP W gp gq g n p
  lo : w.heap.size ≤ gp ∧ w.heap.size ≤ gq ∧ ∀ i, SD g gs b i → w.heap.size ≤ i
  b : Below w.heap.size w W
theorem DD.below {w W W' : World} {g gs b n : Nat} {st : St} (h : DD w W g gs b n st) (hb : Below W.heap.size W W') : DD w W' g gs b n st := ⟨h.d.below hb, h.lo, h.b.trans (hb.mono h.b.size)⟩
theorem DD.frm {w W W' : World} {g gs b n : Nat} {st st' : St} (h : DD w W g gs b n st) (hd : IsD NoX W' g gs b n st') (hf : Frm (SD g gs b) W W') : DD w W' g gs b n st' := ⟨hd, h.lo, h.b.trans (hf.toBelow h.b.size h.lo)⟩
theorem PD.dd {w W : World} {gp gq g gs b n : Nat} {p : Pg} {st : St} (h : PD w W gp gq g gs b n p st) : DD w W g gs b n st := ⟨h.d, h.lo.2.2, h.b⟩
theorem PD.below {w W W' : World} {gp gq g gs b n : Nat} {p : Pg} {st : St} (h : PD w W gp gq g gs b n p st) (hb : Below W.heap.size W W') : PD w W' gp gq g gs b n p st := ⟨h.d.below hb, h.p.below hb, h.lo, h.b.trans (hb.mono h.b.size)⟩
theorem PD.frmD {w W W' : World} {gp gq g gs b n : Nat} {p : Pg} {st st' : St} (h : PD w W gp gq g gs b n p st) (hd : IsD NoX W' g gs b n st') (hf : Frm (SD g gs b) W W') : PD w W' gp gq g gs b n p st' := ⟨hd, h.p.frmD h.d hf, h.lo, h.b.trans (hf.toBelow h.b.size h.lo.2.2)⟩
theorem PD.frmP {w W W' : World} {gp gq g gs b n : Nat} {p p' : Pg} {st : St} (h : PD w W gp gq g gs b n p st) (hp : IsP W' gp gq g n p') (hf : Frm (SP gp gq) W W') : PD w W' gp gq g gs b n p' st := ⟨h.d.frmP h.p hf, hp, h.lo, h.b.trans (hf.toBelow h.b.size (fun i hi => hi.elim (fun e => by rw [e]; exact h.lo.1) (fun e => by rw [e]; exact h.lo.2.1)))⟩
theorem PD.frm2 {w W W' : World} {gp gq g gs b n : Nat} {p p' : Pg} {st st' : St} (h : PD w W gp gq g gs b n p st) (hp : IsP W' gp gq g n p') (hd : IsD NoX W' g gs b n st') (hf : Frm (fun i => SP gp gq i ∨ SD g gs b i) W W') : PD w W' gp gq g gs b n p' st' := ⟨hd, hp, h.lo, h.b.trans (hf.toBelow h.b.size (fun i hi => hi.elim (fun hi => hi.elim (fun e => by rw [e]; exact h.lo.1) (fun e => by rw [e]; exact h.lo.2.1)) (h.lo.2.2 i)))⟩
theorem DD.new (w W : World) (hb : Below w.heap.size w W) (n : Nat) (h0 : 0 < n) (h1 : n ≤ 1024) : Calls Try.prog 14 #[.int .i64 (n : Int)] W fun e W' => ∃ g gs b, e = .returned (.pointer (some ⟨g, 0, none⟩)) ∧ DD w W' g gs b n st0 := by
  refine (new_ok (X := NoX) W n h0 h1 (fun i h => h.elim)).mono ?_
  rintro e W' ⟨g, gs, b, rfl, hd, hb', hs⟩
  exact ⟨g, gs, b, rfl, hd, fun i hi => Nat.le_trans hb.size (hs i hi), hb.trans (hb'.mono hb.size)⟩
theorem DD.format {w W : World} {g gs b n : Nat} {st : St} (h : DD w W g gs b n st) (j : Int) (hw : st.wr < 4611686018427387900) : Calls Try.prog 15 #[.pointer (some ⟨g, 0, none⟩), .int .i64 j] W fun e W' => e = .returned (.int .i64 (st.fmt n j).2) ∧ DD w W' g gs b n (st.fmt n j).1 :=
  (format_any W g gs b n st h.d j hw).mono (fun e W' ⟨h1, h2, h3⟩ => ⟨h1, h.frm h2 h3⟩)
theorem DD.openOk {w W : World} {g gs b n : Nat} {st : St} (h : DD w W g gs b n st) (hE : st.cntE n = 0) : Calls Try.prog 16 #[.pointer (some ⟨g, 0, none⟩)] W fun e W' => ∃ gp gq, e = .returned (.tuple #[.pointer (some ⟨gp, 0, none⟩), .int .i64 0]) ∧ PD w W' gp gq g gs b n (st.opn n) st := by
  refine (open_any W g gs b n st h.d).mono ?_
  rintro e W' ⟨h1, h2⟩
  rcases h1 with ⟨_, gp, gq, rfl, h3, h4, h5⟩ | ⟨h3, _⟩
  · exact ⟨gp, gq, rfl, h.d.below h2, h3, ⟨Nat.le_trans h.b.size h4, Nat.le_trans h.b.size h5, h.lo⟩, h.b.trans (h2.mono h.b.size)⟩
  · exact absurd hE h3
theorem PD.alloc {w W : World} {gp gq g gs b n : Nat} {p : Pg} {st : St} (h : PD w W gp gq g gs b n p st) : Calls Try.prog 23 #[.pointer (some ⟨gp, 0, none⟩)] W fun e W' => e = .returned (.tuple #[.int .i64 p.alloc.2.1, .int .i64 p.alloc.2.2]) ∧ PD w W' gp gq g gs b n p.alloc.1 st :=
  (alloc_any h.p).mono (fun e W' ⟨h1, h2, h3⟩ => ⟨h1, h.frmP h2 h3⟩)
theorem PD.free {w W : World} {gp gq g gs b n : Nat} {p : Pg} {st : St} (h : PD w W gp gq g gs b n p st) (k : Int) (h0 : -9223372036854775808 ≤ k) (h1 : k ≤ 9223372036854775807) : Calls Try.prog 26 #[.pointer (some ⟨gp, 0, none⟩), .int .i64 k] W fun e W' => e = .returned (.int .i64 (p.free k).2) ∧ PD w W' gp gq g gs b n (p.free k).1 st :=
  (free_any h.p k h0 h1).mono (fun e W' ⟨h1, h2, h3⟩ => ⟨h1, h.frmP h2 h3⟩)
theorem PD.page {w W : World} {gp gq g gs b n : Nat} {p : Pg} {st : St} (h : PD w W gp gq g gs b n p st) (k : Int) (h0 : -9223372036854775808 ≤ k) (h1 : k ≤ 9223372036854775807) : Calls Try.prog 27 #[.pointer (some ⟨gp, 0, none⟩), .int .i64 k] W fun e W' => ∃ a len cap, e = .returned (.tuple #[.slice a len cap, .int .i64 (p.pageE n k st)]) ∧ IsB W' a len cap (p.pageL n k st) ∧ PD w W' gp gq g gs b n p st :=
  (page_any h.p h.d k h0 h1).mono (fun e W' ⟨a, len, cap, h1, h2, h3⟩ => ⟨a, len, cap, h1, h2, h.below h3⟩)
theorem PD.write {w W : World} {gp gq g gs b n : Nat} {p : Pg} {st : St} (h : PD w W gp gq g gs b n p st) (k : Int) (h0 : -9223372036854775808 ≤ k) (h1 : k ≤ 9223372036854775807) (a : Option Addr) (len cap : Nat) (l : List Nat) (hl : IsB W a len cap l) (hw : st.wr < 4611686018427387904) : Calls Try.prog 29 #[.pointer (some ⟨gp, 0, none⟩), .int .i64 k, .slice a len cap] W fun e W' => e = .returned (.int .i64 (p.write n k l st).2) ∧ PD w W' gp gq g gs b n (p.write n k l st).1.1 (p.write n k l st).1.2 :=
  (pwrite_any h.p h.d k h0 h1 a len cap l hl hw).mono (fun e W' ⟨h1, h2, h3, h4⟩ => ⟨h1, h.frm2 h2 h3 h4⟩)
theorem PD.commit {w W : World} {gp gq g gs b n : Nat} {p : Pg} {st : St} (h : PD w W gp gq g gs b n p st) (root : Int) (seq : Nat) (live : Int) (h0 : -9223372036854775808 ≤ root) (h1 : root ≤ 9223372036854775807) (hw : st.wr < 4611686018427387900) : Calls Try.prog 17 #[.pointer (some ⟨gp, 0, none⟩), .int .i64 root, .int .u64 (seq : Nat), .int .i64 live] W fun e W' => e = .returned (.int .i64 (p.commit n root seq live st).2) ∧ PD w W' gp gq g gs b n (p.commit n root seq live st).1.1 (p.commit n root seq live st).1.2 :=
  (commit_any h.p h.d root seq live h0 h1 hw).mono (fun e W' ⟨h1, h2, h3, h4⟩ => ⟨h1, h.frm2 h2 h3 h4⟩)
theorem PD.super {w W : World} {gp gq g gs b n : Nat} {p : Pg} {st : St} (h : PD w W gp gq g gs b n p st) : Calls Try.prog 18 #[.pointer (some ⟨gp, 0, none⟩)] W fun e W' => e = .returned (supV p.sup) ∧ PD w W' gp gq g gs b n p st :=
  (super_any h.p).mono (fun e W' ⟨h1, h2⟩ => ⟨h1, h.below h2⟩)
theorem PD.pages {w W : World} {gp gq g gs b n : Nat} {p : Pg} {st : St} (h : PD w W gp gq g gs b n p st) : Calls Try.prog 24 #[.pointer (some ⟨gp, 0, none⟩)] W fun e W' => e = .returned (.int .i64 (p.ps.length : Nat)) ∧ W' = W := pages_any h.p
theorem PD.used {w W : World} {gp gq g gs b n : Nat} {p : Pg} {st : St} (h : PD w W gp gq g gs b n p st) : Calls Try.prog 25 #[.pointer (some ⟨gp, 0, none⟩)] W fun e W' => e = .returned (.int .i64 (usedN p.ps : Nat)) ∧ W' = W := used_any h.p
theorem DD.arm {w W : World} {g gs b n : Nat} {st : St} (h : DD w W g gs b n st) (c : Int) (hc : c ≤ 9223372036854775807) : Calls Try.prog 19 #[.pointer (some ⟨g, 0, none⟩), .int .i64 c] W fun e W' => e = .returned (.int .i64 (st.armed c).2) ∧ DD w W' g gs b n (st.armed c).1 :=
  (arm_any (X := NoX) W g gs b n st h.d c hc).mono (fun e W' ⟨h1, h2, h3⟩ => ⟨h1, h.frm h2 h3⟩)
theorem PD.arm {w W : World} {gp gq g gs b n : Nat} {p : Pg} {st : St} (h : PD w W gp gq g gs b n p st) (c : Int) (hc : c ≤ 9223372036854775807) : Calls Try.prog 19 #[.pointer (some ⟨g, 0, none⟩), .int .i64 c] W fun e W' => e = .returned (.int .i64 (st.armed c).2) ∧ PD w W' gp gq g gs b n p (st.armed c).1 :=
  (arm_any (X := NoX) W g gs b n st h.d c hc).mono (fun e W' ⟨h1, h2, h3⟩ => ⟨h1, h.frmD h2 h3⟩)
theorem DD.cut {w W : World} {g gs b n : Nat} {st : St} (h : DD w W g gs b n st) : Calls Try.prog 20 #[.pointer (some ⟨g, 0, none⟩)] W fun e W' => e = .returned (.int .i64 st.cut.2) ∧ DD w W' g gs b n st.cut.1 :=
  (cut_any (X := NoX) W g gs b n st h.d).mono (fun e W' ⟨h1, h2, h3⟩ => ⟨h1, h.frm h2 h3⟩)
theorem DD.rest {w W : World} {g gs b n : Nat} {st : St} (h : DD w W g gs b n st) (a : Option Addr) (len cap : Nat) (l : List (Nat × Nat)) (hF : IsF W a len cap l) : Calls Try.prog 21 #[.pointer (some ⟨g, 0, none⟩), .slice a len cap] W fun e W' => e = .returned (.int .i64 (st.rest n l).2) ∧ DD w W' g gs b n (st.rest n l).1 :=
  (rest_any (X := NoX) W g gs b n st h.d a len cap l hF).mono (fun e W' ⟨h1, h2, h3⟩ => ⟨h1, h.frm h2 h3⟩)
end Go.Proofs.Ytecmfpgccmmlpaa
