/- a journal on a new disk, beside what was handed in -/
import Derived.Test.YteckglnfkgfefaaJoV
import Derived.Test.YteckglnfkgfefaaJoP
import Derived.Test.YteckglnfkgfefaaJoQ
namespace Go.Proofs.Yteckglnfkgfefaa
open Go.RowKit Go.ChangeShapes Go.WideShapes Go.Deep Cod
set_option maxRecDepth 40000
set_option linter.unusedSimpArgs false
set_option linter.unusedVariables false
/-- batches that are handed in -/
def IsSS (w : World) (a : Option Addr) (len cap : Nat) (l : List (List ByteArray)) : Prop :=
  l.length = len ∧ len ≤ cap ∧ cap ≤ maxLen ∧ (len = 0 ∨ ∃ b off, a = some ⟨b, off, none⟩ ∧ b < w.heap.size ∧ ∀ i, i < len → ∃ a' c', w.cell? ⟨b, off + i, none⟩ = some (.slice a' (l.getD i []).length c') ∧ IsT w a' (l.getD i []).length c' (l.getD i []))
theorem IsSS.below {w w1 : World} {a : Option Addr} {len cap : Nat} {l : List (List ByteArray)} (h : IsSS w a len cap l) (hb : Below w.heap.size w w1) : IsSS w1 a len cap l := by
  obtain ⟨h1, h2, h3, h5⟩ := h
  refine ⟨h1, h2, h3, h5.imp id ?_⟩
  rintro ⟨b, off, rfl, hlt, hc⟩
  refine ⟨b, off, rfl, Nat.lt_of_lt_of_le hlt hb.size, fun i hi => ?_⟩
  obtain ⟨a', c', e, hu⟩ := hc i hi
  exact ⟨a', c', (hb.cell (p := ⟨b, off + i, none⟩) hlt).trans e, hu.below hb⟩
theorem obytes22 : Try.prog.bytesOf 22 = 24 := by kernel_rfl
/-- how many batches can be handed in -/
theorem ss_weight {H : Type} {enc : TypeId × Value → H} {W : World} {base : Nat} {held : Bool} {fuel : Nat} {cs : List Value} {x : DataW H × List MemPlace} (h : DataW.trod enc Try.prog W base (fun _ => true) held fuel 36 cs = some x) (hw : ∀ n ∈ x.1.weights Try.prog 36, n ≤ reachBytes) {a : Option Addr} {len cap : Nat} (hcs : cs = [.slice a len cap]) : len ≤ 140737488355328 := by
  rcases open_slice Try.underlying36 h with ⟨rfl, _⟩ | ⟨a', len', cap', m, n, D, Pl, rfl, hb, hl, hm, hmm, rfl, hx⟩
  · cases hcs
    exact Nat.zero_le _
  · cases hcs
    have hlm : len ≤ m := by rw [hmm]; split <;> omega
    simp only [DataW.weights, Try.underlying36] at hw
    have hw1 := hw _ (List.mem_cons_self ..)
    rw [obytes22] at hw1
    simp only [List.length_map, List.length_range, reachBytes] at hw1
    omega
/-- a disk and a journal on it, in blocks that are new -/
structure Jd (w W : World) (gj g gs b n : Nat) (j : Jn) (st : St) : Prop where
  d : IsD NoX W g gs b n st
  j : IsJ W gj g j
  lo : w.heap.size ≤ gj ∧ ∀ i, SD g gs b i → w.heap.size ≤ i
  b : Below w.heap.size w W
theorem Jd.below {w W W' : World} {gj g gs b n : Nat} {j : Jn} {st : St} (h : Jd w W gj g gs b n j st) (hb : Below W.heap.size W W') : Jd w W' gj g gs b n j st :=
  ⟨h.d.below hb, h.j.below hb, h.lo, h.b.trans (hb.mono h.b.size)⟩
theorem Jd.append {w W : World} {gj g gs b n : Nat} {j j' : Jn} {st st' : St} {e : Int} {rs : List ByteArray} {a : Option Addr} {len cap : Nat} (h : Jd w W gj g gs b n j st) (hT : IsT W a len cap rs) (hw : st.wr < 4611686018427380000) (he : Jn.append n rs j st = (j', st', e)) :
    Calls Try.prog 19 #[.pointer (some ⟨gj, 0, none⟩), .slice a len cap] W fun en W' => en = .returned (.int .i64 e) ∧ Jd w W' gj g gs b n j' st' := by
  refine (append_any W gj g gs b n j st a len cap rs h.j h.d hT hw).mono ?_
  rintro en W' ⟨h1, h2, h3, h4⟩
  rw [he] at h1 h2 h3
  exact ⟨h1, h2, h3, h.lo, h.b.trans (h4.toBelow h.b.size (fun i hi => hi.elim (fun e => by rw [e]; exact h.lo.1) (h.lo.2 i)))⟩
theorem Jd.drop {w W : World} {gj g gs b n : Nat} {j : Jn} {st : St} (h : Jd w W gj g gs b n j st) (to : Nat) (h1 : j.frm ≤ to) (h2 : to ≤ j.nxt) :
    Calls Try.prog 31 #[.pointer (some ⟨gj, 0, none⟩), .int .u64 (to : Nat)] W fun en W' => en = .returned (.int .i64 0) ∧ Jd w W' gj g gs b n (j.drop to) st := by
  refine (drop_ok W gj g j h.j to h1 h2).mono ?_
  rintro en W' ⟨e1, e2, e3⟩
  refine ⟨e1, ?_, e2, h.lo, h.b.trans (e3.toBelow h.b.size (fun i hi => by rw [hi]; exact h.lo.1))⟩
  refine h.d.kept (S := fun i => i = gj) e3 (by rintro i rfl e; exact h.j.ne h.d e) (K5.of_frm e3 (fun i cur m hi => ?_))
  rw [hi, h.j.blk]
  simp
/-- what Open answers -/
def OpQ (w W : World) (gj g gs b n : Nat) (j : Jn) (st : St) (l : List (List ByteArray)) (t frm : Nat) (e : Ending) (W' : World) : Prop :=
  ∃ gk v, e = .returned (.tuple #[.pointer (some ⟨gk, 0, none⟩), v, .int .i64 0]) ∧ IsJ W' gk g ⟨j.first, j.count, frm, t, false⟩ ∧ OwnLL W' W.heap.size v l ∧ Jd w W' gj g gs b n j st
theorem Jd.open {w W : World} {gj g gs b n : Nat} {j : Jn} {st : St} (h : Jd w W gj g gs b n j st) (hd : st.down = false) (hc0 : 0 < j.count) (hfc : j.first + j.count ≤ n) (frm : Nat) (hf0 : 1 ≤ frm) (hf1 : frm ≤ 2305843009213693952) (l : List (List ByteArray)) (t : Nat) (hr : Run (j.rd st) (frm + j.count) frm l t) :
    Calls Try.prog 18 #[.pointer (some ⟨g, 0, none⟩), .int .i64 (j.first : Nat), .int .i64 (j.count : Nat), .int .u64 (frm : Nat)] W (OpQ w W gj g gs b n j st l t frm) := by
  refine (open_ok W g gs b n st h.d hd j.first j.count frm hc0 hfc hf0 hf1 l t hr).mono ?_
  rintro e W' ⟨gk, v, rfl, h1, h2, h3, h4⟩
  exact ⟨gk, v, rfl, h2, h3, h.below h4⟩
/-- a new disk of count sectors, and a journal in all of them -/
theorem new_jd (w : World) (count : Nat) (h0 : 0 < count) (h1 : count ≤ 1024) : Calls Try.prog 17 #[.int .i64 (count : Int)] w fun e w' => ∃ g gs b, e = .returned (.pointer (some ⟨g, 0, none⟩)) ∧ IsD NoX w' g gs b count st0 ∧ (∀ i, SD g gs b i → w.heap.size ≤ i) ∧ Below w.heap.size w w' := by
  refine (new_ok (X := NoX) w count h0 h1 (fun i h => h.elim)).mono ?_
  rintro e w' ⟨g, gs, b, rfl, hd, hb, hs⟩
  exact ⟨g, gs, b, rfl, hd, hs, hb⟩
theorem open_first (w W : World) (g gs b count : Nat) (hd : IsD NoX W g gs b count st0) (hs : ∀ i, SD g gs b i → w.heap.size ≤ i) (hb : Below w.heap.size w W) (h0 : 0 < count) (h1 : count ≤ 1024) :
    Calls Try.prog 18 #[.pointer (some ⟨g, 0, none⟩), .int .i64 0, .int .i64 (count : Nat), .int .u64 1] W fun e W' => ∃ gj v, e = .returned (.tuple #[.pointer (some ⟨gj, 0, none⟩), v, .int .i64 0]) ∧ Jd w W' gj g gs b count ⟨0, count, 1, 1, false⟩ st0 := by
  have hL := (Lv.new (n := count) h0 (Nat.le_refl _) h1).all (by show (1 : Nat) ≤ _; omega)
  refine (open_ok W g gs b count st0 hd rfl 0 count 1 h0 (by omega) (by omega) (by omega) [] 1 hL).mono ?_
  rintro e W' ⟨gj, v, rfl, h2, h3, h4, h5⟩
  exact ⟨gj, v, rfl, hd.below h5, h3, ⟨Nat.le_trans hb.size h2, hs⟩, hb.trans (h5.mono hb.size)⟩
theorem open_nil0 (w : World) (c : Int) : Calls Try.prog 18 #[.pointer none, .int .i64 0, .int .i64 c, .int .u64 1] w fun e w' => e = .returned (.tuple #[.pointer none, .slice none 0 0, .int .i64 1]) ∧ w' = w := by
  go_enter Try.func18, Try.ntmps18
  go_wp2_with fail
  refine bodyPost_ret (v := .tuple #[.pointer none, .slice none 0 0, .int .i64 1]) (by simp [results, Try.f18, go_sem]) rfl ?_
  exact ⟨rfl, rfl⟩
end Go.Proofs.Yteckglnfkgfefaa
