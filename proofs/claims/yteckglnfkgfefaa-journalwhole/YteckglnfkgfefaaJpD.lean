/- batches that were handed in, kept in an own row; a journal's steps with their frames -/
import Derived.Test.YteckglnfkgfefaaJpC
import Derived.Test.YteckglnfkgfefaaJoW
import Derived.Test.YteckglnfkgfefaaJoV
import Derived.Test.YteckglnfkgfefaaJoP
import Derived.Test.YteckglnfkgfefaaJoQ
namespace Go.Proofs.Yteckglnfkgfefaa
open Go.RowKit Cod
set_option maxRecDepth 40000
set_option linter.unusedSimpArgs false
set_option linter.unusedVariables false
/-- an own row of batches that were handed in -/
def KR (w0 W : World) (B : Nat) (v : Value) (l : List (List ByteArray)) : Prop :=
  ∃ vs, W.ownsRow B 22 1 v l.length vs ∧ ∀ i, i < l.length → ∃ a c, vs[i]? = some (.slice a (l.getD i []).length c) ∧ IsT w0 a (l.getD i []).length c (l.getD i [])
theorem KR.nil (w0 W : World) (B : Nat) : KR w0 W B (.slice none 0 0) [] := ⟨[], World.ownsRow_nil _ _ _ _, fun i hi => by simp at hi⟩
theorem KR.below {w0 W W' : World} {B : Nat} {v : Value} {l : List (List ByteArray)} (h : KR w0 W B v l) (hb : Below W.heap.size W W') : KR w0 W' B v l := by
  obtain ⟨vs, h1, h2⟩ := h
  exact ⟨vs, own22_below h1 hb, h2⟩
theorem own22_frm {w w' : World} {B : Nat} {v : Value} {n : Nat} {l : List Value} {S : Nat → Prop} (h : w.ownsRow B 22 1 v n l) (hf : Frm S w w') (hs : ∀ i, S i → i < B) : w'.ownsRow B 22 1 v n l := by
  refine ⟨h.1, ?_⟩
  rcases h.2 with h1 | ⟨g, cap, cur, e, hb, hg, r⟩
  · exact .inl h1
  · exact .inr ⟨g, cap, cur, e, hb, (hf.block g (heap_lt hg) (fun e => by have := hs _ e; omega)).trans hg, r⟩
theorem KR.frm {w0 W W' : World} {B : Nat} {v : Value} {l : List (List ByteArray)} {S : Nat → Prop} (h : KR w0 W B v l) (hf : Frm S W W') (hs : ∀ i, S i → i < B) : KR w0 W' B v l := by
  obtain ⟨vs, h1, h2⟩ := h
  exact ⟨vs, own22_frm h1 hf hs, h2⟩
theorem KR.push {w0 W' : World} {B c : Nat} {v' : Value} {a : Option Addr} {l : List (List ByteArray)} {r : List ByteArray} {vs : List Value} (hl : vs.length = l.length) (h2 : ∀ i, i < l.length → ∃ a c, vs[i]? = some (.slice a (l.getD i []).length c) ∧ IsT w0 a (l.getD i []).length c (l.getD i [])) (hr : IsT w0 a r.length c r) (ho : W'.ownsRow B 22 1 v' (l.length + 1) (vs ++ [.slice a r.length c])) : KR w0 W' B v' (l ++ [r]) := by
  refine ⟨_, by rw [List.length_append]; exact ho, fun i hi => ?_⟩
  rw [List.length_append, List.length_cons, List.length_nil] at hi
  by_cases h : i < l.length
  · obtain ⟨a1, c1, e, hx⟩ := h2 i h
    have e1 : (l ++ [r]).getD i [] = l.getD i [] := by rw [List.getD_eq_getElem?_getD, List.getElem?_append_left h, ← List.getD_eq_getElem?_getD]
    rw [e1]
    exact ⟨a1, c1, by rw [List.getElem?_append_left (by omega)]; exact e, hx⟩
  · have : i = l.length := by omega
    subst this
    have e1 : (l ++ [r]).getD l.length [] = r := by rw [List.getD_eq_getElem?_getD, List.getElem?_append_right (Nat.le_refl _), Nat.sub_self]; rfl
    rw [e1]
    exact ⟨a, c, by rw [List.getElem?_append_right (by omega), hl, Nat.sub_self]; rfl, hr⟩
theorem KR.isSS {w0 W : World} {B : Nat} {v : Value} {l : List (List ByteArray)} (h : KR w0 W B v l) (hb : Below w0.heap.size w0 W) : ∃ a cap, v = .slice a l.length cap ∧ IsSS W a l.length cap l := by
  obtain ⟨vs, ho, hl⟩ := h
  rcases ho.2 with ⟨rfl, h0⟩ | ⟨g, cap, cur, rfl, hb1, hg, hn, hc, hs, ht⟩
  · exact ⟨none, 0, by rw [h0], rfl, by omega, Nat.zero_le _, .inl h0⟩
  · refine ⟨some ⟨g, 0, none⟩, cap, rfl, rfl, hn, hc, .inr ⟨g, 0, rfl, heap_lt hg, fun i hi => ?_⟩⟩
    obtain ⟨a, c, e1, hu⟩ := hl i hi
    refine ⟨a, c, ?_, hu.below hb⟩
    rw [← ht, List.getElem?_take, if_pos (by omega)] at e1
    simp only [World.cell?, hg]
    simpa using e1
theorem IsLL.isSS {w : World} {a : Option Addr} {len cap : Nat} {l : List (List ByteArray)} (h : IsLL w a len cap l) : IsSS w a len cap l := by
  obtain ⟨h1, h2, h3, h5⟩ := h
  refine ⟨h1, h2, h3, h5.imp id ?_⟩
  rintro ⟨b, off, rfl, hlt, hc⟩
  refine ⟨b, off, rfl, hlt, fun i hi => ?_⟩
  obtain ⟨u, e, a', c', rfl, hT, _⟩ := hc i hi
  exact ⟨a', c', e, hT⟩
set_option maxHeartbeats 1000000 in
theorem sameSS_any (a : Option Addr) (len cap : Nat) (T : List (List ByteArray)) (a' : Option Addr) (cap' : Nat) (w : World) (h : IsSS w a len cap T) (h' : IsSS w a' len cap' T) :
    Calls Try.prog 27 #[.slice a len cap, .slice a' len cap'] w fun e w' => e = .returned (.bool true) ∧ Below w.heap.size w w' := by
  have HV := hide h
  have HV' := hide h'
  have hcap := h.2.1
  have hcm : cap ≤ 9223372036854775807 := h.2.2.1
  have hcap' := h'.2.1
  have hcm' : cap' ≤ 9223372036854775807 := h'.2.2.1
  clear h h'
  go_enter Try.func27, Try.ntmps27
  go_wp2
  go_loopw [13] (fun i wr => ∃ k : Nat, k ≤ len ∧ i = .int .i64 k ∧ Hid (Below w.heap.size w wr)) (fun i _ => len - (intOf i).toNat)
  case atStart => exact ⟨0, Nat.zero_le _, rfl, hide (Below.refl _ _)⟩
  case round =>
    obtain ⟨k, hk, rfl, HB⟩ := hrel
    by_cases hlt : k < len
    case neg =>
      obtain rfl : k = len := by omega
      go_wp2
      go_ret
      exact ⟨rfl, HB.out⟩
    case pos =>
      have HBD : Hid (Below w.heap.size w wr.drew) := hide HB.out.drew
      rcases (HV.out.below HBD.out).2.2.2 with h0 | ⟨b, off, rfl, hbs, z0⟩
      · omega
      rcases (HV'.out.below HBD.out).2.2.2 with h0 | ⟨b', off', rfl, hbs', y0⟩
      · omega
      obtain ⟨a1, c1, z0, i0⟩ := z0 k hlt
      obtain ⟨a2, c2, y0, i1⟩ := y0 k hlt
      have HC := hide (sameT_any a1 _ c1 _ a2 c2 wr.drew i0 i1)
      generalize (T.getD k []).length = n at *
      have HS : Hid (wr.drew.cell? ⟨b, off + k, none⟩ = some (.slice a1 n c1) ∧ wr.drew.cell? ⟨b', off' + k, none⟩ = some (.slice a2 n c2)) := hide ⟨z0, y0⟩
      have HSS : Hid (∀ W, Below wr.drew.heap.size wr.drew W → W.cell? ⟨b, off + k, none⟩ = some (.slice a1 n c1) ∧ W.cell? ⟨b', off' + k, none⟩ = some (.slice a2 n c2)) := hide (fun W hW => ⟨(hW.cell (p := ⟨b, off + k, none⟩) hbs).trans z0, (hW.cell (p := ⟨b', off' + k, none⟩) hbs').trans y0⟩)
      have hkc : (k : Int) < len := by omega
      have hk0 : (0 : Int) ≤ (k : Int) := by omega
      clear z0 y0 i0 i1
      go_wp2_with fail
      go_region_held (fun W : World => W.cell? ⟨b, off + k, none⟩ = some (.slice a1 n c1) ∧ W.cell? ⟨b', off' + k, none⟩ = some (.slice a2 n c2)) (first | with_reducible exact HS.out | with_reducible exact HSS.out _ HQ.out) (first | (go_at_call 16; with_reducible refine HC.out.mono ?_; rintro e w2 ⟨rfl, hb2⟩; have HQ := hide hb2; have HB2 : Hid (Below w.heap.size w w2) := hide (HBD.out.trans (hb2.mono HBD.out.size)); clear hb2))
      go_wp2
      go_roundw
      case rel => exact ⟨k + 1, by omega, by simp, HB2⟩
      case measure => simp [intOf]; omega
/-- the blocks of a journal and its disk -/
def SJ (gj g gs b : Nat) (i : Nat) : Prop := i = gj ∨ SD g gs b i
theorem Jd.append2 {w W : World} {gj g gs b n : Nat} {j j' : Jn} {st st' : St} {e : Int} {rs : List ByteArray} {a : Option Addr} {len cap : Nat} (h : Jd w W gj g gs b n j st) (hT : IsT W a len cap rs) (hw : st.wr < 4611686018427380000) (he : Jn.append n rs j st = (j', st', e)) :
    Calls Try.prog 19 #[.pointer (some ⟨gj, 0, none⟩), .slice a len cap] W fun en W' => en = .returned (.int .i64 e) ∧ Jd w W' gj g gs b n j' st' ∧ Frm (SJ gj g gs b) W W' := by
  refine (append_any W gj g gs b n j st a len cap rs h.j h.d hT hw).mono ?_
  rintro en W' ⟨h1, h2, h3, h4⟩
  rw [he] at h1 h2 h3
  exact ⟨h1, ⟨h2, h3, h.lo, h.b.trans (h4.toBelow h.b.size (fun i hi => hi.elim (fun e => by rw [e]; exact h.lo.1) (h.lo.2 i)))⟩, h4⟩
/-- an own row that is younger grows -/
theorem Jd.push {w W W' : World} {gj g gs b n B : Nat} {j : Jn} {st : St} {o : Obj} {v : Value} {k : Nat} {vs : List Value} (h : Jd w W gj g gs b n j st) (hB : ∀ i, SJ gj g gs b i → i < B) (ho : W.ownsRow B 22 1 v k vs) (hBW : B ≤ W.heap.size) (hw : w.heap.size ≤ B) (hg : (W.alloc o).grownBy W' v.ownBlock) : Jd w W' gj g gs b n j st := by
  have ho' : (W.alloc o).ownsRow B 22 1 v k vs := ho.alloc _
  have h1 := h.below ((Below.refl _ _).alloc (Nat.le_refl W.heap.size) o)
  have hf : Frm (fun i => B ≤ i ∧ v.ownBlock = some i) (W.alloc o) W' := Frm.grown hg (fun q hq => ⟨(ho'.lt q hq).1, hq⟩)
  have hne : ∀ i, (B ≤ i ∧ v.ownBlock = some i) → ¬ SD g gs b i := fun i hi e => by have := hB i (.inr e); omega
  refine ⟨h1.d.kept hf hne (K5.of_frm hf ?_), h1.j.kept hf (fun e => by have := hB gj (.inl rfl); omega), h.lo, h1.b.grown hg h1.b.size (fun q hq => by have := (ho'.lt q hq).1; omega)⟩
  rintro i cur m ⟨_, hi⟩ e
  rcases ho'.2 with ⟨rfl, _⟩ | ⟨q, c, cr, rfl, _, hq, _⟩
  · cases hi
  · cases hi
    rw [hq] at e
    simp at e
theorem SJ.lt {w W : World} {gj g gs b n : Nat} {j : Jn} {st : St} (h : Jd w W gj g gs b n j st) : ∀ i, SJ gj g gs b i → i < W.heap.size := by
  obtain ⟨h1, h2, h3⟩ := h.d.lts
  rintro i (rfl | rfl | rfl | rfl)
  · exact heap_lt h.j.blk
  · exact h1
  · exact h2
  · exact h3
/-- another disk, none of whose blocks turn -/
theorem IsD.away {X : Nat → Prop} {W W' : World} {g gs b n g1 gs1 b1 n1 : Nat} {st s1 : St} (h : IsD X W g gs b n st) (hd : IsD X W g1 gs1 b1 n1 s1) (hf : Frm (SD g1 gs1 b1) W W') (hne : ∀ i, SD g1 gs1 b1 i → ¬ SD g gs b i) : IsD X W' g gs b n st :=
  h.kept hf hne (K5.of_frm hf hd.no5)
theorem IsD.awayJ {X : Nat → Prop} {W W' : World} {g gs b n gj g1 gs1 b1 n1 : Nat} {st s1 : St} {j : Jn} (h : IsD X W g gs b n st) (hd : IsD X W g1 gs1 b1 n1 s1) (hj : IsJ W gj g1 j) (hf : Frm (SJ gj g1 gs1 b1) W W') (hne : ∀ i, SJ gj g1 gs1 b1 i → ¬ SD g gs b i) : IsD X W' g gs b n st := by
  refine h.kept hf hne (K5.of_frm hf ?_)
  rintro i cur m (rfl | hi) e
  · rw [hj.blk] at e; simp at e
  · exact hd.no5 i cur m hi e
end Go.Proofs.Yteckglnfkgfefaa
