/- the disk beside a row that is not its own -/
import Derived.Test.YtdageggojaghmaaRdx
namespace Go.Proofs.Ytdageggojaghmaa
open Go.RowKit
open Go.Maps (has)
theorem Dat.toX {X : Nat → Prop} {w w' : World} {v : Value} {l : List Nat} (h : Dat NoX w v l) (hb : Below w.heap.size w w') (hX : ∀ i, X i → w.heap.size ≤ i) : Dat X w' v l := by
  obtain ⟨a, len, cap, rfl, hB, hl, h5⟩ := h.kept (K5.below hb)
  obtain ⟨_, _, _, e, _, _, h6⟩ := h
  cases e
  refine ⟨a, len, cap, rfl, hB, hl, fun h0 b off e => ⟨(h5 h0 b off e).1, fun hx => ?_⟩⟩
  obtain ⟨⟨cur, m, hh⟩, _⟩ := h6 h0 b off e
  have := heap_lt hh
  have := hX b hx
  omega
theorem Dat.offX {X : Nat → Prop} {w w' : World} {v : Value} {l : List Nat} (h : Dat X w v l) (hf : Frm X w w') : Dat NoX w' v l := by
  obtain ⟨a, len, cap, rfl, ⟨h1, h2, h3, h4, h6⟩, hl, h5⟩ := h
  refine ⟨a, len, cap, rfl, ⟨h1, h2, h3, h4, ?_⟩, hl, fun h0 b off e => ?_⟩
  · rcases h6 with h6 | ⟨b, off, rfl, hlt, hc⟩
    · exact .inl h6
    · by_cases h0 : len = 0
      · exact .inl ⟨h0, by intro h; cases h⟩
      · obtain ⟨⟨cur, m, hb⟩, hx⟩ := h5 (by omega) b off rfl
        exact .inr ⟨b, off, rfl, Nat.lt_of_lt_of_le hlt hf.size, fun i hi => (World.cell?_of_block (hf.block b hlt hx)).trans (hc i hi)⟩
  · obtain ⟨⟨cur, m, hb⟩, hx⟩ := h5 h0 b off e
    exact ⟨⟨cur, m, (hf.block b (heap_lt hb) hx).trans hb⟩, id⟩
theorem IsD.toX {X : Nat → Prop} {w w' : World} {g gs b n : Nat} {st : St} (h : IsD NoX w g gs b n st) (hb : Below w.heap.size w w') (hX : ∀ i, X i → w.heap.size ≤ i ∧ i < w'.heap.size) : IsD X w' g gs b n st := by
  obtain ⟨cur, hc, hsz, hd⟩ := h.syn
  obtain ⟨m, D, ⟨es, clock, hes, hfit, hle, hD⟩, hm, hfr⟩ := h.map
  refine ⟨h.n0, h.n1, (hb.block g (heap_lt h.blk)).trans h.blk, ⟨cur, (hb.block gs (heap_lt hc)).trans hc, hsz, fun i hi => ?_⟩, ⟨m, D, ⟨es, clock, (hb.block b (heap_lt hes)).trans hes, hfit, hle, hD⟩, hm, fun k hk => ?_, hfr.2⟩, h.wr, h.left, fun i hi => (hX i hi).2⟩
  · obtain ⟨v, hv, hdv⟩ := hd i hi
    exact ⟨v, hv, hdv.toX hb (fun i hi => (hX i hi).1)⟩
  · rcases hfr.1 k hk with h1 | ⟨l, v, h1, h2, h3, h4⟩
    · exact .inl h1
    · exact .inr ⟨l, v, h1, h2, h3.toX hb (fun i hi => (hX i hi).1), h4⟩
theorem IsD.offX {X : Nat → Prop} {w w' : World} {g gs b n : Nat} {st : St} (h : IsD X w g gs b n st) (hf : Frm X w w') (hX : ∀ i, X i → ¬ SD g gs b i) : IsD NoX w' g gs b n st := by
  obtain ⟨cur, hc, hsz, hd⟩ := h.syn
  obtain ⟨m, D, ⟨es, clock, hes, hfit, hle, hD⟩, hm, hfr⟩ := h.map
  refine ⟨h.n0, h.n1, (hf.block g (heap_lt h.blk) (fun e => hX g e (.inl rfl))).trans h.blk, ⟨cur, (hf.block gs (heap_lt hc) (fun e => hX gs e (.inr (.inl rfl)))).trans hc, hsz, fun i hi => ?_⟩, ⟨m, D, ⟨es, clock, (hf.block b (heap_lt hes) (fun e => hX b e (.inr (.inr rfl)))).trans hes, hfit, hle, hD⟩, hm, fun k hk => ?_, hfr.2⟩, h.wr, h.left, fun i hi => hi.elim⟩
  · obtain ⟨v, hv, hdv⟩ := hd i hi
    exact ⟨v, hv, hdv.offX hf⟩
  · rcases hfr.1 k hk with h1 | ⟨l, v, h1, h2, h3, h4⟩
    · exact .inl h1
    · exact .inr ⟨l, v, h1, h2, h3.offX hf, h4⟩
/-- the document's row, with blocks in which it has nothing -/
structure RowQ (X : Nat → Prop) (w : World) (q cap n : Nat) (lo lr : Nat → List Nat) (d : Nat → Bool) : Prop where
  nc : n ≤ cap
  cm : cap ≤ maxLen
  qx : ¬ X q
  row : ∃ cur : Array Value, w.heap[q]? = some (.cells cur 67 (0, 0)) ∧ cur.size = cap * 3 ∧ ∀ i, i < n → ∃ v0 v1, cur[i * 3]? = some v0 ∧ cur[i * 3 + 1]? = some v1 ∧ cur[i * 3 + 2]? = some (.bool (d i)) ∧ Dat X w v0 (lo i) ∧ Dat X w v1 (lr i)
theorem RowR.toX {X : Nat → Prop} {w w' : World} {q cap n : Nat} {lo lr : Nat → List Nat} {d : Nat → Bool} (h : RowR w q cap n lo lr d) (hb : Below w.heap.size w w') (hX : ∀ i, X i → w.heap.size ≤ i) : RowQ X w' q cap n lo lr d := by
  have hlt := h.lt
  obtain ⟨cur, hq, hs, hc⟩ := h.row
  refine ⟨h.nc, h.cm, fun hx => by have := hX q hx; omega, cur, (hb.block q hlt).trans hq, hs, fun i hi => ?_⟩
  obtain ⟨v0, v1, h0, h1, h2, h3, h4⟩ := hc i hi
  exact ⟨v0, v1, h0, h1, h2, h3.toX hb hX, h4.toX hb hX⟩
theorem RowQ.kept {X : Nat → Prop} {w w' : World} {q cap n : Nat} {lo lr : Nat → List Nat} {d : Nat → Bool} (h : RowQ X w q cap n lo lr d) (hq' : w'.heap[q]? = w.heap[q]?) (hk : K5 w w') : RowQ X w' q cap n lo lr d := by
  obtain ⟨cur, hq, hs, hc⟩ := h.row
  refine ⟨h.nc, h.cm, h.qx, cur, hq'.trans hq, hs, fun i hi => ?_⟩
  obtain ⟨v0, v1, h0, h1, h2, h3, h4⟩ := hc i hi
  exact ⟨v0, v1, h0, h1, h2, h3.kept hk, h4.kept hk⟩
theorem RowQ.lt {X : Nat → Prop} {w : World} {q cap n : Nat} {lo lr : Nat → List Nat} {d : Nat → Bool} (h : RowQ X w q cap n lo lr d) : q < w.heap.size := by
  obtain ⟨cur, hq, _⟩ := h.row
  exact heap_lt hq
theorem RowQ.below {X : Nat → Prop} {w w' : World} {q cap n : Nat} {lo lr : Nat → List Nat} {d : Nat → Bool} (h : RowQ X w q cap n lo lr d) (hb : Below w.heap.size w w') : RowQ X w' q cap n lo lr d := h.kept (hb.block q h.lt) (K5.below hb)
theorem RowQ.offX {X : Nat → Prop} {w w' : World} {q cap n : Nat} {lo lr : Nat → List Nat} {d : Nat → Bool} (h : RowQ X w q cap n lo lr d) (hf : Frm X w w') : RowR w' q cap n lo lr d := by
  have hlt := h.lt
  obtain ⟨cur, hq, hs, hc⟩ := h.row
  refine ⟨h.nc, h.cm, cur, (hf.block q hlt h.qx).trans hq, hs, fun i hi => ?_⟩
  obtain ⟨v0, v1, h0, h1, h2, h3, h4⟩ := hc i hi
  exact ⟨v0, v1, h0, h1, h2, h3.offX hf, h4.offX hf⟩
theorem RowQ.frm {X Y : Nat → Prop} {w w' : World} {q cap n : Nat} {lo lr : Nat → List Nat} {d : Nat → Bool} (h : RowQ X w q cap n lo lr d) {g gs b m : Nat} {st : St} (hI : IsD Y w g gs b m st) (hf : Frm (SD g gs b) w w') : RowQ X w' q cap n lo lr d := by
  refine h.kept (hf.block q h.lt ?_) (K5.of_frm hf hI.no5)
  obtain ⟨cur, hq, _⟩ := h.row
  obtain ⟨c2, hc2, _⟩ := hI.syn
  obtain ⟨es, clock, hm⟩ := hI.map_blk
  rintro (rfl | rfl | rfl)
  · rw [hI.blk] at hq; cases hq
  · rw [hc2] at hq; cases hq
  · rw [hm] at hq; cases hq
/-- what turns nothing but blocks that are none leaves all as it is -/
theorem frm_none {X : Nat → Prop} (w : World) : Frm X w w := Frm.refl _ _
end Go.Proofs.Ytdageggojaghmaa
