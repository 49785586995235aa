/- lists of a page that are read, one behind the other -/
import Derived.Test.YtebikoekpbnpbaaFB
namespace Go.Proofs.Ytebikoekpbnpbaa
open Go.RowKit Cod
set_option maxRecDepth 100000
set_option linter.unusedVariables false
set_option linter.unusedSimpArgs false
theorem wp_append_eq {P : Program} {o : Oper} {a : Act} {w w' : World} {v u v' : Value} {K : Act → World → Prop} {Q : Exit → Act → World → Prop} (s x : Operand) (t : TypeId) (ho : o.op = .call { callee := .builtin .append, args := #[s, x], argTypes := #[t, t] })
    (hs : a.eval s = v) (hx : a.eval x = u) (hr : (Builtin.append_ #[t, t] o.type #[v, u]).run P w = .ok v' w') (h : K (a.put o.dst v') w') : o.wp P a w K Q := by
  subst hs hx
  have he : (execOp a.eval o).run P w = .ok (.value v') w' := by
    simp [execOp, ho, resolve, invoke, builtin, hr]
  simp only [Oper.wp, he]
  exact h
theorem run_push26 {w : World} (ty : TypeId) (base : Nat) (v : Value) (n : Nat) (xs : List Value) (hown : w.ownsRow base 26 1 v n xs) (q : Nat) (u : Value) (hq : w.heap[q]? = some (.cells #[u] 26 (0, 0))) (h1 : u.oneCell' = true) (hb : n ≤ 2000000) (hbase : base ≤ w.heap.size) :
    ∃ v' w', (Builtin.append_ #[22, 22] ty #[v, .slice (some ⟨q, 0, none⟩) 1 1]).run Try.prog w = .ok v' w' ∧ w'.ownsRow base 26 1 v' (n + 1) (xs ++ [u]) ∧ w.grownBy w' v.ownBlock ∧ (v'.ownBlock = v.ownBlock ∨ v'.ownBlock = some w.heap.size) := by
  obtain ⟨i0, hi, hz0, hz1, hz2⟩ := info_partsM info26
  obtain ⟨v', w', hr, h2, h3, _, h4⟩ := run_append_own_at (P := Try.prog) (w := w) base 22 ty 26 i0 (Value.slice none 0 0) 1 24 Try.underlying22 hi hz0 hz1 hz2 rfl (by decide) v n xs hown ⟨q, 0, none⟩ 1 1 [u] rfl (by
    intro j y hj
    obtain rfl : j = 0 := by have := (List.getElem?_eq_some_iff.1 hj).1; simpa using this
    simp only [List.getElem?_cons_zero, Option.some.injEq] at hj
    rw [addr_addM, ← hj]
    exact cell_blkN hq rfl) (by simpa using h1) (by unfold maxLen; omega) (by omega) hbase
  exact ⟨v', w', hr, h2, h3, h4⟩
theorem run_push3 {w : World} (ty : TypeId) (base : Nat) (v : Value) (n : Nat) (xs : List Value) (hown : w.ownsRow base 3 1 v n xs) (q : Nat) (u : Value) (hq : w.heap[q]? = some (.cells #[u] 3 (0, 0))) (h1 : u.oneCell' = true) (hb : n ≤ 2000000) (hbase : base ≤ w.heap.size) :
    ∃ v' w', (Builtin.append_ #[23, 23] ty #[v, .slice (some ⟨q, 0, none⟩) 1 1]).run Try.prog w = .ok v' w' ∧ w'.ownsRow base 3 1 v' (n + 1) (xs ++ [u]) ∧ w.grownBy w' v.ownBlock ∧ (v'.ownBlock = v.ownBlock ∨ v'.ownBlock = some w.heap.size) := by
  obtain ⟨i0, hi, hz0, hz1, hz2⟩ := info_partsM info3
  obtain ⟨v', w', hr, h2, h3, _, h4⟩ := run_append_own_at (P := Try.prog) (w := w) base 23 ty 3 i0 (Value.int .i64 0) 1 8 Try.underlying23 hi hz0 hz1 hz2 rfl (by decide) v n xs hown ⟨q, 0, none⟩ 1 1 [u] rfl (by
    intro j y hj
    obtain rfl : j = 0 := by have := (List.getElem?_eq_some_iff.1 hj).1; simpa using this
    simp only [List.getElem?_cons_zero, Option.some.injEq] at hj
    rw [addr_addM, ← hj]
    exact cell_blkN hq rfl) (by simpa using h1) (by unfold maxLen; omega) (by omega) hbase
  exact ⟨v', w', hr, h2, h3, h4⟩
/-- an own row's block, with its type -/
theorem own_blk {w : World} {base n size : Nat} {e : TypeId} {v : Value} {xs : List Value} (h : w.ownsRow base e size v n xs) {b : Nat} (hb : v.ownBlock = some b) : base ≤ b ∧ ∃ cur, w.heap[b]? = some (.cells cur e (0, 0)) := by
  rcases h.2 with ⟨rfl, _⟩ | ⟨g, cap, cur, rfl, h1, h2, _⟩
  · cases hb
  · have : g = b := by simpa [Value.ownBlock] using hb
    subst this
    exact ⟨h1, cur, h2⟩
/-- a row of slices stays where another row grows -/
theorem RowT.grownO {w w' : World} {base base' n m : Nat} {e : TypeId} {v v0 : Value} {xs ys : List Value} {L : List (List Nat)} (h : RowT w base n v xs L) (hg : w.grownBy w' v0.ownBlock) (ho : w.ownsRow base' e 1 v0 m ys) (he : e ≠ 5) (hne : ∀ b, v.ownBlock = some b → v0.ownBlock ≠ some b) : RowT w' base n v xs L := by
  refine ⟨?_, h.els.kept hg.size (fun b cs f hb => hg.block b (heap_ltN hb) (fun e2 => ?_))⟩
  · have h2 := h.own
    rcases h2.2 with h1 | ⟨g, cap, cur, e1, hb, hgb, r⟩
    · exact ⟨h2.1, .inl h1⟩
    · refine ⟨h2.1, .inr ⟨g, cap, cur, e1, hb, (hg.block g (heap_ltN hgb) (fun e2 => hne g (by rw [e1]; rfl) e2.symm)).trans hgb, r⟩⟩
  · obtain ⟨_, cur, h3⟩ := own_blk ho e2.symm
    rw [h3] at hb
    cases hb
    exact he rfl
theorem RdI.grownO {w w' : World} {r base' m : Nat} {e : TypeId} {R : List Nat} {bad : Bool} {v0 : Value} {ys : List Value} (h : RdI w r R bad) (hg : w.grownBy w' v0.ownBlock) (ho : w.ownsRow base' e 1 v0 m ys) (he : e ≠ 5 ∧ e ≠ 80) : RdI w' r R bad := h.kept hg.size (fun b cs t f ht hb => hg.block b (heap_ltN hb) (fun e2 => by
  obtain ⟨_, cur, h3⟩ := own_blk ho e2.symm
  rw [h3] at hb
  cases hb
  rcases ht with h | h
  · exact he.1 h
  · exact he.2 h))
theorem RdI.setX {w : World} {r X : Nat} {R : List Nat} {bad : Bool} (h : RdI w r R bad) {cs : Array Value} {f : Nat × Nat} (hX : w.heap[X]? = some (.cells cs 25 f)) (j : Nat) (u : Value) : RdI (w.setCell ⟨X, j, none⟩ u) r R bad := h.kept (by simp [World.setCell]) (fun b cs' t f' ht hb => Below.heap_setCell _ _ _ _ (fun e => by
  have e' : b = X := e
  rw [e', hX] at hb
  cases hb
  rcases ht with ht | ht <;> cases ht))
/-- a row of slices stays where the reader reads -/
theorem RowT.grownR {w w' : World} {base n r : Nat} {v : Value} {xs : List Value} {L : List (List Nat)} (h : RowT w base n v xs L) (hg : w.grownBy w' (some r)) (hr : r < base) : RowT w' base n v xs L := h.kept hg.size (fun b cs t f hb _ h4 => hg.block b (heap_ltN h4) (by simp; omega))
/-- the page that leaf reads, in its block -/
structure LfS (w W : World) (r P : Nat) (v : Pv) (keys vals : List (List Nat)) (R : List Nat) (bad : Bool) : Prop where
  blk : BlkG W P true v
  k : ∃ xs, RowT W (P + 1) v.kn (.slice v.ka v.kn v.kc) xs keys
  x : ∃ ys, RowT W (P + 1) v.vn (.slice v.va v.vn v.vc) ys vals
  lk : keys.length = v.kn ∧ vals.length = v.vn
  i : v.ia = none ∧ v.inn = 0 ∧ v.ic = 0
  ap : ∀ b, (Value.slice v.ka v.kn v.kc).ownBlock = some b → (Value.slice v.va v.vn v.vc).ownBlock ≠ some b
  rd : RdI W r R bad
  gr : w.grownBy W (some r)
  lt : r < w.heap.size ∧ w.heap.size ≤ P
  sh : (∀ b ∈ keys, b.length ≤ 1024) ∧ ∀ b ∈ vals, b.length ≤ 1024
theorem LfS.text {w W W' : World} {r P : Nat} {v : Pv} {keys vals : List (List Nat)} {R R' : List Nat} {bad bad' : Bool} (h : LfS w W r P v keys vals R bad) (hg : W.grownBy W' (some r)) (hr : RdI W' r R' bad') : LfS w W' r P v keys vals R' bad' := by
  obtain ⟨xs, hk⟩ := h.k
  obtain ⟨ys, hx⟩ := h.x
  have hlt := h.lt
  exact ⟨(hg.block P (heap_ltN h.blk) (by simp; omega)).trans h.blk, ⟨xs, hk.grownR hg (by omega)⟩, ⟨ys, hx.grownR hg (by omega)⟩, h.lk, h.i, h.ap, hr, grown_trans h.gr hg, h.lt, h.sh⟩
theorem LfS.below {w W W' : World} {r P : Nat} {v : Pv} {keys vals : List (List Nat)} {R : List Nat} {bad : Bool} (h : LfS w W r P v keys vals R bad) (hb : Below W.heap.size W W') : LfS w W' r P v keys vals R bad := h.text ⟨hb.os, hb.tape, hb.output, hb.size, fun k hk _ => hb.block k hk⟩ (h.rd.below hb)
theorem ownB_of {w : World} {base e size n : Nat} {xs : List Value} {v : Value} {b : Nat} (h : w.ownsRow base e size v n xs) (hb : v.ownBlock = some b) : b < w.heap.size := by
  obtain ⟨_, cur, h2⟩ := own_blk h hb
  exact heap_ltN h2
theorem LfS.pushK {w W W' : World} {r P : Nat} {v : Pv} {keys vals : List (List Nat)} {R : List Nat} {bad : Bool} (h : LfS w W r P v keys vals R bad) {a : Option Addr} {c : Nat} {s : List Nat} (hB : IsB W a s.length c s) (hN : NewB W (P + 1) a) (hs : s.length ≤ 1024) {ka' : Option Addr} {kc' : Nat} {xs : List Value}
    (hxs : RowT W (P + 1) v.kn (.slice v.ka v.kn v.kc) xs keys) (ho : W'.ownsRow (P + 1) 26 1 (.slice ka' (v.kn + 1) kc') (v.kn + 1) (xs ++ [.slice a s.length c])) (hg : W.grownBy W' (Value.slice v.ka v.kn v.kc).ownBlock) (hor : (Value.slice ka' (v.kn + 1) kc').ownBlock = (Value.slice v.ka v.kn v.kc).ownBlock ∨ (Value.slice ka' (v.kn + 1) kc').ownBlock = some W.heap.size) :
    LfS w (W'.setCell ⟨P, 1, none⟩ (.slice ka' (v.kn + 1) kc')) r P ⟨ka', v.kn + 1, kc', v.va, v.vn, v.vc, v.ia, v.inn, v.ic⟩ (keys ++ [s]) vals R bad := by
  obtain ⟨ys, hx⟩ := h.x
  have hlt := h.lt
  have hPb : W'.heap[P]? = W.heap[P]? := hg.block P (heap_ltN h.blk) (fun e => by have := (own_blk hxs.own e.symm).1; omega)
  have hP : W'.heap[P]? = some (.cells (pgc true v) 25 (0, 0)) := hPb.trans h.blk
  have hx' := hx.grownO hg hxs.own (by decide) (fun b e1 e2 => h.ap b e2 e1)
  have hk' : RowT W' (P + 1) (v.kn + 1) (.slice ka' (v.kn + 1) kc') (xs ++ [.slice a s.length c]) (keys ++ [s]) := ⟨ho, ElT.push (hxs.els.grown hg hxs.own) (hB.keptN hg.size (fun b off e => by
    obtain ⟨_, cs, f, h4⟩ := hN b off e
    exact hg.block b (heap_ltN h4) (fun e2 => by
      obtain ⟨_, cur, h5⟩ := own_blk hxs.own e2.symm
      rw [h5] at h4
      cases h4))) (fun b off e => by
    obtain ⟨h6, cs, f, h4⟩ := hN b off e
    exact ⟨h6, cs, f, (hg.block b (heap_ltN h4) (fun e2 => by
      obtain ⟨_, cur, h5⟩ := own_blk hxs.own e2.symm
      rw [h5] at h4
      cases h4)).trans h4⟩)⟩
  have hrd := h.rd.grownO hg hxs.own (by decide)
  refine ⟨?_, ⟨_, hk'.setX hP _ _⟩, ⟨_, hx'.setX hP _ _⟩, ⟨by rw [List.length_append, h.lk.1]; rfl, h.lk.2⟩, h.i, ?_, hrd.setX hP _ _, ?_, h.lt, ?_⟩
  · have := blk_setN (j := 1) hP (.slice ka' (v.kn + 1) kc')
    rw [BlkG, this]
    rfl
  · intro b e1 e2
    rcases hor with e3 | e3
    · exact h.ap b (e3.symm.trans e1) e2
    · have := ownB_of hx.own e2
      rw [e3] at e1
      cases e1
      omega
  · refine ⟨hg.os.trans h.gr.os, hg.tape.trans h.gr.tape, hg.output.trans h.gr.output, ?_, fun k hk hne => ?_⟩
    · have := h.gr.size
      have := hg.size
      simp [World.setCell]
      omega
    · have e1 : W'.heap[k]? = W.heap[k]? := hg.block k (Nat.lt_of_lt_of_le hk h.gr.size) (fun e => by have := (own_blk hxs.own e.symm).1; omega)
      exact (Below.heap_setCell _ _ _ _ (show k ≠ P by omega)).trans (e1.trans (h.gr.block k hk hne))
  · exact ⟨fun b hb => by
      rcases List.mem_append.1 hb with h1 | h1
      · exact h.sh.1 b h1
      · have : b = s := by simpa using h1
        rw [this]; exact hs, h.sh.2⟩
theorem LfS.pushV {w W W' : World} {r P : Nat} {v : Pv} {keys vals : List (List Nat)} {R : List Nat} {bad : Bool} (h : LfS w W r P v keys vals R bad) {a : Option Addr} {c : Nat} {s : List Nat} (hB : IsB W a s.length c s) (hN : NewB W (P + 1) a) (hs : s.length ≤ 1024) {va' : Option Addr} {vc' : Nat} {ys : List Value}
    (hxs : RowT W (P + 1) v.vn (.slice v.va v.vn v.vc) ys vals) (ho : W'.ownsRow (P + 1) 26 1 (.slice va' (v.vn + 1) vc') (v.vn + 1) (ys ++ [.slice a s.length c])) (hg : W.grownBy W' (Value.slice v.va v.vn v.vc).ownBlock) (hor : (Value.slice va' (v.vn + 1) vc').ownBlock = (Value.slice v.va v.vn v.vc).ownBlock ∨ (Value.slice va' (v.vn + 1) vc').ownBlock = some W.heap.size) :
    LfS w (W'.setCell ⟨P, 2, none⟩ (.slice va' (v.vn + 1) vc')) r P ⟨v.ka, v.kn, v.kc, va', v.vn + 1, vc', v.ia, v.inn, v.ic⟩ keys (vals ++ [s]) R bad := by
  obtain ⟨ks, hx⟩ := h.k
  have hlt := h.lt
  have hPb : W'.heap[P]? = W.heap[P]? := hg.block P (heap_ltN h.blk) (fun e => by have := (own_blk hxs.own e.symm).1; omega)
  have hP : W'.heap[P]? = some (.cells (pgc true v) 25 (0, 0)) := hPb.trans h.blk
  have hx' := hx.grownO hg hxs.own (by decide) (fun b e1 e2 => h.ap b e1 e2)
  have hk' : RowT W' (P + 1) (v.vn + 1) (.slice va' (v.vn + 1) vc') (ys ++ [.slice a s.length c]) (vals ++ [s]) := ⟨ho, ElT.push (hxs.els.grown hg hxs.own) (hB.keptN hg.size (fun b off e => by
    obtain ⟨_, cs, f, h4⟩ := hN b off e
    exact hg.block b (heap_ltN h4) (fun e2 => by
      obtain ⟨_, cur, h5⟩ := own_blk hxs.own e2.symm
      rw [h5] at h4
      cases h4))) (fun b off e => by
    obtain ⟨h6, cs, f, h4⟩ := hN b off e
    exact ⟨h6, cs, f, (hg.block b (heap_ltN h4) (fun e2 => by
      obtain ⟨_, cur, h5⟩ := own_blk hxs.own e2.symm
      rw [h5] at h4
      cases h4)).trans h4⟩)⟩
  have hrd := h.rd.grownO hg hxs.own (by decide)
  refine ⟨?_, ⟨_, hx'.setX hP _ _⟩, ⟨_, hk'.setX hP _ _⟩, ⟨h.lk.1, by rw [List.length_append, h.lk.2]; rfl⟩, h.i, ?_, hrd.setX hP _ _, ?_, h.lt, ?_⟩
  · have := blk_setN (j := 2) hP (.slice va' (v.vn + 1) vc')
    rw [BlkG, this]
    rfl
  · intro b e1 e2
    rcases hor with e3 | e3
    · exact h.ap b e1 (e3.symm.trans e2)
    · have := ownB_of hx.own e1
      rw [e3] at e2
      cases e2
      omega
  · refine ⟨hg.os.trans h.gr.os, hg.tape.trans h.gr.tape, hg.output.trans h.gr.output, ?_, fun k hk hne => ?_⟩
    · have := h.gr.size
      have := hg.size
      simp [World.setCell]
      omega
    · have e1 : W'.heap[k]? = W.heap[k]? := hg.block k (Nat.lt_of_lt_of_le hk h.gr.size) (fun e => by have := (own_blk hxs.own e.symm).1; omega)
      exact (Below.heap_setCell _ _ _ _ (show k ≠ P by omega)).trans (e1.trans (h.gr.block k hk hne))
  · exact ⟨h.sh.1, fun b hb => by
      rcases List.mem_append.1 hb with h1 | h1
      · exact h.sh.2 b h1
      · have : b = s := by simpa using h1
        rw [this]; exact hs⟩
theorem belowN (w : World) (o : Obj) : Below w.heap.size w (w.alloc o) := (Below.refl _ w).alloc (Nat.le_refl _) _
theorem RowT.nwL {w : World} {base n G : Nat} {v : Value} {xs : List Value} {L : List (List Nat)} (h : RowT w base n v xs L) (hl : L.length = n) (hG : G < base) : ∃ a c, v = .slice a n c ∧ NwL w G a n c L := by
  have he : Els w G xs L := ⟨h.els.1, fun i hi => by
    obtain ⟨a, n, c, e, hB, hf⟩ := h.els.2 i hi
    exact ⟨a, n, c, e, hB, fun b off e => Nat.lt_of_lt_of_le hG (hf b off e).1⟩⟩
  rcases h.own.2 with ⟨rfl, rfl⟩ | ⟨g, cap, cur, rfl, hb, hg, hn, hc, hs, ht⟩
  · have : L = [] := List.length_eq_zero_iff.1 hl
    subst this
    exact ⟨none, 0, rfl, nwL_nil w G⟩
  · refine ⟨_, cap, rfl, ?_⟩
    rw [Nat.mul_one] at ht hs
    have hcur : cur = (xs ++ cur.toList.drop n).toArray := by
      rw [← ht, List.take_append_drop]
    rw [hcur] at hg
    have h2 := nwL_row (c := cap) hg he (by omega) (by omega) hc
    rwa [hl] at h2
theorem LfS.fin {w W : World} {r P : Nat} {v : Pv} {keys vals : List (List Nat)} {R : List Nat} {bad : Bool} (h : LfS w W r P v keys vals R bad) {B : Nat} (hB : B ≤ P) {cs : Array Value} {f : Nat × Nat} (hX : W.heap[B]? = some (.cells cs 25 f)) (a b c d : Value) : NwG (set4 W B a b c d) P v ⟨true, keys, vals, []⟩ ∧ RdI (set4 W B a b c d) r R bad := by
  obtain ⟨xs, hk⟩ := h.k
  obtain ⟨ys, hx⟩ := h.x
  constructor
  · obtain ⟨a', c', e, hL⟩ := (hk.set4 (B := B) (by omega) a b c d).nwL (G := P) h.lk.1 (by omega)
    obtain ⟨a2, c2, e', hL'⟩ := (hx.set4 (B := B) (by omega) a b c d).nwL (G := P) h.lk.2 (by omega)
    cases e
    cases e'
    exact ⟨hL, hL', by rw [h.i.1, h.i.2.1, h.i.2.2]; exact isK_nil _, by rw [h.i.1]; nofun⟩
  · exact h.rd.kept (by rw [size4]; exact Nat.le_refl _) (fun b' cs' t f' ht hb => out4 (fun e => by
      rw [e, hX] at hb
      cases hb
      rcases ht with ht | ht <;> cases ht) _ _ _ _)
theorem grown4 {w Wz W : World} {r B : Nat} (h0 : Below w.heap.size w Wz) (h : Wz.grownBy W (some r)) (hB : w.heap.size ≤ B) (a b c d : Value) : w.grownBy (set4 W B a b c d) (some r) := by
  have h1 : w.grownBy W (some r) := ⟨h.os.trans h0.os, h.tape.trans h0.tape, h.output.trans h0.output, Nat.le_trans h0.size h.size, fun k hk hne => (h.block k (Nat.lt_of_lt_of_le hk h0.size) hne).trans (h0.block k hk)⟩
  refine ⟨h1.os, h1.tape, h1.output, by rw [size4]; exact h1.size, fun k hk hne => (out4 (by omega) _ _ _ _).trans (h1.block k hk hne)⟩
end Go.Proofs.Ytebikoekpbnpbaa
