/- the page that the document's read reads -/
import Derived.Test.YtebikoekpbnpbaaDS
import Derived.Test.YtebikoekpbnpbaaRH
import Derived.Test.YtebikoekpbnpbaaFH
namespace Go.Proofs.Ytebikoekpbnpbaa
open Go.RowKit Cod
set_option maxRecDepth 100000
set_option linter.unusedVariables false
set_option linter.unusedSimpArgs false
/-- what is left, in memory of bytes -/
def RstI (W : World) (a : Option Addr) (n c : Nat) (R : List Nat) : Prop := IsB W a n c R ∧ NewB W 0 a
theorem RstI.below {W W' : World} {a : Option Addr} {n c : Nat} {R : List Nat} (h : RstI W a n c R) (hb : Below W.heap.size W W') : RstI W' a n c R := ⟨h.1.below hb, h.2.below hb⟩
theorem newB_le {W : World} {B B' : Nat} {a : Option Addr} (h : NewB W B a) (hb : B' ≤ B) : NewB W B' a := fun b off e => ⟨Nat.le_trans hb (h b off e).1, (h b off e).2⟩
theorem RstI.push {W W' : World} {a : Option Addr} {n c : Nat} {R : List Nat} (h : RstI W a n c R) {v0 : Value} {base m : Nat} {e : TypeId} {ys : List Value} (hg : W.grownBy W' v0.ownBlock) (ho : W.ownsRow base e 1 v0 m ys) (he : e ≠ 5) {X : Nat} {cs : Array Value} {f : Nat × Nat} (hX : W'.heap[X]? = some (.cells cs 25 f)) (j : Nat) (u : Value) : RstI (W'.setCell ⟨X, j, none⟩ u) a n c R := by
  have hk : ∀ (b : Nat) (cs' : Array Value) (f' : Nat × Nat), W.heap[b]? = some (.cells cs' 5 f') → (W'.setCell ⟨X, j, none⟩ u).heap[b]? = W.heap[b]? := fun b cs' f' hb => by
    have e1 : W'.heap[b]? = W.heap[b]? := hg.block b (heap_ltN hb) (fun e2 => by
      obtain ⟨_, cur, h3⟩ := own_blk ho e2.symm
      rw [h3] at hb
      cases hb
      exact he rfl)
    refine (Below.heap_setCell _ _ _ _ (fun e2 => ?_)).trans e1
    have e3 : b = X := e2
    rw [e3] at e1 hb
    rw [hX] at e1
    rw [← e1] at hb
    cases hb
  refine ⟨h.1.keptN (by have := hg.size; simp [World.setCell]; omega) (fun b off e2 => ?_), fun b off e2 => ?_⟩
  · obtain ⟨_, cs', f', h4⟩ := h.2 b off e2
    exact hk b cs' f' h4
  · obtain ⟨h5, cs', f', h4⟩ := h.2 b off e2
    exact ⟨h5, cs', f', (hk b cs' f' h4).trans h4⟩
/-- the page that read reads, in its block -/
structure RfS (w W : World) (P G : Nat) (lf : Bool) (v : Pv) (keys vals : List (List Nat)) (kids : List Int) : Prop where
  blk : BlkG W P lf v
  k : ∃ xs, RowT W G v.kn (.slice v.ka v.kn v.kc) xs keys
  x : ∃ ys, RowT W G v.vn (.slice v.va v.vn v.vc) ys vals
  i : W.ownsRow G 3 1 (.slice v.ia v.inn v.ic) v.inn (kv kids)
  lk : keys.length = v.kn ∧ vals.length = v.vn ∧ kids.length = v.inn
  ap : ∀ b, (Value.slice v.ka v.kn v.kc).ownBlock = some b → (Value.slice v.va v.vn v.vc).ownBlock ≠ some b
  ib : ∀ k ∈ kids, i64B k
  gr : Below w.heap.size w W
  lt : w.heap.size ≤ P ∧ w.heap.size ≤ G
  sh : (∀ b ∈ keys, b.length ≤ 1024) ∧ ∀ b ∈ vals, b.length ≤ 1024
theorem RfS.below {w W W' : World} {P G : Nat} {lf : Bool} {v : Pv} {keys vals : List (List Nat)} {kids : List Int} (h : RfS w W P G lf v keys vals kids) (hb : Below W.heap.size W W') : RfS w W' P G lf v keys vals kids := by
  obtain ⟨xs, hk⟩ := h.k
  obtain ⟨ys, hx⟩ := h.x
  exact ⟨(hb.block _ (heap_ltN h.blk)).trans h.blk, ⟨xs, hk.below hb⟩, ⟨ys, hx.below hb⟩, own_below h.i hb, h.lk, h.ap, h.ib, h.gr.trans (hb.mono h.gr.size), h.lt, h.sh⟩
theorem rf_blk {w W W' : World} {P G : Nat} {lf : Bool} {v : Pv} {keys vals : List (List Nat)} {kids : List Int} (h : RfS w W P G lf v keys vals kids) {v0 : Value} {m : Nat} {e : TypeId} {ys : List Value} (hg : W.grownBy W' v0.ownBlock) (ho : W.ownsRow G e 1 v0 m ys) (he : e ≠ 25) : W'.heap[P]? = some (.cells (pgc lf v) 25 (0, 0)) := (hg.block P (heap_ltN h.blk) (fun e2 => by
  obtain ⟨_, cur, h5⟩ := own_blk ho e2.symm
  have h6 := h.blk
  rw [BlkG, h5] at h6
  cases h6
  exact he rfl)).trans h.blk
theorem rf_gr {w W W' : World} {P G : Nat} {lf : Bool} {v : Pv} {keys vals : List (List Nat)} {kids : List Int} (h : RfS w W P G lf v keys vals kids) {v0 : Value} {m : Nat} {e : TypeId} {ys : List Value} (hg : W.grownBy W' v0.ownBlock) (ho : W.ownsRow G e 1 v0 m ys) (j : Nat) (u : Value) : Below w.heap.size w (W'.setCell ⟨P, j, none⟩ u) := by
  have h0 : Below w.heap.size w W' := ⟨hg.os.trans h.gr.os, hg.tape.trans h.gr.tape, hg.output.trans h.gr.output, Nat.le_trans h.gr.size hg.size, fun k hk => (hg.block k (Nat.lt_of_lt_of_le hk h.gr.size) (fun e => by have := (own_blk ho e.symm).1; have := h.lt; omega)).trans (h.gr.block k hk)⟩
  exact h0.setCell h.lt.1 _
theorem elt_push {W W' : World} {G n : Nat} {v0 : Value} {xs : List Value} {L : List (List Nat)} (h : RowT W G n v0 xs L) {v' : Value} {a : Option Addr} {c : Nat} {s : List Nat} (hB : IsB W a s.length c s) (hN : NewB W G a) (ho : W'.ownsRow G 26 1 v' (n + 1) (xs ++ [.slice a s.length c])) (hg : W.grownBy W' v0.ownBlock) : RowT W' G (n + 1) v' (xs ++ [.slice a s.length c]) (L ++ [s]) := ⟨ho, ElT.push (h.els.grown hg h.own) (hB.keptN hg.size (fun b off e => by
    obtain ⟨_, cs, f, h4⟩ := hN b off e
    exact hg.block b (heap_ltN h4) (fun e2 => by
      obtain ⟨_, cur, h5⟩ := own_blk h.own e2.symm
      rw [h5] at h4
      cases h4))) (fun b off e => by
    obtain ⟨h6, cs, f, h4⟩ := hN b off e
    exact ⟨h6, cs, f, (hg.block b (heap_ltN h4) (fun e2 => by
      obtain ⟨_, cur, h5⟩ := own_blk h.own e2.symm
      rw [h5] at h4
      cases h4)).trans h4⟩)⟩
theorem mem_push {L : List (List Nat)} {s : List Nat} (h : ∀ b ∈ L, b.length ≤ 1024) (hs : s.length ≤ 1024) : ∀ b ∈ L ++ [s], b.length ≤ 1024 := fun b hb => by
  rcases List.mem_append.1 hb with h1 | h1
  · exact h b h1
  · have : b = s := by simpa using h1
    rw [this]; exact hs
theorem RfS.pushK {w W W' : World} {P G : Nat} {lf : Bool} {v : Pv} {keys vals : List (List Nat)} {kids : List Int} (h : RfS w W P G lf v keys vals kids) {a : Option Addr} {c : Nat} {s : List Nat} (hB : IsB W a s.length c s) (hN : NewB W G a) (hs : s.length ≤ 1024) {ka' : Option Addr} {kc' : Nat} {xs : List Value}
    (hxs : RowT W G v.kn (.slice v.ka v.kn v.kc) xs keys) (ho : W'.ownsRow G 26 1 (.slice ka' (v.kn + 1) kc') (v.kn + 1) (xs ++ [.slice a s.length c])) (hg : W.grownBy W' (Value.slice v.ka v.kn v.kc).ownBlock) (hor : (Value.slice ka' (v.kn + 1) kc').ownBlock = (Value.slice v.ka v.kn v.kc).ownBlock ∨ (Value.slice ka' (v.kn + 1) kc').ownBlock = some W.heap.size) :
    RfS w (W'.setCell ⟨P, 1, none⟩ (.slice ka' (v.kn + 1) kc')) P G lf ⟨ka', v.kn + 1, kc', v.va, v.vn, v.vc, v.ia, v.inn, v.ic⟩ (keys ++ [s]) vals kids := by
  obtain ⟨ys, hx⟩ := h.x
  have hP := rf_blk h hg hxs.own (by decide)
  have hx' := hx.grownO hg hxs.own (by decide) (fun b e1 e2 => h.ap b e2 e1)
  have hi' := own_grownT h.i hg hxs.own (by decide)
  refine ⟨?_, ⟨_, (elt_push hxs hB hN ho hg).setX hP _ _⟩, ⟨_, hx'.setX hP _ _⟩, own_setX hi' hP (by decide) _ _, ⟨by rw [List.length_append, h.lk.1]; rfl, h.lk.2⟩, ?_, h.ib, rf_gr h hg hxs.own _ _, h.lt, mem_push h.sh.1 hs, h.sh.2⟩
  · have := blk_setN (j := 1) hP (.slice ka' (v.kn + 1) kc')
    rw [BlkG, this]
    rfl
  · intro b e1 e2
    rcases hor with e3 | e3
    · exact h.ap b (e3.symm.trans e1) e2
    · have := ownB_of hx.own e2
      rw [e3] at e1
      cases e1
      omega
theorem RfS.pushV {w W W' : World} {P G : Nat} {lf : Bool} {v : Pv} {keys vals : List (List Nat)} {kids : List Int} (h : RfS w W P G lf v keys vals kids) {a : Option Addr} {c : Nat} {s : List Nat} (hB : IsB W a s.length c s) (hN : NewB W G a) (hs : s.length ≤ 1024) {va' : Option Addr} {vc' : Nat} {ys : List Value}
    (hxs : RowT W G v.vn (.slice v.va v.vn v.vc) ys vals) (ho : W'.ownsRow G 26 1 (.slice va' (v.vn + 1) vc') (v.vn + 1) (ys ++ [.slice a s.length c])) (hg : W.grownBy W' (Value.slice v.va v.vn v.vc).ownBlock) (hor : (Value.slice va' (v.vn + 1) vc').ownBlock = (Value.slice v.va v.vn v.vc).ownBlock ∨ (Value.slice va' (v.vn + 1) vc').ownBlock = some W.heap.size) :
    RfS w (W'.setCell ⟨P, 2, none⟩ (.slice va' (v.vn + 1) vc')) P G lf ⟨v.ka, v.kn, v.kc, va', v.vn + 1, vc', v.ia, v.inn, v.ic⟩ keys (vals ++ [s]) kids := by
  obtain ⟨ks, hk⟩ := h.k
  have hP := rf_blk h hg hxs.own (by decide)
  have hk' := hk.grownO hg hxs.own (by decide) (fun b e1 e2 => h.ap b e1 e2)
  have hi' := own_grownT h.i hg hxs.own (by decide)
  refine ⟨?_, ⟨_, hk'.setX hP _ _⟩, ⟨_, (elt_push hxs hB hN ho hg).setX hP _ _⟩, own_setX hi' hP (by decide) _ _, ⟨h.lk.1, by rw [List.length_append, h.lk.2.1]; rfl, h.lk.2.2⟩, ?_, h.ib, rf_gr h hg hxs.own _ _, h.lt, h.sh.1, mem_push h.sh.2 hs⟩
  · have := blk_setN (j := 2) hP (.slice va' (v.vn + 1) vc')
    rw [BlkG, this]
    rfl
  · intro b e1 e2
    rcases hor with e3 | e3
    · exact h.ap b e1 (e3.symm.trans e2)
    · have := ownB_of hk.own e1
      rw [e3] at e2
      cases e2
      omega
theorem RfS.pushI {w W W' : World} {P G : Nat} {lf : Bool} {v : Pv} {keys vals : List (List Nat)} {kids : List Int} (h : RfS w W P G lf v keys vals kids) {z : Int} (hz : i64B z) {ia' : Option Addr} {ic' : Nat}
    (ho : W'.ownsRow G 3 1 (.slice ia' (v.inn + 1) ic') (v.inn + 1) (kv kids ++ [.int .i64 z])) (hg : W.grownBy W' (Value.slice v.ia v.inn v.ic).ownBlock) :
    RfS w (W'.setCell ⟨P, 3, none⟩ (.slice ia' (v.inn + 1) ic')) P G lf ⟨v.ka, v.kn, v.kc, v.va, v.vn, v.vc, ia', v.inn + 1, ic'⟩ keys vals (kids ++ [z]) := by
  obtain ⟨xs, hk⟩ := h.k
  obtain ⟨ys, hx⟩ := h.x
  have hP := rf_blk h hg h.i (by decide)
  have hkv : kv (kids ++ [z]) = kv kids ++ [.int .i64 z] := by simp [kv]
  refine ⟨?_, ⟨_, (hk.grownK hg h.i).setX hP _ _⟩, ⟨_, (hx.grownK hg h.i).setX hP _ _⟩, by rw [hkv]; exact own_setX ho hP (by decide) _ _, ⟨h.lk.1, h.lk.2.1, by rw [List.length_append, h.lk.2.2]; rfl⟩, h.ap, ?_, rf_gr h hg h.i _ _, h.lt, h.sh⟩
  · have := blk_setN (j := 3) hP (.slice ia' (v.inn + 1) ic')
    rw [BlkG, this]
    rfl
  · intro k hk
    rcases List.mem_append.1 hk with h1 | h1
    · exact h.ib k h1
    · have : k = z := by simpa using h1
      rw [this]; exact hz
theorem RfS.fin {w W : World} {P G : Nat} {lf : Bool} {v : Pv} {keys vals : List (List Nat)} {kids : List Int} (h : RfS w W P G lf v keys vals kids) {B G0 : Nat} (hG0 : G0 < G) (hB : B < G) (a b c d : Value) : NwG (set4 W B a b c d) G0 v ⟨lf, keys, vals, kids⟩ := by
  obtain ⟨xs, hk⟩ := h.k
  obtain ⟨ys, hx⟩ := h.x
  obtain ⟨a', c', e, hL⟩ := (hk.set4 (B := B) hB a b c d).nwL (G := G0) h.lk.1 hG0
  obtain ⟨a2, c2, e', hL'⟩ := (hx.set4 (B := B) hB a b c d).nwL (G := G0) h.lk.2.1 hG0
  cases e
  cases e'
  have hi : (set4 W B a b c d).ownsRow G 3 1 (.slice v.ia v.inn v.ic) v.inn (kv kids) := by
    rcases h.i.2 with h1 | ⟨g, cap, cur, e1, hb, hgb, r'⟩
    · exact ⟨h.i.1, .inl h1⟩
    · exact ⟨h.i.1, .inr ⟨g, cap, cur, e1, hb, (out4 (by omega) _ _ _ _).trans hgb, r'⟩⟩
  obtain ⟨a3, c3, e3, hL3⟩ := own_isK h.lk.2.2 (fun i hi => h.ib _ (getD_mem0 (by rw [h.lk.2.2]; exact hi))) hi
  cases e3
  exact ⟨hL, hL', hL3.1, fun b off e => Nat.lt_of_lt_of_le hG0 (hL3.2 b off e)⟩
/- pure -/
theorem leaf_short2 {q : Pg} (h : checkE q = 0) (hl : q.leaf = true) : (∀ b ∈ q.keys, b.length ≤ 256) ∧ ∀ b ∈ q.vals, b.length ≤ 512 := by
  have := leaf_of h hl
  simp only [leafB, keysB, shortB, Bool.and_eq_true, decide_eq_true_eq, List.all_eq_true] at this
  exact ⟨this.1.2.2, this.2⟩
theorem rd_tx {most : Nat} (hm : most ≤ 1024) {s r : List Nat} (h : s.length ≤ most) : rdText most (tx s ++ r) = .ok (s, r) := rdText_text h (by omega) r
theorem leafAt_stepR {cnt k : Nat} {R0 R R1 R2 s1 s2 : List Nat} {keys vals : List (List Nat)} (h : LeafAt cnt R0 k keys vals R false) (hk : k < cnt) (h1 : rdText 256 R = .ok (s1, R1)) (h2 : rdText 512 R1 = .ok (s2, R2)) : LeafAt cnt R0 (k + 1) (keys ++ [s1]) (vals ++ [s2]) R2 false := by
  intro q pad hq hl hc he
  obtain ⟨_, _, ek, ev, eR⟩ := h q pad hq hl hc he
  have hkl : k < q.keys.length := by omega
  have hvl : k < q.vals.length := by rw [(leaf_vals hq hl).1]; exact hkl
  have hks := leaf_short2 hq hl
  rw [eR, restL_step hkl, List.append_assoc, List.append_assoc, rd_tx (by decide) (hks.1 _ (getD_mem hkl))] at h1
  cases h1
  rw [rd_tx (by decide) (hks.2 _ (getD_mem hvl))] at h2
  cases h2
  exact ⟨by omega, rfl, by rw [take_step hkl, ek], by rw [take_step hvl, ev], rfl⟩
theorem leafAt_noK {cnt k z : Nat} {R0 R : List Nat} {keys vals : List (List Nat)} (h : LeafAt cnt R0 k keys vals R false) (hk : k < cnt) (h1 : rdText 256 R = .error z) : ∀ q pad, checkE q = 0 → q.leaf = true → q.keys.length = cnt → R0 = restL q 0 ++ pad → False := by
  intro q pad hq hl hc he
  obtain ⟨_, _, ek, ev, eR⟩ := h q pad hq hl hc he
  have hkl : k < q.keys.length := by omega
  rw [eR, restL_step hkl, List.append_assoc, List.append_assoc, rd_tx (by decide) ((leaf_short2 hq hl).1 _ (getD_mem hkl))] at h1
  cases h1
theorem leafAt_noV {cnt k z : Nat} {R0 R R1 s1 : List Nat} {keys vals : List (List Nat)} (h : LeafAt cnt R0 k keys vals R false) (hk : k < cnt) (h1 : rdText 256 R = .ok (s1, R1)) (h2 : rdText 512 R1 = .error z) : ∀ q pad, checkE q = 0 → q.leaf = true → q.keys.length = cnt → R0 = restL q 0 ++ pad → False := by
  intro q pad hq hl hc he
  obtain ⟨_, _, ek, ev, eR⟩ := h q pad hq hl hc he
  have hkl : k < q.keys.length := by omega
  have hvl : k < q.vals.length := by rw [(leaf_vals hq hl).1]; exact hkl
  have hks := leaf_short2 hq hl
  rw [eR, restL_step hkl, List.append_assoc, List.append_assoc, rd_tx (by decide) (hks.1 _ (getD_mem hkl))] at h1
  cases h1
  rw [rd_tx (by decide) (hks.2 _ (getD_mem hvl))] at h2
  cases h2
theorem innerAt_0R {cnt n : Nat} {R0 R : List Nat} (h : rdNum R0 = some (n, R)) : InnerAt cnt R0 0 [] [(n : Int)] R false := by
  intro q pad hq hl hc he
  obtain ⟨g1, g2, _⟩ := inner_lens hq hl
  obtain ⟨e1, e2⟩ := inner_kid hq hl (i := 0) (by omega)
  rw [he, rdNum_num (by omega)] at h
  cases h
  refine ⟨Nat.zero_le _, rfl, rfl, ?_, rfl⟩
  rw [take_stepI (by omega), ← e1]
  rfl
theorem inner_no0 {R0 : List Nat} (h : ∀ m R', rdNum R0 = some (m, R') → 1023 < m) : ∀ q pad, checkE q = 0 → q.leaf = false → R0 = num (q.kids.getD 0 0).toNat ++ (restI q 0 ++ pad) → False := by
  intro q pad hq hl he
  obtain ⟨g1, g2, _⟩ := inner_lens hq hl
  obtain ⟨e1, e2⟩ := inner_kid hq hl (i := 0) (by omega)
  have := h _ _ (by rw [he]; exact rdNum_num (by omega) _)
  omega
theorem innerAt_stepR {cnt k n : Nat} {R0 R R1 R2 s1 : List Nat} {keys : List (List Nat)} {kids : List Int} (h : InnerAt cnt R0 k keys kids R false) (hk : k < cnt) (h1 : rdText 256 R = .ok (s1, R1)) (h2 : rdNum R1 = some (n, R2)) : InnerAt cnt R0 (k + 1) (keys ++ [s1]) (kids ++ [(n : Int)]) R2 false := by
  intro q pad hq hl hc he
  obtain ⟨_, _, ek, ev, eR⟩ := h q pad hq hl hc he
  have hkl : k < q.keys.length := by omega
  obtain ⟨g1, g2, _, g4, _⟩ := inner_lens hq hl
  have hil : k + 1 < q.kids.length := by omega
  rw [eR, restI_step hkl, List.append_assoc, List.append_assoc, rd_tx (by decide) (g4 _ (getD_mem hkl))] at h1
  cases h1
  obtain ⟨e1, e2⟩ := inner_kid hq hl hil
  rw [rdNum_num (by omega)] at h2
  cases h2
  refine ⟨by omega, rfl, by rw [take_step hkl, ek], ?_, rfl⟩
  rw [take_stepI hil, ev, ← e1]
theorem innerAt_noK {cnt k z : Nat} {R0 R : List Nat} {keys : List (List Nat)} {kids : List Int} (h : InnerAt cnt R0 k keys kids R false) (hk : k < cnt) (h1 : rdText 256 R = .error z) : ∀ q pad, checkE q = 0 → q.leaf = false → q.keys.length = cnt → R0 = num (q.kids.getD 0 0).toNat ++ (restI q 0 ++ pad) → False := by
  intro q pad hq hl hc he
  obtain ⟨_, _, ek, ev, eR⟩ := h q pad hq hl hc he
  have hkl : k < q.keys.length := by omega
  rw [eR, restI_step hkl, List.append_assoc, List.append_assoc, rd_tx (by decide) ((inner_lens hq hl).2.2.2.1 _ (getD_mem hkl))] at h1
  cases h1
theorem innerAt_noI {cnt k : Nat} {R0 R R1 s1 : List Nat} {keys : List (List Nat)} {kids : List Int} (h : InnerAt cnt R0 k keys kids R false) (hk : k < cnt) (h1 : rdText 256 R = .ok (s1, R1)) (h2 : ∀ m R', rdNum R1 = some (m, R') → 1023 < m) : ∀ q pad, checkE q = 0 → q.leaf = false → q.keys.length = cnt → R0 = num (q.kids.getD 0 0).toNat ++ (restI q 0 ++ pad) → False := by
  intro q pad hq hl hc he
  obtain ⟨_, _, ek, ev, eR⟩ := h q pad hq hl hc he
  have hkl : k < q.keys.length := by omega
  obtain ⟨g1, g2, _, g4, _⟩ := inner_lens hq hl
  rw [eR, restI_step hkl, List.append_assoc, List.append_assoc, rd_tx (by decide) (g4 _ (getD_mem hkl))] at h1
  cases h1
  obtain ⟨e1, e2⟩ := inner_kid hq hl (i := k + 1) (by omega)
  have := h2 _ _ (rdNum_num (by omega) _)
  omega
theorem rhead_leaf {T R1 pad : List Nat} {m : Nat} (hn : rdNum (T.drop 1) = some (m, R1)) {q : Pg} (hq : checkE q = 0) (hl : q.leaf = true) (hT : T = textP q ++ pad) : m = q.keys.length ∧ R1 = restL q 0 ++ pad := by
  have := head_leaf (m := m) (R1 := R1) (b1 := false) (.inl ⟨hn, rfl⟩) hq hl hT
  exact ⟨this.2.1, this.2.2.1⟩
theorem rhead_inner {T R1 pad : List Nat} {m : Nat} (hn : rdNum (T.drop 1) = some (m, R1)) {q : Pg} (hq : checkE q = 0) (hl : q.leaf = false) (hT : T = textP q ++ pad) : m = q.keys.length ∧ R1 = num (q.kids.getD 0 0).toNat ++ (restI q 0 ++ pad) := by
  have := head_inner (m := m) (R1 := R1) (b1 := false) (.inl ⟨hn, rfl⟩) hq hl hT
  exact ⟨this.2.1, this.2.2.1⟩
theorem rhead_0 {T pad : List Nat} {q : Pg} (hT : T = textP q ++ pad) : T.getD 0 0 = (if q.leaf = true then 1 else 2) := by
  cases hl : q.leaf with
  | true => rw [hT, textP_leaf hl]; rfl
  | false => rw [hT, textP_inner hl]; rfl
theorem rhead_none {T pad : List Nat} (hn : rdNum (T.drop 1) = none) {q : Pg} (hq : checkE q = 0) (hT : T = textP q ++ pad) : False := by
  cases hl : q.leaf with
  | true =>
    rw [hT, textP_leaf hl] at hn
    simp only [List.cons_append, List.drop_succ_cons, List.drop_zero, List.append_assoc] at hn
    rw [rdNum_num (few_num hq)] at hn
    cases hn
  | false =>
    rw [hT, textP_inner hl] at hn
    simp only [List.cons_append, List.drop_succ_cons, List.drop_zero, List.append_assoc] at hn
    rw [rdNum_num (few_num hq)] at hn
    cases hn
end Go.Proofs.Ytebikoekpbnpbaa
