/- the page that inner reads -/
import Derived.Test.YtebikoekpbnpbaaFD
namespace Go.Proofs.Ytebikoekpbnpbaa
open Go.RowKit Cod
set_option maxRecDepth 100000
set_option linter.unusedVariables false
set_option linter.unusedSimpArgs false
theorem wrap_i64B (n : Int) : i64B (IntKind.i64.wrap n) := by
  unfold i64B
  rw [IntKind.wrap_i64]
  omega
/-- an own row stays where a row of another type grows -/
theorem own_grownT {w w' : World} {base base' n m : Nat} {e e' : TypeId} {v v0 : Value} {xs ys : List Value} (h : w.ownsRow base e 1 v n xs) (hg : w.grownBy w' v0.ownBlock) (ho : w.ownsRow base' e' 1 v0 m ys) (he : e ≠ e') : w'.ownsRow base e 1 v n xs := by
  rcases h.2 with h1 | ⟨g, cap, cur, e1, hb, hgb, r⟩
  · exact ⟨h.1, .inl h1⟩
  · refine ⟨h.1, .inr ⟨g, cap, cur, e1, hb, (hg.block g (heap_ltN hgb) (fun e2 => ?_)).trans hgb, r⟩⟩
    obtain ⟨_, cur', h3⟩ := own_blk ho e2.symm
    rw [h3] at hgb
    cases hgb
    exact he rfl
theorem own_setX {w : World} {base n X : Nat} {e : TypeId} {v : Value} {xs : List Value} (h : w.ownsRow base e 1 v n xs) {cs : Array Value} {f : Nat × Nat} (hX : w.heap[X]? = some (.cells cs 25 f)) (he : e ≠ 25) (j : Nat) (u : Value) : (w.setCell ⟨X, j, none⟩ u).ownsRow base e 1 v n xs := by
  rcases h.2 with h1 | ⟨g, cap, cur, e1, hb, hgb, r⟩
  · exact ⟨h.1, .inl h1⟩
  · refine ⟨h.1, .inr ⟨g, cap, cur, e1, hb, (Below.heap_setCell _ _ _ _ (fun e2 => ?_)).trans hgb, r⟩⟩
    have e' : g = X := e2
    rw [e', hX] at hgb
    cases hgb
    exact he rfl
theorem own_grownR {w w' : World} {base n r : Nat} {e : TypeId} {v : Value} {xs : List Value} (h : w.ownsRow base e 1 v n xs) (hg : w.grownBy w' (some r)) (hr : r < base) : w'.ownsRow base e 1 v n xs := by
  rcases h.2 with h1 | ⟨g, cap, cur, e1, hb, hgb, r'⟩
  · exact ⟨h.1, .inl h1⟩
  · exact ⟨h.1, .inr ⟨g, cap, cur, e1, hb, (hg.block g (heap_ltN hgb) (by simp; omega)).trans hgb, r'⟩⟩
/-- the page that inner reads, in its block -/
structure InS (w W : World) (r P G : Nat) (v : Pv) (keys : List (List Nat)) (kids : List Int) (R : List Nat) (bad : Bool) : Prop where
  blk : BlkG W P false v
  k : ∃ xs, RowT W G v.kn (.slice v.ka v.kn v.kc) xs keys
  i : W.ownsRow G 3 1 (.slice v.ia v.inn v.ic) v.inn (kv kids)
  lk : keys.length = v.kn ∧ kids.length = v.inn
  x : v.va = none ∧ v.vn = 0 ∧ v.vc = 0
  ib : ∀ k ∈ kids, i64B k
  rd : RdI W r R bad
  gr : w.grownBy W (some r)
  lt : r < w.heap.size ∧ w.heap.size ≤ P ∧ w.heap.size ≤ G
  sh : ∀ b ∈ keys, b.length ≤ 1024
theorem InS.text {w W W' : World} {r P G : Nat} {v : Pv} {keys : List (List Nat)} {kids : List Int} {R R' : List Nat} {bad bad' : Bool} (h : InS w W r P G v keys kids R bad) (hg : W.grownBy W' (some r)) (hr : RdI W' r R' bad') : InS w W' r P G v keys kids R' bad' := by
  obtain ⟨xs, hk⟩ := h.k
  have hlt := h.lt
  exact ⟨(hg.block P (heap_ltN h.blk) (by simp; omega)).trans h.blk, ⟨xs, hk.grownR hg (by omega)⟩, own_grownR h.i hg (by omega), h.lk, h.x, h.ib, hr, grown_trans h.gr hg, h.lt, h.sh⟩
theorem InS.below {w W W' : World} {r P G : Nat} {v : Pv} {keys : List (List Nat)} {kids : List Int} {R : List Nat} {bad : Bool} (h : InS w W r P G v keys kids R bad) (hb : Below W.heap.size W W') : InS w W' r P G v keys kids R bad := h.text ⟨hb.os, hb.tape, hb.output, hb.size, fun k hk _ => hb.block k hk⟩ (h.rd.below hb)
theorem InS.pushK {w W W' : World} {r P G : Nat} {v : Pv} {keys : List (List Nat)} {kids : List Int} {R : List Nat} {bad : Bool} (h : InS w W r P G v keys kids R bad) {a : Option Addr} {c : Nat} {s : List Nat} (hB : IsB W a s.length c s) (hN : NewB W G a) (hs : s.length ≤ 1024) {ka' : Option Addr} {kc' : Nat} {xs : List Value}
    (hxs : RowT W G v.kn (.slice v.ka v.kn v.kc) xs keys) (ho : W'.ownsRow G 26 1 (.slice ka' (v.kn + 1) kc') (v.kn + 1) (xs ++ [.slice a s.length c])) (hg : W.grownBy W' (Value.slice v.ka v.kn v.kc).ownBlock) :
    InS w (W'.setCell ⟨P, 1, none⟩ (.slice ka' (v.kn + 1) kc')) r P G ⟨ka', v.kn + 1, kc', v.va, v.vn, v.vc, v.ia, v.inn, v.ic⟩ (keys ++ [s]) kids R bad := by
  have hlt := h.lt
  have hPb : W'.heap[P]? = W.heap[P]? := hg.block P (heap_ltN h.blk) (fun e => by
    obtain ⟨_, cur, h5⟩ := own_blk hxs.own e.symm
    rw [h.blk] at h5
    cases h5)
  have hP : W'.heap[P]? = some (.cells (pgc false v) 25 (0, 0)) := hPb.trans h.blk
  have hx' := own_grownT h.i hg hxs.own (by decide)
  have hk' : RowT W' G (v.kn + 1) (.slice ka' (v.kn + 1) kc') (xs ++ [.slice a s.length c]) (keys ++ [s]) := ⟨ho, ElT.push (hxs.els.grown hg hxs.own) (hB.keptN hg.size (fun b off e => by
    obtain ⟨_, cs, f, h4⟩ := hN b off e
    exact hg.block b (heap_ltN h4) (fun e2 => by
      obtain ⟨_, cur, h5⟩ := own_blk hxs.own e2.symm
      rw [h5] at h4
      cases h4))) (fun b off e => by
    obtain ⟨h6, cs, f, h4⟩ := hN b off e
    exact ⟨h6, cs, f, (hg.block b (heap_ltN h4) (fun e2 => by
      obtain ⟨_, cur, h5⟩ := own_blk hxs.own e2.symm
      rw [h5] at h4
      cases h4)).trans h4⟩)⟩
  have hrd := h.rd.grownO hg hxs.own (by decide)
  refine ⟨?_, ⟨_, hk'.setX hP _ _⟩, own_setX hx' hP (by decide) _ _, ⟨by rw [List.length_append, h.lk.1]; rfl, h.lk.2⟩, h.x, h.ib, hrd.setX hP _ _, ?_, h.lt, ?_⟩
  · have := blk_setN (j := 1) hP (.slice ka' (v.kn + 1) kc')
    rw [BlkG, this]
    rfl
  · refine ⟨hg.os.trans h.gr.os, hg.tape.trans h.gr.tape, hg.output.trans h.gr.output, ?_, fun k hk hne => ?_⟩
    · have := h.gr.size
      have := hg.size
      simp [World.setCell]
      omega
    · have e1 : W'.heap[k]? = W.heap[k]? := hg.block k (Nat.lt_of_lt_of_le hk h.gr.size) (fun e => by have := (own_blk hxs.own e.symm).1; omega)
      exact (Below.heap_setCell _ _ _ _ (show k ≠ P by omega)).trans (e1.trans (h.gr.block k hk hne))
  · exact fun b hb => by
      rcases List.mem_append.1 hb with h1 | h1
      · exact h.sh b h1
      · have : b = s := by simpa using h1
        rw [this]; exact hs
theorem InS.pushI {w W W' : World} {r P G : Nat} {v : Pv} {keys : List (List Nat)} {kids : List Int} {R : List Nat} {bad : Bool} (h : InS w W r P G v keys kids R bad) {z : Int} (hz : i64B z) {ia' : Option Addr} {ic' : Nat}
    (ho : W'.ownsRow G 3 1 (.slice ia' (v.inn + 1) ic') (v.inn + 1) (kv kids ++ [.int .i64 z])) (hg : W.grownBy W' (Value.slice v.ia v.inn v.ic).ownBlock) :
    InS w (W'.setCell ⟨P, 3, none⟩ (.slice ia' (v.inn + 1) ic')) r P G ⟨v.ka, v.kn, v.kc, v.va, v.vn, v.vc, ia', v.inn + 1, ic'⟩ keys (kids ++ [z]) R bad := by
  have hlt := h.lt
  obtain ⟨xs, hk⟩ := h.k
  have hPb : W'.heap[P]? = W.heap[P]? := hg.block P (heap_ltN h.blk) (fun e => by
    obtain ⟨_, cur, h5⟩ := own_blk h.i e.symm
    rw [h.blk] at h5
    cases h5)
  have hP : W'.heap[P]? = some (.cells (pgc false v) 25 (0, 0)) := hPb.trans h.blk
  have hk' := hk.grownK hg h.i
  have hrd := h.rd.grownO hg h.i (by decide)
  have hkv : kv (kids ++ [z]) = kv kids ++ [.int .i64 z] := by simp [kv]
  refine ⟨?_, ⟨_, hk'.setX hP _ _⟩, by rw [hkv]; exact own_setX ho hP (by decide) _ _, ⟨h.lk.1, by rw [List.length_append, h.lk.2]; rfl⟩, h.x, ?_, hrd.setX hP _ _, ?_, h.lt, h.sh⟩
  · have := blk_setN (j := 3) hP (.slice ia' (v.inn + 1) ic')
    rw [BlkG, this]
    rfl
  · intro k hk
    rcases List.mem_append.1 hk with h1 | h1
    · exact h.ib k h1
    · have : k = z := by simpa using h1
      rw [this]; exact hz
  · refine ⟨hg.os.trans h.gr.os, hg.tape.trans h.gr.tape, hg.output.trans h.gr.output, ?_, fun k hk hne => ?_⟩
    · have := h.gr.size
      have := hg.size
      simp [World.setCell]
      omega
    · have e1 : W'.heap[k]? = W.heap[k]? := hg.block k (Nat.lt_of_lt_of_le hk h.gr.size) (fun e => by have := (own_blk h.i e.symm).1; omega)
      exact (Below.heap_setCell _ _ _ _ (show k ≠ P by omega)).trans (e1.trans (h.gr.block k hk hne))
theorem InS.fin {w W : World} {r P G : Nat} {v : Pv} {keys : List (List Nat)} {kids : List Int} {R : List Nat} {bad : Bool} (h : InS w W r P G v keys kids R bad) {B : Nat} {G0 : Nat} (hG0 : G0 < G) (hB : B < G) {cs : Array Value} {f : Nat × Nat} (hX : W.heap[B]? = some (.cells cs 25 f)) (a b c d : Value) : NwG (set4 W B a b c d) G0 v ⟨false, keys, [], kids⟩ ∧ RdI (set4 W B a b c d) r R bad := by
  obtain ⟨xs, hk⟩ := h.k
  constructor
  · obtain ⟨a', c', e, hL⟩ := (hk.set4 (B := B) hB a b c d).nwL (G := G0) h.lk.1 hG0
    cases e
    have hi : (set4 W B a b c d).ownsRow G 3 1 (.slice v.ia v.inn v.ic) v.inn (kv kids) := by
      rcases h.i.2 with h1 | ⟨g, cap, cur, e1, hb, hgb, r'⟩
      · exact ⟨h.i.1, .inl h1⟩
      · exact ⟨h.i.1, .inr ⟨g, cap, cur, e1, hb, (out4 (by omega) _ _ _ _).trans hgb, r'⟩⟩
    obtain ⟨a2, c2, e', hL'⟩ := own_isK h.lk.2 (fun i hi => h.ib _ (getD_mem0 (by rw [h.lk.2]; exact hi))) hi
    cases e'
    exact ⟨hL, by rw [h.x.1, h.x.2.1, h.x.2.2]; exact nwL_nil _ _, hL'.1, fun b off e => Nat.lt_of_lt_of_le hG0 (hL'.2 b off e)⟩
  · exact h.rd.kept (by rw [size4]; exact Nat.le_refl _) (fun b' cs' t f' ht hb => out4 (fun e => by
      rw [e, hX] at hb
      cases hb
      rcases ht with ht | ht <;> cases ht) _ _ _ _)
end Go.Proofs.Ytebikoekpbnpbaa
