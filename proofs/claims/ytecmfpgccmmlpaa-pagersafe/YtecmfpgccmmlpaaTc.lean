/- PagerSafe: what is known between two calls, in memory -/
import Derived.Test.YtecmfpgccmmlpaaTb
import Derived.Test.YtecmfpgccmmlpaaSa
namespace Go.Proofs.Ytecmfpgccmmlpaa
open Go.RowKit
set_option maxRecDepth 100000
set_option linter.unusedVariables false
set_option linter.unusedSimpArgs false
theorem one_string (x : ByteArray) : ∀ u ∈ [Value.string x], u.oneCell' = true := by
  intro u hu; simp at hu; subst hu; rfl
theorem one_i64 (x : Int) : ∀ u ∈ [Value.int .i64 x], u.oneCell' = true := by
  intro u hu; simp at hu; subst hu; rfl
/-- bytes of the call's own, filled up with noughts -/
theorem zeros_all (w : World) (ty : TypeId) (base n : Nat) (v : Value) (l : List Nat) (hown : w.ownsRow base 5 1 v n (bv l)) (hn : n ≤ 4096) (hl : ∀ x ∈ l, x < 256) (hbase : base ≤ w.heap.size) :
    ∃ q c w', (Builtin.append_ #[25, 3] ty #[v, .int .i64 ((4096 - n : Nat) : Int)]).run Try.prog w = .ok (.slice (some ⟨q, 0, none⟩) 4096 c) w' ∧ IsB w' (some ⟨q, 0, none⟩) 4096 c (full l) ∧ Below base w w' := by
  have hll : l.length = n := by have := hown.1; rw [bv_length] at this; omega
  have hf : bv l ++ zeros (4096 - n) = bv (full l) := by rw [full, fullN, bv_append, bv_zeros, hll]
  have key : ∃ v' w', (Builtin.append_ #[25, 3] ty #[v, .int .i64 ((4096 - n : Nat) : Int)]).run Try.prog w = .ok v' w' ∧ w'.ownsRow base 5 1 v' 4096 (bv (full l)) ∧ Below base w w' := by
    rcases hown.2 with ⟨rfl, rfl⟩ | ⟨g, cap, cur, rfl, hbg, _⟩
    · obtain ⟨i0, hi, hz0, hz1, hz2⟩ := info_parts Try.info5
      have hr := Go.Lib.run_append_nil_zeros (P := Try.prog) w 25 3 ty 5 i0 _ .i64 .i64 Try.underlying25 Try.underlying3 hi hz0 4096 (by omega) (by omega) (by omega) (by omega)
      have hge := grownCap_ge w 4096 0 5
      refine ⟨_, _, hr, ⟨by rw [bv_length, full_length (by omega)], .inr ⟨w.heap.size, _, _, rfl, hbase, heap_alloc_new w.drew _, hge, grownCap_le_maxLen _ _ _ _ (by unfold maxLen; omega), ?_, ?_⟩⟩, ((Below.refl _ w).alloc (Nat.le_refl _) _).drew.mono hbase⟩
      · rw [zeroCells5, zeroCells5]
        simp [zeros]
        omega
      · rw [zeroCells5, zeroCells5, Nat.mul_one, ← hf]
        obtain rfl : l = [] := List.length_eq_zero_iff.1 hll
        simp [zeros, bv]
    · obtain ⟨v', w', h1, h2, h3⟩ := run_own_zeros w ty base g n cap (4096 - n) _ hown (by omega) hbase
      rw [show n + (4096 - n) = 4096 by omega, hf] at h2
      exact ⟨v', w', h1, h2, h3.os, h3.tape, h3.output, h3.size, fun k hk => h3.block k (by omega) (by simp; omega)⟩
  obtain ⟨v', w', k1, k2, k3⟩ := key
  obtain ⟨q, c, rfl, _, k4⟩ := own_isB k2 (full_lt hl) (by omega)
  exact ⟨q, c, w', k1, k4, k3⟩
theorem own_blk {w : World} {base n : Nat} {ty : TypeId} {v : Value} {xs : List Value} (h : w.ownsRow base ty 1 v n xs) : ∀ k, v.ownBlock = some k → base ≤ k ∧ ∃ cur, w.heap[k]? = some (.cells cur ty (0, 0)) := by
  intro k hk
  rcases h.2 with ⟨rfl, _⟩ | ⟨g, cap, cur, rfl, hb, hg, _⟩
  · simp [Value.ownBlock] at hk
  · simp [Value.ownBlock] at hk
    subst hk
    exact ⟨hb, cur, hg⟩
theorem own_frm {w w' : World} {base n : Nat} {ty : TypeId} {v : Value} {xs : List Value} {S : Nat → Prop} (h : w.ownsRow base ty 1 v n xs) (hf : Frm S w w') (hS : ∀ i cur m, S i → w.heap[i]? ≠ some (.cells cur ty m)) : w'.ownsRow base ty 1 v n xs := by
  refine ⟨h.1, h.2.imp id ?_⟩
  rintro ⟨g, cap, cur, e, hb, hg, r⟩
  exact ⟨g, cap, cur, e, hb, (hf.block g (heap_lt hg) (fun hs => hS g cur _ hs hg)).trans hg, r⟩
theorem own_bel {w w' : World} {base n : Nat} {ty : TypeId} {v : Value} {xs : List Value} (h : w.ownsRow base ty 1 v n xs) (hb : Below w.heap.size w w') : w'.ownsRow base ty 1 v n xs :=
  own_frm (S := fun _ => False) h (Frm.below hb) (fun _ _ _ h => h.elim)
theorem own_slice {w : World} {base n : Nat} {ty : TypeId} {v : Value} {xs : List Value} (h : w.ownsRow base ty 1 v n xs) : ∃ a cap, v = .slice a n cap ∧ n ≤ cap ∧ cap ≤ maxLen ∧ (a = none → cap = 0) ∧ (∀ b off, a = some ⟨b, off, none⟩ → base ≤ b ∧ ∃ cur, w.heap[b]? = some (.cells cur ty (0, 0))) ∧ ∀ i, i < n → ∃ q, a = some ⟨q, 0, none⟩ ∧ q < w.heap.size ∧ w.cell? ⟨q, i, none⟩ = xs[i]? := by
  rcases h.2 with ⟨rfl, rfl⟩ | ⟨g, cap, cur, rfl, hb, hg, h1, h2, h3, h4⟩
  · exact ⟨none, 0, rfl, Nat.le_refl _, Nat.zero_le _, fun _ => rfl, (fun b off e => by cases e), fun i hi => by omega⟩
  · refine ⟨_, cap, rfl, h1, h2, (fun e => by cases e), (fun b off e => by cases e; exact ⟨hb, cur, hg⟩), fun i hi => ⟨g, rfl, heap_lt hg, ?_⟩⟩
    have hx : xs[i]? = cur[i]? := by
      rw [← h4, Nat.mul_one, List.getElem?_take_of_lt hi, Array.getElem?_toList]
    rw [hx]
    simp [World.cell?, hg]
/-- the list of pages, and that of their texts -/
structure Kp (w W : World) (kv tv : Value) (ks : List Nat) (ts : List (List Nat)) : Prop where
  k : W.ownsRow w.heap.size 3 1 kv ks.length (ks.map fun (k : Nat) => Value.int .i64 (k : Int))
  t : W.ownsRow w.heap.size 9 1 tv ts.length (ts.map fun t => Value.string (str t))
theorem Kp.below {w W W' : World} {kv tv : Value} {ks : List Nat} {ts : List (List Nat)} (h : Kp w W kv tv ks ts) (hb : Below W.heap.size W W') : Kp w W' kv tv ks ts := ⟨own_bel h.k hb, own_bel h.t hb⟩
theorem Kp.frm {w W W' : World} {kv tv : Value} {ks : List Nat} {ts : List (List Nat)} {S : Nat → Prop} (h : Kp w W kv tv ks ts) (hf : Frm S W W') (hS : ∀ i cur m t, t = 3 ∨ t = 9 → S i → W.heap[i]? ≠ some (.cells cur t m)) : Kp w W' kv tv ks ts :=
  ⟨own_frm h.k hf (fun i cur m => hS i cur m 3 (.inl rfl)), own_frm h.t hf (fun i cur m => hS i cur m 9 (.inr rfl))⟩
theorem SP.noT {w : World} {gp gq g n : Nat} {p : Pg} (h : IsP w gp gq g n p) {t : TypeId} (ht : t = 3 ∨ t = 9) {i : Nat} {cur : Array Value} {m : Nat × Nat} (hi : SP gp gq i) : w.heap[i]? ≠ some (.cells cur t m) := by
  intro e
  rcases hi with rfl | rfl
  · rw [h.blk] at e
    simp at e
    rcases ht with rfl | rfl <;> simp at e
  · obtain ⟨c, hc, _⟩ := h.row
    rw [hc] at e
    simp at e
    rcases ht with rfl | rfl <;> simp at e
theorem SD.noT' {w : World} {g gs b n : Nat} {st : St} (h : IsD NoX w g gs b n st) {t : TypeId} (ht : t = 3 ∨ t = 9) {i : Nat} {cur : Array Value} {m : Nat × Nat} (hi : SD g gs b i) : w.heap[i]? ≠ some (.cells cur t m) := by
  rcases ht with rfl | rfl <;> exact h.noT (by decide) (by decide) hi
theorem Kp.frmP {w W W' : World} {kv tv : Value} {ks : List Nat} {ts : List (List Nat)} {gp gq g n : Nat} {p : Pg} (h : Kp w W kv tv ks ts) (hp : IsP W gp gq g n p) (hf : Frm (SP gp gq) W W') : Kp w W' kv tv ks ts :=
  h.frm hf (fun i cur m t ht hs => SP.noT hp ht hs)
theorem Kp.frmD {w W W' : World} {kv tv : Value} {ks : List Nat} {ts : List (List Nat)} {g gs b n : Nat} {st : St} (h : Kp w W kv tv ks ts) (hd : IsD NoX W g gs b n st) (hf : Frm (SD g gs b) W W') : Kp w W' kv tv ks ts :=
  h.frm hf (fun i cur m t ht hs => SD.noT' hd ht hs)
theorem Kp.frm2 {w W W' : World} {kv tv : Value} {ks : List Nat} {ts : List (List Nat)} {gp gq g gs b n : Nat} {p : Pg} {st : St} (h : Kp w W kv tv ks ts) (hp : IsP W gp gq g n p) (hd : IsD NoX W g gs b n st) (hf : Frm (fun i => SP gp gq i ∨ SD g gs b i) W W') : Kp w W' kv tv ks ts :=
  h.frm hf (fun i cur m t ht hs => hs.elim (SP.noT hp ht) (SD.noT' hd ht))
/-- the call's own row has grown: the pager and the disk are as they were -/
theorem PD.grown {w W W' : World} {gp gq g gs b n : Nat} {p : Pg} {st : St} (h : PD w W gp gq g gs b n p st) {r : Option Nat} (hg : W.grownBy W' r) (hr : ∀ k, r = some k → w.heap.size ≤ k ∧ ∃ t cur, (t = 3 ∨ t = 9) ∧ W.heap[k]? = some (.cells cur t (0, 0))) : PD w W' gp gq g gs b n p st := by
  have hf : Frm (fun i => r = some i) W W' := Frm.grown hg (fun k hk => hk)
  have hP : ∀ i, SP gp gq i → ¬ r = some i := fun i hi e => by
    obtain ⟨_, t, cur, ht, hh⟩ := hr i e
    exact SP.noT h.p ht hi hh
  refine ⟨h.d.kept (S := fun i => r = some i) hf (fun i hi hs => ?_) (K5.of_frm hf (fun i cur' m' hi => ?_)), ?_, h.lo, h.b.grown hg h.b.size (fun k hk => (hr k hk).1)⟩
  · obtain ⟨_, t, cur, ht, hh⟩ := hr i hi
    exact SD.noT' h.d ht hs hh
  · obtain ⟨_, t, cur, ht, hh⟩ := hr i hi
    rw [hh]
    rcases ht with rfl | rfl <;> simp
  · obtain ⟨c, hc, hl⟩ := h.p.row
    exact ⟨(hf.block gp (heap_lt h.p.blk) (hP gp (.inl rfl))).trans h.p.blk, ⟨c, (hf.block gq (heap_lt hc) (hP gq (.inr rfl))).trans hc, hl⟩, h.p.may, h.p.tot, h.p.n1, h.p.sm, h.p.n0⟩
theorem own_grown {w w' : World} {base n : Nat} {ty : TypeId} {v : Value} {xs : List Value} {r : Option Nat} (h : w.ownsRow base ty 1 v n xs) (hg : w.grownBy w' r) (hr : ∀ k, r = some k → ∃ t cur, t ≠ ty ∧ w.heap[k]? = some (.cells cur t (0, 0))) : w'.ownsRow base ty 1 v n xs :=
  own_frm (S := fun i => r = some i) h (Frm.grown hg (fun k hk => hk)) (fun i cur m hi e => by
    obtain ⟨t, c, ht, hh⟩ := hr i hi
    rw [hh] at e
    simp at e
    exact ht e.2.1)
end Go.Proofs.Ytecmfpgccmmlpaa
