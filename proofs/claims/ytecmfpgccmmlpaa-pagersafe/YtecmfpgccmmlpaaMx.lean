/- a disk in memory -/
import Derived.Test.YtecmfpgccmmlpaaK
import Derived.Maps.OwnSet
import Derived.Maps.Range
namespace Go.Proofs.Ytecmfpgccmmlpaa
open Go.RowKit
open Go.Maps (Keyed has size)
variable {X : Nat → Prop}
/-- noughts behind -/
def fullN (N : Nat) (l : List Nat) : List Nat := l ++ List.replicate (N - l.length) 0
def full (l : List Nat) : List Nat := fullN 4096 l
theorem fullN_length {N : Nat} {l : List Nat} (h : l.length ≤ N) : (fullN N l).length = N := by simp [fullN]; omega
theorem fullN_lt {N : Nat} {l : List Nat} (h : ∀ x ∈ l, x < 256) : ∀ x ∈ fullN N l, x < 256 := by
  intro x hx
  rcases List.mem_append.1 hx with hx | hx
  · exact h x hx
  · have := List.eq_of_mem_replicate hx; omega
theorem full_length {l : List Nat} (h : l.length ≤ 4096) : (full l).length = 4096 := fullN_length h
theorem full_lt {l : List Nat} (h : ∀ x ∈ l, x < 256) : ∀ x ∈ full l, x < 256 := fullN_lt h
theorem hsz5 : (Try.prog.info? 5).map (·.size) = some 1 := by kernel_rfl
theorem bv_zeros (n : Nat) : bv (List.replicate n 0) = zeros n := by simp [bv, zeros]
theorem cp_wholeN {N : Nat} (hN : N ≤ maxLen) {W : World} {q : Nat} {src : Option Addr} {len cap : Nat} {l : List Nat} (hq : W.heap[q]? = some (.cells (zeros N).toArray 5 (0, 0))) (hb : IsB W src len cap l) (hn : len ≤ N) :
    ∃ W', (Builtin.copy_ #[25, 25] 3 #[.slice (some ⟨q, 0, none⟩) N N, .slice src len cap]).run Try.prog W = .ok (.int .i64 (len : Int)) W' ∧ Row W' q N N (fullN N l) ∧ (∀ k, k ≠ q → W'.heap[k]? = W.heap[k]?) ∧ W'.os = W.os ∧ W'.tape = W.tape ∧ W'.output = W.output ∧ W'.heap.size = W.heap.size := by
  obtain ⟨h1, h2, h3, h4, h5⟩ := id hb
  by_cases h0 : len = 0
  · subst h0
    obtain rfl : l = [] := List.length_eq_zero_iff.1 h1
    refine ⟨W, run_copy_none W 25 25 3 5 _ _ N N 0 cap Try.underlying25 hsz5 (Nat.zero_min _), ⟨by simp [fullN], Nat.le_refl _, hN, _, hq, by simp [zeros], ?_⟩, fun _ _ => rfl, rfl, rfl, rfl, rfl⟩
    have e : fullN N [] = List.replicate N 0 := by simp [fullN]
    rw [e, bv_zeros, List.toList_toArray, List.take_of_length_le (by simp [zeros])]
  · obtain ⟨b, off, rfl, hlt, hc⟩ := h5.resolve_left (fun h => h0 h.1)
    have hr := run_copy_row (P := Try.prog) W 25 25 3 5 q 0 N N ⟨b, off, none⟩ len cap (zeros N).toArray 5 (bv l) Try.underlying25 hsz5 hq (by rw [bv_length, h1]; exact (Nat.min_eq_left hn).symm) hb.src (by rw [bv_length, h1]; simp [zeros]; omega) (bv_one l)
    have e : ((zeros N).toArray.toList.take 0 ++ bv l ++ (zeros N).toArray.toList.drop (0 + (bv l).length)) = bv (fullN N l) := by
      rw [fullN, bv_append, bv_zeros, bv_length]
      simp [zeros]
    rw [e, bv_length, h1] at hr
    refine ⟨_, hr, row_setRow hq (fullN_length (by omega)) hN, fun k hk => setRow_other W q k _ hk, rfl, rfl, rfl, by simp [World.setRow]⟩
theorem cp_whole {W : World} {q : Nat} {src : Option Addr} {len cap : Nat} {l : List Nat} (hq : W.heap[q]? = some (.cells (zeros 4096).toArray 5 (0, 0))) (hb : IsB W src len cap l) (hn : len ≤ 4096) :
    ∃ W', (Builtin.copy_ #[25, 25] 3 #[.slice (some ⟨q, 0, none⟩) 4096 4096, .slice src len cap]).run Try.prog W = .ok (.int .i64 (len : Int)) W' ∧ Row W' q 4096 4096 (full l) ∧ (∀ k, k ≠ q → W'.heap[k]? = W.heap[k]?) ∧ W'.os = W.os ∧ W'.tape = W.tape ∧ W'.output = W.output ∧ W'.heap.size = W.heap.size :=
  cp_wholeN (by unfold maxLen; omega) hq hb hn
/-- disk.whole -/
theorem whole_any (a : Option Addr) (len cap : Nat) (l : List Nat) (w : World) (h : IsB w a len cap l) (hn : len ≤ 4096) :
    Calls Try.prog 74 #[.slice a len cap] w fun e w' => ∃ q, e = .returned (.slice (some ⟨q, 0, none⟩) 4096 4096) ∧ w.heap.size ≤ q ∧ Row w' q 4096 4096 (full l) ∧ Below w.heap.size w w' := by
  have hmk : ∀ W : World, (Instr.makeSlice 25 (.int .i64 4096) (.int .i64 4096)).run Try.prog W = .ok (.slice (some ⟨W.heap.size, 0, none⟩) 4096 4096) (W.alloc (.cells (zeros 4096).toArray 5)) := fun W => run_mk W 4096 4096 (Nat.le_refl _) (by omega)
  have hq : (w.alloc (.cells (zeros 4096).toArray 5)).heap[w.heap.size]? = some (.cells (zeros 4096).toArray 5 (0, 0)) := heap_alloc_new w _
  have hB := h.below ((Below.refl _ w).alloc (Nat.le_refl _) (.cells (zeros 4096).toArray 5))
  obtain ⟨W', hcp, hrow, hblk, h1, h2, h3, h4⟩ := cp_whole hq hB hn
  have HB : Hid (Below w.heap.size w W') := hide ⟨h1, h2, h3, by rw [h4]; simp, fun k hk => (hblk k (by omega)).trans (Below.heap_alloc _ _ _ hk)⟩
  have HR := hide hrow
  clear hq hB hrow hblk h1 h2 h3 h4
  go_enter Try.func74, Try.ntmps74
  go_wp2
  go_ret
  exact ⟨_, rfl, Nat.le_refl _, HR.out, HB.out⟩
/-- which blocks may have turned -/
structure Frm (S : Nat → Prop) (w w' : World) : Prop where
  os : w'.os = w.os
  tape : w'.tape = w.tape
  output : w'.output = w.output
  size : w.heap.size ≤ w'.heap.size
  block : ∀ i, i < w.heap.size → ¬ S i → w'.heap[i]? = w.heap[i]?
theorem Frm.refl (S : Nat → Prop) (w : World) : Frm S w w := ⟨rfl, rfl, rfl, Nat.le_refl _, fun _ _ _ => rfl⟩
theorem Frm.trans {S : Nat → Prop} {a b c : World} (h : Frm S a b) (k : Frm S b c) : Frm S a c :=
  ⟨k.os.trans h.os, k.tape.trans h.tape, k.output.trans h.output, Nat.le_trans h.size k.size, fun i hi hs => (k.block i (Nat.lt_of_lt_of_le hi h.size) hs).trans (h.block i hi hs)⟩
theorem Frm.mono {S T : Nat → Prop} {a b : World} (h : Frm S a b) (hs : ∀ i, i < a.heap.size → S i → T i) : Frm T a b :=
  ⟨h.os, h.tape, h.output, h.size, fun i hi ht => h.block i hi (fun e => ht (hs i hi e))⟩
theorem Frm.below {S : Nat → Prop} {a b : World} (h : Below a.heap.size a b) : Frm S a b := ⟨h.os, h.tape, h.output, h.size, fun i hi _ => h.block i hi⟩
theorem Frm.grown {S : Nat → Prop} {a b : World} {r : Option Nat} (h : a.grownBy b r) (hr : ∀ k, r = some k → S k) : Frm S a b :=
  ⟨h.os, h.tape, h.output, h.size, fun i hi hs => h.block i hi (fun e => hs (hr i e.symm))⟩
theorem Frm.toBelow {S : Nat → Prop} {a b : World} {B : Nat} (h : Frm S a b) (hB : B ≤ a.heap.size) (hs : ∀ i, S i → B ≤ i) : Below B a b :=
  ⟨h.os, h.tape, h.output, h.size, fun k hk => h.block k (by omega) (fun e => by have := hs k e; omega)⟩
theorem Frm.drewN {S : Nat → Prop} {a b : World} (h : Frm S a b) (n : Nat) : Frm S a (b.drewN n) := ⟨h.os, h.tape, h.output, h.size, h.block⟩
theorem Frm.alloc {S : Nat → Prop} {a b : World} (h : Frm S a b) (o : Obj) : Frm S a (b.alloc o) := h.trans (Frm.below ((Below.refl _ _).alloc (Nat.le_refl _) _))
theorem Frm.set {S : Nat → Prop} {a b : World} (h : Frm S a b) {g j : Nat} (hg : S g) (v : Value) : Frm S a (b.setCell ⟨g, j, none⟩ v) :=
  h.trans (Frm.grown (grown_set (World.grownBy.refl _ _) v) (fun k hk => by cases hk; exact hg))
/-- rows of bytes are as they were -/
def K5 (w w' : World) : Prop := ∀ (b : Nat) (cur : Array Value) (m : Nat × Nat), w.heap[b]? = some (.cells cur 5 m) → w'.heap[b]? = some (.cells cur 5 m)
theorem heap_lt {w : World} {b : Nat} {o : Obj} (h : w.heap[b]? = some o) : b < w.heap.size := by
  by_cases hb : b < w.heap.size
  · exact hb
  · rw [Array.getElem?_eq_none (by omega)] at h; cases h
theorem K5.of_frm {S : Nat → Prop} {w w' : World} (h : Frm S w w') (hs : ∀ i cur m, S i → w.heap[i]? ≠ some (.cells cur 5 m)) : K5 w w' := fun b cur m hb => (h.block b (heap_lt hb) (fun e => hs b cur m e hb)).trans hb
abbrev NoX : Nat → Prop := fun _ => False
/-- what a sector holds: bytes that nobody writes any more -/
def Dat (X : Nat → Prop) (w : World) (v : Value) (l : List Nat) : Prop := ∃ a len cap, v = .slice a len cap ∧ IsB w a len cap l ∧ len ≤ 4096 ∧ (0 < len → ∀ b off, a = some ⟨b, off, none⟩ → (∃ cur m, w.heap[b]? = some (.cells cur 5 m)) ∧ ¬ X b)
theorem Dat.kept {w w' : World} {v : Value} {l : List Nat} (h : Dat X w v l) (hk : K5 w w') : Dat X w' v l := by
  obtain ⟨a, len, cap, rfl, hB, hl, h5⟩ := h
  refine ⟨a, len, cap, rfl, ?_, hl, fun h0 b off hb => ?_⟩
  · obtain ⟨h1, h2, h3, h4, h6⟩ := hB
    refine ⟨h1, h2, h3, h4, ?_⟩
    rcases h6 with h6 | ⟨b, off, rfl, hlt, hc⟩
    · exact .inl h6
    · by_cases h0 : len = 0
      · exact .inl ⟨h0, by intro h; cases h⟩
      · obtain ⟨⟨cur, m, hb⟩, _⟩ := h5 (by omega) b off rfl
        have hb' := hk b cur m hb
        exact .inr ⟨b, off, rfl, heap_lt hb', fun i hi => (World.cell?_of_block (hb'.trans hb.symm)).trans (hc i hi)⟩
  · obtain ⟨⟨cur, m, hb'⟩, hnx⟩ := h5 h0 b off hb
    exact ⟨⟨cur, m, hk b cur m hb'⟩, hnx⟩
theorem dat_nil (w : World) : Dat X w (.slice none 0 0) [] := ⟨none, 0, 0, rfl, isB_nil w, by omega, by omega⟩
/-- the reader of the map's elements hands the value itself over -/
def heldR (v : Value) : Option (DataW Value × List MemPlace) := some (.held v, [])
theorem kint : Keyed Try.prog 3 := Go.Maps.int_keyed Try.underlying3
def ky (k : Nat) : Lit := .int .i64 (k : Int)
theorem ky_inj {j k : Nat} (h : ky j = ky k) : j = k := by simp [ky] at h; omega
theorem key_wf (k : Nat) (h : k < 4096) : (Lit.int .i64 (k : Int)).wf = true := by
  have h1 : IntKind.i64.min = -9223372036854775808 := rfl
  have h2 : IntKind.i64.max = 9223372036854775807 := rfl
  simp [Lit.wf, h1, h2]; omega
theorem keyOf_ky (k : Nat) (h : k < 4096) : keyOf Try.prog 3 (.int .i64 (k : Int)) = some (ky k) := Go.Maps.keyOf_int_mk Try.underlying3 (key_wf k h)
/-- a disk, as the document has it -/
structure St where
  syn : Nat → List Nat
  fr : Nat → Option (List Nat)
  wr : Nat
  arm : Bool
  left : Nat
  down : Bool
  xs : Nat
/-- the row of what is synced: its length, and nothing behind -/
def Rest0 (n xs : Nat) (cur : Array Value) : Prop := cur.size = n + xs ∧ ∀ i v, n ≤ i → cur[i]? = some v → v = .slice none 0 0
theorem Rest0.set {n xs : Nat} {cur : Array Value} {k : Nat} {v : Value} (h : Rest0 n xs cur) (hk : k < n) : Rest0 n xs (cur.setIfInBounds k v) := by
  refine ⟨by simp [h.1], fun i u hi hu => h.2 i u hi ?_⟩
  rw [Array.getElem?_setIfInBounds_ne (by omega)] at hu
  exact hu
theorem Rest0.lt {n xs i : Nat} {cur : Array Value} (h : Rest0 n xs cur) (hi : i < n) : i < cur.size := by rw [h.1]; omega
/-- what the map of what was written reads as -/
def FrD (X : Nat → Prop) (w : World) (D : DataW Value) (n : Nat) (f : Nat → Option (List Nat)) : Prop :=
  (∀ k, k < n → (f k = none ∧ has D (ky k) = false) ∨ ∃ l v, f k = some l ∧ has D (ky k) = true ∧ Dat X w v l ∧ ∀ z, D.atKey (ky k) z = .held v) ∧ ∀ kl, has D kl = true → ∃ k, k < n ∧ kl = ky k
structure IsD (X : Nat → Prop) (w : World) (g gs b n : Nat) (st : St) : Prop where
  n0 : 0 < n
  n1 : n ≤ 1024
  blk : w.heap[g]? = some (.cells #[.slice (some ⟨gs, 0, none⟩) n (n + st.xs), .map (some b), .int .i64 (st.wr : Nat), .bool st.arm, .int .i64 (st.left : Nat), .bool st.down] 68 (0, 0))
  syn : ∃ cur : Array Value, w.heap[gs]? = some (.cells cur 25 (0, 0)) ∧ Rest0 n st.xs cur ∧ ∀ i, i < n → ∃ v, cur[i]? = some v ∧ Dat X w v (st.syn i)
  map : ∃ (m : Nat) (D : DataW Value), w.ownsMap Try.prog 3 heldR b m D ∧ m ≤ st.wr ∧ FrD X w D n st.fr
  wr : st.wr ≤ 4611686018427387904
  left : st.left ≤ 9223372036854775807
  xb : ∀ i, X i → i < w.heap.size
/-- the blocks of a disk -/
def SD (g gs b : Nat) (i : Nat) : Prop := i = g ∨ i = gs ∨ i = b
theorem IsD.map_blk {w : World} {g gs b n : Nat} {st : St} (h : IsD X w g gs b n st) : ∃ es clock, w.heap[b]? = some (.map es clock) := by
  obtain ⟨m, D, ⟨es, clock, hb, _⟩, _⟩ := h.map
  exact ⟨es, clock, hb⟩
theorem IsD.no5 {w : World} {g gs b n : Nat} {st : St} (h : IsD X w g gs b n st) : ∀ i cur m, SD g gs b i → w.heap[i]? ≠ some (.cells cur 5 m) := by
  rintro i _ _ (rfl | rfl | rfl) e
  · rw [h.blk] at e; simp at e
  · obtain ⟨c, hc, _⟩ := h.syn; rw [hc] at e; simp at e
  · obtain ⟨es, clock, hb⟩ := h.map_blk; rw [hb] at e; cases e
theorem IsD.ne {w : World} {g gs b n : Nat} {st : St} (h : IsD X w g gs b n st) : g ≠ gs ∧ g ≠ b ∧ gs ≠ b := by
  obtain ⟨c, hc, _⟩ := h.syn
  obtain ⟨es, clock, hb⟩ := h.map_blk
  refine ⟨?_, ?_, ?_⟩
  · rintro rfl; rw [h.blk] at hc; simp at hc
  · rintro rfl; rw [h.blk] at hb; cases hb
  · rintro rfl; rw [hc] at hb; cases hb
theorem FrD.kept {w w' : World} {D : DataW Value} {n : Nat} {f : Nat → Option (List Nat)} (h : FrD X w D n f) (hk : K5 w w') : FrD X w' D n f := by
  refine ⟨fun k hk' => ?_, h.2⟩
  rcases h.1 k hk' with h1 | ⟨l, v, h1, h2, h3, h4⟩
  · exact .inl h1
  · exact .inr ⟨l, v, h1, h2, h3.kept hk, h4⟩
/-- a world in which at most the disk's own record has turned -/
theorem IsD.upd {w w' : World} {g gs b n : Nat} {st st' : St} (h : IsD X w g gs b n st) (hf : Frm (fun i => i = g) w w') (hb : w'.heap[g]? = some (.cells #[.slice (some ⟨gs, 0, none⟩) n (n + st'.xs), .map (some b), .int .i64 (st'.wr : Nat), .bool st'.arm, .int .i64 (st'.left : Nat), .bool st'.down] 68 (0, 0)))
    (e1 : st'.syn = st.syn) (e2 : st'.fr = st.fr) (e3 : st.wr ≤ st'.wr) (e4 : st'.wr ≤ 4611686018427387904) (e5 : st'.left ≤ 9223372036854775807) (e6 : st'.xs = st.xs := by rfl) : IsD X w' g gs b n st' := by
  have hk : K5 w w' := K5.of_frm hf (fun i cur m hi => h.no5 i cur m (.inl hi))
  obtain ⟨n1, n2, n3⟩ := h.ne
  obtain ⟨cur, hc, hsz, hd⟩ := h.syn
  obtain ⟨m, D, ⟨es, clock, hes, hfit, hle, hD⟩, hm, hfr⟩ := h.map
  refine ⟨h.n0, h.n1, hb, ⟨cur, (hf.block gs (heap_lt hc) (Ne.symm n1)).trans hc, by rw [e6]; exact hsz, fun i hi => ?_⟩, ⟨m, D, ⟨es, clock, (hf.block b (heap_lt hes) (Ne.symm n2)).trans hes, hfit, hle, hD⟩, Nat.le_trans hm e3, by rw [e2]; exact hfr.kept hk⟩, e4, e5, fun i hi => Nat.lt_of_lt_of_le (h.xb i hi) hf.size⟩
  obtain ⟨v, hv, hdv⟩ := hd i hi
  exact ⟨v, hv, by rw [e1]; exact hdv.kept hk⟩
/-- .. or none of its blocks -/
theorem IsD.kept {w w' : World} {g gs b n : Nat} {st : St} {S : Nat → Prop} (h : IsD X w g gs b n st) (hf : Frm S w w') (hs : ∀ i, S i → ¬ SD g gs b i) (h5 : K5 w w') : IsD X w' g gs b n st := by
  obtain ⟨cur, hc, hsz, hd⟩ := h.syn
  obtain ⟨m, D, ⟨es, clock, hes, hfit, hle, hD⟩, hm, hfr⟩ := h.map
  refine ⟨h.n0, h.n1, (hf.block g (heap_lt h.blk) (fun e => hs g e (.inl rfl))).trans h.blk, ⟨cur, (hf.block gs (heap_lt hc) (fun e => hs gs e (.inr (.inl rfl)))).trans hc, hsz, fun i hi => ?_⟩, ⟨m, D, ⟨es, clock, (hf.block b (heap_lt hes) (fun e => hs b e (.inr (.inr rfl)))).trans hes, hfit, hle, hD⟩, hm, hfr.kept h5⟩, h.wr, h.left, fun i hi => Nat.lt_of_lt_of_le (h.xb i hi) hf.size⟩
  obtain ⟨v, hv, hdv⟩ := hd i hi
  exact ⟨v, hv, hdv.kept h5⟩
theorem K5.below {w w' : World} (h : Below w.heap.size w w') : K5 w w' := fun b _ _ hb => (h.block b (heap_lt hb)).trans hb
theorem IsD.below {w w' : World} {g gs b n : Nat} {st : St} (h : IsD X w g gs b n st) (hb : Below w.heap.size w w') : IsD X w' g gs b n st :=
  h.kept (S := fun _ => False) (Frm.below hb) (fun _ e => e.elim) (K5.below hb)
theorem IsD.drewN {w : World} {g gs b n : Nat} {st : St} (h : IsD X w g gs b n st) (m : Nat) : IsD X (w.drewN m) g gs b n st := h.below (below_drewN (Below.refl _ _) m)
/-- the record's cells -/
structure Cells (w : World) (g gs b n : Nat) (st : St) : Prop where
  c0 : w.cell? ⟨g, 0, none⟩ = some (.slice (some ⟨gs, 0, none⟩) n (n + st.xs))
  c1 : w.cell? ⟨g, 1, none⟩ = some (.map (some b))
  c2 : w.cell? ⟨g, 2, none⟩ = some (.int .i64 (st.wr : Nat))
  c3 : w.cell? ⟨g, 3, none⟩ = some (.bool st.arm)
  c4 : w.cell? ⟨g, 4, none⟩ = some (.int .i64 (st.left : Nat))
  c5 : w.cell? ⟨g, 5, none⟩ = some (.bool st.down)
  fz : ∀ j, w.frozen? ⟨g, j, none⟩ = false
theorem IsD.cells {w : World} {g gs b n : Nat} {st : St} (h : IsD X w g gs b n st) : Cells w g gs b n st := by
  have hb := h.blk
  refine ⟨?_, ?_, ?_, ?_, ?_, ?_, fun j => ?_⟩ <;> first | (simp [World.cell?, hb]; done) | simp [World.frozen?, hb]
theorem blk_set {w : World} {g j : Nat} {cs : Array Value} {t : TypeId} {m : Nat × Nat} (h : w.heap[g]? = some (.cells cs t m)) (v : Value) : (w.setCell ⟨g, j, none⟩ v).heap[g]? = some (.cells (cs.setIfInBounds j v) t m) := by
  simp [World.setCell, Array.getElem?_modify, h]
/-- (*Disk).ready -/
theorem ready_up (w : World) (g gs b n : Nat) (st : St) (h : IsD X w g gs b n st) (hd : st.down = false) :
    Calls Try.prog 51 #[.pointer (some ⟨g, 0, none⟩)] w fun e w' => e = .returned (.int .i64 0) ∧ w' = w := by
  have c5 := h.cells.c5
  rw [hd] at c5
  clear h hd
  go_enter Try.func51, Try.ntmps51
  go_wp2
  go_ret
  exact ⟨rfl, rfl⟩
theorem ready_dn (w : World) (g gs b n : Nat) (st : St) (h : IsD X w g gs b n st) (hd : st.down = true) :
    Calls Try.prog 51 #[.pointer (some ⟨g, 0, none⟩)] w fun e w' => e = .returned (.int .i64 8) ∧ w' = w := by
  have c5 := h.cells.c5
  rw [hd] at c5
  clear h hd
  go_enter Try.func51, Try.ntmps51
  go_wp2
  go_ret
  exact ⟨rfl, rfl⟩
theorem ready_nil (w : World) : Calls Try.prog 51 #[.pointer none] w fun e w' => e = .returned (.int .i64 1) ∧ w' = w := by
  go_enter Try.func51, Try.ntmps51
  go_wp2
  go_ret
  exact ⟨rfl, rfl⟩
/-- whether there is a sector -/
def hasB (n : Nat) (i : Int) : Bool := decide (0 ≤ i ∧ i < n)
theorem hasB_true {n : Nat} {i : Int} (h0 : 0 ≤ i) (h1 : i < n) : hasB n i = true := decide_eq_true ⟨h0, h1⟩
theorem hasB_false {n : Nat} {i : Int} (h : ¬ (0 ≤ i ∧ i < n)) : hasB n i = false := decide_eq_false h
/-- (*Disk).has -/
theorem has_any (w : World) (g gs b n : Nat) (st : St) (h : IsD X w g gs b n st) (i : Int) :
    Calls Try.prog 116 #[.pointer (some ⟨g, 0, none⟩), .int .i64 i] w fun e w' => e = .returned (.bool (hasB n i)) ∧ w' = w := by
  have c0 := h.cells.c0
  have hn1 := h.n1
  clear h
  by_cases h0 : 0 ≤ i
  · by_cases h1 : i < n
    · have HD := hide (hasB_true h0 h1)
      have d1 : decide (i < (n : Int)) = true := decide_eq_true h1
      go_enter Try.func116, Try.ntmps116
      go_wp2
      go_ret
      exact ⟨by rw [HD.out]; rfl, rfl⟩
    · have HD := hide (hasB_false (n := n) (i := i) (fun h => h1 h.2))
      have d1 : decide (i < (n : Int)) = false := decide_eq_false h1
      go_enter Try.func116, Try.ntmps116
      go_wp2
      go_ret
      exact ⟨by rw [HD.out]; rfl, rfl⟩
  · have HD := hide (hasB_false (n := n) (i := i) (fun h => h0 h.1))
    go_enter Try.func116, Try.ntmps116
    go_wp2
    go_ret
    exact ⟨by rw [HD.out]; rfl, rfl⟩
def St.cuts (st : St) : St := { st with down := true }
/-- (*Disk).Cut -/
theorem cut_up (w : World) (g gs b n : Nat) (st : St) (h : IsD X w g gs b n st) (hd : st.down = false) :
    Calls Try.prog 20 #[.pointer (some ⟨g, 0, none⟩)] w fun e w' => e = .returned (.int .i64 0) ∧ IsD X w' g gs b n st.cuts ∧ Frm (SD g gs b) w w' := by
  have RD := hide (ready_up w g gs b n st h hd)
  have c5 := h.cells.c5
  have fz := h.cells.fz 5
  have HI : Hid (IsD X (w.setCell ⟨g, 5, none⟩ (.bool true)) g gs b n st.cuts) := hide (h.upd (Frm.set (S := fun i => i = g) (Frm.refl _ _) rfl _) (by rw [blk_set h.blk]; rfl) rfl rfl (Nat.le_refl _) h.wr h.left)
  have HF : Hid (Frm (SD g gs b) w (w.setCell ⟨g, 5, none⟩ (.bool true))) := hide (Frm.set (Frm.refl _ _) (.inl rfl) _)
  clear h hd
  go_enter Try.func20, Try.ntmps20
  go_wp2_with fail
  refine RD.out.mono ?_
  rintro e w' ⟨rfl, rfl⟩
  go_wp2
  go_ret
  exact ⟨rfl, HI.out, HF.out⟩
theorem cut_dn (w : World) (g gs b n : Nat) (st : St) (h : IsD X w g gs b n st) (hd : st.down = true) :
    Calls Try.prog 20 #[.pointer (some ⟨g, 0, none⟩)] w fun e w' => e = .returned (.int .i64 8) ∧ w' = w := by
  have RD := hide (ready_dn w g gs b n st h hd)
  clear h hd
  go_enter Try.func20, Try.ntmps20
  go_wp2_with fail
  refine RD.out.mono ?_
  rintro e w' ⟨rfl, rfl⟩
  go_wp2
  go_ret
  exact ⟨rfl, rfl⟩
theorem cut_nil (w : World) : Calls Try.prog 20 #[.pointer none] w fun e w' => e = .returned (.int .i64 1) ∧ w' = w := by
  go_enter Try.func20, Try.ntmps20
  go_wp2_with fail
  refine (ready_nil w).mono ?_
  rintro e w' ⟨rfl, rfl⟩
  go_wp2
  go_ret
  exact ⟨rfl, rfl⟩
def St.arms (st : St) (c : Int) : St := { st with arm := decide (0 ≤ c), left := c.toNat }
/-- (*Disk).Arm -/
theorem arm_up (w : World) (g gs b n : Nat) (st : St) (h : IsD X w g gs b n st) (hd : st.down = false) (c : Int) (hc : c ≤ 9223372036854775807) :
    Calls Try.prog 19 #[.pointer (some ⟨g, 0, none⟩), .int .i64 c] w fun e w' => e = .returned (.int .i64 0) ∧ IsD X w' g gs b n (st.arms c) ∧ Frm (SD g gs b) w w' := by
  have RD := hide (ready_up w g gs b n st h hd)
  have c3 := h.cells.c3
  have c4 := h.cells.c4
  have f3 := h.cells.fz 3
  have f4 := h.cells.fz 4
  have HI : Hid (IsD X ((w.setCell ⟨g, 3, none⟩ (.bool (decide (0 ≤ c)))).setCell ⟨g, 4, none⟩ (.int .i64 (c.toNat : Nat))) g gs b n (st.arms c)) := hide (h.upd (Frm.set (S := fun i => i = g) (Frm.set (S := fun i => i = g) (Frm.refl _ _) rfl _) rfl _) (by rw [blk_set (blk_set h.blk _)]; rfl) rfl rfl (Nat.le_refl _) h.wr (by simp only [St.arms]; omega))
  have HF : Hid (Frm (SD g gs b) w ((w.setCell ⟨g, 3, none⟩ (.bool (decide (0 ≤ c)))).setCell ⟨g, 4, none⟩ (.int .i64 (c.toNat : Nat)))) := hide (Frm.set (Frm.set (Frm.refl _ _) (.inl rfl) _) (.inl rfl) _)
  clear h hd
  by_cases h0 : 0 ≤ c
  · have hm : ((c.toNat : Nat) : Int) = c := by omega
    rw [decide_eq_true h0, hm] at HI HF
    clear hm
    go_enter Try.func19, Try.ntmps19
    go_wp2_with fail
    refine RD.out.mono ?_
    rintro e w' ⟨rfl, rfl⟩
    go_wp2
    go_ret
    exact ⟨rfl, HI.out, HF.out⟩
  · have hm : ((c.toNat : Nat) : Int) = 0 := by omega
    rw [decide_eq_false h0, hm] at HI HF
    have d0 : decide (0 ≤ c) = false := decide_eq_false h0
    clear hm
    go_enter Try.func19, Try.ntmps19
    go_wp2_with fail
    refine RD.out.mono ?_
    rintro e w' ⟨rfl, rfl⟩
    go_wp2
    go_ret
    exact ⟨rfl, HI.out, HF.out⟩
theorem arm_dn (w : World) (g gs b n : Nat) (st : St) (h : IsD X w g gs b n st) (hd : st.down = true) (c : Int) :
    Calls Try.prog 19 #[.pointer (some ⟨g, 0, none⟩), .int .i64 c] w fun e w' => e = .returned (.int .i64 8) ∧ w' = w := by
  have RD := hide (ready_dn w g gs b n st h hd)
  clear h hd
  go_enter Try.func19, Try.ntmps19
  go_wp2_with fail
  refine RD.out.mono ?_
  rintro e w' ⟨rfl, rfl⟩
  go_wp2
  go_ret
  exact ⟨rfl, rfl⟩
theorem arm_nil (w : World) (c : Int) : Calls Try.prog 19 #[.pointer none, .int .i64 c] w fun e w' => e = .returned (.int .i64 1) ∧ w' = w := by
  go_enter Try.func19, Try.ntmps19
  go_wp2_with fail
  refine (ready_nil w).mono ?_
  rintro e w' ⟨rfl, rfl⟩
  go_wp2
  go_ret
  exact ⟨rfl, rfl⟩
/-- (*Disk).Down, Writes, Sectors -/
theorem down_any (w : World) (g gs b n : Nat) (st : St) (h : IsD X w g gs b n st) :
    Calls Try.prog 22 #[.pointer (some ⟨g, 0, none⟩)] w fun e w' => e = .returned (.bool st.down) ∧ w' = w := by
  have c5 := h.cells.c5
  clear h
  generalize st.down = d at *
  go_enter Try.func22, Try.ntmps22
  go_wp2
  go_ret
  exact ⟨rfl, rfl⟩
theorem down_nil (w : World) : Calls Try.prog 22 #[.pointer none] w fun e w' => e = .returned (.bool false) ∧ w' = w := by
  go_enter Try.func22, Try.ntmps22
  go_wp2
  go_ret
  exact ⟨rfl, rfl⟩
theorem sectors_any (w : World) (g gs b n : Nat) (st : St) (h : IsD X w g gs b n st) :
    Calls Try.prog 40 #[.pointer (some ⟨g, 0, none⟩)] w fun e w' => e = .returned (.int .i64 (n : Nat)) ∧ w' = w := by
  have c0 := h.cells.c0
  clear h
  go_enter Try.func40, Try.ntmps40
  go_wp2
  go_ret
  exact ⟨rfl, rfl⟩
theorem sectors_nil (w : World) : Calls Try.prog 40 #[.pointer none] w fun e w' => e = .returned (.int .i64 0) ∧ w' = w := by
  go_enter Try.func40, Try.ntmps40
  go_wp2
  go_ret
  exact ⟨rfl, rfl⟩
end Go.Proofs.Ytecmfpgccmmlpaa
