/- bytes in memory: the kit of this seat -/
import Derived.Test.YtecmfpgccmmlpaaRows
import Derived.WalkKit
import Derived.WalkSpells
import Derived.WalkLawsBesides
import Derived.Outline
import Derived.Laws.CopyOwn
import Derived.Laws.AppendOwnNone
import Derived.Deep.DeepAppendRoom
import Derived.OpenShut
import Derived.Deep.QuietTactic
import Derived.BigQuiet
import Derived.Deep.RegionWith
import Derived.Deep.RegionLaw
import Derived.Deep.RegionHeldLaw
import Derived.Lib.SlBytesConst
import Derived.Laws.BytesArg
namespace Go.Proofs.Ytecmfpgccmmlpaa
open Go.RowKit
theorem hide {p : Prop} (h : p) : Hid p := h
/-- a slice of bytes reads as l -/
def IsB (w : World) (a : Option Addr) (len cap : Nat) (l : List Nat) : Prop :=
  l.length = len ∧ len ≤ cap ∧ cap ≤ maxLen ∧ (∀ x ∈ l, x < 256) ∧ (len = 0 ∧ (a = none → cap = 0) ∨ ∃ b off, a = some ⟨b, off, none⟩ ∧ b < w.heap.size ∧ ∀ i, i < len → w.cell? ⟨b, off + i, none⟩ = some (.int .u8 (l.getD i 0 : Nat)))
theorem getD_lt (l : List Nat) (k : Nat) (hx : ∀ x ∈ l, x < 256) : l.getD k 0 < 256 := by
  rw [List.getD_eq_getElem?_getD]
  by_cases h : k < l.length
  · rw [List.getElem?_eq_getElem h]; exact hx _ (List.getElem_mem h)
  · rw [List.getElem?_eq_none (by omega)]; decide
theorem mem_take {l : List Nat} {k : Nat} (hx : ∀ x ∈ l, x < 256) : ∀ x ∈ l.take k, x < 256 := fun x h => hx x (List.mem_of_mem_take h)
def bv (l : List Nat) : List Value := l.map fun x => Value.int .u8 (x : Nat)
theorem bv_length (l : List Nat) : (bv l).length = l.length := by simp [bv]
theorem bv_append (l m : List Nat) : bv (l ++ m) = bv l ++ bv m := by simp [bv]
theorem bv_get (l : List Nat) (i : Nat) (h : i < l.length) : (bv l)[i]? = some (.int .u8 (l.getD i 0 : Nat)) := by
  simp [bv, List.getElem?_eq_getElem h]
theorem bv_one (l : List Nat) : ∀ u ∈ bv l, u.oneCell' = true := by
  intro u hu; simp only [bv, List.mem_map] at hu; obtain ⟨x, _, rfl⟩ := hu; rfl
theorem owns_isB {w : World} {base : Nat} {v : Value} {n : Nat} {l : List Nat} (h : w.ownsRow base 5 1 v n (bv l)) (hl : ∀ x ∈ l, x < 256) :
    ∃ a cap, v = .slice a n cap ∧ IsB w a n cap l := by
  obtain ⟨h1, h2⟩ := h
  rw [bv_length, Nat.mul_one] at h1
  rcases h2 with ⟨rfl, rfl⟩ | ⟨g, cap, cur, rfl, hb, hg, hn, hc, hs, ht⟩
  · exact ⟨none, 0, rfl, h1, Nat.le_refl _, Nat.zero_le _, hl, .inl ⟨rfl, fun _ => rfl⟩⟩
  · refine ⟨_, cap, rfl, h1, hn, hc, hl, .inr ⟨g, 0, rfl, ?_, ?_⟩⟩
    · by_cases h : g < w.heap.size
      · exact h
      · rw [Array.getElem?_eq_none (by omega)] at hg; cases hg
    · intro i hi
      have hv := bv_get l i (by omega)
      rw [← ht, List.getElem?_take, if_pos (by omega)] at hv
      simp only [World.cell?, hg]
      simpa using hv
theorem Try.info5 : (Try.prog.info? 5).map (fun i => (i.zero, i.size, i.bytes)) = some (some (.int .u8 0), 1, 1) := by kernel_rfl
def zeros (n : Nat) : List Value := List.replicate n (.int .u8 0)
theorem zeros_made (n : Nat) : madeCells #[Value.int .u8 0] n = (zeros n).toArray := by
  simp [madeCells, zeros, Nat.mod_one, Array.ext_iff]
theorem run_mk (W : World) (n m : Nat) (h : n ≤ m) (hb : m ≤ 281474976710656) :
    (Instr.makeSlice 25 (.int .i64 (n : Int)) (.int .i64 (m : Int))).run Try.prog W = .ok (.slice (some ⟨W.heap.size, 0, none⟩) n m) (W.alloc (.cells (zeros m).toArray 5)) := by
  obtain ⟨i0, hi, hz0, hz1, hz2⟩ := info_parts Try.info5
  have hr := run_make (P := Try.prog) W 25 5 i0 _ Try.underlying25 hi hz0 .i64 .i64 (n : Int) (m : Int) (by omega) (by omega) (by rw [hz2]; omega) (by omega)
  rw [hr, hz1]
  simp only [Int.toNat_natCast, Nat.mul_one]
  rw [show (Value.int IntKind.u8 0).cells = #[Value.int .u8 0] from rfl, zeros_made]
theorem IsB.below {w w1 : World} {a : Option Addr} {len cap : Nat} {l : List Nat} (h : IsB w a len cap l) (hb : Below w.heap.size w w1) : IsB w1 a len cap l := by
  obtain ⟨h1, h2, h3, h4, h5⟩ := h
  refine ⟨h1, h2, h3, h4, ?_⟩
  rcases h5 with h5 | ⟨b, off, rfl, hlt, hc⟩
  · exact .inl h5
  · exact .inr ⟨b, off, rfl, Nat.lt_of_lt_of_le hlt hb.size, fun i hi => (hb.cell (p := ⟨b, off + i, none⟩) hlt).trans (hc i hi)⟩
theorem setRow_alloc (W : World) (cs ds : Array Value) (t : TypeId) : (W.alloc (.cells cs t)).setRow W.heap.size ds = W.alloc (.cells ds t) := by
  simp only [World.setRow, World.alloc]
  congr 1
  apply Array.ext_getElem?
  intro i
  rw [Array.getElem?_modify]
  by_cases h : W.heap.size = i
  · subst h; simp
  · simp [Array.getElem?_push, h, Ne.symm h]
theorem addr_add (b off j : Nat) : (⟨b, off, none⟩ : Addr).add j = ⟨b, off + j, none⟩ := by
  unfold Addr.add; by_cases h : j = 0 <;> simp [h]
theorem isB_nil (w : World) : IsB w none 0 0 [] := ⟨rfl, Nat.le_refl _, Nat.zero_le _, by simp, .inl ⟨rfl, fun _ => rfl⟩⟩
/-- append(own, b...), b whatever came in -/
theorem wpList_clone {w : World} {ops : Array Oper} {rest : List Oper} {o : Oper} {a : Act} {Q : Exit → Act → World → Prop} (hgd : o.guard = none) (s x : Operand)
    (ho : o.op = .call { callee := .builtin .append, args := #[s, x], argTypes := #[25, 25] }) (base : Nat) (v : Value) (n : Nat) (xs : List Value) (hs : a.eval s = v) (hown : w.ownsRow base 5 1 v n xs)
    (src : Option Addr) (len cap : Nat) (l : List Nat) (hx : a.eval x = .slice src len cap) (hB : IsB w src len cap l) (hb : n + len ≤ 140737488355328) (hbase : base ≤ w.heap.size)
    (B : Nat) (w0 : World) (hbel : Below B w0 w) (hB0 : B ≤ base)
    (h : ∀ v' w', w'.ownsRow base 5 1 v' (n + len) (xs ++ bv l) → Below B w0 w' → wpList Try.prog ops Q rest (a.put o.dst v') w') : wpList Try.prog ops Q (o :: rest) a w := by
  obtain ⟨i0, hi, hz0, hz1, hz2⟩ := info_parts Try.info5
  obtain ⟨h1, h2, h3, h4, h5⟩ := id hB
  have key : ∀ ad : Addr, src = some ad → (∀ j u, (bv l)[j]? = some u → w.cell? (ad.add j) = some u) → wpList Try.prog ops Q (o :: rest) a w := by
    intro ad had hsrc
    refine wpList_append_own w hgd s x 25 ho base 5 i0 (.int .u8 0) 1 1 Try.underlying25 hi hz0 hz1 hz2 rfl (by decide) v n xs hs hown ad len cap (bv l) (by rw [hx, had]) (by rw [bv_length, h1]; omega) hsrc (bv_one l) (by unfold maxLen; omega) (by omega) hbase ?_
    intro v' w' ho' hg _
    refine h v' w' ho' (hbel.grown hg (by omega) ?_)
    intro k hk
    have := (hown.lt k hk).1
    omega
  rcases h5 with ⟨h5, h6⟩ | ⟨b, off, rfl, hlt, hc⟩
  · subst h5
    obtain rfl : l = [] := List.length_eq_zero_iff.1 h1
    cases src with
    | none =>
      obtain rfl := h6 rfl
      refine wpList_append_own_none hgd s x 25 ho base 5 i0 1 Try.underlying25 hi v n xs hs hown hx ?_
      exact h v w (by simpa [bv] using hown) hbel
    | some ad => exact key ad rfl (by simp [bv])
  · refine key _ rfl ?_
    intro j u hj
    have hjl : j < l.length := by
      rw [← bv_length]
      exact (List.getElem?_eq_some_iff.1 hj).1
    rw [bv_get l j hjl] at hj
    cases hj
    rw [addr_add]
    exact hc j (by omega)
theorem owns_empty (w : World) (base : Nat) (h : base ≤ w.heap.size) : (w.alloc (.cells #[] 5)).ownsRow base 5 1 (.slice (some ⟨w.heap.size, 0, none⟩) 0 0) 0 [] :=
  World.ownsRow_made w #[] 0 h (Nat.zero_le _) rfl
theorem IsB.front {w : World} {b off len cap : Nat} {l : List Nat} (h : IsB w (some ⟨b, off, none⟩) len cap l) (n : Nat) (hn : n ≤ len) : IsB w (some ⟨b, off, none⟩) n cap (l.take n) := by
  obtain ⟨h1, h2, h3, h4, h5⟩ := h
  refine ⟨by simp; omega, by omega, h3, mem_take h4, ?_⟩
  rcases h5 with ⟨h5, _⟩ | ⟨b', off', e, hlt, hc⟩
  · exact .inl ⟨by omega, by intro h; cases h⟩
  · cases e
    refine .inr ⟨b, off, rfl, hlt, fun i hi => ?_⟩
    rw [hc i (by omega)]
    simp [List.getD_eq_getElem?_getD, hi]
theorem IsB.src {w : World} {b off len cap : Nat} {l : List Nat} (h : IsB w (some ⟨b, off, none⟩) len cap l) : ∀ j u, (bv l)[j]? = some u → w.cell? ((⟨b, off, none⟩ : Addr).add j) = some u := by
  obtain ⟨h1, h2, h3, h4, h5⟩ := h
  intro j u hj
  have hjl : j < l.length := by
    rw [← bv_length]
    exact (List.getElem?_eq_some_iff.1 hj).1
  rw [bv_get l j hjl] at hj
  cases hj
  rcases h5 with ⟨h5, _⟩ | ⟨b', off', e, hlt, hc⟩
  · omega
  · cases e
    rw [addr_add]
    exact hc j (by omega)
theorem isB_lit (W : World) (l : List Nat) (h : ∀ x ∈ l, x < 256) (hm : l.length ≤ maxLen) (m : Nat × Nat) : IsB (W.alloc (.cells (bv l).toArray 5 m)) (some ⟨W.heap.size, 0, none⟩) l.length l.length l := by
  refine ⟨rfl, Nat.le_refl _, hm, h, .inr ⟨_, 0, rfl, by simp, fun i hi => ?_⟩⟩
  have hn := heap_alloc_new W (.cells (bv l).toArray 5 m)
  simp only [World.cell?, hn]
  simpa using bv_get l i hi
def str (l : List Nat) : ByteArray := ⟨(l.map UInt8.ofNat).toArray⟩
theorem strOf (l : List Nat) : strOfNums (l.map fun x => ((x : Nat) : Int)) = str l := by
  simp [strOfNums, str, List.map_map, Function.comp_def]
theorem conv_str {w : World} {a : Option Addr} {len cap : Nat} {l : List Nat} (h : IsB w a len cap l) : (convert 25 9 (.slice a len cap)).run Try.prog w = .ok (.string (str l)) w := by
  obtain ⟨h1, h2, h3, h4, h5⟩ := h
  rcases h5 with ⟨h5, _⟩ | ⟨b, off, rfl, hlt, hc⟩
  · subst h5
    obtain rfl : l = [] := List.length_eq_zero_iff.1 h1
    cases a with
    | none => exact run_convert_bytes_nil w 25 5 Try.underlying25 Try.underlying5 0 cap 9 Try.underlying9
    | some x =>
      have hl : (loadCells x 0).run Try.prog w = .ok (([] : List Int).map (Value.int .u8)).toArray w := by simpa using run_loadCells_list (P := Try.prog) w x [] (by simp)
      rw [run_convert_bytes_string w 25 9 5 _ 0 cap Try.underlying25 Try.underlying5 Try.underlying9, run_bytesToString w _ 0 cap [] hl]
      rfl
  · have := run_convert_bytes_arg (P := Try.prog) w 25 5 Try.underlying25 Try.underlying5 b off len cap (l.map fun x => ((x : Nat) : Int)) (by simpa using h1) (fun i hi => by
      rw [hc i hi]
      have : i < l.length := by omega
      simp [List.getD_eq_getElem?_getD, List.getElem?_eq_getElem this]) 9 Try.underlying9
    rw [strOf] at this
    exact this
/-- an argument's reading, as a list of bytes -/
theorem isB_of_ints {w : World} {x : Addr} {len cap : Nat} {zs : List Int} (hl : len ≤ cap) (hm : cap ≤ maxLen) (hz : zs.length = cap) (hcell : ∀ i, i < zs.length → w.cell? (x.add i) = some (.int .u8 (zs.getD i 0)))
    (hwz : ∀ n ∈ zs, (Lit.int .u8 n).wf = true) (hlt : ∀ b off, x = ⟨b, off, none⟩ → ∀ i, i < len → b < w.heap.size) : IsB w (some x) len cap ((zs.take len).map Int.toNat) := by
  refine ⟨by simp; omega, hl, hm, ?_, ?_⟩
  · intro y hy
    simp only [List.mem_map] at hy
    obtain ⟨n, hn, rfl⟩ := hy
    have := bounds_u8 (hwz n (List.mem_of_mem_take hn))
    omega
  · by_cases h0 : len = 0
    · exact .inl ⟨h0, by intro h; cases h⟩
    · obtain ⟨b, off, spot⟩ := x
      have hspot : spot = none := by
        have := World.cell?_spot (hcell 0 (by omega))
        simpa [Addr.add] using this
      subst hspot
      refine .inr ⟨b, off, rfl, hlt b off rfl 0 (by omega), fun i hi => ?_⟩
      have hc := hcell i (by omega)
      rw [addr_add] at hc
      rw [hc]
      have hi' : i < zs.length := by omega
      have hb := bounds_u8 (hwz zs[i] (List.getElem_mem hi'))
      have e : ((zs.take len).map Int.toNat).getD i 0 = (zs[i]).toNat := by
        simp [List.getD_eq_getElem?_getD, hi, List.getElem?_eq_getElem hi']
      rw [e, List.getD_eq_getElem?_getD, List.getElem?_eq_getElem hi']
      simp only [Option.getD_some]
      rw [Int.toNat_of_nonneg hb.1]
theorem src_lit (W : World) (l : List Value) : ∀ j u, l[j]? = some u → (W.alloc (.cells l.toArray 5)).cell? ((⟨W.heap.size, 0, none⟩ : Addr).add j) = some u := by
  intro j u hj
  rw [addr_add]
  have hn := heap_alloc_new W (.cells l.toArray 5)
  simp only [World.cell?, hn]
  simpa using hj
def Row (w : World) (g len cap : Nat) (m : List Nat) : Prop :=
  m.length = len ∧ len ≤ cap ∧ cap ≤ maxLen ∧ ∃ cur : Array Value, w.heap[g]? = some (.cells cur 5 (0, 0)) ∧ cur.size = cap ∧ cur.toList.take len = bv m
theorem Row.of_owns {w : World} {base : Nat} {v : Value} {n : Nat} {m : List Nat} (h : w.ownsRow base 5 1 v n (bv m)) (hn : 0 < n) : ∃ g cap, v = .slice (some ⟨g, 0, none⟩) n cap ∧ base ≤ g ∧ Row w g n cap m := by
  obtain ⟨h1, h2⟩ := h
  rw [bv_length, Nat.mul_one] at h1
  rcases h2 with ⟨_, rfl⟩ | ⟨g, cap, cur, rfl, hb, hg, hn', hc, hs, ht⟩
  · omega
  · exact ⟨g, cap, rfl, hb, h1, hn', hc, cur, hg, by omega, by simpa using ht⟩
theorem Row.lt {w : World} {g len cap : Nat} {m : List Nat} (h : Row w g len cap m) : g < w.heap.size := by
  obtain ⟨_, _, _, cur, hg, _⟩ := h
  by_cases h : g < w.heap.size
  · exact h
  · rw [Array.getElem?_eq_none (by omega)] at hg; cases hg
theorem Row.cell {w : World} {g len cap : Nat} {m : List Nat} (h : Row w g len cap m) {j : Nat} (hj : j < len) : w.cell? ⟨g, j, none⟩ = some (.int .u8 (m.getD j 0 : Nat)) := by
  obtain ⟨h1, h2, h3, cur, hg, hs, ht⟩ := h
  have hv := bv_get m j (by omega)
  rw [← ht, List.getElem?_take, if_pos (by omega)] at hv
  simp only [World.cell?, hg]
  simpa using hv
theorem Row.frozen {w : World} {g len cap : Nat} {m : List Nat} (h : Row w g len cap m) (j : Nat) : w.frozen? ⟨g, j, none⟩ = false := by
  obtain ⟨h1, h2, h3, cur, hg, hs, ht⟩ := h
  simp [World.frozen?, hg]
theorem Row.set {w : World} {g len cap : Nat} {m : List Nat} (h : Row w g len cap m) (j : Nat) (x : Nat) : Row (w.setCell ⟨g, j, none⟩ (.int .u8 (x : Nat))) g len cap (m.set j x) := by
  obtain ⟨h1, h2, h3, cur, hg, hs, ht⟩ := h
  refine ⟨by simpa using h1, h2, h3, cur.setIfInBounds j (.int .u8 (x : Nat)), ?_, by simpa using hs, ?_⟩
  · simp [World.setCell, Array.getElem?_modify, hg]
  · simp only [Array.toList_setIfInBounds, List.take_set, ht]
    simp [bv, List.map_set]
theorem Row.below {B : Nat} {w w1 : World} {g len cap : Nat} {m : List Nat} (h : Row w g len cap m) (hb : Below B w w1) (hg : g < B) : Row w1 g len cap m := by
  obtain ⟨h1, h2, h3, cur, hg', hs, ht⟩ := h
  exact ⟨h1, h2, h3, cur, by rw [hb.block g hg]; exact hg', hs, ht⟩
theorem Row.isB {w : World} {g len cap : Nat} {m : List Nat} (h : Row w g len cap m) (hx : ∀ x ∈ m, x < 256) : IsB w (some ⟨g, 0, none⟩) len cap m :=
  ⟨h.1, h.2.1, h.2.2.1, hx, .inr ⟨g, 0, rfl, h.lt, fun i hi => by rw [Nat.zero_add]; exact h.cell hi⟩⟩
theorem mem_set {l : List Nat} {j y : Nat} (h : ∀ x ∈ l, x < 256) (hy : y < 256) : ∀ x ∈ l.set j y, x < 256 := by
  intro x hx
  rcases List.mem_or_eq_of_mem_set hx with h1 | rfl
  · exact h x h1
  · exact hy
/-- a string's bytes -/
def bl (s : ByteArray) : List Nat := s.data.toList.map (·.toNat)
theorem bl_length (s : ByteArray) : (bl s).length = s.size := by rw [bl, List.length_map, Array.length_toList]; rfl
theorem bl_lt (s : ByteArray) : ∀ x ∈ bl s, x < 256 := by
  intro x hx; simp only [bl, List.mem_map] at hx; obtain ⟨b, _, rfl⟩ := hx; exact b.toNat_lt
theorem str_bl (s : ByteArray) : str (bl s) = s := by
  cases s with
  | mk d => simp [str, bl, List.map_map, Function.comp_def]
theorem bl_str {l : List Nat} (h : ∀ x ∈ l, x < 256) : bl (str l) = l := by
  simp only [bl, str, List.map_map]
  rw [List.map_congr_left (g := id)]
  · simp
  · intro x hx; have := h x hx; simp; omega
theorem str_inj {l m : List Nat} (hl : ∀ x ∈ l, x < 256) (hm : ∀ x ∈ m, x < 256) (h : str l = str m) : l = m := by
  rw [← bl_str hl, h, bl_str hm]
theorem str_eq {l m : List Nat} (hl : ∀ x ∈ l, x < 256) (hm : ∀ x ∈ m, x < 256) : ((str l).toList == (str m).toList) = decide (l = m) := by
  rw [ByteArray.toList_eq, ByteArray.toList_eq]
  by_cases e : l = m
  · subst e; simp
  · have : (str l).data.toList ≠ (str m).data.toList := fun h => e (str_inj hl hm (by
      have h2 : (str l).data = (str m).data := Array.toList_inj.1 h
      cases h3 : str l; cases h4 : str m; rw [h3, h4] at h2; simp at h2; rw [h2]))
    rw [decide_eq_false e, beq_eq_false_iff_ne]; exact this
theorem str_size (l : List Nat) : (str l).size = l.length := by simp [str, ByteArray.size]
theorem grown_trans {a b c : World} {g : Nat} (h : a.grownBy b (some g)) (k : b.grownBy c (some g)) : a.grownBy c (some g) :=
  ⟨k.os.trans h.os, k.tape.trans h.tape, k.output.trans h.output, Nat.le_trans h.size k.size, fun i hi hne => (k.block i (Nat.lt_of_lt_of_le hi h.size) hne).trans (h.block i hi hne)⟩
theorem grown_drewN {a b : World} {r : Option Nat} (h : a.grownBy b r) (n : Nat) : a.grownBy (b.drewN n) r := ⟨h.os, h.tape, h.output, h.size, h.block⟩
theorem grown_drew {a b : World} {r : Option Nat} (h : a.grownBy b r) : a.grownBy b.drew r := ⟨h.os, h.tape, h.output, h.size, h.block⟩
theorem grown_set {a b : World} {g j : Nat} (h : a.grownBy b (some g)) (v : Value) : a.grownBy (b.setCell ⟨g, j, none⟩ v) (some g) :=
  grown_trans h ⟨rfl, rfl, rfl, by simp [World.setCell], fun i _ hne => Below.heap_setCell _ _ _ _ (fun e => hne (by rw [e]))⟩
theorem grown_alloc {a b : World} {g : Nat} (h : a.grownBy b (some g)) (o : Obj) : a.grownBy (b.alloc o) (some g) := grown_trans h (World.grownBy_alloc _ _ _)
theorem grown_any {a b : World} {g : Nat} (h : a.grownBy b none) : a.grownBy b (some g) := ⟨h.os, h.tape, h.output, h.size, fun k hk _ => h.block k hk (by simp)⟩
theorem IsB.kept {w w' : World} {a : Option Addr} {len cap : Nat} {l : List Nat} {g : Nat} (h : IsB w a len cap l) (hg : w.grownBy w' (some g)) (hne : ∀ b off, a = some ⟨b, off, none⟩ → 0 < len → b ≠ g) : IsB w' a len cap l := by
  obtain ⟨h1, h2, h3, h4, h5⟩ := h
  refine ⟨h1, h2, h3, h4, ?_⟩
  rcases h5 with h5 | ⟨b, off, rfl, hlt, hc⟩
  · exact .inl h5
  · by_cases h0 : len = 0
    · exact .inl ⟨h0, by intro h; cases h⟩
    · exact .inr ⟨b, off, rfl, Nat.lt_of_lt_of_le hlt hg.size, fun i hi => hg.cell (hc i hi) (by have := hne b off rfl (by omega); simpa using this)⟩
theorem row_setRow {W : World} {q n : Nat} {m : List Nat} {cs : Array Value} (hq : W.heap[q]? = some (.cells cs 5 (0, 0))) (hm : m.length = n) (hc : n ≤ maxLen) : Row (W.setRow q (bv m).toArray) q n n m := by
  refine ⟨hm, Nat.le_refl _, hc, _, setRow_heap W q cs _ 5 _ hq, by simp [bv_length, hm], ?_⟩
  rw [List.toList_toArray, List.take_of_length_le (by rw [bv_length, hm]; exact Nat.le_refl _)]
theorem Row.set_far {w : World} {q len cap : Nat} {m : List Nat} {g j : Nat} {v : Value} (h : Row w q len cap m) (hne : q ≠ g) : Row (w.setCell ⟨g, j, none⟩ v) q len cap m := by
  obtain ⟨h1, h2, h3, cur, h4, h5, h6⟩ := h
  exact ⟨h1, h2, h3, cur, by rw [Below.heap_setCell _ _ _ _ hne]; exact h4, h5, h6⟩
theorem grown_setRow {a b : World} {g : Option Nat} (h : a.grownBy b g) (q : Nat) (hq : a.heap.size ≤ q) (cs : Array Value) : a.grownBy (b.setRow q cs) g :=
  ⟨h.os, h.tape, h.output, by simpa [World.setRow] using h.size, fun k hk hne => (setRow_other b q k cs (by omega)).trans (h.block k hk hne)⟩
theorem Row.kept {w w' : World} {q len cap : Nat} {m : List Nat} {r : Option Nat} (h : Row w q len cap m) (hg : w.grownBy w' r) (hne : some q ≠ r) : Row w' q len cap m := by
  have hlt := h.lt
  obtain ⟨h1, h2, h3, cur, h4, h5, h6⟩ := h
  exact ⟨h1, h2, h3, cur, by rw [hg.block q hlt hne]; exact h4, h5, h6⟩
theorem mem_drop {l : List Nat} {k : Nat} (hx : ∀ x ∈ l, x < 256) : ∀ x ∈ l.drop k, x < 256 := fun x h => hx x (List.mem_of_mem_drop h)
theorem IsB.back {w : World} {b off len cap : Nat} {l : List Nat} (h : IsB w (some ⟨b, off, none⟩) len cap l) (n : Nat) (hn : n ≤ len) : IsB w (some ⟨b, off + n, none⟩) (len - n) (cap - n) (l.drop n) := by
  obtain ⟨h1, h2, h3, h4, h5⟩ := h
  refine ⟨by simp; omega, by omega, by omega, mem_drop h4, ?_⟩
  rcases h5 with ⟨h5, _⟩ | ⟨b', off', hb, hlt, hc⟩
  · exact .inl ⟨by omega, by intro h; cases h⟩
  · cases hb
    refine .inr ⟨b, off + n, rfl, hlt, fun i hi => ?_⟩
    rw [Nat.add_assoc, hc (n + i) (by omega)]
    simp [List.getD_eq_getElem?_getD]
theorem grown_setFar {a b : World} {r : Option Nat} (h : a.grownBy b r) {q j : Nat} (hq : a.heap.size ≤ q) (v : Value) : a.grownBy (b.setCell ⟨q, j, none⟩ v) r :=
  ⟨h.os, h.tape, h.output, by simpa [World.setCell] using h.size, fun k hk hne => (Below.heap_setCell _ _ _ _ (show k ≠ q by omega)).trans (h.block k hk hne)⟩
theorem grown_far {a b c : World} {r s : Option Nat} (h : a.grownBy b r) (k : b.grownBy c s) (hs : ∀ j, s = some j → a.heap.size ≤ j) : a.grownBy c r :=
  ⟨k.os.trans h.os, k.tape.trans h.tape, k.output.trans h.output, Nat.le_trans h.size k.size, fun i hi hne => (k.block i (Nat.lt_of_lt_of_le hi h.size) (fun e => by have := hs i e.symm; omega)).trans (h.block i hi hne)⟩
/-- it lies in bytes of its own -/
def At5 (w : World) (base : Nat) (a : Option Addr) : Prop := ∀ b off, a = some ⟨b, off, none⟩ → base ≤ b ∧ b < w.heap.size ∧ ∃ cur m, w.heap[b]? = some (.cells cur 5 m)
theorem At5.kept {w w' : World} {base : Nat} {a : Option Addr} {r : Option Nat} (h : At5 w base a) (hg : w.grownBy w' r) (hr : ∀ k, r = some k → ∀ b off, a = some ⟨b, off, none⟩ → b ≠ k) : At5 w' base a := by
  intro b off ha
  obtain ⟨h1, h2, cur, m, h3⟩ := h b off ha
  exact ⟨h1, Nat.lt_of_lt_of_le h2 hg.size, cur, m, (hg.block b h2 (fun e => hr b e.symm b off ha rfl)).trans h3⟩
theorem IsB.keptBy {w w' : World} {a : Option Addr} {len cap : Nat} {l : List Nat} {r : Option Nat} (h : IsB w a len cap l) (hg : w.grownBy w' r) (hr : ∀ k, r = some k → ∀ b off, a = some ⟨b, off, none⟩ → 0 < len → b ≠ k) : IsB w' a len cap l := by
  cases r with
  | none => exact h.kept (g := w.heap.size) (grown_any hg) (fun b off ha hl => by
      rcases h.2.2.2.2 with ⟨h0, _⟩ | ⟨b', off', hb', hlt, _⟩
      · omega
      · rw [ha] at hb'; cases hb'; omega)
  | some k => exact h.kept hg (hr k rfl)
theorem below_grown {w w' : World} (h : Below w.heap.size w w') (r : Option Nat) : w.grownBy w' r := ⟨h.os, h.tape, h.output, h.size, fun k hk _ => h.block k hk⟩
/-- append([]byte{}, b...) -/
theorem run_fresh (W : World) (ty : TypeId) (ad : Addr) (src : Option Addr) (len cap : Nat) (l : List Nat) (hB : IsB W src len cap l) (hb : len ≤ 140737488355328) :
    ∃ a' c' W', (Builtin.append_ #[25, 25] ty #[.slice (some ad) 0 0, .slice src len cap]).run Try.prog W = .ok (.slice a' len c') W' ∧ IsB W' a' len c' l ∧ (0 < len → At5 W' W.heap.size a') ∧ Below W.heap.size W W' := by
  obtain ⟨i0, hi, hz0, hz1, hz2⟩ := info_parts Try.info5
  obtain ⟨h1, h2, h3, h4, h5⟩ := id hB
  by_cases h0 : len = 0
  · subst h0
    obtain rfl : l = [] := List.length_eq_zero_iff.1 h1
    refine ⟨some ad, 0, W, ?_, ⟨rfl, Nat.le_refl _, Nat.zero_le _, by simp, .inl ⟨rfl, by intro h; cases h⟩⟩, by omega, Below.refl _ _⟩
    cases src with
    | none => simp [Builtin.append_, run_underlying Try.underlying25, sizeOf, Builtin.lenOf, Builtin.firstCells, storeCells]
    | some x =>
      have hl : (loadCells x 0).run Try.prog W = .ok #[] W := by simpa using run_loadCells_list (P := Try.prog) W x [] (by simp)
      simp [hl, Builtin.append_, run_underlying Try.underlying25, sizeOf, Builtin.lenOf, Builtin.firstCells, storeCells]
  · obtain ⟨b, off, rfl, hlt, hc⟩ := h5.resolve_left (fun h => h0 h.1)
    have hr := run_append_grow (P := Try.prog) (w := W) 25 ty 5 i0 _ Try.underlying25 hi hz0 ad 0 0 [] (by simp) (by simp) ⟨b, off, none⟩ len cap (bv l) (by rw [bv_length, h1, hz1]; omega) hB.src (by omega) (by omega) (by rw [Nat.zero_add, hz2, nextslicecap_zero (by omega)]; omega)
    rw [Nat.zero_add] at hr
    refine ⟨_, _, _, hr, ?_, ?_, ?_⟩
    · refine ⟨h1, grownCap_ge _ _ _ _, grownCap_le_maxLen _ _ _ _ (by unfold maxLen; omega), h4, .inr ⟨_, 0, rfl, by simp, fun i hi' => ?_⟩⟩
      rw [Nat.zero_add]
      have hn := heap_alloc_new W.drew (.cells (([] : List Value).toArray ++ (bv l).toArray ++ Builtin.zeroCells (Value.int .u8 0).cells (grownCap W len 0 5 - len)) 5)
      have hv := bv_get l i (by omega)
      simp only [World.cell?]
      rw [show W.drew.heap.size = W.heap.size from rfl] at hn
      rw [hn]
      simp only [List.append_toArray, List.nil_append]
      rw [Array.getElem?_append_left (by simp [bv_length]; omega)]
      simpa using hv
    · intro _ b' off' hb'
      cases hb'
      exact ⟨Nat.le_refl _, by simp, _, _, heap_alloc_new W.drew _⟩
    · exact (Below.drew (Below.refl _ _)).alloc (Nat.le_refl _) _
theorem step_fresh {ops : Array Oper} {o : Oper} {a : Act} {w : World} {K : Act → World → Prop} {Q : Exit → Act → World → Prop} {E : Prop} (hw : Region.wanted o (yielded ops a.tmps) = true) (s x : Operand)
    (ho : o.op = .call { callee := .builtin .append, args := #[s, x], argTypes := #[25, 25] }) (ad : Addr) (hs : a.eval s = .slice (some ad) 0 0) (src : Option Addr) (len cap : Nat) (l : List Nat) (hx : a.eval x = .slice src len cap)
    (w0 : World) (hB : IsB w0 src len cap l) (hb : len ≤ 140737488355328) (hbel : Below w0.heap.size w0 w)
    (h : ∀ a' c' w', IsB w' a' len c' l → (0 < len → At5 w' w0.heap.size a') → Below w0.heap.size w0 w' → Below w.heap.size w w' → K (a.put o.dst (.slice a' len c')) w') : if Region.wanted o (yielded ops a.tmps) = true then Oper.wp Try.prog o a w K Q else E := by
  rw [if_pos hw]
  obtain ⟨a', c', w', hr, h1, h2, h3⟩ := run_fresh w o.type ad src len cap l (hB.below hbel) hb
  have hk := h a' c' w' h1 (fun h0 b off hb' => by obtain ⟨g1, g2⟩ := h2 h0 b off hb'; exact ⟨Nat.le_trans hbel.size g1, g2⟩) (hbel.trans (h3.mono hbel.size)) h3
  unfold Oper.wp
  simp [execOp, ho, resolve, invoke, builtin, hs, hx, hr, Result.andThen]
  exact hk
end Go.Proofs.Ytecmfpgccmmlpaa
