/- the document's disk in memory -/
import Derived.Test.YtdageggojaghmaaVx
import Derived.Handy
namespace Go.Proofs.Ytdageggojaghmaa
open Go.RowKit
/-- a sector of the document's: what is safe, what was written last, whether that is unsynced -/
def SecC (w : World) (cur : Array Value) (i : Nat) (lo lr : List Nat) (d : Bool) : Prop :=
  ∃ v0 v1, cur[i * 3]? = some v0 ∧ cur[i * 3 + 1]? = some v1 ∧ cur[i * 3 + 2]? = some (.bool d) ∧ Dat NoX w v0 lo ∧ Dat NoX w v1 lr
theorem SecC.kept {w w' : World} {cur : Array Value} {i : Nat} {lo lr : List Nat} {d : Bool} (h : SecC w cur i lo lr d) (hk : K5 w w') : SecC w' cur i lo lr d := by
  obtain ⟨v0, v1, h0, h1, h2, h3, h4⟩ := h
  exact ⟨v0, v1, h0, h1, h2, h3.kept hk, h4.kept hk⟩
/-- a row of them -/
structure RowR (w : World) (q cap n : Nat) (lo lr : Nat → List Nat) (d : Nat → Bool) : Prop where
  nc : n ≤ cap
  cm : cap ≤ maxLen
  row : ∃ cur : Array Value, w.heap[q]? = some (.cells cur 67 (0, 0)) ∧ cur.size = cap * 3 ∧ ∀ i, i < n → SecC w cur i (lo i) (lr i) (d i)
theorem RowR.lt {w : World} {q cap n : Nat} {lo lr : Nat → List Nat} {d : Nat → Bool} (h : RowR w q cap n lo lr d) : q < w.heap.size := by
  obtain ⟨cur, hb, _⟩ := h.row
  exact heap_lt hb
theorem RowR.below {w w' : World} {q cap n : Nat} {lo lr : Nat → List Nat} {d : Nat → Bool} (h : RowR w q cap n lo lr d) (hb : Below w.heap.size w w') : RowR w' q cap n lo lr d := by
  obtain ⟨cur, hq, hs, hc⟩ := h.row
  exact ⟨h.nc, h.cm, cur, (hb.block q h.lt).trans hq, hs, fun i hi => (hc i hi).kept (K5.below hb)⟩
theorem RowR.kept {w w' : World} {q cap n : Nat} {lo lr : Nat → List Nat} {d : Nat → Bool} (h : RowR w q cap n lo lr d) (hq' : w'.heap[q]? = w.heap[q]?) (hk : K5 w w') : RowR w' q cap n lo lr d := by
  obtain ⟨cur, hq, hs, hc⟩ := h.row
  exact ⟨h.nc, h.cm, cur, hq'.trans hq, hs, fun i hi => (hc i hi).kept hk⟩
theorem RowR.congr {w : World} {q cap n : Nat} {lo lr lo' lr' : Nat → List Nat} {d d' : Nat → Bool} (h : RowR w q cap n lo lr d) (h0 : ∀ i, i < n → lo i = lo' i) (h1 : ∀ i, i < n → lr i = lr' i) (h2 : ∀ i, i < n → d i = d' i) : RowR w q cap n lo' lr' d' := by
  obtain ⟨cur, hq, hs, hc⟩ := h.row
  exact ⟨h.nc, h.cm, cur, hq, hs, fun i hi => by rw [← h0 i hi, ← h1 i hi, ← h2 i hi]; exact hc i hi⟩
/-- the cells of a sector -/
theorem RowR.sec {w : World} {q cap n : Nat} {lo lr : Nat → List Nat} {d : Nat → Bool} (h : RowR w q cap n lo lr d) {i : Nat} (hi : i < n) :
    ∃ a0 l0 c0 a1 l1 c1, w.cell? ⟨q, i * 3, none⟩ = some (.slice a0 l0 c0) ∧ w.cell? ⟨q, i * 3 + 1, none⟩ = some (.slice a1 l1 c1) ∧ w.cell? ⟨q, i * 3 + 2, none⟩ = some (.bool (d i)) ∧ Dat NoX w (.slice a0 l0 c0) (lo i) ∧ Dat NoX w (.slice a1 l1 c1) (lr i) := by
  obtain ⟨cur, hq, hs, hc⟩ := h.row
  obtain ⟨v0, v1, h0, h1, h2, h3, h4⟩ := hc i hi
  obtain ⟨a0, l0, c0, rfl, _⟩ := id h3
  obtain ⟨a1, l1, c1, rfl, _⟩ := id h4
  exact ⟨a0, l0, c0, a1, l1, c1, by simp [World.cell?, hq, h0], by simp [World.cell?, hq, h1], by simp [World.cell?, hq, h2], h3, h4⟩
/-- the document's disk -/
structure IsR (w : World) (q cap n : Nat) (st : St) : Prop where
  n0 : 0 < n
  n1 : n ≤ 1024
  row : RowR w q cap n st.syn st.reads (fun i => (st.fr i).isSome)
  wr : st.wr ≤ 4611686018427387904
  left : st.left ≤ 9223372036854775807
theorem IsR.below {w w' : World} {q cap n : Nat} {st : St} (h : IsR w q cap n st) (hb : Below w.heap.size w w') : IsR w' q cap n st := ⟨h.n0, h.n1, h.row.below hb, h.wr, h.left⟩
/-- its value -/
abbrev stv (q cap n : Nat) (st : St) : Value := .agg #[.slice (some ⟨q, 0, none⟩) n cap, .bool st.down, .bool st.arm, .int .i64 (st.left : Nat), .int .i64 (st.wr : Nat)]
theorem Try.info67 : (Try.prog.info? 67).map (fun i => (i.zero, i.size, i.bytes)) = some (some (.agg #[.slice none 0 0, .slice none 0 0, .bool false]), 3, 56) := by kernel_rfl
/-- the cells of n sectors -/
theorem row_cells {w : World} {q cap n : Nat} {lo lr : Nat → List Nat} {d : Nat → Bool} (h : RowR w q cap n lo lr d) :
    ∃ cs : List Value, cs.length = n * 3 ∧ (∀ j v, cs[j]? = some v → w.cell? (Addr.add ⟨q, 0, none⟩ j) = some v) ∧ ∀ i, i < n → SecC w cs.toArray i (lo i) (lr i) (d i) := by
  obtain ⟨cur, hq, hs, hc⟩ := h.row
  have hnc := h.nc
  refine ⟨cur.toList.take (n * 3), by simp; omega, ?_, ?_⟩
  · intro j v hj
    rw [List.getElem?_take] at hj
    split at hj
    · have e : Addr.add ⟨q, 0, none⟩ j = ⟨q, j, none⟩ := by cases j <;> simp [Addr.add]
      rw [e]
      simp only [World.cell?, hq]
      simpa using hj
    · cases hj
  · intro i hi
    obtain ⟨v0, v1, h0, h1, h2, h3, h4⟩ := hc i hi
    refine ⟨v0, v1, ?_, ?_, ?_, h3, h4⟩
    · simpa [List.getElem?_take, show i * 3 < n * 3 by omega] using h0
    · simpa [List.getElem?_take, show i * 3 + 1 < n * 3 by omega] using h1
    · simpa [List.getElem?_take, show i * 3 + 2 < n * 3 by omega] using h2
/-- append([]Sector{}, row...) -/
theorem run_secs (W : World) (ty : TypeId) (ad : Addr) (q cap n : Nat) (lo lr : Nat → List Nat) (d : Nat → Bool) (h : RowR W q cap n lo lr d) (h0 : 0 < n) (hn : n ≤ 1024) :
    ∃ c' W', (Builtin.append_ #[25, 25] ty #[.slice (some ad) 0 0, .slice (some ⟨q, 0, none⟩) n cap]).run Try.prog W = .ok (.slice (some ⟨W.heap.size, 0, none⟩) n c') W' ∧ RowR W' W.heap.size c' n lo lr d ∧ Below W.heap.size W W' := by
  obtain ⟨i0, hi, hz0, hz1, hz2⟩ := info_parts Try.info67
  obtain ⟨cs, hl, hcs, hsec⟩ := row_cells h
  have hr := run_append_grow (P := Try.prog) (w := W) 25 ty 67 i0 _ Try.underlying25 hi hz0 ad 0 0 [] (by simp) (by simp) ⟨q, 0, none⟩ n cap cs (by rw [hl, hz1]) hcs (by omega) (by omega) (by rw [Nat.zero_add, hz2, nextslicecap_zero h0]; omega)
  rw [Nat.zero_add] at hr
  have hge := grownCap_ge W n 0 67
  have hbel : Below W.heap.size W (W.drew.alloc (.cells (([] : List Value).toArray ++ cs.toArray ++ Builtin.zeroCells (Value.agg #[.slice none 0 0, .slice none 0 0, .bool false]).cells (grownCap W n 0 67 - n)) 67)) := (Below.drew (Below.refl _ _)).alloc (Nat.le_refl _) _
  refine ⟨_, _, hr, ⟨hge, grownCap_le_maxLen _ _ _ _ (by unfold maxLen; omega), _, heap_alloc_new W.drew _, ?_, ?_⟩, hbel⟩
  · simp [Builtin.zeroCells, hl, Value.cells]; omega
  · intro i hi'
    obtain ⟨v0, v1, g0, g1, g2, g3, g4⟩ := (hsec i hi').kept (K5.below hbel)
    refine ⟨v0, v1, ?_, ?_, ?_, g3, g4⟩
    · rw [Array.getElem?_append_left (by simp; omega)]; simpa using g0
    · rw [Array.getElem?_append_left (by simp; omega)]; simpa using g1
    · rw [Array.getElem?_append_left (by simp; omega)]; simpa using g2
/-- make([]Sector, n) -/
theorem run_mk25 (W : World) (n : Nat) (hb : n ≤ 1024) :
    (Instr.makeSlice 25 (.int .i64 (n : Int)) (.int .i64 (n : Int))).run Try.prog W = .ok (.slice (some ⟨W.heap.size, 0, none⟩) n n) (W.alloc (.cells (madeCells #[.slice none 0 0, .slice none 0 0, .bool false] (n * 3)) 67)) := by
  obtain ⟨i0, hi, hz0, hz1, hz2⟩ := info_parts Try.info67
  have hr := run_make (P := Try.prog) W 25 67 i0 _ Try.underlying25 hi hz0 .i64 .i64 (n : Int) (n : Int) (by omega) (by omega) (by rw [hz2]; omega) (by omega)
  rw [hr, hz1]
  simp only [Int.toNat_natCast]
  rfl
theorem made_isR (w : World) (n : Nat) (h0 : 0 < n) (h1 : n ≤ 1024) : IsR (w.alloc (.cells (madeCells #[.slice none 0 0, .slice none 0 0, .bool false] (n * 3)) 67)) w.heap.size n n st0 := by
  refine ⟨h0, h1, ⟨Nat.le_refl _, by unfold maxLen; omega, _, heap_alloc_new w _, size_madeCells _ _, fun i hi => ⟨.slice none 0 0, .slice none 0 0, ?_, ?_, ?_, dat_nil _, dat_nil _⟩⟩, by simp [st0], by simp [st0]⟩
  · simp [madeCells, show i * 3 < n * 3 by omega]
  · simp [madeCells, show i * 3 + 1 < n * 3 by omega, Nat.add_mod]
  · simp [madeCells, show i * 3 + 2 < n * 3 by omega, Nat.add_mod, st0]
/-- the document's New -/
theorem rnew_ok (w : World) (n : Nat) (h0 : 0 < n) (h1 : n ≤ 1024) :
    Calls Try.prog 11 #[.int .i64 (n : Int)] w fun e w' => ∃ q, e = .returned (.tuple #[stv q n n st0, .bool true]) ∧ IsR w' q n n st0 ∧ w.heap.size ≤ q ∧ Below w.heap.size w w' := by
  have d1 : decide ((n : Int) < 1) = false := decide_eq_false (by omega)
  have d2 : decide ((1024 : Int) < (n : Int)) = false := decide_eq_false (by omega)
  have hmk := fun W => run_mk25 W n h1
  have HI := hide (fun w => made_isR w n h0 h1)
  clear h0 h1
  go_enter Try.func11, Try.ntmps11
  go_wp2
  go_returns
  refine ⟨_, rfl, ?_, by simp, ((Below.refl _ _).alloc (Nat.le_refl _) _).alloc (by simp) _⟩
  have := HI.out (w.alloc (Obj.cells #[Value.slice (some ⟨w.heap.size + 1, 0, none⟩) n n, Value.bool false, Value.bool false, Value.int IntKind.i64 0, Value.int IntKind.i64 0] 27))
  simpa using this
theorem rnew_no (w : World) (n : Int) (h : ¬ (0 < n ∧ n ≤ 1024)) :
    Calls Try.prog 11 #[.int .i64 n] w fun e w' => ∃ v, e = .returned (.tuple #[v, .bool false]) ∧ Below w.heap.size w w' := by
  go_enter Try.func11, Try.ntmps11
  by_cases h1 : n < 1
  · have d1 : decide (n < 1) = true := decide_eq_true h1
    clear h h1
    go_wp2
    go_returns
    exact ⟨_, rfl, (Below.refl _ _).alloc (Nat.le_refl _) _⟩
  · have d1 : decide (n < 1) = false := decide_eq_false h1
    have d2 : decide ((1024 : Int) < n) = true := decide_eq_true (by omega)
    clear h h1
    go_wp2
    go_returns
    exact ⟨_, rfl, (Below.refl _ _).alloc (Nat.le_refl _) _⟩
/-- the document's Read -/
theorem rread_any (w : World) (q cap n : Nat) (st : St) (h : IsR w q cap n st) (i : Int) :
    Calls Try.prog 31 #[stv q cap n st, .int .i64 i] w fun e w' => ∃ a len c, e = .returned (.tuple #[.slice a len c, .int .i64 (st.readE n i)]) ∧ IsB w' a len c (st.readL n i) ∧ Below w.heap.size w w' := by
  unfold St.readE St.readL
  have HA := hide (fun o : Obj => (Below.refl w.heap.size w).alloc (Nat.le_refl _) o)
  by_cases hd : st.down = true
  · rw [if_pos hd, if_pos hd]
    clear h
    go_enter Try.func31, Try.ntmps31
    go_wp2
    go_ret2
    exact ⟨none, 0, 0, rfl, isB_nil _, HA.out _⟩
  · rw [if_neg hd, if_neg hd]
    have hd' := bool_not hd
    by_cases hi : 0 ≤ i ∧ i < n
    · rw [if_neg (fun e => e hi), if_neg (fun e => e hi)]
      obtain ⟨k, rfl⟩ : ∃ k : Nat, i = k := ⟨i.toNat, by omega⟩
      rw [Int.toNat_natCast]
      have hk : k < n := by omega
      obtain ⟨a0, l0, c0, a1, l1, c1, z0, z1, z2, hd0, hd1⟩ := h.row.sec hk
      obtain ⟨_, _, _, e, hB, hl1, _⟩ := hd1
      cases e
      have HB := hide hB
      have HX := hide (full_lt hB.2.2.2.1)
      have d1 : decide ((k : Int) < 0) = false := decide_eq_false (by omega)
      have d2 : decide ((n : Int) ≤ (k : Int)) = false := decide_eq_false (by omega)
      have hkn : (k : Int) < n := by omega
      have hql := h.row.lt
      clear h hB hd hi z0 z2 hd0
      go_enter Try.func31, Try.ntmps31
      go_wp2_with fail
      refine (rfull_any a1 l1 c1 (st.reads k) _ (HB.out.below (HA.out _)) hl1).mono ?_
      rintro e w2 ⟨q2, c2, rfl, hq, hrow, hb⟩
      have HR := hide (hrow.isB HX.out)
      have HB2 := hide ((HA.out _).trans (hb.mono (by simp)))
      clear hq hrow hb
      go_wp2
      go_ret2
      exact ⟨_, _, _, rfl, HR.out, HB2.out⟩
    · rw [if_pos hi, if_pos hi]
      go_enter Try.func31, Try.ntmps31
      by_cases h0 : i < 0
      · have d1 : decide (i < 0) = true := decide_eq_true h0
        clear h hi h0
        go_wp2
        go_ret2
        exact ⟨none, 0, 0, rfl, isB_nil _, HA.out _⟩
      · have d1 : decide (i < 0) = false := decide_eq_false h0
        have d2 : decide ((n : Int) ≤ i) = true := decide_eq_true (by omega)
        clear h hi h0
        go_wp2
        go_ret2
        exact ⟨none, 0, 0, rfl, isB_nil _, HA.out _⟩
/-- the document's Ints of two lists that are one -/
theorem ints_same (w : World) (a a' : Option Addr) (cap cap' b b' : Nat) (l : List Nat) (h : IsU w b a l) (h' : IsU w b' a' l) (hc : l.length ≤ cap) (hc' : l.length ≤ cap') (hl : l.length ≤ 1024) :
    Calls Try.prog 32 #[.slice a l.length cap, .slice a' l.length cap'] w fun e w' => e = .returned (.bool true) ∧ Below w.heap.size w w' := by
  have HU := hide h
  have HU' := hide h'
  clear h h'
  generalize hL : l.length = L at *
  have HL := hide hL
  clear hL
  go_enter Try.func32, Try.ntmps32
  go_wp2_with fail
  go_loopw [13] (fun i wr => ∃ k : Nat, k ≤ L ∧ i = .int .i64 k ∧ Hid (Below w.heap.size w wr)) (fun i _ => L - (intOf i).toNat)
  case atStart => exact ⟨0, by omega, rfl, hide (Below.refl _ _)⟩
  case round =>
    obtain ⟨k, hk, rfl, HB⟩ := hrel
    by_cases hlt : k < L
    · obtain ⟨q, rfl, hq, hql, x, hx, z⟩ := HU.out k (by have := HL.out; omega)
      obtain ⟨q', rfl, hq', hql', x', hx', z'⟩ := HU'.out k (by have := HL.out; omega)
      obtain rfl : x = x' := by rw [hx] at hx'; exact Option.some.inj hx'
      have y : wr.cell? ⟨q, k, none⟩ = some (.int .i64 (x : Nat)) := (World.cell?_of_block (HB.out.block q hql)).trans z
      have y' : wr.cell? ⟨q', k, none⟩ = some (.int .i64 (x : Nat)) := (World.cell?_of_block (HB.out.block q' hql')).trans z'
      have hkL : (k : Int) < L := by omega
      clear z z' hx hx' hq hq'
      go_wp2_with fail
      go_region
      have HB' := hide (HB.out.trans (Below.drew (Below.refl _ _)))
      clear y y'
      go_wp2
      go_roundw
      case rel => exact ⟨k + 1, by omega, by simp, HB'⟩
      case measure => simp [intOf]; omega
    · obtain rfl : k = L := by omega
      go_wp2
      go_ret
      exact ⟨rfl, HB.out⟩
theorem Try.info3 : (Try.prog.info? 3).map (fun i => (i.zero, i.size, i.bytes)) = some (some (.int .i64 0), 1, 8) := by kernel_rfl
theorem new_cell1 (W : World) (o : Obj) (v : Value) (t : TypeId) : ∀ j u, [v][j]? = some u → ((W.alloc o).alloc (.cells #[v] t)).cell? (Addr.add ⟨W.heap.size + 1, 0, none⟩ j) = some u := by
  intro j u hj
  have h0 : j = 0 := by
    cases j with
    | zero => rfl
    | succ j => simp at hj
  subst h0
  have hn := heap_alloc_new (W.alloc o) (.cells #[v] t)
  rw [show (W.alloc o).heap.size = W.heap.size + 1 by simp] at hn
  rw [show Addr.add ⟨W.heap.size + 1, 0, none⟩ 0 = ⟨W.heap.size + 1, 0, none⟩ from rfl]
  simp only [World.cell?, hn]
  simpa using hj
theorem uns_le (st : St) (n : Nat) : (st.uns n).length ≤ n := by
  unfold St.uns
  exact Nat.le_trans (List.length_filter_le _ _) (by simp)
theorem uns_succ (st : St) (k : Nat) : st.uns (k + 1) = st.uns k ++ (if (st.fr k).isSome then [k] else []) := by
  unfold St.uns
  rw [List.range_succ, List.filter_append]
  congr 1
  by_cases h : (st.fr k).isSome = true
  · simp [h]
  · simp [h]
theorem unsI_succ (st : St) (k : Nat) : st.unsI (k + 1) = st.unsI k ++ (if (st.fr k).isSome then [(k : Int)] else []) := by
  unfold St.unsI
  rw [uns_succ, List.map_append]
  by_cases h : (st.fr k).isSome = true
  · simp [h]
  · simp [h]
/-- the document's Unsynced -/
theorem runs_any (w : World) (q cap n : Nat) (st : St) (h : IsR w q cap n st) :
    Calls Try.prog 33 #[stv q cap n st] w fun e w' => ∃ v, e = .returned v ∧ w'.ownsRow w.heap.size 3 1 v (st.uns n).length ((st.unsI n).map encZ) ∧ Below w.heap.size w w' := by
  have HR := hide h
  have hn1 := h.n1
  have hn0 := h.n0
  have HA := hide (fun o : Obj => (Below.refl w.heap.size w).alloc (Nat.le_refl _) o)
  clear h
  go_enter Try.func33, Try.ntmps33
  go_wp2_with fail
  generalize hW : w.alloc _ = W1
  have HB1 : Hid (Below w.heap.size w W1) := hide (by rw [← hW]; exact HA.out _)
  clear hW HA
  go_loopw [9, 3] (fun i o wr => ∃ k : Nat, k ≤ n ∧ i = .int .i64 k ∧ Hid (wr.ownsRow w.heap.size 3 1 o (st.uns k).length ((st.unsI k).map encZ)) ∧ Hid (Below w.heap.size w wr)) (fun i _ _ => n - (intOf i).toNat)
  case atStart => exact ⟨0, by omega, rfl, hide (World.ownsRow_nil _ _ _ _), HB1⟩
  case round =>
    obtain ⟨k, hk, rfl, HO, HB⟩ := hrel
    by_cases hlt : k < n
    · obtain ⟨a0, l0, c0, a1, l1, c1, z0, z1, z2, hd0, hd1⟩ := (HR.out.below HB.out).row.sec hlt
      have hql := (HR.out.below HB.out).row.lt
      have hkn : (k : Int) < n := by omega
      clear hd0 hd1
      have HUS := hide (uns_succ st k)
      have HUI := hide (unsI_succ st k)
      cases hdk : (st.fr k).isSome
      · rw [hdk] at z2
        have HU1 : Hid (st.uns (k + 1) = st.uns k) := hide (by rw [HUS.out, hdk]; simp)
        have HU2 : Hid (st.unsI (k + 1) = st.unsI k) := hide (by rw [HUI.out, hdk]; simp)
        clear hdk HUS HUI
        go_wp2
        go_roundw
        case rel => exact ⟨k + 1, by omega, by simp, hide (by rw [HU1.out, HU2.out]; exact HO.out.alloc _), hide (HB.out.alloc HB.out.size _)⟩
        case measure => simp [intOf]; omega
      · rw [hdk] at z2
        have HU1 : Hid (st.uns (k + 1) = st.uns k ++ [k]) := hide (by rw [HUS.out, hdk]; simp)
        have HU2 : Hid (st.unsI (k + 1) = st.unsI k ++ [(k : Int)]) := hide (by rw [HUI.out, hdk]; simp)
        clear hdk HUS HUI
        have HUL := hide (uns_le st k)
        obtain ⟨i0, hi, hz0, hz1, hz2⟩ := info_parts Try.info3
        go_wp2_with (at_builtin; (refine wpList_append_own _ rfl _ _ 49 rfl w.heap.size 3 i0 (.int .i64 0) 1 8 Try.underlying49 hi hz0 hz1 hz2 rfl (by decide) _ _ _ rfl ((HO.out.alloc _).alloc _) ⟨wr.heap.size + 1, 0, none⟩ 1 1 [.int .i64 (k : Nat)] rfl rfl (new_cell1 _ _ _ _) (by simp [Value.oneCell']) ?c3 ?c4 ?c5 ?_))
        case c3 => have := HUL.out; unfold maxLen; omega
        case c4 => have := HUL.out; omega
        case c5 => have := HB.out.size; simp; omega
        intro v' w4 hown' hgrow _
        have HB4 : Hid (Below w.heap.size w w4) := hide (((HB.out.alloc HB.out.size _).alloc (by have := HB.out.size; simp; omega) _).grown hgrow (by have := HB.out.size; simp; omega) (fun k hk => (HO.out.lt k hk).1))
        have HO4 : Hid (w4.ownsRow w.heap.size 3 1 v' (st.uns (k + 1)).length ((st.unsI (k + 1)).map encZ)) := hide (by rw [HU1.out, HU2.out, List.map_append]; simpa [encZ] using hown')
        clear hgrow hown'
        go_wp2
        go_roundw
        case rel => exact ⟨k + 1, by omega, by simp, HO4, HB4⟩
        case measure => simp [intOf]; omega
    · obtain rfl : k = n := by omega
      go_wp2
      go_ret
      exact ⟨_, rfl, HO.out, HB.out⟩
end Go.Proofs.Ytdageggojaghmaa
