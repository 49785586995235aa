/- a pager in memory; ready, first, Pages, Used, settled, Index, Contains -/
import Derived.Test.YtecmfpgccmmlpaaPc
namespace Go.Proofs.Ytecmfpgccmmlpaa
open Go.RowKit
set_option maxRecDepth 100000
set_option linter.unusedVariables false
set_option linter.unusedSimpArgs false
/-- a pager, as its document has it: how each page is, from the first one on -/
structure Pg where
  sup : Sup
  ps : List Nat
  bad : Bool
def Pg.has (p : Pg) (k : Int) : Bool := decide (2 + p.sup.jn ≤ k ∧ k - (2 + p.sup.jn) < p.ps.length)
theorem Pg.of_has {p : Pg} {k : Int} (h : p.has k = true) : 2 + p.sup.jn ≤ k ∧ k - (2 + p.sup.jn) < p.ps.length := of_decide_eq_true h
def Pg.spot (p : Pg) (k : Int) : Nat := (k - (2 + p.sup.jn)).toNat
def Pg.how (p : Pg) (k : Int) : Nat := p.ps.getD (p.spot k) 0
def Pg.put (p : Pg) (k : Int) (s : Nat) : Pg := { p with ps := p.ps.set (p.spot k) s }
def Pg.rdy (p : Pg) : Int := if p.bad then 9 else 0
theorem Pg.spot_lt {p : Pg} {k : Int} (h : p.has k = true) : p.spot k < p.ps.length := by
  have := p.of_has h
  unfold Pg.spot
  omega
/-- a page in one of these states -/
def Pg.is (p : Pg) (k : Int) (l : List Nat) : Bool := p.has k && l.contains (p.how k)
def Pg.chk (p : Pg) (k : Int) (l : List Nat) : Int := if p.bad then 9 else if p.has k = false then 2 else if l.contains (p.how k) then 0 else 9
def Pg.alloc (p : Pg) : Pg × Int × Int := if p.bad then (p, 0, 9) else if p.ps.idxOf 0 < p.ps.length then ({ p with ps := p.ps.set (p.ps.idxOf 0) 1 }, 2 + p.sup.jn + p.ps.idxOf 0, 0) else (p, 0, 7)
def Pg.free (p : Pg) (k : Int) : Pg × Int := if p.chk k [1, 2] = 0 then (if p.how k = 1 then p.put k 0 else p.put k 3, 0) else (p, p.chk k [1, 2])
def settleN (x : Nat) : Nat := if x = 1 then 2 else if x = 3 then 0 else x
def usedN (l : List Nat) : Nat := (l.filter (fun x => x != 0)).length
def Sup.next (s : Sup) (root : Int) (seq : Nat) (live : Int) : Sup := ⟨s.gen + 1, root, seq, s.jn, live⟩
def Pg.told (p : Pg) (e : Int) : Pg := { p with bad := p.bad || e == 8 }
def Pg.settled (p : Pg) (s : Sup) : Pg := { sup := s, ps := p.ps.map settleN, bad := p.bad }
theorem settleN_lt {x : Nat} (h : x < 4) : settleN x < 4 := by unfold settleN; split <;> (try split) <;> omega
theorem usedN_le (l : List Nat) : usedN l ≤ l.length := List.length_filter_le _ _
theorem usedN_take {l : List Nat} {j : Nat} (h : j < l.length) : usedN (l.take (j + 1)) = usedN (l.take j) + (if l.getD j 0 = 0 then 0 else 1) := by
  have e : l.take (j + 1) = l.take j ++ [l.getD j 0] := by
    rw [List.take_add_one, List.getElem?_eq_getElem h, List.getD_eq_getElem?_getD, List.getElem?_eq_getElem h]; rfl
  rw [e, usedN, usedN, List.filter_append, List.length_append]
  by_cases h0 : l.getD j 0 = 0
  · rw [if_pos h0, h0]; rfl
  · rw [if_neg h0, List.filter_cons_of_pos (by simpa using h0)]; rfl
/-- states are small -/
def SmS (l : List Nat) : Prop := ∀ x ∈ l, x < 4
theorem SmS.get {l : List Nat} (h : SmS l) (j : Nat) : l.getD j 0 < 4 := by
  rw [List.getD_eq_getElem?_getD]
  by_cases hj : j < l.length
  · rw [List.getElem?_eq_getElem hj]; exact h _ (List.getElem_mem _)
  · rw [List.getElem?_eq_none (by omega)]; decide
theorem SmS.set {l : List Nat} (h : SmS l) (j : Nat) {x : Nat} (hx : x < 4) : SmS (l.set j x) := by
  intro y hy
  rcases List.mem_or_eq_of_mem_set hy with h1 | rfl
  · exact h y h1
  · exact hx
theorem SmS.settle {l : List Nat} (h : SmS l) : SmS (l.map settleN) := by
  intro y hy
  obtain ⟨x, hx, rfl⟩ := List.mem_map.1 hy
  exact settleN_lt (h x hx)
theorem idx_eq {l : List Nat} {x j : Nat} (h : ∀ i, i < j → l.getD i 0 ≠ x) (hj : j < l.length) (he : l.getD j 0 = x) : l.idxOf x = j := by
  induction l generalizing j with
  | nil => simp at hj
  | cons y l ih =>
    rw [List.idxOf_cons]
    cases j with
    | zero => simp at he; simp [he]
    | succ j =>
      have h0 := h 0 (by omega)
      simp only [List.getD_cons_zero] at h0
      have := ih (j := j) (fun i hi => by have := h (i + 1) (by omega); simpa using this) (by simpa using hj) (by simpa using he)
      rw [this, show (y == x) = false by simpa using h0]
      rfl
theorem idx_none {l : List Nat} {x : Nat} (h : ∀ i, i < l.length → l.getD i 0 ≠ x) : l.idxOf x = l.length := by
  induction l with
  | nil => rfl
  | cons y l ih =>
    have h0 := h 0 (by simp)
    simp only [List.getD_cons_zero] at h0
    have := ih (fun i hi => by have := h (i + 1) (by simpa using hi); simpa using this)
    rw [List.idxOf_cons, this, show (y == x) = false by simpa using h0]
    rfl
theorem idx_get {l : List Nat} {x : Nat} (h : l.idxOf x < l.length) : l.getD (l.idxOf x) 0 = x := by
  induction l with
  | nil => simp at h
  | cons y l ih =>
    rw [List.idxOf_cons] at h ⊢
    by_cases hy : (y == x) = true
    · rw [hy]; simpa using hy
    · rw [Bool.not_eq_true] at hy
      rw [hy] at h ⊢
      simp only [cond_false, List.length_cons] at h ⊢
      exact ih (by omega)
theorem idx_ne {l : List Nat} {x i : Nat} (h : i < l.idxOf x) (hi : i < l.length) : l.getD i 0 ≠ x := by
  induction l generalizing i with
  | nil => simp at hi
  | cons y l ih =>
    rw [List.idxOf_cons] at h
    by_cases hy : (y == x) = true
    · rw [hy] at h; simp at h
    · rw [Bool.not_eq_true] at hy
      rw [hy] at h
      simp only [cond_false] at h
      cases i with
      | zero => simpa using hy
      | succ i =>
        have := ih (i := i) (by omega) (by simpa using hi)
        simpa using this
theorem idx_le (l : List Nat) (x : Nat) : l.idxOf x ≤ l.length := List.idxOf_le_length
/-- a row of states -/
def RowS (w : World) (g : Nat) (ps : List Nat) : Prop := ∃ cur : Array Value, w.heap[g]? = some (.cells cur 83 (0, 0)) ∧ cur.toList = bv ps
theorem RowS.lt {w : World} {g : Nat} {ps : List Nat} (h : RowS w g ps) : g < w.heap.size := by
  obtain ⟨cur, hg, _⟩ := h
  exact heap_lt hg
theorem RowS.cell {w : World} {g : Nat} {ps : List Nat} (h : RowS w g ps) {j : Nat} (hj : j < ps.length) : w.cell? ⟨g, j, none⟩ = some (.int .u8 (ps.getD j 0 : Nat)) := by
  obtain ⟨cur, hg, hc⟩ := h
  have hb := bv_get ps j hj
  rw [← hc] at hb
  exact cell_bk hg (by simpa using hb)
theorem RowS.frozen {w : World} {g : Nat} {ps : List Nat} (h : RowS w g ps) (j : Nat) : w.frozen? ⟨g, j, none⟩ = false := by
  obtain ⟨cur, hg, _⟩ := h
  exact froz_bk hg j
theorem RowS.below {B : Nat} {w w1 : World} {g : Nat} {ps : List Nat} (h : RowS w g ps) (hb : Below B w w1) (hg : g < B) : RowS w1 g ps := by
  obtain ⟨cur, hh, hc⟩ := h
  exact ⟨cur, (hb.block g hg).trans hh, hc⟩
theorem RowS.set {w : World} {g : Nat} {ps : List Nat} (h : RowS w g ps) (j : Nat) (x : Nat) : RowS (w.setCell ⟨g, j, none⟩ (.int .u8 (x : Nat))) g (ps.set j x) := by
  obtain ⟨cur, hh, hc⟩ := h
  refine ⟨cur.setIfInBounds j (.int .u8 (x : Nat)), by rw [blk_set hh], ?_⟩
  rw [Array.toList_setIfInBounds, hc, bv, bv, List.map_set]
/-- a pager -/
structure IsP (w : World) (gp gq g n : Nat) (p : Pg) : Prop where
  blk : w.heap[gp]? = some (.cells #[.iface 34 (.pointer (some ⟨g, 0, none⟩)), .int .u64 (p.sup.gen : Nat), .int .i64 p.sup.root, .int .u64 (p.sup.seq : Nat), .int .i64 p.sup.jn, .int .i64 p.sup.live, .slice (some ⟨gq, 0, none⟩) p.ps.length p.ps.length, .bool p.bad] 81 (0, 0))
  row : RowS w gq p.ps
  may : p.sup.may = true
  tot : 2 + p.sup.jn + p.ps.length = n
  n1 : n ≤ 1024
  sm : SmS p.ps
  n0 : 0 < p.ps.length
theorem IsP.below {w w1 : World} {gp gq g n : Nat} {p : Pg} (h : IsP w gp gq g n p) (hb : Below w.heap.size w w1) : IsP w1 gp gq g n p :=
  ⟨(hb.block gp (heap_lt h.blk)).trans h.blk, h.row.below hb h.row.lt, h.may, h.tot, h.n1, h.sm, h.n0⟩
theorem IsP.ne {w : World} {gp gq g n : Nat} {p : Pg} (h : IsP w gp gq g n p) : gp ≠ gq := by
  rintro rfl
  obtain ⟨cur, hh, _⟩ := h.row
  rw [h.blk] at hh
  simp at hh
/-- the blocks of a pager -/
def SP (gp gq i : Nat) : Prop := i = gp ∨ i = gq
/-- a pager's cells -/
structure PC (w : World) (gp gq g : Nat) (p : Pg) : Prop where
  c0 : w.cell? ⟨gp, 0, none⟩ = some (.iface 34 (.pointer (some ⟨g, 0, none⟩)))
  c4 : w.cell? ⟨gp, 4, none⟩ = some (.int .i64 p.sup.jn)
  c6 : w.cell? ⟨gp, 6, none⟩ = some (.slice (some ⟨gq, 0, none⟩) p.ps.length p.ps.length)
  c7 : w.cell? ⟨gp, 7, none⟩ = some (.bool p.bad)
  j0 : 1 ≤ p.sup.jn
  j1 : p.sup.jn ≤ 1024
  l1 : p.ps.length ≤ 1024
theorem IsP.pc {w : World} {gp gq g n : Nat} {p : Pg} (h : IsP w gp gq g n p) : PC w gp gq g p := by
  have hm := Sup.of_may h.may
  have ht := h.tot
  have hn := h.n1
  exact ⟨cell_bk h.blk rfl, cell_bk h.blk rfl, cell_bk h.blk rfl, cell_bk h.blk rfl, by omega, by omega, by omega⟩
theorem pready_nil (w : World) : Calls Try.prog 47 #[.pointer none] w fun e w' => e = .returned (.int .i64 1) ∧ w' = w := by
  go_enter Try.func47, Try.ntmps47
  go_wp2
  go_ret
  exact ⟨rfl, rfl⟩
theorem pready_any {w : World} {gp gq g n : Nat} {p : Pg} (h : IsP w gp gq g n p) : Calls Try.prog 47 #[.pointer (some ⟨gp, 0, none⟩)] w fun e w' => e = .returned (.int .i64 p.rdy) ∧ w' = w := by
  have c7 := h.pc.c7
  clear h
  unfold Pg.rdy
  generalize p.bad = bd at *
  cases bd
  · go_enter Try.func47, Try.ntmps47
    go_wp2
    go_ret
    exact ⟨rfl, rfl⟩
  · go_enter Try.func47, Try.ntmps47
    go_wp2
    go_ret
    exact ⟨rfl, rfl⟩
theorem pfirst_any {w : World} {gp gq g : Nat} {p : Pg} (h : PC w gp gq g p) : Calls Try.prog 56 #[.pointer (some ⟨gp, 0, none⟩)] w fun e w' => e = .returned (.int .i64 (2 + p.sup.jn)) ∧ w' = w := by
  obtain ⟨_, c4, _, _, j0, j1, _⟩ := h
  have HF := hide (first_any p.sup.jn (by omega) (by omega) w)
  generalize p.sup.jn = jn at *
  clear j0 j1
  go_enter Try.func56, Try.ntmps56
  go_wp2_with fail
  refine HF.out.mono ?_
  rintro e w1 ⟨rfl, rfl⟩
  go_wp2
  go_ret
  exact ⟨rfl, rfl⟩
theorem pages_nil (w : World) : Calls Try.prog 24 #[.pointer none] w fun e w' => e = .returned (.int .i64 0) ∧ w' = w := by
  go_enter Try.func24, Try.ntmps24
  go_wp2
  go_ret
  exact ⟨rfl, rfl⟩
theorem pages_any {w : World} {gp gq g n : Nat} {p : Pg} (h : IsP w gp gq g n p) : Calls Try.prog 24 #[.pointer (some ⟨gp, 0, none⟩)] w fun e w' => e = .returned (.int .i64 (p.ps.length : Nat)) ∧ w' = w := by
  have c6 := h.pc.c6
  clear h
  generalize p.ps.length = L at *
  go_enter Try.func24, Try.ntmps24
  go_wp2
  go_ret
  exact ⟨rfl, rfl⟩
theorem used_nil (w : World) : Calls Try.prog 25 #[.pointer none] w fun e w' => e = .returned (.int .i64 0) ∧ w' = w := by
  go_enter Try.func25, Try.ntmps25
  go_wp2
  go_ret
  exact ⟨rfl, rfl⟩
theorem used_any {w : World} {gp gq g n : Nat} {p : Pg} (h : IsP w gp gq g n p) : Calls Try.prog 25 #[.pointer (some ⟨gp, 0, none⟩)] w fun e w' => e = .returned (.int .i64 (usedN p.ps : Nat)) ∧ w' = w := by
  have c6 := h.pc.c6
  have l1 := h.pc.l1
  have HR := hide h.row
  obtain ⟨L, hL⟩ : ∃ L, p.ps.length = L := ⟨_, rfl⟩
  rw [hL] at c6 l1
  have HL := hide hL
  clear h hL
  go_enter Try.func25, Try.ntmps25
  go_wp2_with fail
  go_loopw [13, 3] (fun i n wr => ∃ j u : Nat, j ≤ L ∧ u ≤ j ∧ i = .int .i64 (j : Nat) ∧ n = .int .i64 (u : Nat) ∧ Hid (u = usedN (p.ps.take j)) ∧ wr = w) (fun i _ _ => L - (intOf i).toNat)
  case atStart => exact ⟨0, 0, Nat.zero_le _, Nat.le_refl _, rfl, rfl, hide rfl, rfl⟩
  case round =>
    obtain ⟨j, u, hj, hu, rfl, rfl, HU, rfl⟩ := hrel
    by_cases hjk : j < L
    · have hc := HR.out.cell (j := j) (by rw [HL.out]; exact hjk)
      have HT := hide (usedN_take (l := p.ps) (j := j) (by rw [HL.out]; exact hjk))
      generalize p.ps.getD j 0 = x at *
      by_cases hx : x = 0
      · have HU2 : Hid (u = usedN (p.ps.take (j + 1))) := hide (by rw [HT.out, if_pos hx, HU.out, Nat.add_zero])
        subst hx
        clear HT HU
        go_wp2_with fail
        exact ⟨⟨j + 1, u, by omega, by omega, by simp, rfl, HU2, trivial⟩, by simp [intOf]; omega⟩
      · have HU2 : Hid (u + 1 = usedN (p.ps.take (j + 1))) := hide (by rw [HT.out, if_neg hx, HU.out])
        have e0 : ((x : Int) != 0) = true := by simpa using hx
        clear HT HU hx
        go_wp2_with fail
        exact ⟨⟨j + 1, u + 1, by omega, by omega, by simp, by simp, HU2, trivial⟩, by simp [intOf]; omega⟩
    · have : j = L := by omega
      subst this
      have HU2 : Hid (u = usedN p.ps) := hide (by rw [HU.out, List.take_of_length_le (by rw [HL.out]; exact Nat.le_refl _)])
      go_wp2_with fail
      go_ret
      exact ⟨by rw [← HU2.out]; rfl, rfl⟩
theorem settled_any (x : Nat) (w : World) : Calls Try.prog 50 #[.int .u8 (x : Nat)] w fun e w' => e = .returned (.int .u8 (settleN x : Nat)) ∧ w' = w := by
  unfold settleN
  by_cases h1 : x = 1
  · subst h1
    go_enter Try.func50, Try.ntmps50
    go_wp2
    go_ret
    exact ⟨rfl, rfl⟩
  · have e1 : ((x : Int) == 1) = false := by simp; omega
    rw [if_neg h1]
    by_cases h3 : x = 3
    · subst h3
      go_enter Try.func50, Try.ntmps50
      go_wp2
      go_ret
      exact ⟨rfl, rfl⟩
    · have e3 : ((x : Int) == 3) = false := by simp; omega
      rw [if_neg h3]
      clear h1 h3
      go_enter Try.func50, Try.ntmps50
      go_wp2
      go_ret
      exact ⟨rfl, rfl⟩
/-- what slices.Index answers -/
def idxI (l : List Nat) (x : Nat) : Int := if l.idxOf x < l.length then (l.idxOf x : Nat) else -1
theorem index_any (w : World) (a : Option Addr) (len cap : Nat) (l : List Nat) (h : IsB w a len cap l) (hl : len ≤ 1024) (x : Nat) : Calls Try.prog 55 #[.slice a len cap, .int .u8 (x : Nat)] w fun e w' => e = .returned (.int .i64 (idxI l x)) ∧ w' = w := by
  have H := hide h
  have HL := hide h.1
  clear h
  go_enter Try.func55, Try.ntmps55
  go_wp2_with fail
  go_loopw [8] (fun i wr => ∃ j : Nat, j ≤ len ∧ i = .int .i64 (j : Nat) ∧ Hid (∀ i, i < j → l.getD i 0 ≠ x) ∧ wr = w) (fun i _ => len - (intOf i).toNat)
  case atStart => exact ⟨0, Nat.zero_le _, rfl, hide (fun i hi => absurd hi (Nat.not_lt_zero _)), rfl⟩
  case round =>
    obtain ⟨j, hj, rfl, HA, rfl⟩ := hrel
    by_cases hjk : j < len
    · rcases H.out.2.2.2.2 with ⟨h0, _⟩ | ⟨b, off, rfl, hlt, hc⟩
      · omega
      have hcj := hc j hjk
      obtain ⟨y, hy⟩ : ∃ y, l.getD j 0 = y := ⟨_, rfl⟩
      rw [hy] at hcj
      by_cases hx : x = y
      · have e0 : ((x : Int) == (y : Int)) = true := by rw [hx]; simp
        have HI : Hid (idxI l x = (j : Int)) := hide (by
          have := idx_eq HA.out (by rw [HL.out]; exact hjk) (hy.trans hx.symm)
          rw [idxI, this, if_pos (by rw [HL.out]; exact hjk)])
        clear hc HA hy hx
        go_wp2_with fail
        go_ret
        exact ⟨by rw [HI.out]; rfl, rfl⟩
      · have e0 : ((x : Int) == (y : Int)) = false := by simp; omega
        have HA2 : Hid (∀ i, i < j + 1 → l.getD i 0 ≠ x) := hide (by
          intro i hi
          rcases Nat.lt_or_ge i j with h | h
          · exact HA.out i h
          · have : i = j := by omega
            subst this
            rw [hy]
            exact fun e => hx e.symm)
        have hwj : wrap64 ((j : Int) + 1) = (j : Int) + 1 := wr64 _ (by omega) (by omega)
        clear hc HA hy hx
        go_wp2_with fail
        exact ⟨⟨j + 1, by omega, by simp, HA2, trivial⟩, by simp [intOf]; omega⟩
    · have : j = len := by omega
      subst this
      have HI : Hid (idxI l x = -1) := hide (by
        have := idx_none (l := l) (x := x) (fun i hi => HA.out i (by rw [← HL.out]; exact hi))
        rw [idxI, this, if_neg (by omega)])
      go_wp2_with fail
      go_ret
      exact ⟨by rw [HI.out]; rfl, rfl⟩
theorem contains_any (w : World) (a : Option Addr) (len cap : Nat) (l : List Nat) (h : IsB w a len cap l) (hl : len ≤ 1024) (x : Nat) : Calls Try.prog 65 #[.slice a len cap, .int .u8 (x : Nat)] w fun e w' => e = .returned (.bool (l.contains x)) ∧ w' = w := by
  have HI := hide (index_any w a len cap l h hl x)
  have HC : Hid (decide ((0 : Int) ≤ idxI l x) = l.contains x) := hide (by
    rw [Bool.eq_iff_iff, decide_eq_true_eq, List.contains_iff_mem, ← List.idxOf_lt_length_iff, idxI]
    split <;> simp_all)
  generalize idxI l x = k at *
  clear h
  go_enter Try.func65, Try.ntmps65
  go_wp2_with fail
  refine HI.out.mono ?_
  rintro e w1 ⟨rfl, rfl⟩
  go_wp2
  go_ret
  exact ⟨by rw [← HC.out]; rfl, rfl⟩
end Go.Proofs.Ytecmfpgccmmlpaa
