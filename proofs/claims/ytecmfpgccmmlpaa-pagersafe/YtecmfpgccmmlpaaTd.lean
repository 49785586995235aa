/- PagerSafe: its calls -/
import Derived.Test.YtecmfpgccmmlpaaTc
namespace Go.Proofs.Ytecmfpgccmmlpaa
open Go.RowKit
set_option maxRecDepth 100000
set_option linter.unusedVariables false
set_option linter.unusedSimpArgs false
/-- ahead of the commit, between two rounds -/
def LA (w W : World) (gp gq g gs b n : Nat) (kv tv : Value) : Prop := ∃ p st ks ts, PD w W gp gq g gs b n p st ∧ Kp w W kv tv ks ts ∧ SfA n p st ks ts
/-- a page has been given out -/
def MA (w W : World) (gp gq g gs b n : Nat) (kv tv : Value) (P : Nat) : Prop := ∃ p st ks ts, PD w W gp gq g gs b n { p with ps := p.ps.set (P - 4) 1 } st ∧ Kp w W kv tv ks ts ∧ SfA n p st ks ts ∧ p.ps.idxOf 0 < p.ps.length ∧ p.alloc = ({ p with ps := p.ps.set (P - 4) 1 }, (P : Int), 0)
/-- and written: l is its text -/
def NA (w W : World) (gp gq g gs b n : Nat) (kv tv : Value) (P : Nat) (l : List Nat) : Prop := ∃ p st ks ts, PD w W gp gq g gs b n p st ∧ Kp w W kv tv ks ts ∧ SfA n p st (ks ++ [P]) (ts ++ [full l])
/-- its number is laid down -/
def OA (w W : World) (gp gq g gs b n : Nat) (kv tv : Value) (l : List Nat) : Prop := ∃ p st ks ts, PD w W gp gq g gs b n p st ∧ Kp w W kv tv ks ts ∧ SfA n p st ks (ts ++ [full l])
theorem LA.b {w W : World} {gp gq g gs b n : Nat} {kv tv : Value} (h : LA w W gp gq g gs b n kv tv) : Below w.heap.size w W := by obtain ⟨p, st, ks, ts, h1, _⟩ := h; exact h1.b
theorem MA.b {w W : World} {gp gq g gs b n P : Nat} {kv tv : Value} (h : MA w W gp gq g gs b n kv tv P) : Below w.heap.size w W := by obtain ⟨p, st, ks, ts, h1, _⟩ := h; exact h1.b
theorem NA.b {w W : World} {gp gq g gs b n P : Nat} {kv tv : Value} {l : List Nat} (h : NA w W gp gq g gs b n kv tv P l) : Below w.heap.size w W := by obtain ⟨p, st, ks, ts, h1, _⟩ := h; exact h1.b
theorem OA.b {w W : World} {gp gq g gs b n : Nat} {kv tv : Value} {l : List Nat} (h : OA w W gp gq g gs b n kv tv l) : Below w.heap.size w W := by obtain ⟨p, st, ks, ts, h1, _⟩ := h; exact h1.b
theorem OA.below {w W W' : World} {gp gq g gs b n : Nat} {kv tv : Value} {l : List Nat} (h : OA w W gp gq g gs b n kv tv l) (hb : Below W.heap.size W W') : OA w W' gp gq g gs b n kv tv l := by
  obtain ⟨p, st, ks, ts, h1, h2, h3⟩ := h
  exact ⟨p, st, ks, ts, h1.below hb, h2.below hb, h3⟩
theorem LA.alloc {w W : World} {gp gq g gs b n : Nat} {kv tv : Value} (h : LA w W gp gq g gs b n kv tv) : Calls Try.prog 23 #[.pointer (some ⟨gp, 0, none⟩)] W fun e W' => (e = .returned (.tuple #[.int .i64 0, .int .i64 7]) ∧ LA w W' gp gq g gs b n kv tv) ∨ ∃ P : Nat, P < 1024 ∧ e = .returned (.tuple #[.int .i64 (P : Int), .int .i64 0]) ∧ MA w W' gp gq g gs b n kv tv P := by
  obtain ⟨p, st, ks, ts, h1, h2, h3⟩ := h
  refine (alloc_any h1.p).mono ?_
  rintro e W' ⟨rfl, q2, q3⟩
  have hk := h2.frmP h1.p q3
  have hpd := h1.frmP q2 q3
  by_cases hi : p.ps.idxOf 0 < p.ps.length
  · obtain ⟨P, p1, p2, p3, _⟩ := h3.step hi []
    rw [p3] at hpd
    refine .inr ⟨P, by have := h1.p.n1; omega, by rw [p3], p, st, ks, ts, hpd, hk, h3, hi, p3⟩
  · have ha := alloc_full h3.std.bad hi
    rw [ha] at hpd
    exact .inl ⟨by rw [ha], p, st, ks, ts, hpd, hk, h3⟩
theorem MA.write {w W : World} {gp gq g gs b n P : Nat} {kv tv : Value} (h : MA w W gp gq g gs b n kv tv P) (hP : P < 1024) (a : Option Addr) (len cap : Nat) (l : List Nat) (hl : IsB W a len cap l) : Calls Try.prog 29 #[.pointer (some ⟨gp, 0, none⟩), .int .i64 (P : Int), .slice a len cap] W fun e W' => (∃ er : Int, er ≠ 0 ∧ e = .returned (.int .i64 er) ∧ LA w W' gp gq g gs b n kv tv) ∨ (len ≤ 4096 ∧ e = .returned (.int .i64 0) ∧ NA w W' gp gq g gs b n kv tv P l) := by
  obtain ⟨p, st, ks, ts, h1, h2, h3, hi, ha⟩ := h
  obtain ⟨P', p1, p2, p3, p4, p5, p6⟩ := h3.step hi l
  obtain rfl : P' = P := by
    rw [ha] at p3
    have := congrArg (fun x => x.2.1) p3
    simp at this
    omega
  have hll := hl.1
  have hn1 := h1.p.n1
  have hwr := h3.wr
  have hus := usedN_le p.ps
  have ht := h3.tot
  refine (pwrite_any h1.p h1.d (P' : Int) (by omega) (by omega) a len cap l hl (by omega)).mono ?_
  rintro e W' ⟨rfl, q2, q3, q4⟩
  have hk := h2.frm2 h1.p h1.d q4
  have hpd := h1.frm2 q2 q3 q4
  rw [p4] at hpd ⊢
  by_cases hl4 : l.length ≤ 4096
  · rw [if_pos hl4] at hpd ⊢
    rw [if_pos hl4]
    exact .inr ⟨by omega, rfl, _, _, ks, ts, hpd, hk, p5 hl4⟩
  · rw [if_neg hl4] at hpd ⊢
    rw [if_neg hl4]
    exact .inl ⟨4, by decide, rfl, _, _, ks, ts, hpd, hk, p6 hl4⟩
/-- what an append to the list of pages asks, and leaves -/
theorem NA.key {w W : World} {gp gq g gs b n P : Nat} {kv tv : Value} {l : List Nat} (h : NA w W gp gq g gs b n kv tv P l) : ∃ m xs, m ≤ 1024 ∧ (W.alloc (.cells #[.int .i64 (P : Int)] 3)).ownsRow w.heap.size 3 1 kv m xs ∧ ∀ v' W', W'.ownsRow w.heap.size 3 1 v' (m + 1) (xs ++ [.int .i64 (P : Int)]) → (W.alloc (.cells #[.int .i64 (P : Int)] 3)).grownBy W' kv.ownBlock → OA w W' gp gq g gs b n v' tv l := by
  obtain ⟨p, st, ks, ts, h1, h2, h3⟩ := h
  have hba : Below W.heap.size W (W.alloc (.cells #[.int .i64 (P : Int)] 3)) := (Below.refl _ _).alloc (Nat.le_refl _) _
  have hk := h2.below hba
  have hpd := h1.below hba
  have hm : ks.length ≤ 1024 := by
    have := h3.few
    have := usedN_le p.ps
    have := h3.tot
    have := h1.p.n1
    simp at *
    omega
  refine ⟨_, _, hm, hk.k, fun v' W' ho hg => ?_⟩
  have hr := own_blk hk.k
  refine ⟨p, st, ks ++ [P], ts, hpd.grown hg (fun k hkk => ?_), ⟨?_, own_grown hk.t hg (fun k hkk => ?_)⟩, h3⟩
  · obtain ⟨r1, cur, r2⟩ := hr k hkk
    exact ⟨r1, 3, cur, .inl rfl, r2⟩
  · simpa using ho
  · obtain ⟨r1, cur, r2⟩ := hr k hkk
    exact ⟨3, cur, by decide, r2⟩
theorem OA.text {w W : World} {gp gq g gs b n : Nat} {kv tv : Value} {l : List Nat} (h : OA w W gp gq g gs b n kv tv l) : ∃ m xs, m ≤ 1024 ∧ (W.alloc (.cells #[.string (str (full l))] 9)).ownsRow w.heap.size 9 1 tv m xs ∧ ∀ v' W', W'.ownsRow w.heap.size 9 1 v' (m + 1) (xs ++ [.string (str (full l))]) → (W.alloc (.cells #[.string (str (full l))] 9)).grownBy W' tv.ownBlock → LA w W' gp gq g gs b n kv v' := by
  obtain ⟨p, st, ks, ts, h1, h2, h3⟩ := h
  have hba : Below W.heap.size W (W.alloc (.cells #[.string (str (full l))] 9)) := (Below.refl _ _).alloc (Nat.le_refl _) _
  have hk := h2.below hba
  have hpd := h1.below hba
  have hm : ts.length ≤ 1024 := by
    have := h3.few
    have := h3.tl
    have := usedN_le p.ps
    have := h3.tot
    have := h1.p.n1
    simp at *
    omega
  refine ⟨_, _, hm, hk.t, fun v' W' ho hg => ?_⟩
  have hr := own_blk hk.t
  refine ⟨p, st, ks, ts ++ [full l], hpd.grown hg (fun k hkk => ?_), ⟨own_grown hk.k hg (fun k hkk => ?_), ?_⟩, h3⟩
  · obtain ⟨r1, cur, r2⟩ := hr k hkk
    exact ⟨r1, 9, cur, .inr rfl, r2⟩
  · obtain ⟨r1, cur, r2⟩ := hr k hkk
    exact ⟨9, cur, by decide, r2⟩
  · simpa using ho
/-- behind the commit: i pages given back -/
def LB (w W : World) (gp gq g gs b n : Nat) (kv tv : Value) (ks : List Nat) (ts : List (List Nat)) (i : Nat) : Prop := ∃ p st, PD w W gp gq g gs b n p st ∧ Kp w W kv tv ks ts ∧ SfB n p st ks ts i
theorem LB.b {w W : World} {gp gq g gs b n i : Nat} {kv tv : Value} {ks : List Nat} {ts : List (List Nat)} (h : LB w W gp gq g gs b n kv tv ks ts i) : Below w.heap.size w W := by obtain ⟨p, st, h1, _⟩ := h; exact h1.b
theorem LA.commit {w W : World} {gp gq g gs b n : Nat} {kv tv : Value} (h : LA w W gp gq g gs b n kv tv) : Calls Try.prog 17 #[.pointer (some ⟨gp, 0, none⟩), .int .i64 0, .int .u64 1, .int .i64 0] W fun e W' => e = .returned (.int .i64 0) ∧ ∃ ks ts, LB w W' gp gq g gs b n kv tv ks ts 0 := by
  obtain ⟨p, st, ks, ts, h1, h2, h3⟩ := h
  obtain ⟨c1, c2⟩ := h3.commit h1.p.n1
  have hn1 := h1.p.n1
  have hwr := h3.wr
  have hus := usedN_le p.ps
  have ht := h3.tot
  refine (commit_any h1.p h1.d 0 1 0 (by omega) (by omega) (by omega)).mono ?_
  rintro e W' ⟨rfl, q2, q3, q4⟩
  have hk := h2.frm2 h1.p h1.d q4
  have hpd := h1.frm2 q2 q3 q4
  rw [c1] at hpd ⊢
  exact ⟨rfl, ks, ts, _, _, hpd, hk, c2⟩
/-- the list of pages, as the walk has it -/
theorem Kp.keys {w W : World} {kv tv : Value} {ks : List Nat} {ts : List (List Nat)} (h : Kp w W kv tv ks ts) : ∃ a cap, kv = .slice a ks.length cap := by
  obtain ⟨a, cap, e, _⟩ := own_slice h.k
  exact ⟨a, cap, e⟩
theorem Kp.isK {w W : World} {a : Option Addr} {len cap : Nat} {tv : Value} {ks : List Nat} {ts : List (List Nat)} (h : Kp w W (.slice a len cap) tv ks ts) (hs : ∀ i, i < ks.length → kAt ks i < 1024) : IsK W a len cap (iN ks) ∧ len = ks.length ∧ ∀ b off, a = some ⟨b, off, none⟩ → w.heap.size ≤ b ∧ ∃ cur, W.heap[b]? = some (.cells cur 3 (0, 0)) := by
  obtain ⟨a', cap', e, h1, h2, h3, h4, h5⟩ := own_slice h.k
  cases e
  refine ⟨⟨iN_length ks, h1, h2, h3, fun i hi => ?_⟩, rfl, h4⟩
  obtain ⟨q, e, hq, hc⟩ := h5 i hi
  rw [iN_get]
  have := hs i hi
  unfold kAt at this
  refine ⟨⟨by omega, by omega⟩, q, 0, e, hq, ?_⟩
  rw [Nat.zero_add, hc, List.getElem?_map, List.getD_eq_getElem?_getD, List.getElem?_eq_getElem hi]
  rfl
theorem Kp.key {w W : World} {a : Option Addr} {len cap : Nat} {tv : Value} {ks : List Nat} {ts : List (List Nat)} (h : Kp w W (.slice a len cap) tv ks ts) (i : Nat) (hi : i < ks.length) : ∃ q, a = some ⟨q, 0, none⟩ ∧ W.cell? ⟨q, i, none⟩ = some (.int .i64 (kAt ks i : Nat)) := by
  obtain ⟨a', cap', e, h1, h2, h3, h4, h5⟩ := own_slice h.k
  cases e
  obtain ⟨q, e, hq, hc⟩ := h5 i hi
  refine ⟨q, e, ?_⟩
  rw [hc, List.getElem?_map, kAt, List.getD_eq_getElem?_getD, List.getElem?_eq_getElem hi]
  rfl
theorem Kp.text {w W : World} {a : Option Addr} {len cap : Nat} {kv : Value} {ks : List Nat} {ts : List (List Nat)} (h : Kp w W kv (.slice a len cap) ks ts) (i : Nat) (hi : i < ts.length) : ∃ q, a = some ⟨q, 0, none⟩ ∧ W.cell? ⟨q, i, none⟩ = some (.string (str (ts.getD i []))) := by
  obtain ⟨a', cap', e, h1, h2, h3, h4, h5⟩ := own_slice h.t
  cases e
  obtain ⟨q, e, hq, hc⟩ := h5 i hi
  refine ⟨q, e, ?_⟩
  rw [hc, List.getElem?_map, List.getD_eq_getElem?_getD, List.getElem?_eq_getElem hi]
  rfl
theorem Kp.texts {w W : World} {kv tv : Value} {ks : List Nat} {ts : List (List Nat)} (h : Kp w W kv tv ks ts) : ∃ a cap, tv = .slice a ts.length cap ∧ ts.length ≤ cap := by
  obtain ⟨a, cap, e, h1, _⟩ := own_slice h.t
  exact ⟨a, cap, e, h1⟩
theorem LB.small {w W : World} {gp gq g gs b n i : Nat} {kv tv : Value} {ks : List Nat} {ts : List (List Nat)} (h : LB w W gp gq g gs b n kv tv ks ts i) : (∀ j, j < ks.length → kAt ks j < 1024) ∧ ks.length ≤ 1024 ∧ ts.length = ks.length := by
  obtain ⟨p, st, h1, h2, h3⟩ := h
  have := h1.p.n1
  exact ⟨fun j hj => by have := (h3.pg j hj).2.1; omega, by have := h3.few; omega, h3.tl⟩
theorem LB.skip {w W : World} {gp gq g gs b n i : Nat} {kv tv : Value} {ks : List Nat} {ts : List (List Nat)} (h : LB w W gp gq g gs b n kv tv ks ts i) : LB w W gp gq g gs b n kv tv ks ts (i + 1) := by
  obtain ⟨p, st, h1, h2, h3⟩ := h
  exact ⟨p, st, h1, h2, h3.skip⟩
theorem LB.free {w W : World} {gp gq g gs b n i : Nat} {kv tv : Value} {ks : List Nat} {ts : List (List Nat)} (h : LB w W gp gq g gs b n kv tv ks ts i) (hi : i < ks.length) : Calls Try.prog 26 #[.pointer (some ⟨gp, 0, none⟩), .int .i64 (kAt ks i : Nat)] W fun e W' => e = .returned (.int .i64 0) ∧ LB w W' gp gq g gs b n kv tv ks ts (i + 1) := by
  have hs := h.small.1 i hi
  obtain ⟨p, st, h1, h2, h3⟩ := h
  obtain ⟨f1, f2⟩ := h3.free hi
  refine (free_any h1.p (kAt ks i : Nat) (by omega) (by omega)).mono ?_
  rintro e W' ⟨rfl, q2, q3⟩
  exact ⟨by rw [f1], _, st, h1.frmP q2 q3, h2.frmP h1.p q3, f2⟩
/-- a page for another text -/
def MB (w W : World) (gp gq g gs b n : Nat) (kv tv : Value) (ks : List Nat) (ts : List (List Nat)) (P : Nat) : Prop := ∃ p st, PD w W gp gq g gs b n { p with ps := p.ps.set (P - 4) 1 } st ∧ Kp w W kv tv ks ts ∧ SfB n p st ks ts ks.length ∧ p.ps.idxOf 0 < p.ps.length ∧ p.alloc = ({ p with ps := p.ps.set (P - 4) 1 }, (P : Int), 0)
theorem MB.b {w W : World} {gp gq g gs b n P : Nat} {kv tv : Value} {ks : List Nat} {ts : List (List Nat)} (h : MB w W gp gq g gs b n kv tv ks ts P) : Below w.heap.size w W := by obtain ⟨p, st, h1, _⟩ := h; exact h1.b
theorem LB.alloc {w W : World} {gp gq g gs b n : Nat} {kv tv : Value} {ks : List Nat} {ts : List (List Nat)} (h : LB w W gp gq g gs b n kv tv ks ts ks.length) : Calls Try.prog 23 #[.pointer (some ⟨gp, 0, none⟩)] W fun e W' => (e = .returned (.tuple #[.int .i64 0, .int .i64 7]) ∧ LB w W' gp gq g gs b n kv tv ks ts ks.length) ∨ ∃ P : Nat, P < 1024 ∧ e = .returned (.tuple #[.int .i64 (P : Int), .int .i64 0]) ∧ MB w W' gp gq g gs b n kv tv ks ts P := by
  obtain ⟨p, st, h1, h2, h3⟩ := h
  refine (alloc_any h1.p).mono ?_
  rintro e W' ⟨rfl, q2, q3⟩
  have hk := h2.frmP h1.p q3
  have hpd := h1.frmP q2 q3
  by_cases hi : p.ps.idxOf 0 < p.ps.length
  · obtain ⟨P, p1, p2, p3, _⟩ := h3.other hi []
    rw [p3] at hpd
    refine .inr ⟨P, by have := h1.p.n1; omega, by rw [p3], p, st, hpd, hk, h3, hi, p3⟩
  · have ha := alloc_full h3.std.bad hi
    rw [ha] at hpd
    exact .inl ⟨by rw [ha], p, st, hpd, hk, h3⟩
theorem MB.write {w W : World} {gp gq g gs b n P : Nat} {kv tv : Value} {ks : List Nat} {ts : List (List Nat)} (h : MB w W gp gq g gs b n kv tv ks ts P) (hP : P < 1024) (a : Option Addr) (len cap : Nat) (l : List Nat) (hl : IsB W a len cap l) : Calls Try.prog 29 #[.pointer (some ⟨gp, 0, none⟩), .int .i64 (P : Int), .slice a len cap] W fun e W' => ∃ er : Int, e = .returned (.int .i64 er) ∧ LB w W' gp gq g gs b n kv tv ks ts ks.length := by
  obtain ⟨p, st, h1, h2, h3, hi, ha⟩ := h
  obtain ⟨P', p1, p2, p3, er, st', p4, p5⟩ := h3.other hi l
  obtain rfl : P' = P := by
    rw [ha] at p3
    have := congrArg (fun x => x.2.1) p3
    simp at this
    omega
  have hn1 := h1.p.n1
  have hwr := h3.wr
  have hus := usedN_le p.ps
  have ht := h3.tot
  refine (pwrite_any h1.p h1.d (P' : Int) (by omega) (by omega) a len cap l hl (by omega)).mono ?_
  rintro e W' ⟨rfl, q2, q3, q4⟩
  have hk := h2.frm2 h1.p h1.d q4
  have hpd := h1.frm2 q2 q3 q4
  rw [p4] at hpd ⊢
  exact ⟨er, rfl, _, _, hpd, hk, p5⟩
/-- the power is cut -/
def LX (w W : World) (g gs b n : Nat) (kv tv : Value) (ks : List Nat) (ts : List (List Nat)) : Prop := ∃ p st st', DD w W g gs b n st' ∧ Kp w W kv tv ks ts ∧ SfB n p st ks ts ks.length ∧ st'.down = true ∧ ∀ k, st'.reads k = st.reads k ∧ st'.fr k = st.fr k
/-- and comes again -/
def LC (w W : World) (g gs b n : Nat) (kv tv : Value) (ks : List Nat) (ts : List (List Nat)) : Prop := ∃ s st, DD w W g gs b n st ∧ Kp w W kv tv ks ts ∧ SfC n s st ks ts
theorem LX.b {w W : World} {g gs b n : Nat} {kv tv : Value} {ks : List Nat} {ts : List (List Nat)} (h : LX w W g gs b n kv tv ks ts) : Below w.heap.size w W := by obtain ⟨p, st, st', h1, _⟩ := h; exact h1.b
theorem LB.cut {w W : World} {gp gq g gs b n : Nat} {kv tv : Value} {ks : List Nat} {ts : List (List Nat)} (h : LB w W gp gq g gs b n kv tv ks ts ks.length) : Calls Try.prog 20 #[.pointer (some ⟨g, 0, none⟩)] W fun e W' => (∃ er : Int, e = .returned (.int .i64 er)) ∧ LX w W' g gs b n kv tv ks ts := by
  obtain ⟨p, st, h1, h2, h3⟩ := h
  refine (cut_any (X := NoX) W g gs b n st h1.d).mono ?_
  rintro e W' ⟨rfl, q2, q3⟩
  exact ⟨⟨_, rfl⟩, p, st, st.cut.1, h1.dd.frm q2 q3, h2.frmD h1.d q3, h3, cut_down st, fun k => cut_same st k⟩
theorem LX.rest {w W : World} {g gs b n : Nat} {kv tv : Value} {ks : List Nat} {ts : List (List Nat)} (h : LX w W g gs b n kv tv ks ts) (a : Option Addr) (len cap : Nat) (l : List (Nat × Nat)) (hF : IsF W a len cap l) : Calls Try.prog 21 #[.pointer (some ⟨g, 0, none⟩), .slice a len cap] W fun e W' => (e = .returned (.int .i64 0) ∧ LC w W' g gs b n kv tv ks ts) ∨ ∃ er : Int, er ≠ 0 ∧ l ≠ [] ∧ e = .returned (.int .i64 er) ∧ LX w W' g gs b n kv tv ks ts := by
  obtain ⟨p, st, st', h1, h2, h3, h4, h5⟩ := h
  refine (rest_any (X := NoX) W g gs b n st' h1.d a len cap l hF).mono ?_
  rintro e W' ⟨rfl, q2, q3⟩
  have hk := h2.frmD h1.d q3
  have hdd := h1.frm q2 q3
  by_cases hr : (st'.rest n l).2 = 0
  · exact .inl ⟨by rw [hr], p.sup, _, hdd, hk, h3.rest h4 h5 hr⟩
  · have hsame : (st'.rest n l).1 = st' := by
      unfold St.rest at hr ⊢
      rw [if_pos h4] at hr ⊢
      by_cases g1 : 1024 < l.length
      · rw [if_pos g1]
      · rw [if_neg g1] at hr ⊢
        by_cases g2 : goodB l = true
        · rw [if_pos g2] at hr; exact absurd rfl hr
        · rw [if_neg g2]
    rw [hsame] at hdd
    exact .inr ⟨_, hr, fun e => hr (by rw [e]; exact rest_nil_ok h4), rfl, p, st, st', hdd, hk, h3, h4, h5⟩
theorem LX.restNil {w W : World} {g gs b n : Nat} {kv tv : Value} {ks : List Nat} {ts : List (List Nat)} (h : LX w W g gs b n kv tv ks ts) : Calls Try.prog 21 #[.pointer (some ⟨g, 0, none⟩), .slice none 0 0] W fun e W' => e = .returned (.int .i64 0) ∧ LC w W' g gs b n kv tv ks ts := by
  refine (h.rest none 0 0 [] ⟨rfl, Nat.le_refl _, Nat.zero_le _, by simp, fun i hi => by omega⟩).mono ?_
  rintro e W' (h | ⟨_, _, h, _⟩)
  · exact h
  · exact absurd rfl h
/-- the pager that is opened behind it -/
def LD (w W : World) (gp gq g gs b n : Nat) (kv tv : Value) (ks : List Nat) (ts : List (List Nat)) : Prop := ∃ s st, PD w W gp gq g gs b n ⟨s, List.replicate (n - 4) 0, false⟩ st ∧ Kp w W kv tv ks ts ∧ SfC n s st ks ts
def LE (w W : World) (gp gq g gs b n : Nat) (kv tv : Value) (ks : List Nat) (ts : List (List Nat)) : Prop := ∃ s st, PD w W gp gq g gs b n ((⟨s, List.replicate (n - 4) 0, false⟩ : Pg).keeps ks) st ∧ Kp w W kv tv ks ts ∧ SfC n s st ks ts
theorem LE.b {w W : World} {gp gq g gs b n : Nat} {kv tv : Value} {ks : List Nat} {ts : List (List Nat)} (h : LE w W gp gq g gs b n kv tv ks ts) : Below w.heap.size w W := by obtain ⟨s, st, h1, _⟩ := h; exact h1.b
theorem LC.opens {w W : World} {g gs b n : Nat} {kv tv : Value} {ks : List Nat} {ts : List (List Nat)} (h : LC w W g gs b n kv tv ks ts) : Calls Try.prog 16 #[.pointer (some ⟨g, 0, none⟩)] W fun e W' => ∃ gp gq, e = .returned (.tuple #[.pointer (some ⟨gp, 0, none⟩), .int .i64 0]) ∧ LD w W' gp gq g gs b n kv tv ks ts := by
  obtain ⟨s, st, h1, h2, h3⟩ := h
  obtain ⟨o1, o2⟩ := h3.opn
  refine (open_any W g gs b n st h1.d).mono ?_
  rintro e W' ⟨k1, k2⟩
  rcases k1 with ⟨_, gp, gq, rfl, h3', h4, h5⟩ | ⟨k3, _⟩
  · rw [o2] at h3'
    exact ⟨gp, gq, rfl, s, st, ⟨h1.d.below k2, h3', ⟨Nat.le_trans h1.b.size h4, Nat.le_trans h1.b.size h5, h1.lo⟩, h1.b.trans (k2.mono h1.b.size)⟩, h2.below k2, h3⟩
  · exact absurd o1 k3
theorem LD.keep {w W : World} {gp gq g gs b n len cap : Nat} {a : Option Addr} {tv : Value} {ks : List Nat} {ts : List (List Nat)} (h : LD w W gp gq g gs b n (.slice a len cap) tv ks ts) : Calls Try.prog 28 #[.pointer (some ⟨gp, 0, none⟩), .slice a len cap] W fun e W' => e = .returned (.int .i64 0) ∧ LE w W' gp gq g gs b n (.slice a len cap) tv ks ts := by
  obtain ⟨s, st, h1, h2, h3⟩ := h
  have hn1 := h1.p.n1
  obtain ⟨k1, k2, k3⟩ := h2.isK (fun i hi => by have := (h3.pg i hi).2; omega)
  have hkl : ks.length ≤ 1024 := by
    have := (h3.keeps ks.length (Nat.le_refl _)).1
    have hl := keeps_len (⟨s, List.replicate (n - 4) 0, false⟩ : Pg) (ks.take ks.length)
    have hu := usedN_le ((⟨s, List.replicate (n - 4) 0, false⟩ : Pg).keeps (ks.take ks.length)).ps
    rw [this, hl] at hu
    simp at hu
    omega
  refine (keep_ok h1.p rfl a len cap ks k1 (fun i hi => h3.is i (by omega)) (fun i j hij hj => h3.nd i j hij (by omega)) (fun q off e => ?_) (by omega)).mono ?_
  · obtain ⟨_, cur, hh⟩ := k3 q off e
    refine ⟨fun e => ?_, fun e => ?_⟩
    · exact SP.noT h1.p (.inl rfl) (.inl e) hh
    · exact SP.noT h1.p (.inl rfl) (.inr e) hh
  · rintro e W' ⟨rfl, q2, q3⟩
    exact ⟨rfl, s, st, h1.frmP q2 q3, h2.frmP h1.p q3, h3⟩
theorem LE.page {w W : World} {gp gq g gs b n i : Nat} {kv tv : Value} {ks : List Nat} {ts : List (List Nat)} (h : LE w W gp gq g gs b n kv tv ks ts) (hi : i < ks.length) : Calls Try.prog 27 #[.pointer (some ⟨gp, 0, none⟩), .int .i64 (kAt ks i : Nat)] W fun e W' => ∃ a len cap, e = .returned (.tuple #[.slice a len cap, .int .i64 0]) ∧ IsB W' a len cap (ts.getD i []) ∧ LE w W' gp gq g gs b n kv tv ks ts := by
  obtain ⟨s, st, h1, h2, h3⟩ := h
  have hn1 := h1.p.n1
  have hk := (h3.pg i hi).2
  obtain ⟨p1, p2⟩ := h3.last.2 i hi
  refine (page_any h1.p h1.d (kAt ks i : Nat) (by omega) (by omega)).mono ?_
  rintro e W' ⟨a, len, cap, rfl, q2, q3⟩
  rw [p2] at q2
  exact ⟨a, len, cap, by rw [p1], q2, s, st, h1.below q3, h2.below q3, h3⟩
theorem LE.used {w W : World} {gp gq g gs b n : Nat} {kv tv : Value} {ks : List Nat} {ts : List (List Nat)} (h : LE w W gp gq g gs b n kv tv ks ts) : Calls Try.prog 25 #[.pointer (some ⟨gp, 0, none⟩)] W fun e W' => e = .returned (.int .i64 (ks.length : Nat)) ∧ W' = W := by
  obtain ⟨s, st, h1, h2, h3⟩ := h
  have := used_any h1.p
  rw [h3.last.1] at this
  exact this
end Go.Proofs.Ytecmfpgccmmlpaa
