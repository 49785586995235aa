/- PagerApart, walked -/
import Derived.Test.YtecmfpgccmmlpaaLawGives
namespace Go.Proofs.Ytecmfpgccmmlpaa
open Go.RowKit
set_option maxRecDepth 100000
set_option linter.unusedVariables false
set_option linter.unusedSimpArgs false
theorem usedN_cons (y : Nat) (l : List Nat) : usedN (y :: l) = (if y = 0 then 0 else 1) + usedN l := by
  unfold usedN
  by_cases h : y = 0
  · subst h; simp
  · rw [List.filter_cons_of_pos (by simpa using h), if_neg h, List.length_cons]; omega
theorem usedN_set {l : List Nat} {j : Nat} (x : Nat) (h : j < l.length) : usedN (l.set j x) + (if l.getD j 0 = 0 then 0 else 1) = usedN l + (if x = 0 then 0 else 1) := by
  induction l generalizing j with
  | nil => simp at h
  | cons y l ih =>
    cases j with
    | zero =>
      rw [List.set_cons_zero, usedN_cons, usedN_cons, List.getD_cons_zero]
      omega
    | succ j =>
      have := ih (j := j) (by simpa using h)
      rw [List.set_cons_succ, usedN_cons, usedN_cons, List.getD_cons_succ]
      omega
theorem usedN_all {l : List Nat} (h : ∀ i, i < l.length → l.getD i 0 ≠ 0) : usedN l = l.length := by
  induction l with
  | nil => rfl
  | cons y l ih =>
    have h0 := h 0 (by simp)
    rw [List.getD_cons_zero] at h0
    have := ih (fun i hi => by have := h (i + 1) (by simpa using hi); simpa using this)
    rw [usedN_cons, if_neg h0, this, List.length_cons]; omega
/-- a row of truths -/
def RowU (w : World) (u n : Nat) (f : Nat → Bool) : Prop := ∃ cur : Array Value, w.heap[u]? = some (.cells cur 4 (0, 0)) ∧ cur.size = n ∧ ∀ k, k < n → cur[k]? = some (.bool (f k))
theorem RowU.cell {w : World} {u n : Nat} {f : Nat → Bool} (h : RowU w u n f) {k : Nat} (hk : k < n) : w.cell? ⟨u, k, none⟩ = some (.bool (f k)) := by
  obtain ⟨cur, hh, hs, hc⟩ := h
  exact cell_bk hh (hc k hk)
theorem RowU.frozen {w : World} {u n : Nat} {f : Nat → Bool} (h : RowU w u n f) (k : Nat) : w.frozen? ⟨u, k, none⟩ = false := by
  obtain ⟨cur, hh, _⟩ := h
  exact froz_bk hh k
theorem RowU.lt {w : World} {u n : Nat} {f : Nat → Bool} (h : RowU w u n f) : u < w.heap.size := by
  obtain ⟨cur, hh, _⟩ := h
  exact heap_lt hh
theorem RowU.set {w : World} {u n : Nat} {f g : Nat → Bool} (h : RowU w u n f) (k : Nat) (x : Bool) (hg : ∀ i, i < n → g i = if i = k then x else f i) : RowU (w.setCell ⟨u, k, none⟩ (.bool x)) u n g := by
  obtain ⟨cur, hh, hs, hc⟩ := h
  refine ⟨cur.setIfInBounds k (.bool x), by rw [blk_set hh], by simpa using hs, fun i hi => ?_⟩
  rw [Array.getElem?_setIfInBounds, hg i hi]
  by_cases e : k = i
  · subst e
    rw [if_pos rfl, if_pos rfl, if_pos (by omega)]
  · rw [if_neg e, if_neg (fun h => e h.symm)]; exact hc i hi
theorem RowU.frm {w w' : World} {u n : Nat} {f : Nat → Bool} {S : Nat → Prop} (h : RowU w u n f) (hf : Frm S w w') (hu : ¬ S u) : RowU w' u n f := by
  obtain ⟨cur, hh, hs, hc⟩ := h
  exact ⟨cur, (hf.block u (heap_lt hh) hu).trans hh, hs, hc⟩
theorem RowU.ne {w : World} {u n : Nat} {f : Nat → Bool} (h : RowU w u n f) {gp gq g gs b m : Nat} {p : Pg} {st : St} (hp : IsP w gp gq g m p) (hd : IsD NoX w g gs b m st) : u ≠ gp ∧ u ≠ gq ∧ ¬ SD g gs b u := by
  obtain ⟨cur, hh, _⟩ := h
  refine ⟨fun e => ?_, fun e => ?_, fun e => hd.noT (by decide) (by decide) e hh⟩
  · rw [e, hp.blk] at hh; simp at hh
  · obtain ⟨c, hc, _⟩ := hp.row
    rw [e, hc] at hh; simp at hh
/-- a truth turned -/
theorem PD.setU {w W : World} {gp gq g gs b n u m : Nat} {p : Pg} {st : St} {f : Nat → Bool} (h : PD w W gp gq g gs b n p st) (hr : RowU W u m f) (hu : w.heap.size ≤ u) (k : Nat) (x : Bool) : PD w (W.setCell ⟨u, k, none⟩ (.bool x)) gp gq g gs b n p st := by
  obtain ⟨n1, n2, n3⟩ := hr.ne h.p h.d
  obtain ⟨cur, hh, _⟩ := hr
  have hf : Frm (fun i => i = u) W (W.setCell ⟨u, k, none⟩ (.bool x)) := Frm.set (S := fun i => i = u) (Frm.refl _ _) rfl _
  refine ⟨h.d.kept (S := fun i => i = u) hf (by rintro i rfl e; exact n3 e) (K5.of_frm hf (fun i cur' m' hi => by rw [hi, hh]; simp)), ?_, h.lo, h.b.setCell hu _⟩
  refine ⟨(Below.heap_setCell _ _ _ _ (fun e => n1 e.symm)).trans h.p.blk, ?_, h.p.may, h.p.tot, h.p.n1, h.p.sm, h.p.n0⟩
  obtain ⟨c, hc, hl⟩ := h.p.row
  exact ⟨c, (Below.heap_setCell _ _ _ _ (fun e => n2 e.symm)).trans hc, hl⟩
/-- what is known between two rounds -/
structure Ap (n j len : Nat) (p : Pg) (M G : Nat) : Prop where
  bad : p.bad = false
  jn : p.sup.jn = (j : Int)
  tot : 2 + j + p.ps.length = n
  st : ∀ i, p.ps.getD i 0 = 0 ∨ p.ps.getD i 0 = 1
  many : M = usedN p.ps
  fr : ∃ F, G = M + F ∧ F ≤ G / 8 ∧ F ≤ len
def usF (j : Nat) (p : Pg) (k : Nat) : Bool := decide (2 + j ≤ k) && (p.ps.getD (k - (2 + j)) 0 == 1)
theorem Ap.le {n j len M G : Nat} {p : Pg} (h : Ap n j len p M G) : G + 2 + j ≤ n + len := by
  obtain ⟨F, h1, h2, h3⟩ := h.fr
  have := usedN_le p.ps
  have := h.many
  have := h.tot
  omega
/-- a page given out -/
theorem Ap.give {n j len M G : Nat} {p : Pg} (h : Ap n j len p M G) (hi : p.ps.idxOf 0 < p.ps.length) :
    ∃ P : Nat, 2 + j ≤ P ∧ P < n ∧ usF j p P = false ∧ p.alloc = ({ p with ps := p.ps.set (p.ps.idxOf 0) 1 }, (P : Int), 0) ∧ (∃ F, G + 1 = M + 1 + F ∧ F ≤ G / 8 ∧ F ≤ len) ∧ Ap n j len { p with ps := p.ps.set (p.ps.idxOf 0) 1 } (M + 1) (G + 1) ∧ ∀ i, i < n → usF j { p with ps := p.ps.set (p.ps.idxOf 0) 1 } i = if i = P then true else usF j p i := by
  have h0 := idx_get hi
  have ht := h.tot
  generalize hJ : p.ps.idxOf 0 = J at *
  obtain ⟨F, f1, f2, f3⟩ := h.fr
  refine ⟨2 + j + J, by omega, by omega, ?_, ?_, ⟨F, by omega, f2, f3⟩, ⟨h.bad, h.jn, by simpa using ht, fun i => ?_, ?_, F, by omega, by omega, f3⟩, fun i hin => ?_⟩
  · rw [usF, show 2 + j + J - (2 + j) = J by omega, h0]; simp
  · have := alloc_at h.bad hi h0 (fun i hij => by rw [← hJ] at hij; exact idx_ne hij (by omega))
    rw [this, h.jn]
    simp only [Prod.mk.injEq, true_and, and_true]
    omega
  · show (p.ps.set J 1).getD i 0 = 0 ∨ (p.ps.set J 1).getD i 0 = 1
    rw [getD_set]
    split
    · exact .inr rfl
    · exact h.st i
  · have := usedN_set 1 hi
    rw [h0, if_pos rfl, if_neg (by decide)] at this
    have := h.many
    show M + 1 = usedN (p.ps.set J 1)
    omega
  · show (decide (2 + j ≤ i) && ((p.ps.set J 1).getD (i - (2 + j)) 0 == 1)) = _
    rw [getD_set]
    by_cases e : i = 2 + j + J
    · rw [if_pos e, if_pos ⟨by omega, hi⟩]; simp; omega
    · rw [if_neg e]
      by_cases e2 : 2 + j ≤ i
      · rw [if_neg (fun h => e (by omega))]; rfl
      · simp [usF, e2]
/-- none is left -/
theorem Ap.full {n j len M G : Nat} {p : Pg} (h : Ap n j len p M G) (hi : ¬ p.ps.idxOf 0 < p.ps.length) : p.alloc = (p, 0, 7) ∧ M = p.ps.length ∧ usedN p.ps = M ∧ (M : Int) = (n : Int) - 2 - (j : Int) := by
  have hu := usedN_all (l := p.ps) (fun i hil => idx_ne (by have := idx_le p.ps 0; omega) hil)
  have hm := h.many
  have ht := h.tot
  refine ⟨?_, by omega, by omega, by omega⟩
  rw [Pg.alloc, if_neg (by rw [h.bad]; decide), if_neg hi]
/-- a page taken back, or none -/
theorem Ap.back {n j len M G : Nat} {p : Pg} (h : Ap n j len p M G) (hF : ∃ F, G = M + F ∧ F + 1 ≤ G / 8 ∧ F + 1 ≤ len) (k : Int) (is : Bool) (his : is = (decide (0 ≤ k) && decide (k < n) && usF j p k.toNat)) :
    ((p.free k).2 == 0) = is ∧ (is = false → (p.free k).1 = p) ∧ (is = true → ∃ M', M = M' + 1 ∧ Ap n j len (p.free k).1 M' G ∧ ∀ i, i < n → usF j (p.free k).1 i = if i = k.toNat then false else usF j p i) := by
  have ht := h.tot
  have hhas : p.has k = true ↔ (2 + (j : Int) ≤ k ∧ k < n) := by
    unfold Pg.has
    rw [decide_eq_true_eq, h.jn]
    omega
  have hsp : p.spot k = (k - (2 + (j : Int))).toNat := by rw [Pg.spot, h.jn]
  cases hi : is
  · rw [hi] at his
    have hc : ¬ p.chk k [1, 2] = 0 := by
      intro hc
      obtain ⟨_, hh, hcn⟩ := chk_zero hc
      obtain ⟨k1, k2⟩ := hhas.1 hh
      have hw : p.how k = 1 := by
        rw [Pg.how] at hcn ⊢
        rcases h.st (p.spot k) with e | e
        · rw [e] at hcn; exact absurd hcn (by decide)
        · exact e
      rw [Pg.how, hsp] at hw
      have e1 : decide (0 ≤ k) = true := decide_eq_true (by omega)
      have e2 : decide (k < (n : Int)) = true := decide_eq_true k2
      have e3 : usF j p k.toNat = true := by
        rw [usF, show k.toNat - (2 + j) = (k - (2 + (j : Int))).toNat by omega, hw]
        simp; omega
      rw [e1, e2, e3] at his
      exact absurd his (by decide)
    rw [Pg.free, if_neg hc]
    exact ⟨by simpa using hc, fun _ => rfl, fun e => absurd e (by decide)⟩
  · rw [hi] at his
    have hx := his.symm
    simp only [Bool.and_eq_true, decide_eq_true_eq, usF, beq_iff_eq] at hx
    obtain ⟨⟨k0, k1⟩, k2, k3⟩ := hx
    have hsl : p.spot k = k.toNat - (2 + j) := by rw [hsp]; omega
    have hw : p.how k = 1 := by rw [Pg.how, hsl]; exact k3
    have hc : p.chk k [1, 2] = 0 := chk_of h.bad (hhas.2 (by omega)) (by rw [hw]; decide)
    rw [Pg.free, if_pos hc, if_pos hw]
    have hlt : p.spot k < p.ps.length := by omega
    obtain ⟨F, f1, f2, f3⟩ := hF
    have hus := usedN_set 0 hlt
    have hg : p.ps.getD (p.spot k) 0 = 1 := hw
    rw [hg, if_neg (by decide), if_pos rfl] at hus
    have hm := h.many
    refine ⟨rfl, fun e => absurd e (by decide), fun _ => ⟨M - 1, by omega, ⟨h.bad, h.jn, by simpa [Pg.put] using ht, fun i => ?_, ?_, F + 1, by omega, f2, f3⟩, fun i hin => ?_⟩⟩
    · show (p.ps.set (p.spot k) 0).getD i 0 = 0 ∨ (p.ps.set (p.spot k) 0).getD i 0 = 1
      rw [getD_set]
      split
      · exact .inl rfl
      · exact h.st i
    · show M - 1 = usedN (p.ps.set (p.spot k) 0)
      omega
    · show (decide (2 + j ≤ i) && ((p.ps.set (p.spot k) 0).getD (i - (2 + j)) 0 == 1)) = _
      rw [getD_set]
      by_cases e : i = k.toNat
      · rw [if_pos e, if_pos ⟨by omega, hlt⟩]; simp
      · rw [if_neg e]
        by_cases e2 : 2 + j ≤ i
        · rw [if_neg (fun h => e (by omega))]; rfl
        · simp [usF, e2]
theorem Try.info4 : (Try.prog.info? 4).map (fun i => (i.zero, i.size, i.bytes)) = some (some (.bool false), 1, 1) := by kernel_rfl
theorem falses_made (n : Nat) : madeCells #[Value.bool false] n = Array.replicate n (Value.bool false) := by
  simp [madeCells, Nat.mod_one, Array.ext_iff]
theorem run_mk47 (W : World) (n : Nat) (hb : n ≤ 281474976710656) :
    (Instr.makeSlice 47 (.int .i64 (n : Int)) (.int .i64 (n : Int))).run Try.prog W = .ok (.slice (some ⟨W.heap.size, 0, none⟩) n n) (W.alloc (.cells (Array.replicate n (Value.bool false)) 4)) := by
  obtain ⟨i0, hi, hz0, hz1, hz2⟩ := info_parts Try.info4
  have hr := run_make (P := Try.prog) W 47 4 i0 _ Try.underlying47 hi hz0 .i64 .i64 (n : Int) (n : Int) (by omega) (by omega) (by rw [hz2]; omega) (by omega)
  rw [hr, hz1]
  simp only [Int.toNat_natCast, Nat.mul_one]
  rw [show (Value.bool false).cells = #[Value.bool false] from rfl, falses_made]
/-- the pager and the truths between two rounds -/
def ApI (w W : World) (gp gq g gs b n j len u M G : Nat) (st : St) : Prop := ∃ p, PD w W gp gq g gs b n p st ∧ Ap n j len p M G ∧ RowU W u n (usF j p)
theorem ApI.full {w W : World} {gp gq g gs b n j len M G : Nat} {st : St} {p : Pg} (h1 : PD w W gp gq g gs b n p st) (h2 : Ap n j len p M G) (hi : ¬ p.ps.idxOf 0 < p.ps.length) :
    Calls Try.prog 23 #[.pointer (some ⟨gp, 0, none⟩)] W fun e W' => e = .returned (.tuple #[.int .i64 0, .int .i64 7]) ∧ Below w.heap.size w W' ∧ (Calls Try.prog 24 #[.pointer (some ⟨gp, 0, none⟩)] W' fun e W'' => e = .returned (.int .i64 (M : Nat)) ∧ W'' = W') ∧ (Calls Try.prog 25 #[.pointer (some ⟨gp, 0, none⟩)] W' fun e W'' => e = .returned (.int .i64 (M : Nat)) ∧ W'' = W') := by
  obtain ⟨a1, a2, a3, a4⟩ := h2.full hi
  have := h1.alloc
  rw [a1] at this
  refine this.mono ?_
  rintro e W' ⟨rfl, q⟩
  have hp := q.pages
  have hu := q.used
  rw [← a2] at hp
  rw [a3] at hu
  exact ⟨rfl, q.b, hp, hu⟩
theorem ApI.give {w W : World} {gp gq g gs b n j len u M G : Nat} {st : St} {p : Pg} (h1 : PD w W gp gq g gs b n p st) (h2 : Ap n j len p M G) (h3 : RowU W u n (usF j p)) (hu : w.heap.size ≤ u) (hi : p.ps.idxOf 0 < p.ps.length) :
    ∃ P : Nat, 2 + j ≤ P ∧ P < n ∧ Calls Try.prog 23 #[.pointer (some ⟨gp, 0, none⟩)] W fun e W' => e = .returned (.tuple #[.int .i64 (P : Nat), .int .i64 0]) ∧ W'.cell? ⟨u, P, none⟩ = some (.bool false) ∧ W'.frozen? ⟨u, P, none⟩ = false ∧ (∃ F, G + 1 = M + 1 + F ∧ F ≤ G / 8 ∧ F ≤ len) ∧ ApI w (W'.setCell ⟨u, P, none⟩ (.bool true)) gp gq g gs b n j len u (M + 1) (G + 1) st := by
  obtain ⟨P, p1, p2, p3, p4, p5, p6, p7⟩ := h2.give hi
  refine ⟨P, p1, p2, ?_⟩
  have := alloc_any h1.p
  rw [p4] at this
  refine this.mono ?_
  rintro e W' ⟨rfl, q2, q3⟩
  obtain ⟨n1, n2, n3⟩ := h3.ne h1.p h1.d
  have hr := h3.frm q3 (fun e => e.elim n1 n2)
  have hpd := h1.frmP q2 q3
  refine ⟨rfl, by rw [hr.cell p2, p3], hr.frozen P, p5, _, hpd.setU hr hu P true, p6, hr.set P true p7⟩
theorem ApI.back {w W : World} {gp gq g gs b n j len u M G : Nat} {st : St} (h : ApI w W gp gq g gs b n j len u M G st) (hu : w.heap.size ≤ u) (hF : ∃ F, G = M + F ∧ F + 1 ≤ G / 8 ∧ F + 1 ≤ len) (k : Int) (hk : i64B k) :
    ∃ is : Bool, (0 ≤ k → k < n → W.cell? ⟨u, k.toNat, none⟩ = some (.bool is)) ∧ (¬ (0 ≤ k ∧ k < n) → is = false) ∧ Calls Try.prog 26 #[.pointer (some ⟨gp, 0, none⟩), .int .i64 k] W fun e W' => ∃ er : Int, e = .returned (.int .i64 er) ∧ (er == 0) = is ∧ (is = false → ApI w W' gp gq g gs b n j len u M G st) ∧ (is = true → W'.frozen? ⟨u, k.toNat, none⟩ = false ∧ W'.cell? ⟨u, k.toNat, none⟩ = some (.bool true) ∧ ∃ M', M = M' + 1 ∧ ApI w (W'.setCell ⟨u, k.toNat, none⟩ (.bool false)) gp gq g gs b n j len u M' G st) := by
  obtain ⟨p, h1, h2, h3⟩ := h
  obtain ⟨is, his⟩ : ∃ is, is = (decide (0 ≤ k) && decide (k < n) && usF j p k.toNat) := ⟨_, rfl⟩
  obtain ⟨b1, b2, b3⟩ := h2.back hF k is his
  refine ⟨is, fun k0 k1 => ?_, fun hno => ?_, ?_⟩
  · rw [h3.cell (by omega), his, decide_eq_true k0, decide_eq_true k1]; rfl
  · rw [his]
    by_cases k0 : 0 ≤ k
    · rw [decide_eq_false (fun e => hno ⟨k0, e⟩)]; simp
    · rw [decide_eq_false k0]; rfl
  · refine (free_any h1.p k hk.1 hk.2).mono ?_
    rintro e W' ⟨rfl, q2, q3⟩
    obtain ⟨n1, n2, n3⟩ := h3.ne h1.p h1.d
    have hr := h3.frm q3 (fun e => e.elim n1 n2)
    have hpd := h1.frmP q2 q3
    refine ⟨_, rfl, b1, fun hi => ?_, fun hi => ?_⟩
    · rw [b2 hi] at hpd
      exact ⟨p, hpd, h2, hr⟩
    · obtain ⟨M', m1, m2, m3⟩ := b3 hi
      rw [hi] at his
      have hx := his.symm
      simp only [Bool.and_eq_true, decide_eq_true_eq] at hx
      exact ⟨hr.frozen _, by rw [hr.cell (by omega), hx.2], M', m1, _, hpd.setU hr hu _ false, m2, hr.set _ false m3⟩
set_option maxHeartbeats 4000000 in
theorem apartWalk (N J : Int) (a : Option Addr) (len cap : Nat) (l : List Int) (w : World) (hN : -9223372036854775808 ≤ N ∧ N ≤ 9223372036854775807) (hJ : -9223372036854775808 ≤ J ∧ J ≤ 9223372036854775807) (hK : IsK w a len cap l) (hlen : len ≤ 140737488355328) :
    Calls Try.prog 5 #[.int .i64 N, .int .i64 J, .slice a len cap] w fun e w' => e = .returned (.bool true) ∧ Below w.heap.size w w' := by
  have HK := hide hK
  clear hK hN hJ
  by_cases hn : 1 ≤ N ∧ N ≤ 1024
  · obtain ⟨n, rfl⟩ := Int.eq_ofNat_of_zero_le (show 0 ≤ N by omega)
    have h0 : 0 < n := by omega
    have h1 : n ≤ 1024 := by omega
    clear hn
    go_enter Try.func5, Try.ntmps5
    go_wp2_with fail
    refine (lives_any w).mono ?_
    rintro e w1 ⟨rfl, hb1⟩
    have HN := hide (DD.new w w1 hb1 n h0 h1)
    clear hb1
    go_wp2_with fail
    refine HN.out.mono ?_
    rintro e w2 ⟨g, gs, b, rfl, hd2⟩
    have HFM := hide (hd2.format J (by decide))
    clear hd2 HN
    by_cases hf : fitsB J n = true
    · obtain ⟨z1, z2, z3, z4, z5, z6, z7⟩ := fmt_std hf h1
      have hJ : 1 ≤ J ∧ J ≤ (n : Int) - 34 := of_decide_eq_true hf
      obtain ⟨j, rfl⟩ := Int.eq_ofNat_of_zero_le (show 0 ≤ J by omega)
      rw [z1] at HFM
      have HOP : Hid (∀ W : World, DD w W g gs b n (st0.fmt n (j : Nat)).1 → Calls Try.prog 16 #[.pointer (some ⟨g, 0, none⟩)] W fun e W' => ∃ gp gq, e = .returned (.tuple #[.pointer (some ⟨gp, 0, none⟩), .int .i64 0]) ∧ ∃ p, PD w W' gp gq g gs b n p (st0.fmt n (j : Nat)).1 ∧ Ap n j len p 0 0 ∧ ∀ k, usF j p k = false) := hide (fun W h => (h.openOk z2).mono (fun e W' ⟨gp, gq, h1, h2⟩ => ⟨gp, gq, h1, _, h2, ⟨z3.bad, by rw [z4]; rfl, by rw [z5, List.length_replicate]; simp; omega, fun i => .inl (by rw [z5]; exact getD_rep _ _), by rw [z5]; simp [usedN], 0, rfl, by omega, by omega⟩, fun k => by rw [usF, z5, getD_rep]; simp⟩))
      have hjn : j + 34 ≤ n := by omega
      clear z1 z2 z3 z4 z5 z6 z7 hf hJ
      generalize (st0.fmt n (j : Nat)).1 = st at *
      have hmk : ∀ W : World, (Instr.makeSlice 47 (.int .i64 (n : Int)) (.int .i64 (n : Int))).run Try.prog W = .ok (.slice (some ⟨W.heap.size, 0, none⟩) n n) (W.alloc (.cells (Array.replicate n (Value.bool false)) 4)) := fun W => run_mk47 W n (by omega)
      go_wp2_with fail
      refine HFM.out.mono ?_
      rintro e w3 ⟨rfl, hd3⟩
      have HO3 := hide (HOP.out w3 hd3)
      clear hd3 HFM HOP
      go_wp2_with fail
      refine HO3.out.mono ?_
      rintro e w4 ⟨gp, gq, rfl, p, hpd, hap, hus⟩
      have HI0 : Hid (ApI w (w4.alloc (.cells (Array.replicate n (Value.bool false)) 4)) gp gq g gs b n j len w4.heap.size 0 0 st) := hide ⟨p, hpd.below ((Below.refl _ _).alloc (Nat.le_refl _) _), hap, _, heap_alloc_new w4 _, by simp, fun k hk => by rw [hus]; simp [hk]⟩
      have HU : Hid (w.heap.size ≤ w4.heap.size) := hide hpd.b.size
      clear hpd hap hus HO3
      obtain ⟨u, hu⟩ : ∃ u, u = w4.heap.size := ⟨_, rfl⟩
      go_wp2_with fail
      generalize (w4.alloc (.cells (Array.replicate n (Value.bool false)) 4)) = w5 at *
      rw [← hu] at HI0 HU ⊢
      clear hu hmk
      go_loopw [11, 12] (fun m gv wr => ∃ M G : Nat, m = .int .i64 (M : Nat) ∧ gv = .int .i64 (G : Nat) ∧ Hid (ApI w wr gp gq g gs b n j len u M G st)) (fun _ gv _ => n + len + 1 - (intOf gv).toNat)
      case atStart => exact ⟨0, 0, rfl, rfl, HI0⟩
      case round =>
        obtain ⟨M, G, rfl, rfl, HI⟩ := hrel
        clear HI0
        obtain ⟨p, hpd, hap, hru⟩ := HI.out
        have hle := hap.le
        have hMG : M ≤ G := by obtain ⟨F, f1, _⟩ := hap.fr; omega
        have eg : decide ((G : Int) ≤ (n : Int) + (len : Int)) = true := decide_eq_true (by omega)
        have hw1 : IntKind.i64.wrap ((n : Int) + (len : Int)) = (n : Int) + (len : Int) := by rw [IntKind.wrap_i64]; omega
        by_cases hi : p.ps.idxOf 0 < p.ps.length
        · obtain ⟨P, p1, p2, hcl⟩ := ApI.give hpd hap hru HU.out hi
          have HC := hide hcl
          have d1 : decide ((P : Int) < 2 + (j : Int)) = false := decide_eq_false (by omega)
          have d2 : decide ((n : Int) ≤ (P : Int)) = false := decide_eq_false (by omega)
          have hw2 : IntKind.i64.wrap (2 + (j : Int)) = 2 + (j : Int) := by rw [IntKind.wrap_i64]; omega
          have hw3 : IntKind.i64.wrap ((M : Int) + 1) = (M : Int) + 1 := by rw [IntKind.wrap_i64]; omega
          have hw4 : IntKind.i64.wrap ((G : Int) + 1) = (G : Int) + 1 := by rw [IntKind.wrap_i64]; omega
          clear hpd hap hru HI hi hcl
          go_wp2_with fail
          refine HC.out.mono ?_
          rintro e w6 ⟨rfl, hc6, hf6, hF6, hI6⟩
          have HF6 := hide hF6
          have HI6 := hide hI6
          clear hF6 hI6 HC
          by_cases h8 : ((G : Int) + 1) % 8 = 0
          · by_cases hq : ((G : Int) + 1) / 8 ≤ (len : Int)
            · obtain ⟨m, hm⟩ : ∃ m : Nat, ((G : Int) + 1) / 8 - 1 = (m : Int) := ⟨(G + 1) / 8 - 1, by omega⟩
              obtain ⟨hbd, bb, off, rfl, hlt, hc⟩ := HK.out.2.2.2.2 m (by omega)
              have hml : (m : Int) < (len : Int) := by omega
              have hml2 : m < len := by omega
              have hbw : Below w.heap.size w (w6.setCell ⟨u, P, none⟩ (.bool true)) := by obtain ⟨p, q, _⟩ := HI6.out; exact q.b
              have hcw := (hbw.cell (p := ⟨bb, off + m, none⟩) hlt).trans hc
              obtain ⟨is, i1, i2, hcl⟩ := HI6.out.back HU.out (by obtain ⟨F, a1, a2, a3⟩ := HF6.out; exact ⟨F, a1, by omega, by omega⟩) (l.getD m 0) hbd
              generalize l.getD m 0 = kk at *
              have HCL := hide hcl
              clear hcl hbw hc HF6 hbd hlt
              by_cases k0 : 0 ≤ kk
              · have d3 : decide (0 ≤ kk) = true := decide_eq_true k0
                by_cases k1 : kk < (n : Int)
                · obtain ⟨kn, rfl⟩ := Int.eq_ofNat_of_zero_le k0
                  have d4 : decide ((kn : Int) < (n : Int)) = true := decide_eq_true k1
                  have k1n : kn < n := by omega
                  have hcu := i1 k0 k1
                  rw [Int.toNat_natCast] at hcu HCL
                  clear i1 i2
                  go_wp2_with fail
                  refine HCL.out.mono ?_
                  rintro e w7 ⟨er, rfl, her, hif, hit⟩
                  cases is
                  · have H7 := hide (hif rfl)
                    clear hif hit HCL HI6
                    go_wp2_with fail
                    exact ⟨⟨M + 1, G + 1, by simp, by simp, H7⟩, by simp [intOf]; omega⟩
                  · obtain ⟨fz7, cc7, M', hM', hI7⟩ := hit rfl
                    have hMM : M' = M := by omega
                    subst hMM
                    have H7 := hide hI7
                    clear hif hit hI7 HCL HI6
                    skip
                    go_wp2_with fail
                    exact ⟨⟨M', G + 1, by simp, by simp, H7⟩, by simp [intOf]; omega⟩
                · have d4 : decide (kk < (n : Int)) = false := decide_eq_false k1
                  have hisf := i2 (fun h => k1 h.2)
                  subst hisf
                  clear i1 i2
                  go_wp2_with fail
                  refine HCL.out.mono ?_
                  rintro e w7 ⟨er, rfl, her, hif, hit⟩
                  have H7 := hide (hif trivial)
                  clear hif hit HCL HI6
                  go_wp2_with fail
                  exact ⟨⟨M + 1, G + 1, by simp, by simp, H7⟩, by simp [intOf]; omega⟩
              · have d3 : decide (0 ≤ kk) = false := decide_eq_false k0
                have hisf := i2 (fun h => k0 h.1)
                subst hisf
                clear i1 i2
                go_wp2_with fail
                refine HCL.out.mono ?_
                rintro e w7 ⟨er, rfl, her, hif, hit⟩
                have H7 := hide (hif trivial)
                clear hif hit HCL HI6
                go_wp2_with fail
                exact ⟨⟨M + 1, G + 1, by simp, by simp, H7⟩, by simp [intOf]; omega⟩
            · clear HF6
              go_wp2_with fail
              exact ⟨⟨M + 1, G + 1, by simp, by simp, HI6⟩, by simp [intOf]; omega⟩
          · clear HF6
            go_wp2_with fail
            exact ⟨⟨M + 1, G + 1, by simp, by simp, HI6⟩, by simp [intOf]; omega⟩
        · have HC := hide (ApI.full hpd hap hi)
          obtain ⟨_, _, _, hMn⟩ := hap.full hi
          have hM1 : IntKind.i64.wrap ((n : Int) - 2) = (n : Int) - 2 := by rw [IntKind.wrap_i64]; omega
          have hM2 : IntKind.i64.wrap ((n : Int) - 2 - (j : Int)) = (M : Int) := by rw [IntKind.wrap_i64]; omega
          clear hpd hap hru HI hi hMn
          go_wp2_with fail
          refine HC.out.mono ?_
          rintro e w6 ⟨rfl, hb6, hp6, hu6⟩
          have HB6 := hide hb6
          have HP6 := hide hp6
          have HU6 := hide hu6
          clear hb6 hp6 hu6 HC
          go_wp2_with fail
          refine HP6.out.mono ?_
          rintro e w7 ⟨rfl, rfl⟩
          go_wp2_with fail
          refine HU6.out.mono ?_
          rintro e w8 ⟨rfl, rfl⟩
          go_wp2
          go_ret
          exact ⟨rfl, HB6.out⟩
    · have HZ : Hid ((st0.fmt n J).2 = 2) := hide (by rw [St.fmt, if_neg hf])
      rw [HZ.out] at HFM
      clear hf
      go_wp2_with fail
      refine HFM.out.mono ?_
      rintro e w3 ⟨rfl, hd3⟩
      have HB := hide hd3.b
      clear hd3 HFM
      go_wp2
      go_ret
      exact ⟨rfl, HB.out⟩
  · have HNO := hide (fun W => new_no W N hn)
    clear hn
    go_enter Try.func5, Try.ntmps5
    go_wp2_with fail
    refine (lives_any w).mono ?_
    rintro e w1 ⟨rfl, hb1⟩
    have HB1 := hide hb1
    clear hb1
    go_wp2_with fail
    refine (HNO.out w1).mono ?_
    rintro e w2 ⟨rfl, rfl⟩
    go_wp2_with fail
    refine (format_nil J w2).mono ?_
    rintro e w3 ⟨rfl, rfl⟩
    go_wp2
    go_ret
    exact ⟨rfl, HB1.out⟩
end Go.Proofs.Ytecmfpgccmmlpaa
