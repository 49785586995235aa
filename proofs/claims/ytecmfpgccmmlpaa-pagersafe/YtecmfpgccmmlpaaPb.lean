/- copies into a row; superblocks as bytes -/
import Derived.Test.YtecmfpgccmmlpaaPa
import Derived.Lib.BufferWrite
namespace Go.Proofs.Ytecmfpgccmmlpaa
open Go.RowKit
set_option maxRecDepth 40000
theorem bv_take (l : List Nat) (n : Nat) : bv (l.take n) = (bv l).take n := by simp [bv]
theorem bv_drop (l : List Nat) (n : Nat) : bv (l.drop n) = (bv l).drop n := by simp [bv]
theorem bv_splice (m : List Nat) (o : Nat) (l : List Nat) : bv (splice m o l) = (bv m).take o ++ (bv l ++ (bv m).drop (o + l.length)) := by
  rw [splice, bv_append, bv_append, bv_take, bv_drop]
/-- a row laid anew -/
theorem row_put {W : World} {q N : Nat} {m m' : List Nat} (h : Row W q N N m) (hl : m'.length = N) : Row (W.setRow q (bv m').toArray) q N N m' := by
  obtain ⟨h1, h2, h3, cur, hg, hs, ht⟩ := h
  exact row_setRow hg hl h3
theorem frm_setRow (W : World) (q : Nat) (cs : Array Value) : Frm (fun i => i = q) W (W.setRow q cs) :=
  ⟨rfl, rfl, rfl, by simp [World.setRow], fun k _ hk => setRow_other W q k cs hk⟩
theorem cpMid {W : World} {q N : Nat} {m : List Nat} {src : Option Addr} {len cap o d c : Nat} {l : List Nat} (h : Row W q N N m) (hb : IsB W src len cap l) (hd : len ≤ d) (ho : o + d ≤ N) :
    ∃ W', (Builtin.copy_ #[25, 25] 3 #[.slice (some ⟨q, o, none⟩) d c, .slice src len cap]).run Try.prog W = .ok (.int .i64 (len : Int)) W' ∧ Row W' q N N (splice m o l) ∧ Frm (fun i => i = q) W W' := by
  obtain ⟨h1, h2, h3, h4, h5⟩ := id hb
  obtain ⟨r1, r2, r3, cur, hg, hs, ht⟩ := id h
  have hcur : cur.toList = bv m := by rw [← ht, List.take_of_length_le (by simp; omega)]
  by_cases h0 : len = 0
  · subst h0
    obtain rfl : l = [] := List.length_eq_zero_iff.1 h1
    refine ⟨W, run_copy_none W 25 25 3 5 _ _ d c 0 cap Try.underlying25 hsz5 (Nat.zero_min _), ?_, Frm.refl _ _⟩
    simpa [splice] using h
  · obtain ⟨b, off, rfl, hlt, hc⟩ := h5.resolve_left (fun h => h0 h.1)
    have hr := run_copy_row (P := Try.prog) W 25 25 3 5 q o d c ⟨b, off, none⟩ len cap cur 5 (bv l) Try.underlying25 hsz5 hg (by rw [bv_length, h1]; exact (Nat.min_eq_left hd).symm) hb.src (by rw [bv_length, h1]; omega) (bv_one l)
    have e : (cur.toList.take o ++ bv l ++ cur.toList.drop (o + (bv l).length)) = bv (splice m o l) := by
      rw [bv_splice, hcur, bv_length, List.append_assoc]
    rw [e, bv_length, h1] at hr
    exact ⟨_, hr, row_put h (by rw [length_splice _ _ _ (by omega)]; exact r1), frm_setRow _ _ _⟩
theorem byteCells_str (l : List Nat) (h : ∀ x ∈ l, x < 256) : Lib.byteCells (str l).data.toList = bv l := by
  simp only [Lib.byteCells, str, bv, List.map_map]
  apply List.map_congr_left
  intro x hx
  have := h x hx
  simp [Nat.mod_eq_of_lt this]
theorem cp_str {W : World} {q N : Nat} {m l : List Nat} (h : Row W q N N m) (hx : ∀ x ∈ l, x < 256) (hl : l.length ≤ N) :
    ∃ W', (Builtin.copy_ #[25, 9] 3 #[.slice (some ⟨q, 0, none⟩) N N, .string (str l)]).run Try.prog W = .ok (.int .i64 (l.length : Int)) W' ∧ Row W' q N N (splice m 0 l) ∧ Frm (fun i => i = q) W W' := by
  obtain ⟨r1, r2, r3, cur, hg, hs, ht⟩ := id h
  have hcur : cur.toList = bv m := by rw [← ht, List.take_of_length_le (by simp; omega)]
  have hr := Lib.run_copy_row_string (P := Try.prog) W 25 9 3 5 q 0 N N (str l) cur 5 Try.underlying25 hsz5 hg (by rw [str_size]; exact hl) (by rw [str_size]; omega)
  have e : (cur.toList.take 0 ++ Lib.byteCells (str l).data.toList ++ cur.toList.drop (0 + (str l).size)) = bv (splice m 0 l) := by
    rw [bv_splice, hcur, byteCells_str l hx, str_size, List.append_assoc]
  rw [e, str_size] at hr
  exact ⟨_, hr, row_put h (by rw [length_splice _ _ _ (by omega)]; exact r1), frm_setRow _ _ _⟩
/-- n in i bytes, the lowest first -/
def leB (n : Nat) : Nat → List Nat
  | 0 => []
  | i + 1 => leB n i ++ [n / 2 ^ (8 * i) % 256]
theorem leB_length (n i : Nat) : (leB n i).length = i := by
  induction i with
  | zero => rfl
  | succ i ih => simp [leB, ih]
theorem leB_lt (n i : Nat) : ∀ x ∈ leB n i, x < 256 := by
  induction i with
  | zero => simp [leB]
  | succ i ih =>
    intro x hx
    simp only [leB, List.mem_append, List.mem_singleton] at hx
    rcases hx with h | rfl
    · exact ih x h
    · exact Nat.mod_lt _ (by decide)
theorem lowN_append (l m : List Nat) : lowN (l ++ m) = lowN l + 256 ^ l.length * lowN m := by
  induction l with
  | nil => simp [lowN]
  | cons x l ih =>
    simp only [List.cons_append, lowN, ih, List.length_cons, Nat.pow_succ, Nat.mul_add]
    rw [Nat.mul_comm (256 ^ l.length) 256, Nat.mul_assoc]
    omega
theorem lowN_leB (n i : Nat) : lowN (leB n i) = n % 256 ^ i := by
  induction i with
  | zero => simp [leB, lowN, Nat.mod_one]
  | succ i ih =>
    have hp : (2 : Nat) ^ (8 * i) = 256 ^ i := by rw [Nat.pow_mul]
    rw [leB, lowN_append, ih, leB_length, Nat.pow_succ, Nat.mod_mul, hp]
    simp [lowN]
theorem lowN_leB_of {n i : Nat} (h : n < 256 ^ i) : lowN (leB n i) = n := by rw [lowN_leB, Nat.mod_eq_of_lt h]
/-- a number laid over the front of a run of noughts -/
theorem put_rep (p : List Nat) (n k m : Nat) : putN (p ++ List.replicate (k + m) 0) p.length n k = (p ++ leB n k) ++ List.replicate m 0 := by
  induction k generalizing m with
  | zero => simp [putN, leB]
  | succ k ih =>
    have h1 := ih (m + 1)
    rw [show k + 1 + m = k + (m + 1) by omega]
    have hl : (p ++ leB n k).length = p.length + k := by rw [List.length_append, leB_length]
    rw [putN, h1, List.set_append_right _ _ (by omega), hl, Nat.sub_self, List.replicate_succ, List.set_cons_zero, leB]
    simp
/-- a superblock's numbers -/
structure Sup where
  gen : Nat
  root : Int
  seq : Nat
  jn : Int
  live : Int
theorem Sup.ext' {s t : Sup} (h1 : s.gen = t.gen) (h2 : s.root = t.root) (h3 : s.seq = t.seq) (h4 : s.jn = t.jn) (h5 : s.live = t.live) : s = t := by
  cases s; cases t; simp_all
def Sup.may (s : Sup) : Bool := decide (1 ≤ s.gen ∧ s.gen ≤ 4611686018427387904 ∧ 1 ≤ s.seq ∧ s.seq ≤ 2305843009213693952 ∧ 0 ≤ s.root ∧ s.root ≤ 1024 ∧ 0 ≤ s.live ∧ s.live ≤ 1024 ∧ 1 ≤ s.jn ∧ s.jn ≤ 1024)
theorem Sup.of_may {s : Sup} (h : s.may = true) : 1 ≤ s.gen ∧ s.gen ≤ 4611686018427387904 ∧ 1 ≤ s.seq ∧ s.seq ≤ 2305843009213693952 ∧ 0 ≤ s.root ∧ s.root ≤ 1024 ∧ 0 ≤ s.live ∧ s.live ≤ 1024 ∧ 1 ≤ s.jn ∧ s.jn ≤ 1024 := of_decide_eq_true h
theorem Sup.is_may {s : Sup} (h : 1 ≤ s.gen ∧ s.gen ≤ 4611686018427387904 ∧ 1 ≤ s.seq ∧ s.seq ≤ 2305843009213693952 ∧ 0 ≤ s.root ∧ s.root ≤ 1024 ∧ 0 ≤ s.live ∧ s.live ≤ 1024 ∧ 1 ≤ s.jn ∧ s.jn ≤ 1024) : s.may = true := decide_eq_true h
theorem Sup.not_may {s : Sup} (h : ¬ (1 ≤ s.gen ∧ s.gen ≤ 4611686018427387904 ∧ 1 ≤ s.seq ∧ s.seq ≤ 2305843009213693952 ∧ 0 ≤ s.root ∧ s.root ≤ 1024 ∧ 0 ≤ s.live ∧ s.live ≤ 1024 ∧ 1 ≤ s.jn ∧ s.jn ≤ 1024)) : s.may = false := decide_eq_false h
/-- a superblock's numbers as bytes -/
def supN (s : Sup) : List Nat := [76, 68, 83, 66] ++ leB s.gen 8 ++ leB s.seq 8 ++ leB s.root.toNat 4 ++ leB s.jn.toNat 4 ++ leB s.live.toNat 4
/-- its bytes ahead of the checksum -/
def supX (s : Sup) : List Nat := supN s ++ List.replicate 4060 0
theorem supN_length (s : Sup) : (supN s).length = 32 := by simp [supN, leB_length]
theorem supX_length (s : Sup) : (supX s).length = 4092 := by rw [supX, List.length_append, supN_length, List.length_replicate]
theorem supN_lt (s : Sup) : ∀ x ∈ supN s, x < 256 := by
  intro x hx
  simp only [supN, List.mem_append] at hx
  rcases hx with ((((h | h) | h) | h) | h) | h
  · revert x; decide
  all_goals exact leB_lt _ _ x h
theorem supX_lt (s : Sup) : ∀ x ∈ supX s, x < 256 := by
  intro x hx
  rw [supX, List.mem_append] at hx
  rcases hx with h | h
  · exact supN_lt s x h
  · rw [List.eq_of_mem_replicate h]; decide
/-- a superblock's bytes -/
def supL (s : Sup) : List Nat := supX s ++ le (Crc.update 0 (supX s))
theorem le_length (n : Nat) : (le n).length = 4 := by simp [le]
theorem supL_length (s : Sup) : (supL s).length = 4096 := by rw [supL, List.length_append, supX_length, le_length]
theorem supX_put (s : Sup) : putN (putN (putN (putN (putN ([76, 68, 83, 66] ++ List.replicate 4088 0) 4 s.gen 8) 12 s.seq 8) 20 s.root.toNat 4) 24 s.jn.toNat 4) 28 s.live.toNat 4 = supX s := by
  rw [show (4088 : Nat) = 8 + 4080 by rfl, show (4 : Nat) = ([76, 68, 83, 66] : List Nat).length by rfl, put_rep]
  rw [show (4080 : Nat) = 8 + 4072 by rfl]
  have h1 : ([76, 68, 83, 66] ++ leB s.gen 8 : List Nat).length = 12 := by simp [leB_length]
  have h2 : ([76, 68, 83, 66] ++ leB s.gen 8 ++ leB s.seq 8 : List Nat).length = 20 := by simp [leB_length]
  have h3 : ([76, 68, 83, 66] ++ leB s.gen 8 ++ leB s.seq 8 ++ leB s.root.toNat 4 : List Nat).length = 24 := by simp [leB_length]
  have h4 : ([76, 68, 83, 66] ++ leB s.gen 8 ++ leB s.seq 8 ++ leB s.root.toNat 4 ++ leB s.jn.toNat 4 : List Nat).length = 28 := by simp [leB_length]
  have e1 := put_rep ([76, 68, 83, 66] ++ leB s.gen 8) s.seq 8 4072
  have e2 := put_rep ([76, 68, 83, 66] ++ leB s.gen 8 ++ leB s.seq 8) s.root.toNat 4 4068
  have e3 := put_rep ([76, 68, 83, 66] ++ leB s.gen 8 ++ leB s.seq 8 ++ leB s.root.toNat 4) s.jn.toNat 4 4064
  have e4 := put_rep ([76, 68, 83, 66] ++ leB s.gen 8 ++ leB s.seq 8 ++ leB s.root.toNat 4 ++ leB s.jn.toNat 4) s.live.toNat 4 4060
  rw [h1] at e1; rw [h2] at e2; rw [h3] at e3; rw [h4] at e4
  rw [e1]
  exact (congrArg (fun x => putN (putN x 24 s.jn.toNat 4) 28 s.live.toNat 4) e2).trans ((congrArg (fun x => putN x 28 s.live.toNat 4) e3).trans e4)
def mid (l : List Nat) (a b : Nat) : List Nat := (l.take b).drop a
/-- the numbers at the front of some bytes -/
def decS (l : List Nat) : Sup := ⟨lowN (mid l 4 12), lowN (mid l 20 24), lowN (mid l 12 20), lowN (mid l 24 28), lowN (mid l 28 32)⟩
theorem mid_app (p q r : List Nat) : mid (p ++ (q ++ r)) p.length (p.length + q.length) = q := by
  unfold mid
  rw [← List.append_assoc, List.take_append_of_le_length (by simp), List.take_of_length_le (by simp), List.drop_left]
theorem decS_N (s : Sup) (h : s.may = true) (r : List Nat) : decS (supN s ++ r) = s := by
  obtain ⟨h1, h2, h3, h4, h5, h6, h7, h8, h9, h10⟩ := s.of_may h
  have m1 := mid_app [76, 68, 83, 66] (leB s.gen 8) (leB s.seq 8 ++ (leB s.root.toNat 4 ++ (leB s.jn.toNat 4 ++ (leB s.live.toNat 4 ++ r))))
  have m2 := mid_app ([76, 68, 83, 66] ++ leB s.gen 8) (leB s.seq 8) (leB s.root.toNat 4 ++ (leB s.jn.toNat 4 ++ (leB s.live.toNat 4 ++ r)))
  have m3 := mid_app ([76, 68, 83, 66] ++ leB s.gen 8 ++ leB s.seq 8) (leB s.root.toNat 4) (leB s.jn.toNat 4 ++ (leB s.live.toNat 4 ++ r))
  have m4 := mid_app ([76, 68, 83, 66] ++ leB s.gen 8 ++ leB s.seq 8 ++ leB s.root.toNat 4) (leB s.jn.toNat 4) (leB s.live.toNat 4 ++ r)
  have m5 := mid_app ([76, 68, 83, 66] ++ leB s.gen 8 ++ leB s.seq 8 ++ leB s.root.toNat 4 ++ leB s.jn.toNat 4) (leB s.live.toNat 4) r
  simp only [List.length_append, leB_length, List.length_cons, List.length_nil, List.append_assoc, Nat.reduceAdd] at m1 m2 m3 m4 m5
  unfold decS supN
  simp only [List.append_assoc]
  rw [m1, m2, m3, m4, m5]
  rw [lowN_leB_of (show s.gen < 256 ^ 8 by omega), lowN_leB_of (show s.seq < 256 ^ 8 by omega), lowN_leB_of (show s.root.toNat < 256 ^ 4 by omega), lowN_leB_of (show s.jn.toNat < 256 ^ 4 by omega), lowN_leB_of (show s.live.toNat < 256 ^ 4 by omega)]
  exact Sup.ext' rfl (by simp; omega) rfl (by simp; omega) (by simp; omega)
theorem decS_supL (s : Sup) (h : s.may = true) : decS (supL s) = s := by
  rw [supL, supX, List.append_assoc]; exact decS_N s h _
/-- the superblock that some bytes are -/
def readS (l : List Nat) : Option Sup := if l.length = 4096 ∧ (decS l).may = true ∧ supL (decS l) = l then some (decS l) else none
theorem readS_supL (s : Sup) (h : s.may = true) : readS (supL s) = some s := by
  rw [readS, decS_supL s h, if_pos ⟨supL_length s, h, rfl⟩]
theorem readS_some {l : List Nat} {s : Sup} (h : readS l = some s) : s.may = true ∧ l = supL s := by
  unfold readS at h
  split at h
  · rename_i hc
    obtain ⟨_, h2, h3⟩ := hc
    cases h
    exact ⟨h2, h3.symm⟩
  · cases h
theorem readS_none {l : List Nat} (h : readS l = none) : ¬ (l.length = 4096 ∧ (decS l).may = true ∧ supL (decS l) = l) := by
  unfold readS at h
  split at h
  · cases h
  · assumption
/-- what counts of a superblock in the sector k of a disk of n -/
def Sup.fits (n k : Nat) (s : Sup) : Bool := decide (s.gen % 2 = k ∧ 1 ≤ s.jn ∧ s.jn ≤ (n : Int) - 34 ∧ (s.root = 0 ∨ (2 + s.jn ≤ s.root ∧ s.root < n)))
theorem Sup.of_fits {n k : Nat} {s : Sup} (h : s.fits n k = true) : s.gen % 2 = k ∧ 1 ≤ s.jn ∧ s.jn ≤ (n : Int) - 34 ∧ (s.root = 0 ∨ (2 + s.jn ≤ s.root ∧ s.root < n)) := of_decide_eq_true h
def supAt (n k : Nat) (l : List Nat) : Option Sup := (readS l).filter (fun s => s.fits n k)
theorem supAt_some {n k : Nat} {l : List Nat} {s : Sup} (h : supAt n k l = some s) : s.may = true ∧ l = supL s ∧ s.fits n k = true := by
  unfold supAt at h
  obtain ⟨h1, h2⟩ := Option.filter_eq_some_iff.1 h
  exact ⟨(readS_some h1).1, (readS_some h1).2, h2⟩
theorem supAt_of {n k : Nat} {s : Sup} (h : s.may = true) (hf : s.fits n k = true) : supAt n k (supL s) = some s := by
  rw [supAt, readS_supL s h]
  exact Option.filter_eq_some_iff.2 ⟨rfl, hf⟩
end Go.Proofs.Ytecmfpgccmmlpaa
