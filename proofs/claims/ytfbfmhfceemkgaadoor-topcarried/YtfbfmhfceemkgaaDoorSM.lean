/- shipments as lists: what is put, what is found -/
import Derived.Test.YtfbfmhfceemkgaaDoorSJ
namespace Go.Proofs.YtfbfmhfceemkgaaDoor
open Go.RowKit
/-- a shipment that is put to its place -/
def insL : List Sh → Sh → List Sh
  | [], c => [c]
  | x :: r, c => if x.od < c.od then x :: insL r c else if x.od = c.od then c :: r else c :: x :: r
/-- the state of an order -/
def stL : List Sh → Int → Int
  | [], _ => 0
  | x :: r, n => if x.od = n then x.st else stL r n
theorem lowN_cons (x : Sh) (r : List Sh) (t : Sh) : lowN (x :: r) t = if x.od < t.od then lowN r t + 1 else 0 := by
  unfold lowN
  by_cases h : x.od < t.od
  · rw [if_pos h, List.takeWhile_cons_of_pos (by simpa using ordS_neg.2 h), List.length_cons]
  · rw [if_neg h, List.takeWhile_cons_of_neg (by simpa using fun h' => h (ordS_neg.1 h'))]; rfl
theorem hasB_cons (x : Sh) (r : List Sh) (t : Sh) : hasB (x :: r) t = if x.od < t.od then hasB r t else decide (x.od = t.od) := by
  unfold hasB
  rw [lowN_cons]
  by_cases h : x.od < t.od
  · rw [if_pos h, if_pos h]
    simp
  · rw [if_neg h, if_neg h]
    simp only [List.length_cons, Nat.zero_lt_succ, decide_true, Bool.true_and, List.getD_cons_zero]
    rw [Bool.eq_iff_iff]
    simp only [decide_eq_true_eq]
    exact ordS_zero
theorem putL_ins : ∀ (l : List Sh) (c : Sh), putL l c = insL l c
  | [], c => by simp [putL, lowN, hasB, insL]
  | x :: r, c => by
    have ih := putL_ins r c
    unfold putL at ih ⊢
    unfold insL
    rw [lowN_cons, hasB_cons]
    show List.take (if x.od < c.od then _ else _) _ ++ _ ++ List.drop ((if x.od < c.od then _ else _) + if (if x.od < c.od then _ else _) = true then 1 else 0) _ = _
    by_cases h : x.od < c.od
    · simp only [if_pos h]
      rw [← ih]
      simp only [List.take_succ_cons, List.cons_append]
      rw [Nat.add_right_comm, List.drop_succ_cons]
    · simp only [if_neg h]
      by_cases h' : x.od = c.od
      · have : decide (x.od = (noS c.od).od) = true := decide_eq_true h'
        rw [this, if_pos h']
        simp
      · have : decide (x.od = (noS c.od).od) = false := decide_eq_false h'
        rw [this, if_neg h']
        simp
theorem stL_above : ∀ {l : List Sh} {a n : Int}, Good a l → n ≤ a → stL l n = 0
  | [], _, _, _, _ => rfl
  | x :: r, a, n, h, hn => by
    have h1 := h.1
    unfold stL
    rw [if_neg (by omega)]
    exact stL_above h.2.2.2.2.2 (by omega)
theorem shOf_st : ∀ {l : List Sh} {a : Int}, Good a l → ∀ n, (shOf l n).st = stL l n
  | [], _, _, n => by simp [shOf, hasB, stL, noS]
  | x :: r, a, h, n => by
    have ih := shOf_st h.2.2.2.2.2 n
    unfold shOf at ih ⊢
    rw [lowN_cons, hasB_cons]
    unfold stL
    by_cases h1 : x.od < n
    · simp only [show (noS n).od = n from rfl, if_pos h1, List.getD_cons_succ]
      rw [if_neg (show ¬ x.od = n by omega)]
      exact ih
    · simp only [show (noS n).od = n from rfl, if_neg h1]
      by_cases h2 : x.od = n
      · simp [h2]
      · simp only [decide_eq_false h2, Bool.false_eq_true, if_false, if_neg h2]
        rw [stL_above h.2.2.2.2.2 (by omega)]
        rfl
theorem ins_good : ∀ {l : List Sh} {a : Int} {c : Sh}, Good a l → a < c.od → 0 < c.od → c.od ≤ 1024 → c.st < 7 → c.st ≠ 0 → Good a (insL l c)
  | [], a, c, _, h1, h2, h3, h4, h5 => ⟨h1, h3, h2, h4, h5, trivial⟩
  | x :: r, a, c, h, h1, h2, h3, h4, h5 => by
    unfold insL
    by_cases h6 : x.od < c.od
    · rw [if_pos h6]
      exact ⟨h.1, h.2.1, h.2.2.1, h.2.2.2.1, h.2.2.2.2.1, ins_good h.2.2.2.2.2 h6 h2 h3 h4 h5⟩
    · rw [if_neg h6]
      by_cases h7 : x.od = c.od
      · rw [if_pos h7]
        exact ⟨h1, h3, h2, h4, h5, by rw [← h7]; exact h.2.2.2.2.2⟩
      · rw [if_neg h7]
        exact ⟨h1, h3, h2, h4, h5, by omega, h.2⟩
theorem ins_st : ∀ (l : List Sh) (c : Sh) (n : Int), stL (insL l c) n = if n = c.od then c.st else stL l n
  | [], c, n => by
    unfold insL stL stL
    by_cases h : n = c.od
    · rw [if_pos h, if_pos h.symm]
    · rw [if_neg h, if_neg (fun e => h e.symm)]
  | x :: r, c, n => by
    have ih := ins_st r c n
    unfold insL
    by_cases h6 : x.od < c.od
    · rw [if_pos h6]
      unfold stL
      rw [ih]
      by_cases h7 : x.od = n
      · rw [if_pos h7, if_neg (by omega), if_pos h7]
      · rw [if_neg h7, if_neg h7]
    · rw [if_neg h6]
      by_cases h7 : x.od = c.od
      · rw [if_pos h7]
        unfold stL
        by_cases h8 : n = c.od
        · rw [if_pos h8.symm, if_pos h8]
        · rw [if_neg (fun e => h8 e.symm), if_neg h8, if_neg (by omega)]
      · rw [if_neg h7]
        conv => lhs; unfold stL
        by_cases h8 : n = c.od
        · rw [if_pos h8.symm, if_pos h8]
        · rw [if_neg (fun e => h8 e.symm), if_neg h8]
theorem ins_len : ∀ (l : List Sh) (c : Sh), l.length ≤ (insL l c).length
  | [], c => by simp
  | x :: r, c => by
    have ih := ins_len r c
    unfold insL
    repeat' split
    all_goals simp only [List.length_cons]; omega
theorem ins_pos (l : List Sh) (c : Sh) : 0 < (insL l c).length := by
  cases l with
  | nil => simp [insL]
  | cons x r => unfold insL; repeat' split
                all_goals simp
theorem ins_comm : ∀ (l : List Sh) (c d : Sh), c.od ≠ d.od → insL (insL l c) d = insL (insL l d) c
  | [], c, d, h => by
    show insL [c] d = insL [d] c
    rcases Int.lt_trichotomy c.od d.od with h1 | h1 | h1
    · rw [insL, if_pos h1, insL, insL, if_neg (by omega), if_neg (fun e => h e.symm)]
    · exact absurd h1 h
    · rw [insL, if_neg (by omega), if_neg h, insL, if_pos h1, insL]
  | x :: r, c, d, h => by
    have ih := ins_comm r c d h
    have hl : ∀ c : Sh, x.od < c.od → insL (x :: r) c = x :: insL r c := fun c hc => by rw [insL, if_pos hc]
    have he : ∀ c : Sh, x.od = c.od → insL (x :: r) c = c :: r := fun c hc => by rw [insL, if_neg (by omega), if_pos hc]
    have hg : ∀ c : Sh, c.od < x.od → insL (x :: r) c = c :: x :: r := fun c hc => by rw [insL, if_neg (by omega), if_neg (by omega)]
    have gl : ∀ (y c : Sh) (r : List Sh), y.od < c.od → insL (y :: r) c = y :: insL r c := fun y c r hc => by rw [insL, if_pos hc]
    have ge : ∀ (y c : Sh) (r : List Sh), y.od = c.od → insL (y :: r) c = c :: r := fun y c r hc => by rw [insL, if_neg (by omega), if_pos hc]
    have gg : ∀ (y c : Sh) (r : List Sh), c.od < y.od → insL (y :: r) c = c :: y :: r := fun y c r hc => by rw [insL, if_neg (by omega), if_neg (by omega)]
    rcases Int.lt_trichotomy x.od c.od with h1 | h1 | h1 <;> rcases Int.lt_trichotomy x.od d.od with h2 | h2 | h2
    · rw [hl c h1, hl d h2, gl _ _ _ h2, gl _ _ _ h1, ih]
    · rw [hl c h1, he d h2, ge _ _ _ h2, gl _ _ _ (by omega)]
    · rw [hl c h1, hg d h2, gg _ _ _ h2, gl d c _ (by omega), hl c h1]
    · rw [he c h1, hl d h2, gl _ _ _ (by omega), ge _ _ _ h1]
    · exact absurd (h1.symm.trans h2) h
    · rw [he c h1, hg d h2, gg _ _ _ (by omega), gl d c _ (by omega), he c h1]
    · rw [hg c h1, hl d h2, gl c d _ (by omega), hl d h2, gg _ _ _ h1]
    · rw [hg c h1, he d h2, gl c d _ (by omega), he d h2, gg _ _ _ (by omega)]
    · rw [hg c h1, hg d h2]
      rcases Int.lt_trichotomy c.od d.od with h3 | h3 | h3
      · rw [gl c d _ h3, hg d h2, gg d c _ h3]
      · exact absurd h3 h
      · rw [gg c d _ h3, gl d c _ h3, hg c h1]
theorem ofR_good {l : List Sh} {n : Int} (hg : Good 0 l) (hn : orB n = true) : ofR l n = (stL l n, 0) := by
  unfold ofR
  rw [if_pos ⟨by unfold checkE; rw [if_pos ((goodL_iff l 0).2 hg)], hn⟩, shOf_st hg]
theorem ofR_bad {l : List Sh} {n : Int} (h : ¬ (Good 0 l ∧ orB n = true)) : ofR l n = (0, 2) := by
  unfold ofR
  rw [if_neg]
  rintro ⟨h1, h2⟩
  rcases checkE_cases l with ⟨hg, _⟩ | ⟨_, h3⟩
  · exact h ⟨hg, h2⟩
  · rw [h3] at h1; exact absurd h1 (by decide)
theorem checkE_good {l : List Sh} (hg : Good 0 l) : checkE l = 0 := by unfold checkE; rw [if_pos ((goodL_iff l 0).2 hg)]
theorem orB_iff {n : Int} : orB n = true ↔ 1 ≤ n ∧ n ≤ 1024 := by simp [orB]
theorem nxR_zero {s m : Int} (h : (nxR s m).2 = 0) : (nxR s m).1 ≠ 0 ∧ (nxR s m).1 = mk s m ∧ stB s = true ∧ mvB m = true := by
  unfold nxR at h ⊢
  split at h
  · rename_i h1
    rw [if_pos h1]
    split at h
    · exact absurd h (by decide)
    · rename_i h2
      rw [if_neg h2]
      exact ⟨h2, rfl, h1.1, h1.2⟩
  · exact absurd h (by decide)
theorem moveR_L (l : List Sh) (n m v : Int) : moveR l n m v = if ¬ (goodL 0 l = true ∧ orB n = true) then ([], 2) else if veB v = false then ([], 15) else if ¬ (nxR (stL l n) m).2 = 0 then ([], (nxR (stL l n) m).2) else if asB m = true ∧ v = 1 then ([], 10) else (insL l ⟨n, (nxR (stL l n) m).1⟩, 0) := by
  unfold moveR
  by_cases h : Good 0 l ∧ orB n = true
  · have h2 : ¬ ¬ (goodL 0 l = true ∧ orB n = true) := fun h' => h' ⟨(goodL_iff l 0).2 h.1, h.2⟩
    rw [ofR_good h.1 h.2, if_neg h2, putL_ins]
    rfl
  · have h2 : ¬ (goodL 0 l = true ∧ orB n = true) := fun h' => h ⟨(goodL_iff l 0).1 h'.1, h'.2⟩
    rw [ofR_bad h, if_pos h2]
    rfl
/-- a move that is done -/
theorem move_done {l l' : List Sh} {n m v er : Int} (h : moveR l n m v = (l', er)) (h0 : er = 0) : Good 0 l ∧ orB n = true ∧ Good 0 l' ∧ l' = insL l ⟨n, mk (stL l n) m⟩ ∧ mk (stL l n) m ≠ 0 ∧ stB (stL l n) = true ∧ mvB m = true := by
  subst h0
  rw [moveR_L] at h
  split at h
  · cases h
  rename_i hg
  have hg := Classical.not_not.1 hg
  rw [goodL_iff] at hg
  split at h
  · cases h
  split at h
  · rename_i h2
    simp only [Prod.mk.injEq] at h
    exact absurd h.2 h2
  rename_i h2
  have h2 := nxR_zero (Classical.not_not.1 h2)
  split at h
  · cases h
  simp only [Prod.mk.injEq, and_true] at h
  have hl := nxR_le (stL l n) m
  have hn := orB_iff.1 hg.2
  rw [h2.2.1] at h hl
  refine ⟨hg.1, hg.2, ?_, h.symm, by rw [← h2.2.1]; exact h2.1, h2.2.2⟩
  rw [← h]
  exact ins_good hg.1 (by show 0 < n; omega) (by show 0 < n; omega) hn.2 (by show mk _ _ < 7; omega) (by show mk _ _ ≠ 0; rw [← h2.2.1]; exact h2.1)
end Go.Proofs.YtfbfmhfceemkgaaDoor
