/- what is written is read, what is read is written: over lists of bytes alone -/
import Derived.Test.YtipeegjbfieknaaDoorMnM9
namespace Go.Proofs.YtipeegjbfieknaaDoor.Mn
open Go.RowKit Go.Shelf Go.Sort Go.Lib
set_option maxRecDepth 40000
theorem d8_val (n : Nat) (h : n < 10) : (d8 n).toNat = 48 + n := by
  unfold d8; rw [UInt8.toNat_ofNat']; omega
theorem d8_of (b : UInt8) (h1 : 48 ≤ b.toNat) (h2 : b.toNat ≤ 57) : d8 (b.toNat - 48) = b := by
  apply UInt8.toNat_inj.1
  rw [d8_val _ (by omega)]; omega
theorem cut_at (A C : List UInt8) (h : ∀ b ∈ A, b ≠ 46) : indexByte (A ++ 46 :: C) 46 = A.length := by
  induction A with
  | nil => simp [indexByte]
  | cons b r ih =>
    have hb : (b == 46) = false := by simpa using h b (by simp)
    have hr := ih (fun x hx => h x (by simp [hx]))
    simp only [List.cons_append, indexByte, hb, hr]
    have : (((r.length : Int) == -1) = false) := by simp
    simp [this]
theorem pcut_at (A C : List UInt8) (h : ∀ b ∈ A, b ≠ 46) : pcut (A ++ 46 :: C) = (A, C) := by
  unfold pcut
  rw [cut_at A C h, if_pos (by omega)]
  simp
theorem pcut_back (B : List UInt8) (h : (pcut B).2 ≠ []) : B = (pcut B).1 ++ 46 :: (pcut B).2 := by
  unfold pcut at *
  by_cases hi : 0 ≤ indexByte B 46
  · rw [if_pos hi] at h ⊢
    obtain ⟨o, ho⟩ := Int.eq_ofNat_of_zero_le hi
    rw [ho] at h ⊢
    obtain ⟨h1, _⟩ := indexByte_some ho
    obtain ⟨hlt, he⟩ := List.getElem?_eq_some_iff.1 h1
    simp only [Int.toNat_natCast]
    rw [← he, List.getElem_cons_drop hlt, List.take_append_drop]
  · rw [if_neg hi] at h
    exact absurd rfl h
theorem rd_app (L : List UInt8) (b : UInt8) : ∀ n, rd n (L ++ [b]) = (rd n L).bind fun m => if 922337203685477580 < m then none else some (m * 10 + (b.toNat - 48)) := by
  induction L with
  | nil => intro n; simp [rd]
  | cons x r ih =>
    intro n
    simp only [List.cons_append, rd]
    split
    · rfl
    · exact ih _
theorem dig_dec (q : Nat) : dig (decDigits q) = true := by
  induction q using Nat.strongRecOn with
  | _ q ih =>
    by_cases h : q < 10
    · rw [dec_small q h]
      unfold dig
      simp only [List.all_cons, List.all_nil, d8_val q h]
      simp; omega
    · rw [dec_big q h]
      refine dig_app (ih _ (by omega)) ?_
      unfold dig
      simp only [List.all_cons, List.all_nil, d8_val (q % 10) (by omega)]
      simp; omega
theorem dig_mem {L : List UInt8} (h : dig L = true) : ∀ b ∈ L, 48 ≤ b.toNat ∧ b.toNat ≤ 57 := by
  intro b hb
  unfold dig at h
  have := (List.all_eq_true.1 h) b hb
  simpa using this
theorem dig_no46 {L : List UInt8} (h : dig L = true) : ∀ b ∈ L, b ≠ 46 := by
  intro b hb he
  have := dig_mem h b hb
  subst he
  simp at this
theorem dec_ne (q : Nat) : decDigits q ≠ [] := by
  intro h
  have := congrArg List.length h
  rw [decDigits_length] at this
  have := nDigits_pos q
  simp at *; omega
/-- a numeral's first digit is nought only for nought -/
theorem dec_head (q : Nat) (h : 0 < q) : (decDigits q).headD 0 ≠ 48 := by
  induction q using Nat.strongRecOn with
  | _ q ih =>
    by_cases h10 : q < 10
    · rw [dec_small q h10]
      intro he
      have := congrArg UInt8.toNat he
      simp only [List.headD_cons, d8_val q h10] at this
      simp at this; omega
    · rw [dec_big q h10]
      have hne := dec_ne (q / 10)
      have hr := ih (q / 10) (by omega) (by omega)
      cases hd : decDigits (q / 10) with
      | nil => exact absurd hd hne
      | cons x r => rw [hd] at hr; simpa using hr
theorem whole_dec (q : Nat) : whole (decDigits q) = true := by
  unfold whole
  rw [dig_dec q]
  have hne := dec_ne q
  by_cases h : q = 0
  · subst h; rw [dec_small 0 (by decide)]; rfl
  · have h1 := dec_head q (by omega)
    have h2 : (decDigits q).isEmpty = false := by cases hd : decDigits q with
      | nil => exact absurd hd hne
      | cons x r => rfl
    have h3 : ((decDigits q).headD 0 == 48) = false := by simpa using h1
    rw [h2, h3]; simp
theorem rd_dec (q : Nat) (h : q ≤ 9223372036854775809) : rd 0 (decDigits q) = some q := by
  induction q using Nat.strongRecOn with
  | _ q ih =>
    by_cases h10 : q < 10
    · rw [dec_small q h10]
      simp only [rd, d8_val q h10]
      rw [if_neg (by decide)]
      congr 1; omega
    · rw [dec_big q h10, rd_app, ih (q / 10) (by omega) (by omega)]
      simp only [Option.bind_some, d8_val (q % 10) (by omega)]
      rw [if_neg (by omega)]
      congr 1; omega
theorem rd_cents (q r : Nat) (hr : r < 100) (h : q * 100 + r ≤ 9223372036854775808) : rd 0 (decDigits q ++ [d8 (r / 10), d8 (r % 10)]) = some (q * 100 + r) := by
  rw [show decDigits q ++ [d8 (r / 10), d8 (r % 10)] = (decDigits q ++ [d8 (r / 10)]) ++ [d8 (r % 10)] by simp, rd_app, rd_app, rd_dec q (by omega)]
  simp only [Option.bind_some, d8_val (r / 10) (by omega), d8_val (r % 10) (by omega)]
  rw [if_neg (by omega)]
  simp only [Option.bind_some]
  rw [if_neg (by omega)]
  congr 1; omega
theorem body_cut (a : Nat) : pcut (body a) = (decDigits (a / 100), [d8 (a % 100 / 10), d8 (a % 10)]) := pcut_at _ _ (dig_no46 (dig_dec _))
theorem cents_dig (r : Nat) (h : r < 100) : dig [d8 (r / 10), d8 (r % 10)] = true := by
  unfold dig
  simp only [List.all_cons, List.all_nil, d8_val (r / 10) (by omega), d8_val (r % 10) (by omega)]
  simp; omega
theorem body_fine (a : Nat) : fine (body a) = true := by
  unfold fine
  rw [body_cut]
  have h := cents_dig (a % 100) (by omega)
  rw [show a % 100 % 10 = a % 10 by omega] at h
  simp [whole_dec, h]
theorem body_par (a : Nat) (neg : Bool) (h : a ≤ 9223372036854775808) : parB (body a) neg = sgn a neg := by
  unfold parB
  rw [body_fine, body_cut]
  have h1 := rd_cents (a / 100) (a % 100) (by omega) (by omega)
  rw [show a % 100 % 10 = a % 10 by omega, show a / 100 * 100 + a % 100 = a by omega] at h1
  simp only [h1, if_true]
theorem body_head (a : Nat) : hasPrefix (body a) [45] = false := by
  unfold hasPrefix body
  have hne := dec_ne (a / 100)
  have hd := dig_dec (a / 100)
  cases h : decDigits (a / 100) with
  | nil => exact absurd h hne
  | cons x r =>
    rw [h] at hd
    have := dig_mem hd x (by simp)
    have hx : ((45 : UInt8) == x) = false := by
      simp only [beq_eq_false_iff_ne, ne_eq]
      intro he; subst he; simp at this
    simp [List.isPrefixOf, hx]
/-- what is written is read -/
theorem par_txt (n : Int) (hn : In64 n) : par (txt n) = (n, 0) := by
  unfold In64 at hn
  unfold par txt
  by_cases h : n < 0
  · rw [if_pos h]
    have h1 : hasPrefix (45 :: body n.natAbs) [45] = true := by simp [hasPrefix, List.isPrefixOf]
    unfold trimPrefix
    rw [h1, if_pos rfl]
    simp only [List.length_cons, List.length_nil, Nat.zero_add, List.drop_succ_cons, List.drop_zero]
    rw [body_par _ _ (by omega)]
    unfold sgn
    rw [if_pos rfl, if_neg (by omega), if_pos (by omega)]
    congr 1; omega
  · rw [if_neg h]
    unfold trimPrefix
    rw [body_head]
    simp only [Bool.false_eq_true, if_false]
    rw [body_par _ _ (by omega)]
    unfold sgn
    simp only [Bool.false_eq_true, if_false]
    rw [if_pos (by omega)]
    congr 1; omega
/-- a whole numeral is that of what it is read as -/
theorem dec_whole (W : List UInt8) : whole W = true → ∀ v, rd 0 W = some v → decDigits v = W ∧ (W.headD 0 ≠ 48 → 0 < v) := by
  induction hn : W.length using Nat.strongRecOn generalizing W with
  | _ n ih =>
    intro hw v hv
    have hd := whole_dig hw
    rcases List.eq_nil_or_concat W with rfl | ⟨V, b, rfl⟩
    · simp [whole, dig] at hw
    · simp only [List.concat_eq_append] at *
      have hb := dig_mem hd b (by simp)
      cases V with
      | nil =>
        simp only [List.nil_append, rd, if_neg (show ¬ 922337203685477580 < 0 by decide), Option.some.injEq] at hv
        subst hv
        rw [dec_small _ (by omega)]
        refine ⟨by simp [d8_of b hb.1 hb.2], ?_⟩
        intro hne
        simp only [List.nil_append, List.headD_cons] at hne
        have : b.toNat ≠ 48 := fun h => hne (UInt8.toNat_inj.1 h)
        omega
      | cons x V =>
        have hh : ((x :: V) ++ [b]).headD 0 ≠ 48 := by
          unfold whole at hw
          rw [Bool.and_eq_true, Bool.and_eq_true, Bool.or_eq_true] at hw
          rcases hw.2 with h | h
          · simp at h
          · simpa using h
        have hx : x ≠ 48 := by simpa using hh
        have hdv : dig (x :: V) = true := by
          unfold dig at hd ⊢
          rw [List.all_append, Bool.and_eq_true] at hd
          exact hd.1
        have hwv : whole (x :: V) = true := by
          unfold whole
          rw [hdv]
          simp [hx]
        rw [rd_app] at hv
        cases hm : rd 0 (x :: V) with
        | none => rw [hm] at hv; simp at hv
        | some m =>
          rw [hm] at hv
          simp only [Option.bind_some] at hv
          split at hv
          · cases hv
          · simp only [Option.some.injEq] at hv
            obtain ⟨e1, e2⟩ := ih (x :: V).length (by rw [← hn]; simp) (x :: V) rfl hwv m hm
            have hm0 : 0 < m := e2 (by simpa using hx)
            refine ⟨?_, fun _ => by omega⟩
            rw [dec_big v (by omega), show v / 10 = m by omega, e1, show v % 10 = b.toNat - 48 by omega, d8_of b hb.1 hb.2]
/-- what is read as a body is the body of what it is read as -/
theorem body_back (B : List UInt8) (hf : fine B = true) (a : Nat) (hr : rd 0 ((pcut B).1 ++ (pcut B).2) = some a) : body a = B := by
  unfold fine at hf
  rw [Bool.and_eq_true, Bool.and_eq_true, Bool.and_eq_true] at hf
  obtain ⟨hw, hl, hd, _⟩ := hf
  have hl' : (pcut B).2.length = 2 := of_decide_eq_true hl
  have hB := pcut_back B (by intro h; rw [h] at hl'; simp at hl')
  generalize (pcut B).1 = W at *
  generalize (pcut B).2 = C at *
  match C, hl' with
  | [c1, c2], _ =>
    have h1 := dig_mem hd c1 (by simp)
    have h2 := dig_mem hd c2 (by simp)
    rw [show W ++ [c1, c2] = (W ++ [c1]) ++ [c2] by simp, rd_app, rd_app] at hr
    cases hm : rd 0 W with
    | none => rw [hm] at hr; simp at hr
    | some m =>
      rw [hm] at hr
      simp only [Option.bind_some] at hr
      split at hr
      · simp at hr
      · simp only [Option.bind_some] at hr
        split at hr
        · cases hr
        · simp only [Option.some.injEq] at hr
          obtain ⟨e1, _⟩ := dec_whole W hw m hm
          unfold body
          rw [show a / 100 = m by omega, e1, show a % 100 / 10 = c1.toNat - 48 by omega, show a % 10 = c2.toNat - 48 by omega, d8_of c1 h1.1 h1.2, d8_of c2 h2.1 h2.2]
          exact hB.symm
theorem pre_back (L : List UInt8) (h : hasPrefix L [45] = true) : L = 45 :: trimPrefix L [45] := by
  unfold trimPrefix
  rw [if_pos h]
  cases L with
  | nil => simp [hasPrefix, List.isPrefixOf] at h
  | cons x r =>
    have hx : 45 = x := by simpa [hasPrefix, List.isPrefixOf] using h
    subst hx
    simp
/-- what is read is written; what is not read is nought -/
theorem txt_par (L : List UInt8) : ((par L).2 = 0 ∧ In64 (par L).1 ∧ txt (par L).1 = L) ∨ (((par L).2 = 5 ∨ (par L).2 = 14) ∧ (par L).1 = 0) := by
  unfold par parB
  by_cases hf : fine (trimPrefix L [45]) = true
  · rw [if_pos hf]
    cases hr : rd 0 ((pcut (trimPrefix L [45])).1 ++ (pcut (trimPrefix L [45])).2) with
    | none => exact .inr ⟨.inl rfl, rfl⟩
    | some a =>
      have hb := body_back _ hf a hr
      simp only
      unfold sgn
      cases hp : hasPrefix L [45] with
      | true =>
        rw [if_pos rfl]
        by_cases h0 : a = 0
        · rw [if_pos h0]; exact .inr ⟨.inr rfl, rfl⟩
        · rw [if_neg h0]
          by_cases h1 : a ≤ 9223372036854775808
          · rw [if_pos h1]
            refine .inl ⟨rfl, ⟨by simp only; omega, by simp only; omega⟩, ?_⟩
            unfold txt
            simp only
            rw [if_pos (by omega), show (-(a : Int)).natAbs = a by omega, hb]
            exact (pre_back L hp).symm
          · rw [if_neg h1]; exact .inr ⟨.inl rfl, rfl⟩
      | false =>
        simp only [Bool.false_eq_true, if_false]
        by_cases h1 : a ≤ 9223372036854775807
        · rw [if_pos h1]
          refine .inl ⟨rfl, ⟨by simp only; omega, by simp only; omega⟩, ?_⟩
          unfold txt
          simp only
          rw [if_neg (by omega), show ((a : Int)).natAbs = a by omega, hb]
          unfold trimPrefix
          rw [hp]; rfl
        · rw [if_neg h1]; exact .inr ⟨.inl rfl, rfl⟩
  · rw [if_neg hf]; exact .inr ⟨.inr rfl, rfl⟩
end Go.Proofs.YtipeegjbfieknaaDoor.Mn
