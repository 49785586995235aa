/- how keys stand: sign and order -/
import Derived.Test.YtnimlpbalfamcaaL
import Derived.Test.YtnimlpbalfamcaaMath4
namespace Go.Proofs.Ytnimlpbalfamcaa
open Go.RowKit Cod
theorem less_map (l : List Nat) : ∀ m : List Nat, (∀ x ∈ l, x < 256) → (∀ x ∈ m, x < 256) → Op.bytesLess (l.map UInt8.ofNat) (m.map UInt8.ofNat) = lt l m := by
  induction l with
  | nil => intro m _ _; cases m <;> rfl
  | cons x t ih =>
    intro m hl hm
    cases m with
    | nil => rfl
    | cons y s =>
      have hx := hl x (by simp)
      have hy := hm y (by simp)
      have h1 := ih s (fun z hz => hl z (by simp [hz])) (fun z hz => hm z (by simp [hz]))
      rw [List.map_cons, List.map_cons, Op.bytesLess, lt_cons, h1]
      have e1 : (UInt8.ofNat x < UInt8.ofNat y) ↔ x < y := by
        rw [UInt8.lt_iff_toNat_lt]; simp; omega
      have e2 : (UInt8.ofNat x == UInt8.ofNat y) = (x == y) := by
        rw [Bool.eq_iff_iff]
        simp only [beq_iff_eq]
        constructor
        · intro h
          have := congrArg UInt8.toNat h
          simp at this; omega
        · intro h; rw [h]
      simp only [e1, e2]
theorem less_str {l m : List Nat} (hl : ∀ x ∈ l, x < 256) (hm : ∀ x ∈ m, x < 256) : Op.bytesLess (str l).toList (str m).toList = lt l m := by
  rw [ByteArray.toList_eq, ByteArray.toList_eq]
  exact less_map l m hl hm
/-- how bytes stand -/
def sgn (l m : List Nat) : Int := if lt l m then -1 else if l = m then 0 else 1
theorem sign_any (a b : Option Addr) (la ca lb cb : Nat) (l m : List Nat) (w : World) (ha : IsB w a la ca l) (hb : IsB w b lb cb m) :
    Calls Try.prog 37 #[.slice a la ca, .slice b lb cb] w fun e w' => e = .returned (.int .i64 (sgn l m)) ∧ w' = w := by
  have h1 := conv_str ha
  have h2 := conv_str hb
  have e1 := less_str ha.2.2.2.1 hb.2.2.2.1
  have e2 := str_eq ha.2.2.2.1 hb.2.2.2.1
  by_cases c1 : lt l m = true
  · have HS : Hid (sgn l m = -1) := hide (by unfold sgn; rw [if_pos c1])
    rw [c1] at e1
    generalize str l = s at *
    generalize str m = s' at *
    clear c1
    go_enter Try.func37, Try.ntmps37
    go_wp2
    go_ret
    exact ⟨by rw [HS.out]; rfl, rfl⟩
  have c1 : lt l m = false := by simpa using c1
  by_cases c2 : l = m
  · have HS : Hid (sgn l m = 0) := hide (by unfold sgn; rw [c1, if_neg (by decide), if_pos c2])
    rw [c1] at e1
    rw [decide_eq_true c2] at e2
    clear c1 c2
    generalize str l = s at *
    generalize str m = s' at *
    go_enter Try.func37, Try.ntmps37
    go_wp2
    go_ret
    exact ⟨by rw [HS.out]; rfl, rfl⟩
  · have HS : Hid (sgn l m = 1) := hide (by unfold sgn; rw [c1, if_neg (by decide), if_neg c2])
    rw [c1] at e1
    rw [decide_eq_false c2] at e2
    clear c1 c2
    generalize str l = s at *
    generalize str m = s' at *
    go_enter Try.func37, Try.ntmps37
    go_wp2
    go_ret
    exact ⟨by rw [HS.out]; rfl, rfl⟩
theorem drop_part {ps : List Part} {k : Nat} {p : Part} (h : ps[k]? = some p) : ps.drop k = p :: ps.drop (k + 1) := by
  obtain ⟨hk, he⟩ := List.getElem?_eq_some_iff.1 h
  rw [List.drop_eq_getElem_cons hk, he]
set_option maxHeartbeats 2000000 in
theorem order_any (a b : Option Addr) (la ca lb cb : Nat) (ps qs : List Part) (w : World) (hP : IsP w a la ca ps) (hQ : IsP w b lb cb qs) :
    Calls Try.prog 38 #[.slice a la ca, .slice b lb cb] w fun e w' => e = .returned (.int .i64 (ord ps qs)) ∧ Below w.heap.size w w' := by
  have hc1 : la ≤ ca := hP.2.1
  have hc2 : lb ≤ cb := hQ.2.1
  have hcm1 : ca ≤ 9223372036854775807 := hP.2.2.1
  have hcm2 : cb ≤ 9223372036854775807 := hQ.2.2.1
  have hl1 := hide hP.1
  have hl2 := hide hQ.1
  have HP := hide hP
  have HQ := hide hQ
  clear hP hQ
  go_enter Try.func38, Try.ntmps38
  go_wp2_with fail
  go_loopw [5, 6, 7, 10] (fun _ _ _ i wr => ∃ k : Nat, k ≤ la ∧ k ≤ lb ∧ i = .int .i64 k ∧ Hid (ord ps qs = ord (ps.drop k) (qs.drop k)) ∧ Below w.heap.size w wr) (fun _ _ _ i _ => la - (intOf i).toNat)
  case atStart => exact ⟨0, by omega, by omega, rfl, hide rfl, Below.refl _ _⟩
  case round =>
    obtain ⟨k, hk, hk2, rfl, HO, hbel⟩ := hrel
    by_cases hend : k = la
    · have d1 : decide ((k : Int) < (la : Int)) = false := by simp; omega
      have hnl : ¬ k < la := by omega
      by_cases hl : la < lb
      · obtain ⟨q, hq⟩ : ∃ p, qs[k]? = some p := ⟨qs[k]'(by have := hl2.out; omega), List.getElem?_eq_getElem _⟩
        have HN : Hid (ord ps qs = -1) := hide (by
          rw [HO.out, List.drop_eq_nil_of_le (by have := hl1.out; omega), drop_part hq]; rfl)
        have d2 : decide ((la : Int) < (lb : Int)) = true := by simp; omega
        clear hq hend
        go_wp2
        go_ret
        exact ⟨by rw [HN.out]; rfl, hbel⟩
      · have HN : Hid (ord ps qs = 0) := hide (by
          rw [HO.out, List.drop_eq_nil_of_le (by have := hl1.out; omega), List.drop_eq_nil_of_le (by have := hl2.out; omega)]; rfl)
        have d2 : decide ((la : Int) < (lb : Int)) = false := by simp; omega
        clear hend
        go_wp2
        go_ret
        exact ⟨by rw [HN.out]; rfl, hbel⟩
    have hlt : k < la := by omega
    have d1 : decide ((k : Int) < (la : Int)) = true := by simp; omega
    obtain ⟨p, hp⟩ : ∃ p, ps[k]? = some p := ⟨ps[k]'(by have := hl1.out; omega), List.getElem?_eq_getElem _⟩
    by_cases hend2 : k = lb
    · have HN : Hid (ord ps qs = 1) := hide (by
        have hz : qs.drop k = [] := List.drop_eq_nil_of_le (by have := hl2.out; omega)
        rw [HO.out, drop_part hp, hz]; rfl)
      have d2 : decide ((lb : Int) ≤ (k : Int)) = true := by simp; omega
      have d2' : decide (lb ≤ k) = true := by simp; omega
      have hge : lb ≤ k := by omega
      clear hp hend2
      go_wp2
      go_ret
      exact ⟨by rw [HN.out]; rfl, hbel⟩
    have hlt2 : k < lb := by omega
    obtain ⟨q, hq⟩ : ∃ p, qs[k]? = some p := ⟨qs[k]'(by have := hl2.out; omega), List.getElem?_eq_getElem _⟩
    have okp := HP.out.2.2.2.1 p (List.mem_of_getElem? hp)
    have okq := HQ.out.2.2.2.1 q (List.mem_of_getElem? hq)
    obtain ⟨b1, off, rfl, hblt, hc⟩ := (HP.out.below hbel).2.2.2.2.resolve_left (fun h => by omega)
    obtain ⟨c1, c2, c3⟩ := hc k p hp
    obtain ⟨b2, off2, rfl, hblt2, hc'⟩ := (HQ.out.below hbel).2.2.2.2.resolve_left (fun h => by omega)
    obtain ⟨e1, e2, e3⟩ := hc' k q hq
    have HO2 : Hid (ord ps qs = if below p q then -1 else if below q p then 1 else ord (ps.drop (k + 1)) (qs.drop (k + 1))) := hide (by
      rw [HO.out, drop_part hp, drop_part hq, ord])
    clear hc hc' hp hq HO
    have d2 : decide ((lb : Int) ≤ (k : Int)) = false := by simp; omega
    have hbz : ∀ o1 o2 : Obj, Below w.heap.size w ((wr.alloc o1).alloc o2).drew := fun o1 o2 => Below.drew ((hbel.alloc hbel.size _).alloc (by simp; have := hbel.size; omega) _)
    have HBZ := hide hbz
    clear hbz
    have l1 := less_str okp.2.2 okq.2.2
    have l2 := str_eq okp.2.2 okq.2.2
    by_cases hkk : p.k = q.k
    · have f1 : ((p.k : Int) != (q.k : Int)) = false := by simp; omega
      by_cases hb1 : p.n < q.n ∨ lt p.s q.s = true
      · have HN : Hid (ord ps qs = -1) := hide (by rw [HO2.out, if_pos]; simp [below, hkk]; exact hb1)
        have f : (decide ((p.n : Int) < (q.n : Int)) = true ∧ decide (p.n < q.n) = true) ∨ ((decide ((p.n : Int) < (q.n : Int)) = false ∧ decide (p.n < q.n) = false) ∧ Op.bytesLess (str p.s).toList (str q.s).toList = true) := by
          by_cases h : p.n < q.n
          · exact .inl ⟨by simp; omega, by simp; omega⟩
          · exact .inr ⟨⟨by simp; omega, by simp; omega⟩, by rw [l1]; exact hb1.resolve_left h⟩
        clear HO2 l1 l2 hb1 hkk
        rcases f with ⟨f2, f2'⟩ | ⟨⟨f2, f2'⟩, f3⟩ <;> (
          go_wp2
          go_region
          all_goals
            go_wp2
            go_ret
            exact ⟨by rw [HN.out]; rfl, HBZ.out _ _⟩)
      · have hb1' : ¬ p.n < q.n ∧ lt p.s q.s = false := by
          refine ⟨fun h => hb1 (.inl h), ?_⟩
          cases h : lt p.s q.s with
          | true => exact absurd (.inr h) hb1
          | false => rfl
        have f2 : decide ((p.n : Int) < (q.n : Int)) = false := by simp; omega
        have f2' : decide (p.n < q.n) = false := by simp; omega
        rw [hb1'.2] at l1
        have HB1 : Hid (below p q = false) := hide (by simp [below, hkk]; exact ⟨by omega, hb1'.2⟩)
        by_cases hb2 : q.n < p.n ∨ lt q.s p.s = true
        · have HN : Hid (ord ps qs = 1) := hide (by rw [HO2.out, HB1.out, if_neg (by decide), if_pos]; simp [below, hkk]; exact hb2)
          have f : (decide ((q.n : Int) < (p.n : Int)) = true ∧ decide (q.n < p.n) = true) ∨ ((decide ((q.n : Int) < (p.n : Int)) = false ∧ decide (q.n < p.n) = false) ∧ ((str p.s).toList == (str q.s).toList) = false) := by
            by_cases h : q.n < p.n
            · exact .inl ⟨by simp; omega, by simp; omega⟩
            · refine .inr ⟨⟨by simp; omega, by simp; omega⟩, ?_⟩
              rw [l2, decide_eq_false]
              intro he
              have := hb2.resolve_left h
              rw [he, lt_self] at this
              cases this
          clear HO2 l2 hb1 hb1' hb2 hkk HB1
          rcases f with ⟨f4, f4'⟩ | ⟨⟨f4, f4'⟩, f5⟩ <;> (
            go_wp2
            go_region
            all_goals
              go_wp2
              go_ret
              exact ⟨by rw [HN.out]; rfl, HBZ.out _ _⟩)
        · have hb2' : ¬ q.n < p.n ∧ lt q.s p.s = false := by
            refine ⟨fun h => hb2 (.inl h), ?_⟩
            cases h : lt q.s p.s with
            | true => exact absurd (.inr h) hb2
            | false => rfl
          have f4 : decide ((q.n : Int) < (p.n : Int)) = false := by simp; omega
          have f4' : decide (q.n < p.n) = false := by simp; omega
          rw [decide_eq_true (lt_total _ _ hb1'.2 hb2'.2)] at l2
          have HN : Hid (ord ps qs = ord (ps.drop (k + 1)) (qs.drop (k + 1))) := hide (by
            rw [HO2.out, HB1.out, if_neg (by decide), if_neg]
            simp [below, hkk]; exact ⟨by omega, hb2'.2⟩)
          clear HO2 hb1 hb1' hb2 hb2' hkk HB1
          go_wp2
          go_region
          all_goals
            go_wp2
            go_roundw
            case rel => exact ⟨k + 1, by omega, by omega, by go_num, HN, HBZ.out _ _⟩
            case measure => simp [intOf]; omega
    · have f1 : ((p.k : Int) != (q.k : Int)) = true := by simp; omega
      by_cases hb1 : p.k < q.k
      · have HN : Hid (ord ps qs = -1) := hide (by rw [HO2.out, if_pos]; simp [below]; exact .inl hb1)
        have f2 : decide ((p.k : Int) < (q.k : Int)) = true := by simp; omega
        have f2' : decide (p.k < q.k) = true := by simp; omega
        clear HO2 l1 l2 hkk
        go_wp2
        go_region
        all_goals
          go_wp2
          go_ret
          exact ⟨by rw [HN.out]; rfl, HBZ.out _ _⟩
      · have HN : Hid (ord ps qs = 1) := hide (by
          rw [HO2.out, if_neg, if_pos]
          · simp [below]; left; omega
          · simp [below]; exact ⟨by omega, fun h => absurd h hkk⟩)
        have f2 : decide ((p.k : Int) < (q.k : Int)) = false := by simp; omega
        have f2' : decide (p.k < q.k) = false := by simp; omega
        clear HO2 l1 l2 hkk
        go_wp2
        go_region
        all_goals
          go_wp2
          go_ret
          exact ⟨by rw [HN.out]; rfl, HBZ.out _ _⟩
end Go.Proofs.Ytnimlpbalfamcaa
