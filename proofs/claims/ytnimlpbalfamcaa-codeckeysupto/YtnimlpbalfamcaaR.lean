/- contracts: SameParts, SameEntries -/
import Derived.Test.YtnimlpbalfamcaaQ
import Derived.Laws.StructEq
namespace Go.Proofs.Ytnimlpbalfamcaa
open Go.RowKit Cod
open Classical
theorem hu60 : Try.prog.underlying 60 = some (.struct (Try.prog.fieldsOf 60)) := by kernel_rfl
theorem hp60 : Try.prog.stoodInHeld 60 = false := by kernel_rfl
theorem hm60 : Try.prog.eqGuardType Try.prog.depth 60 = false := by kernel_rfl
theorem f60 : (Try.prog.fieldsOf 60).toList.map (fun f => (f.type, f.offset, f.name)) = [(58, 0, "Kind"), (23, 1, "N"), (9, 2, "S")] := by kernel_rfl
theorem part_eq (W : World) (p q : Part) : (Op.equalIn 10000 60 (.agg #[.int .u8 p.k, .int .u64 p.n, .string (str p.s)]) (.agg #[.int .u8 q.k, .int .u64 q.n, .string (str q.s)])).run Try.prog W = .ok ((p.k : Int) == q.k && ((p.n : Int) == q.n && (str p.s).toList == (str q.s).toList)) W := by
  rw [run_equalIn_agg _ 9999 60 _ _ hu60 hp60]
  have hf := f60
  generalize (Try.prog.fieldsOf 60).toList = F at *
  have hl : F.length = 3 := by simpa using congrArg List.length hf
  match F, hl, hf with
  | [f0, f1, f2], _, hf =>
    simp only [List.map_cons, List.map_nil, List.cons.injEq, Prod.mk.injEq, and_true] at hf
    obtain ⟨⟨t0, o0, n0⟩, ⟨t1, o1, n1⟩, ⟨t2, o2, n2⟩⟩ := hf
    have u1 := Try.underlying58
    have u2 := Try.underlying23
    have u3 := Try.underlying9
    simp only [Op.eqFields, t0, o0, n0, t1, o1, n1, t2, o2, n2]
    go_simp
    by_cases h1 : (p.k : Int) = q.k <;> by_cases h2 : (p.n : Int) = q.n <;> by_cases h3 : (str p.s).toList = (str q.s).toList <;> simp [h1, h2, h3]
theorem part_neq (W : World) (p q : Part) (okp : okP p) (okq : okP q) : (binOp .neq 60 (.agg #[.int .u8 p.k, .int .u64 p.n, .string (str p.s)]) (.agg #[.int .u8 q.k, .int .u64 q.n, .string (str q.s)])).run Try.prog W = .ok (.bool (!decide (p = q))) W := by
  rw [run_neq_struct, part_eq, str_eq okp.2.2 okq.2.2]
  simp only [Result.andThen_ok]
  congr 2
  by_cases h : p = q
  · subst h; simp
  · rw [decide_eq_false h]
    obtain ⟨k, n, s⟩ := p
    obtain ⟨k', n', s'⟩ := q
    by_cases h1 : k = k' <;> by_cases h2 : n = n' <;> by_cases h3 : s = s' <;> simp_all <;> omega
theorem take_ne {α : Type} {l m : List α} {k : Nat} {x y : α} (h1 : l[k]? = some x) (h2 : m[k]? = some y) (h : x ≠ y) : l ≠ m := fun e => by rw [e, h2] at h1; cases h1; exact h rfl
theorem take_all {α : Type} {l m : List α} {k : Nat} (hl : l.length = k) (hm : m.length = k) (h : l.take k = m.take k) : l = m := by
  rwa [List.take_of_length_le (by omega), List.take_of_length_le (by omega)] at h
theorem take_step {α : Type} {l m : List α} {k : Nat} {x : α} (h1 : l[k]? = some x) (h2 : m[k]? = some x) (h : l.take k = m.take k) : l.take (k + 1) = m.take (k + 1) := by
  rw [List.take_add_one, List.take_add_one, h1, h2, h]
set_option maxHeartbeats 2000000 in
/-- ladingref03.SameParts -/
theorem sameParts_any (a b : Option Addr) (la ca lb cb : Nat) (ps qs : List Part) (w : World) (hP : IsP w a la ca ps) (hQ : IsP w b lb cb qs) :
    Calls Try.prog 30 #[.slice a la ca, .slice b lb cb] w fun e w' => e = .returned (.bool (decide (ps = qs))) ∧ ∃ m, w' = w.drewN m := by
  have hc1 : la ≤ ca := hP.2.1
  have hc2 : lb ≤ cb := hQ.2.1
  have hcm1 : ca ≤ 9223372036854775807 := hP.2.2.1
  have hcm2 : cb ≤ 9223372036854775807 := hQ.2.2.1
  have Hl1 := hide hP.1
  have Hl2 := hide hQ.1
  have HP := hide hP
  have HQ := hide hQ
  clear hP hQ
  by_cases hll : la = lb
  case neg =>
    have d1 : ((la : Int) != (lb : Int)) = true := by simp; omega
    have HN : Hid (decide (ps = qs) = false) := hide (decide_eq_false (fun h => hll (by rw [← Hl1.out, ← Hl2.out, h])))
    go_enter Try.func30, Try.ntmps30
    go_wp2
    go_ret
    exact ⟨by rw [HN.out]; rfl, 0, rfl⟩
  subst hll
  have d0 : ((la : Int) != (la : Int)) = false := by simp
  go_enter Try.func30, Try.ntmps30
  go_wp2_with fail
  go_loopw [5, 13] (fun _ i wr => ∃ k : Nat, k ≤ la ∧ i = .int .i64 k ∧ Hid (ps.take k = qs.take k) ∧ ∃ m, wr = w.drewN m) (fun _ i _ => la - (intOf i).toNat)
  case atStart => exact ⟨0, by omega, rfl, hide rfl, 0, rfl⟩
  case round =>
    obtain ⟨k, hk, rfl, HT, m, rfl⟩ := hrel
    by_cases hlt : k < la
    · obtain ⟨p, hp⟩ : ∃ p, ps[k]? = some p := ⟨ps[k]'(by have := Hl1.out; omega), List.getElem?_eq_getElem _⟩
      obtain ⟨q, hq⟩ : ∃ p, qs[k]? = some p := ⟨qs[k]'(by have := Hl2.out; omega), List.getElem?_eq_getElem _⟩
      have okp := HP.out.2.2.2.1 p (List.mem_of_getElem? hp)
      have okq := HQ.out.2.2.2.1 q (List.mem_of_getElem? hq)
      obtain ⟨b1, off, rfl, hblt, hc⟩ := (HP.out.below (below_drewN (Below.refl _ _) m)).2.2.2.2.resolve_left (fun h => by omega)
      obtain ⟨c1, c2, c3⟩ := hc k p hp
      obtain ⟨b2, off2, rfl, hblt2, hc'⟩ := (HQ.out.below (below_drewN (Below.refl _ _) m)).2.2.2.2.resolve_left (fun h => by omega)
      obtain ⟨e1, e2, e3⟩ := hc' k q hq
      have hpn := fun W => part_neq W p q okp okq
      have g60 := hm60
      have Hp := hide hp
      have Hq := hide hq
      clear hc hc' hp hq
      generalize hW : w.drewN m = W' at *
      have HW := hide hW
      clear hW
      by_cases hpq : p = q
      · have HT2 : Hid (ps.take (k + 1) = qs.take (k + 1)) := hide (take_step Hp.out (by rw [hpq]; exact Hq.out) HT.out)
        rw [decide_eq_true hpq] at hpn
        have HPQ := hide hpq
        clear hpq
        go_wp2
        go_quiet (fail)
        go_wp2
        go_roundw
        case rel => exact ⟨k + 1, by omega, by go_num, HT2, m + nq, by rw [← HW.out, World.drewN_drewN]⟩
        case measure => simp [intOf]; omega
      · have HN : Hid (decide (ps = qs) = false) := hide (decide_eq_false (take_ne Hp.out Hq.out hpq))
        rw [decide_eq_false hpq] at hpn
        clear hpq
        go_wp2
        go_quiet (fail)
        go_wp2
        go_ret
        exact ⟨by rw [HN.out]; rfl, m + nq, by rw [← HW.out, World.drewN_drewN]⟩
    · have HN : Hid (decide (ps = qs) = true) := hide (decide_eq_true (take_all (k := k) (by have := Hl1.out; omega) (by have := Hl2.out; omega) HT.out))
      have d1 : decide ((k : Int) < (la : Int)) = false := by simp; omega
      go_wp2
      go_ret
      exact ⟨by rw [HN.out]; rfl, m, rfl⟩
set_option maxHeartbeats 2000000 in
/-- ladingref03.SameEntries -/
theorem sameEntries_any (a b : Option Addr) (la ca lb cb : Nat) (es fs : List Ent) (w : World) (hP : IsE w a la ca es) (hQ : IsE w b lb cb fs) :
    Calls Try.prog 36 #[.slice a la ca, .slice b lb cb] w fun e w' => e = .returned (.bool (decide (es = fs))) ∧ ∃ m, w' = w.drewN m := by
  have hc1 : la ≤ ca := hP.2.1
  have hc2 : lb ≤ cb := hQ.2.1
  have hcm1 : ca ≤ 9223372036854775807 := hP.2.2.1
  have hcm2 : cb ≤ 9223372036854775807 := hQ.2.2.1
  have Hl1 := hide hP.1
  have Hl2 := hide hQ.1
  have HP := hide hP
  have HQ := hide hQ
  clear hP hQ
  by_cases hll : la = lb
  case neg =>
    have d1 : ((la : Int) != (lb : Int)) = true := by simp; omega
    have HN : Hid (decide (es = fs) = false) := hide (decide_eq_false (fun h => hll (by rw [← Hl1.out, ← Hl2.out, h])))
    go_enter Try.func36, Try.ntmps36
    go_wp2
    go_ret
    exact ⟨by rw [HN.out]; rfl, 0, rfl⟩
  subst hll
  have d0 : ((la : Int) != (la : Int)) = false := by simp
  go_enter Try.func36, Try.ntmps36
  go_wp2_with fail
  go_loopw [5, 13] (fun _ i wr => ∃ k : Nat, k ≤ la ∧ i = .int .i64 k ∧ Hid (es.take k = fs.take k) ∧ ∃ m, wr = w.drewN m) (fun _ i _ => la - (intOf i).toNat)
  case atStart => exact ⟨0, by omega, rfl, hide rfl, 0, rfl⟩
  case round =>
    obtain ⟨k, hk, rfl, HT, m, rfl⟩ := hrel
    by_cases hlt : k < la
    · obtain ⟨⟨pk, pv⟩, hp⟩ : ∃ p, es[k]? = some p := ⟨es[k]'(by have := Hl1.out; omega), List.getElem?_eq_getElem _⟩
      obtain ⟨⟨qk, qv⟩, hq⟩ : ∃ p, fs[k]? = some p := ⟨fs[k]'(by have := Hl2.out; omega), List.getElem?_eq_getElem _⟩
      obtain ⟨b1, off, rfl, hblt, hc⟩ := (HP.out.below (below_drewN (Below.refl _ _) m)).2.2.2.resolve_left (fun h => by omega)
      obtain ⟨ka, kc, va, vc, c1, c2, B1, B2⟩ := hc k _ hp
      obtain ⟨b2, off2, rfl, hblt2, hc'⟩ := (HQ.out.below (below_drewN (Below.refl _ _) m)).2.2.2.resolve_left (fun h => by omega)
      obtain ⟨ka', kc', va', vc', e1, e2, B3, B4⟩ := hc' k _ hq
      dsimp only at c1 c2 e1 e2 B1 B2 B3 B4
      generalize hW : w.drewN m = W' at *
      have HW := hide hW
      clear hW
      have SK := fun n => hide (same_any ka ka' pk.length kc qk.length kc' pk qk (W'.drewN n) (B1.below (below_drewN (Below.refl _ _) n)) (B3.below (below_drewN (Below.refl _ _) n)))
      have SV := fun n => hide (same_any va va' pv.length vc qv.length vc' pv qv (W'.drewN n) (B2.below (below_drewN (Below.refl _ _) n)) (B4.below (below_drewN (Below.refl _ _) n)))
      have Hp := hide hp
      have Hq := hide hq
      clear hc hc' hp hq B1 B2 B3 B4
      by_cases hkk : pk = qk
      · rw [decide_eq_true hkk] at SK
        by_cases hvv : pv = qv
        · rw [decide_eq_true hvv] at SV
          have HT2 : Hid (es.take (k + 1) = fs.take (k + 1)) := hide (take_step Hp.out (by rw [hkk, hvv]; exact Hq.out) HT.out)
          clear hkk hvv
          go_wp2
          go_quiet (first | (go_at_call_of 13 (Value.slice ka pk.length kc); exact Calls.quiet_of_same (SK _).out) | (go_at_call_of 13 (Value.slice va pv.length vc); exact Calls.quiet_of_same (SV _).out))
          go_wp2
          go_roundw
          case rel => exact ⟨k + 1, by omega, by go_num, HT2, m + nq, by rw [← HW.out, World.drewN_drewN]⟩
          case measure => simp [intOf]; omega
        · rw [decide_eq_false hvv] at SV
          have HN : Hid (decide (es = fs) = false) := hide (decide_eq_false (take_ne Hp.out Hq.out (fun h => hvv (congrArg Prod.snd h))))
          clear hkk hvv
          go_wp2
          go_quiet (first | (go_at_call_of 13 (Value.slice ka pk.length kc); exact Calls.quiet_of_same (SK _).out) | (go_at_call_of 13 (Value.slice va pv.length vc); exact Calls.quiet_of_same (SV _).out))
          go_wp2
          go_ret
          exact ⟨by rw [HN.out]; rfl, m + nq, by rw [← HW.out, World.drewN_drewN]⟩
      · rw [decide_eq_false hkk] at SK
        have HN : Hid (decide (es = fs) = false) := hide (decide_eq_false (take_ne Hp.out Hq.out (fun h => hkk (congrArg Prod.fst h))))
        clear hkk
        go_wp2
        go_quiet (first | (go_at_call_of 13 (Value.slice ka pk.length kc); exact Calls.quiet_of_same (SK _).out) | (go_at_call_of 13 (Value.slice va pv.length vc); exact Calls.quiet_of_same (SV _).out))
        go_wp2
        go_ret
        exact ⟨by rw [HN.out]; rfl, m + nq, by rw [← HW.out, World.drewN_drewN]⟩
    · have HN : Hid (decide (es = fs) = true) := hide (decide_eq_true (take_all (k := k) (by have := Hl1.out; omega) (by have := Hl2.out; omega) HT.out))
      have d1 : decide ((k : Int) < (la : Int)) = false := by simp; omega
      go_wp2
      go_ret
      exact ⟨by rw [HN.out]; rfl, m, rfl⟩
end Go.Proofs.Ytnimlpbalfamcaa
