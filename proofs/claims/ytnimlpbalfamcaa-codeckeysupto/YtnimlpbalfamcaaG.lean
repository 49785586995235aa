/- contracts: Key -/
import Derived.Test.YtnimlpbalfamcaaF
namespace Go.Proofs.Ytnimlpbalfamcaa
open Go.RowKit Cod
theorem all_take_succ {ps : List Part} {k : Nat} {p : Part} (h : ps[k]? = some p) (ha : (ps.take k).all isPart = true) (hp : isPart p = true) : (ps.take (k + 1)).all isPart = true := by
  rw [List.take_add_one, h, List.all_append, ha]; simp [hp]
theorem all_not {ps : List Part} {k : Nat} {p : Part} (h : ps[k]? = some p) (hp : isPart p = false) : ps.all isPart = false := by
  rw [List.all_eq_false]
  exact ⟨p, List.mem_of_getElem? h, by simp [hp]⟩
set_option maxHeartbeats 1000000 in
theorem key_some (b off len cap : Nat) (ps : List Part) (w : World) (h : IsP w (some ⟨b, off, none⟩) len cap ps) (h0 : 0 < len) (hmax : ∀ p ∈ ps, p.s.length ≤ 1048576) :
    Calls Try.prog 26 #[.slice (some ⟨b, off, none⟩) len cap] w fun e w' =>
      ((∃ v, key ps = .ok (keyB ps) ∧ e = .returned (.tuple #[v, .int .i64 0]) ∧ w'.ownsRow w.heap.size 5 1 v (keyB ps).length (bv (keyB ps))) ∨
       (∃ k : Nat, key ps = .error k ∧ k ≠ 0 ∧ e = .returned (.tuple #[.slice none 0 0, .int .i64 k]))) ∧ Below w.heap.size w w' := by
  have hlen := h.1
  have hcl := h.2.1
  have hcm : cap ≤ 9223372036854775807 := h.2.2.1
  have hok := h.2.2.2.1
  by_cases h16 : 16 < len
  · have HN : Hid (key ps = .error 3) := hide (by unfold key; rw [if_pos (by omega)])
    go_enter Try.func26, Try.ntmps26
    go_wp2
    go_ret2
    exact ⟨.inr ⟨3, HN.out, by decide, rfl⟩, Below.refl _ _⟩
  have Hok := hide hok
  have Hmax := hide hmax
  have H := hide h
  have Hlen := hide hlen
  clear h hok hmax hlen
  go_enter Try.func26, Try.ntmps26
  go_wp2_with fail
  go_loopw [5, 14] (fun _ i wr => ∃ k : Nat, k ≤ len ∧ i = .int .i64 k ∧ Hid ((ps.take k).all isPart = true) ∧ Below w.heap.size w wr) (fun _ i _ => len - (intOf i).toNat)
  case atStart => exact ⟨0, by omega, rfl, hide (by simp), Below.refl _ _⟩
  case round =>
    obtain ⟨k, hk, rfl, HA, hbel⟩ := hrel
    by_cases hlt : k < len
    · obtain ⟨p, hp⟩ : ∃ p, ps[k]? = some p := ⟨ps[k]'(by have := Hlen.out; omega), List.getElem?_eq_getElem _⟩
      obtain ⟨b', off', hbe, hblt, hc⟩ := (H.out.below hbel).2.2.2.2.resolve_left (fun h => by omega)
      cases hbe
      obtain ⟨c1, c2, c3⟩ := hc k p hp
      have HP := hide hp
      clear hc hp
      have hokp : okP p := Hok.out p (List.mem_of_getElem? HP.out)
      have d1 : decide ((k : Int) < (len : Int)) = true := by simp; omega
      have HC := hide (isPart_any p hokp (wr.alloc (.cells #[.int .u8 p.k, .int .u64 p.n, .string (str p.s)] 60)))
      have hb1 : Below w.heap.size w (wr.alloc (.cells #[.int .u8 p.k, .int .u64 p.n, .string (str p.s)] 60)) := hbel.alloc hbel.size _
      by_cases hip : isPart p = true
      · rw [hip] at HC
        have HA2 : Hid ((ps.take (k + 1)).all isPart = true) := hide (all_take_succ HP.out HA.out hip)
        go_wp2_with fail
        refine HC.out.mono ?_
        rintro e w2 ⟨rfl, hb2⟩
        go_wp2
        go_roundw
        case rel => exact ⟨k + 1, by omega, by go_num, HA2, hb1.trans (hb2.mono hb1.size)⟩
        case measure => simp [intOf]; omega
      · have hip2 : isPart p = false := by simpa using hip
        rw [hip2] at HC
        have HN : Hid (key ps = .error 15) := hide (by
          unfold key; rw [if_neg (by have := Hlen.out; omega), all_not HP.out hip2]; rfl)
        go_wp2_with fail
        refine HC.out.mono ?_
        rintro e w2 ⟨rfl, hb2⟩
        go_wp2
        go_ret2
        exact ⟨.inr ⟨15, HN.out, by decide, rfl⟩, hb1.trans (hb2.mono hb1.size)⟩
    · obtain rfl : k = len := by omega
      have HALL : Hid (ps.all isPart = true) := hide (by have := HA.out; rwa [List.take_of_length_le (by rw [Hlen.out]; exact Nat.le_refl _)] at this)
      clear HA
      have hbw := hbel.size
      go_wp2_with fail
      go_loopw [6, 8, 24] (fun x _ i wr => ∃ j q : Nat, j ≤ k ∧ i = .int .i64 j ∧ q ≤ 256 ∧ wr.ownsRow w.heap.size 5 1 x q (bv (keyB (ps.take j))) ∧ Hid (q = (keyB (ps.take j)).length) ∧ Below w.heap.size w wr) (fun _ _ i _ => k - (intOf i).toNat)
      case atStart => exact ⟨0, 0, by omega, rfl, by omega, World.ownsRow_nil _ _ _ _, hide rfl, hbel⟩
      case round =>
        obtain ⟨j, q, hj, rfl, hq, hown, HQ, hbel2⟩ := hrel
        clear hbel hbw
        have hbw := hbel2.size
        by_cases hlt2 : j < k
        · obtain ⟨p, hp⟩ : ∃ p, ps[j]? = some p := ⟨ps[j]'(by have := Hlen.out; omega), List.getElem?_eq_getElem _⟩
          obtain ⟨b', off', hbe, hblt, hc⟩ := (H.out.below hbel2).2.2.2.2.resolve_left (fun h => by omega)
          cases hbe
          obtain ⟨c1, c2, c3⟩ := hc j p hp
          have HP := hide hp
          clear hc hp
          have hmem := List.mem_of_getElem? HP.out
          have hokp : okP p := Hok.out p hmem
          have hmx := Hmax.out p hmem
          have d1 : decide ((j : Int) < (k : Int)) = true := by simp; omega
          have HC := hide (putPart_any w.heap.size u6 q p hokp (keyB (ps.take j)) (wr.alloc (.cells #[.int .u8 p.k, .int .u64 p.n, .string (str p.s)] 60)) (hown.alloc _) (by simp; omega) (by omega))
          have hb1 : Below w.heap.size w (wr.alloc (.cells #[.int .u8 p.k, .int .u64 p.n, .string (str p.s)] 60)) := hbel2.alloc hbel2.size _
          have HK : Hid (keyB (ps.take (j + 1)) = keyB (ps.take j) ++ partB p) := hide (by rw [List.take_add_one, HP.out, keyB_append]; simp [keyB])
          have HX := hide (keyB_lt (ps := ps.take (j + 1)) (fun p hp => Hok.out p (List.mem_of_mem_take hp)))
          go_wp2_with fail
          refine HC.out.mono ?_
          rintro e w2 ⟨v2, rfl, hown2, hb2⟩
          rw [← HK.out] at hown2
          obtain ⟨a2, cp2, rfl, hB2⟩ := owns_isB hown2 HX.out
          have hl2 : (keyB (ps.take (j + 1))).length = q + (partB p).length := hB2.1
          have hb3 := hb1.trans hb2
          have HL2 := hide hl2
          clear hB2
          generalize q + (partB p).length = q2 at *
          by_cases hlong : 256 < q2
          · have HN : Hid (key ps = .error 4) := hide (by
              unfold key; rw [if_neg (by have := Hlen.out; omega), HALL.out]
              have := keyB_take_le ps (j + 1)
              rw [if_neg (by decide), if_pos (by omega)])
            clear hl2
            go_wp2
            go_ret2
            exact ⟨.inr ⟨4, HN.out, by decide, rfl⟩, hb3⟩
          · clear hl2
            go_wp2
            go_roundw
            case rel => exact ⟨j + 1, q2, by omega, by go_num, by omega, hown2, hide HL2.out.symm, hb3⟩
            case measure => simp [intOf]; omega
        · obtain rfl : j = k := by omega
          have et : ps.take j = ps := List.take_of_length_le (by rw [Hlen.out]; exact Nat.le_refl _)
          rw [et] at hown HQ
          have HN : Hid (key ps = .ok (keyB ps)) := hide (by
            unfold key; rw [if_neg (by have := Hlen.out; omega), HALL.out]
            rw [if_neg (by decide), if_neg (by have := HQ.out; omega)])
          clear et
          go_wp2
          go_ret2
          exact ⟨.inl ⟨_, HN.out, rfl, by rw [← HQ.out]; exact hown⟩, hbel2⟩
theorem key_none (a : Option Addr) (cap : Nat) (w : World) : Calls Try.prog 26 #[.slice a 0 cap] w fun e w' => e = .returned (.tuple #[.slice none 0 0, .int .i64 0]) ∧ w' = w := by
  go_enter Try.func26, Try.ntmps26
  go_wp2_with fail
  go_loop [14] (fun i => i = .int .i64 0) (fun _ => 0)
  case atStart => exact rfl
  case round =>
    obtain rfl := hrel
    go_wp2_with fail
    go_loop [6, 24] (fun x i => x = .slice none 0 0 ∧ i = .int .i64 0) (fun _ _ => 0)
    case atStart => exact ⟨rfl, rfl⟩
    case round =>
      obtain ⟨rfl, rfl⟩ := hrel
      go_wp2
      go_ret2
      exact ⟨rfl, rfl⟩
/-- codec.Key -/
theorem key_any (a : Option Addr) (len cap : Nat) (ps : List Part) (w : World) (h : IsP w a len cap ps) (hmax : ∀ p ∈ ps, p.s.length ≤ 1048576) :
    Calls Try.prog 26 #[.slice a len cap] w fun e w' =>
      ((∃ v, key ps = .ok (keyB ps) ∧ e = .returned (.tuple #[v, .int .i64 0]) ∧ w'.ownsRow w.heap.size 5 1 v (keyB ps).length (bv (keyB ps))) ∨
       (∃ k : Nat, key ps = .error k ∧ k ≠ 0 ∧ e = .returned (.tuple #[.slice none 0 0, .int .i64 k]))) ∧ Below w.heap.size w w' := by
  by_cases h0 : len = 0
  · subst h0
    obtain rfl : ps = [] := List.length_eq_zero_iff.1 h.1
    refine (key_none a cap w).mono ?_
    rintro e w' ⟨rfl, rfl⟩
    exact ⟨.inl ⟨_, rfl, rfl, World.ownsRow_nil _ _ _ _⟩, Below.refl _ _⟩
  · obtain ⟨b, off, rfl, _, _⟩ := h.2.2.2.2.resolve_left (fun h => h0 h.1)
    exact key_some b off len cap ps w h (by omega) hmax
end Go.Proofs.Ytnimlpbalfamcaa
