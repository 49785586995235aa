/- anyLong -/
import Derived.Test.YtggbaanoagbmdaaA
namespace Go.Proofs.Ytggbaanoagbmdaa
open Go.RowKit
def longB (s : ByteArray) : Bool := decide (1024 < s.size)
theorem long_any (s : ByteArray) (w : World) : Calls Try.prog 41 #[.string s] w fun e w' => e = .returned (.bool (longB s)) ∧ w' = w := by
  have HT : Hid (longB s = decide (1024 < s.size)) := hide rfl
  generalize longB s = b at *
  go_enter Try.func41, Try.ntmps41
  go_wp2
  go_ret
  exact ⟨by rw [HT.out]; simp; omega, rfl⟩
theorem index_any (a : Option Addr) (len cap : Nat) (l : List ByteArray) (w : World) (h : IsT w a len cap l) :
    Calls Try.prog 47 #[.slice a len cap, .func (.func 41) #[] #[]] w fun e w' => (∃ k : Int, e = .returned (.int .i64 k) ∧ ((0 ≤ k ∧ l.any longB = true) ∨ (k < 0 ∧ l.any longB = false))) ∧ w' = w := by
  have HV := hide h
  have HLN := hide h.1
  have hcap := h.2.1
  have hcm : cap ≤ 9223372036854775807 := h.2.2.1
  have LG := hide (fun s W => long_any s W)
  clear h
  go_enter Try.func47, Try.ntmps47
  go_wp2
  go_loopw [8] (fun i wr => ∃ k : Nat, k ≤ len ∧ i = .int .i64 k ∧ Hid (∀ j, j < k → longB (l.getD j ⟨#[]⟩) = false) ∧ wr = w) (fun i _ => len - (intOf i).toNat)
  case atStart => exact ⟨0, Nat.zero_le _, rfl, hide (fun j hj => by omega), rfl⟩
  case round =>
    obtain ⟨k, hk, rfl, HA, rfl⟩ := hrel
    by_cases hlt : k < len
    · obtain ⟨bs, off, rfl, hbs, z0⟩ := HV.out.2.2.2.2 k hlt
      generalize hx : l.getD k ⟨#[]⟩ = x at *
      have HX := hide hx
      have HIN : Hid (x ∈ l) := hide (by rw [← hx, List.getD_eq_getElem?_getD, List.getElem?_eq_getElem (by rw [HLN.out]; exact hlt)]; simp)
      clear hx
      cases hb : longB x
      · have hc := LG.out x
        rw [hb] at hc
        go_wp2_with fail
        refine (hc _).mono ?_
        rintro e w' ⟨rfl, rfl⟩
        go_wp2
        go_roundw
        case rel => exact ⟨k + 1, by omega, by simp, hide (fun j hj => by by_cases e : j = k; · subst e; rw [HX.out]; exact hb
                                                                          · exact HA.out j (by omega)), by trivial⟩
        case measure => simp [intOf]; omega
      · have hc := LG.out x
        rw [hb] at hc
        go_wp2_with fail
        refine (hc _).mono ?_
        rintro e w' ⟨rfl, rfl⟩
        go_wp2
        go_ret
        exact ⟨⟨_, rfl, .inl ⟨by omega, List.any_eq_true.2 ⟨x, HIN.out, hb⟩⟩⟩, rfl⟩
    · obtain rfl : k = len := by omega
      go_wp2
      go_ret
      refine ⟨⟨_, rfl, .inr ⟨by decide, ?_⟩⟩, rfl⟩
      refine List.any_eq_false.2 (fun x hx => ?_)
      obtain ⟨j, hj, rfl⟩ := List.mem_iff_getElem.1 hx
      have := HA.out j (by rw [← HLN.out]; exact hj)
      rw [List.getD_eq_getElem?_getD, List.getElem?_eq_getElem hj] at this
      simpa using this
theorem contains_any (a : Option Addr) (len cap : Nat) (l : List ByteArray) (w : World) (h : IsT w a len cap l) :
    Calls Try.prog 40 #[.slice a len cap, .func (.func 41) #[] #[]] w fun e w' => e = .returned (.bool (l.any longB)) ∧ w' = w := by
  have HI := hide (index_any a len cap l w h)
  clear h
  go_enter Try.func40, Try.ntmps40
  go_wp2_with fail
  refine HI.out.mono ?_
  rintro e w' ⟨⟨k, rfl, (⟨hk, hb⟩ | ⟨hk, hb⟩)⟩, rfl⟩
  · have HB := hide hb
    have d : decide ((0 : Int) ≤ k) = true := decide_eq_true hk
    clear hb
    go_wp2
    go_ret
    exact ⟨by rw [HB.out]; rfl, rfl⟩
  · have HB := hide hb
    have d : decide ((0 : Int) ≤ k) = false := decide_eq_false (by omega)
    clear hb
    go_wp2
    go_ret
    exact ⟨by rw [HB.out]; rfl, rfl⟩
/-- events.anyLong -/
theorem anyLong_any (a : Option Addr) (len cap : Nat) (l : List ByteArray) (w : World) (h : IsT w a len cap l) :
    Calls Try.prog 25 #[.slice a len cap] w fun e w' => e = .returned (.bool (l.any longB)) ∧ w' = w := by
  have HI := hide (contains_any a len cap l w h)
  clear h
  generalize l.any longB = b at *
  go_enter Try.func25, Try.ntmps25
  go_wp2_with fail
  refine HI.out.mono ?_
  rintro e w' ⟨rfl, rfl⟩
  go_wp2
  go_ret
  exact ⟨rfl, rfl⟩
end Go.Proofs.Ytggbaanoagbmdaa
