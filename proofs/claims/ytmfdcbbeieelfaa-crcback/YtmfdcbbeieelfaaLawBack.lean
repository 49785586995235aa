/- the walk of CrcBack -/
import Derived.Test.YtmfdcbbeieelfaaJ
namespace Go.Proofs.Ytmfdcbbeieelfaa
open Go.RowKit
theorem le_inj {c d : Nat} (hc : c < 4294967296) (hd : d < 4294967296) (h : le c = le d) : c = d := by
  simp only [le, List.cons.injEq] at h
  omega
theorem xor_ne {x y : Nat} (h : x ≠ y) : x ^^^ y ≠ 0 := by
  intro h0
  apply h
  have : x ^^^ (x ^^^ y) = x := by rw [h0, Nat.xor_zero]
  rwa [← Nat.xor_assoc, Nat.xor_self, Nat.zero_xor, eq_comm] at this
theorem sealed_ok (l : List Nat) (n : Nat) (hl : l.length = n) : (l ++ le (Crc.update 0 l)).drop (n + 4 - 4) = le (Crc.update 0 ((l ++ le (Crc.update 0 l)).take (n + 4 - 4))) := by
  have e : n + 4 - 4 = l.length := by omega
  rw [e, List.drop_left, List.take_left]
theorem sealed_broken (l : List Nat) (n p y : Nat) (hl : l.length = n) (hx : ∀ x ∈ l, x < 256) (hy : y < 256) (hp : p < n + 4) (hne : (l ++ le (Crc.update 0 l)).getD p 0 ≠ y) :
    ((l ++ le (Crc.update 0 l)).set p y).drop (n + 4 - 4) ≠ le (Crc.update 0 (((l ++ le (Crc.update 0 l)).set p y).take (n + 4 - 4))) := by
  have e : n + 4 - 4 = l.length := by omega
  rw [e]
  by_cases h : p < l.length
  · have e1 : (l ++ le (Crc.update 0 l)).set p y = l.set p y ++ le (Crc.update 0 l) := by rw [List.set_append, if_pos h]
    have e2 : l.length = (l.set p y).length := by simp
    rw [e1]
    conv => lhs; rw [e2, List.drop_left]
    conv => rhs; rw [e2, List.take_left]
    intro h0
    have hc := le_inj (update_lt 0 l (by decide) hx) (update_lt 0 (l.set p y) (by decide) (mem_set hx hy)) h0
    have hne' : l.getD p 0 ≠ y := by
      intro h1; apply hne; rw [← h1, List.getD_eq_getElem?_getD, List.getD_eq_getElem?_getD, List.getElem?_append_left h]
    have hv : Crc.val (l.set p y) = Crc.val l ^^^ 2 ^ (8 * p) * (l.getD p 0 ^^^ y) := by
      have := val_set l p (l.getD p 0 ^^^ y) h
      rwa [← Nat.xor_assoc, Nat.xor_self, Nat.zero_xor] at this
    refine update_ne 0 l (l.set p y) (8 * p) (l.getD p 0 ^^^ y) (by simp) (by omega) (xor_ne hne') ?_ hv hc.symm
    have := Nat.xor_lt_two_pow (n := 8) (getD_lt l p hx) hy
    omega
  · have e1 : (l ++ le (Crc.update 0 l)).set p y = l ++ (le (Crc.update 0 l)).set (p - l.length) y := by rw [List.set_append, if_neg h]
    rw [e1, List.drop_left, List.take_left]
    intro h0
    apply hne
    have hlen : p - l.length < (le (Crc.update 0 l)).length := by simp [le]; omega
    have h1 : ((le (Crc.update 0 l)).set (p - l.length) y).getD (p - l.length) 0 = y := by
      rw [List.getD_eq_getElem?_getD, List.getElem?_set_self hlen]; rfl
    rw [h0] at h1
    rw [List.getD_eq_getElem?_getD, List.getElem?_append_right (by omega), ← List.getD_eq_getElem?_getD, h1]
theorem bump (x : Nat) : ((x : Int) + 1) % 256 = (((x + 1) % 256 : Nat) : Int) := by simp
set_option maxHeartbeats 2000000 in
theorem back_any (a : Option Addr) (len cap : Nat) (l : List Nat) (p y : Int) (w : World) (h : IsB w a len cap l) (hr : cap ≤ 140737488351232) (hy0 : 0 ≤ y) (hy : y ≤ 255) :
    Calls Try.prog 8 #[.slice a len cap, .int .i64 p, .int .u8 y] w fun e w' => e = .returned (.bool true) ∧ Below w.heap.size w w' := by
  have hcl : len ≤ cap := h.2.1
  have hx := h.2.2.2.1
  have hlen := h.1
  obtain ⟨y, rfl⟩ := Int.eq_ofNat_of_zero_le hy0
  have HOK := hide (sealed_ok l len hlen)
  have hS := mem_app (Crc.update 0 l) hx
  have ctk : (l ++ le (Crc.update 0 l)).take (len + 4 - 4) = l := by rw [show len + 4 - 4 = l.length by omega, List.take_left]
  have n0 : (((len : Int) + 4) != ((len : Int) + 4)) = false := by simp
  clear hlen
  go_enter Try.func8, Try.ntmps8
  go_wp2_with fail
  refine (lives_any _).mono ?_
  rintro e w1 ⟨rfl, hb1⟩
  go_wp2_with fail
  refine (seal_any a len cap l _ (h.below hb1) (by omega)).mono ?_
  rintro e w2 ⟨g, rfl, hown2, hb2⟩
  have h2 : Below w.heap.size w w2 := hb1.trans (hb2.mono hb1.size)
  obtain ⟨g', c2, hv2, hg2, hrow2⟩ := Row.of_owns hown2 (by omega)
  cases hv2
  have hgw : w.heap.size ≤ g := Nat.le_trans hb1.size hg2
  have hglt := hrow2.lt
  clear hown2 hb2 hb1 hg2
  go_wp2_with fail
  refine (open_any g 0 (len + 4) (len + 4) _ _ (hrow2.isB hS) (by omega) (by omega)).mono ?_
  rintro e w3 ⟨(⟨_, v3, rfl, hown3⟩ | ⟨hbad, _⟩), hb3⟩
  case inr => exact absurd HOK.out hbad
  rw [ctk, show len + 4 - 4 = len by omega] at hown3
  obtain ⟨a3, c3, hv3, hB3⟩ := owns_isB hown3 hx
  subst hv3
  have hbw3 : Below w.heap.size w w3 := h2.trans (hb3.mono h2.size)
  have cv1 := conv_str hB3
  have cv2 := conv_str (h.below hbw3)
  generalize str l = sl at *
  obtain ⟨ga, hA⟩ : ∃ ga, 0 < len → a3 = some ⟨ga, 0, none⟩ ∧ w2.heap.size ≤ ga ∧ Row w3 ga len c3 l := by
    by_cases h0 : 0 < len
    · obtain ⟨ga, c', hv, hga, hrow⟩ := Row.of_owns hown3 h0
      cases hv
      exact ⟨ga, fun _ => ⟨rfl, hga, hrow⟩⟩
    · exact ⟨0, fun h1 => absurd h1 h0⟩
  go_wp2_with fail
  clear cv1 cv2 hown3 hB3 hbw3 ctk
  go_loopw [10, 42] (fun _ i wr => ∃ (k : Nat) (m : List Nat), k ≤ len ∧ i = .int .i64 k ∧ (0 < len → Row wr ga len c3 m) ∧ (∀ x ∈ m, x < 256) ∧ Below w2.heap.size w2 wr) (fun _ i _ => len - (intOf i).toNat)
  case atStart => exact ⟨0, l, Nat.zero_le _, rfl, fun h0 => (hA h0).2.2, hx, hb3⟩
  case round =>
    obtain ⟨k, m, hk, rfl, hr1, hm, hb⟩ := hrel
    clear hb3
    by_cases hlt : k < len
    · obtain ⟨e3, hga, _⟩ := hA (by omega)
      subst e3
      have hr2 := hr1 (by omega)
      have hc := hr2.cell hlt
      have hf := hr2.frozen k
      have hxl := getD_lt m k hm
      have eb := bump (m.getD k 0)
      have HR : Hid (Row (wr.setCell ⟨ga, k, none⟩ (.int .u8 (((m.getD k 0 + 1) % 256 : Nat) : Int))) ga len c3 (m.set k ((m.getD k 0 + 1) % 256))) := hide (hr2.set k _)
      have HM : Hid (∀ x ∈ m.set k ((m.getD k 0 + 1) % 256), x < 256) := hide (mem_set hm (by omega))
      have HB : Hid (Below w2.heap.size w2 (wr.setCell ⟨ga, k, none⟩ (.int .u8 (((m.getD k 0 + 1) % 256 : Nat) : Int)))) := hide (hb.setCell hga _)
      clear hr1 hr2 hm hb hA
      generalize m.getD k 0 = x at *
      generalize (x + 1) % 256 = z at *
      go_wp2
      go_roundw
      case rel => exact ⟨k + 1, _, by omega, by go_num, fun _ => HR.out, HM.out, HB.out⟩
      case measure => simp [intOf]; omega
    · have hrow4 := hrow2.below hb hglt
      have h4 : Below w.heap.size w wr := h2.trans (hb.mono h2.size)
      clear hr1 hm hA
      go_wp2_with fail
      refine (open_any g 0 (len + 4) (len + 4) _ _ (hrow4.isB hS) (by omega) (by omega)).mono ?_
      rintro e w5 ⟨(⟨_, v5, rfl, hown5⟩ | ⟨hbad, _⟩), hb5⟩
      case inr => exact absurd HOK.out hbad
      have ctk2 : (l ++ le (Crc.update 0 l)).take (len + 4 - 4) = l := by rw [show len + 4 - 4 = l.length by rw [h.1]; omega, List.take_left]
      rw [ctk2, show len + 4 - 4 = len by omega] at hown5
      obtain ⟨a5, c5, hv5, hB5⟩ := owns_isB hown5 hx
      subst hv5
      have h5 : Below w.heap.size w w5 := h4.trans (hb5.mono h4.size)
      have cv1 := conv_str hB5
      have cv2 := conv_str (h.below h5)
      have hrow5 := hrow4.below hb5 hrow4.lt
      clear hown5 hB5 ctk2 hb5 hb
      generalize str l = sl at *
      by_cases hp0 : p < 0
      · go_wp2
        go_ret
        exact ⟨rfl, h5⟩
      by_cases hp1 : (len : Int) + 4 ≤ p
      · have d0 : decide (p < 0) = false := by simpa using hp0
        go_wp2
        go_ret
        exact ⟨rfl, h5⟩
      obtain ⟨q, rfl⟩ := Int.eq_ofNat_of_zero_le (show 0 ≤ p by omega)
      have hq : q < len + 4 := by omega
      have d0 : decide ((q : Int) < 0) = false := by simp
      have d1 : decide ((len : Int) + 4 ≤ (q : Int)) = false := by simp; omega
      have hcq := hrow5.cell hq
      have hfq := hrow5.frozen q
      by_cases hsame : (l ++ le (Crc.update 0 l)).getD q 0 = y
      · have t : ((((l ++ le (Crc.update 0 l)).getD q 0 : Nat) : Int) == (y : Int)) = true := by rw [hsame]; simp
        clear hrow5 hrow4 hrow2 HOK hS hsame
        generalize (l ++ le (Crc.update 0 l)).getD q 0 = x at *
        go_wp2
        go_ret
        exact ⟨rfl, h5⟩
      · have t : ((((l ++ le (Crc.update 0 l)).getD q 0 : Nat) : Int) == (y : Int)) = false := by
          rw [beq_eq_false_iff_ne]; intro h0; exact hsame (Int.ofNat.inj h0)
        have HBR := hide (sealed_broken l len q y h.1 hx (by omega) hq hsame)
        have hrow6 := hide (hrow5.set q y)
        have hS6 := hide (mem_set (j := q) hS (show y < 256 by omega))
        have h6 := hide (h5.setCell (p := ⟨g, q, none⟩) hgw (.int .u8 (y : Int)))
        clear hrow5 hrow4 hrow2 HOK hS hsame
        generalize (l ++ le (Crc.update 0 l)).getD q 0 = x at *
        go_wp2_with fail
        refine (open_any g 0 (len + 4) (len + 4) _ _ (hrow6.out.isB hS6.out) (by omega) (by omega)).mono ?_
        rintro e w7 ⟨(⟨hgood, _⟩ | ⟨_, rfl⟩), hb7⟩
        case inl => exact absurd hgood HBR.out
        go_wp2
        go_ret
        exact ⟨rfl, h6.out.trans (hb7.mono h6.out.size)⟩
theorem crcBack.lawWalk (a : Option Addr) (len cap : Nat) (l : List Nat) (p y : Int) (w : World) (h : IsB w a len cap l) (hr : cap ≤ 140737488351232) (_wp : (Lit.int .i64 p).wf = true) (wy : (Lit.int .u8 y).wf = true) :
    Calls Try.prog 8 #[.slice a len cap, .int .i64 p, .int .u8 y] w fun e w' => e = .returned (.bool true) ∧ Below w.heap.size w w' :=
  back_any a len cap l p y w h hr (bounds_u8 wy).1 (bounds_u8 wy).2
end Go.Proofs.Ytmfdcbbeieelfaa
