/- contracts: the document's Text -/
import Derived.Test.YtjhlilamnbbkbaaDoorT1
namespace Go.Proofs.YtjhlilamnbbkbaaDoor
open Go.RowKit Go.Shelf Go.Sort Go.Lib
/-- where a text is under way -/
def Und (a : Nat) (i u : Nat) (S : List UInt8) : Prop :=
  i = 0 ∧ u = a ∧ S = [] ∨ i = 1 ∧ u = a / 10 ∧ S = [d8 (a % 10)] ∨ i = 2 ∧ u = a / 100 ∧ S = [d8 (a / 10 % 10), d8 (a % 10)] ∨ 3 ≤ i ∧ (0 < u → decDigits u ++ S = body a) ∧ (u = 0 → S = body a)
theorem body_eq (a : Nat) : body a = decDigits (a / 100) ++ [46, d8 (a / 10 % 10), d8 (a % 10)] := by
  unfold body; rw [show a % 100 / 10 = a / 10 % 10 by omega]
theorem und_one (a u : Nat) (S : List UInt8) (h : decDigits u ++ S = body a) : (0 < u / 10 → decDigits (u / 10) ++ d8 (u % 10) :: S = body a) ∧ (u / 10 = 0 → d8 (u % 10) :: S = body a) := by
  constructor
  · intro hu
    rw [dec_big u (by omega)] at h
    simpa using h
  · intro hu
    rw [dec_small u (by omega)] at h
    rw [show u % 10 = u by omega]
    simpa using h
theorem und_step (a i u : Nat) (S : List UInt8) (h : Und a i u S) (hc : i < 3 ∨ 0 < u) : Und a (i + 1) (u / 10) (if i = 2 then d8 (u % 10) :: 46 :: S else d8 (u % 10) :: S) := by
  rcases h with ⟨rfl, rfl, rfl⟩ | ⟨rfl, rfl, rfl⟩ | ⟨rfl, rfl, rfl⟩ | ⟨h3, h1, h0⟩
  · exact .inr (.inl ⟨rfl, rfl, rfl⟩)
  · exact .inr (.inr (.inl ⟨rfl, by omega, rfl⟩))
  · refine .inr (.inr (.inr ⟨by omega, ?_⟩))
    rw [if_pos rfl]
    exact und_one a (a / 100) _ (body_eq a).symm
  · refine .inr (.inr (.inr ⟨by omega, ?_⟩))
    rw [if_neg (by omega)]
    exact und_one a u S (h1 (by omega))
theorem und_end (a i u : Nat) (S : List UInt8) (h : Und a i u S) (h3 : ¬ i < 3) (hu : ¬ 0 < u) : S = body a := by
  rcases h with ⟨rfl, _⟩ | ⟨rfl, _⟩ | ⟨rfl, _⟩ | ⟨_, _, h0⟩
  · omega
  · omega
  · omega
  · exact h0 (by omega)
theorem one_digit (r : Nat) (h : r < 10) : (⟨#[48, 49, 50, 51, 52, 53, 54, 55, 56, 57]⟩ : ByteArray).extract r (r + 1) = ⟨#[d8 r]⟩ := by
  match r, h with
  | 0, _ => rfl
  | 1, _ => rfl
  | 2, _ => rfl
  | 3, _ => rfl
  | 4, _ => rfl
  | 5, _ => rfl
  | 6, _ => rfl
  | 7, _ => rfl
  | 8, _ => rfl
  | 9, _ => rfl
theorem notU (b : Int) (h0 : 0 ≤ b) (h : b ≤ 18446744073709551615) : bits .xor .u64 18446744073709551615 b = 18446744073709551615 - b := by
  show IntKind.u64.wrap ((BitVec.ofInt 64 18446744073709551615 ^^^ BitVec.ofInt 64 b).toNat : Int) = _
  have e1 : BitVec.ofInt 64 18446744073709551615 = BitVec.allOnes 64 := by decide
  rw [e1, BitVec.allOnes_xor, BitVec.toNat_not, wrapU]
  have e2 : ((BitVec.ofInt 64 b).toNat : Int) = b % 18446744073709551616 := by
    rw [BitVec.toNat_ofInt]; omega
  have e3 := (BitVec.ofInt 64 b).isLt
  generalize (BitVec.ofInt 64 b).toNat = t at *
  omega
/-- what a round adds -/
def addC (k v : Nat) (S : List UInt8) : List UInt8 := if k = 2 then d8 (v % 10) :: 46 :: S else d8 (v % 10) :: S
theorem cat_one (c : UInt8) (S : List UInt8) : ((⟨#[c]⟩ : ByteArray) ++ ⟨S.toArray⟩ : ByteArray) = ⟨(c :: S).toArray⟩ := cat_lists [c] S
theorem cat_e (S : List UInt8) : ((⟨#[]⟩ : ByteArray) ++ ⟨S.toArray⟩ : ByteArray) = ⟨S.toArray⟩ := cat_lists [] S
set_option maxHeartbeats 400000 in
/-- ladingref01.Text -/
theorem refText_any (n : Int) (hn : In64 n) (w : World) :
    Calls Tryd.prog 29 #[.int .i64 n] w fun e w' => e = .returned (.string ⟨(txt n).toArray⟩) ∧ w' = w := by
  obtain ⟨h1, h2⟩ := hn
  have hsg : IntKind.u64.signed = false := rfl
  have hmx : IntKind.u64.max = 18446744073709551615 := rfl
  by_cases hneg : n < 0
  · have HX : Hid (txt n = 45 :: body n.natAbs) := hide (by unfold txt; rw [if_pos hneg])
    obtain ⟨a, ha⟩ : ∃ a, a = n.natAbs := ⟨_, rfl⟩
    rw [← ha] at HX
    obtain ⟨U, X, e1, e2, e3⟩ : ∃ U X, IntKind.u64.wrap n = U ∧ bits .xor .u64 18446744073709551615 U = X ∧ IntKind.u64.wrap (X + 1) = (a : Int) := by
      refine ⟨n + 18446744073709551616, -1 - n, by rw [wrapU]; omega, by rw [notU _ (by omega) (by omega)]; omega, by rw [wrapU]; omega⟩
    have haM : a ≤ 9223372036854775808 := by omega
    clear ha
    go_enter Tryd.func29, Tryd.ntmps29
    go_wp2_with fail
    go_loop [4, 5, 6] (fun u s i => ∃ (k v : Nat) (S : List UInt8), u = .int .u64 v ∧ s = .string ⟨S.toArray⟩ ∧ i = .int .i64 k ∧ v ≤ 9223372036854775808 ∧ k ≤ 1000000000000000000 ∧ Hid (k = 0 ∨ k + v ≤ 1000000000000000000) ∧ S.length ≤ 2 * k ∧ Hid (Und a k v S)) (fun u _ i => (3 - (RowKit.intOf i).toNat) + (RowKit.intOf u).toNat)
    case atStart => exact ⟨0, a, [], rfl, rfl, rfl, haM, by decide, hide (.inl rfl), by decide, hide (.inl ⟨rfl, rfl, rfl⟩)⟩
    case round =>
      obtain ⟨k, v, S, rfl, rfl, rfl, hv, hk, hkv, hSl, hU⟩ := hrel
      have hd := hide (one_digit (v % 10) (by omega))
      by_cases c3 : k < 3
      · have HU := hide (und_step a k v S hU.out (.inl c3))
        by_cases c2 : k = 2
        · subst c2
          rw [if_pos rfl] at HU
          go_wp2
          exact ⟨⟨3, v / 10, d8 (v % 10) :: 46 :: S, congrArg (Value.int .u64) (by omega), by rw [hd.out, cat_one, cat_one], rfl, by omega, by decide, hide (by have := hkv.out; omega), by simp only [List.length_cons]; omega, HU⟩, by simp [RowKit.intOf]; omega⟩
        · have t : ((k : Int) == 2) = false := by simp; omega
          rw [if_neg c2] at HU
          go_wp2
          exact ⟨⟨k + 1, v / 10, d8 (v % 10) :: S, congrArg (Value.int .u64) (by omega), by rw [hd.out, cat_one], congrArg (Value.int .i64) (by omega), by omega, by omega, hide (by have := hkv.out; omega), by simp only [List.length_cons]; omega, HU⟩, by simp [RowKit.intOf]; omega⟩
      · by_cases c4 : 0 < v
        · have HU := hide (und_step a k v S hU.out (.inr c4))
          have t : ((k : Int) == 2) = false := by simp; omega
          rw [if_neg (by omega)] at HU
          have hkk := hkv.out
          go_wp2
          exact ⟨⟨k + 1, v / 10, d8 (v % 10) :: S, congrArg (Value.int .u64) (by omega), by rw [hd.out, cat_one], congrArg (Value.int .i64) (by omega), by omega, by omega, hide (by have := hkv.out; omega), by simp only [List.length_cons]; omega, HU⟩, by simp [RowKit.intOf]; omega⟩
        go_wp2
        go_ret
        exact ⟨ret_str ((cat_one 45 S).trans (by rw [HX.out, und_end a k v S hU.out c3 c4])), rfl⟩
  · have HX : Hid (txt n = body n.natAbs) := hide (by unfold txt; rw [if_neg hneg])
    obtain ⟨a, ha⟩ : ∃ a, a = n.natAbs := ⟨_, rfl⟩
    rw [← ha] at HX
    have e3 : n = (a : Int) := by omega
    have haM : a ≤ 9223372036854775808 := by omega
    clear ha
    subst e3
    go_enter Tryd.func29, Tryd.ntmps29
    go_wp2_with fail
    go_loop [4, 5, 6] (fun u s i => ∃ (k v : Nat) (S : List UInt8), u = .int .u64 v ∧ s = .string ⟨S.toArray⟩ ∧ i = .int .i64 k ∧ v ≤ 9223372036854775808 ∧ k ≤ 1000000000000000000 ∧ Hid (k = 0 ∨ k + v ≤ 1000000000000000000) ∧ S.length ≤ 2 * k ∧ Hid (Und a k v S)) (fun u _ i => (3 - (RowKit.intOf i).toNat) + (RowKit.intOf u).toNat)
    case atStart => exact ⟨0, a, [], rfl, rfl, rfl, haM, by decide, hide (.inl rfl), by decide, hide (.inl ⟨rfl, rfl, rfl⟩)⟩
    case round =>
      obtain ⟨k, v, S, rfl, rfl, rfl, hv, hk, hkv, hSl, hU⟩ := hrel
      have hd := hide (one_digit (v % 10) (by omega))
      by_cases c3 : k < 3
      · have HU := hide (und_step a k v S hU.out (.inl c3))
        by_cases c2 : k = 2
        · subst c2
          rw [if_pos rfl] at HU
          go_wp2
          exact ⟨⟨3, v / 10, d8 (v % 10) :: 46 :: S, congrArg (Value.int .u64) (by omega), by rw [hd.out, cat_one, cat_one], rfl, by omega, by decide, hide (by have := hkv.out; omega), by simp only [List.length_cons]; omega, HU⟩, by simp [RowKit.intOf]; omega⟩
        · have t : ((k : Int) == 2) = false := by simp; omega
          rw [if_neg c2] at HU
          go_wp2
          exact ⟨⟨k + 1, v / 10, d8 (v % 10) :: S, congrArg (Value.int .u64) (by omega), by rw [hd.out, cat_one], congrArg (Value.int .i64) (by omega), by omega, by omega, hide (by have := hkv.out; omega), by simp only [List.length_cons]; omega, HU⟩, by simp [RowKit.intOf]; omega⟩
      · by_cases c4 : 0 < v
        · have HU := hide (und_step a k v S hU.out (.inr c4))
          have t : ((k : Int) == 2) = false := by simp; omega
          rw [if_neg (by omega)] at HU
          have hkk := hkv.out
          go_wp2
          exact ⟨⟨k + 1, v / 10, d8 (v % 10) :: S, congrArg (Value.int .u64) (by omega), by rw [hd.out, cat_one], congrArg (Value.int .i64) (by omega), by omega, by omega, hide (by have := hkv.out; omega), by simp only [List.length_cons]; omega, HU⟩, by simp [RowKit.intOf]; omega⟩
        go_wp2
        go_ret
        exact ⟨ret_str ((cat_e S).trans (by rw [HX.out, und_end a k v S hU.out c3 c4])), rfl⟩
end Go.Proofs.YtjhlilamnbbkbaaDoor
