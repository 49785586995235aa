/- contracts: putNum, Clone, Num, Int, Text and the document's -/
import Derived.Test.YteckglnfkgfefaaK
import Derived.Test.YteckglnfkgfefaaCdMath
import Derived.WalkKit
import Derived.WalkSpells
import Derived.WalkLawsBesides
import Derived.Outline
import Derived.Laws.CopyOwn
import Derived.Laws.AppendOwnNone
import Derived.Deep.DeepAppendRoom
import Derived.OpenShut
import Derived.Deep.QuietTactic
import Derived.BigQuiet
import Derived.Lib.SlBytesConst
import Derived.Laws.BytesArg
namespace Go.Proofs.Yteckglnfkgfefaa
open Go.RowKit Cod
set_option maxRecDepth 40000
theorem strCells_bl (s : ByteArray) : Go.Lib.strCells s = bv (bl s) := by simp [Go.Lib.strCells, bv, bl, List.map_map, Function.comp_def]
/-- a whole number's bytes are those of this number -/
def zig (n : Int) : Nat := if n < 0 then 2 * (-1 - n).toNat + 1 else 2 * n.toNat
theorem or_128 (n : Nat) : bits .or .u8 ((n : Int) % 256) 128 = ((n % 128 + 128 : Nat) : Int) := by
  have h := u8_or_nat (n % 256) 128 (by omega) (by decide)
  have e : ∀ x < 256, x ||| 128 = x % 128 + 128 := by decide +kernel
  rw [e (n % 256) (by omega), show n % 256 % 128 = n % 128 by omega] at h
  rw [← h]; rfl
theorem u8_one (x : Int) : ∀ u ∈ [Value.int .u8 x], u.oneCell' = true := by
  intro u hu; simp at hu; subst hu; rfl
set_option maxHeartbeats 400000 in
theorem putNum_any (base : Nat) (v : Value) (m n : Nat) (l : List Nat) (w : World) (hown : w.ownsRow base 5 1 v m (bv l)) (hn : n < 18446744073709551616) (hb : base ≤ w.heap.size) (hm : m + 10 ≤ 140737488355328) :
    Calls Try.prog 79 #[v, .int .u64 n] w fun e w' => ∃ v', e = .returned v' ∧ w'.ownsRow base 5 1 v' (m + (num n).length) (bv (l ++ num n)) ∧ Below base w w' := by
  obtain ⟨i0, hi, hz0, hz1, hz2⟩ := info_parts Try.info5
  have hml : l.length = m := by have := hown.1; rw [bv_length] at this; omega
  have hln := num_len10 hn
  have HM : Hid (l.length = m) := hide hml
  clear hml
  go_enter Try.func79, Try.ntmps79
  go_wp2_with fail
  go_loopw [0, 1] (fun x i wr => ∃ (k q : Nat) (l' : List Nat), i = .int .u64 k ∧ wr.ownsRow base 5 1 x q (bv l') ∧ Below base w wr ∧ Hid (l' ++ num k = l ++ num n) ∧ k < 18446744073709551616 ∧ Hid (q + (num k).length = m + (num n).length)) (fun _ i _ => (intOf i).toNat)
  case atStart => exact ⟨n, m, l, rfl, hown, Below.refl _ _, hide rfl, hn, hide rfl⟩
  case round =>
    obtain ⟨k, q, l', rfl, hown', hbel, HL, hk, HQ⟩ := hrel
    have hbw := hbel.size
    have hq : q ≤ m + (num n).length := by have := HQ.out; omega
    clear hown
    by_cases hlt : 127 < k
    · have hb1 : decide ((127 : Int) < (k : Int)) = true := by simp; omega
      have hor := or_128 k
      have HK : Hid (num k = (k % 128 + 128) :: num (k / 128)) := hide (num_great (by omega))
      have hq1 : q < m + (num n).length := by have := HQ.out; have := HK.out; rw [this] at HQ; have := HQ.out; simp at this; omega
      generalize hX : k % 128 + 128 = x at *
      clear hX
      go_wp2_with (at_builtin; refine wpList_append_own _ rfl _ _ 34 rfl base 5 i0 (.int .u8 0) 1 1 Try.underlying34 hi hz0 hz1 hz2 rfl (by decide) _ q (bv l') rfl (hown'.alloc _) ⟨wr.heap.size, 0, none⟩ 1 1 [.int .u8 (x : Int)] rfl rfl (cell_one_new _ _ _) (u8_one _) ?c3 ?c4 ?c5 ?_)
      case c3 => unfold maxLen; omega
      case c4 => omega
      case c5 => simp; omega
      intro v2 w2 hown2 hg2 _
      have hb2 : Below base w w2 := (hbel.alloc (by omega) _).grown hg2 (by simp; omega) (fun k hk => (hown'.lt k hk).1)
      have hown3 : w2.ownsRow base 5 1 v2 (q + 1) (bv (l' ++ [x])) := by rw [bv_append]; exact hown2
      clear hown2 hg2 hown'
      go_wp2
      go_roundw
      case rel => 
        refine ⟨k / 128, q + 1, l' ++ [x], by go_num, hown3, hb2, hide ?_, by omega, hide ?_⟩
        · rw [← HL.out, HK.out]; simp
        · have := HQ.out; rw [HK.out] at this; simp at this; omega
      case measure => simp [intOf]; omega
    · have hb1 : decide ((127 : Int) < (k : Int)) = false := by simp; omega
      have hk2 : (k : Int) % 256 = (k : Int) := by omega
      have HK : Hid (num k = [k]) := hide (num_small (by omega))
      have hq1 : q < m + (num n).length := by rw [HK.out] at HQ; have := HQ.out; simp at this; omega
      go_wp2_with (at_builtin; refine wpList_append_own _ rfl _ _ 34 rfl base 5 i0 (.int .u8 0) 1 1 Try.underlying34 hi hz0 hz1 hz2 rfl (by decide) _ q (bv l') rfl (hown'.alloc _) ⟨wr.heap.size, 0, none⟩ 1 1 [.int .u8 (k : Int)] rfl rfl (cell_one_new _ _ _) (u8_one _) ?c3 ?c4 ?c5 ?_)
      case c3 => unfold maxLen; omega
      case c4 => omega
      case c5 => simp; omega
      intro v2 w2 hown2 hg2 _
      have hb2 : Below base w w2 := (hbel.alloc (by omega) _).grown hg2 (by simp; omega) (fun k hk => (hown'.lt k hk).1)
      have hown3 : w2.ownsRow base 5 1 v2 (q + 1) (bv (l' ++ [k])) := by rw [bv_append]; exact hown2
      clear hown2 hg2 hown'
      go_wp2
      go_ret
      refine ⟨_, rfl, ?_, hb2⟩
      have e1 := HQ.out
      have e2 := HL.out
      rw [HK.out] at e1 e2
      simp at e1
      rw [← e1, ← e2]
      exact hown3
/-- bytes.Clone -/
theorem cloneF_any (a : Option Addr) (len cap : Nat) (l : List Nat) (w : World) (h : IsB w a len cap l) (hr : len ≤ 140737488355328) :
    Calls Try.prog 80 #[.slice a len cap] w fun e w' => ∃ v, e = .returned v ∧ w'.ownsRow w.heap.size 5 1 v len (bv l) ∧ Below w.heap.size w w' := by
  cases a with
  | none =>
    obtain ⟨h1, h2, h3, h4, h5⟩ := h
    have : len = 0 ∧ cap = 0 := by
      rcases h5 with ⟨h5, h6⟩ | ⟨b, off, h6, _⟩
      · exact ⟨h5, h6 rfl⟩
      · cases h6
    obtain ⟨rfl, rfl⟩ := this
    obtain rfl : l = [] := List.length_eq_zero_iff.1 h1
    have hq := fun W => Go.Lib.run_eql_slice_nil (P := Try.prog) W 34 5 none 0 0 0 0 Try.underlying34
    go_enter Try.func80, Try.ntmps80
    go_wp2
    go_ret
    exact ⟨_, rfl, ⟨rfl, .inl ⟨rfl, rfl⟩⟩, Below.refl _ _⟩
  | some ad =>
    have hq := fun W => Go.Lib.run_eql_slice_nil (P := Try.prog) W 34 5 (some ad) len cap 0 0 Try.underlying34
    go_enter Try.func80, Try.ntmps80
    go_wp2_with (at_builtin; refine wpList_clone rfl _ _ rfl w.heap.size _ 0 [] rfl (owns_empty w _ (Nat.le_refl _)) (some ad) len cap l rfl ?hB ?hb ?hbase w.heap.size w ?bel (Nat.le_refl _) ?_)
    case hB => exact h.below ((Below.refl _ _).alloc (Nat.le_refl _) _)
    case hb => omega
    case hbase => simp
    case bel => exact (Below.refl _ _).alloc (Nat.le_refl _) _
    intro v w1 hown0 hb1
    have hown : w1.ownsRow w.heap.size 5 1 v len (bv l) := by simpa using hown0
    clear hown0
    go_wp2
    go_ret
    exact ⟨_, rfl, hown, hb1⟩
/-- codec.Num -/
theorem num_any (a : Option Addr) (len cap n : Nat) (l : List Nat) (w : World) (h : IsB w a len cap l) (hr : len + 10 ≤ 140737488355328) (hn : n < 18446744073709551616) :
    Calls Try.prog 56 #[.slice a len cap, .int .u64 n] w fun e w' => ∃ v, e = .returned v ∧ w'.ownsRow w.heap.size 5 1 v (len + (num n).length) (bv (l ++ num n)) ∧ Below w.heap.size w w' := by
  go_enter Try.func56, Try.ntmps56
  go_wp2_with fail
  refine (cloneF_any a len cap l _ h (by omega)).mono ?_
  rintro e w1 ⟨v1, rfl, hown1, hb1⟩
  go_wp2_with fail
  refine (putNum_any w.heap.size v1 len n l _ hown1 hn hb1.size hr).mono ?_
  rintro e w2 ⟨v2, rfl, hown2, hb2⟩
  go_wp2
  go_ret
  exact ⟨_, rfl, hown2, hb1.trans hb2⟩
/-- codec.Text -/
theorem text_any (a : Option Addr) (len cap : Nat) (s : ByteArray) (l : List Nat) (w : World) (h : IsB w a len cap l) (hr : len + 10 + s.size ≤ 140737488355328) :
    Calls Try.prog 57 #[.slice a len cap, .string s] w fun e w' => ∃ v, e = .returned v ∧ w'.ownsRow w.heap.size 5 1 v (len + (num s.size).length + s.size) (bv (l ++ num s.size ++ bl s)) ∧ Below w.heap.size w w' := by
  obtain ⟨i0, hi, hz0, hz1, hz2⟩ := info_parts Try.info5
  have hln := num_len10 (n := s.size) (by omega)
  go_enter Try.func57, Try.ntmps57
  go_wp2_with fail
  refine (num_any a len cap _ l _ h (by omega) (by omega)).mono ?_
  rintro e w1 ⟨v1, rfl, hown1, hb1⟩
  have hbs := hb1.size
  go_wp2_with (at_builtin; refine Go.Lib.wpList_append_own_string _ rfl _ _ 34 9 rfl w.heap.size 5 i0 Try.underlying34 Try.underlying9 hi hz0 hz1 hz2 _ _ _ rfl hown1 s rfl ?c3 ?c4 hbs ?_)
  case c3 => unfold maxLen; omega
  case c4 => omega
  intro v2 w2 hown2 hg2 _
  have hb2 : Below w.heap.size w w2 := hb1.grown hg2 hbs (fun k hk => (hown1.lt k hk).1)
  rw [strCells_bl, ← bv_append] at hown2
  clear hg2 hown1
  go_wp2
  go_ret
  exact ⟨_, rfl, hown2, hb2⟩
end Go.Proofs.Yteckglnfkgfefaa
