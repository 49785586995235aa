/- contracts: Text -/
import Derived.Test.YtipeegjbfieknaaDoorMnM5
namespace Go.Proofs.YtipeegjbfieknaaDoor.Mn
open Go.RowKit Go.Shelf Go.Sort Go.Lib
set_option maxRecDepth 40000
def d8 (n : Nat) : UInt8 := UInt8.ofNat (48 + n)
theorem dec_small (n : Nat) (h : n < 10) : decDigits n = [d8 n] := by rw [decDigits]; simp [h, d8]
theorem dec_big (n : Nat) (h : ¬ n < 10) : decDigits n = decDigits (n / 10) ++ [d8 (n % 10)] := by rw [decDigits]; simp [h, d8]
theorem dec_hundred (r : Nat) (h : r < 100) : decDigits (100 + r) = [d8 1, d8 (r / 10), d8 (r % 10)] := by
  rw [dec_big _ (by omega), show (100 + r) / 10 = 10 + r / 10 by omega, dec_big _ (by omega), show (10 + r / 10) / 10 = 1 by omega, dec_small 1 (by omega), show (10 + r / 10) % 10 = r / 10 by omega, show (100 + r) % 10 = r % 10 by omega]
  rfl
abbrev POW (w : World) : Prop := Lib.TabIs Tryd.prog w "internal/strconv.uint64pow10" .u64 Lib.pow10Tab
theorem POW.below {w w1 : World} (h : POW w) (hb : Below w.heap.size w w1) : POW w1 := by
  unfold POW TabIs World.var? at *
  cases hg : Tryd.prog.globalNamed "internal/strconv.uint64pow10" with
  | none => simp [hg] at h
  | some g =>
    simp only [hg, Option.bind_some] at h ⊢
    have hlt : g < w.heap.size := by
      rcases Nat.lt_or_ge g w.heap.size with h' | h'
      · exact h'
      · rw [Array.getElem?_eq_none h'] at h; simp at h
    rw [hb.block g hlt]
    exact h
/-- an amount's text -/
def body (a : Nat) : List UInt8 := decDigits (a / 100) ++ [46, d8 (a % 100 / 10), d8 (a % 10)]
def txt (n : Int) : List UInt8 := if n < 0 then 45 :: body n.natAbs else body n.natAbs
theorem dec_len (n : Nat) (h : n < 18446744073709551616) : (decDigits n).length ≤ 20 := by
  rw [decDigits_length]
  by_cases h1 : 1 ≤ n
  · have := Lib.numDigits_eq n h1 h; split at this <;> omega
  · have : n = 0 := by omega
    subst this; decide +kernel
theorem cat_cents (D : List UInt8) (c0 c1 c2 : UInt8) : (⟨D.toArray⟩ ++ ⟨#[46]⟩ ++ (⟨#[c0, c1, c2]⟩ : ByteArray).extract 1 3 : ByteArray) = ⟨(D ++ [46, c1, c2]).toArray⟩ := by
  apply ByteArray.ext
  rw [ByteArray.data_append, ByteArray.data_append, ByteArray.data_extract]
  have e : (#[c0, c1, c2] : Array UInt8).extract 1 3 = #[c1, c2] := rfl
  rw [e]
  simp
theorem cat_minus (L : List UInt8) : ((⟨#[45]⟩ : ByteArray) ++ ⟨L.toArray⟩ : ByteArray) = ⟨(45 :: L).toArray⟩ := by
  apply ByteArray.ext
  rw [ByteArray.data_append]
  simp
theorem ret_str {a b : ByteArray} (h : a = b) : Ending.returned (.string a) = .returned (.string b) := by rw [h]
set_option maxHeartbeats 400000 in
theorem text_any (n : Int) (hn : In64 n) (w : World) (htab : POW w) :
    Calls Tryd.prog 6 #[.int .i64 n] w fun e w' => e = .returned (.string ⟨(txt n).toArray⟩) ∧ Below w.heap.size w w' := by
  have hn' := hn
  obtain ⟨h1, h2⟩ := hn'
  have A := hide (fun W => amount_any n hn W)
  have ha : n.natAbs ≤ 9223372036854775808 := by omega
  have HT := hide htab
  clear htab hn
  have F1 := hide (fun W hW => format_any (100 + n.natAbs % 100) (by omega) W hW)
  rw [dec_hundred _ (by omega)] at F1
  have F2 := hide (fun W hW => format_any (n.natAbs / 100) (by omega) W hW)
  have hlen := dec_len (n.natAbs / 100) (by omega)
  have HX : Hid (txt n = if n < 0 then 45 :: (decDigits (n.natAbs / 100) ++ [46, d8 (n.natAbs % 100 / 10), d8 (n.natAbs % 10)]) else decDigits (n.natAbs / 100) ++ [46, d8 (n.natAbs % 100 / 10), d8 (n.natAbs % 10)]) := hide rfl
  rw [show n.natAbs % 100 % 10 = n.natAbs % 10 by omega] at F1
  generalize decDigits (n.natAbs / 100) = D at *
  generalize d8 (n.natAbs % 100 / 10) = c1 at *
  generalize d8 (n.natAbs % 10) = c2 at *
  generalize d8 1 = c0 at *
  generalize n.natAbs = a at *
  by_cases hneg : n < 0
  · go_enter Tryd.func6, Tryd.ntmps6
    go_wp2_with fail
    refine (A.out _).mono ?_
    rintro e w' ⟨rfl, rfl⟩
    go_wp2_with fail
    rw [show (100 : Int) + (a : Int) % 100 = ((100 + a % 100 : Nat) : Int) by simp]
    refine (F1.out _ HT.out).mono ?_
    rintro e w1 ⟨rfl, hb1⟩
    go_wp2_with fail
    rw [show (a : Int) / 100 = ((a / 100 : Nat) : Int) by simp]
    refine (F2.out _ (POW.below HT.out hb1)).mono ?_
    rintro e w2 ⟨rfl, hb2⟩
    go_wp2
    go_ret
    exact ⟨ret_str ((congrArg (fun x => (⟨#[45]⟩ : ByteArray) ++ x) (cat_cents D c0 c1 c2)).trans ((cat_minus _).trans (by rw [HX.out, if_pos hneg]))), hb1.trans (hb2.mono hb1.size)⟩
  · go_enter Tryd.func6, Tryd.ntmps6
    go_wp2_with fail
    refine (A.out _).mono ?_
    rintro e w' ⟨rfl, rfl⟩
    go_wp2_with fail
    rw [show (100 : Int) + (a : Int) % 100 = ((100 + a % 100 : Nat) : Int) by simp]
    refine (F1.out _ HT.out).mono ?_
    rintro e w1 ⟨rfl, hb1⟩
    go_wp2_with fail
    rw [show (a : Int) / 100 = ((a / 100 : Nat) : Int) by simp]
    refine (F2.out _ (POW.below HT.out hb1)).mono ?_
    rintro e w2 ⟨rfl, hb2⟩
    go_wp2
    go_ret
    exact ⟨ret_str (by rw [HX.out, if_neg (by omega), ← cat_cents D c0 c1 c2]), hb1.trans (hb2.mono hb1.size)⟩
end Go.Proofs.YtipeegjbfieknaaDoor.Mn
