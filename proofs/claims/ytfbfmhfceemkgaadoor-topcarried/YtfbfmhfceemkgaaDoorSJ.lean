/- what the document's examples ask for -/
import Derived.Test.YtfbfmhfceemkgaaDoorSI
namespace Go.Proofs.YtfbfmhfceemkgaaDoor
open Go.RowKit
theorem move_at {l l' : List Sh} {n m v er : Int} {k : Nat} (hR : moveR l n m v = (l', er)) (hk : l'.length = k) (a : Option Addr) (len cap : Nat) (w : World) (hT : Tab w) (h : IsH w a len cap l) (hm : u8B m) : Calls Tryd.prog 9 #[.slice a len cap, .int .i64 n, .int .u8 m, .int .u8 v] w fun e w' => ∃ a' c', e = .returned (.tuple #[.slice a' k c', .int .i64 er]) ∧ Hid (IsH w' a' k c' l') ∧ Hid (Below w.heap.size w w' ∧ Tab w') := by
  refine (move_any a len cap l n m v w hT h hm).mono ?_
  rintro e w' ⟨a', c', he, hI, hb, _⟩
  rw [hR] at he hI
  subst hk
  exact ⟨a', c', he, hI, hb, hT.below' hb⟩
theorem move_new {l l' : List Sh} {n m v er : Int} {k : Nat} (hR : moveR l n m v = (l', er)) (hk : l'.length = k) (a : Option Addr) (len cap : Nat) (w : World) (hT : Tab w) (h : IsH w a len cap l) (hm : u8B m) : Calls Tryd.prog 9 #[.slice a len cap, .int .i64 n, .int .u8 m, .int .u8 v] w fun e w' => ∃ a' c', e = .returned (.tuple #[.slice a' k c', .int .i64 er]) ∧ Hid (IsH w' a' k c' l' ∧ NewA w.heap.size a') ∧ Hid (Below w.heap.size w w' ∧ Tab w') := by
  refine (move_any a len cap l n m v w hT h hm).mono ?_
  rintro e w' ⟨a', c', he, hI, hb, hN⟩
  rw [hR] at he hI
  subst hk
  exact ⟨a', c', he, ⟨hI, hN⟩, hb, hT.below' hb⟩
theorem of_at {l : List Sh} {n s er : Int} (hR : ofR l n = (s, er)) (a : Option Addr) (len cap : Nat) (w : World) (hT : Tab w) (h : IsH w a len cap l) : Calls Tryd.prog 6 #[.slice a len cap, .int .i64 n] w fun e w' => e = .returned (.tuple #[.int .u8 s, .int .i64 er]) ∧ Hid (Below w.heap.size w w' ∧ Tab w') := by
  refine (of_any a len cap l n w h).mono ?_
  rintro e w' ⟨he, hb⟩
  rw [hR] at he
  exact ⟨he, hb, hT.below' hb⟩
end Go.Proofs.YtfbfmhfceemkgaaDoor
