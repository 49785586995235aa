/- what the document's examples ask for -/
import Derived.Test.YtdiciobdknddkaaDoorI
namespace Go.Proofs.YtdiciobdknddkaaDoor
open Go.RowKit
theorem move_at {l l' : List Sh} {n m v er : Int} {k : Nat} (hR : moveR l n m v = (l', er)) (hk : l'.length = k) (a : Option Addr) (len cap : Nat) (w : World) (hT : Tab w) (h : IsH w a len cap l) (hm : u8B m) : Calls Tryd.prog 15 #[.slice a len cap, .int .i64 n, .int .u8 m, .int .u8 v] w fun e w' => ∃ a' c', e = .returned (.tuple #[.slice a' k c', .int .i64 er]) ∧ Hid (IsH w' a' k c' l') ∧ Hid (Below w.heap.size w w' ∧ Tab w') := by
  refine (move_any a len cap l n m v w hT h hm).mono ?_
  rintro e w' ⟨a', c', he, hI, hb, _⟩
  rw [hR] at he hI
  subst hk
  exact ⟨a', c', he, hI, hb, hT.below' hb⟩
theorem move_new {l l' : List Sh} {n m v er : Int} {k : Nat} (hR : moveR l n m v = (l', er)) (hk : l'.length = k) (a : Option Addr) (len cap : Nat) (w : World) (hT : Tab w) (h : IsH w a len cap l) (hm : u8B m) : Calls Tryd.prog 15 #[.slice a len cap, .int .i64 n, .int .u8 m, .int .u8 v] w fun e w' => ∃ a' c', e = .returned (.tuple #[.slice a' k c', .int .i64 er]) ∧ Hid (IsH w' a' k c' l' ∧ NewA w.heap.size a') ∧ Hid (Below w.heap.size w w' ∧ Tab w') := by
  refine (move_any a len cap l n m v w hT h hm).mono ?_
  rintro e w' ⟨a', c', he, hI, hb, hN⟩
  rw [hR] at he hI
  subst hk
  exact ⟨a', c', he, ⟨hI, hN⟩, hb, hT.below' hb⟩
theorem of_at {l : List Sh} {n s er : Int} (hR : ofR l n = (s, er)) (a : Option Addr) (len cap : Nat) (w : World) (hT : Tab w) (h : IsH w a len cap l) : Calls Tryd.prog 17 #[.slice a len cap, .int .i64 n] w fun e w' => e = .returned (.tuple #[.int .u8 s, .int .i64 er]) ∧ Hid (Below w.heap.size w w' ∧ Tab w') := by
  refine (of_any a len cap l n w h).mono ?_
  rintro e w' ⟨he, hb⟩
  rw [hR] at he
  exact ⟨he, hb, hT.below' hb⟩
theorem lives_any (w : World) (hT : Tab w) : Calls Tryd.prog 10 #[] w fun e w' => e = .returned (.bool true) ∧ Below w.heap.size w w' := by
  have m1 : moveR [] 1 1 0 = ([⟨1, 1⟩], 0) := by rfl
  have m2 : moveR [⟨1, 1⟩] 1 2 1 = ([], 10) := by rfl
  have m3 : moveR [⟨1, 1⟩] 1 2 0 = ([⟨1, 2⟩], 0) := by rfl
  have m4 : moveR [⟨1, 2⟩] 1 4 0 = ([], 9) := by rfl
  have o1 : ofR [⟨1, 2⟩] 1 = (2, 0) := by rfl
  have M1 := hide (fun W (t : Tab W) => move_at m1 rfl none 0 0 W t (isH_nil W) (by unfold u8B; omega))
  have M2 := hide (fun a c W (t : Tab W) (h : IsH W a 1 c [⟨1, 1⟩]) => move_at m2 rfl a 1 c W t h (by unfold u8B; omega))
  have M3 := hide (fun a c W (t : Tab W) (h : IsH W a 1 c [⟨1, 1⟩]) => move_at m3 rfl a 1 c W t h (by unfold u8B; omega))
  have M4 := hide (fun a c W (t : Tab W) (h : IsH W a 1 c [⟨1, 2⟩]) => move_at m4 rfl a 1 c W t h (by unfold u8B; omega))
  have O1 := hide (fun a c W (t : Tab W) (h : IsH W a 1 c [⟨1, 2⟩]) => of_at o1 a 1 c W t h)
  have HT := hide hT
  clear hT m1 m2 m3 m4 o1
  go_enter Tryd.func10, Tryd.ntmps10
  go_wp2_with fail
  refine (M1.out w HT.out).mono ?_
  rintro e w1 ⟨a1, c1, rfl, H1, B1⟩
  go_wp2_with fail
  refine (M2.out a1 c1 w1 B1.out.2 H1.out).mono ?_
  rintro e w2 ⟨a2, c2, rfl, H2, B2⟩
  go_wp2_with fail
  refine (M3.out a1 c1 w2 B2.out.2 (H1.out.below' B2.out.1)).mono ?_
  rintro e w3 ⟨a3, c3, rfl, H3, B3⟩
  go_wp2_with fail
  refine (M4.out a3 c3 w3 B3.out.2 H3.out).mono ?_
  rintro e w4 ⟨a4, c4, rfl, H4, B4⟩
  go_wp2_with fail
  refine (O1.out a3 c3 w4 B4.out.2 (H3.out.below' B4.out.1)).mono ?_
  rintro e w5 ⟨rfl, B5⟩
  have HB : Hid (Below w.heap.size w w5) := hide (by
    have b1 := B1.out.1
    have b2 := b1.trans (B2.out.1.mono b1.size)
    have b3 := b2.trans (B3.out.1.mono b2.size)
    have b4 := b3.trans (B4.out.1.mono b3.size)
    exact b4.trans (B5.out.1.mono b4.size))
  go_wp2
  go_ret
  exact ⟨rfl, HB.out⟩
end Go.Proofs.YtdiciobdknddkaaDoor
