/- the walk of MoneyBack -/
import Derived.Test.YtjhlilamnbbkbaaDoorT1
namespace Go.Proofs.YtjhlilamnbbkbaaDoor
open Go.RowKit Go.Shelf Go.Sort Go.Lib
theorem txt_len (n : Int) (hn : In64 n) : (txt n).length ≤ 140737488355328 := by
  unfold In64 at hn
  have h : (decDigits (n.natAbs / 100)).length ≤ 20 := dec_len _ (by omega)
  unfold txt body
  split <;> simp <;> omega
set_option maxHeartbeats 1000000 in
/-- ladinglaw01.MoneyBack -/
theorem back_any (n : Int) (L : List UInt8) (w : World) (htab : POW w) (hn : In64 n) (hL : L.length ≤ 140737488355328) :
    Calls Tryd.prog 9 #[.int .i64 n, .string ⟨L.toArray⟩] w fun e w' => e = .returned (.bool true) ∧ Below w.heap.size w w' := by
  have HT := hide htab
  clear htab
  have X1 := hide (fun W hW => text_any n hn W hW)
  have P1 := hide (fun W => parse_any (txt n) (txt_len n hn) W)
  rw [par_txt n hn] at P1
  have P2 := hide (fun W => parse_any L hL W)
  have X2 := hide (fun (h : In64 (par L).1) W hW => text_any (par L).1 h W hW)
  have F := hide (txt_par L)
  clear hn hL
  generalize txt n = T at *
  generalize (par L).1 = k at *
  generalize (par L).2 = e1 at *
  have t1 : (n != n) = false := by simp
  go_enter Tryd.func9, Tryd.ntmps9
  go_wp2_with fail
  refine (lives_any _ HT.out).mono ?_
  rintro e w1 ⟨rfl, h1⟩
  go_wp2_with fail
  refine (X1.out _ (POW.below HT.out h1)).mono ?_
  rintro e w2 ⟨rfl, h2⟩
  replace h1 := h1.trans (h2.mono h1.size)
  clear h2
  go_wp2_with fail
  refine (P1.out _).mono ?_
  rintro e w3 ⟨rfl, h2⟩
  replace h1 := h1.trans (h2.mono h1.size)
  clear h2
  go_wp2_with fail
  refine (P2.out _).mono ?_
  rintro e w4 ⟨rfl, h2⟩
  replace h1 := h1.trans (h2.mono h1.size)
  clear h2
  rcases F.out with ⟨rfl, hk, hT⟩ | ⟨rfl | rfl, rfl⟩
  · have X3 := hide (X2.out hk)
    rw [hT] at X3
    clear F hk hT
    go_wp2_with fail
    refine (X3.out _ (POW.below HT.out h1)).mono ?_
    rintro e w5 ⟨rfl, h2⟩
    replace h1 := h1.trans (h2.mono h1.size)
    clear h2
    go_wp2
    go_ret
    exact ⟨rfl, h1⟩
  · go_wp2
    go_ret
    exact ⟨rfl, h1⟩
  · go_wp2
    go_ret
    exact ⟨rfl, h1⟩
end Go.Proofs.YtjhlilamnbbkbaaDoor
