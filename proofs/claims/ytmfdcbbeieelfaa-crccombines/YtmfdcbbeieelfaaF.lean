/- contracts: lives -/
import Derived.Test.YtmfdcbbeieelfaaE
import Derived.Lib.SlBytesConst
import Derived.Laws.BytesArg
namespace Go.Proofs.Ytmfdcbbeieelfaa
open Go.RowKit
theorem isB_lit (W : World) (l : List Nat) (h : ∀ x ∈ l, x < 256) (hm : l.length ≤ maxLen) (m : Nat × Nat) : IsB (W.alloc (.cells (bv l).toArray 5 m)) (some ⟨W.heap.size, 0, none⟩) l.length l.length l := by
  refine ⟨rfl, Nat.le_refl _, hm, h, .inr ⟨_, 0, rfl, by simp, fun i hi => ?_⟩⟩
  have hn := heap_alloc_new W (.cells (bv l).toArray 5 m)
  simp only [World.cell?, hn]
  simpa using bv_get l i hi
def str (l : List Nat) : ByteArray := ⟨(l.map UInt8.ofNat).toArray⟩
theorem strOf (l : List Nat) : strOfNums (l.map fun x => ((x : Nat) : Int)) = str l := by
  simp [strOfNums, str, List.map_map, Function.comp_def]
theorem conv_str {w : World} {a : Option Addr} {len cap : Nat} {l : List Nat} (h : IsB w a len cap l) : (convert 23 9 (.slice a len cap)).run Try.prog w = .ok (.string (str l)) w := by
  obtain ⟨h1, h2, h3, h4, h5⟩ := h
  rcases h5 with ⟨h5, _⟩ | ⟨b, off, rfl, hlt, hc⟩
  · subst h5
    obtain rfl : l = [] := List.length_eq_zero_iff.1 h1
    cases a with
    | none => exact run_convert_bytes_nil w 23 5 Try.underlying23 Try.underlying5 0 cap 9 Try.underlying9
    | some x =>
      have hl : (loadCells x 0).run Try.prog w = .ok (([] : List Int).map (Value.int .u8)).toArray w := by simpa using run_loadCells_list (P := Try.prog) w x [] (by simp)
      rw [run_convert_bytes_string w 23 9 5 _ 0 cap Try.underlying23 Try.underlying5 Try.underlying9, run_bytesToString w _ 0 cap [] hl]
      rfl
  · have := run_convert_bytes_arg (P := Try.prog) w 23 5 Try.underlying23 Try.underlying5 b off len cap (l.map fun x => ((x : Nat) : Int)) (by simpa using h1) (fun i hi => by
      rw [hc i hi]
      have : i < l.length := by omega
      simp [List.getD_eq_getElem?_getD, List.getElem?_eq_getElem this]) 9 Try.underlying9
    rw [strOf] at this
    exact this
theorem mem_app {l : List Nat} (c : Nat) (h : ∀ x ∈ l, x < 256) : ∀ x ∈ l ++ le c, x < 256 := by
  intro x hx
  rcases List.mem_append.1 hx with h1 | h1
  · exact h x h1
  · exact le_lt _ x h1
theorem crc_check : Crc.update 0 [49, 50, 51, 52, 53, 54, 55, 56, 57] = 3421780262 := by decide +kernel
theorem crc_ab : List.drop (6 - 4) ([97, 98] ++ le (Crc.update 0 [97, 98])) = le (Crc.update 0 (List.take (6 - 4) ([97, 98] ++ le (Crc.update 0 [97, 98])))) := rfl
theorem crc_abcd : List.drop (4 - 4) [97, 98, 99, 100] ≠ le (Crc.update 0 (List.take (4 - 4) [97, 98, 99, 100])) := by decide +kernel
set_option maxHeartbeats 400000 in
theorem lives_any (w : World) :
    Calls Try.prog 11 #[] w fun e w' => e = .returned (.bool true) ∧ Below w.heap.size w w' := by
  have kc := fun (w : World) (C : Array Value) (n c : Nat) => Lib.run_convert_bytes_const (P := Try.prog) w 23 5 C n c Try.underlying23 Try.underlying5
  go_enter Try.func11, Try.ntmps11
  go_wp2_with fail
  refine (seal_any _ 2 2 [97, 98] _ (isB_lit w [97, 98] (by decide) (by decide) (2, 3)) (by decide)).mono ?_
  rintro e w1 ⟨g, rfl, hown1, hb1⟩
  have hw1 : Below w.heap.size w w1 := ((Below.refl _ _).alloc (Nat.le_refl _) _).trans (hb1.mono (by simp))
  obtain ⟨a1, c1, hv1, hB1⟩ := owns_isB hown1 (mem_app _ (by decide))
  cases hv1
  clear hown1 hb1
  go_wp2_with fail
  refine (open_any g 0 6 6 _ _ hB1 (by decide) (by decide)).mono ?_
  rintro e w2 ⟨(⟨_, v2, rfl, hown2⟩ | ⟨hbad, _⟩), hb2⟩
  case inr => exact absurd crc_ab hbad
  have hw2 : Below w.heap.size w w2 := hw1.trans (hb2.mono hw1.size)
  obtain ⟨a2, c2, hv2, hB2⟩ := owns_isB hown2 (by intro x hx; simp at hx; omega)
  subst hv2
  clear hown2 hb2 hB1 hw1
  have hB3 : IsB w2 a2 2 c2 [97, 98] := hB2
  clear hB2
  go_wp2_with fail
  refine (open_any w2.heap.size 0 4 4 [97, 98, 99, 100] _ (isB_lit w2 [97, 98, 99, 100] (by decide) (by decide) (4, 5)) (by decide) (by decide)).mono ?_
  rintro e w3 ⟨(⟨hgood, _⟩ | ⟨_, rfl⟩), hb3⟩
  case inl => exact absurd hgood crc_abcd
  have hx3 : Below w2.heap.size w2 w3 := ((Below.refl _ _).alloc (Nat.le_refl _) _).trans (hb3.mono (by simp))
  clear hb3
  go_wp2_with fail
  refine (of_any _ 9 9 [49, 50, 51, 52, 53, 54, 55, 56, 57] _ (isB_lit w3 [49, 50, 51, 52, 53, 54, 55, 56, 57] (by decide) (by decide) (9, 10))).mono ?_
  rintro e w4 ⟨rfl, hb4⟩
  have hx4 : Below w2.heap.size w2 w4 := hx3.trans ((((Below.refl _ _).alloc (Nat.le_refl _) _).trans (hb4.mono (by simp))).mono hx3.size)
  have hcv := conv_str (hB3.below hx4)
  have hs : str [97, 98] = ⟨#[97, 98]⟩ := rfl
  rw [hs] at hcv
  rw [crc_check]
  clear hs hb4 hx3 hB3 kc
  go_wp2
  go_ret
  exact ⟨rfl, hw2.trans (hx4.mono hw2.size)⟩
end Go.Proofs.Ytmfdcbbeieelfaa
