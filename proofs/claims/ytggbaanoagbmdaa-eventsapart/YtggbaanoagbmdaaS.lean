/- Read, Marked -/
import Derived.Test.YtggbaanoagbmdaaR
namespace Go.Proofs.Ytggbaanoagbmdaa
open Go.RowKit Go.Shelf
set_option maxRecDepth 40000 in
set_option maxHeartbeats 1000000 in
/-- events.Read -/
theorem read_any (a : Option Addr) (len cap : Nat) (l : List Ev) (s : ByteArray) (fr mo : Int) (w : World) (h : IsE w a len cap l) :
    Calls Try.prog 16 #[.slice a len cap, .string s, .int .i64 fr, .int .i64 mo] w fun e w' => ∃ a' c', e = .returned (.tuple #[.slice a' (someR l (l.filter (isOf s)) fr mo (·.num)).1.length c', .int .i64 (someR l (l.filter (isOf s)) fr mo (·.num)).2]) ∧ IsE w' a' (someR l (l.filter (isOf s)) fr mo (·.num)).1.length c' (someR l (l.filter (isOf s)) fr mo (·.num)).1 ∧ Below w.heap.size w w' := by
  have HV := hide h
  clear h
  have HW : Hid (Below w.heap.size w ((w.alloc (.cells #[.slice a len cap] 22)).alloc (.cells #[.string s] 9))) := hide (((Below.refl _ w).alloc (Nat.le_refl _) _).alloc (by simp) _)
  have C0 := hide ((callsIn_wide (n := 3)).1 (of_in Fence.wide 3 trivial rfl a len cap s w))
  have bL := (Boxed.new w 22 (.slice a len cap)).alloc (.cells #[.string s] 9)
  have bS := Boxed.new (w.alloc (.cells #[.slice a len cap] 22)) 9 (.string s)
  rw [World.size_alloc] at bS
  have C1 := hide (someN_any 42 #[.pointer (some ⟨w.heap.size, 0, none⟩), .pointer (some ⟨w.heap.size + 1, 0, none⟩)] rfl a len cap l (l.filter (isOf s)) fr mo _ (HV.out.below' HW.out) (fun x hx => (List.mem_filter.1 hx).1) (List.length_filter_le _ _)
    (fun W n₀ X hW h1 h2 hX => of_stops Fence.wide 5 trivial rfl (by omega) w.heap.size (w.heap.size + 1) n₀ X a len cap l s W (by have := hW.size; simp at this; omega) h1 ((hW.cell (p := ⟨w.heap.size, 0, none⟩) (by simp; omega)).trans bL.cell) ((hW.cell (p := ⟨w.heap.size + 1, 0, none⟩) (by simp)).trans bS.cell) (by simp at h2; omega) (hX _ (by simp)) ((HV.out.below' HW.out).below' hW) (fun b off e h0 => ⟨by have := HV.out.lt b off e h0; simp at h2; omega, hX b (by have := HV.out.lt b off e h0; simp; omega)⟩)))
  clear bL bS
  go_enter Try.func16, Try.ntmps16
  go_wp2_with fail
  refine C0.out.mono ?_
  rintro e w1 ⟨rfl, rfl⟩
  go_wp2_with fail
  refine C1.out.mono ?_
  rintro e w2 ⟨a2, c2, rfl, hI, hb⟩
  have HI := hide hI
  have HB : Hid (Below w.heap.size w w2) := hide (HW.out.trans (hb.mono HW.out.size))
  clear hI hb C0 C1
  go_wp2
  go_ret2
  exact ⟨a2, c2, rfl, HI.out, HB.out⟩
/-- what Marked answers -/
def markR (l : List Ev) (s m : ByteArray) : Int × Int := if goodB l = false then (0, 2) else (markAt l s m, 0)
set_option maxRecDepth 40000 in
set_option maxHeartbeats 1000000 in
/-- events.Marked -/
theorem markd_any (a : Option Addr) (len cap : Nat) (l : List Ev) (s m : ByteArray) (w : World) (h : IsE w a len cap l) :
    Calls Try.prog 20 #[.slice a len cap, .string s, .string m] w fun e w' => e = .returned (.tuple #[.int .i64 (markR l s m).1, .int .i64 (markR l s m).2]) ∧ Below w.heap.size w w' := by
  have HV := hide h
  have CK := hide (check_any a len cap l w h)
  clear h
  cases hg : goodB l
  case false =>
    have HE : Hid (checkE l = 2) := hide (by unfold checkE; rw [hg]; rfl)
    have HR : Hid (markR l s m = (0, 2)) := hide (by unfold markR; rw [if_pos hg])
    clear hg
    go_enter Try.func20, Try.ntmps20
    go_wp2_with fail
    refine CK.out.mono ?_
    rintro e w1 ⟨rfl, hb1⟩
    rw [HE.out]
    have HB1 := hide hb1
    clear hb1
    go_wp2
    go_ret2
    rw [HR.out]
    exact ⟨rfl, HB1.out⟩
  case true =>
    have HE : Hid (checkE l = 0) := hide (by unfold checkE; rw [hg]; rfl)
    have HR : Hid (markR l s m = (markAt l s m, 0)) := hide (by unfold markR; rw [if_neg (by rw [hg]; simp)])
    clear hg
    go_enter Try.func20, Try.ntmps20
    go_wp2_with fail
    refine CK.out.mono ?_
    rintro e w1 ⟨rfl, hb1⟩
    rw [HE.out]
    have HB1 := hide hb1
    clear hb1
    go_wp2_with fail
    refine (marked_any a len cap l s m w1 (HV.out.below' HB1.out)).mono ?_
    rintro e w2 ⟨rfl, hb2⟩
    have HB2 : Hid (Below w.heap.size w w2) := hide (HB1.out.trans (hb2.mono HB1.out.size))
    clear hb2
    go_wp2
    go_ret2
    rw [HR.out]
    exact ⟨rfl, HB2.out⟩
end Go.Proofs.Ytggbaanoagbmdaa
