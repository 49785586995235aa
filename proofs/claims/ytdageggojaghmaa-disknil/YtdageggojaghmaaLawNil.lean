/- the walk of DiskNil -/
import Derived.Test.YtdageggojaghmaaT
namespace Go.Proofs.Ytdageggojaghmaa.diskNil
open Go.RowKit
theorem fork_nil (w : World) : Calls Try.prog 17 #[.pointer none] w fun e w' => e = .returned (.pointer none) ∧ w' = w := by
  go_enter Try.func17, Try.ntmps17
  go_wp2
  go_ret
  exact ⟨rfl, rfl⟩
theorem do_nil (w : World) (c0 c1 c2 c3 c4 : Value) : Calls Try.prog 14 #[.pointer none, .agg #[c0, c1, c2, c3, c4]] w fun e w' => e = .returned (.int .i64 1) ∧ Below w.heap.size w w' := by
  have HB := hide (fun o : Obj => (Below.refl w.heap.size w).alloc (Nat.le_refl _) o)
  go_enter Try.func14, Try.ntmps14
  go_wp2
  go_ret
  exact ⟨rfl, HB.out _⟩
set_option maxRecDepth 40000 in
set_option maxHeartbeats 2000000 in
/-- the walk of DiskNil -/
theorem lawWalk (c0 c1 c2 c3 c4 : Value) (i : Int) (w : World) (_hi : (Lit.int .i64 i).wf = true) :
    Calls Try.prog 7 #[.agg #[c0, c1, c2, c3, c4], .int .i64 i] w fun e w' => e = .returned (.bool true) ∧ Below w.heap.size w w' := by
  have HB0 := hide (fun o : Obj => (Below.refl w.heap.size w).alloc (Nat.le_refl _) o)
  go_enter Try.func7, Try.ntmps7
  go_wp2_with fail
  generalize hW : w.alloc (Obj.cells #[c0, c1, c2, c3, c4] 35) = W1
  have HB1 : Hid (Below w.heap.size w W1) := hide (by rw [← hW]; exact HB0.out _)
  have HZ : Hid (W1.heap[w.heap.size]? = some (.cells #[c0, c1, c2, c3, c4] 35 (0, 0))) := hide (by rw [← hW]; exact heap_alloc_new w _)
  clear hW HB0
  refine (read_nil W1 i).mono ?_
  rintro e w' ⟨rfl, rfl⟩
  go_wp2_with fail
  refine (lives_true w').mono ?_
  rintro e w2 ⟨rfl, hb2⟩
  have hblk : w2.heap[w.heap.size]? = some (.cells #[c0, c1, c2, c3, c4] 35 (0, 0)) := (hb2.block _ (heap_lt HZ.out)).trans HZ.out
  have z0 : w2.cell? ⟨w.heap.size, 0, none⟩ = some c0 := by simp [World.cell?, hblk]
  have z1 : w2.cell? ⟨w.heap.size, 1, none⟩ = some c1 := by simp [World.cell?, hblk]
  have z2 : w2.cell? ⟨w.heap.size, 2, none⟩ = some c2 := by simp [World.cell?, hblk]
  have z3 : w2.cell? ⟨w.heap.size, 3, none⟩ = some c3 := by simp [World.cell?, hblk]
  have z4 : w2.cell? ⟨w.heap.size, 4, none⟩ = some c4 := by simp [World.cell?, hblk]
  have HB2 := hide (HB1.out.trans (hb2.mono HB1.out.size))
  clear hb2 hblk
  go_wp2_with fail
  refine (write_nil w2 i _).mono ?_
  rintro e w3 ⟨rfl, rfl⟩
  go_wp2_with fail
  refine (sync_nil w3).mono ?_
  rintro e w4 ⟨rfl, rfl⟩
  go_wp2_with fail
  refine (arm_nil w4 i).mono ?_
  rintro e w5 ⟨rfl, rfl⟩
  go_wp2_with fail
  refine (cut_nil w5).mono ?_
  rintro e w6 ⟨rfl, rfl⟩
  go_wp2_with fail
  refine (rest_nil w6 _).mono ?_
  rintro e w7 ⟨rfl, rfl⟩
  go_wp2_with fail
  refine (do_nil w7 c0 c1 c2 c3 c4).mono ?_
  rintro e w8 ⟨rfl, hb8⟩
  have HB8 := hide (HB2.out.trans (hb8.mono HB2.out.size))
  clear hb8
  go_wp2_with fail
  refine (sectors_nil w8).mono ?_
  rintro e w9 ⟨rfl, rfl⟩
  go_wp2_with fail
  refine (down_nil w9).mono ?_
  rintro e wA ⟨rfl, rfl⟩
  go_wp2_with fail
  refine (uns_nil wA).mono ?_
  rintro e wB ⟨rfl, rfl⟩
  go_wp2_with fail
  refine (writes_nil wB).mono ?_
  rintro e wC ⟨rfl, rfl⟩
  go_wp2_with fail
  refine (fork_nil wC).mono ?_
  rintro e wD ⟨rfl, rfl⟩
  go_wp2
  go_ret
  exact ⟨rfl, HB8.out⟩
theorem split5 {cs : Array Value} (h : cs.size = 5) : ∃ a b c d e, cs = #[a, b, c, d, e] := by
  obtain ⟨l⟩ := cs
  match l, h with
  | [a, b, c, d, e], _ => exact ⟨a, b, c, d, e, rfl⟩
end Go.Proofs.Ytdageggojaghmaa.diskNil
