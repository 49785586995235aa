/- like: a disk beside the document's -/
import Derived.Test.YtdageggojaghmaaRcx
import Derived.Test.YtdageggojaghmaaDx
namespace Go.Proofs.Ytdageggojaghmaa
open Go.RowKit
variable {X : Nat → Prop}
set_option maxRecDepth 40000 in
set_option maxHeartbeats 8000000 in
/-- like -/
theorem like_any (w : World) (g gs b n : Nat) (st : St) (hI : IsD X w g gs b n st) (q cap : Nat) (hR : IsR w q cap n st) (i : Int) :
    Calls Try.prog 15 #[.pointer (some ⟨g, 0, none⟩), stv q cap n st, .int .i64 i] w fun e w' => e = .returned (.bool true) ∧ Below w.heap.size w w' := by
  have HI := hide hI
  have HR := hide hR
  have HAL := hide (fun o : Obj => (Below.refl w.heap.size w).alloc (Nat.le_refl _) o)
  have HNW := hide (fun o : Obj => heap_alloc_new w o)
  clear hI hR
  go_enter Try.func15, Try.ntmps15
  go_wp2_with fail
  generalize hW1 : w.alloc (.cells #[.slice (some ⟨q, 0, none⟩) n cap, .bool st.down, .bool st.arm, .int .i64 (st.left : Nat), .int .i64 (st.wr : Nat)] 27) = W1
  have HB1 : Hid (Below w.heap.size w W1) := hide (by rw [← hW1]; exact HAL.out _)
  have HBX : Hid (W1.heap[w.heap.size]? = some (.cells #[.slice (some ⟨q, 0, none⟩) n cap, .bool st.down, .bool st.arm, .int .i64 (st.left : Nat), .int .i64 (st.wr : Nat)] 27 (0, 0))) := hide (by rw [← hW1]; exact HNW.out _)
  generalize hBB : w.heap.size = B at *
  have HBB := hide hBB
  clear hW1 HAL HNW hBB
  refine (read_any W1 g gs b n st (HI.out.below (HBB.out ▸ HB1.out)) i).mono ?_
  rintro e w2 ⟨a1, len1, cap1, rfl, hB1, hb1⟩
  have HS1 := hide hB1
  have HB2 := hide hb1
  have HBX2 := hide ((hb1.block B (heap_lt HBX.out)).trans HBX.out)
  have HW2 : Hid (Below w.heap.size w w2) := hide ((HBB.out ▸ HB1.out : Below w.heap.size w W1).trans (hb1.mono (HBB.out ▸ HB1.out : Below w.heap.size w W1).size))
  have g0 := cell_blk (j := 0) HBX2.out rfl
  have g1 := cell_blk (j := 1) HBX2.out rfl
  have g2 := cell_blk (j := 2) HBX2.out rfl
  have g3 := cell_blk (j := 3) HBX2.out rfl
  have g4 := cell_blk (j := 4) HBX2.out rfl
  simp only [List.getElem_toArray, List.getElem_cons_zero, List.getElem_cons_succ] at g0 g1 g2 g3 g4
  clear hB1 hb1
  go_wp2_with fail
  refine (rread_any w2 q cap n st (HR.out.below HW2.out) i).mono ?_
  rintro e w3 ⟨a2, len2, cap2, rfl, hB2, hb2⟩
  have B3 : Below w3.heap.size w3 w3.drew := Below.drew (Below.refl _ _)
  have HBX3 : Hid (w3.drew.heap[B]? = some (.cells #[.slice (some ⟨q, 0, none⟩) n cap, .bool st.down, .bool st.arm, .int .i64 (st.left : Nat), .int .i64 (st.wr : Nat)] 27 (0, 0))) := hide ((hb2.block B (heap_lt HBX2.out)).trans HBX2.out)
  have HW3 : Hid (Below w.heap.size w w3.drew) := hide (Below.drew (HW2.out.trans (hb2.mono HW2.out.size)))
  have HI3 := hide (HI.out.below HW3.out)
  have HR3 := hide (HR.out.below HW3.out)
  generalize hRl : st.readL n i = R at *
  generalize st.readE n i = E at *
  have HS : Hid (∀ W : World, Below w3.drew.heap.size w3.drew W → W.cell? ⟨B, 0, none⟩ = some (.slice (some ⟨q, 0, none⟩) n cap) ∧ W.cell? ⟨B, 1, none⟩ = some (.bool st.down) ∧ W.cell? ⟨B, 2, none⟩ = some (.bool st.arm) ∧ W.cell? ⟨B, 3, none⟩ = some (.int .i64 (st.left : Nat)) ∧ W.cell? ⟨B, 4, none⟩ = some (.int .i64 (st.wr : Nat)) ∧ (convert 32 9 (.slice a1 len1 cap1)).run Try.prog W = .ok (.string (str R)) W ∧ (convert 32 9 (.slice a2 len2 cap2)).run Try.prog W = .ok (.string (str R)) W) := hide (fun W hW => by
    have hx := (hW.block B (heap_lt HBX3.out)).trans HBX3.out
    have h1 := ((HS1.out.below hb2).below B3).below hW
    have h2 := (hB2.below B3).below hW
    exact ⟨cell_blk hx rfl, cell_blk hx rfl, cell_blk hx rfl, cell_blk hx rfl, cell_blk hx rfl, conv_str h1, conv_str h2⟩)
  have HU3 := hide (uns_any w3.drew g gs b n st HI3.out)
  have HDN := hide (down_any w3.drew g gs b n st HI3.out)
  have B4 : Below w3.drew.heap.size w3.drew w3.drew := Below.refl _ _
  have HUL := hide (uns_le st n)
  have HN1 := hide HR.out.n1
  clear hRl hB2 hb2 B3 g0 g1 g2 g3 g4
  go_wp2_with fail
  go_region_held (fun W : World => W.cell? ⟨B, 0, none⟩ = some (.slice (some ⟨q, 0, none⟩) n cap) ∧ W.cell? ⟨B, 1, none⟩ = some (.bool st.down) ∧ W.cell? ⟨B, 2, none⟩ = some (.bool st.arm) ∧ W.cell? ⟨B, 3, none⟩ = some (.int .i64 (st.left : Nat)) ∧ W.cell? ⟨B, 4, none⟩ = some (.int .i64 (st.wr : Nat)) ∧ (convert 32 9 (.slice a1 len1 cap1)).run Try.prog W = .ok (.string (str R)) W ∧ (convert 32 9 (.slice a2 len2 cap2)).run Try.prog W = .ok (.string (str R)) W)
    (first | exact HS.out _ B4 | exact HS.out _ hbA | exact HS.out _ hbB | exact HS.out _ hbC)
    (first | (go_at_call 19; refine HDN.out.mono ?_; rintro e w4 ⟨rfl, rfl⟩) | (go_at_call 22; refine HU3.out.mono ?_; rintro e wA ⟨vA, rfl, hownA, hbA⟩; obtain ⟨aA, cA, rfl, hcA, hUA⟩ := isU_row hownA) | (go_at_call 33; refine (runs_any wA q cap n st (HR3.out.below hbA)).mono ?_; rintro e wB ⟨vB, rfl, hownB, hbB0⟩; obtain ⟨aB, cB, rfl, hcB, hUB⟩ := isU_row hownB; have hbB : Below w3.drew.heap.size w3.drew wB := hbA.trans (hbB0.mono hbA.size)) | (go_at_call 32; refine (ints_same wB aA aB cA cB _ _ (st.uns n) (hUA.below hbB0) hUB hcA hcB (Nat.le_trans HUL.out HN1.out)).mono ?_; rintro e wC ⟨rfl, hbC0⟩; have hbC : Below w3.drew.heap.size w3.drew wC := hbB.trans (hbC0.mono hbB.size)) | (go_at_call 26; refine (writes_any wC g gs b n st (HI3.out.below hbC)).mono ?_; rintro e w5 ⟨rfl, rfl⟩) | (go_at_call 27; refine (sectors_any w5 g gs b n st (HI3.out.below hbC)).mono ?_; rintro e w6 ⟨rfl, rfl⟩))
  all_goals
    have HF := hide (HW3.out.trans (hbC.mono HW3.out.size))
    clear hbA hownA hcA hUA hbB0 hownB hcB hUB hbB hbC0 hbC
    go_wp2
    go_ret
    exact ⟨rfl, by first | exact HF.out | exact HBB.out ▸ HF.out⟩
end Go.Proofs.Ytdageggojaghmaa
