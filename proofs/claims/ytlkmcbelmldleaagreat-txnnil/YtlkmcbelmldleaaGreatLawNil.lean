/- TxnNil, walked -/
import Derived.Test.YtlkmcbelmldleaaGreatCx6
namespace Go.Proofs.YtlkmcbelmldleaaGreat
open Go.RowKit
set_option maxRecDepth 40000
theorem fld (W : World) (a : Option Addr) (n c : Nat) (l : Int) : (Instr.field 31 (.agg #[.slice a n c, .int .u64 l]) 0).run Tryz.prog W = .ok (.slice a n c) W := rfl
set_option maxHeartbeats 8000000 in
theorem nil_law (k : Nat) (t : Int) (a b c : ByteArray) (w : World) : Calls Tryz.prog 7 #[.agg #[.int .u8 (k : Nat), .int .i64 t, .string a, .string b, .string c]] w fun e w' => e = .returned (.bool true) ∧ Below w.heap.size w w' := by
  have HB0 : Hid (Below w.heap.size w (w.alloc (.cells #[.int .u8 (k : Nat), .int .i64 t, .string a, .string b, .string c] 40))) := hide ((Below.refl _ w).alloc (Nat.le_refl _) _)
  have HN0 := hide (heap_alloc_new w (.cells #[.int .u8 (k : Nat), .int .i64 t, .string a, .string b, .string c] 40))
  go_enter Tryz.func7, Tryz.ntmps7
  refine wp_seq_k (fun K hK => ?_)
  have HK := hide hK
  clear hK
  go_wp2_with fail
  refine HK.out _ _ ?_
  clear HK K
  generalize w.alloc (.cells #[.int .u8 (k : Nat), .int .i64 t, .string a, .string b, .string c] 40) = W0 at *
  have z0 : W0.cell? ⟨w.heap.size, 0, none⟩ = some (.int .u8 (k : Nat)) := cell_blk HN0.out rfl
  have z1 : W0.cell? ⟨w.heap.size, 1, none⟩ = some (.int .i64 t) := cell_blk HN0.out rfl
  have z2 : W0.cell? ⟨w.heap.size, 2, none⟩ = some (.string a) := cell_blk HN0.out rfl
  have z3 : W0.cell? ⟨w.heap.size, 3, none⟩ = some (.string b) := cell_blk HN0.out rfl
  have z4 : W0.cell? ⟨w.heap.size, 4, none⟩ = some (.string c) := cell_blk HN0.out rfl
  go_wp2_with fail
  refine (begin_nil _).mono ?_
  rintro e W1 ⟨rfl, hq⟩
  have HN1 : Hid (W1.heap[w.heap.size]? = some (.cells #[.int .u8 (k : Nat), .int .i64 t, .string a, .string b, .string c] 40 (0, 0))) := hide (by rw [hq]; exact HN0.out)
  have HB1 : Hid (Below w.heap.size w W1) := hide (by rw [hq]; exact HB0.out)
  clear z0 z1 z2 z3 z4 HN0 HB0 hq
  have z0 : W1.cell? ⟨w.heap.size, 0, none⟩ = some (.int .u8 (k : Nat)) := cell_blk HN1.out rfl
  have z1 : W1.cell? ⟨w.heap.size, 1, none⟩ = some (.int .i64 t) := cell_blk HN1.out rfl
  have z2 : W1.cell? ⟨w.heap.size, 2, none⟩ = some (.string a) := cell_blk HN1.out rfl
  have z3 : W1.cell? ⟨w.heap.size, 3, none⟩ = some (.string b) := cell_blk HN1.out rfl
  have z4 : W1.cell? ⟨w.heap.size, 4, none⟩ = some (.string c) := cell_blk HN1.out rfl
  go_wp2_with fail
  refine (commit_nil t _).mono ?_
  rintro e W2 ⟨rfl, hb⟩
  have HN2 := hide ((hb.block _ (heap_lt HN1.out)).trans HN1.out)
  have HB2 := hide (HB1.out.trans (hb.mono HB1.out.size))
  clear z0 z1 z2 z3 z4 hb HN1 HB1
  have z0 : W2.cell? ⟨w.heap.size, 0, none⟩ = some (.int .u8 (k : Nat)) := cell_blk HN2.out rfl
  have z1 : W2.cell? ⟨w.heap.size, 1, none⟩ = some (.int .i64 t) := cell_blk HN2.out rfl
  have z2 : W2.cell? ⟨w.heap.size, 2, none⟩ = some (.string a) := cell_blk HN2.out rfl
  have z3 : W2.cell? ⟨w.heap.size, 3, none⟩ = some (.string b) := cell_blk HN2.out rfl
  have z4 : W2.cell? ⟨w.heap.size, 4, none⟩ = some (.string c) := cell_blk HN2.out rfl
  go_wp2_with fail
  refine (get_nil t a _).mono ?_
  rintro e W3 ⟨rfl, hb⟩
  have HN3 := hide ((hb.block _ (heap_lt HN2.out)).trans HN2.out)
  have HB3 := hide (HB2.out.trans (hb.mono HB2.out.size))
  clear z0 z1 z2 z3 z4 hb HN2 HB2
  have z0 : W3.cell? ⟨w.heap.size, 0, none⟩ = some (.int .u8 (k : Nat)) := cell_blk HN3.out rfl
  have z1 : W3.cell? ⟨w.heap.size, 1, none⟩ = some (.int .i64 t) := cell_blk HN3.out rfl
  have z2 : W3.cell? ⟨w.heap.size, 2, none⟩ = some (.string a) := cell_blk HN3.out rfl
  have z3 : W3.cell? ⟨w.heap.size, 3, none⟩ = some (.string b) := cell_blk HN3.out rfl
  have z4 : W3.cell? ⟨w.heap.size, 4, none⟩ = some (.string c) := cell_blk HN3.out rfl
  go_wp2_with fail
  refine (scan_nil t a b _).mono ?_
  rintro e W4 ⟨rfl, hb⟩
  have HN4 := hide ((hb.block _ (heap_lt HN3.out)).trans HN3.out)
  have HB4 := hide (HB3.out.trans (hb.mono HB3.out.size))
  clear z0 z1 z2 z3 z4 hb HN3 HB3
  have z0 : W4.cell? ⟨w.heap.size, 0, none⟩ = some (.int .u8 (k : Nat)) := cell_blk HN4.out rfl
  have z1 : W4.cell? ⟨w.heap.size, 1, none⟩ = some (.int .i64 t) := cell_blk HN4.out rfl
  have z2 : W4.cell? ⟨w.heap.size, 2, none⟩ = some (.string a) := cell_blk HN4.out rfl
  have z3 : W4.cell? ⟨w.heap.size, 3, none⟩ = some (.string b) := cell_blk HN4.out rfl
  have z4 : W4.cell? ⟨w.heap.size, 4, none⟩ = some (.string c) := cell_blk HN4.out rfl
  go_wp2_with fail
  refine (lives_any _).mono ?_
  rintro e W5 ⟨rfl, hb⟩
  have HN5 := hide ((hb.block _ (heap_lt HN4.out)).trans HN4.out)
  have HB5 := hide (HB4.out.trans (hb.mono HB4.out.size))
  clear z0 z1 z2 z3 z4 hb HN4 HB4
  have z0 : W5.cell? ⟨w.heap.size, 0, none⟩ = some (.int .u8 (k : Nat)) := cell_blk HN5.out rfl
  have z1 : W5.cell? ⟨w.heap.size, 1, none⟩ = some (.int .i64 t) := cell_blk HN5.out rfl
  have z2 : W5.cell? ⟨w.heap.size, 2, none⟩ = some (.string a) := cell_blk HN5.out rfl
  have z3 : W5.cell? ⟨w.heap.size, 3, none⟩ = some (.string b) := cell_blk HN5.out rfl
  have z4 : W5.cell? ⟨w.heap.size, 4, none⟩ = some (.string c) := cell_blk HN5.out rfl
  go_wp2_with fail
  refine (do_nil k t a b c _).mono ?_
  rintro e W6 ⟨rfl, hb⟩
  have HN6 := hide ((hb.block _ (heap_lt HN5.out)).trans HN5.out)
  have HB6 := hide (HB5.out.trans (hb.mono HB5.out.size))
  clear z0 z1 z2 z3 z4 hb HN5 HB5
  have z0 : W6.cell? ⟨w.heap.size, 0, none⟩ = some (.int .u8 (k : Nat)) := cell_blk HN6.out rfl
  have z1 : W6.cell? ⟨w.heap.size, 1, none⟩ = some (.int .i64 t) := cell_blk HN6.out rfl
  have z2 : W6.cell? ⟨w.heap.size, 2, none⟩ = some (.string a) := cell_blk HN6.out rfl
  have z3 : W6.cell? ⟨w.heap.size, 3, none⟩ = some (.string b) := cell_blk HN6.out rfl
  have z4 : W6.cell? ⟨w.heap.size, 4, none⟩ = some (.string c) := cell_blk HN6.out rfl
  go_wp2_with fail
  refine (same_eq _ _ _ ⟨1, 0, ⟨#[]⟩, false, [], [], 0⟩ ⟨none, 0, 0, none, 0, 0, rfl, isP_none _, isW_none _⟩ ⟨none, 0, 0, none, 0, 0, rfl, isP_none _, isW_none _⟩).mono ?_
  rintro e W7 ⟨rfl, hb⟩
  have HN7 := hide ((hb.block _ (heap_lt HN6.out)).trans HN6.out)
  have HB7 := hide (HB6.out.trans (hb.mono HB6.out.size))
  clear z0 z1 z2 z3 z4 hb HN6 HB6
  have z0 : W7.cell? ⟨w.heap.size, 0, none⟩ = some (.int .u8 (k : Nat)) := cell_blk HN7.out rfl
  have z1 : W7.cell? ⟨w.heap.size, 1, none⟩ = some (.int .i64 t) := cell_blk HN7.out rfl
  have z2 : W7.cell? ⟨w.heap.size, 2, none⟩ = some (.string a) := cell_blk HN7.out rfl
  have z3 : W7.cell? ⟨w.heap.size, 3, none⟩ = some (.string b) := cell_blk HN7.out rfl
  have z4 : W7.cell? ⟨w.heap.size, 4, none⟩ = some (.string c) := cell_blk HN7.out rfl
  go_wp2_with fail
  refine (put_nil t a c _).mono ?_
  rintro e W8 ⟨rfl, hb⟩
  have HN8 := hide ((hb.block _ (heap_lt HN7.out)).trans HN7.out)
  have HB8 := hide (HB7.out.trans (hb.mono HB7.out.size))
  clear z0 z1 z2 z3 z4 hb HN7 HB7
  have z0 : W8.cell? ⟨w.heap.size, 0, none⟩ = some (.int .u8 (k : Nat)) := cell_blk HN8.out rfl
  have z1 : W8.cell? ⟨w.heap.size, 1, none⟩ = some (.int .i64 t) := cell_blk HN8.out rfl
  have z2 : W8.cell? ⟨w.heap.size, 2, none⟩ = some (.string a) := cell_blk HN8.out rfl
  have z3 : W8.cell? ⟨w.heap.size, 3, none⟩ = some (.string b) := cell_blk HN8.out rfl
  have z4 : W8.cell? ⟨w.heap.size, 4, none⟩ = some (.string c) := cell_blk HN8.out rfl
  go_wp2_with fail
  refine (delete_nil t a _).mono ?_
  rintro e W9 ⟨rfl, hb⟩
  have HN9 := hide ((hb.block _ (heap_lt HN8.out)).trans HN8.out)
  have HB9 := hide (HB8.out.trans (hb.mono HB8.out.size))
  clear z0 z1 z2 z3 z4 hb HN8 HB8
  have z0 : W9.cell? ⟨w.heap.size, 0, none⟩ = some (.int .u8 (k : Nat)) := cell_blk HN9.out rfl
  have z1 : W9.cell? ⟨w.heap.size, 1, none⟩ = some (.int .i64 t) := cell_blk HN9.out rfl
  have z2 : W9.cell? ⟨w.heap.size, 2, none⟩ = some (.string a) := cell_blk HN9.out rfl
  have z3 : W9.cell? ⟨w.heap.size, 3, none⟩ = some (.string b) := cell_blk HN9.out rfl
  have z4 : W9.cell? ⟨w.heap.size, 4, none⟩ = some (.string c) := cell_blk HN9.out rfl
  go_wp2_with fail
  refine (abort_nil t _).mono ?_
  rintro e W10 ⟨rfl, hq⟩
  have HN10 : Hid (W10.heap[w.heap.size]? = some (.cells #[.int .u8 (k : Nat), .int .i64 t, .string a, .string b, .string c] 40 (0, 0))) := hide (by rw [hq]; exact HN9.out)
  have HB10 : Hid (Below w.heap.size w W10) := hide (by rw [hq]; exact HB9.out)
  clear z0 z1 z2 z3 z4 HN9 HB9 hq
  have z0 : W10.cell? ⟨w.heap.size, 0, none⟩ = some (.int .u8 (k : Nat)) := cell_blk HN10.out rfl
  have z1 : W10.cell? ⟨w.heap.size, 1, none⟩ = some (.int .i64 t) := cell_blk HN10.out rfl
  have z2 : W10.cell? ⟨w.heap.size, 2, none⟩ = some (.string a) := cell_blk HN10.out rfl
  have z3 : W10.cell? ⟨w.heap.size, 3, none⟩ = some (.string b) := cell_blk HN10.out rfl
  have z4 : W10.cell? ⟨w.heap.size, 4, none⟩ = some (.string c) := cell_blk HN10.out rfl
  go_wp2_with fail
  refine (lpeek_nil t _).mono ?_
  rintro e W11 ⟨rfl, hq⟩
  have HN11 : Hid (W11.heap[w.heap.size]? = some (.cells #[.int .u8 (k : Nat), .int .i64 t, .string a, .string b, .string c] 40 (0, 0))) := hide (by rw [hq]; exact HN10.out)
  have HB11 : Hid (Below w.heap.size w W11) := hide (by rw [hq]; exact HB10.out)
  clear z0 z1 z2 z3 z4 HN10 HB10 hq
  have z0 : W11.cell? ⟨w.heap.size, 0, none⟩ = some (.int .u8 (k : Nat)) := cell_blk HN11.out rfl
  have z1 : W11.cell? ⟨w.heap.size, 1, none⟩ = some (.int .i64 t) := cell_blk HN11.out rfl
  have z2 : W11.cell? ⟨w.heap.size, 2, none⟩ = some (.string a) := cell_blk HN11.out rfl
  have z3 : W11.cell? ⟨w.heap.size, 3, none⟩ = some (.string b) := cell_blk HN11.out rfl
  have z4 : W11.cell? ⟨w.heap.size, 4, none⟩ = some (.string c) := cell_blk HN11.out rfl
  go_wp2_with fail
  refine (now_nil _).mono ?_
  rintro e W12 ⟨rfl, hq⟩
  have HN12 : Hid (W12.heap[w.heap.size]? = some (.cells #[.int .u8 (k : Nat), .int .i64 t, .string a, .string b, .string c] 40 (0, 0))) := hide (by rw [hq]; exact HN11.out)
  have HB12 : Hid (Below w.heap.size w W12) := hide (by rw [hq]; exact HB11.out)
  clear z0 z1 z2 z3 z4 HN11 HB11 hq
  have z0 : W12.cell? ⟨w.heap.size, 0, none⟩ = some (.int .u8 (k : Nat)) := cell_blk HN12.out rfl
  have z1 : W12.cell? ⟨w.heap.size, 1, none⟩ = some (.int .i64 t) := cell_blk HN12.out rfl
  have z2 : W12.cell? ⟨w.heap.size, 2, none⟩ = some (.string a) := cell_blk HN12.out rfl
  have z3 : W12.cell? ⟨w.heap.size, 3, none⟩ = some (.string b) := cell_blk HN12.out rfl
  have z4 : W12.cell? ⟨w.heap.size, 4, none⟩ = some (.string c) := cell_blk HN12.out rfl
  go_wp2_with fail
  refine (open_nil _).mono ?_
  rintro e W13 ⟨rfl, hq⟩
  have HN13 : Hid (W13.heap[w.heap.size]? = some (.cells #[.int .u8 (k : Nat), .int .i64 t, .string a, .string b, .string c] 40 (0, 0))) := hide (by rw [hq]; exact HN12.out)
  have HB13 : Hid (Below w.heap.size w W13) := hide (by rw [hq]; exact HB12.out)
  clear z0 z1 z2 z3 z4 HN12 HB12 hq
  have z0 : W13.cell? ⟨w.heap.size, 0, none⟩ = some (.int .u8 (k : Nat)) := cell_blk HN13.out rfl
  have z1 : W13.cell? ⟨w.heap.size, 1, none⟩ = some (.int .i64 t) := cell_blk HN13.out rfl
  have z2 : W13.cell? ⟨w.heap.size, 2, none⟩ = some (.string a) := cell_blk HN13.out rfl
  have z3 : W13.cell? ⟨w.heap.size, 3, none⟩ = some (.string b) := cell_blk HN13.out rfl
  have z4 : W13.cell? ⟨w.heap.size, 4, none⟩ = some (.string c) := cell_blk HN13.out rfl
  go_wp2_with fail
  refine (versions_nil _).mono ?_
  rintro e W14 ⟨rfl, hb⟩
  have HN14 := hide ((hb.block _ (heap_lt HN13.out)).trans HN13.out)
  have HB14 := hide (HB13.out.trans (hb.mono HB13.out.size))
  clear z0 z1 z2 z3 z4 hb HN13 HB13
  have hfd : ∀ W, (Instr.field 31 (.agg #[.slice none 0 0, .int .u64 0]) 0).run Tryz.prog W = .ok (.slice none 0 0) W := fun W => fld W none 0 0 0
  go_wp2
  go_ret
  exact ⟨rfl, HB14.out⟩
end Go.Proofs.YtlkmcbelmldleaaGreat
