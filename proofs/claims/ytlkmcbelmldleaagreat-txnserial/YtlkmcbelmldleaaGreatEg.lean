/- a step is put to its transaction's (note), walked -/
import Derived.Test.YtlkmcbelmldleaaGreatDx5
import Derived.Test.YtlkmcbelmldleaaGreatVHl
namespace Go.Proofs.YtlkmcbelmldleaaGreat
open Go.RowKit Go.Shelf
set_option maxRecDepth 40000
set_option linter.unusedVariables false
set_option linter.unusedSimpArgs false
set_option maxHeartbeats 16000000 in
theorem note_any {B g : Nat} {w0 w : World} {ms : Mg} {X D : Nat → Prop} {v1 v2 : Value} {os ds : List Tm} (h : TS B w0 w g ms X D v1 v2 os ds) (N : Nat) (hN : Lens os N) (hNb : N ≤ 1048576) (hO : os.length ≤ 1048576) (x : Sx) (hx : i64B x.t) (y : Ra) (hy : OkA D w y) :
    Calls Tryz.prog 27 #[v1, .agg #[.int .u8 (x.k : Nat), .int .i64 x.t, .string x.key, .string x.to, .string x.val], rav y] w fun e w' => ∃ v1' os' X', e = .returned v1' ∧ TS B w0 w' g ms X' D v1' v2 os' ds ∧ os'.map Tm.td = noteL (os.map Tm.td) x y.A ∧ Lens os' (N + 1) ∧ os'.length ≤ os.length + 1 ∧ ∀ j, X j → X' j := by
  obtain ⟨a1, c1, rfl⟩ := own_form h.r1
  have HT0 := hide h
  have HN := hide hN
  have HNB := hide hNb
  have HO := hide hO
  have HX := hide hx
  have HY := hide hy
  obtain ⟨n, hn⟩ : ∃ n, os.length = n := ⟨_, rfl⟩
  have HLN := hide hn
  rw [hn] at hO ⊢
  have hcm : c1 ≤ 9223372036854775807 ∧ n ≤ c1 := by
    rcases h.r1.2 with ⟨e, _⟩ | ⟨g', c', cur, e, _, _, h3, h4, _⟩
    · simp at e
      omega
    · simp at e
      obtain ⟨_, rfl⟩ := e
      exact ⟨h4, by omega⟩
  obtain ⟨hcm, hcn⟩ := hcm
  clear h hN hNb hx hy hn
  obtain ⟨x1, x2, x3, x4, x5⟩ := x
  obtain ⟨⟨y1, y2, y3, y4, y5, y6, y7⟩, ap, np, cp, ad, nd, cd⟩ := y
  dsimp only at HX ⊢
  have HB0 : Hid (Below w.heap.size w ((w.alloc (.cells #[.int .u8 (x1 : Nat), .int .i64 x2, .string x3, .string x4, .string x5] 40)).alloc (.cells #[.int .i64 y1, .int .i64 y2, .string y3, .bool y4, .slice ap np cp, .slice ad nd cd, .int .u64 (y7 : Nat)] 47))) := hide (((Below.refl _ w).alloc (Nat.le_refl _) _).alloc (by simp) _)
  have HBX : Hid (((w.alloc (.cells #[.int .u8 (x1 : Nat), .int .i64 x2, .string x3, .string x4, .string x5] 40)).alloc (.cells #[.int .i64 y1, .int .i64 y2, .string y3, .bool y4, .slice ap np cp, .slice ad nd cd, .int .u64 (y7 : Nat)] 47)).heap[w.heap.size]? = some (.cells #[.int .u8 (x1 : Nat), .int .i64 x2, .string x3, .string x4, .string x5] 40 (0, 0))) := hide ((Below.heap_alloc _ _ _ (by simp)).trans (heap_alloc_new _ _))
  have HBY : Hid (((w.alloc (.cells #[.int .u8 (x1 : Nat), .int .i64 x2, .string x3, .string x4, .string x5] 40)).alloc (.cells #[.int .i64 y1, .int .i64 y2, .string y3, .bool y4, .slice ap np cp, .slice ad nd cd, .int .u64 (y7 : Nat)] 47)).heap[w.heap.size + 1]? = some (.cells #[.int .i64 y1, .int .i64 y2, .string y3, .bool y4, .slice ap np cp, .slice ad nd cd, .int .u64 (y7 : Nat)] 47 (0, 0))) := hide (by
    have := heap_alloc_new (w.alloc (.cells #[.int .u8 (x1 : Nat), .int .i64 x2, .string x3, .string x4, .string x5] 40)) (.cells #[.int .i64 y1, .int .i64 y2, .string y3, .bool y4, .slice ap np cp, .slice ad nd cd, .int .u64 (y7 : Nat)] 47)
    rwa [show (w.alloc (.cells #[.int .u8 (x1 : Nat), .int .i64 x2, .string x3, .string x4, .string x5] 40)).heap.size = w.heap.size + 1 by simp] at this)
  have HSV : Hid (((w.alloc (.cells #[.int .u8 (x1 : Nat), .int .i64 x2, .string x3, .string x4, .string x5] 40)).alloc (.cells #[.int .i64 y1, .int .i64 y2, .string y3, .bool y4, .slice ap np cp, .slice ad nd cd, .int .u64 (y7 : Nat)] 47)).heap.size = w.heap.size + 1 + 1) := hide (by simp)
  have hmix : Tryz.prog.follows .mixedOrders = true := rfl
  go_enter Tryz.func27, Tryz.ntmps27
  generalize hV : ((w.alloc (.cells #[.int .u8 (x1 : Nat), .int .i64 x2, .string x3, .string x4, .string x5] 40)).alloc (.cells #[.int .i64 y1, .int .i64 y2, .string y3, .bool y4, .slice ap np cp, .slice ad nd cd, .int .u64 (y7 : Nat)] 47)) = V at *
  go_wp2
  try rw [hV]
  go_loopw [7, 10] (fun v7 v10 wr => ∃ (k : Nat) (q : Value), k ≤ n ∧ v7 = q ∧ v10 = .int .i64 (k : Nat) ∧ Hid ((∀ j T, j < k → os[j]? = some T → ¬ T.tx = x2) ∧ Below V.heap.size V wr)) (fun _ v10 _ => n - (intOf v10).toNat)
  case atStart => exact ⟨0, _, Nat.zero_le _, rfl, rfl, hide ⟨fun j T hj => by omega, Below.refl _ _⟩⟩
  case round =>
    obtain ⟨k, q, hk, rfl, rfl, HI⟩ := hrel
    have HBr : Hid (Below w.heap.size w wr) := hide (HB0.out.trans (HI.out.2.mono HB0.out.size))
    have HXr : Hid (wr.heap[w.heap.size]? = some (.cells #[.int .u8 (x1 : Nat), .int .i64 x2, .string x3, .string x4, .string x5] 40 (0, 0))) := hide ((HI.out.2.block _ (heap_lt HBX.out)).trans HBX.out)
    have HYr : Hid (wr.heap[w.heap.size + 1]? = some (.cells #[.int .i64 y1, .int .i64 y2, .string y3, .bool y4, .slice ap np cp, .slice ad nd cd, .int .u64 (y7 : Nat)] 47 (0, 0))) := hide ((HI.out.2.block _ (heap_lt HBY.out)).trans HBY.out)
    have HT := hide (HT0.out.below HBr.out)
    have e0 : wr.cell? ⟨w.heap.size, 0, none⟩ = some (.int .u8 (x1 : Nat)) := cell_blk HXr.out rfl
    have e1 : wr.cell? ⟨w.heap.size, 1, none⟩ = some (.int .i64 x2) := cell_blk HXr.out rfl
    have e2 : wr.cell? ⟨w.heap.size, 2, none⟩ = some (.string x3) := cell_blk HXr.out rfl
    have e3 : wr.cell? ⟨w.heap.size, 3, none⟩ = some (.string x4) := cell_blk HXr.out rfl
    have e4 : wr.cell? ⟨w.heap.size, 4, none⟩ = some (.string x5) := cell_blk HXr.out rfl
    have z0 : wr.cell? ⟨w.heap.size + 1, 0, none⟩ = some (.int .i64 y1) := cell_blk HYr.out rfl
    have z1 : wr.cell? ⟨w.heap.size + 1, 1, none⟩ = some (.int .i64 y2) := cell_blk HYr.out rfl
    have z2 : wr.cell? ⟨w.heap.size + 1, 2, none⟩ = some (.string y3) := cell_blk HYr.out rfl
    have z3 : wr.cell? ⟨w.heap.size + 1, 3, none⟩ = some (.bool y4) := cell_blk HYr.out rfl
    have z4 : wr.cell? ⟨w.heap.size + 1, 4, none⟩ = some (.slice ap np cp) := cell_blk HYr.out rfl
    have z5 : wr.cell? ⟨w.heap.size + 1, 5, none⟩ = some (.slice ad nd cd) := cell_blk HYr.out rfl
    have z6 : wr.cell? ⟨w.heap.size + 1, 6, none⟩ = some (.int .u64 (y7 : Nat)) := cell_blk HYr.out rfl
    by_cases hlt : k < n
    · obtain ⟨b1, rfl⟩ := row_form (show wr.ownsRow B 71 3 (.slice a1 n c1) n (os.flatMap tmc) from by have := HT.out.r1; unfold RowM at this; rw [HLN.out] at this; exact this) (by omega)
      obtain ⟨T, hT⟩ : ∃ T, os[k]? = some T := ⟨_, List.getElem?_eq_getElem (by rw [HLN.out]; exact hlt)⟩
      have HTK := hide hT
      have hcell : ∀ j u, j < 3 → (tmc T)[j]? = some u → wr.cell? ⟨b1, k * 3 + j, none⟩ = some u := fun j u hj hu => by
        have hd : os.getD k T = T := by rw [List.getD_eq_getElem?_getD, hT]; rfl
        have h1 : wr.ownsRow B 71 3 (.slice (some ⟨b1, 0, none⟩) n c1) n (os.flatMap tmc) := by have := HT.out.r1; unfold RowM at this; rw [HLN.out] at this; exact this
        rw [h1.cellAt (k * 3 + j) (by omega), flat_atM tmc 3 (fun _ => rfl) T os k j (by rw [HLN.out]; exact hlt) hj, hd]
        exact hu
      have d0 := hcell 0 _ (by omega) rfl
      have d1 := hcell 1 _ (by omega) rfl
      have d2 := hcell 2 _ (by omega) rfl
      simp only [Nat.add_zero] at d0
      clear hcell hT
      have hw1 : IntKind.i64.wrap ((k : Int) + 1) = (k : Int) + 1 := wr64' (by omega) (by omega)
      have hi4 : (0 : Int) ≤ (k : Int) := by omega
      have hiI : (k : Int) < (n : Int) := by omega
      by_cases he : T.tx = x2
      · have heb : (T.tx == x2) = true := by simpa using he
        rw [he] at d0
        have hb2 : (x2 == x2) = true := by simp
        have HIN := hide HI.out.1
        go_wp2_with fail
        go_quiet (fail)
        go_wp2_with fail
        have HBq : Hid (Below w.heap.size w (wr.drewN nq)) := hide (below_drewN HBr.out nq)
        have HB5 : Hid ((wr.drewN nq).heap[w.heap.size]? = some (.cells #[.int .u8 (x1 : Nat), .int .i64 x2, .string x3, .string x4, .string x5] 40 (0, 0))) := hide HXr.out
        have HB6 : Hid ((wr.drewN nq).heap[w.heap.size + 1]? = some (.cells #[.int .i64 y1, .int .i64 y2, .string y3, .bool y4, .slice ap np cp, .slice ad nd cd, .int .u64 (y7 : Nat)] 47 (0, 0))) := hide HYr.out
        have HT5 := hide (HT0.out.below HBq.out)
        clear HBr HXr HYr HT HI e0 e1 e2 e3 e4 z0 z1 z2 z3 z4 z5 z6 d0 d1 d2
        generalize wr.drewN nq = W5 at *
        obtain ⟨X5, HX5, hT5⟩ : ∃ X5, Hid (∀ j, X j → X5 j) ∧ Hid (TS B w0 W5 g ms X5 D (.slice (some ⟨b1, 0, none⟩) os.length c1) v2 os ds) := ⟨_, hide (fun j hj => .inl hj), HT5⟩
        clear HT5
        have HT5 := hT5
        clear hT5
        have HTK5 := HTK
        obtain ⟨T5, hT5e⟩ : ∃ T5, T = T5 := ⟨_, rfl⟩
        have HLN5 := HLN
        have HLEN5 : Hid (T5.ss.length ≤ N) := hide (by rw [← hT5e]; exact (HN.out T (List.mem_of_getElem? HTK.out)).2.2)
        have HXp5 : Hid (∀ j, T5.sv.ownBlock = some j → ¬ j = w.heap.size + 1) := hide (fun j hj e => by
          have h1 := (HT0.out.eo T (List.mem_of_getElem? HTK.out)).rs
          rw [hT5e] at h1
          have := (h1.lt j hj).2
          omega)
        have HXo5 : Hid (∀ j, T5.sv.ownBlock = some j → ¬ j = w.heap.size) := hide (fun j hj e => by
          have h1 := (HT0.out.eo T (List.mem_of_getElem? HTK.out)).rs
          rw [hT5e] at h1
          have := (h1.lt j hj).2
          omega)
        rw [hT5e] at HTK5
        have HQ5 := hide (HT5.out.eo T5 (List.mem_of_getElem? HTK5.out))
        have HR15 : Hid (W5.ownsRow B 71 3 (.slice (some ⟨b1, 0, none⟩) n c1) n (os.flatMap tmc)) := hide (by have := HT5.out.r1; unfold RowM at this; rw [HLN5.out] at this; (try rw [HLN.out] at this); exact this)
        have HS5 : Hid (∀ W' : World, Below W5.heap.size W5 W' → (fun W' : World => W'.cell? ⟨b1, k * 3 + 1, none⟩ = some T5.sv ∧ W'.cell? ⟨w.heap.size, 0, none⟩ = some (.int .u8 (x1 : Nat)) ∧ W'.cell? ⟨w.heap.size, 1, none⟩ = some (.int .i64 x2) ∧ W'.cell? ⟨w.heap.size, 2, none⟩ = some (.string x3) ∧ W'.cell? ⟨w.heap.size, 3, none⟩ = some (.string x4) ∧ W'.cell? ⟨w.heap.size, 4, none⟩ = some (.string x5)) W') := hide (fun W' hW => by
          have hb : b1 < W5.heap.size := (HR15.out.lt b1 rfl).2
          have hx : w.heap.size < W5.heap.size := heap_lt HB5.out
          have hd : (tmc T5)[1]? = some T5.sv := rfl
          refine ⟨(World.cell?_of_block (hW.block _ hb)).trans ?_, (World.cell?_of_block (hW.block _ hx)).trans (cell_blk HB5.out rfl), (World.cell?_of_block (hW.block _ hx)).trans (cell_blk HB5.out rfl), (World.cell?_of_block (hW.block _ hx)).trans (cell_blk HB5.out rfl), (World.cell?_of_block (hW.block _ hx)).trans (cell_blk HB5.out rfl), (World.cell?_of_block (hW.block _ hx)).trans (cell_blk HB5.out rfl)⟩
          rw [HR15.out.cellAt (k * 3 + 1) (by omega), flat_atM tmc 3 (fun _ => rfl) T5 os k 1 (by rw [HLN5.out]; exact hlt) (by omega)]
          rw [show os.getD k T5 = T5 by rw [List.getD_eq_getElem?_getD, HTK5.out]; rfl]
          exact hd)
        have HRow5 : Hid (RowS W5 B T5.sv T5.ss) := hide HQ5.out.rs
        have HVN5 : Hid ((T5.ss.length + 1) * 64 ≤ 140737488355328) := hide (by have := HLEN5.out; have := HNB.out; omega)
        refine wp_region_last 12 (fun W' : World => W'.cell? ⟨b1, k * 3 + 1, none⟩ = some T5.sv ∧ W'.cell? ⟨w.heap.size, 0, none⟩ = some (.int .u8 (x1 : Nat)) ∧ W'.cell? ⟨w.heap.size, 1, none⟩ = some (.int .i64 x2) ∧ W'.cell? ⟨w.heap.size, 2, none⟩ = some (.string x3) ∧ W'.cell? ⟨w.heap.size, 3, none⟩ = some (.string x4) ∧ W'.cell? ⟨w.heap.size, 4, none⟩ = some (.string x5)) (by kernel_rfl) (HS5.out _ (Below.refl _ W5).drew) (fun hHeld => ?_)
        refine wpAnyL_take (i := 0) (v := ?v0r5) rfl (by kernel_rfl) (fun _ _ _ h => h) (by assumption) (by rfl) ?hy0r5 ?hn0r5
        case hy0r5 => (intro w hSw; (try dsimp only at hSw); obtain ⟨s0, s1, s2, s3, s4, s5⟩ := hSw; go_simp; try with_reducible rfl)
        try simp only [Act.put]
        refine wpAnyL_take (i := 1) (v := ?v1r5) rfl (by kernel_rfl) (fun _ _ _ h => h) (by assumption) (by rfl) ?hy1r5 ?hn1r5
        case hy1r5 => (intro w hSw; (try dsimp only at hSw); obtain ⟨s0, s1, s2, s3, s4, s5⟩ := hSw; go_simp; try with_reducible rfl)
        try simp only [Act.put]
        refine wpAnyL_take (i := 2) (v := ?v2r5) rfl (by kernel_rfl) (fun _ _ _ h => h) (by assumption) (by rfl) ?hy2r5 ?hn2r5
        case hy2r5 => (intro w hSw; (try dsimp only at hSw); obtain ⟨s0, s1, s2, s3, s4, s5⟩ := hSw; go_simp; try with_reducible rfl)
        try simp only [Act.put]
        refine wpAnyL_take (i := 3) (v := ?v3r5) rfl (by kernel_rfl) (fun _ _ _ h => h) (by assumption) (by rfl) ?hy3r5 ?hn3r5
        case hy3r5 => (intro w hSw; (try dsimp only at hSw); obtain ⟨s0, s1, s2, s3, s4, s5⟩ := hSw; go_simp; try with_reducible rfl)
        try simp only [Act.put]
        refine wpAnyL_take (i := 4) (v := ?v4r5) rfl (by kernel_rfl) (fun _ _ _ h => h) (by assumption) (by rfl) ?hy4r5 ?hn4r5
        case hy4r5 => (intro w hSw; (try dsimp only at hSw); obtain ⟨s0, s1, s2, s3, s4, s5⟩ := hSw; go_simp; try with_reducible rfl)
        try simp only [Act.put]
        refine wpAnyL_take (i := 5) (v := ?v5r5) rfl (by kernel_rfl) (fun _ _ _ h => h) (by assumption) (by rfl) ?hy5r5 ?hn5r5
        case hy5r5 => (intro w hSw; (try dsimp only at hSw); obtain ⟨s0, s1, s2, s3, s4, s5⟩ := hSw; go_simp; try with_reducible rfl)
        try simp only [Act.put]
        refine wpAnyL_take (i := 6) (v := ?v6r5) rfl (by kernel_rfl) (fun _ _ _ h => h) (by assumption) (by rfl) ?hy6r5 ?hn6r5
        case hy6r5 => (intro w hSw; (try dsimp only at hSw); obtain ⟨s0, s1, s2, s3, s4, s5⟩ := hSw; go_simp; try with_reducible rfl)
        try simp only [Act.put]
        refine wpAnyL_take (i := 7) (v := ?v7r5) rfl (by kernel_rfl) (fun _ _ _ h => h) (by assumption) (by rfl) ?hy7r5 ?hn7r5
        case hy7r5 => (intro w hSw; (try dsimp only at hSw); obtain ⟨s0, s1, s2, s3, s4, s5⟩ := hSw; go_simp; try with_reducible rfl)
        try simp only [Act.put]
        refine wpAnyL_one (i := 8) rfl (by kernel_rfl) (fun K hK => ?_)
        go_simp
        have HBa5 : Hid (Below W5.heap.size W5 ((W5.alloc (.cells #[.int .u8 (x1 : Nat), .int .i64 x2, .string x3, .string x4, .string x5] 40)).drew)) := hide (((Below.refl _ W5).alloc (Nat.le_refl _) _).drew)
        have HNa5 : Hid (((W5.alloc (.cells #[.int .u8 (x1 : Nat), .int .i64 x2, .string x3, .string x4, .string x5] 40)).drew).heap[W5.heap.size]? = some (.cells #[.int .u8 (x1 : Nat), .int .i64 x2, .string x3, .string x4, .string x5] 40 (0, 0))) := hide (heap_alloc_new W5 _)
        refine hK.out _ _ (HS5.out _ HBa5.out) (fun hHeld => ?_)
        clear hK K
        try simp only [Act.put]
        generalize hWa5 : (W5.alloc (.cells #[.int .u8 (x1 : Nat), .int .i64 x2, .string x3, .string x4, .string x5] 40)).drew = Wa5 at *
        have HTa5 := hide (HT5.out.below HBa5.out)
        have HRa5 : Hid (RowS Wa5 B T5.sv T5.ss) := hide (HTa5.out.eo T5 (List.mem_of_getElem? HTK5.out)).rs
        obtain ⟨i5, hi5, hz5, hs5, hy5⟩ := info_parts info40
        refine wpAnyL_one (i := 9) rfl (by kernel_rfl) (fun K hK => ?_)
        rw [if_pos (by rfl)]
        refine wp_append_row _ _ 23 40 rfl Tryz.underlying23 hi5 hz5 hs5 hy5 rfl (by decide) B (v := T5.sv) (n := T5.ss.length) rfl HRa5.out W5.heap.size (sxc ⟨x1, x2, x3, x4, x5⟩) rfl rfl HNa5.out (by intro u hu; simp at hu; rcases hu with rfl | rfl | rfl | rfl | rfl <;> rfl) HVN5.out (by have := HVN5.out; omega) HTa5.out.sz ?_
        intro v5 W6 HA5
        obtain ⟨sa5, sc5, rfl⟩ := own_form HA5.out.1
        have HBn5 : Hid (∀ j, j < W5.heap.size → ¬ T5.sv.ownBlock = some j → W6.heap[j]? = W5.heap[j]?) := hide (fun j hj hne => (HA5.out.2.1.block j (Nat.lt_of_lt_of_le hj HBa5.out.size) (fun e => hne e.symm)).trans (HBa5.out.block j hj))
        have HSn5 : Hid ((fun W' : World => W'.cell? ⟨b1, k * 3 + 1, none⟩ = some T5.sv ∧ W'.cell? ⟨w.heap.size, 0, none⟩ = some (.int .u8 (x1 : Nat)) ∧ W'.cell? ⟨w.heap.size, 1, none⟩ = some (.int .i64 x2) ∧ W'.cell? ⟨w.heap.size, 2, none⟩ = some (.string x3) ∧ W'.cell? ⟨w.heap.size, 3, none⟩ = some (.string x4) ∧ W'.cell? ⟨w.heap.size, 4, none⟩ = some (.string x5)) W6) := hide (by
          obtain ⟨s0, s1, s2, s3, s4, s5⟩ := HS5.out W5 (Below.refl _ _)
          have hb := HBn5.out b1 (HR15.out.lt b1 rfl).2 (own_apart HR15.out HRow5.out (by decide) b1 rfl)
          have hx := HBn5.out (w.heap.size) (heap_lt HB5.out) (fun e => HXo5.out _ e rfl)
          exact ⟨(World.cell?_of_block hb).trans s0, (World.cell?_of_block hx).trans s1, (World.cell?_of_block hx).trans s2, (World.cell?_of_block hx).trans s3, (World.cell?_of_block hx).trans s4, (World.cell?_of_block hx).trans s5⟩)
        refine hK.out _ _ HSn5.out (fun hHeld => ?_)
        clear hK K
        try simp only [Act.put]
        refine wpAnyL_take (i := 10) (v := ?v10r5) rfl (by kernel_rfl) (fun _ _ _ h => h) (by assumption) (by rfl) ?hy10r5 ?hn10r5
        case hy10r5 => (intro w hSw; (try dsimp only at hSw); obtain ⟨s0, s1, s2, s3, s4, s5⟩ := hSw; go_simp; try with_reducible rfl)
        try simp only [Act.put]
        refine wpAnyL_take (i := 11) (v := ?v11r5) rfl (by kernel_rfl) (fun _ _ _ h => h) (by assumption) (by rfl) ?hy11r5 ?hn11r5
        case hy11r5 => (intro w hSw; (try dsimp only at hSw); obtain ⟨s0, s1, s2, s3, s4, s5⟩ := hSw; go_simp; try with_reducible rfl)
        try simp only [Act.put]
        have dn5 : W6.cell? ⟨b1, k * 3 + 1, none⟩ = some T5.sv := HSn5.out.1
        have fn5 : W6.frozen? ⟨b1, k * 3 + 1, none⟩ = false := (show W6.ownsRow B 71 3 (.slice (some ⟨b1, 0, none⟩) n c1) n (os.flatMap tmc) from row_kept HR15.out (fun j hj => HBn5.out j (HR15.out.lt j hj).2 (own_apart HR15.out HRow5.out (by decide) j hj))).frozenAt _
        refine wpAnyL_last rfl (by kernel_rfl) (by kernel_rfl) (fun K hK => ?_)
        go_simp
        refine hK.out _ _ ?_
        clear hK K hHeld
        have HU5 := hide (HTa5.out.upS HTK5.out (ss' := T5.ss ++ [⟨x1, x2, x3, x4, x5⟩]) (by unfold RowS; rw [List.length_append, List.flatMap_append]; simpa using HA5.out.1) (by simp) HA5.out.2.1 HA5.out.2.2.2 HA5.out.2.2.1 (by (try rw [HLN5.out]); (try rw [HLN.out])))
        have HBY7 : Hid ((W6.setCell ⟨b1, k * 3 + 1, none⟩ (.slice sa5 (T5.ss.length + 1) sc5)).heap[w.heap.size + 1]? = some (.cells #[.int .i64 y1, .int .i64 y2, .string y3, .bool y4, .slice ap np cp, .slice ad nd cd, .int .u64 (y7 : Nat)] 47 (0, 0))) := hide (by
          have hb1 : b1 < w.heap.size := (HT0.out.r1.lt b1 rfl).2
          rw [Below.heap_setCell _ _ _ _ (by simp; omega), HBn5.out (w.heap.size + 1) (heap_lt HB6.out) (fun e => HXp5.out _ e rfl)]
          exact HB6.out)
        have HD7 : Hid (∀ j, D j → (W6.setCell ⟨b1, k * 3 + 1, none⟩ (.slice sa5 (T5.ss.length + 1) sc5)).heap[j]? = w.heap[j]?) := hide (fun j hj => by
          have hlt' : j < w.heap.size := HT0.out.mn.xb j (HT0.out.dx j hj)
          have n1 : ¬ j = b1 := fun e => (HT0.out.x1 b1 rfl).2 (e ▸ hj)
          have n2 : ¬ T5.sv.ownBlock = some j := fun e => ((HT0.out.eo T (List.mem_of_getElem? HTK.out)).xs j (by rw [hT5e]; exact e)).2 hj
          rw [Below.heap_setCell _ _ _ _ n1, HBn5.out j (Nat.lt_of_lt_of_le hlt' HBq.out.size) n2, HBq.out.block j hlt'])
        obtain ⟨X7, HX7, hT7⟩ : ∃ X7, Hid (∀ j, X j → X7 j) ∧ Hid (TS B w0 (W6.setCell ⟨b1, k * 3 + 1, none⟩ (.slice sa5 (T5.ss.length + 1) sc5)) g ms X7 D (.slice (some ⟨b1, 0, none⟩) os.length c1) v2 (os.set k { T5 with sv := .slice sa5 (T5.ss.length + 1) sc5, ss := T5.ss ++ [⟨x1, x2, x3, x4, x5⟩] }) ds) := ⟨_, hide (fun j hj => .inl (.inl (HX5.out j hj))), HU5⟩
        have HT6 := hT7
        clear hT7 HU5
        generalize W6.setCell ⟨b1, k * 3 + 1, none⟩ (.slice sa5 (T5.ss.length + 1) sc5) = W7 at *
        obtain ⟨T6, hT6⟩ : ∃ T6 : Tm, { T5 with sv := .slice sa5 (T5.ss.length + 1) sc5, ss := T5.ss ++ [⟨x1, x2, x3, x4, x5⟩] } = T6 := ⟨_, rfl⟩
        have HTE6 := hide hT6
        rw [hT6] at HT6
        have HTK6 : Hid ((os.set k T6)[k]? = some T6) := hide (List.getElem?_set_self (by rw [HLN.out]; exact hlt))
        have HLN6 : Hid ((os.set k T6).length = n) := hide (by rw [List.length_set]; exact HLN.out)
        have HLEN6 : Hid (T6.ys.length ≤ N) := hide (by
          rw [← HTE6.out]
          show T5.ys.length ≤ N
          rw [← hT5e]
          obtain ⟨l1, l2, l3⟩ := HN.out T (List.mem_of_getElem? HTK.out)
          omega)
        have HXo6 : Hid (∀ j, T6.yv.ownBlock = some j → ¬ j = w.heap.size + 1) := hide (fun j hj e => by
          rw [← HTE6.out] at hj
          have hj' : T5.yv.ownBlock = some j := hj
          have h1 := (HT0.out.eo T (List.mem_of_getElem? HTK.out)).ry
          rw [hT5e] at h1
          have := (h1.lt j hj').2
          omega)
        go_wp2_with fail
        have HQ6 := hide (HT6.out.eo T6 (List.mem_of_getElem? HTK6.out))
        have HR16 : Hid (W7.ownsRow B 71 3 (.slice (some ⟨b1, 0, none⟩) n c1) n ((os.set k T6).flatMap tmc)) := hide (by have := HT6.out.r1; unfold RowM at this; rw [HLN6.out] at this; (try rw [HLN.out] at this); exact this)
        have HS6 : Hid (∀ W' : World, Below W7.heap.size W7 W' → (fun W' : World => W'.cell? ⟨b1, k * 3 + 2, none⟩ = some T6.yv ∧ W'.cell? ⟨w.heap.size + 1, 0, none⟩ = some (.int .i64 y1) ∧ W'.cell? ⟨w.heap.size + 1, 1, none⟩ = some (.int .i64 y2) ∧ W'.cell? ⟨w.heap.size + 1, 2, none⟩ = some (.string y3) ∧ W'.cell? ⟨w.heap.size + 1, 3, none⟩ = some (.bool y4) ∧ W'.cell? ⟨w.heap.size + 1, 4, none⟩ = some (.slice ap np cp) ∧ W'.cell? ⟨w.heap.size + 1, 5, none⟩ = some (.slice ad nd cd) ∧ W'.cell? ⟨w.heap.size + 1, 6, none⟩ = some (.int .u64 (y7 : Nat))) W') := hide (fun W' hW => by
          have hb : b1 < W7.heap.size := (HR16.out.lt b1 rfl).2
          have hx : w.heap.size + 1 < W7.heap.size := heap_lt HBY7.out
          have hd : (tmc T6)[2]? = some T6.yv := rfl
          refine ⟨(World.cell?_of_block (hW.block _ hb)).trans ?_, (World.cell?_of_block (hW.block _ hx)).trans (cell_blk HBY7.out rfl), (World.cell?_of_block (hW.block _ hx)).trans (cell_blk HBY7.out rfl), (World.cell?_of_block (hW.block _ hx)).trans (cell_blk HBY7.out rfl), (World.cell?_of_block (hW.block _ hx)).trans (cell_blk HBY7.out rfl), (World.cell?_of_block (hW.block _ hx)).trans (cell_blk HBY7.out rfl), (World.cell?_of_block (hW.block _ hx)).trans (cell_blk HBY7.out rfl), (World.cell?_of_block (hW.block _ hx)).trans (cell_blk HBY7.out rfl)⟩
          rw [HR16.out.cellAt (k * 3 + 2) (by omega), flat_atM tmc 3 (fun _ => rfl) T6 (os.set k T6) k 2 (by rw [HLN6.out]; exact hlt) (by omega)]
          rw [show (os.set k T6).getD k T6 = T6 by rw [List.getD_eq_getElem?_getD, HTK6.out]; rfl]
          exact hd)
        have HRow6 : Hid (RowY W7 B T6.yv T6.ys) := hide HQ6.out.ry
        have HVN6 : Hid ((T6.ys.length + 1) * 96 ≤ 140737488355328) := hide (by have := HLEN6.out; have := HNB.out; omega)
        refine wp_region_last 12 (fun W' : World => W'.cell? ⟨b1, k * 3 + 2, none⟩ = some T6.yv ∧ W'.cell? ⟨w.heap.size + 1, 0, none⟩ = some (.int .i64 y1) ∧ W'.cell? ⟨w.heap.size + 1, 1, none⟩ = some (.int .i64 y2) ∧ W'.cell? ⟨w.heap.size + 1, 2, none⟩ = some (.string y3) ∧ W'.cell? ⟨w.heap.size + 1, 3, none⟩ = some (.bool y4) ∧ W'.cell? ⟨w.heap.size + 1, 4, none⟩ = some (.slice ap np cp) ∧ W'.cell? ⟨w.heap.size + 1, 5, none⟩ = some (.slice ad nd cd) ∧ W'.cell? ⟨w.heap.size + 1, 6, none⟩ = some (.int .u64 (y7 : Nat))) (by kernel_rfl) (HS6.out _ (Below.refl _ W7).drew) (fun hHeld => ?_)
        refine wpAnyL_take (i := 0) (v := ?v0r6) rfl (by kernel_rfl) (fun _ _ _ h => h) (by assumption) (by rfl) ?hy0r6 ?hn0r6
        case hy0r6 => (intro w hSw; (try dsimp only at hSw); obtain ⟨s0, s1, s2, s3, s4, s5, s6, s7⟩ := hSw; go_simp; try with_reducible rfl)
        try simp only [Act.put]
        refine wpAnyL_take (i := 1) (v := ?v1r6) rfl (by kernel_rfl) (fun _ _ _ h => h) (by assumption) (by rfl) ?hy1r6 ?hn1r6
        case hy1r6 => (intro w hSw; (try dsimp only at hSw); obtain ⟨s0, s1, s2, s3, s4, s5, s6, s7⟩ := hSw; go_simp; try with_reducible rfl)
        try simp only [Act.put]
        refine wpAnyL_take (i := 2) (v := ?v2r6) rfl (by kernel_rfl) (fun _ _ _ h => h) (by assumption) (by rfl) ?hy2r6 ?hn2r6
        case hy2r6 => (intro w hSw; (try dsimp only at hSw); obtain ⟨s0, s1, s2, s3, s4, s5, s6, s7⟩ := hSw; go_simp; try with_reducible rfl)
        try simp only [Act.put]
        refine wpAnyL_take (i := 3) (v := ?v3r6) rfl (by kernel_rfl) (fun _ _ _ h => h) (by assumption) (by rfl) ?hy3r6 ?hn3r6
        case hy3r6 => (intro w hSw; (try dsimp only at hSw); obtain ⟨s0, s1, s2, s3, s4, s5, s6, s7⟩ := hSw; go_simp; try with_reducible rfl)
        try simp only [Act.put]
        refine wpAnyL_take (i := 4) (v := ?v4r6) rfl (by kernel_rfl) (fun _ _ _ h => h) (by assumption) (by rfl) ?hy4r6 ?hn4r6
        case hy4r6 => (intro w hSw; (try dsimp only at hSw); obtain ⟨s0, s1, s2, s3, s4, s5, s6, s7⟩ := hSw; go_simp; try with_reducible rfl)
        try simp only [Act.put]
        refine wpAnyL_take (i := 5) (v := ?v5r6) rfl (by kernel_rfl) (fun _ _ _ h => h) (by assumption) (by rfl) ?hy5r6 ?hn5r6
        case hy5r6 => (intro w hSw; (try dsimp only at hSw); obtain ⟨s0, s1, s2, s3, s4, s5, s6, s7⟩ := hSw; go_simp; try with_reducible rfl)
        try simp only [Act.put]
        refine wpAnyL_take (i := 6) (v := ?v6r6) rfl (by kernel_rfl) (fun _ _ _ h => h) (by assumption) (by rfl) ?hy6r6 ?hn6r6
        case hy6r6 => (intro w hSw; (try dsimp only at hSw); obtain ⟨s0, s1, s2, s3, s4, s5, s6, s7⟩ := hSw; go_simp; try with_reducible rfl)
        try simp only [Act.put]
        refine wpAnyL_take (i := 7) (v := ?v7r6) rfl (by kernel_rfl) (fun _ _ _ h => h) (by assumption) (by rfl) ?hy7r6 ?hn7r6
        case hy7r6 => (intro w hSw; (try dsimp only at hSw); obtain ⟨s0, s1, s2, s3, s4, s5, s6, s7⟩ := hSw; go_simp; try with_reducible rfl)
        try simp only [Act.put]
        refine wpAnyL_one (i := 8) rfl (by kernel_rfl) (fun K hK => ?_)
        go_simp
        have HBa6 : Hid (Below W7.heap.size W7 ((W7.alloc (.cells #[.int .i64 y1, .int .i64 y2, .string y3, .bool y4, .slice ap np cp, .slice ad nd cd, .int .u64 (y7 : Nat)] 47)).drew)) := hide (((Below.refl _ W7).alloc (Nat.le_refl _) _).drew)
        have HNa6 : Hid (((W7.alloc (.cells #[.int .i64 y1, .int .i64 y2, .string y3, .bool y4, .slice ap np cp, .slice ad nd cd, .int .u64 (y7 : Nat)] 47)).drew).heap[W7.heap.size]? = some (.cells #[.int .i64 y1, .int .i64 y2, .string y3, .bool y4, .slice ap np cp, .slice ad nd cd, .int .u64 (y7 : Nat)] 47 (0, 0))) := hide (heap_alloc_new W7 _)
        refine hK.out _ _ (HS6.out _ HBa6.out) (fun hHeld => ?_)
        clear hK K
        try simp only [Act.put]
        generalize hWa6 : (W7.alloc (.cells #[.int .i64 y1, .int .i64 y2, .string y3, .bool y4, .slice ap np cp, .slice ad nd cd, .int .u64 (y7 : Nat)] 47)).drew = Wa6 at *
        have HTa6 := hide (HT6.out.below HBa6.out)
        have HRa6 : Hid (RowY Wa6 B T6.yv T6.ys) := hide (HTa6.out.eo T6 (List.mem_of_getElem? HTK6.out)).ry
        obtain ⟨i6, hi6, hz6, hs6, hy6⟩ := info_parts info47
        refine wpAnyL_one (i := 9) rfl (by kernel_rfl) (fun K hK => ?_)
        rw [if_pos (by rfl)]
        refine wp_append_row _ _ 69 47 rfl Tryz.underlying69 hi6 hz6 hs6 hy6 rfl (by decide) B (v := T6.yv) (n := T6.ys.length) rfl HRa6.out W7.heap.size (rac ⟨⟨y1, y2, y3, y4, y5, y6, y7⟩, ap, np, cp, ad, nd, cd⟩) rfl rfl HNa6.out (by intro u hu; simp at hu; rcases hu with rfl | rfl | rfl | rfl | rfl | rfl | rfl <;> rfl) HVN6.out (by have := HVN6.out; omega) HTa6.out.sz ?_
        intro v6 W8 HA6
        obtain ⟨sa6, sc6, rfl⟩ := own_form HA6.out.1
        have HBn6 : Hid (∀ j, j < W7.heap.size → ¬ T6.yv.ownBlock = some j → W8.heap[j]? = W7.heap[j]?) := hide (fun j hj hne => (HA6.out.2.1.block j (Nat.lt_of_lt_of_le hj HBa6.out.size) (fun e => hne e.symm)).trans (HBa6.out.block j hj))
        have HSn6 : Hid ((fun W' : World => W'.cell? ⟨b1, k * 3 + 2, none⟩ = some T6.yv ∧ W'.cell? ⟨w.heap.size + 1, 0, none⟩ = some (.int .i64 y1) ∧ W'.cell? ⟨w.heap.size + 1, 1, none⟩ = some (.int .i64 y2) ∧ W'.cell? ⟨w.heap.size + 1, 2, none⟩ = some (.string y3) ∧ W'.cell? ⟨w.heap.size + 1, 3, none⟩ = some (.bool y4) ∧ W'.cell? ⟨w.heap.size + 1, 4, none⟩ = some (.slice ap np cp) ∧ W'.cell? ⟨w.heap.size + 1, 5, none⟩ = some (.slice ad nd cd) ∧ W'.cell? ⟨w.heap.size + 1, 6, none⟩ = some (.int .u64 (y7 : Nat))) W8) := hide (by
          obtain ⟨s0, s1, s2, s3, s4, s5, s6, s7⟩ := HS6.out W7 (Below.refl _ _)
          have hb := HBn6.out b1 (HR16.out.lt b1 rfl).2 (own_apart HR16.out HRow6.out (by decide) b1 rfl)
          have hx := HBn6.out (w.heap.size + 1) (heap_lt HBY7.out) (fun e => HXo6.out _ e rfl)
          exact ⟨(World.cell?_of_block hb).trans s0, (World.cell?_of_block hx).trans s1, (World.cell?_of_block hx).trans s2, (World.cell?_of_block hx).trans s3, (World.cell?_of_block hx).trans s4, (World.cell?_of_block hx).trans s5, (World.cell?_of_block hx).trans s6, (World.cell?_of_block hx).trans s7⟩)
        refine hK.out _ _ HSn6.out (fun hHeld => ?_)
        clear hK K
        try simp only [Act.put]
        refine wpAnyL_take (i := 10) (v := ?v10r6) rfl (by kernel_rfl) (fun _ _ _ h => h) (by assumption) (by rfl) ?hy10r6 ?hn10r6
        case hy10r6 => (intro w hSw; (try dsimp only at hSw); obtain ⟨s0, s1, s2, s3, s4, s5, s6, s7⟩ := hSw; go_simp; try with_reducible rfl)
        try simp only [Act.put]
        refine wpAnyL_take (i := 11) (v := ?v11r6) rfl (by kernel_rfl) (fun _ _ _ h => h) (by assumption) (by rfl) ?hy11r6 ?hn11r6
        case hy11r6 => (intro w hSw; (try dsimp only at hSw); obtain ⟨s0, s1, s2, s3, s4, s5, s6, s7⟩ := hSw; go_simp; try with_reducible rfl)
        try simp only [Act.put]
        have dn6 : W8.cell? ⟨b1, k * 3 + 2, none⟩ = some T6.yv := HSn6.out.1
        have fn6 : W8.frozen? ⟨b1, k * 3 + 2, none⟩ = false := (show W8.ownsRow B 71 3 (.slice (some ⟨b1, 0, none⟩) n c1) n ((os.set k T6).flatMap tmc) from row_kept HR16.out (fun j hj => HBn6.out j (HR16.out.lt j hj).2 (own_apart HR16.out HRow6.out (by decide) j hj))).frozenAt _
        refine wpAnyL_last rfl (by kernel_rfl) (by kernel_rfl) (fun K hK => ?_)
        go_simp
        refine hK.out _ _ ?_
        clear hK K hHeld
        have HANSN : Hid (∀ y ∈ T6.ys ++ [(⟨⟨y1, y2, y3, y4, y5, y6, y7⟩, ap, np, cp, ad, nd, cd⟩ : Ra)], OkA D Wa6 y) := hide (fun y hy => (List.mem_append.1 hy).elim (fun h => (HTa6.out.eo T6 (List.mem_of_getElem? HTK6.out)).ans y h) (fun h => by
          rw [List.mem_singleton.1 h]
          exact HY.out.step (fun _ hd => hd) (fun j hj => (HBa6.out.block j (HT6.out.mn.xb j (HT6.out.dx j hj))).trans (HD7.out j hj))))
        have HU6 := hide (HTa6.out.upY HTK6.out (ys' := T6.ys ++ [⟨⟨y1, y2, y3, y4, y5, y6, y7⟩, ap, np, cp, ad, nd, cd⟩]) (by unfold RowY; rw [List.length_append, List.flatMap_append]; simpa using HA6.out.1) (by simp) HANSN.out HA6.out.2.1 HA6.out.2.2.2 HA6.out.2.2.1 (by (try rw [HLN6.out]); (try rw [HLN.out])))
        have HNO := hide (noted_at HN.out HTK.out ⟨x1, x2, x3, x4, x5⟩ ⟨⟨y1, y2, y3, y4, y5, y6, y7⟩, ap, np, cp, ad, nd, cd⟩ he HIN.out (.slice sa5 (T5.ss.length + 1) sc5) (.slice sa6 (T6.ys.length + 1) sc6))
        have HFIN : Hid ((os.set k T6).set k { T6 with yv := .slice sa6 (T6.ys.length + 1) sc6, ys := T6.ys ++ [⟨⟨y1, y2, y3, y4, y5, y6, y7⟩, ap, np, cp, ad, nd, cd⟩] } = os.set k ⟨T.tx, .slice sa5 (T5.ss.length + 1) sc5, .slice sa6 (T6.ys.length + 1) sc6, T.ss ++ [⟨x1, x2, x3, x4, x5⟩], T.ys ++ [⟨⟨y1, y2, y3, y4, y5, y6, y7⟩, ap, np, cp, ad, nd, cd⟩]⟩) := hide (by
          rw [List.set_set]
          congr 1
          rw [← HTE6.out, ← hT5e])
        rw [HFIN.out] at HU6
        go_wp2
        go_ret
        have HUF := HU6.out
        rw [HLN.out] at HUF
        have HNL := HNO.out.2.2
        rw [HLN.out] at HNL
        exact ⟨_, rfl, _, _, HUF, HNO.out.1, HNO.out.2.1, HNL, fun j hj => .inl (.inl (HX7.out j hj))⟩
      · have heb : (T.tx == x2) = false := by simpa using he
        have HNE : Hid (∀ j U, j < k + 1 → os[j]? = some U → ¬ U.tx = x2) := hide (fun j U hj hU => by
          by_cases e : j = k
          · subst e
            rw [HTK.out] at hU
            cases hU
            exact he
          · exact HI.out.1 j U (by omega) hU)
        go_wp2
        go_quiet (fail)
        go_wp2
        go_roundw
        case rel => exact ⟨k + 1, _, by omega, rfl, by simp, hide ⟨HNE.out, below_drewN HI.out.2 nq⟩⟩
        case measure => simp [intOf]; omega
    · obtain rfl : k = n := by omega
      have hkI : ¬ (k : Int) < (k : Int) := by omega
      have HZZ : Hid (∀ j u, wr.cell? ⟨w.heap.size + 1, j, none⟩ = some u → (wr.alloc (.cells #[.int .u8 (x1 : Nat), .int .i64 x2, .string x3, .string x4, .string x5] 40)).cell? ⟨w.heap.size + 1, j, none⟩ = some u) := hide (fun j u hu => (World.cell?_of_block (Below.heap_alloc _ _ _ (by have := heap_lt HYr.out; simp; omega))).trans hu)
      have v0 := HZZ.out _ _ z0
      have v1' := HZZ.out _ _ z1
      have v2' := HZZ.out _ _ z2
      have v3 := HZZ.out _ _ z3
      have v4 := HZZ.out _ _ z4
      have v5 := HZZ.out _ _ z5
      have v6 := HZZ.out _ _ z6
      have HWa : Hid (Below wr.heap.size wr (((wr.alloc (.cells #[.int .u8 (x1 : Nat), .int .i64 x2, .string x3, .string x4, .string x5] 40)).alloc (.cells #[.int .i64 y1, .int .i64 y2, .string y3, .bool y4, .slice ap np cp, .slice ad nd cd, .int .u64 (y7 : Nat)] 47)).alloc (.cells #[.int .i64 x2, .slice (some ⟨wr.heap.size, 0, none⟩) 1 1, .slice (some ⟨wr.heap.size + 1, 0, none⟩) 1 1] 71))) := hide ((((Below.refl _ wr).alloc (Nat.le_refl _) _).alloc (by simp) _).alloc (by simp; omega) _)
      have HNn : Hid ((((wr.alloc (.cells #[.int .u8 (x1 : Nat), .int .i64 x2, .string x3, .string x4, .string x5] 40)).alloc (.cells #[.int .i64 y1, .int .i64 y2, .string y3, .bool y4, .slice ap np cp, .slice ad nd cd, .int .u64 (y7 : Nat)] 47)).alloc (.cells #[.int .i64 x2, .slice (some ⟨wr.heap.size, 0, none⟩) 1 1, .slice (some ⟨wr.heap.size + 1, 0, none⟩) 1 1] 71)).heap[wr.heap.size + 1 + 1]? = some (.cells #[.int .i64 x2, .slice (some ⟨wr.heap.size, 0, none⟩) 1 1, .slice (some ⟨wr.heap.size + 1, 0, none⟩) 1 1] 71 (0, 0))) := hide (by
        have := heap_alloc_new ((wr.alloc (.cells #[.int .u8 (x1 : Nat), .int .i64 x2, .string x3, .string x4, .string x5] 40)).alloc (.cells #[.int .i64 y1, .int .i64 y2, .string y3, .bool y4, .slice ap np cp, .slice ad nd cd, .int .u64 (y7 : Nat)] 47)) (.cells #[.int .i64 x2, .slice (some ⟨wr.heap.size, 0, none⟩) 1 1, .slice (some ⟨wr.heap.size + 1, 0, none⟩) 1 1] 71)
        rwa [show ((wr.alloc (.cells #[.int .u8 (x1 : Nat), .int .i64 x2, .string x3, .string x4, .string x5] 40)).alloc (.cells #[.int .i64 y1, .int .i64 y2, .string y3, .bool y4, .slice ap np cp, .slice ad nd cd, .int .u64 (y7 : Nat)] 47)).heap.size = wr.heap.size + 1 + 1 by simp] at this)
      have HR3 : Hid ((((wr.alloc (.cells #[.int .u8 (x1 : Nat), .int .i64 x2, .string x3, .string x4, .string x5] 40)).alloc (.cells #[.int .i64 y1, .int .i64 y2, .string y3, .bool y4, .slice ap np cp, .slice ad nd cd, .int .u64 (y7 : Nat)] 47)).alloc (.cells #[.int .i64 x2, .slice (some ⟨wr.heap.size, 0, none⟩) 1 1, .slice (some ⟨wr.heap.size + 1, 0, none⟩) 1 1] 71)).ownsRow B 71 3 (.slice a1 k c1) k (os.flatMap tmc)) := hide (by
        have := HT.out.r1
        unfold RowM at this
        rw [HLN.out] at this
        exact ((this.alloc _).alloc _).alloc _)
      have HRS : Hid (RowS (((wr.alloc (.cells #[.int .u8 (x1 : Nat), .int .i64 x2, .string x3, .string x4, .string x5] 40)).alloc (.cells #[.int .i64 y1, .int .i64 y2, .string y3, .bool y4, .slice ap np cp, .slice ad nd cd, .int .u64 (y7 : Nat)] 47)).alloc (.cells #[.int .i64 x2, .slice (some ⟨wr.heap.size, 0, none⟩) 1 1, .slice (some ⟨wr.heap.size + 1, 0, none⟩) 1 1] 71)) wr.heap.size (.slice (some ⟨wr.heap.size, 0, none⟩) 1 1) [⟨x1, x2, x3, x4, x5⟩]) := hide (World.ownsRow.alloc (World.ownsRow.alloc (World.ownsRow_lit wr #[.int .u8 (x1 : Nat), .int .i64 x2, .string x3, .string x4, .string x5] 1 (Nat.le_refl _) (by unfold maxLen; omega) rfl) _) _)
      have HRY : Hid (RowY (((wr.alloc (.cells #[.int .u8 (x1 : Nat), .int .i64 x2, .string x3, .string x4, .string x5] 40)).alloc (.cells #[.int .i64 y1, .int .i64 y2, .string y3, .bool y4, .slice ap np cp, .slice ad nd cd, .int .u64 (y7 : Nat)] 47)).alloc (.cells #[.int .i64 x2, .slice (some ⟨wr.heap.size, 0, none⟩) 1 1, .slice (some ⟨wr.heap.size + 1, 0, none⟩) 1 1] 71)) wr.heap.size (.slice (some ⟨wr.heap.size + 1, 0, none⟩) 1 1) [⟨⟨y1, y2, y3, y4, y5, y6, y7⟩, ap, np, cp, ad, nd, cd⟩]) := hide (World.ownsRow.alloc (by
        have := World.ownsRow_lit (base := wr.heap.size) (e := 47) (size := 7) (wr.alloc (.cells #[.int .u8 (x1 : Nat), .int .i64 x2, .string x3, .string x4, .string x5] 40)) #[.int .i64 y1, .int .i64 y2, .string y3, .bool y4, .slice ap np cp, .slice ad nd cd, .int .u64 (y7 : Nat)] 1 (by simp) (by unfold maxLen; omega) rfl
        rwa [show (wr.alloc (.cells #[.int .u8 (x1 : Nat), .int .i64 x2, .string x3, .string x4, .string x5] 40)).heap.size = wr.heap.size + 1 by simp] at this) _)
      have HAN : Hid (∀ y ∈ [(⟨⟨y1, y2, y3, y4, y5, y6, y7⟩, ap, np, cp, ad, nd, cd⟩ : Ra)], OkA D wr y) := hide (fun y hy => by
        rw [List.mem_singleton.1 hy]
        exact HY.out.step (fun _ hd => hd) (fun j hj => HBr.out.block j (HT0.out.mn.xb j (HT0.out.dx j hj))))
      have HNO := hide (noted_new HN.out ⟨x1, x2, x3, x4, x5⟩ ⟨⟨y1, y2, y3, y4, y5, y6, y7⟩, ap, np, cp, ad, nd, cd⟩ (fun U hU => by
        obtain ⟨j, hj⟩ := List.mem_iff_getElem?.1 hU
        exact HI.out.1 j U (by rw [← HLN.out]; exact (List.getElem?_eq_some_iff.1 hj).1) hj) (.slice (some ⟨wr.heap.size, 0, none⟩) 1 1) (.slice (some ⟨wr.heap.size + 1, 0, none⟩) 1 1))
      obtain ⟨i7, hi7, hz7, hs7, hy7⟩ := info_parts info71
      go_wp2_with (at_builtin; refine wpList_append_row rfl _ _ 67 71 rfl Tryz.underlying67 hi7 hz7 hs7 hy7 rfl (by decide) B (v := .slice a1 k c1) (n := k) rfl HR3.out (wr.heap.size + 1 + 1) [.int .i64 x2, .slice (some ⟨wr.heap.size, 0, none⟩) 1 1, .slice (some ⟨wr.heap.size + 1, 0, none⟩) 1 1] rfl rfl HNn.out (by intro u hu; simp at hu; rcases hu with rfl | rfl | rfl <;> rfl) (by omega) (by omega) (Nat.le_trans HT.out.sz HWa.out.size) ?_)
      intro vn W4 HA
      obtain ⟨sa, sc, rfl⟩ := own_form HA.out.1
      have HU := hide (HT.out.push HWa.out HX.out HRS.out HRY.out HAN.out (v' := .slice sa (k + 1) sc) (by unfold RowM; rw [List.length_append, List.flatMap_append, HLN.out]; simpa using HA.out.1) (by rw [HLN.out]; exact HA.out.2.1) (HA.out.2.2.1.imp (fun h => by rw [HLN.out]; exact h) (fun h j hj => by have := h j hj; simp; omega)))
      clear HA HR3 HRS HRY HAN HNn v0 v1' v2' v3 v4 v5 v6 z0 z1 z2 z3 z4 z5 z6 e0 e1 e2 e3 e4
      go_wp2
      go_ret
      have HNL := HNO.out.2.2
      rw [HLN.out] at HNL
      exact ⟨_, _, _, rfl, HU.out, HNO.out.1, HNO.out.2.1, HNL, fun j hj => .inl (.inl hj)⟩
end Go.Proofs.YtlkmcbelmldleaaGreat
