/- Tt Tv Tw0 Ts -/
import Derived.Test.YtlkmcbelmldleaaGreatCx4
import Derived.Test.YtlkmcbelmldleaaGreatCx2
import Derived.Test.YtlkmcbelmldleaaGreatVJ
import Derived.Maps.AppendAt
import Derived.Test.YtlkmcbelmldleaaGreatCx1
import Derived.Test.YtlkmcbelmldleaaGreatCx3
/- New -/
namespace Go.Proofs.YtlkmcbelmldleaaGreat
open Go.RowKit
open Go.Maps (Keyed has size)
set_option maxRecDepth 40000
/-- a pair as a write -/
def wtOf (p : Pr) : Wt := ⟨p.key, p.val, false⟩
/-- whether a key is above the one ahead of it -/
def riseAt (l : List Pr) (i : Nat) : Bool := decide (i = 0) || Op.bytesLess (l.getD (i - 1) Pr0).key.toList (l.getD i Pr0).key.toList
def riseB (l : List Pr) : Bool := (List.range l.length).all (riseAt l)
/-- why New refuses -/
def newE (l : List Pr) : Int := if (putR 1 [] (l.map wtOf) 1).2.2 = 3 ∨ (putR 1 [] (l.map wtOf) 1).2.2 = 4 then (putR 1 [] (l.map wtOf) 1).2.2 else if riseB l = true then 0 else 2
/-- the manager that New makes -/
def newM (l : List Pr) : Mg := ⟨(putR 1 [] (l.map wtOf) 1).2.1, (putR 1 [] (l.map wtOf) 1).1, 1, 0, []⟩
theorem isV_none (w : World) : IsV w none 0 0 [] := ⟨rfl, Nat.le_refl _, Nat.zero_le _, fun _ hi => absurd hi (Nat.not_lt_zero _)⟩
theorem new_isM {w : World} {g ob : Nat} {a : Option Addr} {n c low : Nat} {vs : List Vr} (hg : w.heap[g]? = some (.cells #[.slice a n c, .int .u64 (low : Nat), .int .u64 1, .int .i64 0, .map (some ob)] 97 (0, 0))) (hV : IsV w a n c vs) (ho : w.ownsMap Tryz.prog 3 heldR ob 0 (.map [])) (hf : ∀ b off, 0 < n → a = some ⟨b, off, none⟩ → b ≠ g ∧ b ≠ ob) : IsM w g ob [] ⟨low, vs, 1, 0, []⟩ := by
  refine ⟨⟨a, n, c, hg, hV, ?_, fun b off h0 e h => ?_⟩, ⟨.map [], ho, ⟨List.Pairwise.nil, rfl, rfl, fun i _ _ _ h => by simp at h, fun kl h => by simp [Go.Maps.has] at h⟩⟩, fun i _ _ _ h => by simp at h, List.Pairwise.nil, fun l hl => by simp at hl, by show (0 : Nat) < 4611686018427387904; omega, fun x hx => by simp at hx, by show (0 : Nat) ≤ 16; omega⟩
  · rintro rfl
    rcases Nat.eq_zero_or_pos n with h0 | h0
    · exact h0
    · obtain ⟨_, _, e, _⟩ := hV.2.2.2 0 h0
      cases e
  · rcases h with h | h | ⟨l, hl, _⟩
    · exact (hf b off h0 e).1 h
    · exact (hf b off h0 e).2 h
    · simp at hl
set_option maxHeartbeats 8000000 in
theorem new_any (a : Option Addr) (len cap : Nat) (l : List Pr) (w : World) (hL : IsP w a len cap l) (hbig : len * 40 ≤ 140737488355328) :
    Calls Tryz.prog 11 #[.slice a len cap] w fun e w' => ∃ ptr, e = .returned (.tuple #[ptr, .int .i64 (newE l)]) ∧ (newE l = 0 → ∃ g ob, ptr = .pointer (some ⟨g, 0, none⟩) ∧ IsM w' g ob [] (newM l) ∧ w.heap.size ≤ g ∧ w.heap.size ≤ ob ∧ ∀ b, VB w' g b → w.heap.size ≤ b) ∧ (¬ newE l = 0 → ptr = .pointer none) ∧ Below w.heap.size w w' := by
  have HL := hide hL
  have HLN := hide hL.1
  have hcm : cap ≤ 9223372036854775807 := hL.2.2.1
  have hcap := hL.2.1
  have hmix := mixed
  have HBIG := hide hbig
  have hlI : len ≤ 9223372036854775806 := by omega
  clear hL hbig
  go_enter Tryz.func11, Tryz.ntmps11
  go_wp2
  go_loopw [12, 4, 5] (fun v12 v4 v5 wr => ∃ (k : Nat) (a4 : Option Addr) (c4 : Nat), k ≤ len ∧ v12 = .int .i64 (k : Nat) ∧ v4 = .slice a4 k c4 ∧ v5 = .bool ((List.range k).all (riseAt l)) ∧ Hid (Below w.heap.size w wr ∧ wr.ownsRow w.heap.size 64 3 (.slice a4 k c4) k (((l.take k).map wtOf).flatMap wtc))) (fun v12 _ _ _ => len - (intOf v12).toNat)
  case atStart => exact ⟨0, none, 0, Nat.zero_le _, rfl, rfl, rfl, hide ⟨Below.refl _ _, World.ownsRow_nil _ _ _ _⟩⟩
  case round =>
    obtain ⟨k, a4, c4, hk, rfl, rfl, rfl, HI⟩ := hrel
    by_cases hlt : k < len
    · have HLr := hide (HL.out.below HI.out.1)
      obtain ⟨b, off, rfl, hb, z0, z1⟩ := HLr.out.2.2.2 k hlt
      have HTK : Hid ((l.take (k + 1)).map wtOf = (l.take k).map wtOf ++ [wtOf (l.getD k Pr0)]) := hide (by
        have e : l.take (k + 1) = l.take k ++ [l.getD k Pr0] := by
          rw [List.take_add_one, List.getD_eq_getElem?_getD, List.getElem?_eq_getElem (by rw [HLN.out]; exact hlt)]; rfl
        rw [e, List.map_append]; rfl)
      have HRS : Hid ((List.range (k + 1)).all (riseAt l) = ((List.range k).all (riseAt l) && riseAt l k)) := hide (by rw [List.range_succ]; simp)
      have HRW : Hid (riseAt l k = (decide (k = 0) || Op.bytesLess (l.getD (k - 1) Pr0).key.toList (l.getD k Pr0).key.toList)) := hide rfl
      have HGK : Hid (l.getD k Pr0 = l.getD k Pr0) := hide rfl
      generalize hx : l.getD k Pr0 = x at *
      obtain ⟨x1, x2⟩ := x
      dsimp only at z0 z1 HRW
      have HXX := hide hx
      have HTK : Hid ((l.take (k + 1)).map wtOf = (l.take k).map wtOf ++ [⟨x1, x2, false⟩]) := HTK
      have HBG : Hid ((k + 1) * 40 ≤ 140737488355328) := hide (by have := HBIG.out; omega)
      have hw1 : IntKind.i64.wrap ((k : Int) + 1) = (k : Int) + 1 := wr64' (by omega) (by omega)
      have hi4 : (0 : Int) ≤ (k : Int) := by omega
      have hiI : (k : Int) < (len : Int) := by omega
      have HRow : Hid ((wr.alloc (.cells #[.string x1, .string x2] 62)).drew.ownsRow w.heap.size 64 3 (.slice a4 k c4) k (((l.take k).map wtOf).flatMap wtc)) := hide (row_kept (HI.out.2.alloc (.cells #[.string x1, .string x2] 62)) (fun j _ => rfl))
      have HBr : Hid (Below w.heap.size w (wr.alloc (.cells #[.string x1, .string x2] 62)).drew) := hide (HI.out.1.alloc HI.out.1.size _).drew
      have HPB : Hid ((wr.alloc (.cells #[.string x1, .string x2] 62)).drew.heap[wr.heap.size]? = some (.cells #[.string x1, .string x2] 62 (0, 0))) := hide (heap_alloc_new wr (.cells #[.string x1, .string x2] 62))
      have HLd := hide (HL.out.below HBr.out)
      clear hx HGK
      cases hrk : (List.range k).all (riseAt l)
      · have HRK := hide hrk
        clear hrk
        go_wp2_with fail
        generalize hpb : wr.heap.size = pb at *
        clear hpb
        refine wp_region_held_drew (S := (fun W' : World => W'.cell? ⟨pb, 0, none⟩ = some (.string x1))) (by kernel_rfl) ?hSa (fun hHeld => ?_)
        case hSa => exact (cell_blk HPB.out rfl)
        refine hTake (i := 0) (v := ?v0a) (some 17) rfl rfl (by kernel_rfl) (by kernel_rfl) (by kernel_rfl) (fun _ _ _ h => h) (by rfl) (by assumption) ?hy0a ?hn0a
        case hy0a => (intro w hSw; (try dsimp only at hSw); skip; go_simp; try with_reducible rfl)
        try simp only [Act.put, List.setIfInBounds_toArray, List.set_cons_zero, List.set_cons_succ]
        refine hTake (i := 1) (v := ?v1a) (some 18) rfl rfl (by kernel_rfl) (by kernel_rfl) (by kernel_rfl) (fun _ _ _ h => h) (by rfl) (by assumption) ?hy1a ?hn1a
        case hy1a => (intro w hSw; (try dsimp only at hSw); skip; go_simp; try with_reducible rfl)
        try simp only [Act.put, List.setIfInBounds_toArray, List.set_cons_zero, List.set_cons_succ]
        refine hSkip (i := 2) (some 19) rfl rfl (by kernel_rfl) (by kernel_rfl) (by kernel_rfl) (fun _ _ _ h => h) (by rfl) (by assumption) ?_
        try simp only [Act.put, List.setIfInBounds_toArray, List.set_cons_zero, List.set_cons_succ]
        refine hSkip (i := 3) (some 20) rfl rfl (by kernel_rfl) (by kernel_rfl) (by kernel_rfl) (fun _ _ _ h => h) (by rfl) (by assumption) ?_
        try simp only [Act.put, List.setIfInBounds_toArray, List.set_cons_zero, List.set_cons_succ]
        refine hSkip (i := 4) (some 21) rfl rfl (by kernel_rfl) (by kernel_rfl) (by kernel_rfl) (fun _ _ _ h => h) (by rfl) (by assumption) ?_
        try simp only [Act.put, List.setIfInBounds_toArray, List.set_cons_zero, List.set_cons_succ]
        refine hSkip (i := 5) (some 22) rfl rfl (by kernel_rfl) (by kernel_rfl) (by kernel_rfl) (fun _ _ _ h => h) (by rfl) (by assumption) ?_
        try simp only [Act.put, List.setIfInBounds_toArray, List.set_cons_zero, List.set_cons_succ]
        refine hSkip (i := 6) (some 23) rfl rfl (by kernel_rfl) (by kernel_rfl) (by kernel_rfl) (fun _ _ _ h => h) (by rfl) (by assumption) ?_
        try simp only [Act.put, List.setIfInBounds_toArray, List.set_cons_zero, List.set_cons_succ]
        refine hSkip (i := 7) (some 24) rfl rfl (by kernel_rfl) (by kernel_rfl) (by kernel_rfl) (fun _ _ _ h => h) (by rfl) (by assumption) ?_
        try simp only [Act.put, List.setIfInBounds_toArray, List.set_cons_zero, List.set_cons_succ]
        refine hSkip (i := 8) (some 25) rfl rfl (by kernel_rfl) (by kernel_rfl) (by kernel_rfl) (fun _ _ _ h => h) (by rfl) (by assumption) ?_
        try simp only [Act.put, List.setIfInBounds_toArray, List.set_cons_zero, List.set_cons_succ]
        refine hSkip (i := 9) (some 26) rfl rfl (by kernel_rfl) (by kernel_rfl) (by kernel_rfl) (fun _ _ _ h => h) (by rfl) (by assumption) ?_
        try simp only [Act.put, List.setIfInBounds_toArray, List.set_cons_zero, List.set_cons_succ]
        refine hSkip (i := 10) (some 27) rfl rfl (by kernel_rfl) (by kernel_rfl) (by kernel_rfl) (fun _ _ _ h => h) (by rfl) (by assumption) ?_
        try simp only [Act.put, List.setIfInBounds_toArray, List.set_cons_zero, List.set_cons_succ]
        refine hSkip (i := 11) (some 28) rfl rfl (by kernel_rfl) (by kernel_rfl) (by kernel_rfl) (fun _ _ _ h => h) (by rfl) (by assumption) ?_
        try simp only [Act.put, List.setIfInBounds_toArray, List.set_cons_zero, List.set_cons_succ]
        refine hSkip (i := 12) (some 29) rfl rfl (by kernel_rfl) (by kernel_rfl) (by kernel_rfl) (fun _ _ _ h => h) (by rfl) (by assumption) ?_
        try simp only [Act.put, List.setIfInBounds_toArray, List.set_cons_zero, List.set_cons_succ]
        refine hSkip (i := 13) (some 30) rfl rfl (by kernel_rfl) (by kernel_rfl) (by kernel_rfl) (fun _ _ _ h => h) (by rfl) (by assumption) ?_
        try simp only [Act.put, List.setIfInBounds_toArray, List.set_cons_zero, List.set_cons_succ]
        refine hSkip (i := 14) (some 31) rfl rfl (by kernel_rfl) (by kernel_rfl) (by kernel_rfl) (fun _ _ _ h => h) (by rfl) (by assumption) ?_
        try simp only [Act.put, List.setIfInBounds_toArray, List.set_cons_zero, List.set_cons_succ]
        refine hTake (i := 15) (v := ?v15a) (some 32) rfl rfl (by kernel_rfl) (by kernel_rfl) (by kernel_rfl) (fun _ _ _ h => h) (by rfl) (by assumption) ?hy15a ?hn15a
        case hy15a => (intro w hSw; (try dsimp only at hSw); skip; go_simp; try with_reducible rfl)
        try simp only [Act.put, List.setIfInBounds_toArray, List.set_cons_zero, List.set_cons_succ]
        refine hTake (i := 16) (v := ?v16a) (some 5) rfl rfl (by kernel_rfl) (by kernel_rfl) (by kernel_rfl) (fun _ _ _ h => h) (by rfl) (by assumption) ?hy16a ?hn16a
        case hy16a => (intro w hSw; (try dsimp only at hSw); skip; go_simp; try with_reducible rfl)
        try simp only [Act.put, List.setIfInBounds_toArray, List.set_cons_zero, List.set_cons_succ]
        refine wpAnyH_done (by kernel_rfl) ?_ _
        generalize hVr : (wr.alloc (.cells #[.string x1, .string x2] 62)).drew = Vr at *
        clear hVr
        have HR4 : Hid ((Vr.alloc (.cells #[.string x1, .string x2, .bool false] 64)).ownsRow w.heap.size 64 3 (.slice a4 k c4) k (((l.take k).map wtOf).flatMap wtc)) := hide (HRow.out.alloc _)
        have HN4 := hide (heap_alloc_new Vr (.cells #[.string x1, .string x2, .bool false] 64))
        have HB4 : Hid (w.heap.size ≤ (Vr.alloc (.cells #[.string x1, .string x2, .bool false] 64)).heap.size) := hide (by have := HBr.out.size; rw [World.size_alloc]; omega)
        have HL4 : Hid (Below w.heap.size w (Vr.alloc (.cells #[.string x1, .string x2, .bool false] 64))) := hide (HBr.out.alloc HBr.out.size _)
        have y0 : Vr.cell? ⟨pb, 0, none⟩ = some (.string x1) := cell_blk HPB.out rfl
        have y1 : Vr.cell? ⟨pb, 1, none⟩ = some (.string x2) := cell_blk HPB.out rfl
        go_wp2_with (at_builtin; refine wpList_wr rfl _ _ rfl w.heap.size (.slice a4 k c4) k ((l.take k).map wtOf) rfl HR4.out Vr.heap.size ⟨x1, x2, false⟩ rfl HN4.out HBG.out HB4.out ?_)
        intro v9 w9 HN9
        obtain ⟨a9, c9, rfl⟩ := own_form HN9.out.1
        have HJ : Hid (Below w.heap.size w w9 ∧ w9.ownsRow w.heap.size 64 3 (.slice a9 (k + 1) c9) (k + 1) (((l.take (k + 1)).map wtOf).flatMap wtc)) := hide ⟨HL4.out.trans HN9.out.2.2, by rw [HTK.out]; have := HN9.out.1; simpa using this⟩
        have HRI : Hid ((List.range (k + 1)).all (riseAt l) = false) := hide (by rw [HRS.out]; simp [HRK.out])
        clear HN9 HR4 HN4 HB4 HL4 y0 y1
        go_wp2
        go_roundw
        case rel => exact ⟨k + 1, a9, c9, by omega, by simp, rfl, by rw [HRI.out], HJ⟩
        case measure => simp [intOf]; omega
      · have HRK := hide hrk
        clear hrk
        by_cases hk0 : k = 0
        · subst hk0
          simp only [Nat.zero_mul, Nat.add_zero] at z0 z1
          have HRV : Hid (((List.range 0).all (riseAt l) && riseAt l 0) = true) := hide (by rw [HRW.out]; simp)
          go_wp2_with fail
          generalize hpb : wr.heap.size = pb at *
          clear hpb
          refine wp_region_held_drew (S := (fun W' : World => W'.cell? ⟨pb, 0, none⟩ = some (.string x1))) (by kernel_rfl) ?hSb (fun hHeld => ?_)
          case hSb => exact (cell_blk HPB.out rfl)
          refine hTake (i := 0) (v := ?v0b) (some 17) rfl rfl (by kernel_rfl) (by kernel_rfl) (by kernel_rfl) (fun _ _ _ h => h) (by rfl) (by assumption) ?hy0b ?hn0b
          case hy0b => (intro w hSw; (try dsimp only at hSw); skip; go_simp; try with_reducible rfl)
          try simp only [Act.put, List.setIfInBounds_toArray, List.set_cons_zero, List.set_cons_succ]
          refine hTake (i := 1) (v := ?v1b) (some 18) rfl rfl (by kernel_rfl) (by kernel_rfl) (by kernel_rfl) (fun _ _ _ h => h) (by rfl) (by assumption) ?hy1b ?hn1b
          case hy1b => (intro w hSw; (try dsimp only at hSw); skip; go_simp; try with_reducible rfl)
          try simp only [Act.put, List.setIfInBounds_toArray, List.set_cons_zero, List.set_cons_succ]
          refine hTake (i := 2) (v := ?v2b) (some 19) rfl rfl (by kernel_rfl) (by kernel_rfl) (by kernel_rfl) (fun _ _ _ h => h) (by rfl) (by assumption) ?hy2b ?hn2b
          case hy2b => (intro w hSw; (try dsimp only at hSw); skip; go_simp; try with_reducible rfl)
          try simp only [Act.put, List.setIfInBounds_toArray, List.set_cons_zero, List.set_cons_succ]
          refine hTake (i := 3) (v := ?v3b) (some 20) rfl rfl (by kernel_rfl) (by kernel_rfl) (by kernel_rfl) (fun _ _ _ h => h) (by rfl) (by assumption) ?hy3b ?hn3b
          case hy3b => (intro w hSw; (try dsimp only at hSw); skip; go_simp; try with_reducible rfl)
          try simp only [Act.put, List.setIfInBounds_toArray, List.set_cons_zero, List.set_cons_succ]
          refine hTake (i := 4) (v := ?v4b) (some 21) rfl rfl (by kernel_rfl) (by kernel_rfl) (by kernel_rfl) (fun _ _ _ h => h) (by rfl) (by assumption) ?hy4b ?hn4b
          case hy4b => (intro w hSw; (try dsimp only at hSw); skip; go_simp; try with_reducible rfl)
          try simp only [Act.put, List.setIfInBounds_toArray, List.set_cons_zero, List.set_cons_succ]
          refine hSkip (i := 5) (some 22) rfl rfl (by kernel_rfl) (by kernel_rfl) (by kernel_rfl) (fun _ _ _ h => h) (by rfl) (by assumption) ?_
          try simp only [Act.put, List.setIfInBounds_toArray, List.set_cons_zero, List.set_cons_succ]
          refine hSkip (i := 6) (some 23) rfl rfl (by kernel_rfl) (by kernel_rfl) (by kernel_rfl) (fun _ _ _ h => h) (by rfl) (by assumption) ?_
          try simp only [Act.put, List.setIfInBounds_toArray, List.set_cons_zero, List.set_cons_succ]
          refine hSkip (i := 7) (some 24) rfl rfl (by kernel_rfl) (by kernel_rfl) (by kernel_rfl) (fun _ _ _ h => h) (by rfl) (by assumption) ?_
          try simp only [Act.put, List.setIfInBounds_toArray, List.set_cons_zero, List.set_cons_succ]
          refine hSkip (i := 8) (some 25) rfl rfl (by kernel_rfl) (by kernel_rfl) (by kernel_rfl) (fun _ _ _ h => h) (by rfl) (by assumption) ?_
          try simp only [Act.put, List.setIfInBounds_toArray, List.set_cons_zero, List.set_cons_succ]
          refine hSkip (i := 9) (some 26) rfl rfl (by kernel_rfl) (by kernel_rfl) (by kernel_rfl) (fun _ _ _ h => h) (by rfl) (by assumption) ?_
          try simp only [Act.put, List.setIfInBounds_toArray, List.set_cons_zero, List.set_cons_succ]
          refine hSkip (i := 10) (some 27) rfl rfl (by kernel_rfl) (by kernel_rfl) (by kernel_rfl) (fun _ _ _ h => h) (by rfl) (by assumption) ?_
          try simp only [Act.put, List.setIfInBounds_toArray, List.set_cons_zero, List.set_cons_succ]
          refine hSkip (i := 11) (some 28) rfl rfl (by kernel_rfl) (by kernel_rfl) (by kernel_rfl) (fun _ _ _ h => h) (by rfl) (by assumption) ?_
          try simp only [Act.put, List.setIfInBounds_toArray, List.set_cons_zero, List.set_cons_succ]
          refine hSkip (i := 12) (some 29) rfl rfl (by kernel_rfl) (by kernel_rfl) (by kernel_rfl) (fun _ _ _ h => h) (by rfl) (by assumption) ?_
          try simp only [Act.put, List.setIfInBounds_toArray, List.set_cons_zero, List.set_cons_succ]
          refine hSkip (i := 13) (some 30) rfl rfl (by kernel_rfl) (by kernel_rfl) (by kernel_rfl) (fun _ _ _ h => h) (by rfl) (by assumption) ?_
          try simp only [Act.put, List.setIfInBounds_toArray, List.set_cons_zero, List.set_cons_succ]
          refine hTake (i := 14) (v := ?v14b) (some 31) rfl rfl (by kernel_rfl) (by kernel_rfl) (by kernel_rfl) (fun _ _ _ h => h) (by rfl) (by assumption) ?hy14b ?hn14b
          case hy14b => (intro w hSw; (try dsimp only at hSw); skip; go_simp; try with_reducible rfl)
          try simp only [Act.put, List.setIfInBounds_toArray, List.set_cons_zero, List.set_cons_succ]
          refine hTake (i := 15) (v := ?v15b) (some 32) rfl rfl (by kernel_rfl) (by kernel_rfl) (by kernel_rfl) (fun _ _ _ h => h) (by rfl) (by assumption) ?hy15b ?hn15b
          case hy15b => (intro w hSw; (try dsimp only at hSw); skip; go_simp; try with_reducible rfl)
          try simp only [Act.put, List.setIfInBounds_toArray, List.set_cons_zero, List.set_cons_succ]
          refine hTake (i := 16) (v := ?v16b) (some 5) rfl rfl (by kernel_rfl) (by kernel_rfl) (by kernel_rfl) (fun _ _ _ h => h) (by rfl) (by assumption) ?hy16b ?hn16b
          case hy16b => (intro w hSw; (try dsimp only at hSw); skip; go_simp; try with_reducible rfl)
          try simp only [Act.put, List.setIfInBounds_toArray, List.set_cons_zero, List.set_cons_succ]
          refine wpAnyH_done (by kernel_rfl) ?_ _
          generalize hVr : (wr.alloc (.cells #[.string x1, .string x2] 62)).drew = Vr at *
          clear hVr
          have HR4 : Hid ((Vr.alloc (.cells #[.string x1, .string x2, .bool false] 64)).ownsRow w.heap.size 64 3 (.slice a4 0 c4) 0 (((l.take 0).map wtOf).flatMap wtc)) := hide (HRow.out.alloc _)
          have HN4 := hide (heap_alloc_new Vr (.cells #[.string x1, .string x2, .bool false] 64))
          have HB4 : Hid (w.heap.size ≤ (Vr.alloc (.cells #[.string x1, .string x2, .bool false] 64)).heap.size) := hide (by have := HBr.out.size; rw [World.size_alloc]; omega)
          have HL4 : Hid (Below w.heap.size w (Vr.alloc (.cells #[.string x1, .string x2, .bool false] 64))) := hide (HBr.out.alloc HBr.out.size _)
          have y0 : Vr.cell? ⟨pb, 0, none⟩ = some (.string x1) := cell_blk HPB.out rfl
          have y1 : Vr.cell? ⟨pb, 1, none⟩ = some (.string x2) := cell_blk HPB.out rfl
          go_wp2_with (at_builtin; refine wpList_wr rfl _ _ rfl w.heap.size (.slice a4 0 c4) 0 ((l.take 0).map wtOf) rfl HR4.out Vr.heap.size ⟨x1, x2, false⟩ rfl HN4.out HBG.out HB4.out ?_)
          intro v9 w9 HN9
          obtain ⟨a9, c9, rfl⟩ := own_form HN9.out.1
          have HJ : Hid (Below w.heap.size w w9 ∧ w9.ownsRow w.heap.size 64 3 (.slice a9 (0 + 1) c9) (0 + 1) (((l.take (0 + 1)).map wtOf).flatMap wtc)) := hide ⟨HL4.out.trans HN9.out.2.2, by rw [HTK.out]; have := HN9.out.1; simpa using this⟩
          have HRI : Hid ((List.range (0 + 1)).all (riseAt l) = true) := hide (by rw [HRS.out]; exact HRV.out)
          clear HN9 HR4 HN4 HB4 HL4 y0 y1
          go_wp2
          go_roundw
          case rel => exact ⟨0 + 1, a9, c9, by omega, by simp, rfl, by rw [HRI.out], HJ⟩
          case measure => simp [intOf]; omega
        · obtain ⟨j, rfl⟩ : ∃ j, k = j + 1 := ⟨k - 1, by omega⟩
          obtain ⟨b', off', e', _, u0, _⟩ := HLd.out.2.2.2 j (by omega)
          cases e'
          have hd0 : decide (((j + 1 : Nat) : Int) = 0) = false := decide_eq_false (by omega)
          have hd1 : (((j + 1 : Nat) : Int) == 0) = false := by simp; omega
          have hd2 : ((j : Int) + 1 == 0) = false := by simp; omega
          have hd3 : ¬ ((j : Int) + 1 = 0) := by omega
          have hwj : IntKind.i64.wrap ((j : Int) + 1 - 1) = (j : Int) := by rw [IntKind.wrap_i64]; omega
          have hwj2 : IntKind.i64.wrap (j : Int) = (j : Int) := by rw [IntKind.wrap_i64]; omega
          have hj0 : (0 : Int) ≤ (j : Int) := by omega
          have hjl : (j : Int) < (len : Int) := by omega
          have HRV : Hid (((List.range (j + 1)).all (riseAt l) && riseAt l (j + 1)) = Op.bytesLess (l.getD j Pr0).key.toList x1.toList) := hide (by rw [HRK.out, HRW.out]; simp)
          generalize (l.getD j Pr0).key = u1 at *
          go_wp2_with fail
          generalize hpb : wr.heap.size = pb at *
          clear hpb
          refine wp_region_held_drew (S := (fun W' : World => W'.cell? ⟨pb, 0, none⟩ = some (.string x1) ∧ W'.cell? ⟨b, off + j * 2, none⟩ = some (.string u1))) (by kernel_rfl) ?hSc (fun hHeld => ?_)
          case hSc => exact ⟨cell_blk HPB.out rfl, u0⟩
          refine hTake (i := 0) (v := ?v0c) (some 17) rfl rfl (by kernel_rfl) (by kernel_rfl) (by kernel_rfl) (fun _ _ _ h => h) (by rfl) (by assumption) ?hy0c ?hn0c
          case hy0c => (intro w hSw; (try dsimp only at hSw); skip; go_simp; try with_reducible rfl)
          try simp only [Act.put, List.setIfInBounds_toArray, List.set_cons_zero, List.set_cons_succ]
          refine hTake (i := 1) (v := ?v1c) (some 18) rfl rfl (by kernel_rfl) (by kernel_rfl) (by kernel_rfl) (fun _ _ _ h => h) (by rfl) (by assumption) ?hy1c ?hn1c
          case hy1c => (intro w hSw; (try dsimp only at hSw); skip; go_simp; try with_reducible rfl)
          try simp only [Act.put, List.setIfInBounds_toArray, List.set_cons_zero, List.set_cons_succ]
          refine hTake (i := 2) (v := ?v2c) (some 19) rfl rfl (by kernel_rfl) (by kernel_rfl) (by kernel_rfl) (fun _ _ _ h => h) (by rfl) (by assumption) ?hy2c ?hn2c
          case hy2c => (intro w hSw; (try dsimp only at hSw); skip; go_simp; try with_reducible rfl)
          try simp only [Act.put, List.setIfInBounds_toArray, List.set_cons_zero, List.set_cons_succ]
          refine hTake (i := 3) (v := ?v3c) (some 20) rfl rfl (by kernel_rfl) (by kernel_rfl) (by kernel_rfl) (fun _ _ _ h => h) (by rfl) (by assumption) ?hy3c ?hn3c
          case hy3c => (intro w hSw; (try dsimp only at hSw); skip; go_simp; try with_reducible rfl)
          try simp only [Act.put, List.setIfInBounds_toArray, List.set_cons_zero, List.set_cons_succ]
          refine hTake (i := 4) (v := ?v4c) (some 21) rfl rfl (by kernel_rfl) (by kernel_rfl) (by kernel_rfl) (fun _ _ _ h => h) (by rfl) (by assumption) ?hy4c ?hn4c
          case hy4c => (intro w hSw; (try dsimp only at hSw); skip; go_simp; try with_reducible rfl)
          try simp only [Act.put, List.setIfInBounds_toArray, List.set_cons_zero, List.set_cons_succ]
          refine hTake (i := 5) (v := ?v5c) (some 22) rfl rfl (by kernel_rfl) (by kernel_rfl) (by kernel_rfl) (fun _ _ _ h => h) (by rfl) (by assumption) ?hy5c ?hn5c
          case hy5c => (intro w hSw; (try dsimp only at hSw); skip; go_simp; try with_reducible rfl)
          try simp only [Act.put, List.setIfInBounds_toArray, List.set_cons_zero, List.set_cons_succ]
          refine hTake (i := 6) (v := ?v6c) (some 23) rfl rfl (by kernel_rfl) (by kernel_rfl) (by kernel_rfl) (fun _ _ _ h => h) (by rfl) (by assumption) ?hy6c ?hn6c
          case hy6c => (intro w hSw; (try dsimp only at hSw); skip; go_simp; try with_reducible rfl)
          try simp only [Act.put, List.setIfInBounds_toArray, List.set_cons_zero, List.set_cons_succ]
          refine hTake (i := 7) (v := ?v7c) (some 24) rfl rfl (by kernel_rfl) (by kernel_rfl) (by kernel_rfl) (fun _ _ _ h => h) (by rfl) (by assumption) ?hy7c ?hn7c
          case hy7c => (intro w hSw; (try dsimp only at hSw); skip; go_simp; try with_reducible rfl)
          try simp only [Act.put, List.setIfInBounds_toArray, List.set_cons_zero, List.set_cons_succ]
          refine hTake (i := 8) (v := ?v8c) (some 25) rfl rfl (by kernel_rfl) (by kernel_rfl) (by kernel_rfl) (fun _ _ _ h => h) (by rfl) (by assumption) ?hy8c ?hn8c
          case hy8c => (intro w hSw; (try dsimp only at hSw); skip; go_simp; try with_reducible rfl)
          try simp only [Act.put, List.setIfInBounds_toArray, List.set_cons_zero, List.set_cons_succ]
          refine hTake (i := 9) (v := ?v9c) (some 26) rfl rfl (by kernel_rfl) (by kernel_rfl) (by kernel_rfl) (fun _ _ _ h => h) (by rfl) (by assumption) ?hy9c ?hn9c
          case hy9c => (intro w hSw; (try dsimp only at hSw); skip; go_simp; try with_reducible rfl)
          try simp only [Act.put, List.setIfInBounds_toArray, List.set_cons_zero, List.set_cons_succ]
          refine hTake (i := 10) (v := ?v10c) (some 27) rfl rfl (by kernel_rfl) (by kernel_rfl) (by kernel_rfl) (fun _ _ _ h => h) (by rfl) (by assumption) ?hy10c ?hn10c
          case hy10c => (intro w hSw; (try dsimp only at hSw); skip; go_simp; try with_reducible rfl)
          try simp only [Act.put, List.setIfInBounds_toArray, List.set_cons_zero, List.set_cons_succ]
          refine hTake (i := 11) (v := ?v11c) (some 28) rfl rfl (by kernel_rfl) (by kernel_rfl) (by kernel_rfl) (fun _ _ _ h => h) (by rfl) (by assumption) ?hy11c ?hn11c
          case hy11c => (intro w hSw; (try dsimp only at hSw); skip; go_simp; try with_reducible rfl)
          try simp only [Act.put, List.setIfInBounds_toArray, List.set_cons_zero, List.set_cons_succ]
          refine hTake (i := 12) (v := ?v12c) (some 29) rfl rfl (by kernel_rfl) (by kernel_rfl) (by kernel_rfl) (fun _ _ _ h => h) (by rfl) (by assumption) ?hy12c ?hn12c
          case hy12c => (intro w hSw; (try dsimp only at hSw); skip; go_simp; try with_reducible rfl)
          try simp only [Act.put, List.setIfInBounds_toArray, List.set_cons_zero, List.set_cons_succ]
          refine hTake (i := 13) (v := ?v13c) (some 30) rfl rfl (by kernel_rfl) (by kernel_rfl) (by kernel_rfl) (fun _ _ _ h => h) (by rfl) (by assumption) ?hy13c ?hn13c
          case hy13c => (intro w hSw; (try dsimp only at hSw); skip; go_simp; try with_reducible rfl)
          try simp only [Act.put, List.setIfInBounds_toArray, List.set_cons_zero, List.set_cons_succ]
          refine hTake (i := 14) (v := ?v14c) (some 31) rfl rfl (by kernel_rfl) (by kernel_rfl) (by kernel_rfl) (fun _ _ _ h => h) (by rfl) (by assumption) ?hy14c ?hn14c
          case hy14c => (intro w hSw; (try dsimp only at hSw); skip; go_simp; try with_reducible rfl)
          try simp only [Act.put, List.setIfInBounds_toArray, List.set_cons_zero, List.set_cons_succ]
          refine hTake (i := 15) (v := ?v15c) (some 32) rfl rfl (by kernel_rfl) (by kernel_rfl) (by kernel_rfl) (fun _ _ _ h => h) (by rfl) (by assumption) ?hy15c ?hn15c
          case hy15c => (intro w hSw; (try dsimp only at hSw); skip; go_simp; try with_reducible rfl)
          try simp only [Act.put, List.setIfInBounds_toArray, List.set_cons_zero, List.set_cons_succ]
          refine hTake (i := 16) (v := ?v16c) (some 5) rfl rfl (by kernel_rfl) (by kernel_rfl) (by kernel_rfl) (fun _ _ _ h => h) (by rfl) (by assumption) ?hy16c ?hn16c
          case hy16c => (intro w hSw; (try dsimp only at hSw); skip; go_simp; try with_reducible rfl)
          try simp only [Act.put, List.setIfInBounds_toArray, List.set_cons_zero, List.set_cons_succ]
          refine wpAnyH_done (by kernel_rfl) ?_ _
          generalize hVr : (wr.alloc (.cells #[.string x1, .string x2] 62)).drew = Vr at *
          clear hVr
          have HR4 : Hid ((Vr.alloc (.cells #[.string x1, .string x2, .bool false] 64)).ownsRow w.heap.size 64 3 (.slice a4 (j + 1) c4) (j + 1) (((l.take (j + 1)).map wtOf).flatMap wtc)) := hide (HRow.out.alloc _)
          have HN4 := hide (heap_alloc_new Vr (.cells #[.string x1, .string x2, .bool false] 64))
          have HB4 : Hid (w.heap.size ≤ (Vr.alloc (.cells #[.string x1, .string x2, .bool false] 64)).heap.size) := hide (by have := HBr.out.size; rw [World.size_alloc]; omega)
          have HL4 : Hid (Below w.heap.size w (Vr.alloc (.cells #[.string x1, .string x2, .bool false] 64))) := hide (HBr.out.alloc HBr.out.size _)
          have y0 : Vr.cell? ⟨pb, 0, none⟩ = some (.string x1) := cell_blk HPB.out rfl
          have y1 : Vr.cell? ⟨pb, 1, none⟩ = some (.string x2) := cell_blk HPB.out rfl
          go_wp2_with (at_builtin; refine wpList_wr rfl _ _ rfl w.heap.size (.slice a4 (j + 1) c4) (j + 1) ((l.take (j + 1)).map wtOf) rfl HR4.out Vr.heap.size ⟨x1, x2, false⟩ rfl HN4.out HBG.out HB4.out ?_)
          intro v9 w9 HN9
          obtain ⟨a9, c9, rfl⟩ := own_form HN9.out.1
          have HJ : Hid (Below w.heap.size w w9 ∧ w9.ownsRow w.heap.size 64 3 (.slice a9 ((j + 1) + 1) c9) ((j + 1) + 1) (((l.take ((j + 1) + 1)).map wtOf).flatMap wtc)) := hide ⟨HL4.out.trans HN9.out.2.2, by rw [HTK.out]; have := HN9.out.1; simpa using this⟩
          have HRI : Hid ((List.range ((j + 1) + 1)).all (riseAt l) = Op.bytesLess u1.toList x1.toList) := hide (by rw [HRS.out]; exact HRV.out)
          clear HN9 HR4 HN4 HB4 HL4 y0 y1
          go_wp2
          go_roundw
          case rel => exact ⟨(j + 1) + 1, a9, c9, by omega, by simp, rfl, by rw [HRI.out], HJ⟩
          case measure => simp [intOf]; omega
    · obtain rfl : k = len := by omega
      have HTL : Hid (l.take k = l) := hide (by rw [← HLN.out, List.take_length])
      rw [HTL.out] at HI
      have HRB : Hid (riseB l = (List.range k).all (riseAt l)) := hide (by unfold riseB; rw [HLN.out])
      have hwt : ¬ (k : Int) < (k : Int) := by omega
      generalize (List.range k).all (riseAt l) = rb at *
      have HIW := hide (own_isW (by simp [HLN.out]) HI.out.2)
      have HBE := hide HI.out.1
      have HNE : Hid (newE l = if (putR 1 [] (l.map wtOf) 1).2.2 = 3 ∨ (putR 1 [] (l.map wtOf) 1).2.2 = 4 then (putR 1 [] (l.map wtOf) 1).2.2 else if riseB l = true then 0 else 2) := hide rfl
      have HNM : Hid (newM l = ⟨(putR 1 [] (l.map wtOf) 1).2.1, (putR 1 [] (l.map wtOf) 1).1, 1, 0, []⟩) := hide rfl
      have HP : Hid (Calls Tryz.prog 39 #[.agg #[.slice none 0 0, .int .u64 1], .slice a4 k c4, .int .u64 1] wr fun e w' => ∃ a' c', e = .returned (.tuple #[.agg #[.slice a' (putR 1 [] (l.map wtOf) 1).1.length c', .int .u64 ((putR 1 [] (l.map wtOf) 1).2.1 : Nat)], .int .i64 (putR 1 [] (l.map wtOf) 1).2.2]) ∧ IsV w' a' (putR 1 [] (l.map wtOf) 1).1.length c' (putR 1 [] (l.map wtOf) 1).1 ∧ Below wr.heap.size wr w' ∧ ∀ b off, a' = some ⟨b, off, none⟩ → wr.heap.size ≤ b) := hide (put_any none 0 0 1 [] a4 k c4 (l.map wtOf) 1 wr (isV_none wr) HIW.out)
      generalize putR 1 [] (l.map wtOf) 1 = R at *
      obtain ⟨R1, R2, R3⟩ := R
      dsimp only at HP HNE HNM
      rw [HRB.out] at HNE
      clear HI HIW HTL
      go_wp2_with fail
      refine HP.out.mono ?_
      rintro e wA ⟨a5, c5, rfl, hI5, hb5, hn5⟩
      have HI5 := hide hI5
      have HB5 := hide (HBE.out.trans (hb5.mono HBE.out.size))
      have HBX : Hid (Below w.heap.size w (wA.alloc (.cells #[.slice a5 R1.length c5, .int .u64 (R2 : Nat)] 31))) := hide (HB5.out.alloc HB5.out.size _)
      have HN5 : Hid (∀ b off, a5 = some ⟨b, off, none⟩ → w.heap.size ≤ b) := hide (fun b off e => Nat.le_trans HBE.out.size (hn5 b off e))
      clear hI5 hb5 hn5 HP
      generalize R1.length = nR at *
      by_cases h3 : R3 = 3
      · subst h3
        have HE : Hid (newE l = 3) := hide (by rw [HNE.out, if_pos (.inl rfl)])
        go_wp2
        go_ret2
        exact ⟨_, by rw [HE.out]; rfl, fun h => (by rw [HE.out] at h; cases h), fun _ => rfl, HBX.out⟩
      · by_cases h4 : R3 = 4
        · subst h4
          have HE : Hid (newE l = 4) := hide (by rw [HNE.out, if_pos (.inr rfl)])
          go_wp2
          go_ret2
          exact ⟨_, by rw [HE.out]; rfl, fun h => (by rw [HE.out] at h; cases h), fun _ => rfl, HBX.out⟩
        · have HNE2 : Hid (newE l = if rb = true then 0 else 2) := hide (by rw [HNE.out, if_neg (fun h => h.elim h3 h4)])
          have t3 : (R3 == 3) = false := by simpa using h3
          have t4 : (R3 == 4) = false := by simpa using h4
          have d3 : decide (R3 = 3) = false := decide_eq_false h3
          have d4 : decide (R3 = 4) = false := decide_eq_false h4
          cases rb
          · have HE : Hid (newE l = 2) := hide (by rw [HNE2.out]; rfl)
            go_wp2
            go_ret2
            exact ⟨_, by rw [HE.out]; rfl, fun h => (by rw [HE.out] at h; cases h), fun _ => rfl, HBX.out⟩
          · have HE : Hid (newE l = 0) := hide (by rw [HNE2.out]; rfl)
            have hmm : ∀ W : World, (Instr.makeMap 95 none).run Tryz.prog W = .ok (.map (some W.heap.size)) (W.alloc (.map #[] 0)) := fun _ => rfl
            have HFIN : Hid (IsM (((wA.alloc (.cells #[.slice a5 nR c5, .int .u64 (R2 : Nat)] 31)).alloc (.map #[] 0)).alloc (.cells #[.slice a5 nR c5, .int .u64 (R2 : Nat), .int .u64 1, .int .i64 0, .map (some (wA.heap.size + 1))] 97)) (wA.heap.size + 1 + 1) (wA.heap.size + 1) [] (newM l) ∧ Below w.heap.size w (((wA.alloc (.cells #[.slice a5 nR c5, .int .u64 (R2 : Nat)] 31)).alloc (.map #[] 0)).alloc (.cells #[.slice a5 nR c5, .int .u64 (R2 : Nat), .int .u64 1, .int .i64 0, .map (some (wA.heap.size + 1))] 97))) := hide (by
              have hs1 : (wA.alloc (.cells #[.slice a5 nR c5, .int .u64 (R2 : Nat)] 31)).heap.size = wA.heap.size + 1 := World.size_alloc _ _
              have hs2 : ((wA.alloc (.cells #[.slice a5 nR c5, .int .u64 (R2 : Nat)] 31)).alloc (.map #[] 0)).heap.size = wA.heap.size + 1 + 1 := by rw [World.size_alloc, hs1]
              have hb1 : Below wA.heap.size wA (wA.alloc (.cells #[.slice a5 nR c5, .int .u64 (R2 : Nat)] 31)) := (Below.refl _ wA).alloc (Nat.le_refl _) _
              have hb2 := hb1.alloc hb1.size (.map #[] 0)
              have hb3 := hb2.alloc hb2.size (.cells #[.slice a5 nR c5, .int .u64 (R2 : Nat), .int .u64 1, .int .i64 0, .map (some (wA.heap.size + 1))] 97)
              refine ⟨?_, HB5.out.trans (hb3.mono HB5.out.size)⟩
              rw [HNM.out]
              refine new_isM ?_ (HI5.out.below hb3) ?_ (fun b off h0 e => ?_)
              · have := heap_alloc_new ((wA.alloc (.cells #[.slice a5 nR c5, .int .u64 (R2 : Nat)] 31)).alloc (.map #[] 0)) (.cells #[.slice a5 nR c5, .int .u64 (R2 : Nat), .int .u64 1, .int .i64 0, .map (some (wA.heap.size + 1))] 97)
                rw [hs2] at this
                exact this
              · have := World.ownsMap_made (wA.alloc (.cells #[.slice a5 nR c5, .int .u64 (R2 : Nat)] 31)) Tryz.prog 3 heldR
                rw [hs1] at this
                exact World.ownsMap.alloc this _
              · obtain ⟨b', off', e', hlt', _⟩ := HI5.out.2.2.2 0 h0
                rw [e] at e'
                cases e'
                omega)
            have HVN : Hid (∀ b, VB (((wA.alloc (.cells #[.slice a5 nR c5, .int .u64 (R2 : Nat)] 31)).alloc (.map #[] 0)).alloc (.cells #[.slice a5 nR c5, .int .u64 (R2 : Nat), .int .u64 1, .int .i64 0, .map (some (wA.heap.size + 1))] 97)) (wA.heap.size + 1 + 1) b → w.heap.size ≤ b) := hide (fun b h => by
              have hg := heap_alloc_new ((wA.alloc (.cells #[.slice a5 nR c5, .int .u64 (R2 : Nat)] 31)).alloc (.map #[] 0)) (.cells #[.slice a5 nR c5, .int .u64 (R2 : Nat), .int .u64 1, .int .i64 0, .map (some (wA.heap.size + 1))] 97)
              rw [show ((wA.alloc (.cells #[.slice a5 nR c5, .int .u64 (R2 : Nat)] 31)).alloc (.map #[] 0)).heap.size = wA.heap.size + 1 + 1 by rw [World.size_alloc, World.size_alloc]] at hg
              obtain ⟨_, off, e⟩ := h.at hg
              exact HN5.out b off e)
            have HSZ : Hid (w.heap.size ≤ wA.heap.size) := hide HB5.out.size
            clear HI5 HB5 HBX HNM
            go_wp2
            go_ret2
            exact ⟨_, by rw [HE.out]; rfl, fun _ => ⟨wA.heap.size + 1 + 1, wA.heap.size + 1, rfl, HFIN.out.1, by have := HSZ.out; omega, by have := HSZ.out; omega, HVN.out⟩, fun h => absurd HE.out h, HFIN.out.2⟩
end Go.Proofs.YtlkmcbelmldleaaGreat
/- writes that are one; SameWrites -/
namespace Go.Proofs.YtlkmcbelmldleaaGreat
open Go.RowKit
set_option maxRecDepth 40000
def eqW (x y : Wt) : Bool := (x.key.toList == y.key.toList) && ((x.val.toList == y.val.toList) && (x.gone == y.gone))
theorem eqW_iff (x y : Wt) : eqW x y = true ↔ x = y := by
  obtain ⟨a1, a3, a4⟩ := x
  obtain ⟨b1, b3, b4⟩ := y
  simp only [eqW, Bool.and_eq_true, beq_iff_eq, Wt.mk.injEq]
  constructor
  · rintro ⟨h1, h3, h4⟩
    exact ⟨str_inj h1, str_inj h3, h4⟩
  · rintro ⟨rfl, rfl, rfl⟩
    exact ⟨rfl, rfl, rfl⟩
theorem struct64 : Tryz.prog.underlying 64 = some (.struct (Tryz.prog.fieldsOf 64)) := by kernel_rfl
theorem stood64 : Tryz.prog.stoodInHeld 64 = false := by kernel_rfl
theorem guard64 : Tryz.prog.eqGuardType Tryz.prog.depth 64 = false := by kernel_rfl
theorem equal64 (a1 a3 : ByteArray) (a4 : Bool) (b1 b3 : ByteArray) (b4 : Bool) (w : World) :
    (Op.equalIn 10000 64 (.agg #[.string a1, .string a3, .bool a4]) (.agg #[.string b1, .string b3, .bool b4])).run Tryz.prog w = .ok (eqW ⟨a1, a3, a4⟩ ⟨b1, b3, b4⟩) w := by
  have u9 := Tryz.underlying9
  have a9 := Tryz.isAgg9
  have z9 := Tryz.sizeOf9
  have u4 := Tryz.underlying4
  have a4' := Tryz.isAgg4
  have z4 := Tryz.sizeOf4
  rw [show (10000 : Nat) = 9999 + 1 from rfl, run_equalIn_agg w 9999 64 _ _ struct64 stood64]
  simp only [Program.fieldsOf, Tryz.underlying64]
  go_simp
  simp only [eqW]
  by_cases h1 : a1.toList = b1.toList <;> by_cases h3 : a3.toList = b3.toList <;> by_cases h4 : a4 = b4 <;> simp [h1, h3, h4]
theorem eqg64 (op : BinOp) (a b : Operand) (xs ys : Array Value) (w : World) : (eqGuard op 64 a b (.agg xs) (.agg ys)).run Tryz.prog w = .ok () w := run_eqGuard_agg w op 64 a b xs ys guard64
set_option maxRecDepth 40000 in
set_option maxHeartbeats 1000000 in
/-- the document's Same, of writes -/
theorem sameW_any (a : Option Addr) (len cap : Nat) (l : List Wt) (a' : Option Addr) (len' cap' : Nat) (l' : List Wt) (w : World) (h : IsW w a len cap l) (h' : IsW w a' len' cap' l') :
    Calls Tryz.prog 16 #[.slice a len cap, .slice a' len' cap'] w fun e w' => (∃ r, e = .returned (.bool r) ∧ (r = true ↔ l = l')) ∧ Below w.heap.size w w' := by
  have HV := hide h
  have HV' := hide h'
  have HLN := hide h.1
  have HLN' := hide h'.1
  have hcap := h.2.1
  have hcm : cap ≤ 9223372036854775807 := h.2.2.1
  have hcap' := h'.2.1
  have hcm' : cap' ≤ 9223372036854775807 := h'.2.2.1
  have hq := @equal64
  have hqg := @eqg64
  clear h h'
  by_cases hne : len = len'
  case neg =>
    go_enter Tryz.func16, Tryz.ntmps16
    go_wp2
    go_ret
    exact ⟨⟨false, rfl, by simp; intro e; apply hne; rw [← HLN.out, ← HLN'.out, e]⟩, Below.refl _ _⟩
  case pos =>
    subst hne
    go_enter Tryz.func16, Tryz.ntmps16
    go_wp2
    go_loopw [13] (fun i wr => ∃ k : Nat, k ≤ len ∧ i = .int .i64 k ∧ Hid (∀ j, j < k → l.getD j Wt0 = l'.getD j Wt0) ∧ Hid (Below w.heap.size w wr)) (fun i _ => len - (intOf i).toNat)
    case atStart => exact ⟨0, Nat.zero_le _, rfl, hide (fun j hj => by omega), hide (Below.refl _ _)⟩
    case round =>
      obtain ⟨k, hk, rfl, HA, HB⟩ := hrel
      by_cases hlt : k < len
      case neg =>
        obtain rfl : k = len := by omega
        go_wp2
        go_ret
        exact ⟨⟨true, rfl, by simp; exact ext_of Wt0 (HLN.out.trans HLN'.out.symm) (fun i hi => HA.out i (by rw [← HLN.out]; exact hi))⟩, HB.out⟩
      case pos =>
        obtain ⟨b, off, rfl, hbs, z0, z1, z2⟩ := (HV.out.below HB.out).2.2.2 k hlt
        obtain ⟨b', off', rfl, hbs', y0, y1, y2⟩ := (HV'.out.below HB.out).2.2.2 k hlt
        generalize hx : l.getD k Wt0 = x at *
        generalize hy : l'.getD k Wt0 = y at *
        have HX := hide hx
        have HY := hide hy
        have HSB := hide (eqW_iff x y)
        clear hx hy
        obtain ⟨x1, x2, x3⟩ := x
        obtain ⟨t1, t2, t3⟩ := y
        dsimp only at z0 z1 z2 y0 y1 y2
        have HBD : Hid (Below w.heap.size w wr.drew) := hide HB.out.drew
        have HS : Hid (wr.drew.cell? ⟨b, off + k * 3, none⟩ = some (.string x1) ∧ wr.drew.cell? ⟨b, off + k * 3 + 1, none⟩ = some (.string x2) ∧ wr.drew.cell? ⟨b, off + k * 3 + 2, none⟩ = some (.bool x3) ∧ wr.drew.cell? ⟨b', off' + k * 3, none⟩ = some (.string t1) ∧ wr.drew.cell? ⟨b', off' + k * 3 + 1, none⟩ = some (.string t2) ∧ wr.drew.cell? ⟨b', off' + k * 3 + 2, none⟩ = some (.bool t3)) := hide ⟨z0, z1, z2, y0, y1, y2⟩
        have hkc : (k : Int) < len := by omega
        have hk0 : (0 : Int) ≤ (k : Int) := by omega
        go_wp2_with fail
        go_region_held (fun W : World => W.cell? ⟨b, off + k * 3, none⟩ = some (.string x1) ∧ W.cell? ⟨b, off + k * 3 + 1, none⟩ = some (.string x2) ∧ W.cell? ⟨b, off + k * 3 + 2, none⟩ = some (.bool x3) ∧ W.cell? ⟨b', off' + k * 3, none⟩ = some (.string t1) ∧ W.cell? ⟨b', off' + k * 3 + 1, none⟩ = some (.string t2) ∧ W.cell? ⟨b', off' + k * 3 + 2, none⟩ = some (.bool t3)) (exact HS.out) (fail)
        generalize eqW ⟨x1, x2, x3⟩ ⟨t1, t2, t3⟩ = sb at *
        cases sb
        · go_wp2
          go_ret
          exact ⟨⟨false, rfl, by simp; intro e; have h1 := HX.out; rw [e, HY.out] at h1; exact absurd (HSB.out.2 h1.symm) (by simp)⟩, HBD.out⟩
        · go_wp2
          go_roundw
          case rel => exact ⟨k + 1, by omega, by simp, hide (fun j hj => by
            by_cases e : j = k
            · rw [e, HX.out, HY.out]; exact HSB.out.1 rfl
            · exact HA.out j (by omega)), HBD⟩
          case measure => simp [intOf]; omega
end Go.Proofs.YtlkmcbelmldleaaGreat
/- lives: what the answers are -/
namespace Go.Proofs.YtlkmcbelmldleaaGreat
open Go.RowKit
set_option maxRecDepth 40000
set_option linter.unusedSimpArgs false
abbrev lA : ByteArray := ⟨#[97]⟩
abbrev l1 : ByteArray := ⟨#[49]⟩
abbrev l2 : ByteArray := ⟨#[50]⟩
abbrev l3 : ByteArray := ⟨#[51]⟩
abbrev lA0 : ByteArray := lA ++ ⟨#[0]⟩
def lvs : List Vr := [⟨lA, 1, l1, false⟩]
def lvs2 : List Vr := [⟨lA, 1, l1, false⟩, ⟨lA, 2, l2, false⟩]
theorem lv_put : putR 1 [] [⟨lA, l1, false⟩] 1 = (lvs, 1, 0) := by
  simp [lvs, putR, refE, goodB, okAt, twiceB, timeB, lateB, longB, putL, withL, vOf, upTo, ByteArray.toList_eq, Op.bytesLess, ByteArray.size]
theorem lv_new : newE [⟨lA, l1⟩] = 0 ∧ newM [⟨lA, l1⟩] = ⟨1, lvs, 1, 0, []⟩ := by
  have e : [(⟨lA, l1⟩ : Pr)].map wtOf = [⟨lA, l1, false⟩] := rfl
  have hr : riseB [⟨lA, l1⟩] = true := by simp [riseB, riseAt, List.range, List.range.loop]
  refine ⟨?_, ?_⟩
  · unfold newE
    rw [e, lv_put, hr]
    simp
  · unfold newM
    rw [e, lv_put]
theorem lv_good : goodB 1 lvs = true := by
  simp [lvs, goodB, okAt, rightB, behindB, timeB, ByteArray.toList_eq, Op.bytesLess, ByteArray.size, List.range, List.range.loop]
theorem lv_good2 : goodB 1 lvs2 = true := by
  simp [lvs2, goodB, okAt, rightB, behindB, timeB, ByteArray.toList_eq, Op.bytesLess, ByteArray.size, List.range, List.range.loop]
theorem lv_get : getR 1 lvs lA 1 = (l1, true, 0) := by
  have h : askE 1 lvs 1 = 0 := by simp [askE, lv_good]
  simp only [getR, h, if_true]
  simp [lvs, sameK, lastTo, seenR, ByteArray.toList_eq]
theorem lv_put2 : putR 1 lvs [⟨lA, l2, false⟩] 2 = (lvs2, 1, 0) := by
  have h : refE 1 lvs [⟨lA, l2, false⟩] 2 = 0 := by
    simp only [refE, lv_good, if_true]
    simp [lvs, twiceB, timeB, lateB, longB, ByteArray.toList_eq, ByteArray.size]
  simp only [putR, h, if_true]
  simp [lvs, lvs2, putL, withL, vOf, upTo, ByteArray.toList_eq, Op.bytesLess]
theorem lv_sweep : sweepR 1 lvs2 1 = (lvs2, 1, 0) := by
  have h : sweepE 1 lvs2 1 = 0 := by simp [sweepE, lv_good2]
  simp only [sweepR, h, if_true]
  simp [lvs2, gpsOf, gps, sweepG, needL, dropOld, sameK, ByteArray.toList_eq]
theorem lA0_list : lA0.toList = [97, 0] := by
  rw [ByteArray.toList_eq]; rfl
theorem lA_list : lA.toList = [97] := by
  rw [ByteArray.toList_eq]
theorem lv_in : inSp (lA, lA0) lA = true := by
  have h0 : (lA, lA0).2.toList = [97, 0] := lA0_list
  have h1 : (lA, lA0).1.toList = [97] := lA_list
  unfold inSp
  rw [h0, h1]
  rfl
/-- a transaction of lives: it has read, it writes -/
def lvT (v : ByteArray) : Tr := ⟨1, [(lA, lA0)], [⟨lA, v, false⟩]⟩
theorem lv_conf (v : ByteArray) : conflB lvs (lvT v) = false := by simp [conflB, lvs, hitB, lvT]
theorem lv_conf2 (v : ByteArray) : conflB lvs2 (lvT v) = true := by
  have : hitB (lvT v) ⟨lA, 2, l2, false⟩ = true := by
    unfold hitB
    simp only [lvT, List.any_cons, lv_in]
    simp
  simp only [conflB, lvs2, List.any_cons, this]
  simp
def lM1 : Mg := ⟨1, lvs, 1, 2, [(1, ⟨1, [], []⟩), (2, ⟨1, [], []⟩)]⟩
def lM2 : Mg := ⟨1, lvs, 1, 2, [(1, lvT l2), (2, lvT l3)]⟩
def lM3 : Mg := ⟨1, lvs2, 2, 2, [(2, lvT l3)]⟩
theorem lv_com : comE lM2 (lvT l2) = 0 ∧ comW lM2 (lvT l2) = [⟨lA, l2, false⟩] ∧ comT lM2 (lvT l2) = 2 ∧ (comM lM2 (lvT l2)).ended 0 = lM3 := by
  have h1 : conflB lM2.vs (lvT l2) = false := lv_conf l2
  have h2 : putR lM2.low lM2.vs (lvT l2).ws (lM2.now + 1) = (lvs2, 1, 0) := lv_put2
  have h3 : ¬ (lvT l2).ws = [] := by simp [lvT]
  have e1 : comE lM2 (lvT l2) = 0 := by unfold comE; rw [h1, h2]; simp [h3]
  have e2 : comM lM2 (lvT l2) = ⟨1, lvs2, 2, 2, [(1, lvT l2), (2, lvT l3)]⟩ := by
    unfold comM
    rw [if_neg (by rw [h1, h2]; simp [h3]), h2]
    rfl
  refine ⟨e1, ?_, ?_, ?_⟩
  · unfold comW; rw [if_pos e1]; rfl
  · unfold comT; rw [if_pos e1, e2]
  · rw [e2]
    unfold Mg.ended
    have e3 : sweepR 1 lvs2 (lowOf 2 ([(1, lvT l2), (2, lvT l3)].eraseIdx 0)) = (lvs2, 1, 0) := lv_sweep
    simp only [e3]
    rfl
theorem lv_com2 : comE lM3 (lvT l3) = 10 := if_pos (lv_conf2 l3)
end Go.Proofs.YtlkmcbelmldleaaGreat
/- Get -/
namespace Go.Proofs.YtlkmcbelmldleaaGreat
open Go.RowKit
open Go.Maps (Keyed has size)
set_option maxRecDepth 40000
theorem info127 : (Tryz.prog.info? 127).map (fun i => (i.zero, i.size, i.bytes)) = some (some (.agg #[.string ⟨#[]⟩, .string ⟨#[]⟩]), 2, 32) := by kernel_rfl
theorem spc_news {w : World} {b : Nat} (x : Sp) (h : w.heap[b]? = some (.cells #[.string x.1, .string x.2] 127 (0, 0))) : ∀ j u, (spc x)[j]? = some u → w.cell? ((⟨b, 0, none⟩ : Addr).add j) = some u := by
  intro j u hj
  rw [Addr.add_lit, Nat.zero_add]
  refine cell_blk h ?_
  simpa using hj
theorem spc_one (x : Sp) : ∀ u ∈ spc x, u.oneCell' = true := by
  intro u hu
  simp only [List.mem_cons, List.not_mem_nil, or_false] at hu
  rcases hu with rfl | rfl <;> rfl
/-- append of one span to a transaction's reads -/
theorem wpList_span {w : World} {ops : Array Oper} {rest : List Oper} {o : Oper} {a : Act} {Q : Exit → Act → World → Prop} (hgd : o.guard = none) (s x : Operand)
    (ho : o.op = .call { callee := .builtin .append, args := #[s, x], argTypes := #[123, 123] }) (v : Value) (n : Nat) (xs : List Sp) (hs : a.eval s = v) (hown : w.ownsRow 0 127 2 v n (xs.flatMap spc))
    (b : Nat) (y : Sp) (hx : a.eval x = .slice (some ⟨b, 0, none⟩) 1 1) (hB : w.heap[b]? = some (.cells #[.string y.1, .string y.2] 127 (0, 0))) (hb : n ≤ 256)
    (h : ∀ v' w', Hid (w'.ownsRow 0 127 2 v' (n + 1) ((xs ++ [y]).flatMap spc) ∧ w.grownBy w' v.ownBlock ∧ (v'.ownBlock = v.ownBlock ∨ v'.ownBlock = some w.heap.size)) → wpList Tryz.prog ops Q rest (a.put o.dst v') w') : wpList Tryz.prog ops Q (o :: rest) a w := by
  obtain ⟨i0, hi, hz0, hz1, hz2⟩ := info_parts info127
  obtain ⟨v', w', hrun, q1, q2, _, q3⟩ := run_append_own_at (w := w) 0 123 o.type 127 i0 _ 2 32 Tryz.underlying123 hi hz0 hz1 hz2 rfl (by decide) v n _ hown _ 1 1 (spc y) rfl (spc_news y hB) (spc_one y) (by unfold maxLen; omega) (by omega) (Nat.zero_le _)
  exact wpList_plain hgd fun K hK => wp_append_eq s x 123 ho hs hx hrun (hK _ _ (h v' w' (hide ⟨by rw [List.flatMap_append]; simpa using q1, q2, q3⟩)))
/-- a transaction with one more span read -/
def Tr.read (tr : Tr) (x : Sp) : Tr := { tr with reads := tr.reads ++ [x] }
/-- why Get refuses -/
def gotE (tr : Tr) (k : ByteArray) : Int := if 256 < k.size then 4 else if tr.reads.length = 256 then 3 else 0
/-- what Get answers, of a transaction's own and of versions -/
def gotV (ms : Mg) (tr : Tr) (k : ByteArray) : ByteArray × Bool × Int := match tr.ws.find? (fun y => y.key.toList == k.toList) with
  | some x => (x.val, !x.gone, 0)
  | none => getR ms.low ms.vs k tr.began
/-- a transaction that reads: what stands behind it -/
theorem read_isM {w w3 : World} {g ob : Nat} {ps : List Pl} {ms : Mg} (h : IsM w g ob ps ms) {i n : Nat} {tr : Tr} {l : Pl} (h1 : ms.opn[i]? = some (n, tr)) (h2 : ps[i]? = some l) {v : Value} {x : Sp}
    (hF : Frm (fun j => l.rv.ownBlock = some j) w w3) (hrow : w3.ownsRow 0 127 2 v (tr.reads.length + 1) ((tr.reads ++ [x]).flatMap spc)) (hv : v.ownBlock = l.rv.ownBlock ∨ ∀ j, v.ownBlock = some j → w.heap.size ≤ j) :
    IsM (w3.setCell ⟨l.p, 1, none⟩ v) g ob (ps.set i ⟨l.p, l.wb, v⟩) (ms.turn i n (tr.read x)) ∧ Frm (fun j => l.has j) w (w3.setCell ⟨l.p, 1, none⟩ v) ∧ (w3.setCell ⟨l.p, 1, none⟩ v).heap[l.p]? = some (.cells #[.int .u64 (tr.began : Nat), v, .map (some l.wb)] 125 (0, 0)) := by
  have hs := hF.size
  have hk := hF.block
  have hX := h.each i n tr l h1 h2
  obtain ⟨D, ⟨es, ck, hmb, hmr⟩, hWD⟩ := hX.map
  have hpl := hX.lt (.inl rfl)
  have hwl := hX.lt (.inr (.inl rfl))
  have hpr : l.rv.ownBlock ≠ some l.p := fun e => by
    rcases hX.row.2 with q | ⟨g', cap, cur, q1, q2, q3, q4⟩
    · rw [q.1] at e; cases e
    · rw [q1] at e
      cases e
      rw [hX.blk] at q3
      simp at q3
  have hwr : l.rv.ownBlock ≠ some l.wb := fun e => by
    rcases hX.row.2 with q | ⟨g', cap, cur, q1, q2, q3, q4⟩
    · rw [q.1] at e; cases e
    · rw [q1] at e
      cases e
      rw [hmb] at q3
      cases q3
  have hpw : l.p ≠ l.wb := fun e => by
    have q := hX.blk
    rw [e, hmb] at q
    cases q
  have hb3 : w3.heap[l.p]? = some (.cells #[.int .u64 (tr.began : Nat), l.rv, .map (some l.wb)] 125 (0, 0)) := (hk _ hpl hpr).trans hX.blk
  have hb4 : (w3.setCell ⟨l.p, 1, none⟩ v).heap[l.p]? = some (.cells #[.int .u64 (tr.began : Nat), v, .map (some l.wb)] 125 (0, 0)) := by
    have := blk_set2 (j := 1) hb3 v
    simpa using this
  have hoth : ∀ j, j ≠ l.p → (w3.setCell ⟨l.p, 1, none⟩ v).heap[j]? = w3.heap[j]? := fun j hj => Below.heap_setCell _ _ _ _ hj
  have hsz : (w3.setCell ⟨l.p, 1, none⟩ v).heap.size = w3.heap.size := by simp [World.setCell]
  have hvp : ∀ j, v.ownBlock = some j → j ≠ l.p := fun j hj e => by
    rcases hv with hv | hv
    · exact hpr (by rw [← hv, hj, e])
    · have := hv j hj; omega
  refine ⟨turn_isM h h1 h2 rfl (by rw [hsz]; exact hs) (fun j hj hn => ?_) (fun j hj => ?_) ⟨hb4, ?_, ⟨D, ?_, hWD⟩⟩, ⟨hF.os, hF.tape, hF.output, by rw [hsz]; exact hs, fun j hj hn => ?_⟩, hb4⟩
  · rw [hoth j (fun e => hn (.inl e))]
    exact hk j hj (fun e => hn (.inr (.inr e)))
  · rcases hj with hj | hj | hj
    · exact .inl (.inl hj)
    · exact .inl (.inr (.inl hj))
    · rcases hv with hv | hv
      · exact .inl (.inr (.inr (by rw [← hv]; exact hj)))
      · exact .inr (hv j hj)
  · show World.ownsRow _ 0 127 2 v (tr.read x).reads.length ((tr.read x).reads.flatMap spc)
    have e : (tr.read x).reads.length = tr.reads.length + 1 := by simp [Tr.read]
    rw [e]
    exact row_kept hrow (fun j hj => hoth j (hvp j hj))
  · exact ⟨es, ck, (hoth _ (fun e => hpw e.symm)).trans ((hk _ hwl hwr).trans hmb), hmr⟩
  · rw [hoth j (fun e => hn (.inl e))]
    exact hk j hj (fun e => hn (.inr (.inr e)))
set_option maxHeartbeats 1000000 in
theorem tget_no (w : World) (g ob : Nat) (ps : List Pl) (ms : Mg) (h : IsM w g ob ps ms) (t : Int) (ht : -9223372036854775808 ≤ t ∧ t ≤ 9223372036854775807) (hn : ∀ x ∈ ms.opn, ¬ (x.1 : Int) = t) (k : ByteArray) :
    Calls Tryz.prog 32 #[.pointer (some ⟨g, 0, none⟩), .int .i64 t, .string k] w fun e w' => e = .returned (.tuple #[.string ⟨#[]⟩, .bool false, .int .i64 11]) ∧ w' = w := by
  have HF := hide (find_no _ g ob ps ms h t ht hn)
  clear h ht hn
  go_enter Tryz.func32, Tryz.ntmps32
  go_wp2_with fail
  refine HF.out.mono ?_
  rintro e w' ⟨rfl, rfl⟩
  go_wp2
  go_ret3
  exact ⟨rfl, rfl⟩
set_option maxHeartbeats 1000000 in
theorem tget_long (w : World) (g ob : Nat) (ps : List Pl) (ms : Mg) (h : IsM w g ob ps ms) (i n : Nat) (tr : Tr) (l : Pl) (h1 : ms.opn[i]? = some (n, tr)) (h2 : ps[i]? = some l) (k : ByteArray) (hk : 256 < k.size) :
    Calls Tryz.prog 32 #[.pointer (some ⟨g, 0, none⟩), .int .i64 (n : Int), .string k] w fun e w' => e = .returned (.tuple #[.string ⟨#[]⟩, .bool false, .int .i64 4]) ∧ w' = w := by
  have HF := hide (find_yes _ g ob ps ms h i n tr l h1 h2)
  have hkI : (256 : Int) < (k.size : Int) := by omega
  clear h h1 h2
  go_enter Tryz.func32, Tryz.ntmps32
  go_wp2_with fail
  refine HF.out.mono ?_
  rintro e w' ⟨rfl, rfl⟩
  go_wp2
  go_ret3
  exact ⟨rfl, rfl⟩
set_option maxHeartbeats 1000000 in
theorem tget_many (w : World) (g ob : Nat) (ps : List Pl) (ms : Mg) (h : IsM w g ob ps ms) (i n : Nat) (tr : Tr) (l : Pl) (h1 : ms.opn[i]? = some (n, tr)) (h2 : ps[i]? = some l) (k : ByteArray) (hk : ¬ 256 < k.size) (hl : tr.reads.length = 256) :
    Calls Tryz.prog 32 #[.pointer (some ⟨g, 0, none⟩), .int .i64 (n : Int), .string k] w fun e w' => e = .returned (.tuple #[.string ⟨#[]⟩, .bool false, .int .i64 3]) ∧ w' = w := by
  have HF := hide (find_yes _ g ob ps ms h i n tr l h1 h2)
  have hX := h.each i n tr l h1 h2
  obtain ⟨a, cap, er, _⟩ := row_isS hX.row
  have c1 : w.cell? ⟨l.p, 1, none⟩ = some (.slice a 256 cap) := by rw [← hl, ← er]; exact cell_blk hX.blk rfl
  have hkI : ¬ (256 : Int) < (k.size : Int) := by omega
  clear h h1 h2 hX er hl
  go_enter Tryz.func32, Tryz.ntmps32
  go_wp2_with fail
  refine HF.out.mono ?_
  rintro e w' ⟨rfl, rfl⟩
  go_wp2
  go_ret3
  exact ⟨rfl, rfl⟩
set_option maxHeartbeats 4000000 in
theorem tget_ok (w : World) (g ob : Nat) (ps : List Pl) (ms : Mg) (h : IsM w g ob ps ms) (i n : Nat) (tr : Tr) (l : Pl) (h1 : ms.opn[i]? = some (n, tr)) (h2 : ps[i]? = some l) (k : ByteArray) (hk : ¬ 256 < k.size) (hl : tr.reads.length < 256) :
    Calls Tryz.prog 32 #[.pointer (some ⟨g, 0, none⟩), .int .i64 (n : Int), .string k] w fun e w' => e = .returned (.tuple #[.string (gotV ms tr k).1, .bool (gotV ms tr k).2.1, .int .i64 (gotV ms tr k).2.2]) ∧ ∃ v, IsM w' g ob (ps.set i ⟨l.p, l.wb, v⟩) (ms.turn i n (tr.read (k, k ++ ⟨#[0]⟩))) ∧ Frm (fun j => l.has j) w w' ∧ ∀ j, v.ownBlock = some j → l.has j ∨ w.heap.size ≤ j := by
  have HF := hide (find_yes _ g ob ps ms h i n tr l h1 h2)
  have hX := h.each i n tr l h1 h2
  obtain ⟨a, cap, er, _⟩ := row_isS hX.row
  have c1 : w.cell? ⟨l.p, 1, none⟩ = some (.slice a tr.reads.length cap) := by rw [← er]; exact cell_blk hX.blk rfl
  have hkI : ¬ (256 : Int) < (k.size : Int) := by omega
  have HK : Hid (k.size ≤ 256) := hide (by omega)
  have HLE : Hid (tr.reads.length ≤ 256) := hide (by omega)
  have hlI : ¬ (tr.reads.length : Int) = 256 := by omega
  have hl2 : ((tr.reads.length : Int) == 256) = false := by simp; omega
  have hl3 : (tr.reads.length == 256) = false := by simp; omega
  have HH := hide (And.intro h (And.intro h1 h2))
  have HA : Hid ((w.alloc (.cells #[.string k, .string (k ++ ⟨#[0]⟩)] 127)).ownsRow 0 127 2 (.slice a tr.reads.length cap) tr.reads.length (tr.reads.flatMap spc)) := hide (by rw [← er]; exact hX.row.alloc _)
  have HN := hide (heap_alloc_new w (.cells #[.string k, .string (k ++ ⟨#[0]⟩)] 127))
  have HBA : Hid (Below w.heap.size w (w.alloc (.cells #[.string k, .string (k ++ ⟨#[0]⟩)] 127))) := hide ((Below.refl _ w).alloc (Nat.le_refl _) _)
  have HER := hide er
  have HXB := hide hX.blk
  have HPR : Hid (l.rv.ownBlock ≠ some l.p) := hide (fun e => by
    rcases hX.row.2 with q | ⟨g', cap, cur, q1, q2, q3, q4⟩
    · rw [q.1] at e; cases e
    · rw [q1] at e
      cases e
      rw [hX.blk] at q3
      simp at q3)
  clear h h1 h2 hX er
  go_enter Tryz.func32, Tryz.ntmps32
  go_wp2_with fail
  refine HF.out.mono ?_
  rintro e w' ⟨rfl, rfl⟩
  clear HF
  go_wp2_with (at_builtin; refine wpList_span rfl _ _ rfl (.slice a tr.reads.length cap) tr.reads.length tr.reads rfl HA.out w'.heap.size (k, k ++ ⟨#[0]⟩) rfl HN.out HLE.out ?_)
  intro v3 w3 H3
  obtain ⟨a3, c3, rfl⟩ := own_form H3.out.1
  have HF3 : Hid (Frm (fun j => l.rv.ownBlock = some j) w' w3) := hide ((Frm.below HBA.out).trans (Frm.grown H3.out.2.1 (fun q hq => by rw [HER.out]; exact hq)))
  have HVO : Hid (∀ j, (Value.slice a3 (tr.reads.length + 1) c3).ownBlock = some j → l.has j ∨ w'.heap.size ≤ j) := hide (fun j hj => H3.out.2.2.elim (fun e => .inl (.inr (.inr (by rw [HER.out, ← e]; exact hj)))) (fun e => .inr (by rw [e] at hj; cases hj; omega)))
  have HM4 := hide (read_isM (v := .slice a3 (tr.reads.length + 1) c3) (x := (k, k ++ ⟨#[0]⟩)) HH.out.1 HH.out.2.1 HH.out.2.2 HF3.out (by rw [List.flatMap_append]; simpa using H3.out.1) (H3.out.2.2.elim (fun e => .inl (e.trans (by rw [HER.out]))) (fun e => .inr (fun q hq => by rw [e] at hq; cases hq; omega))))
  have HB3 : Hid (w3.heap[l.p]? = some (.cells #[.int .u64 (tr.began : Nat), l.rv, .map (some l.wb)] 125 (0, 0))) := hide ((HF3.out.block _ (heap_lt HXB.out) HPR.out).trans HXB.out)
  have d1 : w3.cell? ⟨l.p, 1, none⟩ = some l.rv := cell_blk HB3.out rfl
  have f1 : w3.frozen? ⟨l.p, 1, none⟩ = false := frz HB3.out 1
  have d2 : w3.cell? ⟨l.p, 2, none⟩ = some (.map (some l.wb)) := cell_blk HB3.out rfl
  rw [HER.out] at d1
  have q2 : (w3.setCell ⟨l.p, 1, none⟩ (.slice a3 (tr.reads.length + 1) c3)).cell? ⟨l.p, 2, none⟩ = some (.map (some l.wb)) := cell_blk HM4.out.2.2 rfl
  rename_i K hK
  have HKK := hide hK
  clear hK
  go_wp2_with fail
  refine HKK.out _ _ ?_
  clear HKK d1 d2 f1 c1 q2
  generalize (w3.setCell ⟨l.p, 1, none⟩ (.slice a3 (tr.reads.length + 1) c3)) = W4 at *
  have q2 : W4.cell? ⟨l.p, 2, none⟩ = some (.map (some l.wb)) := cell_blk HM4.out.2.2 rfl
  have hXn := HM4.out.1.each i n (tr.read (k, k ++ ⟨#[0]⟩)) ⟨l.p, l.wb, .slice a3 (tr.reads.length + 1) c3⟩ (by show (ms.opn.set i _)[i]? = _; rw [List.getElem?_set_self (List.getElem?_eq_some_iff.1 HH.out.2.1).1]) (by rw [List.getElem?_set_self (List.getElem?_eq_some_iff.1 HH.out.2.2).1])
  obtain ⟨D, hown, hD⟩ := hXn.map
  have hlk : (Instr.lookup 122 (.map (some l.wb)) (.string k) true).run Tryz.prog W4 = .ok (.tuple #[atW tr.ws k, .bool (hasW tr.ws k)]) W4 := look_ws hown hD HK.out
  obtain ⟨va, vn, vc, hvb, hV, _, _⟩ := HM4.out.1.ver
  have HVB := hide hvb
  have HV := hide hV
  clear hXn hown hD D hvb hV H3 HF3 HA HN HBA HB3
  cases hfd : tr.ws.find? (fun y => y.key.toList == k.toList) with
  | some x =>
    have HGV : Hid (gotV ms tr k = (x.val, !x.gone, 0)) := hide (by unfold gotV; rw [hfd])
    have e2 : hasW tr.ws k = true := List.any_eq_true.2 ⟨x, List.mem_of_find?_eq_some hfd, by simpa using List.find?_some hfd⟩
    obtain ⟨x1, x2, x3⟩ := x
    have e1 : atW tr.ws k = .agg #[.string x1, .string x2, .bool x3] := by unfold atW; rw [hfd]
    rw [e1, e2] at hlk
    dsimp only at HGV
    clear hfd e1 e2
    go_wp2_with fail
    have HBX : Hid ((W4.alloc (.cells #[.string x1, .string x2, .bool x3] 64)).drew.heap[W4.heap.size]? = some (.cells #[.string x1, .string x2, .bool x3] 64 (0, 0))) := hide (heap_alloc_new W4 (.cells #[.string x1, .string x2, .bool x3] 64))
    have HBL : Hid (Below W4.heap.size W4 (W4.alloc (.cells #[.string x1, .string x2, .bool x3] 64)).drew) := hide ((Below.refl _ W4).alloc (Nat.le_refl _) _).drew
    have HFIN := hide (And.intro (HM4.out.1.below HBL.out) (HM4.out.2.1.trans (Frm.below HBL.out)))
    clear HBL
    generalize W4.heap.size = Bx at *
    clear hlk q2
    refine wp_region_held_drew (S := (fun W' : World => W'.cell? ⟨Bx, 1, none⟩ = some (.string x2) ∧ W'.cell? ⟨Bx, 2, none⟩ = some (.bool x3))) (by kernel_rfl) ?hSa (fun hHeld => ?_)
    case hSa => exact ⟨cell_blk HBX.out rfl, cell_blk HBX.out rfl⟩
    refine hTake (i := 0) (v := ?v0a) (some 57) rfl rfl (by kernel_rfl) (by kernel_rfl) (by kernel_rfl) (fun _ _ _ h => h) (by rfl) (by assumption) ?hy0a ?hn0a
    case hy0a => (intro w hSw; (try dsimp only at hSw); skip; go_simp; try with_reducible rfl)
    try simp only [Act.put, List.setIfInBounds_toArray, List.set_cons_zero, List.set_cons_succ]
    refine hTake (i := 1) (v := ?v1a) (some 58) rfl rfl (by kernel_rfl) (by kernel_rfl) (by kernel_rfl) (fun _ _ _ h => h) (by rfl) (by assumption) ?hy1a ?hn1a
    case hy1a => (intro w hSw; (try dsimp only at hSw); skip; go_simp; try with_reducible rfl)
    try simp only [Act.put, List.setIfInBounds_toArray, List.set_cons_zero, List.set_cons_succ]
    refine hTake (i := 2) (v := ?v2a) (some 59) rfl rfl (by kernel_rfl) (by kernel_rfl) (by kernel_rfl) (fun _ _ _ h => h) (by rfl) (by assumption) ?hy2a ?hn2a
    case hy2a => (intro w hSw; (try dsimp only at hSw); skip; go_simp; try with_reducible rfl)
    try simp only [Act.put, List.setIfInBounds_toArray, List.set_cons_zero, List.set_cons_succ]
    refine hTake (i := 3) (v := ?v3a) (some 60) rfl rfl (by kernel_rfl) (by kernel_rfl) (by kernel_rfl) (fun _ _ _ h => h) (by rfl) (by assumption) ?hy3a ?hn3a
    case hy3a => (intro w hSw; (try dsimp only at hSw); skip; go_simp; try with_reducible rfl)
    try simp only [Act.put, List.setIfInBounds_toArray, List.set_cons_zero, List.set_cons_succ]
    refine hTake (i := 4) (v := ?v4a) (some 61) rfl rfl (by kernel_rfl) (by kernel_rfl) (by kernel_rfl) (fun _ _ _ h => h) (by rfl) (by assumption) ?hy4a ?hn4a
    case hy4a => (intro w hSw; (try dsimp only at hSw); skip; go_simp; try with_reducible rfl)
    try simp only [Act.put, List.setIfInBounds_toArray, List.set_cons_zero, List.set_cons_succ]
    refine hTake (i := 5) (v := ?v5a) (some 6) rfl rfl (by kernel_rfl) (by kernel_rfl) (by kernel_rfl) (fun _ _ _ h => h) (by rfl) (by assumption) ?hy5a ?hn5a
    case hy5a => (intro w hSw; (try dsimp only at hSw); skip; go_simp; try with_reducible rfl)
    try simp only [Act.put, List.setIfInBounds_toArray, List.set_cons_zero, List.set_cons_succ]
    refine hTake (i := 6) (v := ?v6a) (some 7) rfl rfl (by kernel_rfl) (by kernel_rfl) (by kernel_rfl) (fun _ _ _ h => h) (by rfl) (by assumption) ?hy6a ?hn6a
    case hy6a => (intro w hSw; (try dsimp only at hSw); skip; go_simp; try with_reducible rfl)
    try simp only [Act.put, List.setIfInBounds_toArray, List.set_cons_zero, List.set_cons_succ]
    refine hTake (i := 7) (v := ?v7a) (some 8) rfl rfl (by kernel_rfl) (by kernel_rfl) (by kernel_rfl) (fun _ _ _ h => h) (by rfl) (by assumption) ?hy7a ?hn7a
    case hy7a => (intro w hSw; (try dsimp only at hSw); skip; go_simp; try with_reducible rfl)
    try simp only [Act.put, List.setIfInBounds_toArray, List.set_cons_zero, List.set_cons_succ]
    refine wpAnyH_done (by kernel_rfl) ?_ _
    go_wp2
    go_ret3
    exact ⟨by rw [HGV.out]; rfl, _, HFIN.out.1, HFIN.out.2, HVO.out⟩
  | none =>
    have HGV : Hid (gotV ms tr k = getR ms.low ms.vs k tr.began) := hide (by unfold gotV; rw [hfd])
    have e1 : atW tr.ws k = .agg #[.string ⟨#[]⟩, .string ⟨#[]⟩, .bool false] := by unfold atW; rw [hfd]
    have e2 : hasW tr.ws k = false := by
      cases hw : hasW tr.ws k
      · rfl
      · obtain ⟨y, hy, hye⟩ := List.any_eq_true.1 hw
        exact absurd hye (by simpa using List.find?_eq_none.1 hfd y hy)
    rw [e1, e2] at hlk
    clear hfd e1 e2
    go_wp2_with fail
    have HBL : Hid (Below W4.heap.size W4 (W4.alloc (.cells #[.string ⟨#[]⟩, .string ⟨#[]⟩, .bool false] 64)).drew) := hide ((Below.refl _ W4).alloc (Nat.le_refl _) _).drew
    generalize hW5 : (W4.alloc (.cells #[.string ⟨#[]⟩, .string ⟨#[]⟩, .bool false] 64)) = W5 at *
    clear hlk q2 hW5
    have HS : Hid (∀ W' : World, Below W5.drew.heap.size W5.drew W' → W'.cell? ⟨g, 0, none⟩ = some (.slice va vn vc) ∧ W'.cell? ⟨g, 1, none⟩ = some (.int .u64 (ms.low : Nat)) ∧ W'.cell? ⟨l.p, 0, none⟩ = some (.int .u64 (tr.began : Nat))) := hide (fun W' hW => by
      have hb := HBL.out.trans (hW.mono HBL.out.size)
      have r1 := (hb.block _ (heap_lt HVB.out)).trans HVB.out
      have r2 := (hb.block _ (heap_lt HM4.out.2.2)).trans HM4.out.2.2
      exact ⟨cell_blk r1 rfl, cell_blk r1 rfl, cell_blk r2 rfl⟩)
    have HG : Hid (∀ W' : World, Below W5.drew.heap.size W5.drew W' → Calls Tryz.prog 58 #[.agg #[.slice va vn vc, .int .u64 (ms.low : Nat)], .string k, .int .u64 (tr.began : Nat)] W' fun e w' => e = .returned (.tuple #[.string (getR ms.low ms.vs k tr.began).1, .bool (getR ms.low ms.vs k tr.began).2.1, .int .i64 (getR ms.low ms.vs k tr.began).2.2]) ∧ Below W5.drew.heap.size W5.drew w') := hide (fun W' hW =>
      (get_any va vn vc ms.low tr.began k ms.vs W' (HV.out.below (HBL.out.trans (hW.mono HBL.out.size)))).mono (fun e w' q => ⟨q.1, hW.trans (q.2.mono hW.size)⟩))
    refine wp_region_held_drew (S := (fun W' : World => W'.cell? ⟨g, 0, none⟩ = some (.slice va vn vc) ∧ W'.cell? ⟨g, 1, none⟩ = some (.int .u64 (ms.low : Nat)) ∧ W'.cell? ⟨l.p, 0, none⟩ = some (.int .u64 (tr.began : Nat)))) (by kernel_rfl) ?hSb (fun hHeld => ?_)
    case hSb => exact HS.out _ (Below.refl _ _)
    refine hTake (i := 0) (v := ?v0b) (some 62) rfl rfl (by kernel_rfl) (by kernel_rfl) (by kernel_rfl) (fun _ _ _ h => h) (by rfl) (by assumption) ?hy0b ?hn0b
    case hy0b => (intro w hSw; (try dsimp only at hSw); skip; go_simp; try with_reducible rfl)
    try simp only [Act.put, List.setIfInBounds_toArray, List.set_cons_zero, List.set_cons_succ]
    refine hTake (i := 1) (v := ?v1b) (some 63) rfl rfl (by kernel_rfl) (by kernel_rfl) (by kernel_rfl) (fun _ _ _ h => h) (by rfl) (by assumption) ?hy1b ?hn1b
    case hy1b => (intro w hSw; (try dsimp only at hSw); skip; go_simp; try with_reducible rfl)
    try simp only [Act.put, List.setIfInBounds_toArray, List.set_cons_zero, List.set_cons_succ]
    refine hTake (i := 2) (v := ?v2b) (some 64) rfl rfl (by kernel_rfl) (by kernel_rfl) (by kernel_rfl) (fun _ _ _ h => h) (by rfl) (by assumption) ?hy2b ?hn2b
    case hy2b => (intro w hSw; (try dsimp only at hSw); skip; go_simp; try with_reducible rfl)
    try simp only [Act.put, List.setIfInBounds_toArray, List.set_cons_zero, List.set_cons_succ]
    refine hTake (i := 3) (v := ?v3b) (some 65) rfl rfl (by kernel_rfl) (by kernel_rfl) (by kernel_rfl) (fun _ _ _ h => h) (by rfl) (by assumption) ?hy3b ?hn3b
    case hy3b => (intro w hSw; (try dsimp only at hSw); skip; go_simp; try with_reducible rfl)
    try simp only [Act.put, List.setIfInBounds_toArray, List.set_cons_zero, List.set_cons_succ]
    refine hTake (i := 4) (v := ?v4b) (some 66) rfl rfl (by kernel_rfl) (by kernel_rfl) (by kernel_rfl) (fun _ _ _ h => h) (by rfl) (by assumption) ?hy4b ?hn4b
    case hy4b => (intro w hSw; (try dsimp only at hSw); skip; go_simp; try with_reducible rfl)
    try simp only [Act.put, List.setIfInBounds_toArray, List.set_cons_zero, List.set_cons_succ]
    refine hTake (i := 5) (v := ?v5b) (some 67) rfl rfl (by kernel_rfl) (by kernel_rfl) (by kernel_rfl) (fun _ _ _ h => h) (by rfl) (by assumption) ?hy5b ?hn5b
    case hy5b => (intro w hSw; (try dsimp only at hSw); skip; go_simp; try with_reducible rfl)
    try simp only [Act.put, List.setIfInBounds_toArray, List.set_cons_zero, List.set_cons_succ]
    refine hTake (i := 6) (v := ?v6b) (some 68) rfl rfl (by kernel_rfl) (by kernel_rfl) (by kernel_rfl) (fun _ _ _ h => h) (by rfl) (by assumption) ?hy6b ?hn6b
    case hy6b => (intro w hSw; (try dsimp only at hSw); skip; go_simp; try with_reducible rfl)
    try simp only [Act.put, List.setIfInBounds_toArray, List.set_cons_zero, List.set_cons_succ]
    refine hTake (i := 7) (v := ?v7b) (some 69) rfl rfl (by kernel_rfl) (by kernel_rfl) (by kernel_rfl) (fun _ _ _ h => h) (by rfl) (by assumption) ?hy7b ?hn7b
    case hy7b => (intro w hSw; (try dsimp only at hSw); skip; go_simp; try with_reducible rfl)
    try simp only [Act.put, List.setIfInBounds_toArray, List.set_cons_zero, List.set_cons_succ]
    refine hTake (i := 8) (v := ?v8b) (some 70) rfl rfl (by kernel_rfl) (by kernel_rfl) (by kernel_rfl) (fun _ _ _ h => h) (by rfl) (by assumption) ?hy8b ?hn8b
    case hy8b => (intro w hSw; (try dsimp only at hSw); skip; go_simp; try with_reducible rfl)
    try simp only [Act.put, List.setIfInBounds_toArray, List.set_cons_zero, List.set_cons_succ]
    refine hOne (i := 9) rfl (by kernel_rfl) (fun K hK => ?_)
    go_simp
    refine (HG.out _ (Below.refl _ _)).mono ?_
    rintro e wA ⟨rfl, hbA⟩
    refine hK.out _ _ (HS.out _ hbA) (fun hHeld => ?_)
    clear hK K
    try simp only [Act.put, List.setIfInBounds_toArray, List.set_cons_zero, List.set_cons_succ]
    refine hTake (i := 10) (v := ?v10b) (some 72) rfl rfl (by kernel_rfl) (by kernel_rfl) (by kernel_rfl) (fun _ _ _ h => h) (by rfl) (by assumption) ?hy10b ?hn10b
    case hy10b => (intro w hSw; (try dsimp only at hSw); skip; go_simp; try with_reducible rfl)
    try simp only [Act.put, List.setIfInBounds_toArray, List.set_cons_zero, List.set_cons_succ]
    refine hTake (i := 11) (v := ?v11b) (some 73) rfl rfl (by kernel_rfl) (by kernel_rfl) (by kernel_rfl) (fun _ _ _ h => h) (by rfl) (by assumption) ?hy11b ?hn11b
    case hy11b => (intro w hSw; (try dsimp only at hSw); skip; go_simp; try with_reducible rfl)
    try simp only [Act.put, List.setIfInBounds_toArray, List.set_cons_zero, List.set_cons_succ]
    refine hTake (i := 12) (v := ?v12b) (some 74) rfl rfl (by kernel_rfl) (by kernel_rfl) (by kernel_rfl) (fun _ _ _ h => h) (by rfl) (by assumption) ?hy12b ?hn12b
    case hy12b => (intro w hSw; (try dsimp only at hSw); skip; go_simp; try with_reducible rfl)
    try simp only [Act.put, List.setIfInBounds_toArray, List.set_cons_zero, List.set_cons_succ]
    refine hTake (i := 13) (v := ?v13b) (some 6) rfl rfl (by kernel_rfl) (by kernel_rfl) (by kernel_rfl) (fun _ _ _ h => h) (by rfl) (by assumption) ?hy13b ?hn13b
    case hy13b => (intro w hSw; (try dsimp only at hSw); skip; go_simp; try with_reducible rfl)
    try simp only [Act.put, List.setIfInBounds_toArray, List.set_cons_zero, List.set_cons_succ]
    refine hTake (i := 14) (v := ?v14b) (some 7) rfl rfl (by kernel_rfl) (by kernel_rfl) (by kernel_rfl) (fun _ _ _ h => h) (by rfl) (by assumption) ?hy14b ?hn14b
    case hy14b => (intro w hSw; (try dsimp only at hSw); skip; go_simp; try with_reducible rfl)
    try simp only [Act.put, List.setIfInBounds_toArray, List.set_cons_zero, List.set_cons_succ]
    refine hTake (i := 15) (v := ?v15b) (some 8) rfl rfl (by kernel_rfl) (by kernel_rfl) (by kernel_rfl) (fun _ _ _ h => h) (by rfl) (by assumption) ?hy15b ?hn15b
    case hy15b => (intro w hSw; (try dsimp only at hSw); skip; go_simp; try with_reducible rfl)
    try simp only [Act.put, List.setIfInBounds_toArray, List.set_cons_zero, List.set_cons_succ]
    refine wpAnyH_done (by kernel_rfl) ?_ _
    have HE := hide (HBL.out.trans (hbA.mono HBL.out.size))
    go_wp2
    go_ret3
    exact ⟨by rw [HGV.out]; rfl, _, HM4.out.1.below HE.out, HM4.out.2.1.trans (Frm.below HE.out), HVO.out⟩
/-- Get at an open one, whatever the case -/
theorem tget_any (w : World) (g ob : Nat) (ps : List Pl) (ms : Mg) (h : IsM w g ob ps ms) (i n : Nat) (tr : Tr) (l : Pl) (h1 : ms.opn[i]? = some (n, tr)) (h2 : ps[i]? = some l) (k : ByteArray) (hl : tr.reads.length ≤ 256) :
    Calls Tryz.prog 32 #[.pointer (some ⟨g, 0, none⟩), .int .i64 (n : Int), .string k] w fun e w' => e = .returned (.tuple #[.string (if gotE tr k = 0 then gotV ms tr k else (⟨#[]⟩, false, gotE tr k)).1, .bool (if gotE tr k = 0 then gotV ms tr k else (⟨#[]⟩, false, gotE tr k)).2.1, .int .i64 (if gotE tr k = 0 then gotV ms tr k else (⟨#[]⟩, false, gotE tr k)).2.2]) ∧ ∃ v, IsM w' g ob (ps.set i ⟨l.p, l.wb, v⟩) (ms.turn i n (if gotE tr k = 0 then tr.read (k, k ++ ⟨#[0]⟩) else tr)) ∧ Frm (fun j => l.has j) w w' ∧ ∀ j, v.ownBlock = some j → l.has j ∨ w.heap.size ≤ j := by
  by_cases hk : 256 < k.size
  · have e : gotE tr k = 4 := if_pos hk
    simp only [e, show ¬ (4 : Int) = 0 by decide, if_false]
    rw [turn_same h1]
    exact (tget_long w g ob ps ms h i n tr l h1 h2 k hk).mono (fun e w' q => ⟨q.1, l.rv, by rw [set_same h2, q.2]; exact h, by rw [q.2]; exact Frm.refl _ _, fun j hj => .inl (.inr (.inr hj))⟩)
  · by_cases hr : tr.reads.length = 256
    · have e : gotE tr k = 3 := (if_neg hk).trans (if_pos hr)
      simp only [e, show ¬ (3 : Int) = 0 by decide, if_false]
      rw [turn_same h1]
      exact (tget_many w g ob ps ms h i n tr l h1 h2 k hk hr).mono (fun e w' q => ⟨q.1, l.rv, by rw [set_same h2, q.2]; exact h, by rw [q.2]; exact Frm.refl _ _, fun j hj => .inl (.inr (.inr hj))⟩)
    · have e : gotE tr k = 0 := (if_neg hk).trans (if_neg hr)
      simp only [e, if_true]
      exact tget_ok w g ob ps ms h i n tr l h1 h2 k hk (by omega)
end Go.Proofs.YtlkmcbelmldleaaGreat
