/- NodeSame: the walk -/
import Derived.Test.YtebikoekpbnpbaaPA
import Derived.Test.YtebikoekpbnpbaaPB
namespace Go.Proofs.Ytebikoekpbnpbaa
open Go.RowKit Cod
set_option maxRecDepth 100000
set_option linter.unusedVariables false
set_option linter.unusedSimpArgs false
abbrev PvE : Pv := ⟨none, 0, 0, none, 0, 0, none, 0, 0⟩
/-- what the first loops keep -/
structure SmA (w : World) (A : Nat) (K : List (List Nat)) (i : Nat) (wr : World) : Prop where
  bel : Below w.heap.size w wr
  low : w.heap.size ≤ A
  x : BlkG wr A true PvE
  y : BlkG wr (A + 1) true PvE
  diff : ∀ a b, a < b → b < i → ¬ K.getD a [] = K.getD b []
theorem SmA.next {w wr : World} {A : Nat} {K : List (List Nat)} {i : Nat} (h : SmA w A K i wr) (hd : ∀ a, a < i → ¬ K.getD a [] = K.getD i []) : SmA w A K (i + 1) wr := ⟨h.bel, h.low, h.x, h.y, fun a b hab hb => by
  by_cases e : b = i
  · subst e; exact hd a hab
  · exact h.diff a b hab (by omega)⟩
theorem SmA.drew {w wr : World} {A : Nat} {K : List (List Nat)} {i : Nat} (h : SmA w A K i wr) (k : Nat) : SmA w A K i (wr.drewN k) := ⟨h.bel.trans ((below_drewN k).mono h.bel.size), h.low, ((below_drewN k).block _ (heap_ltN h.x)).trans h.x, ((below_drewN k).block _ (heap_ltN h.y)).trans h.y, h.diff⟩
theorem diff_all {K : List (List Nat)} {n : Nat} (h : ∀ a b, a < b → b < n → ¬ K.getD a [] = K.getD b []) : ∀ a b, a < n → b < n → K.getD a [] = K.getD b [] → a = b := fun a b ha hb e => by
  rcases Nat.lt_trichotomy a b with h1 | h1 | h1
  · exact absurd e (h a b h1 hb)
  · exact h1
  · exact absurd e.symm (h b a h1 ha)
/-- what the last loop keeps -/
structure SmB (w : World) (A : Nat) (K V : List (List Nat)) (n r i : Nat) (va vb : Pv) (a b : Pg) (wr : World) : Prop where
  bel : Below w.heap.size w wr
  low : w.heap.size ≤ A
  x : BlkG wr A true va
  y : BlkG wr (A + 1) true vb
  na : NwG wr (A + 1) va a
  nb : NwG wr (A + 1) vb b
  fa : FewP va
  fb : FewP vb
  la : Lf a (upS K V id i) i
  lb : Lf b (upS K V (rotN n r) i) i
set_option maxHeartbeats 4000000 in
theorem same_any (ka : Option Addr) (kn kc : Nat) (K : List (List Nat)) (va : Option Addr) (vn vc : Nat) (V : List (List Nat)) (by' : Int) (w : World) (hK : IsL w ka kn kc K) (hV : IsL w va vn vc V) (hy : i64B by') (hkn : kn ≤ 2000000) (hvn : vn ≤ 2000000) :
    Calls Try.prog 10 #[.slice ka kn kc, .slice va vn vc, .int .i64 by'] w fun e w' => e = .returned (.bool true) ∧ Below w.heap.size w w' := by
  have HK := hide hK
  have HV := hide hV
  have HY := hide hy
  obtain ⟨n, hn⟩ : ∃ n, n = min kn vn := ⟨_, rfl⟩
  have hmn : min (kn : Int) (vn : Int) = (n : Int) := by omega
  have HN : Hid (n ≤ kn ∧ n ≤ vn ∧ n ≤ 2000000) := hide (by omega)
  clear hK hV hy hn hkn hvn
  go_enter Try.func10, Try.ntmps10
  go_wp2_with fail
  refine (lives_any w).mono ?_
  rintro e w1 ⟨rfl, hb1⟩
  have HB1 := hide hb1
  have HS : Hid (SmA w w1.heap.size K 0 ((w1.alloc (.cells (pgc true PvE) 25)).alloc (.cells (pgc true PvE) 25))) := hide (by
    refine ⟨(hb1.alloc hb1.size _).alloc (Nat.le_trans hb1.size (by simp)) _, hb1.size, ?_, ?_, fun a b _ h => absurd h (Nat.not_lt_zero _)⟩
    · show _ = _
      rw [heap_al, heap_al, World.size_alloc, if_neg (by omega), if_pos rfl]
    · show _ = _
      rw [heap_al, World.size_alloc, if_pos rfl])
  clear hb1
  obtain ⟨A, hA⟩ : ∃ A, A = w1.heap.size := ⟨_, rfl⟩
  go_wp2_with fail
  rw [← hA] at HS ⊢
  generalize ((w1.alloc (.cells (pgc true PvE) 25)).alloc (.cells (pgc true PvE) 25)) = V0 at *
  clear HB1 hmn hA
  go_loopw [10] (fun v10 wr => ∃ i : Nat, i ≤ n ∧ v10 = .int .i64 (i : Nat) ∧ Hid (SmA w A K i wr)) (fun v10 _ => n - (intOf v10).toNat)
  case atStart => exact ⟨0, Nat.zero_le _, rfl, HS⟩
  case round =>
    obtain ⟨i, hi, rfl, HI⟩ := hrel
    by_cases hlt : i < n
    · have hiI : (i : Int) < (n : Int) := by omega
      have hw1 : IntKind.i64.wrap ((i : Int) + 1) = (i : Int) + 1 := wrapN (by omega) (by have := HN.out; omega)
      have hi0 : (0 : Int) ≤ (i : Int) := by omega
      have HIK : Hid (i < kn) := hide (by have := HN.out; omega)
      have hi1 : (i : Int) < (kn : Int) := by have := HIK.out; omega
      go_wp2
      go_loopw [11] (fun v11 wr => ∃ k : Nat, k ≤ i ∧ v11 = .int .i64 (k : Nat) ∧ Hid (SmA w A K i wr ∧ ∀ a, a < k → ¬ K.getD a [] = K.getD i [])) (fun v11 _ => i - (intOf v11).toNat)
      case atStart => exact ⟨0, Nat.zero_le _, rfl, hide ⟨HI.out, fun a h => absurd h (Nat.not_lt_zero _)⟩⟩
      case round =>
        obtain ⟨k, hk, rfl, HJ⟩ := hrel
        by_cases hki : k < i
        · have hkI : (k : Int) < (i : Int) := by omega
          have hk0 : (0 : Int) ≤ (k : Int) := by omega
          have hk1 : (k : Int) < (kn : Int) := by have := HIK.out; omega
          have hw2 : IntKind.i64.wrap ((k : Int) + 1) = (k : Int) + 1 := wrapN (by omega) (by have := HN.out; omega)
          obtain ⟨b1, o1, a1, n1, c1, rfl, hb1, z1, hB1⟩ := (HK.out.below HJ.out.1.bel).2.2.2.2 i HIK.out
          obtain ⟨b2, o2, a2, n2, c2, e2, hb2, z2, hB2⟩ := (HK.out.below HJ.out.1.bel).2.2.2.2 k (by omega)
          cases e2
          obtain ⟨x1, hx1⟩ : ∃ x, K.getD i [] = x := ⟨_, rfl⟩
          obtain ⟨x2, hx2⟩ : ∃ x, K.getD k [] = x := ⟨_, rfl⟩
          rw [hx1] at hB1
          rw [hx2] at hB2
          have HX := hide (And.intro hx1 hx2)
          have hcv1 : ∀ j, (convert 26 9 (.slice a1 n1 c1)).run Try.prog (wr.drewN j) = .ok (.string (str x1)) (wr.drewN j) := fun j => conv_str (hB1.below (below_drewN j))
          have hcv2 : ∀ j, (convert 26 9 (.slice a2 n2 c2)).run Try.prog (wr.drewN j) = .ok (.string (str x2)) (wr.drewN j) := fun j => conv_str (hB2.below (below_drewN j))
          have hse := str_eq hB1.2.2.2.1 hB2.2.2.2.1
          clear hB1 hB2 hx1 hx2
          by_cases hxx : x1 = x2
          · rw [decide_eq_true hxx] at hse
            clear hxx
            go_wp2
            go_quiet (fail)
            go_wp2
            go_ret
            exact ⟨rfl, (HJ.out.1.drew nq).bel⟩
          · have HNE := hide hxx
            rw [decide_eq_false hxx] at hse
            clear hxx
            go_wp2
            go_quiet (fail)
            go_wp2
            go_roundw
            case rel => exact ⟨k + 1, by omega, by simp, hide ⟨HJ.out.1.drew nq, fun a ha => by
              by_cases e : a = k
              · subst e; rw [HX.out.1, HX.out.2]; exact fun e => HNE.out e.symm
              · exact HJ.out.2 a (by omega)⟩⟩
            case measure => simp [intOf]; omega
        · obtain rfl : k = i := by omega
          have hkk : ¬ (k : Int) < (k : Int) := by omega
          go_wp2
          go_roundw
          case rel => exact ⟨k + 1, by omega, by simp, hide (HJ.out.1.next HJ.out.2)⟩
          case measure => simp [intOf]; omega
    · obtain rfl : n = i := by omega
      have hkk : ¬ (n : Int) < (n : Int) := by omega
      go_wp2
      clear hkk hlt hi
      have HD := hide (diff_all HI.out.diff)
      obtain ⟨r, hr⟩ : ∃ r : Nat, r = (by'.tmod n + n).toNat := ⟨_, rfl⟩
      have HR := hide hr
      clear hr
      go_loopw [12] (fun v12 wr => ∃ (i : Nat) (va vb : Pv) (a b : Pg), i ≤ n ∧ v12 = .int .i64 (i : Nat) ∧ Hid (SmB w A K V n r i va vb a b wr)) (fun v12 _ => n - (intOf v12).toNat)
      case atStart =>
        refine ⟨0, PvE, PvE, ⟨true, [], [], []⟩, ⟨true, [], [], []⟩, Nat.zero_le _, rfl, hide ⟨HI.out.bel, HI.out.low, HI.out.x, HI.out.y, ⟨nwL_nil _ _, nwL_nil _ _, isK_nil _, nofun⟩, ⟨nwL_nil _ _, nwL_nil _ _, isK_nil _, nofun⟩, by unfold FewP; decide, by unfold FewP; decide, ?_, ?_⟩⟩
        · exact ⟨lf_0.ok, rfl, fun x => ⟨fun h => by simp at h, fun ⟨t, h, _⟩ => absurd h (Nat.not_lt_zero _)⟩⟩
        · exact ⟨lf_0.ok, rfl, fun x => ⟨fun h => by simp at h, fun ⟨t, h, _⟩ => absurd h (Nat.not_lt_zero _)⟩⟩
      case round =>
        obtain ⟨i, va1, vb1, pa, pb, hi, rfl, HI1⟩ := hrel
        by_cases hlt : i < n
        · have hiI : (i : Int) < (n : Int) := by omega
          have hw1 : IntKind.i64.wrap ((i : Int) + 1) = (i : Int) + 1 := wrapN (by omega) (by have := HN.out; omega)
          have hi0 : (0 : Int) ≤ (i : Int) := by omega
          have HM : Hid (-(n : Int) < by'.tmod n ∧ by'.tmod n < n) := hide (by
            have h1 := Int.lt_tmod_of_pos by' (b := (n : Int)) (by omega)
            have h2 := Int.tmod_lt_of_pos by' (b := (n : Int)) (by omega)
            omega)
          obtain ⟨k, hk⟩ : ∃ k : Nat, k = rotN n r i := ⟨_, rfl⟩
          have HKR := hide hk
          have HKN : Hid (k < n) := hide (by rw [hk]; exact rot_lt (by omega))
          have hn0 : ¬ (n : Int) = 0 := by omega
          have hn1 : ((n : Int) == 0) = false := by simpa using hn0
          have hw3 : IntKind.i64.wrap ((i : Int) + by'.tmod n) = (i : Int) + by'.tmod n := by
            have := HM.out; have := HN.out; rw [IntKind.wrap_i64]; omega
          have hw4 : IntKind.i64.wrap ((i : Int) + by'.tmod n + n) = (i : Int) + by'.tmod n + n := by
            have := HM.out; have := HN.out; rw [IntKind.wrap_i64]; omega
          have hw5 : ((i : Int) + by'.tmod n + n).tmod n = (k : Int) := by
            have h1 := HM.out
            have e : (i : Int) + by'.tmod n + n = ((i + r : Nat) : Int) := by rw [HR.out]; omega
            rw [e, ← Int.ofNat_tmod, hk]
            rfl
          have hw6 : IntKind.i64.wrap (by'.tmod n) = by'.tmod n := by
            have := HM.out; have := HN.out; rw [IntKind.wrap_i64]; omega
          have hw7 : IntKind.i64.wrap (k : Int) = (k : Int) := wrapN (by omega) (by have := HN.out; have := HKN.out; omega)
          clear hk
          have HIK : Hid (i < kn ∧ i < vn ∧ k < kn ∧ k < vn) := hide (by have := HN.out; have := HKN.out; omega)
          have hg1 : (i : Int) < (kn : Int) := by have := HIK.out; omega
          have hg2 : (i : Int) < (vn : Int) := by have := HIK.out; omega
          have hg3 : (k : Int) < (kn : Int) := by have := HIK.out; omega
          have hg4 : (k : Int) < (vn : Int) := by have := HIK.out; omega
          have hg5 : (0 : Int) ≤ (k : Int) := by omega
          have hbel := HI1.out.bel
          obtain ⟨b1, o1, a1, n1, c1, rfl, hb1, z1, hB1⟩ := (HK.out.below hbel).2.2.2.2 i HIK.out.1
          obtain ⟨b2, o2, a2, n2, c2, rfl, hb2, z2, hB2⟩ := (HV.out.below hbel).2.2.2.2 i HIK.out.2.1
          obtain ⟨b3, o3, a3, n3, c3, e3, hb3, z3, hB3⟩ := (HK.out.below hbel).2.2.2.2 k HIK.out.2.2.1
          cases e3
          obtain ⟨b4, o4, a4, n4, c4, e4, hb4, z4, hB4⟩ := (HV.out.below hbel).2.2.2.2 k HIK.out.2.2.2
          cases e4
          have hAA := HI1.out.x
          have hAB := HI1.out.y
          have hP1 : ∀ W, Below wr.heap.size wr W → Calls Try.prog 25 #[.agg (pgc true va1), .slice a1 n1 c1, .slice a2 n2 c2] W fun e w' => ∃ v', e = .returned (.tuple #[.agg (pgc (putR pa (K.getD i []) (V.getD i [])).1.leaf v'), .int .i64 (putR pa (K.getD i []) (V.getD i [])).2]) ∧ NwG w' (W.heap.size + 1) v' (putR pa (K.getD i []) (V.getD i [])).1 ∧ Below W.heap.size W w' := fun W hW => by
            have := put_any va1 pa a1 n1 c1 (K.getD i []) a2 n2 c2 (V.getD i []) W (HI1.out.na.is.below hW) HI1.out.fa (hB1.below hW) (hB2.below hW)
            rw [(leafE_0 HI1.out.la.ok).2] at this
            exact this
          have hP2 : ∀ W, Below wr.heap.size wr W → Calls Try.prog 25 #[.agg (pgc true vb1), .slice a3 n3 c3, .slice a4 n4 c4] W fun e w' => ∃ v', e = .returned (.tuple #[.agg (pgc (putR pb (K.getD k []) (V.getD k [])).1.leaf v'), .int .i64 (putR pb (K.getD k []) (V.getD k [])).2]) ∧ NwG w' (W.heap.size + 1) v' (putR pb (K.getD k []) (V.getD k [])).1 ∧ Below W.heap.size W w' := fun W hW => by
            have := put_any vb1 pb a3 n3 c3 (K.getD k []) a4 n4 c4 (V.getD k []) W (HI1.out.nb.is.below hW) HI1.out.fb (hB3.below hW) (hB4.below hW)
            rw [(leafE_0 HI1.out.lb.ok).2] at this
            exact this
          have HP1 := hide hP1
          have HP2 := hide hP2
          have HZ : Hid (∀ W, Below wr.heap.size wr W → (BlkG W A true va1 ∧ W.cell? ⟨b1, o1 + i, none⟩ = some (.slice a1 n1 c1) ∧ W.cell? ⟨b2, o2 + i, none⟩ = some (.slice a2 n2 c2)) ∧ BlkG W (A + 1) true vb1 ∧ W.cell? ⟨b1, o1 + k, none⟩ = some (.slice a3 n3 c3) ∧ W.cell? ⟨b2, o2 + k, none⟩ = some (.slice a4 n4 c4)) := hide (fun W hW => ⟨⟨(hW.block _ (heap_ltN hAA)).trans hAA, (World.cell?_of_block (hW.block _ hb1)).trans z1, (World.cell?_of_block (hW.block _ hb2)).trans z2⟩, (hW.block _ (heap_ltN hAB)).trans hAB, (World.cell?_of_block (hW.block _ hb3)).trans z3, (World.cell?_of_block (hW.block _ hb4)).trans z4⟩)
          clear hP1 hP2 z1 z2 z3 z4 hB1 hB2 hB3 hB4 hb1 hb2 hb3 hb4 hbel hAA hAB
          obtain ⟨ka1, kn1, kc1, va1', vn1, vc1, ia1, in1, ic1⟩ := va1
          obtain ⟨ka2, kn2, kc2, va2', vn2, vc2, ia2, in2, ic2⟩ := vb1
          obtain ⟨pa', hpa⟩ : ∃ x, x = putR pa (K.getD i []) (V.getD i []) := ⟨_, rfl⟩
          obtain ⟨pb', hpb⟩ : ∃ x, x = putR pb (K.getD k []) (V.getD k []) := ⟨_, rfl⟩
          rw [← hpa] at HP1
          rw [← hpb] at HP2
          have HPA := hide hpa
          have HPB := hide hpb
          obtain ⟨⟨lfa, ksa, vsa, ida⟩, ca⟩ := pa'
          obtain ⟨⟨lfb, ksb, vsb, idb⟩, cb⟩ := pb'
          dsimp only at HP1 HP2
          clear hpa hpb
          have HAL : Hid (A + 1 < wr.heap.size) := hide (heap_ltN HI1.out.y)
          go_wp2_with fail
          have HS1 : Hid (∀ W, Below wr.heap.size wr W → W.cell? ⟨A, 0, none⟩ = some (.bool true) ∧ W.cell? ⟨A, 1, none⟩ = some (.slice ka1 kn1 kc1) ∧ W.cell? ⟨A, 2, none⟩ = some (.slice va1' vn1 vc1) ∧ W.cell? ⟨A, 3, none⟩ = some (.slice ia1 in1 ic1) ∧ W.cell? ⟨b1, o1 + i, none⟩ = some (.slice a1 n1 c1) ∧ W.cell? ⟨b2, o2 + i, none⟩ = some (.slice a2 n2 c2)) := hide (fun W hW => by
            have h1 := HZ.out W (hW)
            obtain ⟨g0, g1, g2, g3⟩ := h1.1.1.cells
            exact ⟨g0, g1, g2, g3, h1.1.2⟩)
          refine wp_region_held_drew (S := fun W : World => W.cell? ⟨A, 0, none⟩ = some (.bool true) ∧ W.cell? ⟨A, 1, none⟩ = some (.slice ka1 kn1 kc1) ∧ W.cell? ⟨A, 2, none⟩ = some (.slice va1' vn1 vc1) ∧ W.cell? ⟨A, 3, none⟩ = some (.slice ia1 in1 ic1) ∧ W.cell? ⟨b1, o1 + i, none⟩ = some (.slice a1 n1 c1) ∧ W.cell? ⟨b2, o2 + i, none⟩ = some (.slice a2 n2 c2)) (by kernel_rfl) ?hSq1u1 (fun hHeld => ?_)
          case hSq1u1 => exact HS1.out _ (Below.refl _ _).drew
          refine hTake (i := 0) (v := ?v0q1u1) (some 63) rfl rfl (by kernel_rfl) (by kernel_rfl) (by kernel_rfl) (fun _ _ _ h => h) (by rfl) (by assumption) ?hy0q1u1 ?hn0q1u1
          case hy0q1u1 => (intro w hSw; (try dsimp only at hSw); skip; go_simp; try with_reducible rfl)
          try simp only [Act.put, List.setIfInBounds_toArray, List.set_cons_zero, List.set_cons_succ]
          refine hTake (i := 1) (v := ?v1q1u1) (some 64) rfl rfl (by kernel_rfl) (by kernel_rfl) (by kernel_rfl) (fun _ _ _ h => h) (by rfl) (by assumption) ?hy1q1u1 ?hn1q1u1
          case hy1q1u1 => (intro w hSw; (try dsimp only at hSw); skip; go_simp; try with_reducible rfl)
          try simp only [Act.put, List.setIfInBounds_toArray, List.set_cons_zero, List.set_cons_succ]
          refine hTake (i := 2) (v := ?v2q1u1) (some 65) rfl rfl (by kernel_rfl) (by kernel_rfl) (by kernel_rfl) (fun _ _ _ h => h) (by rfl) (by assumption) ?hy2q1u1 ?hn2q1u1
          case hy2q1u1 => (intro w hSw; (try dsimp only at hSw); skip; go_simp; try with_reducible rfl)
          try simp only [Act.put, List.setIfInBounds_toArray, List.set_cons_zero, List.set_cons_succ]
          refine hTake (i := 3) (v := ?v3q1u1) (some 66) rfl rfl (by kernel_rfl) (by kernel_rfl) (by kernel_rfl) (fun _ _ _ h => h) (by rfl) (by assumption) ?hy3q1u1 ?hn3q1u1
          case hy3q1u1 => (intro w hSw; (try dsimp only at hSw); skip; go_simp; try with_reducible rfl)
          try simp only [Act.put, List.setIfInBounds_toArray, List.set_cons_zero, List.set_cons_succ]
          refine hTake (i := 4) (v := ?v4q1u1) (some 67) rfl rfl (by kernel_rfl) (by kernel_rfl) (by kernel_rfl) (fun _ _ _ h => h) (by rfl) (by assumption) ?hy4q1u1 ?hn4q1u1
          case hy4q1u1 => (intro w hSw; (try dsimp only at hSw); skip; go_simp; try with_reducible rfl)
          try simp only [Act.put, List.setIfInBounds_toArray, List.set_cons_zero, List.set_cons_succ]
          refine hTake (i := 5) (v := ?v5q1u1) (some 68) rfl rfl (by kernel_rfl) (by kernel_rfl) (by kernel_rfl) (fun _ _ _ h => h) (by rfl) (by assumption) ?hy5q1u1 ?hn5q1u1
          case hy5q1u1 => (intro w hSw; (try dsimp only at hSw); skip; go_simp; try with_reducible rfl)
          try simp only [Act.put, List.setIfInBounds_toArray, List.set_cons_zero, List.set_cons_succ]
          refine hTake (i := 6) (v := ?v6q1u1) (some 69) rfl rfl (by kernel_rfl) (by kernel_rfl) (by kernel_rfl) (fun _ _ _ h => h) (by rfl) (by assumption) ?hy6q1u1 ?hn6q1u1
          case hy6q1u1 => (intro w hSw; (try dsimp only at hSw); skip; go_simp; try with_reducible rfl)
          try simp only [Act.put, List.setIfInBounds_toArray, List.set_cons_zero, List.set_cons_succ]
          refine hTake (i := 7) (v := ?v7q1u1) (some 70) rfl rfl (by kernel_rfl) (by kernel_rfl) (by kernel_rfl) (fun _ _ _ h => h) (by rfl) (by assumption) ?hy7q1u1 ?hn7q1u1
          case hy7q1u1 => (intro w hSw; (try dsimp only at hSw); skip; go_simp; try with_reducible rfl)
          try simp only [Act.put, List.setIfInBounds_toArray, List.set_cons_zero, List.set_cons_succ]
          refine hTake (i := 8) (v := ?v8q1u1) (some 71) rfl rfl (by kernel_rfl) (by kernel_rfl) (by kernel_rfl) (fun _ _ _ h => h) (by rfl) (by assumption) ?hy8q1u1 ?hn8q1u1
          case hy8q1u1 => (intro w hSw; (try dsimp only at hSw); skip; go_simp; try with_reducible rfl)
          try simp only [Act.put, List.setIfInBounds_toArray, List.set_cons_zero, List.set_cons_succ]
          refine hTwo (i := 9) (j := 13) rfl rfl (by kernel_rfl) (fun K hK => ?_) (fun K hK => ?_)
          · go_simp
            refine ((HP1.out _ ((Below.refl _ _).drew)).mono ?_)
            rintro e w2 ⟨⟨kA, nA, cA, vA, mA, dA, iA, jA, lA⟩, rfl, hn1, hb2⟩
            have HN1 := hide hn1
            have HB2 := hide hb2
            clear hn1 hb2
            have HQ1 : Hid (Below wr.heap.size wr w2) := hide ((Below.refl _ wr).drew.trans HB2.out)
            refine hK.out _ _ (HS1.out _ HQ1.out) (fun hHeld => ?_)
            clear hK K
            try simp only [Act.put, List.setIfInBounds_toArray, List.set_cons_zero, List.set_cons_succ]
            refine hTake (i := 10) (v := ?v10q1Au1) (some 62) rfl rfl (by kernel_rfl) (by kernel_rfl) (by kernel_rfl) (fun _ _ _ h => h) (by rfl) (by assumption) ?hy10q1Au1 ?hn10q1Au1
            case hy10q1Au1 => (intro w hSw; (try dsimp only at hSw); skip; go_simp; try with_reducible rfl)
            try simp only [Act.put, List.setIfInBounds_toArray, List.set_cons_zero, List.set_cons_succ]
            refine hTake (i := 11) (v := ?v11q1Au1) (some 73) rfl rfl (by kernel_rfl) (by kernel_rfl) (by kernel_rfl) (fun _ _ _ h => h) (by rfl) (by assumption) ?hy11q1Au1 ?hn11q1Au1
            case hy11q1Au1 => (intro w hSw; (try dsimp only at hSw); skip; go_simp; try with_reducible rfl)
            try simp only [Act.put, List.setIfInBounds_toArray, List.set_cons_zero, List.set_cons_succ]
            refine hTake (i := 12) (v := ?v12q1Au1) (some 74) rfl rfl (by kernel_rfl) (by kernel_rfl) (by kernel_rfl) (fun _ _ _ h => h) (by rfl) (by assumption) ?hy12q1Au1 ?hn12q1Au1
            case hy12q1Au1 => (intro w hSw; (try dsimp only at hSw); skip; go_simp; try with_reducible rfl)
            try simp only [Act.put, List.setIfInBounds_toArray, List.set_cons_zero, List.set_cons_succ]
            refine hOne (i := 13) rfl (by kernel_rfl) (fun K hK => ?_)
            go_simp
            have HBv : Hid (Below wr.heap.size wr (w2.alloc (.cells pg0c 25))) := hide (HQ1.out.alloc HQ1.out.size _)
            refine hK.out _ _ (HS1.out _ HBv.out) (fun hHeld => ?_)
            clear hK K
            try simp only [Act.put, List.setIfInBounds_toArray, List.set_cons_zero, List.set_cons_succ]
            have HBX : Hid ((w2.alloc (.cells pg0c 25)).heap[w2.heap.size]? = some (.cells pg0c 25 (0, 0))) := hide (heap_alloc_new _ _)
            have HBOX := hide (boxA (G := A + 1) (lf := lfa) HAL.out HN1.out HB2.out)
            dsimp only at HBOX
            obtain ⟨bx, hbx⟩ : ∃ bx, bx = w2.heap.size := ⟨_, rfl⟩
            rw [← hbx] at HBX HBOX ⊢
            clear hbx HN1 HB2 HQ1 HBv
            generalize (w2.alloc (.cells pg0c 25)) = W0 at *
            have z0 : W0.cell? ⟨bx, 0, none⟩ = some (.bool false) := cell_blkN HBX.out rfl
            have f0 := frzN HBX.out 0
            have z1 : W0.cell? ⟨bx, 1, none⟩ = some (.slice none 0 0) := cell_blkN HBX.out rfl
            have f1 := frzN HBX.out 1
            have z2 : W0.cell? ⟨bx, 2, none⟩ = some (.slice none 0 0) := cell_blkN HBX.out rfl
            have f2 := frzN HBX.out 2
            have z3 : W0.cell? ⟨bx, 3, none⟩ = some (.slice none 0 0) := cell_blkN HBX.out rfl
            have f3 := frzN HBX.out 3
            refine hOne (i := 14) rfl (by kernel_rfl) (fun K hK => ?_)
            go_simp
            clear z0 z1 z2 z3 f0 f1 f2 f3
            refine hK.out _ _ (HS1.out _ HBOX.out.bel) (fun hHeld => ?_)
            clear hK K
            try simp only [Act.put, List.setIfInBounds_toArray, List.set_cons_zero, List.set_cons_succ]
            refine hOne (i := 15) rfl (by kernel_rfl) (fun K hK => ?_)
            go_simp
            refine hK.out _ _ (HS1.out _ HBOX.out.bel) (fun hHeld => ?_)
            clear hK K
            try simp only [Act.put, List.setIfInBounds_toArray, List.set_cons_zero, List.set_cons_succ]
            refine wpAnyH_done (by kernel_rfl) ?_ _
            obtain ⟨W1, hW1⟩ : ∃ W1, W1 = ((((W0.setCell ⟨bx, 0, none⟩ (.bool lfa)).setCell ⟨bx, 1, none⟩ (.slice kA nA cA)).setCell ⟨bx, 2, none⟩ (.slice vA mA dA)).setCell ⟨bx, 3, none⟩ (.slice iA jA lA)) := ⟨_, rfl⟩
            rw [show set4 W0 bx (.bool lfa) (.slice kA nA cA) (.slice vA mA dA) (.slice iA jA lA) = W1 from hW1.symm] at HBOX
            rw [← hW1]
            clear hW1 HBX hHeld
            have HBOX1 := hide HBOX.out
            clear HBOX
            obtain ⟨bx1, hbx⟩ : ∃ b, b = bx := ⟨_, rfl⟩
            rw [← hbx] at HBOX1 ⊢
            clear hbx
            obtain ⟨kA1, hq⟩ : ∃ b, b = kA := ⟨_, rfl⟩
            rw [← hq] at HBOX1 ⊢
            clear hq
            obtain ⟨nA1, hq⟩ : ∃ b, b = nA := ⟨_, rfl⟩
            rw [← hq] at HBOX1 ⊢
            clear hq
            obtain ⟨cA1, hq⟩ : ∃ b, b = cA := ⟨_, rfl⟩
            rw [← hq] at HBOX1 ⊢
            clear hq
            obtain ⟨vA1, hq⟩ : ∃ b, b = vA := ⟨_, rfl⟩
            rw [← hq] at HBOX1 ⊢
            clear hq
            obtain ⟨mA1, hq⟩ : ∃ b, b = mA := ⟨_, rfl⟩
            rw [← hq] at HBOX1 ⊢
            clear hq
            obtain ⟨dA1, hq⟩ : ∃ b, b = dA := ⟨_, rfl⟩
            rw [← hq] at HBOX1 ⊢
            clear hq
            obtain ⟨iA1, hq⟩ : ∃ b, b = iA := ⟨_, rfl⟩
            rw [← hq] at HBOX1 ⊢
            clear hq
            obtain ⟨jA1, hq⟩ : ∃ b, b = jA := ⟨_, rfl⟩
            rw [← hq] at HBOX1 ⊢
            clear hq
            obtain ⟨lA1, hq⟩ : ∃ b, b = lA := ⟨_, rfl⟩
            rw [← hq] at HBOX1 ⊢
            clear hq
            have HAL1 := hide HAL.out
            have HAL : Hid (A + 1 < W1.heap.size) := hide (Nat.lt_of_lt_of_le HAL1.out HBOX1.out.bel.size)
            go_wp2_with fail
            have HS2 : Hid (∀ W, Below W1.heap.size W1 W → W.cell? ⟨A + 1, 0, none⟩ = some (.bool true) ∧ W.cell? ⟨A + 1, 1, none⟩ = some (.slice ka2 kn2 kc2) ∧ W.cell? ⟨A + 1, 2, none⟩ = some (.slice va2' vn2 vc2) ∧ W.cell? ⟨A + 1, 3, none⟩ = some (.slice ia2 in2 ic2) ∧ W.cell? ⟨b1, o1 + k, none⟩ = some (.slice a3 n3 c3) ∧ W.cell? ⟨b2, o2 + k, none⟩ = some (.slice a4 n4 c4)) := hide (fun W hW => by
              have h1 := HZ.out W (HBOX1.out.bel.trans ((hW).mono HBOX1.out.bel.size))
              obtain ⟨g0, g1, g2, g3⟩ := h1.2.1.cells
              exact ⟨g0, g1, g2, g3, h1.2.2⟩)
            refine wp_region_held_drew (S := fun W : World => W.cell? ⟨A + 1, 0, none⟩ = some (.bool true) ∧ W.cell? ⟨A + 1, 1, none⟩ = some (.slice ka2 kn2 kc2) ∧ W.cell? ⟨A + 1, 2, none⟩ = some (.slice va2' vn2 vc2) ∧ W.cell? ⟨A + 1, 3, none⟩ = some (.slice ia2 in2 ic2) ∧ W.cell? ⟨b1, o1 + k, none⟩ = some (.slice a3 n3 c3) ∧ W.cell? ⟨b2, o2 + k, none⟩ = some (.slice a4 n4 c4)) (by kernel_rfl) ?hSq2u2 (fun hHeld => ?_)
            case hSq2u2 => exact HS2.out _ (Below.refl _ _).drew
            refine hTake (i := 0) (v := ?v0q2u2) (some 76) rfl rfl (by kernel_rfl) (by kernel_rfl) (by kernel_rfl) (fun _ _ _ h => h) (by rfl) (by assumption) ?hy0q2u2 ?hn0q2u2
            case hy0q2u2 => (intro w hSw; (try dsimp only at hSw); skip; go_simp; try with_reducible rfl)
            try simp only [Act.put, List.setIfInBounds_toArray, List.set_cons_zero, List.set_cons_succ]
            refine hTake (i := 1) (v := ?v1q2u2) (some 77) rfl rfl (by kernel_rfl) (by kernel_rfl) (by kernel_rfl) (fun _ _ _ h => h) (by rfl) (by assumption) ?hy1q2u2 ?hn1q2u2
            case hy1q2u2 => (intro w hSw; (try dsimp only at hSw); skip; go_simp; try with_reducible rfl)
            try simp only [Act.put, List.setIfInBounds_toArray, List.set_cons_zero, List.set_cons_succ]
            refine hTake (i := 2) (v := ?v2q2u2) (some 78) rfl rfl (by kernel_rfl) (by kernel_rfl) (by kernel_rfl) (fun _ _ _ h => h) (by rfl) (by assumption) ?hy2q2u2 ?hn2q2u2
            case hy2q2u2 => (intro w hSw; (try dsimp only at hSw); skip; go_simp; try with_reducible rfl)
            try simp only [Act.put, List.setIfInBounds_toArray, List.set_cons_zero, List.set_cons_succ]
            refine hTake (i := 3) (v := ?v3q2u2) (some 79) rfl rfl (by kernel_rfl) (by kernel_rfl) (by kernel_rfl) (fun _ _ _ h => h) (by rfl) (by assumption) ?hy3q2u2 ?hn3q2u2
            case hy3q2u2 => (intro w hSw; (try dsimp only at hSw); skip; go_simp; try with_reducible rfl)
            try simp only [Act.put, List.setIfInBounds_toArray, List.set_cons_zero, List.set_cons_succ]
            refine hTake (i := 4) (v := ?v4q2u2) (some 80) rfl rfl (by kernel_rfl) (by kernel_rfl) (by kernel_rfl) (fun _ _ _ h => h) (by rfl) (by assumption) ?hy4q2u2 ?hn4q2u2
            case hy4q2u2 => (intro w hSw; (try dsimp only at hSw); skip; go_simp; try with_reducible rfl)
            try simp only [Act.put, List.setIfInBounds_toArray, List.set_cons_zero, List.set_cons_succ]
            refine hTake (i := 5) (v := ?v5q2u2) (some 81) rfl rfl (by kernel_rfl) (by kernel_rfl) (by kernel_rfl) (fun _ _ _ h => h) (by rfl) (by assumption) ?hy5q2u2 ?hn5q2u2
            case hy5q2u2 => (intro w hSw; (try dsimp only at hSw); skip; go_simp; try with_reducible rfl)
            try simp only [Act.put, List.setIfInBounds_toArray, List.set_cons_zero, List.set_cons_succ]
            refine hTake (i := 6) (v := ?v6q2u2) (some 82) rfl rfl (by kernel_rfl) (by kernel_rfl) (by kernel_rfl) (fun _ _ _ h => h) (by rfl) (by assumption) ?hy6q2u2 ?hn6q2u2
            case hy6q2u2 => (intro w hSw; (try dsimp only at hSw); skip; go_simp; try with_reducible rfl)
            try simp only [Act.put, List.setIfInBounds_toArray, List.set_cons_zero, List.set_cons_succ]
            refine hTake (i := 7) (v := ?v7q2u2) (some 83) rfl rfl (by kernel_rfl) (by kernel_rfl) (by kernel_rfl) (fun _ _ _ h => h) (by rfl) (by assumption) ?hy7q2u2 ?hn7q2u2
            case hy7q2u2 => (intro w hSw; (try dsimp only at hSw); skip; go_simp; try with_reducible rfl)
            try simp only [Act.put, List.setIfInBounds_toArray, List.set_cons_zero, List.set_cons_succ]
            refine hTake (i := 8) (v := ?v8q2u2) (some 84) rfl rfl (by kernel_rfl) (by kernel_rfl) (by kernel_rfl) (fun _ _ _ h => h) (by rfl) (by assumption) ?hy8q2u2 ?hn8q2u2
            case hy8q2u2 => (intro w hSw; (try dsimp only at hSw); skip; go_simp; try with_reducible rfl)
            try simp only [Act.put, List.setIfInBounds_toArray, List.set_cons_zero, List.set_cons_succ]
            refine hTwo (i := 9) (j := 13) rfl rfl (by kernel_rfl) (fun K hK => ?_) (fun K hK => ?_)
            · go_simp
              refine ((HP2.out _ (HBOX1.out.bel.trans (((Below.refl _ _).drew).mono HBOX1.out.bel.size))).mono ?_)
              rintro e w2 ⟨⟨kA, nA, cA, vA, mA, dA, iA, jA, lA⟩, rfl, hn1, hb2⟩
              have HN1 := hide hn1
              have HB2 := hide hb2
              clear hn1 hb2
              have HQ1 : Hid (Below W1.heap.size W1 w2) := hide ((Below.refl _ W1).drew.trans HB2.out)
              refine hK.out _ _ (HS2.out _ HQ1.out) (fun hHeld => ?_)
              clear hK K
              try simp only [Act.put, List.setIfInBounds_toArray, List.set_cons_zero, List.set_cons_succ]
              refine hTake (i := 10) (v := ?v10q2Au2) (some 75) rfl rfl (by kernel_rfl) (by kernel_rfl) (by kernel_rfl) (fun _ _ _ h => h) (by rfl) (by assumption) ?hy10q2Au2 ?hn10q2Au2
              case hy10q2Au2 => (intro w hSw; (try dsimp only at hSw); skip; go_simp; try with_reducible rfl)
              try simp only [Act.put, List.setIfInBounds_toArray, List.set_cons_zero, List.set_cons_succ]
              refine hTake (i := 11) (v := ?v11q2Au2) (some 86) rfl rfl (by kernel_rfl) (by kernel_rfl) (by kernel_rfl) (fun _ _ _ h => h) (by rfl) (by assumption) ?hy11q2Au2 ?hn11q2Au2
              case hy11q2Au2 => (intro w hSw; (try dsimp only at hSw); skip; go_simp; try with_reducible rfl)
              try simp only [Act.put, List.setIfInBounds_toArray, List.set_cons_zero, List.set_cons_succ]
              refine hTake (i := 12) (v := ?v12q2Au2) (some 87) rfl rfl (by kernel_rfl) (by kernel_rfl) (by kernel_rfl) (fun _ _ _ h => h) (by rfl) (by assumption) ?hy12q2Au2 ?hn12q2Au2
              case hy12q2Au2 => (intro w hSw; (try dsimp only at hSw); skip; go_simp; try with_reducible rfl)
              try simp only [Act.put, List.setIfInBounds_toArray, List.set_cons_zero, List.set_cons_succ]
              refine hOne (i := 13) rfl (by kernel_rfl) (fun K hK => ?_)
              go_simp
              have HBv : Hid (Below W1.heap.size W1 (w2.alloc (.cells pg0c 25))) := hide (HQ1.out.alloc HQ1.out.size _)
              refine hK.out _ _ (HS2.out _ HBv.out) (fun hHeld => ?_)
              clear hK K
              try simp only [Act.put, List.setIfInBounds_toArray, List.set_cons_zero, List.set_cons_succ]
              have HBX : Hid ((w2.alloc (.cells pg0c 25)).heap[w2.heap.size]? = some (.cells pg0c 25 (0, 0))) := hide (heap_alloc_new _ _)
              have HBOX := hide (boxA (G := A + 1) (lf := lfb) HAL.out HN1.out HB2.out)
              dsimp only at HBOX
              obtain ⟨bx, hbx⟩ : ∃ bx, bx = w2.heap.size := ⟨_, rfl⟩
              rw [← hbx] at HBX HBOX ⊢
              clear hbx HN1 HB2 HQ1 HBv
              generalize (w2.alloc (.cells pg0c 25)) = W0 at *
              have z0 : W0.cell? ⟨bx, 0, none⟩ = some (.bool false) := cell_blkN HBX.out rfl
              have f0 := frzN HBX.out 0
              have z1 : W0.cell? ⟨bx, 1, none⟩ = some (.slice none 0 0) := cell_blkN HBX.out rfl
              have f1 := frzN HBX.out 1
              have z2 : W0.cell? ⟨bx, 2, none⟩ = some (.slice none 0 0) := cell_blkN HBX.out rfl
              have f2 := frzN HBX.out 2
              have z3 : W0.cell? ⟨bx, 3, none⟩ = some (.slice none 0 0) := cell_blkN HBX.out rfl
              have f3 := frzN HBX.out 3
              refine hOne (i := 14) rfl (by kernel_rfl) (fun K hK => ?_)
              go_simp
              clear z0 z1 z2 z3 f0 f1 f2 f3
              refine hK.out _ _ (HS2.out _ HBOX.out.bel) (fun hHeld => ?_)
              clear hK K
              try simp only [Act.put, List.setIfInBounds_toArray, List.set_cons_zero, List.set_cons_succ]
              refine hOne (i := 15) rfl (by kernel_rfl) (fun K hK => ?_)
              go_simp
              refine hK.out _ _ (HS2.out _ HBOX.out.bel) (fun hHeld => ?_)
              clear hK K
              try simp only [Act.put, List.setIfInBounds_toArray, List.set_cons_zero, List.set_cons_succ]
              refine wpAnyH_done (by kernel_rfl) ?_ _
              obtain ⟨W2, hW2⟩ : ∃ W2, W2 = ((((W0.setCell ⟨bx, 0, none⟩ (.bool lfb)).setCell ⟨bx, 1, none⟩ (.slice kA nA cA)).setCell ⟨bx, 2, none⟩ (.slice vA mA dA)).setCell ⟨bx, 3, none⟩ (.slice iA jA lA)) := ⟨_, rfl⟩
              rw [show set4 W0 bx (.bool lfb) (.slice kA nA cA) (.slice vA mA dA) (.slice iA jA lA) = W2 from hW2.symm] at HBOX
              rw [← hW2]
              clear hW2 HBX hHeld
              have HBOX2 := hide HBOX.out
              clear HBOX
              obtain ⟨bx2, hbx⟩ : ∃ b, b = bx := ⟨_, rfl⟩
              rw [← hbx] at HBOX2 ⊢
              clear hbx
              obtain ⟨kA2, hq⟩ : ∃ b, b = kA := ⟨_, rfl⟩
              rw [← hq] at HBOX2 ⊢
              clear hq
              obtain ⟨nA2, hq⟩ : ∃ b, b = nA := ⟨_, rfl⟩
              rw [← hq] at HBOX2 ⊢
              clear hq
              obtain ⟨cA2, hq⟩ : ∃ b, b = cA := ⟨_, rfl⟩
              rw [← hq] at HBOX2 ⊢
              clear hq
              obtain ⟨vA2, hq⟩ : ∃ b, b = vA := ⟨_, rfl⟩
              rw [← hq] at HBOX2 ⊢
              clear hq
              obtain ⟨mA2, hq⟩ : ∃ b, b = mA := ⟨_, rfl⟩
              rw [← hq] at HBOX2 ⊢
              clear hq
              obtain ⟨dA2, hq⟩ : ∃ b, b = dA := ⟨_, rfl⟩
              rw [← hq] at HBOX2 ⊢
              clear hq
              obtain ⟨iA2, hq⟩ : ∃ b, b = iA := ⟨_, rfl⟩
              rw [← hq] at HBOX2 ⊢
              clear hq
              obtain ⟨jA2, hq⟩ : ∃ b, b = jA := ⟨_, rfl⟩
              rw [← hq] at HBOX2 ⊢
              clear hq
              obtain ⟨lA2, hq⟩ : ∃ b, b = lA := ⟨_, rfl⟩
              rw [← hq] at HBOX2 ⊢
              clear hq
              have HAL := hide HAL1.out
              have HBW : Hid (Below wr.heap.size wr W2) := hide (HBOX1.out.bel.trans (HBOX2.out.bel.mono HBOX1.out.bel.size))
              have HBF : Hid (Below w.heap.size w W2) := hide (HI1.out.bel.trans (HBW.out.mono HI1.out.bel.size))
              clear HS1 HS2 HP1 HP2
              by_cases hca : ca = 0
              case neg =>
                have hx1 : (ca == (0 : Int)) = false := by simpa using hca
                have hx2 : (ca != (0 : Int)) = true := by simpa using hca
                have hx3 : ¬ ca = 0 := hca
                go_wp2
                go_ret
                exact ⟨rfl, HBF.out⟩
              case pos =>
                by_cases hcb : cb = 0
                case neg =>
                  subst hca
                  have hx1 : (cb == (0 : Int)) = false := by simpa using hcb
                  have hx2 : (cb != (0 : Int)) = true := by simpa using hcb
                  go_wp2
                  go_ret
                  exact ⟨rfl, HBF.out⟩
                case pos =>
                  subst hca hcb
                  have HXB : Hid (BlkG W2 bx1 lfa ⟨kA1, nA1, cA1, vA1, mA1, dA1, iA1, jA1, lA1⟩ ∧ BlkG W2 bx2 lfb ⟨kA2, nA2, cA2, vA2, mA2, dA2, iA2, jA2, lA2⟩ ∧ BlkG W2 A true ⟨ka1, kn1, kc1, va1', vn1, vc1, ia1, in1, ic1⟩ ∧ BlkG W2 (A + 1) true ⟨ka2, kn2, kc2, va2', vn2, vc2, ia2, in2, ic2⟩) := hide ⟨(HBOX2.out.bel.block _ (heap_ltN HBOX1.out.blk)).trans HBOX1.out.blk, HBOX2.out.blk, (HZ.out W2 HBW.out).1.1, (HZ.out W2 HBW.out).2.1⟩
                  have HNX : Hid (NwG W2 (A + 1) ⟨kA1, nA1, cA1, vA1, mA1, dA1, iA1, jA1, lA1⟩ ⟨lfa, ksa, vsa, ida⟩ ∧ NwG W2 (A + 1) ⟨kA2, nA2, cA2, vA2, mA2, dA2, iA2, jA2, lA2⟩ ⟨lfb, ksb, vsb, idb⟩) := hide ⟨HBOX1.out.nw.below HBOX2.out.bel, HBOX2.out.nw⟩
                  have HNE : Hid (A + 1 < bx1 ∧ A + 1 < bx2) := hide ⟨Nat.lt_of_lt_of_le HAL.out HBOX1.out.low, Nat.lt_of_lt_of_le HAL.out (Nat.le_trans HBOX1.out.bel.size HBOX2.out.low)⟩
                  clear HBOX1 HBOX2 HZ
                  go_wp2_with fail
                  have HSQ : Hid (∀ W : World, W.heap[bx1]? = W2.heap[bx1]? → W.heap[bx2]? = W2.heap[bx2]? → (W.cell? ⟨bx1, 0, none⟩ = some (.bool lfa) ∧ W.cell? ⟨bx1, 1, none⟩ = some (.slice kA1 nA1 cA1) ∧ W.cell? ⟨bx1, 2, none⟩ = some (.slice vA1 mA1 dA1) ∧ W.cell? ⟨bx1, 3, none⟩ = some (.slice iA1 jA1 lA1) ∧ W.cell? ⟨bx2, 0, none⟩ = some (.bool lfb) ∧ W.cell? ⟨bx2, 1, none⟩ = some (.slice kA2 nA2 cA2) ∧ W.cell? ⟨bx2, 2, none⟩ = some (.slice vA2 mA2 dA2) ∧ W.cell? ⟨bx2, 3, none⟩ = some (.slice iA2 jA2 lA2))) := hide (fun W h1 h2 => by
                    obtain ⟨g0, g1, g2, g3⟩ := BlkG.cells (h1.trans HXB.out.1)
                    obtain ⟨g4, g5, g6, g7⟩ := BlkG.cells (h2.trans HXB.out.2.1)
                    exact ⟨g0, g1, g2, g3, g4, g5, g6, g7⟩)
                  have HD2 : Hid (W2.drew.heap[bx1]? = W2.heap[bx1]?) := hide rfl
                  refine wp_region_held_drew (S := fun W : World => W.cell? ⟨bx1, 0, none⟩ = some (.bool lfa) ∧ W.cell? ⟨bx1, 1, none⟩ = some (.slice kA1 nA1 cA1) ∧ W.cell? ⟨bx1, 2, none⟩ = some (.slice vA1 mA1 dA1) ∧ W.cell? ⟨bx1, 3, none⟩ = some (.slice iA1 jA1 lA1) ∧ W.cell? ⟨bx2, 0, none⟩ = some (.bool lfb) ∧ W.cell? ⟨bx2, 1, none⟩ = some (.slice kA2 nA2 cA2) ∧ W.cell? ⟨bx2, 2, none⟩ = some (.slice vA2 mA2 dA2) ∧ W.cell? ⟨bx2, 3, none⟩ = some (.slice iA2 jA2 lA2)) (by kernel_rfl) ?hSz1 (fun hHeld => ?_)
                  case hSz1 => exact HSQ.out _ HD2.out rfl
                  refine hTake (i := 0) (v := ?v0z1) (some 94) rfl rfl (by kernel_rfl) (by kernel_rfl) (by kernel_rfl) (fun _ _ _ h => h) (by rfl) (by assumption) ?hy0z1 ?hn0z1
                  case hy0z1 => (intro w hSw; (try dsimp only at hSw); skip; go_simp; try with_reducible rfl)
                  try simp only [Act.put, List.setIfInBounds_toArray, List.set_cons_zero, List.set_cons_succ]
                  refine hTake (i := 1) (v := ?v1z1) (some 95) rfl rfl (by kernel_rfl) (by kernel_rfl) (by kernel_rfl) (fun _ _ _ h => h) (by rfl) (by assumption) ?hy1z1 ?hn1z1
                  case hy1z1 => (intro w hSw; (try dsimp only at hSw); skip; go_simp; try with_reducible rfl)
                  try simp only [Act.put, List.setIfInBounds_toArray, List.set_cons_zero, List.set_cons_succ]
                  obtain ⟨Wd, hWd⟩ : ∃ Wd, Wd = W2.drew := ⟨_, rfl⟩
                  have HXD : Hid (BlkG Wd A true ⟨ka1, kn1, kc1, va1', vn1, vc1, ia1, in1, ic1⟩ ∧ BlkG Wd (A + 1) true ⟨ka2, kn2, kc2, va2', vn2, vc2, ia2, in2, ic2⟩ ∧ Below W2.heap.size W2 Wd ∧ Wd.heap[bx1]? = W2.heap[bx1]? ∧ Wd.heap[bx2]? = W2.heap[bx2]?) := hide (by rw [hWd]; exact ⟨HXB.out.2.2.1, HXB.out.2.2.2, (Below.refl _ W2).drew, rfl, rfl⟩)
                  rw [← hWd]
                  clear hWd
                  have z0 : Wd.cell? ⟨A, 0, none⟩ = some (.bool true) := cell_blkN HXD.out.1 rfl
                  have z1 : Wd.cell? ⟨A, 1, none⟩ = some (.slice ka1 kn1 kc1) := cell_blkN HXD.out.1 rfl
                  have z2 : Wd.cell? ⟨A, 2, none⟩ = some (.slice va1' vn1 vc1) := cell_blkN HXD.out.1 rfl
                  have z3 : Wd.cell? ⟨A, 3, none⟩ = some (.slice ia1 in1 ic1) := cell_blkN HXD.out.1 rfl
                  have f0 := frzN HXD.out.1 0
                  have f1 := frzN HXD.out.1 1
                  have f2 := frzN HXD.out.1 2
                  have f3 := frzN HXD.out.1 3
                  obtain ⟨W3, hW3⟩ : ∃ W, W = ((((Wd.setCell ⟨A, 0, none⟩ (.bool lfa)).setCell ⟨A, 1, none⟩ (.slice kA1 nA1 cA1)).setCell ⟨A, 2, none⟩ (.slice vA1 mA1 dA1)).setCell ⟨A, 3, none⟩ (.slice iA1 jA1 lA1)) := ⟨_, rfl⟩
                  have HW3 := hide hW3
                  have HSQW3 := hide (HSQ.out W3 (by rw [HW3.out]; exact (out4 (by have := HNE.out; omega) _ _ _ _).trans HXD.out.2.2.2.1) (by rw [HW3.out]; exact (out4 (by have := HNE.out; omega) _ _ _ _).trans HXD.out.2.2.2.2))
                  have HY3 : Hid (W3.heap[A + 1]? = some (.cells (pgc true ⟨ka2, kn2, kc2, va2', vn2, vc2, ia2, in2, ic2⟩) 25 (0, 0))) := hide (by rw [HW3.out]; exact (out4 (by omega) _ _ _ _).trans HXD.out.2.1)
                  refine hOne (i := 2) rfl (by kernel_rfl) (fun K hK => ?_)
                  go_simp
                  rw [← hW3]
                  clear hW3 z0 f0 z1 f1 z2 f2 z3 f3
                  refine hK.out _ _ (HSQW3.out) (fun hHeld => ?_)
                  clear hK K
                  try simp only [Act.put, List.setIfInBounds_toArray, List.set_cons_zero, List.set_cons_succ]
                  have z0 : W3.cell? ⟨A + 1, 0, none⟩ = some (.bool true) := cell_blkN HY3.out rfl
                  have z1 : W3.cell? ⟨A + 1, 1, none⟩ = some (.slice ka2 kn2 kc2) := cell_blkN HY3.out rfl
                  have z2 : W3.cell? ⟨A + 1, 2, none⟩ = some (.slice va2' vn2 vc2) := cell_blkN HY3.out rfl
                  have z3 : W3.cell? ⟨A + 1, 3, none⟩ = some (.slice ia2 in2 ic2) := cell_blkN HY3.out rfl
                  have f0 := frzN HY3.out 0
                  have f1 := frzN HY3.out 1
                  have f2 := frzN HY3.out 2
                  have f3 := frzN HY3.out 3
                  obtain ⟨W4, hW4⟩ : ∃ W, W = ((((W3.setCell ⟨A + 1, 0, none⟩ (.bool lfb)).setCell ⟨A + 1, 1, none⟩ (.slice kA2 nA2 cA2)).setCell ⟨A + 1, 2, none⟩ (.slice vA2 mA2 dA2)).setCell ⟨A + 1, 3, none⟩ (.slice iA2 jA2 lA2)) := ⟨_, rfl⟩
                  have HW4 := hide hW4
                  have HSQW4 := hide (HSQ.out W4 (by rw [HW4.out, HW3.out]; exact ((out4 (by have := HNE.out; omega) _ _ _ _).trans (out4 (by have := HNE.out; omega) _ _ _ _)).trans HXD.out.2.2.2.1) (by rw [HW4.out, HW3.out]; exact ((out4 (by have := HNE.out; omega) _ _ _ _).trans (out4 (by have := HNE.out; omega) _ _ _ _)).trans HXD.out.2.2.2.2))
                  refine hOne (i := 3) rfl (by kernel_rfl) (fun K hK => ?_)
                  go_simp
                  rw [← hW4]
                  clear hW4 z0 f0 z1 f1 z2 f2 z3 f3
                  refine hK.out _ _ (HSQW4.out) (fun hHeld => ?_)
                  clear hK K
                  try simp only [Act.put, List.setIfInBounds_toArray, List.set_cons_zero, List.set_cons_succ]
                  refine wpAnyH_done (by kernel_rfl) ?_ _
                  have HBX1 : Hid (W4.heap[A]? = some (.cells (pgc lfa ⟨kA1, nA1, cA1, vA1, mA1, dA1, iA1, jA1, lA1⟩) 25 (0, 0))) := hide (by
                    rw [HW4.out, HW3.out]
                    exact (out4 (by omega) _ _ _ _).trans (blk4 HXD.out.1 _ _ _ _))
                  have HBX2 : Hid (W4.heap[A + 1]? = some (.cells (pgc lfb ⟨kA2, nA2, cA2, vA2, mA2, dA2, iA2, jA2, lA2⟩) 25 (0, 0))) := hide (by
                    rw [HW4.out]
                    exact blk4 HY3.out _ _ _ _)
                  have HNY : Hid (NwG W4 (A + 1) ⟨kA1, nA1, cA1, vA1, mA1, dA1, iA1, jA1, lA1⟩ ⟨lfa, ksa, vsa, ida⟩ ∧ NwG W4 (A + 1) ⟨kA2, nA2, cA2, vA2, mA2, dA2, iA2, jA2, lA2⟩ ⟨lfb, ksb, vsb, idb⟩) := hide (by
                    rw [HW4.out, HW3.out]
                    exact ⟨((HNX.out.1.below HXD.out.2.2.1).set4 (by omega) _ _ _ _).set4 (by omega) _ _ _ _, ((HNX.out.2.below HXD.out.2.2.1).set4 (by omega) _ _ _ _).set4 (by omega) _ _ _ _⟩)
                  have HB4 : Hid (Below w.heap.size w W4) := hide (by
                    rw [HW4.out, HW3.out]
                    exact below4 (below4 (HBF.out.trans (HXD.out.2.2.1.mono HBF.out.size)) HI1.out.low _ _ _ _) (Nat.le_succ_of_le HI1.out.low) _ _ _ _)
                  clear HW3 HW4 HY3 HXD HSQ HD2 HSQW3 HSQW4 HXB HNX HBW HBF hHeld
                  have HPA1 : Hid (checkE (putP pa (K.getD i []) (V.getD i [])) = 0 ∧ (⟨lfa, ksa, vsa, ida⟩ : Pg) = putP pa (K.getD i []) (V.getD i [])) := hide (by
                    have h1 := HPA.out
                    have h2 := putR_ok (p := pa) (key := K.getD i []) (val := V.getD i []) (by rw [← h1])
                    rw [h2.2.2] at h1
                    exact ⟨h2.2.1, congrArg Prod.fst h1⟩)
                  have HPB1 : Hid (checkE (putP pb (K.getD k []) (V.getD k [])) = 0 ∧ (⟨lfb, ksb, vsb, idb⟩ : Pg) = putP pb (K.getD k []) (V.getD k [])) := hide (by
                    have h1 := HPB.out
                    have h2 := putR_ok (p := pb) (key := K.getD k []) (val := V.getD k []) (by rw [← h1])
                    rw [h2.2.2] at h1
                    exact ⟨h2.2.1, congrArg Prod.fst h1⟩)
                  have HLA : Hid (Lf ⟨lfa, ksa, vsa, ida⟩ (upS K V id (i + 1)) (i + 1)) := hide (by
                    rw [HPA1.out.2]
                    exact lf_step (N := n) (f := id) HI1.out.la hlt (fun t ht => ⟨Nat.lt_trans ht hlt, Nat.ne_of_lt ht⟩) HD.out HPA1.out.1)
                  have HLB : Hid (Lf ⟨lfb, ksb, vsb, idb⟩ (upS K V (rotN n r) (i + 1)) (i + 1)) := hide (by
                    rw [HPB1.out.2, HKR.out]
                    have h1 := HPB1.out.1
                    rw [HKR.out] at h1
                    exact lf_step (N := n) (f := rotN n r) HI1.out.lb (rot_lt (by omega)) (fun t ht => ⟨rot_lt (by omega), rot_ne ht hlt⟩) HD.out h1)
                  have HLF : Hid (lfa = true ∧ lfb = true) := hide ⟨(leafE_0 HLA.out.ok).2, (leafE_0 HLB.out.ok).2⟩
                  have HFW : Hid (FewP ⟨kA1, nA1, cA1, vA1, mA1, dA1, iA1, jA1, lA1⟩ ∧ FewP ⟨kA2, nA2, cA2, vA2, mA2, dA2, iA2, jA2, lA2⟩) := hide (by
                    have h1 := check_few (leafE_0 HLA.out.ok).1
                    have h2 := check_few (leafE_0 HLB.out.ok).1
                    have g1 := HNY.out.1
                    have g2 := HNY.out.2
                    exact ⟨⟨by rw [← g1.keys.is.1]; exact Nat.le_trans h1.1 (by decide), by rw [← g1.vals.is.1]; exact Nat.le_trans h1.2.1 (by decide), by rw [← g1.kids.1]; exact Nat.le_trans h1.2.2 (by decide)⟩, ⟨by rw [← g2.keys.is.1]; exact Nat.le_trans h2.1 (by decide), by rw [← g2.vals.is.1]; exact Nat.le_trans h2.2.1 (by decide), by rw [← g2.kids.1]; exact Nat.le_trans h2.2.2 (by decide)⟩⟩)
                  have HRL : Hid (SmB w A K V n r (i + 1) ⟨kA1, nA1, cA1, vA1, mA1, dA1, iA1, jA1, lA1⟩ ⟨kA2, nA2, cA2, vA2, mA2, dA2, iA2, jA2, lA2⟩ ⟨lfa, ksa, vsa, ida⟩ ⟨lfb, ksb, vsb, idb⟩ W4) := hide (by
                    have e1 := HLF.out.1
                    have e2 := HLF.out.2
                    have x1 := HBX1.out
                    have x2 := HBX2.out
                    rw [e1] at x1
                    rw [e2] at x2
                    exact ⟨HB4.out, HI1.out.low, x1, x2, HNY.out.1, HNY.out.2, HFW.out.1, HFW.out.2, HLA.out, HLB.out⟩)
                  clear HBX1 HBX2 HNY HB4 HPA1 HPB1 HLA HLB HLF HFW
                  go_wp2
                  go_roundw
                  case rel => exact ⟨i + 1, ⟨kA1, nA1, cA1, vA1, mA1, dA1, iA1, jA1, lA1⟩, ⟨kA2, nA2, cA2, vA2, mA2, dA2, iA2, jA2, lA2⟩, ⟨lfa, ksa, vsa, ida⟩, ⟨lfb, ksb, vsb, idb⟩, by omega, by simp, hide HRL.out⟩
                  case measure => simp [intOf]; omega
            · go_simp
              have HBv : Hid (Below W1.heap.size W1 (W1.alloc (.cells pg0c 25)).drew) := hide ((Below.refl _ W1).alloc (Nat.le_refl _) _).drew
              refine hK.out _ _ (HS2.out _ HBv.out) (fun hHeld => ?_)
              clear hK K
              try simp only [Act.put, List.setIfInBounds_toArray, List.set_cons_zero, List.set_cons_succ]
              refine hOne (i := 9) rfl (by kernel_rfl) (fun K hK => ?_)
              go_simp
              refine ((HP2.out _ (HBOX1.out.bel.trans ((HBv.out).mono HBOX1.out.bel.size))).mono ?_)
              rintro e w2 ⟨⟨kA, nA, cA, vA, mA, dA, iA, jA, lA⟩, rfl, hn1, hb2⟩
              have HN1 := hide hn1
              have HB2 := hide hb2
              clear hn1 hb2
              have HQ1 : Hid (Below W1.heap.size W1 w2) := hide (HBv.out.trans (HB2.out.mono HBv.out.size))
              refine hK.out _ _ (HS2.out _ HQ1.out) (fun hHeld => ?_)
              clear hK K
              try simp only [Act.put, List.setIfInBounds_toArray, List.set_cons_zero, List.set_cons_succ]
              refine hTake (i := 10) (v := ?v10q2Bu2) (some 75) rfl rfl (by kernel_rfl) (by kernel_rfl) (by kernel_rfl) (fun _ _ _ h => h) (by rfl) (by assumption) ?hy10q2Bu2 ?hn10q2Bu2
              case hy10q2Bu2 => (intro w hSw; (try dsimp only at hSw); skip; go_simp; try with_reducible rfl)
              try simp only [Act.put, List.setIfInBounds_toArray, List.set_cons_zero, List.set_cons_succ]
              refine hTake (i := 11) (v := ?v11q2Bu2) (some 86) rfl rfl (by kernel_rfl) (by kernel_rfl) (by kernel_rfl) (fun _ _ _ h => h) (by rfl) (by assumption) ?hy11q2Bu2 ?hn11q2Bu2
              case hy11q2Bu2 => (intro w hSw; (try dsimp only at hSw); skip; go_simp; try with_reducible rfl)
              try simp only [Act.put, List.setIfInBounds_toArray, List.set_cons_zero, List.set_cons_succ]
              refine hTake (i := 12) (v := ?v12q2Bu2) (some 87) rfl rfl (by kernel_rfl) (by kernel_rfl) (by kernel_rfl) (fun _ _ _ h => h) (by rfl) (by assumption) ?hy12q2Bu2 ?hn12q2Bu2
              case hy12q2Bu2 => (intro w hSw; (try dsimp only at hSw); skip; go_simp; try with_reducible rfl)
              try simp only [Act.put, List.setIfInBounds_toArray, List.set_cons_zero, List.set_cons_succ]
              have HBX := hide (boxB_blk HB2.out)
              have HBOX := hide (boxB (G := A + 1) (lf := lfb) HAL.out HN1.out HB2.out)
              dsimp only at HBOX
              obtain ⟨bx, hbx⟩ : ∃ bx, bx = W1.heap.size := ⟨_, rfl⟩
              rw [← hbx] at HBX HBOX ⊢
              clear HN1 HB2 HQ1 HBv
              obtain ⟨W0, hW0⟩ : ∃ W0, W0 = w2 := ⟨_, rfl⟩
              rw [← hW0] at HBX HBOX ⊢
              clear hW0 hbx
              have z0 : W0.cell? ⟨bx, 0, none⟩ = some (.bool false) := cell_blkN HBX.out rfl
              have f0 := frzN HBX.out 0
              have z1 : W0.cell? ⟨bx, 1, none⟩ = some (.slice none 0 0) := cell_blkN HBX.out rfl
              have f1 := frzN HBX.out 1
              have z2 : W0.cell? ⟨bx, 2, none⟩ = some (.slice none 0 0) := cell_blkN HBX.out rfl
              have f2 := frzN HBX.out 2
              have z3 : W0.cell? ⟨bx, 3, none⟩ = some (.slice none 0 0) := cell_blkN HBX.out rfl
              have f3 := frzN HBX.out 3
              refine hOne (i := 14) rfl (by kernel_rfl) (fun K hK => ?_)
              go_simp
              clear z0 z1 z2 z3 f0 f1 f2 f3
              refine hK.out _ _ (HS2.out _ HBOX.out.bel) (fun hHeld => ?_)
              clear hK K
              try simp only [Act.put, List.setIfInBounds_toArray, List.set_cons_zero, List.set_cons_succ]
              refine hOne (i := 15) rfl (by kernel_rfl) (fun K hK => ?_)
              go_simp
              refine hK.out _ _ (HS2.out _ HBOX.out.bel) (fun hHeld => ?_)
              clear hK K
              try simp only [Act.put, List.setIfInBounds_toArray, List.set_cons_zero, List.set_cons_succ]
              refine wpAnyH_done (by kernel_rfl) ?_ _
              obtain ⟨W2, hW2⟩ : ∃ W2, W2 = ((((W0.setCell ⟨bx, 0, none⟩ (.bool lfb)).setCell ⟨bx, 1, none⟩ (.slice kA nA cA)).setCell ⟨bx, 2, none⟩ (.slice vA mA dA)).setCell ⟨bx, 3, none⟩ (.slice iA jA lA)) := ⟨_, rfl⟩
              rw [show set4 W0 bx (.bool lfb) (.slice kA nA cA) (.slice vA mA dA) (.slice iA jA lA) = W2 from hW2.symm] at HBOX
              rw [← hW2]
              clear hW2 HBX hHeld
              have HBOX2 := hide HBOX.out
              clear HBOX
              obtain ⟨bx2, hbx⟩ : ∃ b, b = bx := ⟨_, rfl⟩
              rw [← hbx] at HBOX2 ⊢
              clear hbx
              obtain ⟨kA2, hq⟩ : ∃ b, b = kA := ⟨_, rfl⟩
              rw [← hq] at HBOX2 ⊢
              clear hq
              obtain ⟨nA2, hq⟩ : ∃ b, b = nA := ⟨_, rfl⟩
              rw [← hq] at HBOX2 ⊢
              clear hq
              obtain ⟨cA2, hq⟩ : ∃ b, b = cA := ⟨_, rfl⟩
              rw [← hq] at HBOX2 ⊢
              clear hq
              obtain ⟨vA2, hq⟩ : ∃ b, b = vA := ⟨_, rfl⟩
              rw [← hq] at HBOX2 ⊢
              clear hq
              obtain ⟨mA2, hq⟩ : ∃ b, b = mA := ⟨_, rfl⟩
              rw [← hq] at HBOX2 ⊢
              clear hq
              obtain ⟨dA2, hq⟩ : ∃ b, b = dA := ⟨_, rfl⟩
              rw [← hq] at HBOX2 ⊢
              clear hq
              obtain ⟨iA2, hq⟩ : ∃ b, b = iA := ⟨_, rfl⟩
              rw [← hq] at HBOX2 ⊢
              clear hq
              obtain ⟨jA2, hq⟩ : ∃ b, b = jA := ⟨_, rfl⟩
              rw [← hq] at HBOX2 ⊢
              clear hq
              obtain ⟨lA2, hq⟩ : ∃ b, b = lA := ⟨_, rfl⟩
              rw [← hq] at HBOX2 ⊢
              clear hq
              have HAL := hide HAL1.out
              have HBW : Hid (Below wr.heap.size wr W2) := hide (HBOX1.out.bel.trans (HBOX2.out.bel.mono HBOX1.out.bel.size))
              have HBF : Hid (Below w.heap.size w W2) := hide (HI1.out.bel.trans (HBW.out.mono HI1.out.bel.size))
              clear HS1 HS2 HP1 HP2
              by_cases hca : ca = 0
              case neg =>
                have hx1 : (ca == (0 : Int)) = false := by simpa using hca
                have hx2 : (ca != (0 : Int)) = true := by simpa using hca
                have hx3 : ¬ ca = 0 := hca
                go_wp2
                go_ret
                exact ⟨rfl, HBF.out⟩
              case pos =>
                by_cases hcb : cb = 0
                case neg =>
                  subst hca
                  have hx1 : (cb == (0 : Int)) = false := by simpa using hcb
                  have hx2 : (cb != (0 : Int)) = true := by simpa using hcb
                  go_wp2
                  go_ret
                  exact ⟨rfl, HBF.out⟩
                case pos =>
                  subst hca hcb
                  have HXB : Hid (BlkG W2 bx1 lfa ⟨kA1, nA1, cA1, vA1, mA1, dA1, iA1, jA1, lA1⟩ ∧ BlkG W2 bx2 lfb ⟨kA2, nA2, cA2, vA2, mA2, dA2, iA2, jA2, lA2⟩ ∧ BlkG W2 A true ⟨ka1, kn1, kc1, va1', vn1, vc1, ia1, in1, ic1⟩ ∧ BlkG W2 (A + 1) true ⟨ka2, kn2, kc2, va2', vn2, vc2, ia2, in2, ic2⟩) := hide ⟨(HBOX2.out.bel.block _ (heap_ltN HBOX1.out.blk)).trans HBOX1.out.blk, HBOX2.out.blk, (HZ.out W2 HBW.out).1.1, (HZ.out W2 HBW.out).2.1⟩
                  have HNX : Hid (NwG W2 (A + 1) ⟨kA1, nA1, cA1, vA1, mA1, dA1, iA1, jA1, lA1⟩ ⟨lfa, ksa, vsa, ida⟩ ∧ NwG W2 (A + 1) ⟨kA2, nA2, cA2, vA2, mA2, dA2, iA2, jA2, lA2⟩ ⟨lfb, ksb, vsb, idb⟩) := hide ⟨HBOX1.out.nw.below HBOX2.out.bel, HBOX2.out.nw⟩
                  have HNE : Hid (A + 1 < bx1 ∧ A + 1 < bx2) := hide ⟨Nat.lt_of_lt_of_le HAL.out HBOX1.out.low, Nat.lt_of_lt_of_le HAL.out (Nat.le_trans HBOX1.out.bel.size HBOX2.out.low)⟩
                  clear HBOX1 HBOX2 HZ
                  go_wp2_with fail
                  have HSQ : Hid (∀ W : World, W.heap[bx1]? = W2.heap[bx1]? → W.heap[bx2]? = W2.heap[bx2]? → (W.cell? ⟨bx1, 0, none⟩ = some (.bool lfa) ∧ W.cell? ⟨bx1, 1, none⟩ = some (.slice kA1 nA1 cA1) ∧ W.cell? ⟨bx1, 2, none⟩ = some (.slice vA1 mA1 dA1) ∧ W.cell? ⟨bx1, 3, none⟩ = some (.slice iA1 jA1 lA1) ∧ W.cell? ⟨bx2, 0, none⟩ = some (.bool lfb) ∧ W.cell? ⟨bx2, 1, none⟩ = some (.slice kA2 nA2 cA2) ∧ W.cell? ⟨bx2, 2, none⟩ = some (.slice vA2 mA2 dA2) ∧ W.cell? ⟨bx2, 3, none⟩ = some (.slice iA2 jA2 lA2))) := hide (fun W h1 h2 => by
                    obtain ⟨g0, g1, g2, g3⟩ := BlkG.cells (h1.trans HXB.out.1)
                    obtain ⟨g4, g5, g6, g7⟩ := BlkG.cells (h2.trans HXB.out.2.1)
                    exact ⟨g0, g1, g2, g3, g4, g5, g6, g7⟩)
                  have HD2 : Hid (W2.drew.heap[bx1]? = W2.heap[bx1]?) := hide rfl
                  refine wp_region_held_drew (S := fun W : World => W.cell? ⟨bx1, 0, none⟩ = some (.bool lfa) ∧ W.cell? ⟨bx1, 1, none⟩ = some (.slice kA1 nA1 cA1) ∧ W.cell? ⟨bx1, 2, none⟩ = some (.slice vA1 mA1 dA1) ∧ W.cell? ⟨bx1, 3, none⟩ = some (.slice iA1 jA1 lA1) ∧ W.cell? ⟨bx2, 0, none⟩ = some (.bool lfb) ∧ W.cell? ⟨bx2, 1, none⟩ = some (.slice kA2 nA2 cA2) ∧ W.cell? ⟨bx2, 2, none⟩ = some (.slice vA2 mA2 dA2) ∧ W.cell? ⟨bx2, 3, none⟩ = some (.slice iA2 jA2 lA2)) (by kernel_rfl) ?hSz2 (fun hHeld => ?_)
                  case hSz2 => exact HSQ.out _ HD2.out rfl
                  refine hTake (i := 0) (v := ?v0z2) (some 94) rfl rfl (by kernel_rfl) (by kernel_rfl) (by kernel_rfl) (fun _ _ _ h => h) (by rfl) (by assumption) ?hy0z2 ?hn0z2
                  case hy0z2 => (intro w hSw; (try dsimp only at hSw); skip; go_simp; try with_reducible rfl)
                  try simp only [Act.put, List.setIfInBounds_toArray, List.set_cons_zero, List.set_cons_succ]
                  refine hTake (i := 1) (v := ?v1z2) (some 95) rfl rfl (by kernel_rfl) (by kernel_rfl) (by kernel_rfl) (fun _ _ _ h => h) (by rfl) (by assumption) ?hy1z2 ?hn1z2
                  case hy1z2 => (intro w hSw; (try dsimp only at hSw); skip; go_simp; try with_reducible rfl)
                  try simp only [Act.put, List.setIfInBounds_toArray, List.set_cons_zero, List.set_cons_succ]
                  obtain ⟨Wd, hWd⟩ : ∃ Wd, Wd = W2.drew := ⟨_, rfl⟩
                  have HXD : Hid (BlkG Wd A true ⟨ka1, kn1, kc1, va1', vn1, vc1, ia1, in1, ic1⟩ ∧ BlkG Wd (A + 1) true ⟨ka2, kn2, kc2, va2', vn2, vc2, ia2, in2, ic2⟩ ∧ Below W2.heap.size W2 Wd ∧ Wd.heap[bx1]? = W2.heap[bx1]? ∧ Wd.heap[bx2]? = W2.heap[bx2]?) := hide (by rw [hWd]; exact ⟨HXB.out.2.2.1, HXB.out.2.2.2, (Below.refl _ W2).drew, rfl, rfl⟩)
                  rw [← hWd]
                  clear hWd
                  have z0 : Wd.cell? ⟨A, 0, none⟩ = some (.bool true) := cell_blkN HXD.out.1 rfl
                  have z1 : Wd.cell? ⟨A, 1, none⟩ = some (.slice ka1 kn1 kc1) := cell_blkN HXD.out.1 rfl
                  have z2 : Wd.cell? ⟨A, 2, none⟩ = some (.slice va1' vn1 vc1) := cell_blkN HXD.out.1 rfl
                  have z3 : Wd.cell? ⟨A, 3, none⟩ = some (.slice ia1 in1 ic1) := cell_blkN HXD.out.1 rfl
                  have f0 := frzN HXD.out.1 0
                  have f1 := frzN HXD.out.1 1
                  have f2 := frzN HXD.out.1 2
                  have f3 := frzN HXD.out.1 3
                  obtain ⟨W3, hW3⟩ : ∃ W, W = ((((Wd.setCell ⟨A, 0, none⟩ (.bool lfa)).setCell ⟨A, 1, none⟩ (.slice kA1 nA1 cA1)).setCell ⟨A, 2, none⟩ (.slice vA1 mA1 dA1)).setCell ⟨A, 3, none⟩ (.slice iA1 jA1 lA1)) := ⟨_, rfl⟩
                  have HW3 := hide hW3
                  have HSQW3 := hide (HSQ.out W3 (by rw [HW3.out]; exact (out4 (by have := HNE.out; omega) _ _ _ _).trans HXD.out.2.2.2.1) (by rw [HW3.out]; exact (out4 (by have := HNE.out; omega) _ _ _ _).trans HXD.out.2.2.2.2))
                  have HY3 : Hid (W3.heap[A + 1]? = some (.cells (pgc true ⟨ka2, kn2, kc2, va2', vn2, vc2, ia2, in2, ic2⟩) 25 (0, 0))) := hide (by rw [HW3.out]; exact (out4 (by omega) _ _ _ _).trans HXD.out.2.1)
                  refine hOne (i := 2) rfl (by kernel_rfl) (fun K hK => ?_)
                  go_simp
                  rw [← hW3]
                  clear hW3 z0 f0 z1 f1 z2 f2 z3 f3
                  refine hK.out _ _ (HSQW3.out) (fun hHeld => ?_)
                  clear hK K
                  try simp only [Act.put, List.setIfInBounds_toArray, List.set_cons_zero, List.set_cons_succ]
                  have z0 : W3.cell? ⟨A + 1, 0, none⟩ = some (.bool true) := cell_blkN HY3.out rfl
                  have z1 : W3.cell? ⟨A + 1, 1, none⟩ = some (.slice ka2 kn2 kc2) := cell_blkN HY3.out rfl
                  have z2 : W3.cell? ⟨A + 1, 2, none⟩ = some (.slice va2' vn2 vc2) := cell_blkN HY3.out rfl
                  have z3 : W3.cell? ⟨A + 1, 3, none⟩ = some (.slice ia2 in2 ic2) := cell_blkN HY3.out rfl
                  have f0 := frzN HY3.out 0
                  have f1 := frzN HY3.out 1
                  have f2 := frzN HY3.out 2
                  have f3 := frzN HY3.out 3
                  obtain ⟨W4, hW4⟩ : ∃ W, W = ((((W3.setCell ⟨A + 1, 0, none⟩ (.bool lfb)).setCell ⟨A + 1, 1, none⟩ (.slice kA2 nA2 cA2)).setCell ⟨A + 1, 2, none⟩ (.slice vA2 mA2 dA2)).setCell ⟨A + 1, 3, none⟩ (.slice iA2 jA2 lA2)) := ⟨_, rfl⟩
                  have HW4 := hide hW4
                  have HSQW4 := hide (HSQ.out W4 (by rw [HW4.out, HW3.out]; exact ((out4 (by have := HNE.out; omega) _ _ _ _).trans (out4 (by have := HNE.out; omega) _ _ _ _)).trans HXD.out.2.2.2.1) (by rw [HW4.out, HW3.out]; exact ((out4 (by have := HNE.out; omega) _ _ _ _).trans (out4 (by have := HNE.out; omega) _ _ _ _)).trans HXD.out.2.2.2.2))
                  refine hOne (i := 3) rfl (by kernel_rfl) (fun K hK => ?_)
                  go_simp
                  rw [← hW4]
                  clear hW4 z0 f0 z1 f1 z2 f2 z3 f3
                  refine hK.out _ _ (HSQW4.out) (fun hHeld => ?_)
                  clear hK K
                  try simp only [Act.put, List.setIfInBounds_toArray, List.set_cons_zero, List.set_cons_succ]
                  refine wpAnyH_done (by kernel_rfl) ?_ _
                  have HBX1 : Hid (W4.heap[A]? = some (.cells (pgc lfa ⟨kA1, nA1, cA1, vA1, mA1, dA1, iA1, jA1, lA1⟩) 25 (0, 0))) := hide (by
                    rw [HW4.out, HW3.out]
                    exact (out4 (by omega) _ _ _ _).trans (blk4 HXD.out.1 _ _ _ _))
                  have HBX2 : Hid (W4.heap[A + 1]? = some (.cells (pgc lfb ⟨kA2, nA2, cA2, vA2, mA2, dA2, iA2, jA2, lA2⟩) 25 (0, 0))) := hide (by
                    rw [HW4.out]
                    exact blk4 HY3.out _ _ _ _)
                  have HNY : Hid (NwG W4 (A + 1) ⟨kA1, nA1, cA1, vA1, mA1, dA1, iA1, jA1, lA1⟩ ⟨lfa, ksa, vsa, ida⟩ ∧ NwG W4 (A + 1) ⟨kA2, nA2, cA2, vA2, mA2, dA2, iA2, jA2, lA2⟩ ⟨lfb, ksb, vsb, idb⟩) := hide (by
                    rw [HW4.out, HW3.out]
                    exact ⟨((HNX.out.1.below HXD.out.2.2.1).set4 (by omega) _ _ _ _).set4 (by omega) _ _ _ _, ((HNX.out.2.below HXD.out.2.2.1).set4 (by omega) _ _ _ _).set4 (by omega) _ _ _ _⟩)
                  have HB4 : Hid (Below w.heap.size w W4) := hide (by
                    rw [HW4.out, HW3.out]
                    exact below4 (below4 (HBF.out.trans (HXD.out.2.2.1.mono HBF.out.size)) HI1.out.low _ _ _ _) (Nat.le_succ_of_le HI1.out.low) _ _ _ _)
                  clear HW3 HW4 HY3 HXD HSQ HD2 HSQW3 HSQW4 HXB HNX HBW HBF hHeld
                  have HPA1 : Hid (checkE (putP pa (K.getD i []) (V.getD i [])) = 0 ∧ (⟨lfa, ksa, vsa, ida⟩ : Pg) = putP pa (K.getD i []) (V.getD i [])) := hide (by
                    have h1 := HPA.out
                    have h2 := putR_ok (p := pa) (key := K.getD i []) (val := V.getD i []) (by rw [← h1])
                    rw [h2.2.2] at h1
                    exact ⟨h2.2.1, congrArg Prod.fst h1⟩)
                  have HPB1 : Hid (checkE (putP pb (K.getD k []) (V.getD k [])) = 0 ∧ (⟨lfb, ksb, vsb, idb⟩ : Pg) = putP pb (K.getD k []) (V.getD k [])) := hide (by
                    have h1 := HPB.out
                    have h2 := putR_ok (p := pb) (key := K.getD k []) (val := V.getD k []) (by rw [← h1])
                    rw [h2.2.2] at h1
                    exact ⟨h2.2.1, congrArg Prod.fst h1⟩)
                  have HLA : Hid (Lf ⟨lfa, ksa, vsa, ida⟩ (upS K V id (i + 1)) (i + 1)) := hide (by
                    rw [HPA1.out.2]
                    exact lf_step (N := n) (f := id) HI1.out.la hlt (fun t ht => ⟨Nat.lt_trans ht hlt, Nat.ne_of_lt ht⟩) HD.out HPA1.out.1)
                  have HLB : Hid (Lf ⟨lfb, ksb, vsb, idb⟩ (upS K V (rotN n r) (i + 1)) (i + 1)) := hide (by
                    rw [HPB1.out.2, HKR.out]
                    have h1 := HPB1.out.1
                    rw [HKR.out] at h1
                    exact lf_step (N := n) (f := rotN n r) HI1.out.lb (rot_lt (by omega)) (fun t ht => ⟨rot_lt (by omega), rot_ne ht hlt⟩) HD.out h1)
                  have HLF : Hid (lfa = true ∧ lfb = true) := hide ⟨(leafE_0 HLA.out.ok).2, (leafE_0 HLB.out.ok).2⟩
                  have HFW : Hid (FewP ⟨kA1, nA1, cA1, vA1, mA1, dA1, iA1, jA1, lA1⟩ ∧ FewP ⟨kA2, nA2, cA2, vA2, mA2, dA2, iA2, jA2, lA2⟩) := hide (by
                    have h1 := check_few (leafE_0 HLA.out.ok).1
                    have h2 := check_few (leafE_0 HLB.out.ok).1
                    have g1 := HNY.out.1
                    have g2 := HNY.out.2
                    exact ⟨⟨by rw [← g1.keys.is.1]; exact Nat.le_trans h1.1 (by decide), by rw [← g1.vals.is.1]; exact Nat.le_trans h1.2.1 (by decide), by rw [← g1.kids.1]; exact Nat.le_trans h1.2.2 (by decide)⟩, ⟨by rw [← g2.keys.is.1]; exact Nat.le_trans h2.1 (by decide), by rw [← g2.vals.is.1]; exact Nat.le_trans h2.2.1 (by decide), by rw [← g2.kids.1]; exact Nat.le_trans h2.2.2 (by decide)⟩⟩)
                  have HRL : Hid (SmB w A K V n r (i + 1) ⟨kA1, nA1, cA1, vA1, mA1, dA1, iA1, jA1, lA1⟩ ⟨kA2, nA2, cA2, vA2, mA2, dA2, iA2, jA2, lA2⟩ ⟨lfa, ksa, vsa, ida⟩ ⟨lfb, ksb, vsb, idb⟩ W4) := hide (by
                    have e1 := HLF.out.1
                    have e2 := HLF.out.2
                    have x1 := HBX1.out
                    have x2 := HBX2.out
                    rw [e1] at x1
                    rw [e2] at x2
                    exact ⟨HB4.out, HI1.out.low, x1, x2, HNY.out.1, HNY.out.2, HFW.out.1, HFW.out.2, HLA.out, HLB.out⟩)
                  clear HBX1 HBX2 HNY HB4 HPA1 HPB1 HLA HLB HLF HFW
                  go_wp2
                  go_roundw
                  case rel => exact ⟨i + 1, ⟨kA1, nA1, cA1, vA1, mA1, dA1, iA1, jA1, lA1⟩, ⟨kA2, nA2, cA2, vA2, mA2, dA2, iA2, jA2, lA2⟩, ⟨lfa, ksa, vsa, ida⟩, ⟨lfb, ksb, vsb, idb⟩, by omega, by simp, hide HRL.out⟩
                  case measure => simp [intOf]; omega
          · go_simp
            have HBv : Hid (Below wr.heap.size wr (wr.alloc (.cells pg0c 25)).drew) := hide ((Below.refl _ wr).alloc (Nat.le_refl _) _).drew
            refine hK.out _ _ (HS1.out _ HBv.out) (fun hHeld => ?_)
            clear hK K
            try simp only [Act.put, List.setIfInBounds_toArray, List.set_cons_zero, List.set_cons_succ]
            refine hOne (i := 9) rfl (by kernel_rfl) (fun K hK => ?_)
            go_simp
            refine ((HP1.out _ (HBv.out)).mono ?_)
            rintro e w2 ⟨⟨kA, nA, cA, vA, mA, dA, iA, jA, lA⟩, rfl, hn1, hb2⟩
            have HN1 := hide hn1
            have HB2 := hide hb2
            clear hn1 hb2
            have HQ1 : Hid (Below wr.heap.size wr w2) := hide (HBv.out.trans (HB2.out.mono HBv.out.size))
            refine hK.out _ _ (HS1.out _ HQ1.out) (fun hHeld => ?_)
            clear hK K
            try simp only [Act.put, List.setIfInBounds_toArray, List.set_cons_zero, List.set_cons_succ]
            refine hTake (i := 10) (v := ?v10q1Bu1) (some 62) rfl rfl (by kernel_rfl) (by kernel_rfl) (by kernel_rfl) (fun _ _ _ h => h) (by rfl) (by assumption) ?hy10q1Bu1 ?hn10q1Bu1
            case hy10q1Bu1 => (intro w hSw; (try dsimp only at hSw); skip; go_simp; try with_reducible rfl)
            try simp only [Act.put, List.setIfInBounds_toArray, List.set_cons_zero, List.set_cons_succ]
            refine hTake (i := 11) (v := ?v11q1Bu1) (some 73) rfl rfl (by kernel_rfl) (by kernel_rfl) (by kernel_rfl) (fun _ _ _ h => h) (by rfl) (by assumption) ?hy11q1Bu1 ?hn11q1Bu1
            case hy11q1Bu1 => (intro w hSw; (try dsimp only at hSw); skip; go_simp; try with_reducible rfl)
            try simp only [Act.put, List.setIfInBounds_toArray, List.set_cons_zero, List.set_cons_succ]
            refine hTake (i := 12) (v := ?v12q1Bu1) (some 74) rfl rfl (by kernel_rfl) (by kernel_rfl) (by kernel_rfl) (fun _ _ _ h => h) (by rfl) (by assumption) ?hy12q1Bu1 ?hn12q1Bu1
            case hy12q1Bu1 => (intro w hSw; (try dsimp only at hSw); skip; go_simp; try with_reducible rfl)
            try simp only [Act.put, List.setIfInBounds_toArray, List.set_cons_zero, List.set_cons_succ]
            have HBX := hide (boxB_blk HB2.out)
            have HBOX := hide (boxB (G := A + 1) (lf := lfa) HAL.out HN1.out HB2.out)
            dsimp only at HBOX
            obtain ⟨bx, hbx⟩ : ∃ bx, bx = wr.heap.size := ⟨_, rfl⟩
            rw [← hbx] at HBX HBOX ⊢
            clear HN1 HB2 HQ1 HBv
            obtain ⟨W0, hW0⟩ : ∃ W0, W0 = w2 := ⟨_, rfl⟩
            rw [← hW0] at HBX HBOX ⊢
            clear hW0 hbx
            have z0 : W0.cell? ⟨bx, 0, none⟩ = some (.bool false) := cell_blkN HBX.out rfl
            have f0 := frzN HBX.out 0
            have z1 : W0.cell? ⟨bx, 1, none⟩ = some (.slice none 0 0) := cell_blkN HBX.out rfl
            have f1 := frzN HBX.out 1
            have z2 : W0.cell? ⟨bx, 2, none⟩ = some (.slice none 0 0) := cell_blkN HBX.out rfl
            have f2 := frzN HBX.out 2
            have z3 : W0.cell? ⟨bx, 3, none⟩ = some (.slice none 0 0) := cell_blkN HBX.out rfl
            have f3 := frzN HBX.out 3
            refine hOne (i := 14) rfl (by kernel_rfl) (fun K hK => ?_)
            go_simp
            clear z0 z1 z2 z3 f0 f1 f2 f3
            refine hK.out _ _ (HS1.out _ HBOX.out.bel) (fun hHeld => ?_)
            clear hK K
            try simp only [Act.put, List.setIfInBounds_toArray, List.set_cons_zero, List.set_cons_succ]
            refine hOne (i := 15) rfl (by kernel_rfl) (fun K hK => ?_)
            go_simp
            refine hK.out _ _ (HS1.out _ HBOX.out.bel) (fun hHeld => ?_)
            clear hK K
            try simp only [Act.put, List.setIfInBounds_toArray, List.set_cons_zero, List.set_cons_succ]
            refine wpAnyH_done (by kernel_rfl) ?_ _
            obtain ⟨W1, hW1⟩ : ∃ W1, W1 = ((((W0.setCell ⟨bx, 0, none⟩ (.bool lfa)).setCell ⟨bx, 1, none⟩ (.slice kA nA cA)).setCell ⟨bx, 2, none⟩ (.slice vA mA dA)).setCell ⟨bx, 3, none⟩ (.slice iA jA lA)) := ⟨_, rfl⟩
            rw [show set4 W0 bx (.bool lfa) (.slice kA nA cA) (.slice vA mA dA) (.slice iA jA lA) = W1 from hW1.symm] at HBOX
            rw [← hW1]
            clear hW1 HBX hHeld
            have HBOX1 := hide HBOX.out
            clear HBOX
            obtain ⟨bx1, hbx⟩ : ∃ b, b = bx := ⟨_, rfl⟩
            rw [← hbx] at HBOX1 ⊢
            clear hbx
            obtain ⟨kA1, hq⟩ : ∃ b, b = kA := ⟨_, rfl⟩
            rw [← hq] at HBOX1 ⊢
            clear hq
            obtain ⟨nA1, hq⟩ : ∃ b, b = nA := ⟨_, rfl⟩
            rw [← hq] at HBOX1 ⊢
            clear hq
            obtain ⟨cA1, hq⟩ : ∃ b, b = cA := ⟨_, rfl⟩
            rw [← hq] at HBOX1 ⊢
            clear hq
            obtain ⟨vA1, hq⟩ : ∃ b, b = vA := ⟨_, rfl⟩
            rw [← hq] at HBOX1 ⊢
            clear hq
            obtain ⟨mA1, hq⟩ : ∃ b, b = mA := ⟨_, rfl⟩
            rw [← hq] at HBOX1 ⊢
            clear hq
            obtain ⟨dA1, hq⟩ : ∃ b, b = dA := ⟨_, rfl⟩
            rw [← hq] at HBOX1 ⊢
            clear hq
            obtain ⟨iA1, hq⟩ : ∃ b, b = iA := ⟨_, rfl⟩
            rw [← hq] at HBOX1 ⊢
            clear hq
            obtain ⟨jA1, hq⟩ : ∃ b, b = jA := ⟨_, rfl⟩
            rw [← hq] at HBOX1 ⊢
            clear hq
            obtain ⟨lA1, hq⟩ : ∃ b, b = lA := ⟨_, rfl⟩
            rw [← hq] at HBOX1 ⊢
            clear hq
            have HAL1 := hide HAL.out
            have HAL : Hid (A + 1 < W1.heap.size) := hide (Nat.lt_of_lt_of_le HAL1.out HBOX1.out.bel.size)
            go_wp2_with fail
            have HS2 : Hid (∀ W, Below W1.heap.size W1 W → W.cell? ⟨A + 1, 0, none⟩ = some (.bool true) ∧ W.cell? ⟨A + 1, 1, none⟩ = some (.slice ka2 kn2 kc2) ∧ W.cell? ⟨A + 1, 2, none⟩ = some (.slice va2' vn2 vc2) ∧ W.cell? ⟨A + 1, 3, none⟩ = some (.slice ia2 in2 ic2) ∧ W.cell? ⟨b1, o1 + k, none⟩ = some (.slice a3 n3 c3) ∧ W.cell? ⟨b2, o2 + k, none⟩ = some (.slice a4 n4 c4)) := hide (fun W hW => by
              have h1 := HZ.out W (HBOX1.out.bel.trans ((hW).mono HBOX1.out.bel.size))
              obtain ⟨g0, g1, g2, g3⟩ := h1.2.1.cells
              exact ⟨g0, g1, g2, g3, h1.2.2⟩)
            refine wp_region_held_drew (S := fun W : World => W.cell? ⟨A + 1, 0, none⟩ = some (.bool true) ∧ W.cell? ⟨A + 1, 1, none⟩ = some (.slice ka2 kn2 kc2) ∧ W.cell? ⟨A + 1, 2, none⟩ = some (.slice va2' vn2 vc2) ∧ W.cell? ⟨A + 1, 3, none⟩ = some (.slice ia2 in2 ic2) ∧ W.cell? ⟨b1, o1 + k, none⟩ = some (.slice a3 n3 c3) ∧ W.cell? ⟨b2, o2 + k, none⟩ = some (.slice a4 n4 c4)) (by kernel_rfl) ?hSq2u3 (fun hHeld => ?_)
            case hSq2u3 => exact HS2.out _ (Below.refl _ _).drew
            refine hTake (i := 0) (v := ?v0q2u3) (some 76) rfl rfl (by kernel_rfl) (by kernel_rfl) (by kernel_rfl) (fun _ _ _ h => h) (by rfl) (by assumption) ?hy0q2u3 ?hn0q2u3
            case hy0q2u3 => (intro w hSw; (try dsimp only at hSw); skip; go_simp; try with_reducible rfl)
            try simp only [Act.put, List.setIfInBounds_toArray, List.set_cons_zero, List.set_cons_succ]
            refine hTake (i := 1) (v := ?v1q2u3) (some 77) rfl rfl (by kernel_rfl) (by kernel_rfl) (by kernel_rfl) (fun _ _ _ h => h) (by rfl) (by assumption) ?hy1q2u3 ?hn1q2u3
            case hy1q2u3 => (intro w hSw; (try dsimp only at hSw); skip; go_simp; try with_reducible rfl)
            try simp only [Act.put, List.setIfInBounds_toArray, List.set_cons_zero, List.set_cons_succ]
            refine hTake (i := 2) (v := ?v2q2u3) (some 78) rfl rfl (by kernel_rfl) (by kernel_rfl) (by kernel_rfl) (fun _ _ _ h => h) (by rfl) (by assumption) ?hy2q2u3 ?hn2q2u3
            case hy2q2u3 => (intro w hSw; (try dsimp only at hSw); skip; go_simp; try with_reducible rfl)
            try simp only [Act.put, List.setIfInBounds_toArray, List.set_cons_zero, List.set_cons_succ]
            refine hTake (i := 3) (v := ?v3q2u3) (some 79) rfl rfl (by kernel_rfl) (by kernel_rfl) (by kernel_rfl) (fun _ _ _ h => h) (by rfl) (by assumption) ?hy3q2u3 ?hn3q2u3
            case hy3q2u3 => (intro w hSw; (try dsimp only at hSw); skip; go_simp; try with_reducible rfl)
            try simp only [Act.put, List.setIfInBounds_toArray, List.set_cons_zero, List.set_cons_succ]
            refine hTake (i := 4) (v := ?v4q2u3) (some 80) rfl rfl (by kernel_rfl) (by kernel_rfl) (by kernel_rfl) (fun _ _ _ h => h) (by rfl) (by assumption) ?hy4q2u3 ?hn4q2u3
            case hy4q2u3 => (intro w hSw; (try dsimp only at hSw); skip; go_simp; try with_reducible rfl)
            try simp only [Act.put, List.setIfInBounds_toArray, List.set_cons_zero, List.set_cons_succ]
            refine hTake (i := 5) (v := ?v5q2u3) (some 81) rfl rfl (by kernel_rfl) (by kernel_rfl) (by kernel_rfl) (fun _ _ _ h => h) (by rfl) (by assumption) ?hy5q2u3 ?hn5q2u3
            case hy5q2u3 => (intro w hSw; (try dsimp only at hSw); skip; go_simp; try with_reducible rfl)
            try simp only [Act.put, List.setIfInBounds_toArray, List.set_cons_zero, List.set_cons_succ]
            refine hTake (i := 6) (v := ?v6q2u3) (some 82) rfl rfl (by kernel_rfl) (by kernel_rfl) (by kernel_rfl) (fun _ _ _ h => h) (by rfl) (by assumption) ?hy6q2u3 ?hn6q2u3
            case hy6q2u3 => (intro w hSw; (try dsimp only at hSw); skip; go_simp; try with_reducible rfl)
            try simp only [Act.put, List.setIfInBounds_toArray, List.set_cons_zero, List.set_cons_succ]
            refine hTake (i := 7) (v := ?v7q2u3) (some 83) rfl rfl (by kernel_rfl) (by kernel_rfl) (by kernel_rfl) (fun _ _ _ h => h) (by rfl) (by assumption) ?hy7q2u3 ?hn7q2u3
            case hy7q2u3 => (intro w hSw; (try dsimp only at hSw); skip; go_simp; try with_reducible rfl)
            try simp only [Act.put, List.setIfInBounds_toArray, List.set_cons_zero, List.set_cons_succ]
            refine hTake (i := 8) (v := ?v8q2u3) (some 84) rfl rfl (by kernel_rfl) (by kernel_rfl) (by kernel_rfl) (fun _ _ _ h => h) (by rfl) (by assumption) ?hy8q2u3 ?hn8q2u3
            case hy8q2u3 => (intro w hSw; (try dsimp only at hSw); skip; go_simp; try with_reducible rfl)
            try simp only [Act.put, List.setIfInBounds_toArray, List.set_cons_zero, List.set_cons_succ]
            refine hTwo (i := 9) (j := 13) rfl rfl (by kernel_rfl) (fun K hK => ?_) (fun K hK => ?_)
            · go_simp
              refine ((HP2.out _ (HBOX1.out.bel.trans (((Below.refl _ _).drew).mono HBOX1.out.bel.size))).mono ?_)
              rintro e w2 ⟨⟨kA, nA, cA, vA, mA, dA, iA, jA, lA⟩, rfl, hn1, hb2⟩
              have HN1 := hide hn1
              have HB2 := hide hb2
              clear hn1 hb2
              have HQ1 : Hid (Below W1.heap.size W1 w2) := hide ((Below.refl _ W1).drew.trans HB2.out)
              refine hK.out _ _ (HS2.out _ HQ1.out) (fun hHeld => ?_)
              clear hK K
              try simp only [Act.put, List.setIfInBounds_toArray, List.set_cons_zero, List.set_cons_succ]
              refine hTake (i := 10) (v := ?v10q2Au3) (some 75) rfl rfl (by kernel_rfl) (by kernel_rfl) (by kernel_rfl) (fun _ _ _ h => h) (by rfl) (by assumption) ?hy10q2Au3 ?hn10q2Au3
              case hy10q2Au3 => (intro w hSw; (try dsimp only at hSw); skip; go_simp; try with_reducible rfl)
              try simp only [Act.put, List.setIfInBounds_toArray, List.set_cons_zero, List.set_cons_succ]
              refine hTake (i := 11) (v := ?v11q2Au3) (some 86) rfl rfl (by kernel_rfl) (by kernel_rfl) (by kernel_rfl) (fun _ _ _ h => h) (by rfl) (by assumption) ?hy11q2Au3 ?hn11q2Au3
              case hy11q2Au3 => (intro w hSw; (try dsimp only at hSw); skip; go_simp; try with_reducible rfl)
              try simp only [Act.put, List.setIfInBounds_toArray, List.set_cons_zero, List.set_cons_succ]
              refine hTake (i := 12) (v := ?v12q2Au3) (some 87) rfl rfl (by kernel_rfl) (by kernel_rfl) (by kernel_rfl) (fun _ _ _ h => h) (by rfl) (by assumption) ?hy12q2Au3 ?hn12q2Au3
              case hy12q2Au3 => (intro w hSw; (try dsimp only at hSw); skip; go_simp; try with_reducible rfl)
              try simp only [Act.put, List.setIfInBounds_toArray, List.set_cons_zero, List.set_cons_succ]
              refine hOne (i := 13) rfl (by kernel_rfl) (fun K hK => ?_)
              go_simp
              have HBv : Hid (Below W1.heap.size W1 (w2.alloc (.cells pg0c 25))) := hide (HQ1.out.alloc HQ1.out.size _)
              refine hK.out _ _ (HS2.out _ HBv.out) (fun hHeld => ?_)
              clear hK K
              try simp only [Act.put, List.setIfInBounds_toArray, List.set_cons_zero, List.set_cons_succ]
              have HBX : Hid ((w2.alloc (.cells pg0c 25)).heap[w2.heap.size]? = some (.cells pg0c 25 (0, 0))) := hide (heap_alloc_new _ _)
              have HBOX := hide (boxA (G := A + 1) (lf := lfb) HAL.out HN1.out HB2.out)
              dsimp only at HBOX
              obtain ⟨bx, hbx⟩ : ∃ bx, bx = w2.heap.size := ⟨_, rfl⟩
              rw [← hbx] at HBX HBOX ⊢
              clear hbx HN1 HB2 HQ1 HBv
              generalize (w2.alloc (.cells pg0c 25)) = W0 at *
              have z0 : W0.cell? ⟨bx, 0, none⟩ = some (.bool false) := cell_blkN HBX.out rfl
              have f0 := frzN HBX.out 0
              have z1 : W0.cell? ⟨bx, 1, none⟩ = some (.slice none 0 0) := cell_blkN HBX.out rfl
              have f1 := frzN HBX.out 1
              have z2 : W0.cell? ⟨bx, 2, none⟩ = some (.slice none 0 0) := cell_blkN HBX.out rfl
              have f2 := frzN HBX.out 2
              have z3 : W0.cell? ⟨bx, 3, none⟩ = some (.slice none 0 0) := cell_blkN HBX.out rfl
              have f3 := frzN HBX.out 3
              refine hOne (i := 14) rfl (by kernel_rfl) (fun K hK => ?_)
              go_simp
              clear z0 z1 z2 z3 f0 f1 f2 f3
              refine hK.out _ _ (HS2.out _ HBOX.out.bel) (fun hHeld => ?_)
              clear hK K
              try simp only [Act.put, List.setIfInBounds_toArray, List.set_cons_zero, List.set_cons_succ]
              refine hOne (i := 15) rfl (by kernel_rfl) (fun K hK => ?_)
              go_simp
              refine hK.out _ _ (HS2.out _ HBOX.out.bel) (fun hHeld => ?_)
              clear hK K
              try simp only [Act.put, List.setIfInBounds_toArray, List.set_cons_zero, List.set_cons_succ]
              refine wpAnyH_done (by kernel_rfl) ?_ _
              obtain ⟨W2, hW2⟩ : ∃ W2, W2 = ((((W0.setCell ⟨bx, 0, none⟩ (.bool lfb)).setCell ⟨bx, 1, none⟩ (.slice kA nA cA)).setCell ⟨bx, 2, none⟩ (.slice vA mA dA)).setCell ⟨bx, 3, none⟩ (.slice iA jA lA)) := ⟨_, rfl⟩
              rw [show set4 W0 bx (.bool lfb) (.slice kA nA cA) (.slice vA mA dA) (.slice iA jA lA) = W2 from hW2.symm] at HBOX
              rw [← hW2]
              clear hW2 HBX hHeld
              have HBOX2 := hide HBOX.out
              clear HBOX
              obtain ⟨bx2, hbx⟩ : ∃ b, b = bx := ⟨_, rfl⟩
              rw [← hbx] at HBOX2 ⊢
              clear hbx
              obtain ⟨kA2, hq⟩ : ∃ b, b = kA := ⟨_, rfl⟩
              rw [← hq] at HBOX2 ⊢
              clear hq
              obtain ⟨nA2, hq⟩ : ∃ b, b = nA := ⟨_, rfl⟩
              rw [← hq] at HBOX2 ⊢
              clear hq
              obtain ⟨cA2, hq⟩ : ∃ b, b = cA := ⟨_, rfl⟩
              rw [← hq] at HBOX2 ⊢
              clear hq
              obtain ⟨vA2, hq⟩ : ∃ b, b = vA := ⟨_, rfl⟩
              rw [← hq] at HBOX2 ⊢
              clear hq
              obtain ⟨mA2, hq⟩ : ∃ b, b = mA := ⟨_, rfl⟩
              rw [← hq] at HBOX2 ⊢
              clear hq
              obtain ⟨dA2, hq⟩ : ∃ b, b = dA := ⟨_, rfl⟩
              rw [← hq] at HBOX2 ⊢
              clear hq
              obtain ⟨iA2, hq⟩ : ∃ b, b = iA := ⟨_, rfl⟩
              rw [← hq] at HBOX2 ⊢
              clear hq
              obtain ⟨jA2, hq⟩ : ∃ b, b = jA := ⟨_, rfl⟩
              rw [← hq] at HBOX2 ⊢
              clear hq
              obtain ⟨lA2, hq⟩ : ∃ b, b = lA := ⟨_, rfl⟩
              rw [← hq] at HBOX2 ⊢
              clear hq
              have HAL := hide HAL1.out
              have HBW : Hid (Below wr.heap.size wr W2) := hide (HBOX1.out.bel.trans (HBOX2.out.bel.mono HBOX1.out.bel.size))
              have HBF : Hid (Below w.heap.size w W2) := hide (HI1.out.bel.trans (HBW.out.mono HI1.out.bel.size))
              clear HS1 HS2 HP1 HP2
              by_cases hca : ca = 0
              case neg =>
                have hx1 : (ca == (0 : Int)) = false := by simpa using hca
                have hx2 : (ca != (0 : Int)) = true := by simpa using hca
                have hx3 : ¬ ca = 0 := hca
                go_wp2
                go_ret
                exact ⟨rfl, HBF.out⟩
              case pos =>
                by_cases hcb : cb = 0
                case neg =>
                  subst hca
                  have hx1 : (cb == (0 : Int)) = false := by simpa using hcb
                  have hx2 : (cb != (0 : Int)) = true := by simpa using hcb
                  go_wp2
                  go_ret
                  exact ⟨rfl, HBF.out⟩
                case pos =>
                  subst hca hcb
                  have HXB : Hid (BlkG W2 bx1 lfa ⟨kA1, nA1, cA1, vA1, mA1, dA1, iA1, jA1, lA1⟩ ∧ BlkG W2 bx2 lfb ⟨kA2, nA2, cA2, vA2, mA2, dA2, iA2, jA2, lA2⟩ ∧ BlkG W2 A true ⟨ka1, kn1, kc1, va1', vn1, vc1, ia1, in1, ic1⟩ ∧ BlkG W2 (A + 1) true ⟨ka2, kn2, kc2, va2', vn2, vc2, ia2, in2, ic2⟩) := hide ⟨(HBOX2.out.bel.block _ (heap_ltN HBOX1.out.blk)).trans HBOX1.out.blk, HBOX2.out.blk, (HZ.out W2 HBW.out).1.1, (HZ.out W2 HBW.out).2.1⟩
                  have HNX : Hid (NwG W2 (A + 1) ⟨kA1, nA1, cA1, vA1, mA1, dA1, iA1, jA1, lA1⟩ ⟨lfa, ksa, vsa, ida⟩ ∧ NwG W2 (A + 1) ⟨kA2, nA2, cA2, vA2, mA2, dA2, iA2, jA2, lA2⟩ ⟨lfb, ksb, vsb, idb⟩) := hide ⟨HBOX1.out.nw.below HBOX2.out.bel, HBOX2.out.nw⟩
                  have HNE : Hid (A + 1 < bx1 ∧ A + 1 < bx2) := hide ⟨Nat.lt_of_lt_of_le HAL.out HBOX1.out.low, Nat.lt_of_lt_of_le HAL.out (Nat.le_trans HBOX1.out.bel.size HBOX2.out.low)⟩
                  clear HBOX1 HBOX2 HZ
                  go_wp2_with fail
                  have HSQ : Hid (∀ W : World, W.heap[bx1]? = W2.heap[bx1]? → W.heap[bx2]? = W2.heap[bx2]? → (W.cell? ⟨bx1, 0, none⟩ = some (.bool lfa) ∧ W.cell? ⟨bx1, 1, none⟩ = some (.slice kA1 nA1 cA1) ∧ W.cell? ⟨bx1, 2, none⟩ = some (.slice vA1 mA1 dA1) ∧ W.cell? ⟨bx1, 3, none⟩ = some (.slice iA1 jA1 lA1) ∧ W.cell? ⟨bx2, 0, none⟩ = some (.bool lfb) ∧ W.cell? ⟨bx2, 1, none⟩ = some (.slice kA2 nA2 cA2) ∧ W.cell? ⟨bx2, 2, none⟩ = some (.slice vA2 mA2 dA2) ∧ W.cell? ⟨bx2, 3, none⟩ = some (.slice iA2 jA2 lA2))) := hide (fun W h1 h2 => by
                    obtain ⟨g0, g1, g2, g3⟩ := BlkG.cells (h1.trans HXB.out.1)
                    obtain ⟨g4, g5, g6, g7⟩ := BlkG.cells (h2.trans HXB.out.2.1)
                    exact ⟨g0, g1, g2, g3, g4, g5, g6, g7⟩)
                  have HD2 : Hid (W2.drew.heap[bx1]? = W2.heap[bx1]?) := hide rfl
                  refine wp_region_held_drew (S := fun W : World => W.cell? ⟨bx1, 0, none⟩ = some (.bool lfa) ∧ W.cell? ⟨bx1, 1, none⟩ = some (.slice kA1 nA1 cA1) ∧ W.cell? ⟨bx1, 2, none⟩ = some (.slice vA1 mA1 dA1) ∧ W.cell? ⟨bx1, 3, none⟩ = some (.slice iA1 jA1 lA1) ∧ W.cell? ⟨bx2, 0, none⟩ = some (.bool lfb) ∧ W.cell? ⟨bx2, 1, none⟩ = some (.slice kA2 nA2 cA2) ∧ W.cell? ⟨bx2, 2, none⟩ = some (.slice vA2 mA2 dA2) ∧ W.cell? ⟨bx2, 3, none⟩ = some (.slice iA2 jA2 lA2)) (by kernel_rfl) ?hSz3 (fun hHeld => ?_)
                  case hSz3 => exact HSQ.out _ HD2.out rfl
                  refine hTake (i := 0) (v := ?v0z3) (some 94) rfl rfl (by kernel_rfl) (by kernel_rfl) (by kernel_rfl) (fun _ _ _ h => h) (by rfl) (by assumption) ?hy0z3 ?hn0z3
                  case hy0z3 => (intro w hSw; (try dsimp only at hSw); skip; go_simp; try with_reducible rfl)
                  try simp only [Act.put, List.setIfInBounds_toArray, List.set_cons_zero, List.set_cons_succ]
                  refine hTake (i := 1) (v := ?v1z3) (some 95) rfl rfl (by kernel_rfl) (by kernel_rfl) (by kernel_rfl) (fun _ _ _ h => h) (by rfl) (by assumption) ?hy1z3 ?hn1z3
                  case hy1z3 => (intro w hSw; (try dsimp only at hSw); skip; go_simp; try with_reducible rfl)
                  try simp only [Act.put, List.setIfInBounds_toArray, List.set_cons_zero, List.set_cons_succ]
                  obtain ⟨Wd, hWd⟩ : ∃ Wd, Wd = W2.drew := ⟨_, rfl⟩
                  have HXD : Hid (BlkG Wd A true ⟨ka1, kn1, kc1, va1', vn1, vc1, ia1, in1, ic1⟩ ∧ BlkG Wd (A + 1) true ⟨ka2, kn2, kc2, va2', vn2, vc2, ia2, in2, ic2⟩ ∧ Below W2.heap.size W2 Wd ∧ Wd.heap[bx1]? = W2.heap[bx1]? ∧ Wd.heap[bx2]? = W2.heap[bx2]?) := hide (by rw [hWd]; exact ⟨HXB.out.2.2.1, HXB.out.2.2.2, (Below.refl _ W2).drew, rfl, rfl⟩)
                  rw [← hWd]
                  clear hWd
                  have z0 : Wd.cell? ⟨A, 0, none⟩ = some (.bool true) := cell_blkN HXD.out.1 rfl
                  have z1 : Wd.cell? ⟨A, 1, none⟩ = some (.slice ka1 kn1 kc1) := cell_blkN HXD.out.1 rfl
                  have z2 : Wd.cell? ⟨A, 2, none⟩ = some (.slice va1' vn1 vc1) := cell_blkN HXD.out.1 rfl
                  have z3 : Wd.cell? ⟨A, 3, none⟩ = some (.slice ia1 in1 ic1) := cell_blkN HXD.out.1 rfl
                  have f0 := frzN HXD.out.1 0
                  have f1 := frzN HXD.out.1 1
                  have f2 := frzN HXD.out.1 2
                  have f3 := frzN HXD.out.1 3
                  obtain ⟨W3, hW3⟩ : ∃ W, W = ((((Wd.setCell ⟨A, 0, none⟩ (.bool lfa)).setCell ⟨A, 1, none⟩ (.slice kA1 nA1 cA1)).setCell ⟨A, 2, none⟩ (.slice vA1 mA1 dA1)).setCell ⟨A, 3, none⟩ (.slice iA1 jA1 lA1)) := ⟨_, rfl⟩
                  have HW3 := hide hW3
                  have HSQW3 := hide (HSQ.out W3 (by rw [HW3.out]; exact (out4 (by have := HNE.out; omega) _ _ _ _).trans HXD.out.2.2.2.1) (by rw [HW3.out]; exact (out4 (by have := HNE.out; omega) _ _ _ _).trans HXD.out.2.2.2.2))
                  have HY3 : Hid (W3.heap[A + 1]? = some (.cells (pgc true ⟨ka2, kn2, kc2, va2', vn2, vc2, ia2, in2, ic2⟩) 25 (0, 0))) := hide (by rw [HW3.out]; exact (out4 (by omega) _ _ _ _).trans HXD.out.2.1)
                  refine hOne (i := 2) rfl (by kernel_rfl) (fun K hK => ?_)
                  go_simp
                  rw [← hW3]
                  clear hW3 z0 f0 z1 f1 z2 f2 z3 f3
                  refine hK.out _ _ (HSQW3.out) (fun hHeld => ?_)
                  clear hK K
                  try simp only [Act.put, List.setIfInBounds_toArray, List.set_cons_zero, List.set_cons_succ]
                  have z0 : W3.cell? ⟨A + 1, 0, none⟩ = some (.bool true) := cell_blkN HY3.out rfl
                  have z1 : W3.cell? ⟨A + 1, 1, none⟩ = some (.slice ka2 kn2 kc2) := cell_blkN HY3.out rfl
                  have z2 : W3.cell? ⟨A + 1, 2, none⟩ = some (.slice va2' vn2 vc2) := cell_blkN HY3.out rfl
                  have z3 : W3.cell? ⟨A + 1, 3, none⟩ = some (.slice ia2 in2 ic2) := cell_blkN HY3.out rfl
                  have f0 := frzN HY3.out 0
                  have f1 := frzN HY3.out 1
                  have f2 := frzN HY3.out 2
                  have f3 := frzN HY3.out 3
                  obtain ⟨W4, hW4⟩ : ∃ W, W = ((((W3.setCell ⟨A + 1, 0, none⟩ (.bool lfb)).setCell ⟨A + 1, 1, none⟩ (.slice kA2 nA2 cA2)).setCell ⟨A + 1, 2, none⟩ (.slice vA2 mA2 dA2)).setCell ⟨A + 1, 3, none⟩ (.slice iA2 jA2 lA2)) := ⟨_, rfl⟩
                  have HW4 := hide hW4
                  have HSQW4 := hide (HSQ.out W4 (by rw [HW4.out, HW3.out]; exact ((out4 (by have := HNE.out; omega) _ _ _ _).trans (out4 (by have := HNE.out; omega) _ _ _ _)).trans HXD.out.2.2.2.1) (by rw [HW4.out, HW3.out]; exact ((out4 (by have := HNE.out; omega) _ _ _ _).trans (out4 (by have := HNE.out; omega) _ _ _ _)).trans HXD.out.2.2.2.2))
                  refine hOne (i := 3) rfl (by kernel_rfl) (fun K hK => ?_)
                  go_simp
                  rw [← hW4]
                  clear hW4 z0 f0 z1 f1 z2 f2 z3 f3
                  refine hK.out _ _ (HSQW4.out) (fun hHeld => ?_)
                  clear hK K
                  try simp only [Act.put, List.setIfInBounds_toArray, List.set_cons_zero, List.set_cons_succ]
                  refine wpAnyH_done (by kernel_rfl) ?_ _
                  have HBX1 : Hid (W4.heap[A]? = some (.cells (pgc lfa ⟨kA1, nA1, cA1, vA1, mA1, dA1, iA1, jA1, lA1⟩) 25 (0, 0))) := hide (by
                    rw [HW4.out, HW3.out]
                    exact (out4 (by omega) _ _ _ _).trans (blk4 HXD.out.1 _ _ _ _))
                  have HBX2 : Hid (W4.heap[A + 1]? = some (.cells (pgc lfb ⟨kA2, nA2, cA2, vA2, mA2, dA2, iA2, jA2, lA2⟩) 25 (0, 0))) := hide (by
                    rw [HW4.out]
                    exact blk4 HY3.out _ _ _ _)
                  have HNY : Hid (NwG W4 (A + 1) ⟨kA1, nA1, cA1, vA1, mA1, dA1, iA1, jA1, lA1⟩ ⟨lfa, ksa, vsa, ida⟩ ∧ NwG W4 (A + 1) ⟨kA2, nA2, cA2, vA2, mA2, dA2, iA2, jA2, lA2⟩ ⟨lfb, ksb, vsb, idb⟩) := hide (by
                    rw [HW4.out, HW3.out]
                    exact ⟨((HNX.out.1.below HXD.out.2.2.1).set4 (by omega) _ _ _ _).set4 (by omega) _ _ _ _, ((HNX.out.2.below HXD.out.2.2.1).set4 (by omega) _ _ _ _).set4 (by omega) _ _ _ _⟩)
                  have HB4 : Hid (Below w.heap.size w W4) := hide (by
                    rw [HW4.out, HW3.out]
                    exact below4 (below4 (HBF.out.trans (HXD.out.2.2.1.mono HBF.out.size)) HI1.out.low _ _ _ _) (Nat.le_succ_of_le HI1.out.low) _ _ _ _)
                  clear HW3 HW4 HY3 HXD HSQ HD2 HSQW3 HSQW4 HXB HNX HBW HBF hHeld
                  have HPA1 : Hid (checkE (putP pa (K.getD i []) (V.getD i [])) = 0 ∧ (⟨lfa, ksa, vsa, ida⟩ : Pg) = putP pa (K.getD i []) (V.getD i [])) := hide (by
                    have h1 := HPA.out
                    have h2 := putR_ok (p := pa) (key := K.getD i []) (val := V.getD i []) (by rw [← h1])
                    rw [h2.2.2] at h1
                    exact ⟨h2.2.1, congrArg Prod.fst h1⟩)
                  have HPB1 : Hid (checkE (putP pb (K.getD k []) (V.getD k [])) = 0 ∧ (⟨lfb, ksb, vsb, idb⟩ : Pg) = putP pb (K.getD k []) (V.getD k [])) := hide (by
                    have h1 := HPB.out
                    have h2 := putR_ok (p := pb) (key := K.getD k []) (val := V.getD k []) (by rw [← h1])
                    rw [h2.2.2] at h1
                    exact ⟨h2.2.1, congrArg Prod.fst h1⟩)
                  have HLA : Hid (Lf ⟨lfa, ksa, vsa, ida⟩ (upS K V id (i + 1)) (i + 1)) := hide (by
                    rw [HPA1.out.2]
                    exact lf_step (N := n) (f := id) HI1.out.la hlt (fun t ht => ⟨Nat.lt_trans ht hlt, Nat.ne_of_lt ht⟩) HD.out HPA1.out.1)
                  have HLB : Hid (Lf ⟨lfb, ksb, vsb, idb⟩ (upS K V (rotN n r) (i + 1)) (i + 1)) := hide (by
                    rw [HPB1.out.2, HKR.out]
                    have h1 := HPB1.out.1
                    rw [HKR.out] at h1
                    exact lf_step (N := n) (f := rotN n r) HI1.out.lb (rot_lt (by omega)) (fun t ht => ⟨rot_lt (by omega), rot_ne ht hlt⟩) HD.out h1)
                  have HLF : Hid (lfa = true ∧ lfb = true) := hide ⟨(leafE_0 HLA.out.ok).2, (leafE_0 HLB.out.ok).2⟩
                  have HFW : Hid (FewP ⟨kA1, nA1, cA1, vA1, mA1, dA1, iA1, jA1, lA1⟩ ∧ FewP ⟨kA2, nA2, cA2, vA2, mA2, dA2, iA2, jA2, lA2⟩) := hide (by
                    have h1 := check_few (leafE_0 HLA.out.ok).1
                    have h2 := check_few (leafE_0 HLB.out.ok).1
                    have g1 := HNY.out.1
                    have g2 := HNY.out.2
                    exact ⟨⟨by rw [← g1.keys.is.1]; exact Nat.le_trans h1.1 (by decide), by rw [← g1.vals.is.1]; exact Nat.le_trans h1.2.1 (by decide), by rw [← g1.kids.1]; exact Nat.le_trans h1.2.2 (by decide)⟩, ⟨by rw [← g2.keys.is.1]; exact Nat.le_trans h2.1 (by decide), by rw [← g2.vals.is.1]; exact Nat.le_trans h2.2.1 (by decide), by rw [← g2.kids.1]; exact Nat.le_trans h2.2.2 (by decide)⟩⟩)
                  have HRL : Hid (SmB w A K V n r (i + 1) ⟨kA1, nA1, cA1, vA1, mA1, dA1, iA1, jA1, lA1⟩ ⟨kA2, nA2, cA2, vA2, mA2, dA2, iA2, jA2, lA2⟩ ⟨lfa, ksa, vsa, ida⟩ ⟨lfb, ksb, vsb, idb⟩ W4) := hide (by
                    have e1 := HLF.out.1
                    have e2 := HLF.out.2
                    have x1 := HBX1.out
                    have x2 := HBX2.out
                    rw [e1] at x1
                    rw [e2] at x2
                    exact ⟨HB4.out, HI1.out.low, x1, x2, HNY.out.1, HNY.out.2, HFW.out.1, HFW.out.2, HLA.out, HLB.out⟩)
                  clear HBX1 HBX2 HNY HB4 HPA1 HPB1 HLA HLB HLF HFW
                  go_wp2
                  go_roundw
                  case rel => exact ⟨i + 1, ⟨kA1, nA1, cA1, vA1, mA1, dA1, iA1, jA1, lA1⟩, ⟨kA2, nA2, cA2, vA2, mA2, dA2, iA2, jA2, lA2⟩, ⟨lfa, ksa, vsa, ida⟩, ⟨lfb, ksb, vsb, idb⟩, by omega, by simp, hide HRL.out⟩
                  case measure => simp [intOf]; omega
            · go_simp
              have HBv : Hid (Below W1.heap.size W1 (W1.alloc (.cells pg0c 25)).drew) := hide ((Below.refl _ W1).alloc (Nat.le_refl _) _).drew
              refine hK.out _ _ (HS2.out _ HBv.out) (fun hHeld => ?_)
              clear hK K
              try simp only [Act.put, List.setIfInBounds_toArray, List.set_cons_zero, List.set_cons_succ]
              refine hOne (i := 9) rfl (by kernel_rfl) (fun K hK => ?_)
              go_simp
              refine ((HP2.out _ (HBOX1.out.bel.trans ((HBv.out).mono HBOX1.out.bel.size))).mono ?_)
              rintro e w2 ⟨⟨kA, nA, cA, vA, mA, dA, iA, jA, lA⟩, rfl, hn1, hb2⟩
              have HN1 := hide hn1
              have HB2 := hide hb2
              clear hn1 hb2
              have HQ1 : Hid (Below W1.heap.size W1 w2) := hide (HBv.out.trans (HB2.out.mono HBv.out.size))
              refine hK.out _ _ (HS2.out _ HQ1.out) (fun hHeld => ?_)
              clear hK K
              try simp only [Act.put, List.setIfInBounds_toArray, List.set_cons_zero, List.set_cons_succ]
              refine hTake (i := 10) (v := ?v10q2Bu3) (some 75) rfl rfl (by kernel_rfl) (by kernel_rfl) (by kernel_rfl) (fun _ _ _ h => h) (by rfl) (by assumption) ?hy10q2Bu3 ?hn10q2Bu3
              case hy10q2Bu3 => (intro w hSw; (try dsimp only at hSw); skip; go_simp; try with_reducible rfl)
              try simp only [Act.put, List.setIfInBounds_toArray, List.set_cons_zero, List.set_cons_succ]
              refine hTake (i := 11) (v := ?v11q2Bu3) (some 86) rfl rfl (by kernel_rfl) (by kernel_rfl) (by kernel_rfl) (fun _ _ _ h => h) (by rfl) (by assumption) ?hy11q2Bu3 ?hn11q2Bu3
              case hy11q2Bu3 => (intro w hSw; (try dsimp only at hSw); skip; go_simp; try with_reducible rfl)
              try simp only [Act.put, List.setIfInBounds_toArray, List.set_cons_zero, List.set_cons_succ]
              refine hTake (i := 12) (v := ?v12q2Bu3) (some 87) rfl rfl (by kernel_rfl) (by kernel_rfl) (by kernel_rfl) (fun _ _ _ h => h) (by rfl) (by assumption) ?hy12q2Bu3 ?hn12q2Bu3
              case hy12q2Bu3 => (intro w hSw; (try dsimp only at hSw); skip; go_simp; try with_reducible rfl)
              try simp only [Act.put, List.setIfInBounds_toArray, List.set_cons_zero, List.set_cons_succ]
              have HBX := hide (boxB_blk HB2.out)
              have HBOX := hide (boxB (G := A + 1) (lf := lfb) HAL.out HN1.out HB2.out)
              dsimp only at HBOX
              obtain ⟨bx, hbx⟩ : ∃ bx, bx = W1.heap.size := ⟨_, rfl⟩
              rw [← hbx] at HBX HBOX ⊢
              clear HN1 HB2 HQ1 HBv
              obtain ⟨W0, hW0⟩ : ∃ W0, W0 = w2 := ⟨_, rfl⟩
              rw [← hW0] at HBX HBOX ⊢
              clear hW0 hbx
              have z0 : W0.cell? ⟨bx, 0, none⟩ = some (.bool false) := cell_blkN HBX.out rfl
              have f0 := frzN HBX.out 0
              have z1 : W0.cell? ⟨bx, 1, none⟩ = some (.slice none 0 0) := cell_blkN HBX.out rfl
              have f1 := frzN HBX.out 1
              have z2 : W0.cell? ⟨bx, 2, none⟩ = some (.slice none 0 0) := cell_blkN HBX.out rfl
              have f2 := frzN HBX.out 2
              have z3 : W0.cell? ⟨bx, 3, none⟩ = some (.slice none 0 0) := cell_blkN HBX.out rfl
              have f3 := frzN HBX.out 3
              refine hOne (i := 14) rfl (by kernel_rfl) (fun K hK => ?_)
              go_simp
              clear z0 z1 z2 z3 f0 f1 f2 f3
              refine hK.out _ _ (HS2.out _ HBOX.out.bel) (fun hHeld => ?_)
              clear hK K
              try simp only [Act.put, List.setIfInBounds_toArray, List.set_cons_zero, List.set_cons_succ]
              refine hOne (i := 15) rfl (by kernel_rfl) (fun K hK => ?_)
              go_simp
              refine hK.out _ _ (HS2.out _ HBOX.out.bel) (fun hHeld => ?_)
              clear hK K
              try simp only [Act.put, List.setIfInBounds_toArray, List.set_cons_zero, List.set_cons_succ]
              refine wpAnyH_done (by kernel_rfl) ?_ _
              obtain ⟨W2, hW2⟩ : ∃ W2, W2 = ((((W0.setCell ⟨bx, 0, none⟩ (.bool lfb)).setCell ⟨bx, 1, none⟩ (.slice kA nA cA)).setCell ⟨bx, 2, none⟩ (.slice vA mA dA)).setCell ⟨bx, 3, none⟩ (.slice iA jA lA)) := ⟨_, rfl⟩
              rw [show set4 W0 bx (.bool lfb) (.slice kA nA cA) (.slice vA mA dA) (.slice iA jA lA) = W2 from hW2.symm] at HBOX
              rw [← hW2]
              clear hW2 HBX hHeld
              have HBOX2 := hide HBOX.out
              clear HBOX
              obtain ⟨bx2, hbx⟩ : ∃ b, b = bx := ⟨_, rfl⟩
              rw [← hbx] at HBOX2 ⊢
              clear hbx
              obtain ⟨kA2, hq⟩ : ∃ b, b = kA := ⟨_, rfl⟩
              rw [← hq] at HBOX2 ⊢
              clear hq
              obtain ⟨nA2, hq⟩ : ∃ b, b = nA := ⟨_, rfl⟩
              rw [← hq] at HBOX2 ⊢
              clear hq
              obtain ⟨cA2, hq⟩ : ∃ b, b = cA := ⟨_, rfl⟩
              rw [← hq] at HBOX2 ⊢
              clear hq
              obtain ⟨vA2, hq⟩ : ∃ b, b = vA := ⟨_, rfl⟩
              rw [← hq] at HBOX2 ⊢
              clear hq
              obtain ⟨mA2, hq⟩ : ∃ b, b = mA := ⟨_, rfl⟩
              rw [← hq] at HBOX2 ⊢
              clear hq
              obtain ⟨dA2, hq⟩ : ∃ b, b = dA := ⟨_, rfl⟩
              rw [← hq] at HBOX2 ⊢
              clear hq
              obtain ⟨iA2, hq⟩ : ∃ b, b = iA := ⟨_, rfl⟩
              rw [← hq] at HBOX2 ⊢
              clear hq
              obtain ⟨jA2, hq⟩ : ∃ b, b = jA := ⟨_, rfl⟩
              rw [← hq] at HBOX2 ⊢
              clear hq
              obtain ⟨lA2, hq⟩ : ∃ b, b = lA := ⟨_, rfl⟩
              rw [← hq] at HBOX2 ⊢
              clear hq
              have HAL := hide HAL1.out
              have HBW : Hid (Below wr.heap.size wr W2) := hide (HBOX1.out.bel.trans (HBOX2.out.bel.mono HBOX1.out.bel.size))
              have HBF : Hid (Below w.heap.size w W2) := hide (HI1.out.bel.trans (HBW.out.mono HI1.out.bel.size))
              clear HS1 HS2 HP1 HP2
              by_cases hca : ca = 0
              case neg =>
                have hx1 : (ca == (0 : Int)) = false := by simpa using hca
                have hx2 : (ca != (0 : Int)) = true := by simpa using hca
                have hx3 : ¬ ca = 0 := hca
                go_wp2
                go_ret
                exact ⟨rfl, HBF.out⟩
              case pos =>
                by_cases hcb : cb = 0
                case neg =>
                  subst hca
                  have hx1 : (cb == (0 : Int)) = false := by simpa using hcb
                  have hx2 : (cb != (0 : Int)) = true := by simpa using hcb
                  go_wp2
                  go_ret
                  exact ⟨rfl, HBF.out⟩
                case pos =>
                  subst hca hcb
                  have HXB : Hid (BlkG W2 bx1 lfa ⟨kA1, nA1, cA1, vA1, mA1, dA1, iA1, jA1, lA1⟩ ∧ BlkG W2 bx2 lfb ⟨kA2, nA2, cA2, vA2, mA2, dA2, iA2, jA2, lA2⟩ ∧ BlkG W2 A true ⟨ka1, kn1, kc1, va1', vn1, vc1, ia1, in1, ic1⟩ ∧ BlkG W2 (A + 1) true ⟨ka2, kn2, kc2, va2', vn2, vc2, ia2, in2, ic2⟩) := hide ⟨(HBOX2.out.bel.block _ (heap_ltN HBOX1.out.blk)).trans HBOX1.out.blk, HBOX2.out.blk, (HZ.out W2 HBW.out).1.1, (HZ.out W2 HBW.out).2.1⟩
                  have HNX : Hid (NwG W2 (A + 1) ⟨kA1, nA1, cA1, vA1, mA1, dA1, iA1, jA1, lA1⟩ ⟨lfa, ksa, vsa, ida⟩ ∧ NwG W2 (A + 1) ⟨kA2, nA2, cA2, vA2, mA2, dA2, iA2, jA2, lA2⟩ ⟨lfb, ksb, vsb, idb⟩) := hide ⟨HBOX1.out.nw.below HBOX2.out.bel, HBOX2.out.nw⟩
                  have HNE : Hid (A + 1 < bx1 ∧ A + 1 < bx2) := hide ⟨Nat.lt_of_lt_of_le HAL.out HBOX1.out.low, Nat.lt_of_lt_of_le HAL.out (Nat.le_trans HBOX1.out.bel.size HBOX2.out.low)⟩
                  clear HBOX1 HBOX2 HZ
                  go_wp2_with fail
                  have HSQ : Hid (∀ W : World, W.heap[bx1]? = W2.heap[bx1]? → W.heap[bx2]? = W2.heap[bx2]? → (W.cell? ⟨bx1, 0, none⟩ = some (.bool lfa) ∧ W.cell? ⟨bx1, 1, none⟩ = some (.slice kA1 nA1 cA1) ∧ W.cell? ⟨bx1, 2, none⟩ = some (.slice vA1 mA1 dA1) ∧ W.cell? ⟨bx1, 3, none⟩ = some (.slice iA1 jA1 lA1) ∧ W.cell? ⟨bx2, 0, none⟩ = some (.bool lfb) ∧ W.cell? ⟨bx2, 1, none⟩ = some (.slice kA2 nA2 cA2) ∧ W.cell? ⟨bx2, 2, none⟩ = some (.slice vA2 mA2 dA2) ∧ W.cell? ⟨bx2, 3, none⟩ = some (.slice iA2 jA2 lA2))) := hide (fun W h1 h2 => by
                    obtain ⟨g0, g1, g2, g3⟩ := BlkG.cells (h1.trans HXB.out.1)
                    obtain ⟨g4, g5, g6, g7⟩ := BlkG.cells (h2.trans HXB.out.2.1)
                    exact ⟨g0, g1, g2, g3, g4, g5, g6, g7⟩)
                  have HD2 : Hid (W2.drew.heap[bx1]? = W2.heap[bx1]?) := hide rfl
                  refine wp_region_held_drew (S := fun W : World => W.cell? ⟨bx1, 0, none⟩ = some (.bool lfa) ∧ W.cell? ⟨bx1, 1, none⟩ = some (.slice kA1 nA1 cA1) ∧ W.cell? ⟨bx1, 2, none⟩ = some (.slice vA1 mA1 dA1) ∧ W.cell? ⟨bx1, 3, none⟩ = some (.slice iA1 jA1 lA1) ∧ W.cell? ⟨bx2, 0, none⟩ = some (.bool lfb) ∧ W.cell? ⟨bx2, 1, none⟩ = some (.slice kA2 nA2 cA2) ∧ W.cell? ⟨bx2, 2, none⟩ = some (.slice vA2 mA2 dA2) ∧ W.cell? ⟨bx2, 3, none⟩ = some (.slice iA2 jA2 lA2)) (by kernel_rfl) ?hSz4 (fun hHeld => ?_)
                  case hSz4 => exact HSQ.out _ HD2.out rfl
                  refine hTake (i := 0) (v := ?v0z4) (some 94) rfl rfl (by kernel_rfl) (by kernel_rfl) (by kernel_rfl) (fun _ _ _ h => h) (by rfl) (by assumption) ?hy0z4 ?hn0z4
                  case hy0z4 => (intro w hSw; (try dsimp only at hSw); skip; go_simp; try with_reducible rfl)
                  try simp only [Act.put, List.setIfInBounds_toArray, List.set_cons_zero, List.set_cons_succ]
                  refine hTake (i := 1) (v := ?v1z4) (some 95) rfl rfl (by kernel_rfl) (by kernel_rfl) (by kernel_rfl) (fun _ _ _ h => h) (by rfl) (by assumption) ?hy1z4 ?hn1z4
                  case hy1z4 => (intro w hSw; (try dsimp only at hSw); skip; go_simp; try with_reducible rfl)
                  try simp only [Act.put, List.setIfInBounds_toArray, List.set_cons_zero, List.set_cons_succ]
                  obtain ⟨Wd, hWd⟩ : ∃ Wd, Wd = W2.drew := ⟨_, rfl⟩
                  have HXD : Hid (BlkG Wd A true ⟨ka1, kn1, kc1, va1', vn1, vc1, ia1, in1, ic1⟩ ∧ BlkG Wd (A + 1) true ⟨ka2, kn2, kc2, va2', vn2, vc2, ia2, in2, ic2⟩ ∧ Below W2.heap.size W2 Wd ∧ Wd.heap[bx1]? = W2.heap[bx1]? ∧ Wd.heap[bx2]? = W2.heap[bx2]?) := hide (by rw [hWd]; exact ⟨HXB.out.2.2.1, HXB.out.2.2.2, (Below.refl _ W2).drew, rfl, rfl⟩)
                  rw [← hWd]
                  clear hWd
                  have z0 : Wd.cell? ⟨A, 0, none⟩ = some (.bool true) := cell_blkN HXD.out.1 rfl
                  have z1 : Wd.cell? ⟨A, 1, none⟩ = some (.slice ka1 kn1 kc1) := cell_blkN HXD.out.1 rfl
                  have z2 : Wd.cell? ⟨A, 2, none⟩ = some (.slice va1' vn1 vc1) := cell_blkN HXD.out.1 rfl
                  have z3 : Wd.cell? ⟨A, 3, none⟩ = some (.slice ia1 in1 ic1) := cell_blkN HXD.out.1 rfl
                  have f0 := frzN HXD.out.1 0
                  have f1 := frzN HXD.out.1 1
                  have f2 := frzN HXD.out.1 2
                  have f3 := frzN HXD.out.1 3
                  obtain ⟨W3, hW3⟩ : ∃ W, W = ((((Wd.setCell ⟨A, 0, none⟩ (.bool lfa)).setCell ⟨A, 1, none⟩ (.slice kA1 nA1 cA1)).setCell ⟨A, 2, none⟩ (.slice vA1 mA1 dA1)).setCell ⟨A, 3, none⟩ (.slice iA1 jA1 lA1)) := ⟨_, rfl⟩
                  have HW3 := hide hW3
                  have HSQW3 := hide (HSQ.out W3 (by rw [HW3.out]; exact (out4 (by have := HNE.out; omega) _ _ _ _).trans HXD.out.2.2.2.1) (by rw [HW3.out]; exact (out4 (by have := HNE.out; omega) _ _ _ _).trans HXD.out.2.2.2.2))
                  have HY3 : Hid (W3.heap[A + 1]? = some (.cells (pgc true ⟨ka2, kn2, kc2, va2', vn2, vc2, ia2, in2, ic2⟩) 25 (0, 0))) := hide (by rw [HW3.out]; exact (out4 (by omega) _ _ _ _).trans HXD.out.2.1)
                  refine hOne (i := 2) rfl (by kernel_rfl) (fun K hK => ?_)
                  go_simp
                  rw [← hW3]
                  clear hW3 z0 f0 z1 f1 z2 f2 z3 f3
                  refine hK.out _ _ (HSQW3.out) (fun hHeld => ?_)
                  clear hK K
                  try simp only [Act.put, List.setIfInBounds_toArray, List.set_cons_zero, List.set_cons_succ]
                  have z0 : W3.cell? ⟨A + 1, 0, none⟩ = some (.bool true) := cell_blkN HY3.out rfl
                  have z1 : W3.cell? ⟨A + 1, 1, none⟩ = some (.slice ka2 kn2 kc2) := cell_blkN HY3.out rfl
                  have z2 : W3.cell? ⟨A + 1, 2, none⟩ = some (.slice va2' vn2 vc2) := cell_blkN HY3.out rfl
                  have z3 : W3.cell? ⟨A + 1, 3, none⟩ = some (.slice ia2 in2 ic2) := cell_blkN HY3.out rfl
                  have f0 := frzN HY3.out 0
                  have f1 := frzN HY3.out 1
                  have f2 := frzN HY3.out 2
                  have f3 := frzN HY3.out 3
                  obtain ⟨W4, hW4⟩ : ∃ W, W = ((((W3.setCell ⟨A + 1, 0, none⟩ (.bool lfb)).setCell ⟨A + 1, 1, none⟩ (.slice kA2 nA2 cA2)).setCell ⟨A + 1, 2, none⟩ (.slice vA2 mA2 dA2)).setCell ⟨A + 1, 3, none⟩ (.slice iA2 jA2 lA2)) := ⟨_, rfl⟩
                  have HW4 := hide hW4
                  have HSQW4 := hide (HSQ.out W4 (by rw [HW4.out, HW3.out]; exact ((out4 (by have := HNE.out; omega) _ _ _ _).trans (out4 (by have := HNE.out; omega) _ _ _ _)).trans HXD.out.2.2.2.1) (by rw [HW4.out, HW3.out]; exact ((out4 (by have := HNE.out; omega) _ _ _ _).trans (out4 (by have := HNE.out; omega) _ _ _ _)).trans HXD.out.2.2.2.2))
                  refine hOne (i := 3) rfl (by kernel_rfl) (fun K hK => ?_)
                  go_simp
                  rw [← hW4]
                  clear hW4 z0 f0 z1 f1 z2 f2 z3 f3
                  refine hK.out _ _ (HSQW4.out) (fun hHeld => ?_)
                  clear hK K
                  try simp only [Act.put, List.setIfInBounds_toArray, List.set_cons_zero, List.set_cons_succ]
                  refine wpAnyH_done (by kernel_rfl) ?_ _
                  have HBX1 : Hid (W4.heap[A]? = some (.cells (pgc lfa ⟨kA1, nA1, cA1, vA1, mA1, dA1, iA1, jA1, lA1⟩) 25 (0, 0))) := hide (by
                    rw [HW4.out, HW3.out]
                    exact (out4 (by omega) _ _ _ _).trans (blk4 HXD.out.1 _ _ _ _))
                  have HBX2 : Hid (W4.heap[A + 1]? = some (.cells (pgc lfb ⟨kA2, nA2, cA2, vA2, mA2, dA2, iA2, jA2, lA2⟩) 25 (0, 0))) := hide (by
                    rw [HW4.out]
                    exact blk4 HY3.out _ _ _ _)
                  have HNY : Hid (NwG W4 (A + 1) ⟨kA1, nA1, cA1, vA1, mA1, dA1, iA1, jA1, lA1⟩ ⟨lfa, ksa, vsa, ida⟩ ∧ NwG W4 (A + 1) ⟨kA2, nA2, cA2, vA2, mA2, dA2, iA2, jA2, lA2⟩ ⟨lfb, ksb, vsb, idb⟩) := hide (by
                    rw [HW4.out, HW3.out]
                    exact ⟨((HNX.out.1.below HXD.out.2.2.1).set4 (by omega) _ _ _ _).set4 (by omega) _ _ _ _, ((HNX.out.2.below HXD.out.2.2.1).set4 (by omega) _ _ _ _).set4 (by omega) _ _ _ _⟩)
                  have HB4 : Hid (Below w.heap.size w W4) := hide (by
                    rw [HW4.out, HW3.out]
                    exact below4 (below4 (HBF.out.trans (HXD.out.2.2.1.mono HBF.out.size)) HI1.out.low _ _ _ _) (Nat.le_succ_of_le HI1.out.low) _ _ _ _)
                  clear HW3 HW4 HY3 HXD HSQ HD2 HSQW3 HSQW4 HXB HNX HBW HBF hHeld
                  have HPA1 : Hid (checkE (putP pa (K.getD i []) (V.getD i [])) = 0 ∧ (⟨lfa, ksa, vsa, ida⟩ : Pg) = putP pa (K.getD i []) (V.getD i [])) := hide (by
                    have h1 := HPA.out
                    have h2 := putR_ok (p := pa) (key := K.getD i []) (val := V.getD i []) (by rw [← h1])
                    rw [h2.2.2] at h1
                    exact ⟨h2.2.1, congrArg Prod.fst h1⟩)
                  have HPB1 : Hid (checkE (putP pb (K.getD k []) (V.getD k [])) = 0 ∧ (⟨lfb, ksb, vsb, idb⟩ : Pg) = putP pb (K.getD k []) (V.getD k [])) := hide (by
                    have h1 := HPB.out
                    have h2 := putR_ok (p := pb) (key := K.getD k []) (val := V.getD k []) (by rw [← h1])
                    rw [h2.2.2] at h1
                    exact ⟨h2.2.1, congrArg Prod.fst h1⟩)
                  have HLA : Hid (Lf ⟨lfa, ksa, vsa, ida⟩ (upS K V id (i + 1)) (i + 1)) := hide (by
                    rw [HPA1.out.2]
                    exact lf_step (N := n) (f := id) HI1.out.la hlt (fun t ht => ⟨Nat.lt_trans ht hlt, Nat.ne_of_lt ht⟩) HD.out HPA1.out.1)
                  have HLB : Hid (Lf ⟨lfb, ksb, vsb, idb⟩ (upS K V (rotN n r) (i + 1)) (i + 1)) := hide (by
                    rw [HPB1.out.2, HKR.out]
                    have h1 := HPB1.out.1
                    rw [HKR.out] at h1
                    exact lf_step (N := n) (f := rotN n r) HI1.out.lb (rot_lt (by omega)) (fun t ht => ⟨rot_lt (by omega), rot_ne ht hlt⟩) HD.out h1)
                  have HLF : Hid (lfa = true ∧ lfb = true) := hide ⟨(leafE_0 HLA.out.ok).2, (leafE_0 HLB.out.ok).2⟩
                  have HFW : Hid (FewP ⟨kA1, nA1, cA1, vA1, mA1, dA1, iA1, jA1, lA1⟩ ∧ FewP ⟨kA2, nA2, cA2, vA2, mA2, dA2, iA2, jA2, lA2⟩) := hide (by
                    have h1 := check_few (leafE_0 HLA.out.ok).1
                    have h2 := check_few (leafE_0 HLB.out.ok).1
                    have g1 := HNY.out.1
                    have g2 := HNY.out.2
                    exact ⟨⟨by rw [← g1.keys.is.1]; exact Nat.le_trans h1.1 (by decide), by rw [← g1.vals.is.1]; exact Nat.le_trans h1.2.1 (by decide), by rw [← g1.kids.1]; exact Nat.le_trans h1.2.2 (by decide)⟩, ⟨by rw [← g2.keys.is.1]; exact Nat.le_trans h2.1 (by decide), by rw [← g2.vals.is.1]; exact Nat.le_trans h2.2.1 (by decide), by rw [← g2.kids.1]; exact Nat.le_trans h2.2.2 (by decide)⟩⟩)
                  have HRL : Hid (SmB w A K V n r (i + 1) ⟨kA1, nA1, cA1, vA1, mA1, dA1, iA1, jA1, lA1⟩ ⟨kA2, nA2, cA2, vA2, mA2, dA2, iA2, jA2, lA2⟩ ⟨lfa, ksa, vsa, ida⟩ ⟨lfb, ksb, vsb, idb⟩ W4) := hide (by
                    have e1 := HLF.out.1
                    have e2 := HLF.out.2
                    have x1 := HBX1.out
                    have x2 := HBX2.out
                    rw [e1] at x1
                    rw [e2] at x2
                    exact ⟨HB4.out, HI1.out.low, x1, x2, HNY.out.1, HNY.out.2, HFW.out.1, HFW.out.2, HLA.out, HLB.out⟩)
                  clear HBX1 HBX2 HNY HB4 HPA1 HPB1 HLA HLB HLF HFW
                  go_wp2
                  go_roundw
                  case rel => exact ⟨i + 1, ⟨kA1, nA1, cA1, vA1, mA1, dA1, iA1, jA1, lA1⟩, ⟨kA2, nA2, cA2, vA2, mA2, dA2, iA2, jA2, lA2⟩, ⟨lfa, ksa, vsa, ida⟩, ⟨lfb, ksb, vsb, idb⟩, by omega, by simp, hide HRL.out⟩
                  case measure => simp [intOf]; omega
        · obtain rfl : n = i := by omega
          have hkk : ¬ (n : Int) < (n : Int) := by omega
          have HE : Hid (pa = pb) := hide (lf_same HI1.out.la HI1.out.lb)
          have HLP : Hid (pa.leaf = true) := hide (leafE_0 HI1.out.la.ok).2
          have HSA : Hid (Calls Try.prog 22 #[.agg (pgc true va1), .agg (pgc true vb1)] wr fun e w' => e = .returned (.bool true) ∧ Below wr.heap.size wr w') := hide (by
            have h2 := HI1.out.nb.is
            rw [← HE.out] at h2
            have := same_eq va1 vb1 pa wr HI1.out.na.is h2
            rw [HLP.out] at this
            exact this)
          have HKN : Hid (va1.kn = n) := hide (HI1.out.na.keys.is.1.symm.trans HI1.out.la.len)
          have HX := hide HI1.out.x
          have HBL := hide HI1.out.bel
          obtain ⟨q0, q1, q2, q3⟩ := BlkG.cells HI1.out.x
          obtain ⟨r0, r1, r2, r3⟩ := BlkG.cells HI1.out.y
          obtain ⟨ka1, kn1, kc1, va1', vn1, vc1, ia1, in1, ic1⟩ := va1
          obtain ⟨ka2, kn2, kc2, va2', vn2, vc2, ia2, in2, ic2⟩ := vb1
          dsimp only at q0 q1 q2 q3 r0 r1 r2 r3 HKN HSA
          clear HI1 HE
          go_wp2_with fail
          refine HSA.out.mono ?_
          rintro e w5 ⟨rfl, hb5⟩
          have HX5 : Hid (BlkG w5 A true ⟨ka1, kn1, kc1, va1', vn1, vc1, ia1, in1, ic1⟩) := hide ((hb5.block _ (heap_ltN HX.out)).trans HX.out)
          have HBF : Hid (Below w.heap.size w w5) := hide (HBL.out.trans (hb5.mono HBL.out.size))
          clear q0 q1 q2 q3 r0 r1 r2 r3 hb5 HSA
          have q1 : w5.cell? ⟨A, 1, none⟩ = some (.slice ka1 kn1 kc1) := (BlkG.cells HX5.out).2.1
          obtain rfl : kn1 = n := HKN.out
          have hnn : ((kn1 : Int) == (kn1 : Int)) = true := by simp
          go_wp2
          go_ret
          exact ⟨rfl, HBF.out⟩
end Go.Proofs.Ytebikoekpbnpbaa
