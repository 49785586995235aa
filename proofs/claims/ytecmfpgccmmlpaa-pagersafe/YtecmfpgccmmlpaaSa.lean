/- the document's may, little, number -/
import Derived.Test.YtecmfpgccmmlpaaPf
import Derived.Lib.AppendZeros
import Derived.ArgAppend
namespace Go.Proofs.Ytecmfpgccmmlpaa
open Go.RowKit
set_option maxRecDepth 100000
set_option linter.unusedVariables false
set_option linter.unusedSimpArgs false
theorem zeroCells5 (n : Nat) : Builtin.zeroCells (Value.int .u8 0).cells n = (zeros n).toArray := by
  simp [Builtin.zeroCells, zeros, show (Value.int .u8 0).cells = #[Value.int .u8 0] from rfl, Nat.mod_one, Array.ext_iff]
theorem zeros_one (n : Nat) : ∀ u ∈ zeros n, u.oneCell' = true := by
  intro u hu
  rw [List.eq_of_mem_replicate hu]
  rfl
theorem bv_zeros' (n : Nat) : zeros n = bv (List.replicate n 0) := (bv_zeros n).symm
/-- append(own, make([]byte, m)...) -/
theorem run_own_zeros (w : World) (ty : TypeId) (base g n cap m : Nat) (xs : List Value) (hown : w.ownsRow base 5 1 (.slice (some ⟨g, 0, none⟩) n cap) n xs) (hm : n + m ≤ 4096) (hbase : base ≤ w.heap.size) :
    ∃ v' w', (Builtin.append_ #[25, 3] ty #[.slice (some ⟨g, 0, none⟩) n cap, .int .i64 (m : Int)]).run Try.prog w = .ok v' w' ∧ w'.ownsRow base 5 1 v' (n + m) (xs ++ zeros m) ∧ w.grownBy w' (some g) := by
  obtain ⟨i0, hi, hz0, hz1, hz2⟩ := info_parts Try.info5
  have hw : IntKind.i64.wrap (m : Int) = m := by rw [IntKind.wrap_i64]; omega
  have hneg : ¬ ((m : Int) < 0) := by omega
  have h48i : ¬ (281474976710656 < (m : Int) * (i0.bytes : Int)) := by rw [hz2]; omega
  have hzl : (zeros m).length = m := by simp [zeros]
  rcases hown.2 with ⟨h0, _⟩ | ⟨g', cap', cur, he, hbg, hg, hnc, hcm, hcs, htake⟩
  · cases h0
  cases he
  have hlen : (xs ++ zeros m).length = (n + m) * 1 := by rw [List.length_append, hown.1, hzl, Nat.add_mul]; omega
  by_cases hroom : n + m ≤ cap
  · by_cases hm0 : m = 0
    · subst hm0
      refine ⟨.slice (some ⟨g, 0, none⟩) n cap, w, ?_, by simpa [zeros] using hown, World.grownBy.refl _ _⟩
      have hw0 : IntKind.i64.wrap 0 = 0 := rfl
      simp [Builtin.append_, run_underlying Try.underlying25, run_underlying Try.underlying3, sizeOf, typeInfo, zeroValue, hi, hz0, asInt, asIntOf, hw0, hnc, storeCells]
    · have hst := run_storeCells_at Try.prog g n 5 (zeros m) 0 cur w hg (by rw [hzl]; omega) (zeros_one m)
      simp only [Nat.add_zero] at hst
      have hns : ¬ (m * i0.size = 0) := by rw [hz1]; omega
      refine ⟨.slice (some ⟨g, 0, none⟩) (n + m) cap, w.setRow g (cur.toList.take n ++ zeros m ++ cur.toList.drop (n + (zeros m).length)).toArray, ?_, ⟨hlen, .inr ⟨g, cap, _, rfl, hbg, setRow_heap w g cur _ 5 _ hg, hroom, hcm, ?_, ?_⟩⟩, ⟨rfl, rfl, rfl, by simp, fun k _ hk => setRow_other w g k _ (fun e => hk (by rw [e]))⟩⟩
      · simp [Builtin.append_, run_underlying Try.underlying25, run_underlying Try.underlying3, sizeOf, typeInfo, zeroValue, hi, hz0, hz1, asInt, asIntOf, hw, hneg, h48i, hm0, hroom, zeroCells5, Addr.add_lit, hst]
      · simp only [List.size_toArray, List.length_append, List.length_take, List.length_drop, Array.length_toList, hzl]
        omega
      · rw [Nat.mul_one] at htake
        rw [htake, ← hlen]
        exact List.take_left
  · have hm0 : m ≠ 0 := by omega
    have hns : ¬ (m * i0.size = 0) := by rw [hz1]; omega
    have holds : ∀ j u, xs[j]? = some u → w.cell? ((⟨g, 0, none⟩ : Addr).add j) = some u := hown.cells (g := g) rfl
    have hfo := run_firstCells_some (P := Try.prog) w.drew i0.size n ⟨g, 0, none⟩ n cap xs (by rw [hz1]; exact hown.1) (by simpa using holds)
    have h63' : ¬ (9223372036854775807 < ((n : Int) + (m : Int))) := by omega
    have hnc48 := growslice_fits (need := n + m) (old := cap) (bytes := i0.bytes) (by omega) (by rw [hz2]; omega)
    have h48' : ¬ (281474976710656 < Builtin.nextslicecap (n + m) cap * i0.bytes) := by omega
    have hge := grownCap_ge w (n + m) cap 5
    refine ⟨.slice (some ⟨w.heap.size, 0, none⟩) (n + m) (grownCap w (n + m) cap 5), w.drew.alloc (.cells (xs.toArray ++ (zeros m).toArray ++ (zeros (grownCap w (n + m) cap 5 - (n + m))).toArray) 5), ?_, ⟨hlen, .inr ⟨w.heap.size, _, _, rfl, hbase, heap_alloc_new w.drew _, hge, grownCap_le_maxLen _ _ _ _ (by unfold maxLen; omega), ?_, ?_⟩⟩, ⟨rfl, rfl, rfl, by simp, fun k hk _ => Below.heap_alloc w.drew _ k hk⟩⟩
    · simp [Builtin.append_, run_underlying Try.underlying25, run_underlying Try.underlying3, sizeOf, typeInfo, zeroValue, hi, hz0, asInt, asIntOf, hw, hneg, h48i, hm0, hz1, hroom, h63', h48', Question.forced, zeroCells5, newRow, grownCap]
      rw [hz1] at hfo
      simp [hfo]
    · have h1 := hown.1
      simp [zeros] at h1 ⊢
      omega
    · simp only [Array.toList_append, List.append_assoc]
      rw [← List.append_assoc, ← hlen]
      exact List.take_left
theorem run_own_zeros_any (w : World) (ty : TypeId) (base n m : Nat) (v : Value) (xs : List Value) (hown : w.ownsRow base 5 1 v n xs) (hm : n + m ≤ 4096) (h0 : 0 < n) (hbase : base ≤ w.heap.size) :
    ∃ v' w', (Builtin.append_ #[25, 3] ty #[v, .int .i64 (m : Int)]).run Try.prog w = .ok v' w' ∧ w'.ownsRow base 5 1 v' (n + m) (xs ++ zeros m) ∧ Below base w w' := by
  rcases hown.2 with ⟨rfl, rfl⟩ | ⟨g, cap, cur, rfl, hbg, _⟩
  · omega
  · obtain ⟨v', w', h1, h2, h3⟩ := run_own_zeros w ty base g n cap m xs hown (by omega) hbase
    exact ⟨v', w', h1, h2, h3.os, h3.tape, h3.output, h3.size, fun k hk => h3.block k (by omega) (by simp; omega)⟩
theorem own_below {w w' : World} {base : Nat} {v : Value} {n : Nat} {l : List Value} (h : w.ownsRow base 5 1 v n l) (hb : Below w.heap.size w w') : w'.ownsRow base 5 1 v n l :=
  h.kept (row := none) ⟨hb.os, hb.tape, hb.output, hb.size, fun k hk _ => hb.block k hk⟩ (by cases hv : v.ownBlock <;> simp)
theorem own_isB {w : World} {base : Nat} {v : Value} {n : Nat} {l : List Nat} (h : w.ownsRow base 5 1 v n (bv l)) (hl : ∀ x ∈ l, x < 256) (hn : 0 < n) : ∃ g cap, v = .slice (some ⟨g, 0, none⟩) n cap ∧ base ≤ g ∧ IsB w (some ⟨g, 0, none⟩) n cap l := by
  obtain ⟨g, cap, rfl, hb, hr⟩ := Row.of_owns h hn
  exact ⟨g, cap, rfl, hb, hr.isB hl⟩
theorem rmay_eq (s : Sup) : s.may = (decide ((1 : Int) ≤ (s.gen : Int)) && decide ((s.gen : Int) ≤ 4611686018427387904) && decide ((1 : Int) ≤ (s.seq : Int)) && decide ((s.seq : Int) ≤ 2305843009213693952) && decide ((0 : Int) ≤ s.root) && decide (s.root ≤ (1024 : Int)) && decide ((0 : Int) ≤ s.live) && decide (s.live ≤ (1024 : Int)) && decide ((1 : Int) ≤ s.jn) && decide (s.jn ≤ (1024 : Int))) := by
  rw [Bool.eq_iff_iff]
  simp only [Sup.may, Bool.and_eq_true, decide_eq_true_eq]
  omega
theorem rmay_any (s : Sup) (w : World) : Calls Try.prog 33 #[supV s] w fun e w' => e = .returned (.bool s.may) ∧ Below w.heap.size w w' := by
  have HT := hide (rmay_eq s)
  generalize s.may = b at *
  have HB : Hid (Below w.heap.size w (w.alloc (.cells #[.int .u64 (s.gen : Nat), .int .i64 s.root, .int .u64 (s.seq : Nat), .int .i64 s.jn, .int .i64 s.live] 24))) := hide ((Below.refl _ w).alloc (Nat.le_refl _) _)
  unfold supV supC
  obtain ⟨gen, root, seq, jn, live⟩ := s
  dsimp only at HT HB ⊢
  cases c0 : (decide ((1 : Int) ≤ (gen : Int)))
  case false =>
    have HF : Hid (b = false) := hide (by rw [HT.out, c0]; rfl)
    clear HT
    go_enter Try.func33, Try.ntmps33
    go_wp2
    go_ret
    exact ⟨by rw [HF.out]; rfl, HB.out⟩
  case true =>
    cases c1 : (decide ((gen : Int) ≤ 4611686018427387904))
    case false =>
      have HF : Hid (b = false) := hide (by rw [HT.out, c0, c1]; rfl)
      clear HT
      go_enter Try.func33, Try.ntmps33
      go_wp2
      go_ret
      exact ⟨by rw [HF.out]; rfl, HB.out⟩
    case true =>
      cases c2 : (decide ((1 : Int) ≤ (seq : Int)))
      case false =>
        have HF : Hid (b = false) := hide (by rw [HT.out, c0, c1, c2]; rfl)
        clear HT
        go_enter Try.func33, Try.ntmps33
        go_wp2
        go_ret
        exact ⟨by rw [HF.out]; rfl, HB.out⟩
      case true =>
        cases c3 : (decide ((seq : Int) ≤ 2305843009213693952))
        case false =>
          have HF : Hid (b = false) := hide (by rw [HT.out, c0, c1, c2, c3]; rfl)
          clear HT
          go_enter Try.func33, Try.ntmps33
          go_wp2
          go_ret
          exact ⟨by rw [HF.out]; rfl, HB.out⟩
        case true =>
          cases c4 : (decide ((0 : Int) ≤ root))
          case false =>
            have HF : Hid (b = false) := hide (by rw [HT.out, c0, c1, c2, c3, c4]; rfl)
            clear HT
            go_enter Try.func33, Try.ntmps33
            go_wp2
            go_ret
            exact ⟨by rw [HF.out]; rfl, HB.out⟩
          case true =>
            cases c5 : (decide (root ≤ (1024 : Int)))
            case false =>
              have HF : Hid (b = false) := hide (by rw [HT.out, c0, c1, c2, c3, c4, c5]; rfl)
              clear HT
              go_enter Try.func33, Try.ntmps33
              go_wp2
              go_ret
              exact ⟨by rw [HF.out]; rfl, HB.out⟩
            case true =>
              cases c6 : (decide ((0 : Int) ≤ live))
              case false =>
                have HF : Hid (b = false) := hide (by rw [HT.out, c0, c1, c2, c3, c4, c5, c6]; rfl)
                clear HT
                go_enter Try.func33, Try.ntmps33
                go_wp2
                go_ret
                exact ⟨by rw [HF.out]; rfl, HB.out⟩
              case true =>
                cases c7 : (decide (live ≤ (1024 : Int)))
                case false =>
                  have HF : Hid (b = false) := hide (by rw [HT.out, c0, c1, c2, c3, c4, c5, c6, c7]; rfl)
                  clear HT
                  go_enter Try.func33, Try.ntmps33
                  go_wp2
                  go_ret
                  exact ⟨by rw [HF.out]; rfl, HB.out⟩
                case true =>
                  cases c8 : (decide ((1 : Int) ≤ jn))
                  case false =>
                    have HF : Hid (b = false) := hide (by rw [HT.out, c0, c1, c2, c3, c4, c5, c6, c7, c8]; rfl)
                    clear HT
                    go_enter Try.func33, Try.ntmps33
                    go_wp2
                    go_ret
                    exact ⟨by rw [HF.out]; rfl, HB.out⟩
                  case true =>
                    cases c9 : (decide (jn ≤ (1024 : Int)))
                    case false =>
                      have HF : Hid (b = false) := hide (by rw [HT.out, c0, c1, c2, c3, c4, c5, c6, c7, c8, c9]; rfl)
                      clear HT
                      go_enter Try.func33, Try.ntmps33
                      go_wp2
                      go_ret
                      exact ⟨by rw [HF.out]; rfl, HB.out⟩
                    case true =>
                      have HF : Hid (b = true) := hide (by rw [HT.out, c0, c1, c2, c3, c4, c5, c6, c7, c8, c9]; rfl)
                      clear HT
                      go_enter Try.func33, Try.ntmps33
                      go_wp2
                      go_ret
                      exact ⟨by rw [HF.out]; rfl, HB.out⟩
theorem u8_one (x : Int) : ∀ u ∈ [Value.int .u8 x], u.oneCell' = true := by
  intro u hu; simp at hu; subst hu; rfl
theorem own_low {w : World} {base base' : Nat} {v : Value} {n : Nat} {xs : List Value} (h : w.ownsRow base 5 1 v n xs) (hb : base' ≤ base) : w.ownsRow base' 5 1 v n xs := by
  refine ⟨h.1, h.2.imp id ?_⟩
  rintro ⟨g, cap, cur, e, h1, h2⟩
  exact ⟨g, cap, cur, e, Nat.le_trans hb h1, h2⟩
set_option maxHeartbeats 1000000 in
theorem little_any (w : World) (base : Nat) (v : Value) (len : Nat) (xs : List Nat) (n k : Nat) (hk : k ≤ 8) (hk0 : 0 < k) (h0 : w.ownsRow base 5 1 v len (bv xs) ∨ ∃ q, v = .slice (some ⟨q, 0, none⟩) len len ∧ IsB w (some ⟨q, 0, none⟩) len len xs) (hbase : base ≤ w.heap.size) (hlen : len ≤ 4000) (hx : ∀ x ∈ xs, x < 256) :
    Calls Try.prog 34 #[v, .int .u64 (n : Nat), .int .i64 (k : Nat)] w fun e w' => ∃ v', e = .returned v' ∧ w'.ownsRow base 5 1 v' (len + k) (bv (xs ++ leB n k)) ∧ Below base w w' := by
  have HX := hide hx
  clear hx
  obtain ⟨i0, hi, hz0, hz1, hz2⟩ := info_parts Try.info5
  have H0 := hide h0
  have HBA := hide hbase
  clear h0 hbase
  go_enter Try.func34, Try.ntmps34
  go_wp2_with fail
  go_loopw [7, 0] (fun i x0 wr => ∃ (j : Nat) (x : Value), j ≤ k ∧ i = .int .i64 (j : Nat) ∧ x = x0 ∧ Below base w wr ∧ ((j = 0 ∧ x = v ∧ wr = w) ∨ (0 < j ∧ wr.ownsRow base 5 1 x (len + j) (bv (xs ++ leB n j))))) (fun i _ _ => k - (intOf i).toNat)
  case atStart => exact ⟨0, v, Nat.zero_le _, rfl, rfl, Below.refl _ _, .inl ⟨rfl, rfl, rfl⟩⟩
  case round =>
    obtain ⟨j, x, hj, rfl, rfl, hb, hown⟩ := hrel
    by_cases hjk : j < k
    · have HE : Hid (((n : Int) / 2 ^ (8 * j) % 256) = ((n / 2 ^ (8 * j) % 256 : Nat) : Int)) := hide (by simp)
      have HL : Hid (xs ++ leB n (j + 1) = (xs ++ leB n j) ++ [n / 2 ^ (8 * j) % 256]) := hide (by rw [leB, List.append_assoc])
      have hbs := hb.size
      have hbz := HBA.out
      have key : wr.ownsRow base 5 1 x (len + j) (bv (xs ++ leB n j)) ∨ ∃ q, x = .slice (some ⟨q, 0, none⟩) (len + j) (len + j) ∧ IsB wr (some ⟨q, 0, none⟩) (len + j) (len + j) (xs ++ leB n j) := by
        rcases hown with ⟨hj0, rfl, rfl⟩ | ⟨_, h⟩
        · rw [hj0]
          simpa [leB] using H0.out
        · exact .inl h
      clear hown
      rcases key with hown | ⟨q, rfl, hI⟩
      · go_wp2_with (at_builtin; refine wpList_append_own _ rfl _ _ 25 rfl base 5 i0 (.int .u8 0) 1 1 Try.underlying25 hi hz0 hz1 hz2 rfl (by decide) _ (len + j) (bv (xs ++ leB n j)) rfl (hown.alloc _) ⟨wr.heap.size, 0, none⟩ 1 1 [.int .u8 ((n : Int) / 2 ^ (8 * j) % 256)] rfl rfl (cell_one_new _ _ _) (u8_one _) ?c3 ?c4 ?c5 ?_)
        case c3 => unfold maxLen; omega
        case c4 => omega
        case c5 => simp; omega
        intro v2 w2 hown2 hg2 _
        have hb2 : Below base w w2 := (hb.alloc (by omega) _).grown hg2 (by simp; omega) (fun k hk => (hown.lt k hk).1)
        have hown3 : w2.ownsRow base 5 1 v2 (len + (j + 1)) (bv (xs ++ leB n (j + 1))) := by rw [HL.out, bv_append]; rw [HE.out] at hown2; exact hown2
        clear hown2 hg2 hown hb HE HL
        go_wp2
        go_roundw
        case rel => exact ⟨j + 1, _, by omega, by go_num, rfl, hb2, .inr ⟨by omega, hown3⟩⟩
        case measure => simp [intOf]; omega
      · have hIa : IsB (wr.alloc (.cells #[.int .u8 ((n : Int) / 2 ^ (8 * j) % 256)] 5)) (some ⟨q, 0, none⟩) (len + j) (len + j) (xs ++ leB n j) := hI.below ((Below.refl _ wr).alloc (Nat.le_refl _) _)
        go_wp2_with (at_builtin; refine wpList_append_grows _ rfl _ _ 25 rfl 5 i0 (.int .u8 0) 1 1 Try.underlying25 hi hz0 hz1 hz2 rfl (by decide) (some ⟨q, 0, none⟩) (len + j) (len + j) (bv (xs ++ leB n j)) rfl (by intro h; cases h) (by rw [bv_length, Nat.mul_one]; exact hI.1) (fun b hb => by cases hb; exact hIa.src) ⟨wr.heap.size, 0, none⟩ 1 1 [.int .u8 ((n : Int) / 2 ^ (8 * j) % 256)] rfl rfl (cell_one_new _ _ _) (u8_one _) (by omega) (by unfold maxLen; omega) (by omega) ?_)
        intro v2 w2 hown2 hg2
        have hb2 : Below base w w2 := (hb.alloc (by omega) _).grown hg2 (by simp; omega) (fun k hk => by cases hk)
        have hown3 : w2.ownsRow base 5 1 v2 (len + (j + 1)) (bv (xs ++ leB n (j + 1))) := by rw [HL.out, bv_append]; rw [HE.out] at hown2; exact own_low hown2 (by first | omega | (simp; omega))
        clear hown2 hg2 hI hIa hb HE HL
        go_wp2
        go_roundw
        case rel => exact ⟨j + 1, _, by omega, by go_num, rfl, hb2, .inr ⟨by omega, hown3⟩⟩
        case measure => simp [intOf]; omega
    · have hjk2 : j = k := by omega
      subst hjk2
      have HO := hide ((hown.resolve_left (fun h => by omega)).2)
      clear hown
      go_wp2_with fail
      go_ret
      exact ⟨_, rfl, HO.out, hb⟩
theorem number_any (w : World) (a : Option Addr) (len cap : Nat) (l : List Nat) (h : IsB w a len cap l) (hk : len ≤ 8) :
    Calls Try.prog 38 #[.slice a len cap] w fun e w' => e = .returned (.int .u64 (lowN l : Nat)) ∧ w' = w := by
  have HLN := hide h.1
  have H := hide h
  clear h
  go_enter Try.func38, Try.ntmps38
  go_wp2_with fail
  go_loopw [4, 3] (fun i n wr => ∃ j A : Nat, j ≤ len ∧ i = .int .i64 ((j : Int) - 1) ∧ n = .int .u64 (A : Nat) ∧ Hid (A = lowN (l.drop j)) ∧ wr = w) (fun i _ _ => (intOf i + 1).toNat)
  case atStart => exact ⟨len, 0, Nat.le_refl _, by first | rfl | simp, rfl, hide (by rw [List.drop_eq_nil_of_le (by rw [HLN.out]; exact Nat.le_refl _)]; rfl), rfl⟩
  case round =>
    obtain ⟨j, A, hj, rfl, rfl, HA, rfl⟩ := hrel
    by_cases hj0 : 0 < j
    · obtain ⟨m, rfl⟩ : ∃ m, j = m + 1 := ⟨j - 1, by omega⟩
      obtain ⟨hl, _, _, hxs, h5⟩ := H.out
      rcases h5 with ⟨h0, _⟩ | ⟨b, off, rfl, hlt, hc⟩
      · omega
      have hcm := hc m (by omega)
      have hx := getD_lt l m hxs
      have HD : Hid (lowN (l.drop m) = l.getD m 0 + 256 * A) := hide (by
        rw [HA.out, List.getD_eq_getElem?_getD, List.getElem?_eq_getElem (by omega), List.drop_eq_getElem_cons (by omega)]; rfl)
      have hA : A < 256 ^ (len - (m + 1)) := by
        have := lowN_lt (l.drop (m + 1)) (mem_drop hxs)
        rw [HA.out]; rwa [List.length_drop, hl] at this
      have hA2 : A < 256 ^ 7 := Nat.lt_of_lt_of_le hA (Nat.pow_le_pow_right (by decide) (by omega))
      have em : (((m + 1 : Nat) : Int) - 1) = (m : Int) := by omega
      have d1 : decide ((0 : Int) ≤ (m : Int)) = true := decide_eq_true (by omega)
      clear hc hxs hA
      generalize l.getD m 0 = x at *
      rw [em]
      go_wp2_with fail
      exact ⟨⟨m, A * 256 + x, by omega, rfl, by simp, hide (by rw [HD.out]; omega), trivial⟩, by simp [intOf]⟩
    · have hj00 : j = 0 := by omega
      subst hj00
      have HB : Hid (A = lowN l) := hide (by rw [HA.out, List.drop_zero])
      have d1 : decide ((0 : Int) ≤ ((0 : Nat) : Int) - 1) = false := by decide
      go_wp2_with fail
      go_ret
      exact ⟨by rw [← HB.out]; rfl, rfl⟩
end Go.Proofs.Ytecmfpgccmmlpaa
