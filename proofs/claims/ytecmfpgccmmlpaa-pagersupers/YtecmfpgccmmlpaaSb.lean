/- the document's Bytes -/
import Derived.Test.YtecmfpgccmmlpaaSa
namespace Go.Proofs.Ytecmfpgccmmlpaa
open Go.RowKit
set_option maxRecDepth 100000
set_option linter.unusedVariables false
set_option linter.unusedSimpArgs false
set_option maxHeartbeats 400000 in
/-- ladingref02.Seal, by the length alone -/
theorem refSeal_len (a : Option Addr) (len cap : Nat) (l : List Nat) (w : World) (h : IsB w a len cap l) (hr : len ≤ 140737488351232) :
    Calls Try.prog 35 #[.slice a len cap] w fun e w' => ∃ v, e = .returned v ∧ w'.ownsRow w.heap.size 5 1 v (len + 4) (bv (l ++ le (Crc.update 0 l))) ∧ Below w.heap.size w w' := by
  obtain ⟨i0, hi, hz0, hz1, hz2⟩ := info_parts Try.info5
  go_enter Try.func35, Try.ntmps35
  go_wp2_with fail
  refine (refOf_any a len cap l _ h).mono ?_
  rintro e w' ⟨rfl, rfl⟩
  go_wp2_with (at_builtin; refine wpList_clone rfl (.tmp 7) (.tmp 8) rfl w'.heap.size _ 0 [] rfl (owns_empty w' _ (Nat.le_refl _)) a len cap l rfl ?hB ?hb ?hbase w'.heap.size w' ?bel (Nat.le_refl _) ?_)
  case hB => exact h.below ((Below.refl _ _).alloc (Nat.le_refl _) _)
  case hb => omega
  case hbase => simp
  case bel => exact (Below.refl _ _).alloc (Nat.le_refl _) _
  intro v w1 hown0 hb1
  have hown : w1.ownsRow w'.heap.size 5 1 v len (bv l) := by simpa using hown0
  clear hown0
  have hsz := hb1.size
  generalize hcu : Crc.update 0 l = c at *
  have Hcu := hide hcu
  clear hcu h
  go_wp2_with (at_builtin; refine wpList_append_own _ rfl (.tmp 10) (.tmp 22) 25 rfl w'.heap.size 5 i0 (.int .u8 0) 1 1 Try.underlying25 hi hz0 hz1 hz2 rfl (by decide) _ len (bv l) rfl (hown.alloc _) ⟨w1.heap.size, 0, none⟩ 4 4 [.int .u8 ((c : Int) % 256), .int .u8 ((c : Int) / 256 % 256), .int .u8 ((c : Int) / 65536 % 256), .int .u8 ((c : Int) / 16777216 % 256)] rfl rfl (src_lit w1 _) ?c2 ?c3 ?c4 ?c5 ?_)
  case c2 => intro u hu; simp at hu; rcases hu with rfl | rfl | rfl | rfl <;> rfl
  case c3 => unfold maxLen; omega
  case c4 => omega
  case c5 => simp; omega
  intro v2 w2 hown2 hg2 _
  have hb2 : Below w'.heap.size w' w2 := (hb1.alloc hsz _).grown hg2 (by simp; omega) (fun k hk => (hown.lt k hk).1)
  have el : bv (le c) = [.int .u8 ((c : Int) % 256), .int .u8 ((c : Int) / 256 % 256), .int .u8 ((c : Int) / 65536 % 256), .int .u8 ((c : Int) / 16777216 % 256)] := by simp [bv, le]
  rw [← el, ← bv_append] at hown2
  clear el
  clear hg2 hown
  go_wp2
  go_ret
  exact ⟨_, rfl, by rw [Hcu.out]; exact hown2, hb2⟩
structure LitW (B : Nat) (V0 W : World) (v : Value) (len : Nat) (xs : List Nat) : Prop where
  own : W.ownsRow B 5 1 v len (bv xs)
  b : Below B V0 W
  lt : ∀ x ∈ xs, x < 256
theorem LitW.drew {B : Nat} {V0 W : World} {v : Value} {len : Nat} {xs : List Nat} (h : LitW B V0 W v len xs) : LitW B V0 W.drew v len xs :=
  ⟨own_below h.own (Below.refl _ W).drew, h.b.drew, h.lt⟩
theorem LitW.more {B : Nat} {V0 W : World} {v : Value} {len : Nat} {xs : List Nat} (h : LitW B V0 W v len xs) (hB : B ≤ V0.heap.size) (n k : Nat) (hk : k ≤ 8) (hk0 : 0 < k) (hl : len ≤ 4000) :
    Calls Try.prog 34 #[v, .int .u64 (n : Nat), .int .i64 (k : Nat)] W fun e w' => ∃ v', e = .returned v' ∧ Hid (LitW B V0 w' v' (len + k) (xs ++ leB n k)) := by
  refine (little_any W B v len xs n k hk hk0 (.inl h.own) (Nat.le_trans hB h.b.size) hl h.lt).mono ?_
  rintro e w' ⟨v', rfl, h1, h2⟩
  refine ⟨v', rfl, hide ⟨h1, h.b.trans h2, ?_⟩⟩
  intro x hx
  rcases List.mem_append.1 hx with hx | hx
  · exact h.lt x hx
  · exact leB_lt _ _ x hx
theorem lit_more {B : Nat} {V0 W : World} {q len : Nat} {xs : List Nat} (h : IsB W (some ⟨q, 0, none⟩) len len xs) (hb : Below B V0 W) (hB : B ≤ V0.heap.size) (n k : Nat) (hk : k ≤ 8) (hk0 : 0 < k) (hl : len ≤ 4000) :
    Calls Try.prog 34 #[.slice (some ⟨q, 0, none⟩) len len, .int .u64 (n : Nat), .int .i64 (k : Nat)] W fun e w' => ∃ v', e = .returned v' ∧ Hid (LitW B V0 w' v' (len + k) (xs ++ leB n k)) := by
  refine (little_any W B _ len xs n k hk hk0 (.inr ⟨q, rfl, h⟩) (Nat.le_trans hB hb.size) hl h.2.2.2.1).mono ?_
  rintro e w' ⟨v', rfl, h1, h2⟩
  refine ⟨v', rfl, hide ⟨h1, hb.trans h2, ?_⟩⟩
  intro x hx
  rcases List.mem_append.1 hx with hx | hx
  · exact h.2.2.2.1 x hx
  · exact leB_lt _ _ x hx
theorem LitW.more8 {B : Nat} {V0 W : World} {v : Value} {len : Nat} {xs : List Nat} (h : LitW B V0 W v len xs) (hB : B ≤ V0.heap.size) (n : Nat) (hl : len ≤ 4000) :
    Calls Try.prog 34 #[v, .int .u64 (n : Nat), .int .i64 8] W fun e w' => ∃ v', e = .returned v' ∧ Hid (LitW B V0 w' v' (len + 8) (xs ++ leB n 8)) := h.more hB n 8 (by omega) (by omega) hl
theorem LitW.more4 {B : Nat} {V0 W : World} {v : Value} {len : Nat} {xs : List Nat} (h : LitW B V0 W v len xs) (hB : B ≤ V0.heap.size) (n : Nat) (hl : len ≤ 4000) :
    Calls Try.prog 34 #[v, .int .u64 (n : Nat), .int .i64 4] W fun e w' => ∃ v', e = .returned v' ∧ Hid (LitW B V0 w' v' (len + 4) (xs ++ leB n 4)) := h.more hB n 4 (by omega) (by omega) hl
theorem lit_more8 {B : Nat} {V0 W : World} {q len : Nat} {xs : List Nat} (h : IsB W (some ⟨q, 0, none⟩) len len xs) (hb : Below B V0 W) (hB : B ≤ V0.heap.size) (n : Nat) (hl : len ≤ 4000) :
    Calls Try.prog 34 #[.slice (some ⟨q, 0, none⟩) len len, .int .u64 (n : Nat), .int .i64 8] W fun e w' => ∃ v', e = .returned v' ∧ Hid (LitW B V0 w' v' (len + 8) (xs ++ leB n 8)) := lit_more h hb hB n 8 (by omega) (by omega) hl
theorem rbytes_no (s : Sup) (hm : s.may = false) (w : World) : Calls Try.prog 10 #[supV s] w fun e w' => e = .returned (.tuple #[.slice none 0 0, .int .i64 2]) ∧ Below w.heap.size w w' := by
  have HB : Hid (Below w.heap.size w (box5 w s)) := hide ((Below.refl _ w).alloc (Nat.le_refl _) _)
  have HM := hide (rmay_any s (box5 w s))
  rw [hm] at HM
  clear hm
  unfold box5 supV supC at *
  obtain ⟨gen, root, seq, jn, live⟩ := s
  dsimp only at HB HM ⊢
  go_enter Try.func10, Try.ntmps10
  go_wp2_with fail
  refine HM.out.mono ?_
  rintro e w1 ⟨rfl, hb1⟩
  have HB1 := hide (HB.out.trans (hb1.mono HB.out.size))
  clear hb1 HB HM
  go_wp2
  go_ret2
  exact ⟨rfl, HB1.out⟩
set_option maxHeartbeats 4000000 in
theorem rbytes_ok (s : Sup) (hm : s.may = true) (w : World) : Calls Try.prog 10 #[supV s] w fun e w' => ∃ v, e = .returned (.tuple #[v, .int .i64 0]) ∧ w'.ownsRow w.heap.size 5 1 v 4096 (bv (supL s)) ∧ Below w.heap.size w w' := by
  have HB : Hid (Below w.heap.size w (box5 w s)) := hide ((Below.refl _ w).alloc (Nat.le_refl _) _)
  have HM := hide (rmay_any s (box5 w s))
  rw [hm] at HM
  have HP : Hid ([76, 68, 83, 66] ++ leB s.gen 8 ++ leB s.seq 8 ++ leB s.root.toNat 4 ++ leB s.jn.toNat 4 ++ leB s.live.toNat 4 ++ List.replicate 4060 0 = supX s) := hide rfl
  have HXL : Hid ((∀ x ∈ supX s, x < 256) ∧ supL s = supX s ++ le (Crc.update 0 (supX s))) := hide ⟨supX_lt s, rfl⟩
  have HC : Hid (∀ W : World, Below (w.heap.size + 1) (box5 w s) W → W.cell? ⟨w.heap.size, 0, none⟩ = some (.int .u64 (s.gen : Nat)) ∧ W.cell? ⟨w.heap.size, 1, none⟩ = some (.int .i64 s.root) ∧ W.cell? ⟨w.heap.size, 2, none⟩ = some (.int .u64 (s.seq : Nat)) ∧ W.cell? ⟨w.heap.size, 3, none⟩ = some (.int .i64 s.jn) ∧ W.cell? ⟨w.heap.size, 4, none⟩ = some (.int .i64 s.live)) := hide (fun W hW => by
    have hh := (hW.block w.heap.size (by simp)).trans (heap_alloc_new w _)
    exact ⟨cell_bk hh rfl, cell_bk hh rfl, cell_bk hh rfl, cell_bk hh rfl, cell_bk hh rfl⟩)
  have HS : Hid (w.heap.size + 1 ≤ (box5 w s).heap.size) := hide (by simp)
  obtain ⟨g1, g2, g3, g4, g5, g6, g7, g8, g9, g10⟩ := s.of_may hm
  have k1 : IntKind.u64.wrap s.root = ((s.root.toNat : Nat) : Int) := by rw [IntKind.wrap_u64]; omega
  have k2 : IntKind.u64.wrap s.jn = ((s.jn.toNat : Nat) : Int) := by rw [IntKind.wrap_u64]; omega
  have k3 : IntKind.u64.wrap s.live = ((s.live.toNat : Nat) : Int) := by rw [IntKind.wrap_u64]; omega
  clear hm g1 g2 g3 g4 g5 g6 g7 g8 g9 g10
  generalize supL s = SL at *
  generalize supX s = SX at *
  generalize hrt : s.root.toNat = RT at *
  generalize hjt : s.jn.toNat = JT at *
  generalize hlt : s.live.toNat = LT at *
  clear hrt hjt hlt
  unfold box5 supV supC at *
  obtain ⟨gen, root, seq, jn, live⟩ := s
  dsimp only at HB HM HP HC HS k1 k2 k3 ⊢
  go_enter Try.func10, Try.ntmps10
  go_wp2_with fail
  refine HM.out.mono ?_
  rintro e w1 ⟨rfl, hb1⟩
  generalize hV : w.alloc (.cells #[.int .u64 (gen : Nat), .int .i64 root, .int .u64 (seq : Nat), .int .i64 jn, .int .i64 live] 24) = V0 at *
  have HV : Hid (V0.heap.size = w.heap.size + 1) := hide (by rw [← hV]; simp)
  clear hV
  rw [HV.out] at hb1
  have K0 := hide hb1.drew
  have hz : w.heap.size + 1 ≤ w1.drew.heap.size := by have := K0.out.size; have := HS.out; omega
  have K1 : Hid (Below (w.heap.size + 1) V0 (w1.alloc (.cells #[.int .u8 76, .int .u8 68, .int .u8 83, .int .u8 66] 5)).drew) := hide (K0.out.alloc hz _)
  have K2 : Hid (Below (w.heap.size + 1) V0 (w1.alloc (.cells #[.int .u8 76, .int .u8 68, .int .u8 83, .int .u8 66] 5 (4, 5))).drew) := hide (K0.out.alloc hz _)
  have hcv : (convert 25 25 (.slice (some ⟨w1.heap.size, 0, none⟩) 4 4)).run Try.prog (w1.alloc (.cells #[.int .u8 76, .int .u8 68, .int .u8 83, .int .u8 66] 5)).drew = .ok (.slice (some ⟨w1.heap.size, 0, none⟩) 4 4) (w1.alloc (.cells #[.int .u8 76, .int .u8 68, .int .u8 83, .int .u8 66] 5 (4, 5))).drew := Lib.run_convert_bytes_const w1.drew 25 5 _ 4 4 Try.underlying25 Try.underlying5
  have hMk : IsB (w1.alloc (.cells #[.int .u8 76, .int .u8 68, .int .u8 83, .int .u8 66] 5 (4, 5))).drew (some ⟨w1.heap.size, 0, none⟩) 4 4 [76, 68, 83, 66] := isB_lit w1.drew [76, 68, 83, 66] (by decide) (by decide) (4, 5)
  have L1 := hide (lit_more8 hMk K2.out HS.out gen (by omega))
  clear hMk hz hb1 HM
  have q3 : 4 + 8 ≤ 4000 := by decide
  have q6 : 4 + 8 + 8 + 4 ≤ 4000 := by decide
  have q7 : 4 + 8 + 8 + 4 + 4 ≤ 4000 := by decide
  go_wp2_with fail
  refine wp_region_noPanic ?_
  refine wp_region_held_drew (S := (fun W : World => W.cell? ⟨w.heap.size, 0, none⟩ = some (.int .u64 (gen : Nat)) ∧ W.cell? ⟨w.heap.size, 1, none⟩ = some (.int .i64 root) ∧ W.cell? ⟨w.heap.size, 2, none⟩ = some (.int .u64 (seq : Nat)) ∧ W.cell? ⟨w.heap.size, 3, none⟩ = some (.int .i64 jn) ∧ W.cell? ⟨w.heap.size, 4, none⟩ = some (.int .i64 live))) (by kernel_rfl) (HC.out _ K0.out) (fun hHeld => ?_)
  refine wpAnyH_take (i := 2) (v := ?v1) rfl (by kernel_rfl) (by kernel_rfl) (by kernel_rfl) (fun _ _ _ h => h) (Or.inl ⟨by rfl, ?y1⟩) (by assumption) ?r1
  case y1 => (intro w hSw; (try dsimp only at hSw); go_simp; (try with_reducible rfl))
  (try simp only [Act.put, List.setIfInBounds_toArray, List.set_cons_zero, List.set_cons_succ])
  refine wpAnyH_take (i := 3) (v := ?v2) rfl (by kernel_rfl) (by kernel_rfl) (by kernel_rfl) (fun _ _ _ h => h) (Or.inl ⟨by rfl, ?y2⟩) (by assumption) ?r2
  case y2 => (intro w hSw; (try dsimp only at hSw); go_simp; (try with_reducible rfl))
  (try simp only [Act.put, List.setIfInBounds_toArray, List.set_cons_zero, List.set_cons_succ])
  refine wpAnyH_take (i := 5) (v := ?v3) rfl (by kernel_rfl) (by kernel_rfl) (by kernel_rfl) (fun _ _ _ h => h) (Or.inl ⟨by rfl, ?y3⟩) (by assumption) ?r3
  case y3 => (intro w hSw; (try dsimp only at hSw); go_simp; (try with_reducible rfl))
  (try simp only [Act.put, List.setIfInBounds_toArray, List.set_cons_zero, List.set_cons_succ])
  refine wpAnyH_take (i := 6) (v := ?v4) rfl (by kernel_rfl) (by kernel_rfl) (by kernel_rfl) (fun _ _ _ h => h) (Or.inl ⟨by rfl, ?y4⟩) (by assumption) ?r4
  case y4 => (intro w hSw; (try dsimp only at hSw); go_simp; (try with_reducible rfl))
  (try simp only [Act.put, List.setIfInBounds_toArray, List.set_cons_zero, List.set_cons_succ])
  refine wpAnyH_ready (rs := [0]) (by kernel_rfl) (by simp) ?_
  refine AllReadyH.cons rfl (fun K hK => ?_) AllReadyH.nil
  go_simp
  refine hK.out _ _ ?_ (fun hHeld => ?_)
  · exact HC.out _ K1.out
  clear hK K
  (try simp only [Act.put, List.setIfInBounds_toArray, List.set_cons_zero, List.set_cons_succ])
  refine wpAnyH_ready (rs := [1]) (by kernel_rfl) (by simp) ?_
  refine AllReadyH.cons rfl (fun K hK => ?_) AllReadyH.nil
  go_simp
  refine hK.out _ _ ?_ (fun hHeld => ?_)
  · exact HC.out _ K2.out
  clear hK K
  (try simp only [Act.put, List.setIfInBounds_toArray, List.set_cons_zero, List.set_cons_succ])
  refine wpAnyH_ready (rs := [4]) (by kernel_rfl) (by simp) ?_
  refine AllReadyH.cons rfl (fun K hK => ?_) AllReadyH.nil
  go_simp
  refine L1.out.mono ?_
  rintro e w2 ⟨v2, rfl, HO2⟩
  go_wp2_with fail
  refine hK.out _ _ ?_ (fun hHeld => ?_)
  · exact HC.out _ HO2.out.b
  clear hK K
  (try simp only [Act.put, List.setIfInBounds_toArray, List.set_cons_zero, List.set_cons_succ])
  refine wpAnyH_ready (rs := [7]) (by kernel_rfl) (by simp) ?_
  refine AllReadyH.cons rfl (fun K hK => ?_) AllReadyH.nil
  go_simp
  refine (LitW.more8 HO2.out HS.out seq q3).mono ?_
  rintro e w3 ⟨v3, rfl, HO3⟩
  go_wp2_with fail
  refine hK.out _ _ ?_ (fun hHeld => ?_)
  · exact HC.out _ HO3.out.b
  clear hK K
  (try simp only [Act.put, List.setIfInBounds_toArray, List.set_cons_zero, List.set_cons_succ])
  refine wpAnyH_ready (rs := [8]) (by kernel_rfl) (by simp) ?_
  refine AllReadyH.cons rfl (fun K hK => ?_) AllReadyH.nil
  go_simp
  refine hK.out _ _ ?_ (fun hHeld => ?_)
  · exact HC.out _ HO3.out.b
  clear hK K
  (try simp only [Act.put, List.setIfInBounds_toArray, List.set_cons_zero, List.set_cons_succ])
  refine wpAnyH_done (by kernel_rfl) ?_ _
  refine NoPanic.normal ?_
  clear L1 hcv K0 K1 K2 HO2
  have HO3d := hide HO3.out.drew
  have L4 := hide (LitW.more4 HO3d.out HS.out RT (by omega))
  clear HO3
  go_wp2_with fail
  go_region_held3 (fun W : World => W.cell? ⟨w.heap.size, 0, none⟩ = some (.int .u64 (gen : Nat)) ∧ W.cell? ⟨w.heap.size, 1, none⟩ = some (.int .i64 root) ∧ W.cell? ⟨w.heap.size, 2, none⟩ = some (.int .u64 (seq : Nat)) ∧ W.cell? ⟨w.heap.size, 3, none⟩ = some (.int .i64 jn) ∧ W.cell? ⟨w.heap.size, 4, none⟩ = some (.int .i64 live)) (first | exact HC.out _ HO3d.out.b | exact HC.out _ HO6.out.b | exact HC.out _ HO5.out.b | exact HC.out _ HO4.out.b | fail) ((go_at_call 34; (first | (with_reducible refine L4.out.mono ?_; rintro e w4 ⟨v4, rfl, HO4⟩) | (with_reducible refine (LitW.more4 HO4.out HS.out JT q6).mono ?_; rintro e w5 ⟨v5, rfl, HO5⟩) | (with_reducible refine (LitW.more4 HO5.out HS.out LT q7).mono ?_; rintro e w6 ⟨v6, rfl, HO6⟩) | fail)))
  clear L4 HO3d HO4 HO5 k1 k2 k3
  obtain ⟨v7, w7, hr7, ho7, hb7⟩ := run_own_zeros_any w6 25 (w.heap.size + 1) 32 4060 v6 _ HO6.out.own (by omega) (by omega) (Nat.le_trans HS.out HO6.out.b.size)
  rw [← bv_zeros, ← bv_append, HP.out] at ho7
  obtain ⟨g7, c7, rfl, _, hI7⟩ := own_isB ho7 HXL.out.1 (by omega)
  have HB7 := hide (HO6.out.b.trans hb7)
  have C7 := hide (refSeal_len _ _ _ _ w7 hI7 (by omega))
  obtain ⟨g6, c6, rfl, _, _⟩ := Row.of_owns HO6.out.own (by omega)
  clear HO6 ho7 hb7 hI7 HP HC
  go_wp2_with (first | (at_builtin; refine Go.Lib.wpList_append_run _ rfl _ _ _ _ rfl _ _ rfl rfl _ _ hr7 ?_))
  clear hr7
  refine C7.out.mono ?_
  rintro e w8 ⟨v8, rfl, ho8, hb8⟩
  clear C7
  have HO8 := hide ho8
  have HB8 := hide (HB7.out.trans (hb8.mono (Nat.le_trans HS.out HB7.out.size)))
  have HZ := hide hb8.size
  go_wp2
  go_ret2
  exact ⟨_, rfl, by rw [HXL.out.2]; exact own_low HO8.out (Nat.le_trans (Nat.le_succ _) (Nat.le_trans HS.out HB7.out.size)), HB.out.trans (HB8.out.mono (Nat.le_succ _))⟩
end Go.Proofs.Ytecmfpgccmmlpaa
