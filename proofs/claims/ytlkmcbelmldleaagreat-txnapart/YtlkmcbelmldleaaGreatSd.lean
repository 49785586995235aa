/- Scan -/
import Derived.Test.YtlkmcbelmldleaaGreatSc
import Derived.Test.YtlkmcbelmldleaaGreatVYe
import Derived.Test.YtlkmcbelmldleaaGreatVZd
namespace Go.Proofs.YtlkmcbelmldleaaGreat
open Go.RowKit
open Go.Maps (Keyed has size)
set_option maxRecDepth 40000
theorem scanF_key (L : List Vr) (fr to : ByteArray) (t : Nat) : ∀ (l : List Vr) (o : Option (List UInt8)), ∀ p ∈ scanF L fr to t o l, ∃ x ∈ l, p.key = x.key
  | [], _, p, hp => by simp [scanF] at hp
  | x :: r, o, p, hp => by
    unfold scanF at hp
    split at hp
    · obtain ⟨y, hy, e⟩ := scanF_key L fr to t r _ p hp
      exact ⟨y, List.mem_cons_of_mem _ hy, e⟩
    · rcases List.mem_append.1 hp with hp | hp
      · refine ⟨x, List.mem_cons_self .., ?_⟩
        unfold item at hp
        split at hp
        · simp at hp; rw [hp]
        · simp at hp
      · obtain ⟨y, hy, e⟩ := scanF_key L fr to t r _ p hp
        exact ⟨y, List.mem_cons_of_mem _ hy, e⟩
theorem scanR_few (low : Nat) (l : List Vr) (fr to : ByteArray) (t : Nat) : (scanR low l fr to t).1.length ≤ 4096 ∧ ∀ p ∈ (scanR low l fr to t).1, p.key.size ≤ 256 := by
  by_cases hE : askE low l t = 0
  · have hg := ask_good hE
    have ht : ¬ t < low := fun h => by unfold askE at hE; rw [if_pos hg, if_pos h] at hE; cases hE
    rw [scanR_good hg ht]
    refine ⟨Nat.le_trans (scanF_len l fr to t none l) (goodB_iff.1 hg).1, fun p hp => ?_⟩
    obtain ⟨x, hx, e⟩ := scanF_key l fr to t l none p hp
    have := good_at hg hx
    unfold rightB at this
    simp only [Bool.and_eq_true, decide_eq_true_eq] at this
    rw [e]; exact this.1.1.2
  · unfold scanR
    rw [if_neg hE]
    simp
set_option maxHeartbeats 1000000 in
theorem tscan_no (w : World) (g ob : Nat) (ps : List Pl) (ms : Mg) (h : IsM w g ob ps ms) (t : Int) (ht : -9223372036854775808 ≤ t ∧ t ≤ 9223372036854775807) (hn : ∀ x ∈ ms.opn, ¬ (x.1 : Int) = t) (fr to : ByteArray) :
    Calls Tryz.prog 30 #[.pointer (some ⟨g, 0, none⟩), .int .i64 t, .string fr, .string to] w fun e w' => e = .returned (.tuple #[.slice none 0 0, .int .i64 11]) ∧ w' = w := by
  have HF := hide (find_no _ g ob ps ms h t ht hn)
  clear h ht hn
  go_enter Tryz.func30, Tryz.ntmps30
  go_wp2_with fail
  refine HF.out.mono ?_
  rintro e w' ⟨rfl, rfl⟩
  go_wp2
  go_ret2
  exact ⟨rfl, rfl⟩
set_option maxHeartbeats 1000000 in
theorem tscan_many (w : World) (g ob : Nat) (ps : List Pl) (ms : Mg) (h : IsM w g ob ps ms) (i n : Nat) (tr : Tr) (l : Pl) (h1 : ms.opn[i]? = some (n, tr)) (h2 : ps[i]? = some l) (fr to : ByteArray) (hl : tr.reads.length = 256) :
    Calls Tryz.prog 30 #[.pointer (some ⟨g, 0, none⟩), .int .i64 (n : Int), .string fr, .string to] w fun e w' => e = .returned (.tuple #[.slice none 0 0, .int .i64 3]) ∧ w' = w := by
  have HF := hide (find_yes _ g ob ps ms h i n tr l h1 h2)
  have hX := h.each i n tr l h1 h2
  obtain ⟨a, cap, er, _⟩ := row_isS hX.row
  have c1 : w.cell? ⟨l.p, 1, none⟩ = some (.slice a 256 cap) := by rw [← hl, ← er]; exact cell_blk hX.blk rfl
  clear h h1 h2 hX er hl
  go_enter Tryz.func30, Tryz.ntmps30
  go_wp2_with fail
  refine HF.out.mono ?_
  rintro e w' ⟨rfl, rfl⟩
  go_wp2
  go_ret2
  exact ⟨rfl, rfl⟩
set_option maxHeartbeats 8000000 in
theorem tscan_ok (w : World) (g ob : Nat) (ps : List Pl) (ms : Mg) (h : IsM w g ob ps ms) (i n : Nat) (tr : Tr) (l : Pl) (h1 : ms.opn[i]? = some (n, tr)) (h2 : ps[i]? = some l) (fr to : ByteArray) (hl : tr.reads.length < 256) (hws : tr.ws.length ≤ 256) :
    Calls Tryz.prog 30 #[.pointer (some ⟨g, 0, none⟩), .int .i64 (n : Int), .string fr, .string to] w fun e w' => ∃ (vv : Value) (l' : List Pr), e = .returned (.tuple #[vv, .int .i64 (scanR ms.low ms.vs fr to tr.began).2]) ∧ w'.ownsRow w.heap.size 62 2 vv l'.length (l'.flatMap prc) ∧ (l'.Perm (oldP tr.ws (scanR ms.low ms.vs fr to tr.began).1 ++ (tr.ws.filter (seenW (fr, to))).map prOf) ∧ (∀ i j, i < j → j < l'.length → Op.bytesLess (l'.getD j Pr0).key.toList (l'.getD i Pr0).key.toList = false)) ∧ ∃ v, IsM w' g ob (ps.set i ⟨l.p, l.wb, v⟩) (ms.turn i n (tr.read (fr, to))) ∧ Frm (fun j => l.has j) w w' ∧ (∀ j, v.ownBlock = some j → l.has j ∨ w.heap.size ≤ j) ∧ ∀ j, vv.ownBlock = some j → ∃ W : World, w.heap.size ≤ W.heap.size ∧ IsM W g ob (ps.set i ⟨l.p, l.wb, v⟩) (ms.turn i n (tr.read (fr, to))) ∧ W.heap.size ≤ j ∧ W.heap[g]? = w'.heap[g]? := by
  have HF := hide (find_yes _ g ob ps ms h i n tr l h1 h2)
  have hX := h.each i n tr l h1 h2
  obtain ⟨a, cap, er, _⟩ := row_isS hX.row
  have c1 : w.cell? ⟨l.p, 1, none⟩ = some (.slice a tr.reads.length cap) := by rw [← er]; exact cell_blk hX.blk rfl
  have HLE : Hid (tr.reads.length ≤ 256) := hide (by omega)
  have hlI : ¬ (tr.reads.length : Int) = 256 := by omega
  have hl2 : ((tr.reads.length : Int) == 256) = false := by simp; omega
  have hl3 : (tr.reads.length == 256) = false := by simp; omega
  have HH := hide (And.intro h (And.intro h1 h2))
  have HER := hide er
  have HB1 : Hid (Below w.heap.size w (w.alloc (.cells #[.string fr, .string to] 127))) := hide ((Below.refl _ w).alloc (Nat.le_refl _) _)
  have HN1 := hide (heap_alloc_new w (.cells #[.string fr, .string to] 127))
  have HRW : Hid ((w.alloc (.cells #[.string fr, .string to] 127)).ownsRow 0 127 2 (.slice a tr.reads.length cap) tr.reads.length (tr.reads.flatMap spc)) := hide (by rw [← er]; exact hX.row.alloc _)
  have HXB := hide hX.blk
  have HPR : Hid (l.rv.ownBlock ≠ some l.p) := hide (fun e => by
    rcases hX.row.2 with q | ⟨g', cap, cur, q1, q2, q3, q4⟩
    · rw [q.1] at e; cases e
    · rw [q1] at e
      cases e
      rw [hX.blk] at q3
      simp at q3)
  have HRLT : Hid (∀ j, l.rv.ownBlock = some j → j < w.heap.size) := hide (fun j hj => (hX.row.lt j hj).2)
  have HS1 : Hid ((w.alloc (.cells #[.string fr, .string to] 127)).heap.size = w.heap.size + 1) := hide (World.size_alloc _ _)
  have hmix := mixed
  obtain ⟨i0, hi0, hz0, hz1, hz2⟩ := info_parts info127
  clear h h1 h2 hX er
  go_enter Tryz.func30, Tryz.ntmps30
  go_wp2_with fail
  refine HF.out.mono ?_
  rintro e w' ⟨rfl, rfl⟩
  clear HF
  go_wp2_with fail
  have HB1' : Hid (Below w'.heap.size w' (w'.alloc (.cells #[.string fr, .string to] 127))) := HB1
  have HLP : Hid (l.p < (w'.alloc (.cells #[.string fr, .string to] 127)).heap.size ∧ (Value.slice a tr.reads.length cap).ownBlock ≠ some l.p ∧ w'.heap.size < (w'.alloc (.cells #[.string fr, .string to] 127)).heap.size ∧ (Value.slice a tr.reads.length cap).ownBlock ≠ some w'.heap.size) := hide ⟨by have := heap_lt HXB.out; have := HS1.out; omega, by rw [← HER.out]; exact HPR.out, by have := HS1.out; omega, fun e => by rw [← HER.out] at e; have := HRLT.out _ e; omega⟩
  generalize hab : w'.heap.size = ab at *
  have HAB := hide hab
  clear hab
  generalize hW1 : (w'.alloc (.cells #[.string fr, .string to] 127)) = W1 at *
  clear hW1
  have HS : Hid (∀ W : World, Below W1.heap.size W1 W → W.cell? ⟨l.p, 1, none⟩ = some (.slice a tr.reads.length cap) ∧ W.cell? ⟨ab, 0, none⟩ = some (.string fr) ∧ W.cell? ⟨ab, 1, none⟩ = some (.string to)) := hide (fun W hW => by
    have r1 := (hW.block _ HLP.out.1).trans ((HB1.out.block _ (by rw [← HAB.out]; exact heap_lt HXB.out)).trans HXB.out)
    have r2 := (hW.block _ HLP.out.2.2.1).trans HN1.out
    refine ⟨?_, cell_blk r2 rfl, cell_blk r2 rfl⟩
    rw [← HER.out]
    exact cell_blk r1 rfl)
  have HFZ : Hid (∀ W : World, ∀ {V : World}, W.heap[l.p]? = V.heap[l.p]? → Below W1.heap.size W1 V → W.frozen? ⟨l.p, 1, none⟩ = false) := hide (fun W V e hV => frz (e.trans ((hV.block _ HLP.out.1).trans ((HB1.out.block _ (by rw [← HAB.out]; exact heap_lt HXB.out)).trans HXB.out))) 1)
  refine wp_region_last 10 (fun W' : World => W'.cell? ⟨l.p, 1, none⟩ = some (.slice a tr.reads.length cap) ∧ W'.cell? ⟨ab, 0, none⟩ = some (.string fr) ∧ W'.cell? ⟨ab, 1, none⟩ = some (.string to)) (by kernel_rfl) (HS.out _ (Below.refl _ W1).drew) (fun hHeld => ?_)
  have HDW : Hid (Below W1.heap.size W1 W1.drew) := hide (Below.refl _ W1).drew
  generalize W1.drew = Wd at *
  refine wpAnyL_take (i := 0) (v := ?v0a) rfl (by kernel_rfl) (fun _ _ _ h => h) (by assumption) (by rfl) ?hy0a ?hn0a
  case hy0a => (intro w hSw; (try dsimp only at hSw); skip; go_simp; try with_reducible rfl)
  try simp only [Act.put]
  refine wpAnyL_take (i := 1) (v := ?v1a) rfl (by kernel_rfl) (fun _ _ _ h => h) (by assumption) (by rfl) ?hy1a ?hn1a
  case hy1a => (intro w hSw; (try dsimp only at hSw); skip; go_simp; try with_reducible rfl)
  try simp only [Act.put]
  refine wpAnyL_take (i := 2) (v := ?v2a) rfl (by kernel_rfl) (fun _ _ _ h => h) (by assumption) (by rfl) ?hy2a ?hn2a
  case hy2a => (intro w hSw; (try dsimp only at hSw); skip; go_simp; try with_reducible rfl)
  try simp only [Act.put]
  refine wpAnyL_take (i := 3) (v := ?v3a) rfl (by kernel_rfl) (fun _ _ _ h => h) (by assumption) (by rfl) ?hy3a ?hn3a
  case hy3a => (intro w hSw; (try dsimp only at hSw); skip; go_simp; try with_reducible rfl)
  try simp only [Act.put]
  refine wpAnyL_take (i := 4) (v := ?v4a) rfl (by kernel_rfl) (fun _ _ _ h => h) (by assumption) (by rfl) ?hy4a ?hn4a
  case hy4a => (intro w hSw; (try dsimp only at hSw); skip; go_simp; try with_reducible rfl)
  try simp only [Act.put]
  refine wpAnyL_take (i := 5) (v := ?v5a) rfl (by kernel_rfl) (fun _ _ _ h => h) (by assumption) (by rfl) ?hy5a ?hn5a
  case hy5a => (intro w hSw; (try dsimp only at hSw); skip; go_simp; try with_reducible rfl)
  try simp only [Act.put]
  refine wpAnyL_one (i := 6) rfl (by kernel_rfl) (fun K hK => ?_)
  go_simp
  have HBa : Hid (Below W1.heap.size W1 (Wd.alloc (.cells #[.string fr, .string to] 127))) := hide (HDW.out.alloc HDW.out.size _)
  have HNa := hide (heap_alloc_new Wd (.cells #[.string fr, .string to] 127))
  refine hK.out _ _ (HS.out _ HBa.out) (fun hHeld => ?_)
  clear hK K
  try simp only [Act.put]
  have HRa : Hid ((Wd.alloc (.cells #[.string fr, .string to] 127)).ownsRow 0 127 2 (.slice a tr.reads.length cap) tr.reads.length (tr.reads.flatMap spc)) := hide (row_kept HRW.out (fun j hj => HBa.out.block j (HRW.out.lt j hj).2))
  obtain ⟨v3, w3, hrun, q1, q2, _, q3⟩ := run_append_own_at (w := (Wd.alloc (.cells #[.string fr, .string to] 127))) 0 123 123 127 i0 _ 2 32 Tryz.underlying123 hi0 hz0 hz1 hz2 rfl (by decide) (.slice a tr.reads.length cap) tr.reads.length _ HRa.out ⟨Wd.heap.size, 0, none⟩ 1 1 (spc (fr, to)) rfl (spc_news (fr, to) HNa.out) (spc_one (fr, to)) (by unfold maxLen; have := HLE.out; omega) (by have := HLE.out; omega) (Nat.zero_le _)
  obtain ⟨a3, c3, rfl⟩ := own_form q1
  have H3 := hide (And.intro q1 (And.intro q2 q3))
  have HS3 : Hid (w3.cell? ⟨l.p, 1, none⟩ = some (.slice a tr.reads.length cap) ∧ w3.cell? ⟨ab, 0, none⟩ = some (.string fr) ∧ w3.cell? ⟨ab, 1, none⟩ = some (.string to)) := hide (by
    have h0 := HS.out _ HBa.out
    have e1 : w3.heap[l.p]? = (Wd.alloc (.cells #[.string fr, .string to] 127)).heap[l.p]? := q2.block _ (Nat.lt_of_lt_of_le HLP.out.1 HBa.out.size) (fun e => HLP.out.2.1 e.symm)
    have e2 : w3.heap[ab]? = (Wd.alloc (.cells #[.string fr, .string to] 127)).heap[ab]? := q2.block _ (Nat.lt_of_lt_of_le HLP.out.2.2.1 HBa.out.size) (fun e => HLP.out.2.2.2 e.symm)
    exact ⟨(World.cell?_of_block e1).trans h0.1, (World.cell?_of_block e2).trans h0.2.1, (World.cell?_of_block e2).trans h0.2.2⟩)
  refine wpAnyL_one (i := 7) rfl (by kernel_rfl) (fun K hK => ?_)
  refine wp_append_eq _ _ 123 rfl rfl rfl hrun ?_
  refine hK.out _ _ (HS3.out) (fun hHeld => ?_)
  clear hK K
  try simp only [Act.put]
  clear hrun q1 q2 q3
  refine wpAnyL_take (i := 8) (v := ?v8a) rfl (by kernel_rfl) (fun _ _ _ h => h) (by assumption) (by rfl) ?hy8a ?hn8a
  case hy8a => (intro w hSw; (try dsimp only at hSw); skip; go_simp; try with_reducible rfl)
  try simp only [Act.put]
  refine wpAnyL_take (i := 9) (v := ?v9a) rfl (by kernel_rfl) (fun _ _ _ h => h) (by assumption) (by rfl) ?hy9a ?hn9a
  case hy9a => (intro w hSw; (try dsimp only at hSw); skip; go_simp; try with_reducible rfl)
  try simp only [Act.put]
  have f1 : w3.frozen? ⟨l.p, 1, none⟩ = false := HFZ.out w3 (H3.out.2.1.block _ (Nat.lt_of_lt_of_le HLP.out.1 HBa.out.size) (fun e => HLP.out.2.1 e.symm)) HBa.out
  refine wpAnyL_last rfl (by kernel_rfl) (by kernel_rfl) (fun K hK => ?_)
  go_simp
  refine hK.out _ _ ?_
  clear hK K hHeld
  have HF3 : Hid (Frm (fun j => l.rv.ownBlock = some j) w' w3) := hide ((Frm.below (by rw [HAB.out]; exact HB1.out.trans (HBa.out.mono (by have := HS1.out; omega)))).trans (Frm.grown H3.out.2.1 (fun q hq => by rw [HER.out]; exact hq)))
  have HVO : Hid (∀ j, (Value.slice a3 (tr.reads.length + 1) c3).ownBlock = some j → l.has j ∨ w'.heap.size ≤ j) := hide (fun j hj => H3.out.2.2.elim (fun e => .inl (.inr (.inr (by rw [HER.out, ← e]; exact hj)))) (fun e => .inr (by rw [e] at hj; cases hj; have h1 := HBa.out.size; have h2 := HS1.out; have h3 := HAB.out; omega)))
  have HM4 := hide (read_isM (v := .slice a3 (tr.reads.length + 1) c3) (x := (fr, to)) HH.out.1 HH.out.2.1 HH.out.2.2 HF3.out (by rw [List.flatMap_append]; simpa using H3.out.1) (H3.out.2.2.elim (fun e => .inl (e.trans (by rw [HER.out]))) (fun e => .inr (fun q hq => by rw [e] at hq; cases hq; have h1 := HBa.out.size; have h2 := HS1.out; have h3 := HAB.out; omega))))
  have HN4 : Hid ((w3.setCell ⟨l.p, 1, none⟩ (.slice a3 (tr.reads.length + 1) c3)).heap[ab]? = some (.cells #[.string fr, .string to] 127 (0, 0))) := hide ((Below.heap_setCell _ _ _ _ (by have := heap_lt HXB.out; have := HAB.out; simp; omega)).trans ((H3.out.2.1.block _ (Nat.lt_of_lt_of_le HLP.out.2.2.1 HBa.out.size) (fun e => HLP.out.2.2.2 e.symm)).trans ((HBa.out.block _ HLP.out.2.2.1).trans HN1.out)))
  clear H3 HS3 HFZ HS HRa HNa HBa HDW f1 c1 HF3
  generalize (w3.setCell ⟨l.p, 1, none⟩ (.slice a3 (tr.reads.length + 1) c3)) = W4 at *
  obtain ⟨va, vn, vc, hvb, hV, _, _⟩ := HM4.out.1.ver
  have HVB : Hid (W4.heap[g]? = some (.cells #[.slice va vn vc, .int .u64 (ms.low : Nat), .int .u64 (ms.now : Nat), .int .i64 (ms.last : Nat), .map (some ob)] 97 (0, 0))) := hide hvb
  have HV : Hid (IsV W4 va vn vc ms.vs) := hide hV
  clear hvb hV
  have HS : Hid (∀ W' : World, Below W4.heap.size W4 W' → W'.cell? ⟨g, 0, none⟩ = some (.slice va vn vc) ∧ W'.cell? ⟨g, 1, none⟩ = some (.int .u64 (ms.low : Nat)) ∧ W'.cell? ⟨l.p, 0, none⟩ = some (.int .u64 (tr.began : Nat))) := hide (fun W' hW => by
    have r1 := (hW.block _ (heap_lt HVB.out)).trans HVB.out
    have r2 := (hW.block _ (heap_lt HM4.out.2.2)).trans HM4.out.2.2
    exact ⟨cell_blk r1 rfl, cell_blk r1 rfl, cell_blk r2 rfl⟩)
  have HFW := hide (scanR_few ms.low ms.vs fr to tr.began)
  have HG : Hid (∀ W' : World, Below W4.heap.size W4 W' → Calls Tryz.prog 56 #[.agg #[.slice va vn vc, .int .u64 (ms.low : Nat)], .string fr, .string to, .int .u64 (tr.began : Nat)] W' fun e w' => ∃ a' c', e = .returned (.tuple #[.slice a' (scanR ms.low ms.vs fr to tr.began).1.length c', .int .i64 (scanR ms.low ms.vs fr to tr.began).2]) ∧ IsP w' a' (scanR ms.low ms.vs fr to tr.began).1.length c' (scanR ms.low ms.vs fr to tr.began).1 ∧ Below W4.heap.size W4 w') := hide (fun W' hW =>
    (scan_any va vn vc ms.low tr.began fr to ms.vs W' (HV.out.below hW)).mono (fun e w' ⟨a', c', q1, q2, q3⟩ => ⟨a', c', q1, q2, hW.trans (q3.mono hW.size)⟩))
  have HXn := hide (HM4.out.1.each i n (tr.read (fr, to)) ⟨l.p, l.wb, .slice a3 (tr.reads.length + 1) c3⟩ (by show (ms.opn.set i _)[i]? = _; rw [List.getElem?_set_self (List.getElem?_eq_some_iff.1 HH.out.2.1).1]) (by rw [List.getElem?_set_self (List.getElem?_eq_some_iff.1 HH.out.2.2).1]))
  obtain ⟨SR, hSR⟩ : ∃ SR, scanR ms.low ms.vs fr to tr.began = SR := ⟨_, rfl⟩
  have HSR := hide hSR
  rw [hSR] at HFW HG
  clear hSR
  obtain ⟨S1, S2⟩ := SR
  dsimp only at HFW HG
  go_wp2_with fail
  refine wp_region_held_drew (S := (fun W' : World => W'.cell? ⟨g, 0, none⟩ = some (.slice va vn vc) ∧ W'.cell? ⟨g, 1, none⟩ = some (.int .u64 (ms.low : Nat)) ∧ W'.cell? ⟨l.p, 0, none⟩ = some (.int .u64 (tr.began : Nat)))) (by kernel_rfl) ?hSb (fun hHeld => ?_)
  case hSb => exact HS.out _ (Below.refl _ W4).drew
  refine hTake (i := 0) (v := ?v0b) (some 45) rfl rfl (by kernel_rfl) (by kernel_rfl) (by kernel_rfl) (fun _ _ _ h => h) (by rfl) (by assumption) ?hy0b ?hn0b
  case hy0b => (intro w hSw; (try dsimp only at hSw); skip; go_simp; try with_reducible rfl)
  try simp only [Act.put, List.setIfInBounds_toArray, List.set_cons_zero, List.set_cons_succ]
  refine hTake (i := 1) (v := ?v1b) (some 46) rfl rfl (by kernel_rfl) (by kernel_rfl) (by kernel_rfl) (fun _ _ _ h => h) (by rfl) (by assumption) ?hy1b ?hn1b
  case hy1b => (intro w hSw; (try dsimp only at hSw); skip; go_simp; try with_reducible rfl)
  try simp only [Act.put, List.setIfInBounds_toArray, List.set_cons_zero, List.set_cons_succ]
  refine hTake (i := 2) (v := ?v2b) (some 47) rfl rfl (by kernel_rfl) (by kernel_rfl) (by kernel_rfl) (fun _ _ _ h => h) (by rfl) (by assumption) ?hy2b ?hn2b
  case hy2b => (intro w hSw; (try dsimp only at hSw); skip; go_simp; try with_reducible rfl)
  try simp only [Act.put, List.setIfInBounds_toArray, List.set_cons_zero, List.set_cons_succ]
  refine hTake (i := 3) (v := ?v3b) (some 48) rfl rfl (by kernel_rfl) (by kernel_rfl) (by kernel_rfl) (fun _ _ _ h => h) (by rfl) (by assumption) ?hy3b ?hn3b
  case hy3b => (intro w hSw; (try dsimp only at hSw); skip; go_simp; try with_reducible rfl)
  try simp only [Act.put, List.setIfInBounds_toArray, List.set_cons_zero, List.set_cons_succ]
  refine hTake (i := 4) (v := ?v4b) (some 49) rfl rfl (by kernel_rfl) (by kernel_rfl) (by kernel_rfl) (fun _ _ _ h => h) (by rfl) (by assumption) ?hy4b ?hn4b
  case hy4b => (intro w hSw; (try dsimp only at hSw); skip; go_simp; try with_reducible rfl)
  try simp only [Act.put, List.setIfInBounds_toArray, List.set_cons_zero, List.set_cons_succ]
  refine hTake (i := 5) (v := ?v5b) (some 50) rfl rfl (by kernel_rfl) (by kernel_rfl) (by kernel_rfl) (fun _ _ _ h => h) (by rfl) (by assumption) ?hy5b ?hn5b
  case hy5b => (intro w hSw; (try dsimp only at hSw); skip; go_simp; try with_reducible rfl)
  try simp only [Act.put, List.setIfInBounds_toArray, List.set_cons_zero, List.set_cons_succ]
  refine hTake (i := 6) (v := ?v6b) (some 51) rfl rfl (by kernel_rfl) (by kernel_rfl) (by kernel_rfl) (fun _ _ _ h => h) (by rfl) (by assumption) ?hy6b ?hn6b
  case hy6b => (intro w hSw; (try dsimp only at hSw); skip; go_simp; try with_reducible rfl)
  try simp only [Act.put, List.setIfInBounds_toArray, List.set_cons_zero, List.set_cons_succ]
  refine hTake (i := 7) (v := ?v7b) (some 52) rfl rfl (by kernel_rfl) (by kernel_rfl) (by kernel_rfl) (fun _ _ _ h => h) (by rfl) (by assumption) ?hy7b ?hn7b
  case hy7b => (intro w hSw; (try dsimp only at hSw); skip; go_simp; try with_reducible rfl)
  try simp only [Act.put, List.setIfInBounds_toArray, List.set_cons_zero, List.set_cons_succ]
  refine hTake (i := 8) (v := ?v8b) (some 53) rfl rfl (by kernel_rfl) (by kernel_rfl) (by kernel_rfl) (fun _ _ _ h => h) (by rfl) (by assumption) ?hy8b ?hn8b
  case hy8b => (intro w hSw; (try dsimp only at hSw); skip; go_simp; try with_reducible rfl)
  try simp only [Act.put, List.setIfInBounds_toArray, List.set_cons_zero, List.set_cons_succ]
  refine hTake (i := 9) (v := ?v9b) (some 54) rfl rfl (by kernel_rfl) (by kernel_rfl) (by kernel_rfl) (fun _ _ _ h => h) (by rfl) (by assumption) ?hy9b ?hn9b
  case hy9b => (intro w hSw; (try dsimp only at hSw); skip; go_simp; try with_reducible rfl)
  try simp only [Act.put, List.setIfInBounds_toArray, List.set_cons_zero, List.set_cons_succ]
  refine hOne (i := 10) rfl (by kernel_rfl) (fun K hK => ?_)
  go_simp
  refine (HG.out _ (Below.refl _ W4).drew).mono ?_
  rintro e wA ⟨a6, c6, rfl, hI6, hbA⟩
  have HI6 := hide hI6
  have HBA := hide hbA
  clear hI6 hbA
  refine hK.out _ _ (HS.out _ HBA.out) (fun hHeld => ?_)
  clear hK K
  try simp only [Act.put, List.setIfInBounds_toArray, List.set_cons_zero, List.set_cons_succ]
  refine hTake (i := 11) (v := ?v11b) (some 44) rfl rfl (by kernel_rfl) (by kernel_rfl) (by kernel_rfl) (fun _ _ _ h => h) (by rfl) (by assumption) ?hy11b ?hn11b
  case hy11b => (intro w hSw; (try dsimp only at hSw); skip; go_simp; try with_reducible rfl)
  try simp only [Act.put, List.setIfInBounds_toArray, List.set_cons_zero, List.set_cons_succ]
  refine hTake (i := 12) (v := ?v12b) (some 56) rfl rfl (by kernel_rfl) (by kernel_rfl) (by kernel_rfl) (fun _ _ _ h => h) (by rfl) (by assumption) ?hy12b ?hn12b
  case hy12b => (intro w hSw; (try dsimp only at hSw); skip; go_simp; try with_reducible rfl)
  try simp only [Act.put, List.setIfInBounds_toArray, List.set_cons_zero, List.set_cons_succ]
  refine hTake (i := 13) (v := ?v13b) (some 57) rfl rfl (by kernel_rfl) (by kernel_rfl) (by kernel_rfl) (fun _ _ _ h => h) (by rfl) (by assumption) ?hy13b ?hn13b
  case hy13b => (intro w hSw; (try dsimp only at hSw); skip; go_simp; try with_reducible rfl)
  try simp only [Act.put, List.setIfInBounds_toArray, List.set_cons_zero, List.set_cons_succ]
  refine hTake (i := 14) (v := ?v14b) (some 13) rfl rfl (by kernel_rfl) (by kernel_rfl) (by kernel_rfl) (fun _ _ _ h => h) (by rfl) (by assumption) ?hy14b ?hn14b
  case hy14b => (intro w hSw; (try dsimp only at hSw); skip; go_simp; try with_reducible rfl)
  try simp only [Act.put, List.setIfInBounds_toArray, List.set_cons_zero, List.set_cons_succ]
  refine hTake (i := 15) (v := ?v15b) (some 11) rfl rfl (by kernel_rfl) (by kernel_rfl) (by kernel_rfl) (fun _ _ _ h => h) (by rfl) (by assumption) ?hy15b ?hn15b
  case hy15b => (intro w hSw; (try dsimp only at hSw); skip; go_simp; try with_reducible rfl)
  try simp only [Act.put, List.setIfInBounds_toArray, List.set_cons_zero, List.set_cons_succ]
  refine wpAnyH_done (by kernel_rfl) ?_ _
  have HSE := hide (sees_any wA ⟨l.p, l.wb, .slice a3 (tr.reads.length + 1) c3⟩ (tr.read (fr, to)) (HXn.out.kept (fun i hi => HBA.out.block i (HXn.out.lt hi))) hws a6 S1.length c6 S1 HI6.out HFW.out.1 HFW.out.2 (fr, to))
  have HN5 := hide ((HBA.out.block _ (heap_lt HN4.out)).trans HN4.out)
  have b0 : wA.cell? ⟨ab, 0, none⟩ = some (.string fr) := cell_blk HN5.out rfl
  have b1 : wA.cell? ⟨ab, 1, none⟩ = some (.string to) := cell_blk HN5.out rfl
  go_wp2_with fail
  refine HSE.out.mono ?_
  rintro e w9 ⟨v9, l9, rfl, hr9, hp9, hs9, hb9⟩
  have HEND : Hid (w9.ownsRow w'.heap.size 62 2 v9 l9.length (l9.flatMap prc) ∧ l9.Perm (oldP tr.ws S1 ++ (tr.ws.filter (seenW (fr, to))).map prOf) ∧ (∀ i j, i < j → j < l9.length → Op.bytesLess (l9.getD j Pr0).key.toList (l9.getD i Pr0).key.toList = false) ∧ Below W4.heap.size W4 w9 ∧ ∀ j, v9.ownBlock = some j → W4.heap.size ≤ j) := hide ⟨row_mono hr9 (Nat.le_trans HM4.out.2.1.size HBA.out.size), hp9, hs9, HBA.out.trans (hb9.mono HBA.out.size), fun j hj => Nat.le_trans HBA.out.size (hr9.lt j hj).1⟩
  obtain ⟨a9, c9, rfl⟩ := own_form hr9
  clear hr9 hp9 hs9 hb9 HSE b0 b1
  go_wp2
  go_ret2
  refine ⟨_, l9, by rw [HSR.out]; rfl, HEND.out.1, by rw [HSR.out]; exact ⟨HEND.out.2.1, HEND.out.2.2.1⟩, _, HM4.out.1.below HEND.out.2.2.2.1, HM4.out.2.1.trans (Frm.below HEND.out.2.2.2.1), HVO.out, fun j hj => ⟨W4, HM4.out.2.1.size, HM4.out.1, HEND.out.2.2.2.2 j hj, (HEND.out.2.2.2.1.block _ (heap_lt HVB.out)).symm⟩⟩
end Go.Proofs.YtlkmcbelmldleaaGreat
