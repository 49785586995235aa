/- Ti Tj Tk Tl Tm Tn To -/
import Derived.Test.YtlkmcbelmldleaaGreatCx1
import Derived.Test.YtlkmcbelmldleaaGreatVV
/- a write: taken -/
namespace Go.Proofs.YtlkmcbelmldleaaGreat
open Go.RowKit
open Go.Maps (Keyed has size)
set_option maxRecDepth 40000
set_option maxHeartbeats 2000000 in
theorem write_new (w : World) (g ob : Nat) (ps : List Pl) (ms : Mg) (h : IsM w g ob ps ms) (i n : Nat) (tr : Tr) (l : Pl) (h1 : ms.opn[i]? = some (n, tr)) (h2 : ps[i]? = some l) (a b : ByteArray) (c : Bool) (ha : a.size ≤ 256) (hb : b.size ≤ 512) (hw : hasW tr.ws a = false) (hl : tr.ws.length < 256) :
    Calls Tryz.prog 60 #[.pointer (some ⟨g, 0, none⟩), .int .i64 (n : Int), .agg #[.string a, .string b, .bool c]] w fun e w' => e = .returned (.int .i64 0) ∧ IsM w' g ob (ps.set i l) (ms.turn i n { tr with ws := putW tr.ws ⟨a, b, c⟩ }) ∧ Frm (fun j => j = l.wb) w w' := by
  have HB : Hid (Below w.heap.size w (w.alloc (.cells #[.string a, .string b, .bool c] 64))) := hide ((Below.refl _ w).alloc (Nat.le_refl _) _)
  have HM := hide (h.below HB.out)
  have HF := hide (find_yes _ g ob ps ms HM.out i n tr l h1 h2)
  have haI : ¬ (256 : Int) < (a.size : Int) := by omega
  have hbI : ¬ (512 : Int) < (b.size : Int) := by omega
  have HX := hide (HM.out.each i n tr l h1 h2)
  have HN := hide (heap_alloc_new w (.cells #[.string a, .string b, .bool c] 64))
  have HZ : Hid ((w.alloc (.cells #[.string a, .string b, .bool c] 64)).heap.size = w.heap.size + 1) := hide (by rw [World.size_alloc])
  have hmix := mixed
  have HXl : Hid (l.p < w.heap.size ∧ l.wb < w.heap.size) := hide ⟨(h.each i n tr l h1 h2).lt (.inl rfl), (h.each i n tr l h1 h2).lt (.inr (.inl rfl))⟩
  have HI := hide (And.intro h (And.intro h1 h2))
  clear h h1 h2
  go_enter Tryz.func60, Tryz.ntmps60
  go_wp2_with fail
  refine HF.out.mono ?_
  rintro e w' ⟨rfl, rfl⟩
  go_wp2_with fail
  generalize hV1 : (w.alloc (.cells #[.string a, .string b, .bool c] 64)) = V at *
  clear hV1 HF
  obtain ⟨D, hown, hD⟩ := HX.out.map
  have HO := hide hown
  have HD := hide hD
  clear hown hD
  have hS : ∀ W : World, Below V.heap.size V W → W.cell? ⟨l.p, 2, none⟩ = some (.map (some l.wb)) ∧ W.cell? ⟨w.heap.size, 0, none⟩ = some (.string a) ∧ (Instr.lookup 122 (.map (some l.wb)) (.string a) true).run Tryz.prog W = .ok (.tuple #[atW tr.ws a, .bool false]) W := fun W hW => by
    have q1 := hW.block l.p (by have := HXl.out; have := HZ.out; omega)
    have q2 := hW.block w.heap.size (by have := HZ.out; omega)
    have q3 := hW.block l.wb (by have := HXl.out; have := HZ.out; omega)
    refine ⟨cell_blk (q1.trans HX.out.blk) rfl, cell_blk (q2.trans HN.out) rfl, ?_⟩
    have := look_ws (map_kept HO.out q3) HD.out ha
    rw [hw] at this
    exact this
  have HS := hide hS
  clear hS
  refine wp_region_last 12 (fun W' : World => W'.cell? ⟨l.p, 2, none⟩ = some (.map (some l.wb)) ∧ W'.cell? ⟨w.heap.size, 0, none⟩ = some (.string a) ∧ (Instr.lookup 122 (.map (some l.wb)) (.string a) true).run Tryz.prog W' = .ok (.tuple #[atW tr.ws a, .bool false]) W') hmix (HS.out V.drew (Below.refl _ V).drew) (fun hHeld => ?_)
  refine wpAnyL_take (i := 0) (v := ?v0) rfl (by kernel_rfl) (fun _ _ _ h => h) (by assumption) (by rfl) ?hy0 ?hn0
  case hy0 => (intro w hSw; (try dsimp only at hSw); skip; go_simp; try with_reducible rfl)
  try simp only [Act.put]
  refine wpAnyL_take (i := 1) (v := ?v1) rfl (by kernel_rfl) (fun _ _ _ h => h) (by assumption) (by rfl) ?hy1 ?hn1
  case hy1 => (intro w hSw; (try dsimp only at hSw); skip; go_simp; try with_reducible rfl)
  try simp only [Act.put]
  refine wpAnyL_take (i := 2) (v := ?v2) rfl (by kernel_rfl) (fun _ _ _ h => h) (by assumption) (by rfl) ?hy2 ?hn2
  case hy2 => (intro w hSw; (try dsimp only at hSw); skip; go_simp; try with_reducible rfl)
  try simp only [Act.put]
  refine wpAnyL_take (i := 3) (v := ?v3) rfl (by kernel_rfl) (fun _ _ _ h => h) (by assumption) (by rfl) ?hy3 ?hn3
  case hy3 => (intro w hSw; (try dsimp only at hSw); skip; go_simp; try with_reducible rfl)
  try simp only [Act.put]
  refine wpAnyL_take (i := 4) (v := ?v4) rfl (by kernel_rfl) (fun _ _ _ h => h) (by assumption) (by rfl) ?hy4 ?hn4
  case hy4 => (intro w hSw; (try dsimp only at hSw); skip; go_simp; try with_reducible rfl)
  try simp only [Act.put]
  refine wpAnyL_take (i := 5) (v := ?v5) rfl (by kernel_rfl) (fun _ _ _ h => h) (by assumption) (by rfl) ?hy5 ?hn5
  case hy5 => (intro w hSw; (try dsimp only at hSw); skip; go_simp; try with_reducible rfl)
  try simp only [Act.put]
  refine wpAnyL_take (i := 6) (v := ?v6) rfl (by kernel_rfl) (fun _ _ _ h => h) (by assumption) (by rfl) ?hy6 ?hn6
  case hy6 => (intro w hSw; (try dsimp only at hSw); skip; go_simp; try with_reducible rfl)
  try simp only [Act.put]
  refine wpAnyL_take (i := 7) (v := ?v7) rfl (by kernel_rfl) (fun _ _ _ h => h) (by assumption) (by rfl) ?hy7 ?hn7
  case hy7 => (intro w hSw; (try dsimp only at hSw); skip; go_simp; try with_reducible rfl)
  try simp only [Act.put]
  refine wpAnyL_take (i := 8) (v := ?v8) rfl (by kernel_rfl) (fun _ _ _ h => h) (by assumption) (by rfl) ?hy8 ?hn8
  case hy8 => (intro w hSw; (try dsimp only at hSw); skip; go_simp; try with_reducible rfl)
  try simp only [Act.put]
  refine wpAnyL_take (i := 9) (v := ?v9) rfl (by kernel_rfl) (fun _ _ _ h => h) (by assumption) (by rfl) ?hy9 ?hn9
  case hy9 => (intro w hSw; (try dsimp only at hSw); skip; go_simp; try with_reducible rfl)
  try simp only [Act.put]
  refine wpAnyL_one (i := 10) rfl (by kernel_rfl) (fun K hK => ?_)
  go_simp
  have HBa : Hid (Below V.heap.size V (V.alloc (.cells #[.string ⟨#[]⟩, .string ⟨#[]⟩, .bool false] 64)).drew) := hide ((Below.refl _ V).alloc (Nat.le_refl _) _).drew
  have HNa : Hid ((V.alloc (.cells #[.string ⟨#[]⟩, .string ⟨#[]⟩, .bool false] 64)).drew.heap[V.heap.size]? = some (.cells #[.string ⟨#[]⟩, .string ⟨#[]⟩, .bool false] 64 (0, 0))) := hide (heap_alloc_new V (.cells #[.string ⟨#[]⟩, .string ⟨#[]⟩, .bool false] 64))
  refine hK.out _ _ (HS.out _ HBa.out) (fun hHeld => ?_)
  clear hK K
  try simp only [Act.put]
  generalize (V.alloc (.cells #[.string ⟨#[]⟩, .string ⟨#[]⟩, .bool false] 64)).drew = W2 at *
  have z0 : W2.cell? ⟨V.heap.size, 0, none⟩ = some (.string ⟨#[]⟩) := cell_blk HNa.out rfl
  have z1 : W2.cell? ⟨V.heap.size, 1, none⟩ = some (.string ⟨#[]⟩) := cell_blk HNa.out rfl
  have z2 : W2.cell? ⟨V.heap.size, 2, none⟩ = some (.bool false) := cell_blk HNa.out rfl
  have f0 : W2.frozen? ⟨V.heap.size, 0, none⟩ = false := frz HNa.out 0
  have f1 : W2.frozen? ⟨V.heap.size, 1, none⟩ = false := frz HNa.out 1
  have f2 : W2.frozen? ⟨V.heap.size, 2, none⟩ = false := frz HNa.out 2
  obtain ⟨k0, v0, g0, hat⟩ : ∃ k v gn, atW tr.ws a = .agg #[.string k, .string v, .bool gn] := by
    unfold atW
    split
    · exact ⟨_, _, _, rfl⟩
    · exact ⟨_, _, _, rfl⟩
  rw [hat]
  refine wpAnyL_one (i := 11) rfl (by kernel_rfl) (fun K hK => ?_)
  go_simp
  have HBc : Hid (Below V.heap.size V (((W2.setCell ⟨V.heap.size, 0, none⟩ (.string k0)).setCell ⟨V.heap.size, 1, none⟩ (.string v0)).setCell ⟨V.heap.size, 2, none⟩ (.bool g0))) := hide (((HBa.out.setCell (Nat.le_refl _) _).setCell (Nat.le_refl _) _).setCell (Nat.le_refl _) _)
  refine hK.out _ _ (by have := HS.out _ HBc.out; rw [hat] at this; exact this) (fun hHeld => ?_)
  clear hK K z0 z1 z2 f0 f1 f2
  try simp only [Act.put]
  generalize (((W2.setCell ⟨V.heap.size, 0, none⟩ (.string k0)).setCell ⟨V.heap.size, 1, none⟩ (.string v0)).setCell ⟨V.heap.size, 2, none⟩ (.bool g0)) = W3 at *
  refine wpAnyL_last rfl (by kernel_rfl) (by kernel_rfl) (fun K hK => ?_)
  go_simp
  refine hK.out _ _ ?_
  clear hK K hHeld
  have y1 := (HS.out _ HBc.out).1
  have HO3 := hide (map_kept HO.out (HBc.out.block l.wb (by have := HXl.out; have := HZ.out; omega)))
  have y2 := HO3.out.len Tryz.underlying122 3
  rw [HD.out.len] at y2
  have hl1 : ¬ (tr.ws.length : Int) = 256 := by omega
  have hl2 : ((tr.ws.length : Int) == 256) = false := by simp; omega
  have hl3 : (tr.ws.length == 256) = false := by simp; omega
  have HBe : Hid (Below w.heap.size w W3) := hide (HB.out.trans (HBc.out.mono (by have := HZ.out; omega)))
  have HNx : Hid (W3.heap[w.heap.size]? = some (.cells #[.string a, .string b, .bool c] 64 (0, 0))) := hide ((HBc.out.block w.heap.size (by have := HZ.out; omega)).trans HN.out)
  have HXx : Hid (W3.heap[l.p]? = some (.cells #[.int .u64 (tr.began : Nat), l.rv, .map (some l.wb)] 125 (0, 0))) := hide ((HBc.out.block l.p (by have := HXl.out; have := HZ.out; omega)).trans HX.out.blk)
  go_wp2_with fail
  have m0 : W3.drew.cell? ⟨l.p, 2, none⟩ = some (.map (some l.wb)) := cell_blk HXx.out rfl
  have m1 : W3.drew.cell? ⟨w.heap.size, 0, none⟩ = some (.string a) := cell_blk HNx.out rfl
  have m2 : W3.drew.cell? ⟨w.heap.size, 1, none⟩ = some (.string b) := cell_blk HNx.out rfl
  have m3 : W3.drew.cell? ⟨w.heap.size, 2, none⟩ = some (.bool c) := cell_blk HNx.out rfl
  refine wp_region_last 7 (fun W' : World => W'.cell? ⟨l.p, 2, none⟩ = some (.map (some l.wb)) ∧ W'.cell? ⟨w.heap.size, 0, none⟩ = some (.string a) ∧ W'.cell? ⟨w.heap.size, 1, none⟩ = some (.string b) ∧ W'.cell? ⟨w.heap.size, 2, none⟩ = some (.bool c)) hmix ⟨m0, m1, m2, m3⟩ (fun hHeld => ?_)
  refine wpAnyL_take (i := 0) (v := ?u0) rfl (by kernel_rfl) (fun _ _ _ h => h) (by assumption) (by rfl) ?gy0 ?gn0
  case gy0 => (intro w hSw; (try dsimp only at hSw); skip; go_simp; try with_reducible rfl)
  try simp only [Act.put]
  refine wpAnyL_take (i := 1) (v := ?u1) rfl (by kernel_rfl) (fun _ _ _ h => h) (by assumption) (by rfl) ?gy1 ?gn1
  case gy1 => (intro w hSw; (try dsimp only at hSw); skip; go_simp; try with_reducible rfl)
  try simp only [Act.put]
  refine wpAnyL_take (i := 2) (v := ?u2) rfl (by kernel_rfl) (fun _ _ _ h => h) (by assumption) (by rfl) ?gy2 ?gn2
  case gy2 => (intro w hSw; (try dsimp only at hSw); skip; go_simp; try with_reducible rfl)
  try simp only [Act.put]
  refine wpAnyL_take (i := 3) (v := ?u3) rfl (by kernel_rfl) (fun _ _ _ h => h) (by assumption) (by rfl) ?gy3 ?gn3
  case gy3 => (intro w hSw; (try dsimp only at hSw); skip; go_simp; try with_reducible rfl)
  try simp only [Act.put]
  refine wpAnyL_take (i := 4) (v := ?u4) rfl (by kernel_rfl) (fun _ _ _ h => h) (by assumption) (by rfl) ?gy4 ?gn4
  case gy4 => (intro w hSw; (try dsimp only at hSw); skip; go_simp; try with_reducible rfl)
  try simp only [Act.put]
  refine wpAnyL_take (i := 5) (v := ?u5) rfl (by kernel_rfl) (fun _ _ _ h => h) (by assumption) (by rfl) ?gy5 ?gn5
  case gy5 => (intro w hSw; (try dsimp only at hSw); skip; go_simp; try with_reducible rfl)
  try simp only [Act.put]
  refine wpAnyL_take (i := 6) (v := ?u6) rfl (by kernel_rfl) (fun _ _ _ h => h) (by assumption) (by rfl) ?gy6 ?gn6
  case gy6 => (intro w hSw; (try dsimp only at hSw); skip; go_simp; try with_reducible rfl)
  try simp only [Act.put]
  have HO4 := hide (World.ownsMap.drew HO3.out)
  obtain ⟨w4, hst, how4, hmt⟩ := HO4.out.store kstr Tryz.underlying122 (by unfold maxLen; omega) (key_str ha) (val := .agg #[.string a, .string b, .bool c]) (d := .held (.agg #[.string a, .string b, .bool c])) (ps := []) rfl
  have HOW4 := hide how4
  have HMT := hide hmt
  clear how4 hmt
  refine wpAnyL_last rfl (by kernel_rfl) (by kernel_rfl) (fun K hK => ?_)
  go_simp
  refine hK.out _ _ ?_
  clear hK K hHeld
  have hz : w.heap.size ≤ w4.heap.size := Nat.le_trans HBe.out.size HMT.out.grown.size
  have hbk : ∀ j, j < w.heap.size → j ≠ l.wb → w4.heap[j]? = w.heap[j]? := fun j hj hn => ((HMT.out.grown).block j (Nat.lt_of_lt_of_le hj HBe.out.size) (by simpa using hn)).trans (HBe.out.block j hj)
  have HFr : Hid (Frm (fun j => j = l.wb) w w4) := hide ⟨by rw [HMT.out.grown.os]; exact HBe.out.os, by rw [HMT.out.grown.tape]; exact HBe.out.tape, by rw [HMT.out.grown.output]; exact HBe.out.output, hz, hbk⟩
  have HXE := hide (HI.out.1.each i n tr l HI.out.2.1 HI.out.2.2)
  have HIS : Hid (IsM w4 g ob (ps.set i l) (ms.turn i n { tr with ws := putW tr.ws ⟨a, b, c⟩ })) := hide (turn_isM HI.out.1 HI.out.2.1 HI.out.2.2 rfl hz (fun j hj hn => hbk j hj (fun e => hn (.inr (.inl e)))) (fun j hj => .inl hj) ?_)
  · clear hbk hz HOW4 HMT HXE
    go_wp2
    go_ret
    exact ⟨rfl, HIS.out, HFr.out⟩
  · have hD' := wsd_put HD.out (HO4.out.tidy kstr) HO4.out.isMap ⟨a, b, c⟩
    obtain ⟨D0, ⟨es, ck, hb0, _⟩, _⟩ := HXE.out.map
    have hne : l.p ≠ l.wb := fun e => by
      have q := HXE.out.blk
      rw [e, hb0] at q
      cases q
    refine ⟨(hbk _ HXl.out.1 hne).trans HXE.out.blk, row_kept HXE.out.row (fun j hj => hbk j (HXE.out.row.lt j hj).2 (fun e => ?_)), ⟨_, ?_, hD'⟩⟩
    · subst e
      rcases HXE.out.row.2 with q | ⟨g', cap, cur, q1, q2, q3, q4⟩
      · rw [q.1] at hj; cases hj
      · rw [q1] at hj
        cases hj
        rw [hb0] at q3
        cases q3
    · have q := owns_exact HOW4.out
      have e : size (D.put (kS a) (.held (.agg #[.string a, .string b, .bool c]))) = (putW tr.ws ⟨a, b, c⟩).length := hD'.len
      rw [e] at q
      exact q
end Go.Proofs.YtlkmcbelmldleaaGreat
/- a write: taken -/
namespace Go.Proofs.YtlkmcbelmldleaaGreat
open Go.RowKit
open Go.Maps (Keyed has size)
set_option maxRecDepth 40000
set_option maxHeartbeats 2000000 in
theorem write_over (w : World) (g ob : Nat) (ps : List Pl) (ms : Mg) (h : IsM w g ob ps ms) (i n : Nat) (tr : Tr) (l : Pl) (h1 : ms.opn[i]? = some (n, tr)) (h2 : ps[i]? = some l) (a b : ByteArray) (c : Bool) (ha : a.size ≤ 256) (hb : b.size ≤ 512) (hw : hasW tr.ws a = true) (hl : tr.ws.length ≤ 256) :
    Calls Tryz.prog 60 #[.pointer (some ⟨g, 0, none⟩), .int .i64 (n : Int), .agg #[.string a, .string b, .bool c]] w fun e w' => e = .returned (.int .i64 0) ∧ IsM w' g ob (ps.set i l) (ms.turn i n { tr with ws := putW tr.ws ⟨a, b, c⟩ }) ∧ Frm (fun j => j = l.wb) w w' := by
  have HB : Hid (Below w.heap.size w (w.alloc (.cells #[.string a, .string b, .bool c] 64))) := hide ((Below.refl _ w).alloc (Nat.le_refl _) _)
  have HM := hide (h.below HB.out)
  have HF := hide (find_yes _ g ob ps ms HM.out i n tr l h1 h2)
  have haI : ¬ (256 : Int) < (a.size : Int) := by omega
  have hbI : ¬ (512 : Int) < (b.size : Int) := by omega
  have HX := hide (HM.out.each i n tr l h1 h2)
  have HN := hide (heap_alloc_new w (.cells #[.string a, .string b, .bool c] 64))
  have HZ : Hid ((w.alloc (.cells #[.string a, .string b, .bool c] 64)).heap.size = w.heap.size + 1) := hide (by rw [World.size_alloc])
  have hmix := mixed
  have HXl : Hid (l.p < w.heap.size ∧ l.wb < w.heap.size) := hide ⟨(h.each i n tr l h1 h2).lt (.inl rfl), (h.each i n tr l h1 h2).lt (.inr (.inl rfl))⟩
  have HI := hide (And.intro h (And.intro h1 h2))
  clear h h1 h2
  go_enter Tryz.func60, Tryz.ntmps60
  go_wp2_with fail
  refine HF.out.mono ?_
  rintro e w' ⟨rfl, rfl⟩
  go_wp2_with fail
  generalize hV1 : (w.alloc (.cells #[.string a, .string b, .bool c] 64)) = V at *
  clear hV1 HF
  obtain ⟨D, hown, hD⟩ := HX.out.map
  have HO := hide hown
  have HD := hide hD
  clear hown hD
  have hS : ∀ W : World, Below V.heap.size V W → W.cell? ⟨l.p, 2, none⟩ = some (.map (some l.wb)) ∧ W.cell? ⟨w.heap.size, 0, none⟩ = some (.string a) ∧ (Instr.lookup 122 (.map (some l.wb)) (.string a) true).run Tryz.prog W = .ok (.tuple #[atW tr.ws a, .bool true]) W := fun W hW => by
    have q1 := hW.block l.p (by have := HXl.out; have := HZ.out; omega)
    have q2 := hW.block w.heap.size (by have := HZ.out; omega)
    have q3 := hW.block l.wb (by have := HXl.out; have := HZ.out; omega)
    refine ⟨cell_blk (q1.trans HX.out.blk) rfl, cell_blk (q2.trans HN.out) rfl, ?_⟩
    have := look_ws (map_kept HO.out q3) HD.out ha
    rw [hw] at this
    exact this
  have HS := hide hS
  clear hS
  refine wp_region_last 12 (fun W' : World => W'.cell? ⟨l.p, 2, none⟩ = some (.map (some l.wb)) ∧ W'.cell? ⟨w.heap.size, 0, none⟩ = some (.string a) ∧ (Instr.lookup 122 (.map (some l.wb)) (.string a) true).run Tryz.prog W' = .ok (.tuple #[atW tr.ws a, .bool true]) W') hmix (HS.out V.drew (Below.refl _ V).drew) (fun hHeld => ?_)
  refine wpAnyL_take (i := 0) (v := ?v0) rfl (by kernel_rfl) (fun _ _ _ h => h) (by assumption) (by rfl) ?hy0 ?hn0
  case hy0 => (intro w hSw; (try dsimp only at hSw); skip; go_simp; try with_reducible rfl)
  try simp only [Act.put]
  refine wpAnyL_take (i := 1) (v := ?v1) rfl (by kernel_rfl) (fun _ _ _ h => h) (by assumption) (by rfl) ?hy1 ?hn1
  case hy1 => (intro w hSw; (try dsimp only at hSw); skip; go_simp; try with_reducible rfl)
  try simp only [Act.put]
  refine wpAnyL_take (i := 2) (v := ?v2) rfl (by kernel_rfl) (fun _ _ _ h => h) (by assumption) (by rfl) ?hy2 ?hn2
  case hy2 => (intro w hSw; (try dsimp only at hSw); skip; go_simp; try with_reducible rfl)
  try simp only [Act.put]
  refine wpAnyL_take (i := 3) (v := ?v3) rfl (by kernel_rfl) (fun _ _ _ h => h) (by assumption) (by rfl) ?hy3 ?hn3
  case hy3 => (intro w hSw; (try dsimp only at hSw); skip; go_simp; try with_reducible rfl)
  try simp only [Act.put]
  refine wpAnyL_take (i := 4) (v := ?v4) rfl (by kernel_rfl) (fun _ _ _ h => h) (by assumption) (by rfl) ?hy4 ?hn4
  case hy4 => (intro w hSw; (try dsimp only at hSw); skip; go_simp; try with_reducible rfl)
  try simp only [Act.put]
  refine wpAnyL_take (i := 5) (v := ?v5) rfl (by kernel_rfl) (fun _ _ _ h => h) (by assumption) (by rfl) ?hy5 ?hn5
  case hy5 => (intro w hSw; (try dsimp only at hSw); skip; go_simp; try with_reducible rfl)
  try simp only [Act.put]
  refine wpAnyL_take (i := 6) (v := ?v6) rfl (by kernel_rfl) (fun _ _ _ h => h) (by assumption) (by rfl) ?hy6 ?hn6
  case hy6 => (intro w hSw; (try dsimp only at hSw); skip; go_simp; try with_reducible rfl)
  try simp only [Act.put]
  refine wpAnyL_take (i := 7) (v := ?v7) rfl (by kernel_rfl) (fun _ _ _ h => h) (by assumption) (by rfl) ?hy7 ?hn7
  case hy7 => (intro w hSw; (try dsimp only at hSw); skip; go_simp; try with_reducible rfl)
  try simp only [Act.put]
  refine wpAnyL_take (i := 8) (v := ?v8) rfl (by kernel_rfl) (fun _ _ _ h => h) (by assumption) (by rfl) ?hy8 ?hn8
  case hy8 => (intro w hSw; (try dsimp only at hSw); skip; go_simp; try with_reducible rfl)
  try simp only [Act.put]
  refine wpAnyL_take (i := 9) (v := ?v9) rfl (by kernel_rfl) (fun _ _ _ h => h) (by assumption) (by rfl) ?hy9 ?hn9
  case hy9 => (intro w hSw; (try dsimp only at hSw); skip; go_simp; try with_reducible rfl)
  try simp only [Act.put]
  refine wpAnyL_one (i := 10) rfl (by kernel_rfl) (fun K hK => ?_)
  go_simp
  have HBa : Hid (Below V.heap.size V (V.alloc (.cells #[.string ⟨#[]⟩, .string ⟨#[]⟩, .bool false] 64)).drew) := hide ((Below.refl _ V).alloc (Nat.le_refl _) _).drew
  have HNa : Hid ((V.alloc (.cells #[.string ⟨#[]⟩, .string ⟨#[]⟩, .bool false] 64)).drew.heap[V.heap.size]? = some (.cells #[.string ⟨#[]⟩, .string ⟨#[]⟩, .bool false] 64 (0, 0))) := hide (heap_alloc_new V (.cells #[.string ⟨#[]⟩, .string ⟨#[]⟩, .bool false] 64))
  refine hK.out _ _ (HS.out _ HBa.out) (fun hHeld => ?_)
  clear hK K
  try simp only [Act.put]
  generalize (V.alloc (.cells #[.string ⟨#[]⟩, .string ⟨#[]⟩, .bool false] 64)).drew = W2 at *
  have z0 : W2.cell? ⟨V.heap.size, 0, none⟩ = some (.string ⟨#[]⟩) := cell_blk HNa.out rfl
  have z1 : W2.cell? ⟨V.heap.size, 1, none⟩ = some (.string ⟨#[]⟩) := cell_blk HNa.out rfl
  have z2 : W2.cell? ⟨V.heap.size, 2, none⟩ = some (.bool false) := cell_blk HNa.out rfl
  have f0 : W2.frozen? ⟨V.heap.size, 0, none⟩ = false := frz HNa.out 0
  have f1 : W2.frozen? ⟨V.heap.size, 1, none⟩ = false := frz HNa.out 1
  have f2 : W2.frozen? ⟨V.heap.size, 2, none⟩ = false := frz HNa.out 2
  obtain ⟨k0, v0, g0, hat⟩ : ∃ k v gn, atW tr.ws a = .agg #[.string k, .string v, .bool gn] := by
    unfold atW
    split
    · exact ⟨_, _, _, rfl⟩
    · exact ⟨_, _, _, rfl⟩
  rw [hat]
  refine wpAnyL_one (i := 11) rfl (by kernel_rfl) (fun K hK => ?_)
  go_simp
  have HBc : Hid (Below V.heap.size V (((W2.setCell ⟨V.heap.size, 0, none⟩ (.string k0)).setCell ⟨V.heap.size, 1, none⟩ (.string v0)).setCell ⟨V.heap.size, 2, none⟩ (.bool g0))) := hide (((HBa.out.setCell (Nat.le_refl _) _).setCell (Nat.le_refl _) _).setCell (Nat.le_refl _) _)
  refine hK.out _ _ (by have := HS.out _ HBc.out; rw [hat] at this; exact this) (fun hHeld => ?_)
  clear hK K z0 z1 z2 f0 f1 f2
  try simp only [Act.put]
  generalize (((W2.setCell ⟨V.heap.size, 0, none⟩ (.string k0)).setCell ⟨V.heap.size, 1, none⟩ (.string v0)).setCell ⟨V.heap.size, 2, none⟩ (.bool g0)) = W3 at *
  refine wpAnyL_last rfl (by kernel_rfl) (by kernel_rfl) (fun K hK => ?_)
  go_simp
  refine hK.out _ _ ?_
  clear hK K hHeld
  have y1 := (HS.out _ HBc.out).1
  have HO3 := hide (map_kept HO.out (HBc.out.block l.wb (by have := HXl.out; have := HZ.out; omega)))
  have HBe : Hid (Below w.heap.size w W3) := hide (HB.out.trans (HBc.out.mono (by have := HZ.out; omega)))
  have HNx : Hid (W3.heap[w.heap.size]? = some (.cells #[.string a, .string b, .bool c] 64 (0, 0))) := hide ((HBc.out.block w.heap.size (by have := HZ.out; omega)).trans HN.out)
  have HXx : Hid (W3.heap[l.p]? = some (.cells #[.int .u64 (tr.began : Nat), l.rv, .map (some l.wb)] 125 (0, 0))) := hide ((HBc.out.block l.p (by have := HXl.out; have := HZ.out; omega)).trans HX.out.blk)
  go_wp2_with fail
  have m0 : W3.drew.cell? ⟨l.p, 2, none⟩ = some (.map (some l.wb)) := cell_blk HXx.out rfl
  have m1 : W3.drew.cell? ⟨w.heap.size, 0, none⟩ = some (.string a) := cell_blk HNx.out rfl
  have m2 : W3.drew.cell? ⟨w.heap.size, 1, none⟩ = some (.string b) := cell_blk HNx.out rfl
  have m3 : W3.drew.cell? ⟨w.heap.size, 2, none⟩ = some (.bool c) := cell_blk HNx.out rfl
  refine wp_region_last 7 (fun W' : World => W'.cell? ⟨l.p, 2, none⟩ = some (.map (some l.wb)) ∧ W'.cell? ⟨w.heap.size, 0, none⟩ = some (.string a) ∧ W'.cell? ⟨w.heap.size, 1, none⟩ = some (.string b) ∧ W'.cell? ⟨w.heap.size, 2, none⟩ = some (.bool c)) hmix ⟨m0, m1, m2, m3⟩ (fun hHeld => ?_)
  refine wpAnyL_take (i := 0) (v := ?u0) rfl (by kernel_rfl) (fun _ _ _ h => h) (by assumption) (by rfl) ?gy0 ?gn0
  case gy0 => (intro w hSw; (try dsimp only at hSw); skip; go_simp; try with_reducible rfl)
  try simp only [Act.put]
  refine wpAnyL_take (i := 1) (v := ?u1) rfl (by kernel_rfl) (fun _ _ _ h => h) (by assumption) (by rfl) ?gy1 ?gn1
  case gy1 => (intro w hSw; (try dsimp only at hSw); skip; go_simp; try with_reducible rfl)
  try simp only [Act.put]
  refine wpAnyL_take (i := 2) (v := ?u2) rfl (by kernel_rfl) (fun _ _ _ h => h) (by assumption) (by rfl) ?gy2 ?gn2
  case gy2 => (intro w hSw; (try dsimp only at hSw); skip; go_simp; try with_reducible rfl)
  try simp only [Act.put]
  refine wpAnyL_take (i := 3) (v := ?u3) rfl (by kernel_rfl) (fun _ _ _ h => h) (by assumption) (by rfl) ?gy3 ?gn3
  case gy3 => (intro w hSw; (try dsimp only at hSw); skip; go_simp; try with_reducible rfl)
  try simp only [Act.put]
  refine wpAnyL_take (i := 4) (v := ?u4) rfl (by kernel_rfl) (fun _ _ _ h => h) (by assumption) (by rfl) ?gy4 ?gn4
  case gy4 => (intro w hSw; (try dsimp only at hSw); skip; go_simp; try with_reducible rfl)
  try simp only [Act.put]
  refine wpAnyL_take (i := 5) (v := ?u5) rfl (by kernel_rfl) (fun _ _ _ h => h) (by assumption) (by rfl) ?gy5 ?gn5
  case gy5 => (intro w hSw; (try dsimp only at hSw); skip; go_simp; try with_reducible rfl)
  try simp only [Act.put]
  refine wpAnyL_take (i := 6) (v := ?u6) rfl (by kernel_rfl) (fun _ _ _ h => h) (by assumption) (by rfl) ?gy6 ?gn6
  case gy6 => (intro w hSw; (try dsimp only at hSw); skip; go_simp; try with_reducible rfl)
  try simp only [Act.put]
  have HO4 := hide (World.ownsMap.drew HO3.out)
  obtain ⟨w4, hst, how4, hmt⟩ := HO4.out.store kstr Tryz.underlying122 (by unfold maxLen; omega) (key_str ha) (val := .agg #[.string a, .string b, .bool c]) (d := .held (.agg #[.string a, .string b, .bool c])) (ps := []) rfl
  have HOW4 := hide how4
  have HMT := hide hmt
  clear how4 hmt
  refine wpAnyL_last rfl (by kernel_rfl) (by kernel_rfl) (fun K hK => ?_)
  go_simp
  refine hK.out _ _ ?_
  clear hK K hHeld
  have hz : w.heap.size ≤ w4.heap.size := Nat.le_trans HBe.out.size HMT.out.grown.size
  have hbk : ∀ j, j < w.heap.size → j ≠ l.wb → w4.heap[j]? = w.heap[j]? := fun j hj hn => ((HMT.out.grown).block j (Nat.lt_of_lt_of_le hj HBe.out.size) (by simpa using hn)).trans (HBe.out.block j hj)
  have HFr : Hid (Frm (fun j => j = l.wb) w w4) := hide ⟨by rw [HMT.out.grown.os]; exact HBe.out.os, by rw [HMT.out.grown.tape]; exact HBe.out.tape, by rw [HMT.out.grown.output]; exact HBe.out.output, hz, hbk⟩
  have HXE := hide (HI.out.1.each i n tr l HI.out.2.1 HI.out.2.2)
  have HIS : Hid (IsM w4 g ob (ps.set i l) (ms.turn i n { tr with ws := putW tr.ws ⟨a, b, c⟩ })) := hide (turn_isM HI.out.1 HI.out.2.1 HI.out.2.2 rfl hz (fun j hj hn => hbk j hj (fun e => hn (.inr (.inl e)))) (fun j hj => .inl hj) ?_)
  · clear hbk hz HOW4 HMT HXE
    go_wp2
    go_ret
    exact ⟨rfl, HIS.out, HFr.out⟩
  · have hD' := wsd_put HD.out (HO4.out.tidy kstr) HO4.out.isMap ⟨a, b, c⟩
    obtain ⟨D0, ⟨es, ck, hb0, _⟩, _⟩ := HXE.out.map
    have hne : l.p ≠ l.wb := fun e => by
      have q := HXE.out.blk
      rw [e, hb0] at q
      cases q
    refine ⟨(hbk _ HXl.out.1 hne).trans HXE.out.blk, row_kept HXE.out.row (fun j hj => hbk j (HXE.out.row.lt j hj).2 (fun e => ?_)), ⟨_, ?_, hD'⟩⟩
    · subst e
      rcases HXE.out.row.2 with q | ⟨g', cap, cur, q1, q2, q3, q4⟩
      · rw [q.1] at hj; cases hj
      · rw [q1] at hj
        cases hj
        rw [hb0] at q3
        cases q3
    · have q := owns_exact HOW4.out
      have e : size (D.put (kS a) (.held (.agg #[.string a, .string b, .bool c]))) = (putW tr.ws ⟨a, b, c⟩).length := hD'.len
      rw [e] at q
      exact q
end Go.Proofs.YtlkmcbelmldleaaGreat
/- Put and Delete say what write says; write as a whole -/
namespace Go.Proofs.YtlkmcbelmldleaaGreat
open Go.RowKit
open Go.Maps (Keyed has size)
set_option maxRecDepth 40000
theorem put_of (w : World) (g : Nat) (t : Int) (a b : ByteArray) (r : Int) (P : World → Prop)
    (h : Calls Tryz.prog 60 #[.pointer (some ⟨g, 0, none⟩), .int .i64 t, .agg #[.string a, .string b, .bool false]] w fun e w' => e = .returned (.int .i64 r) ∧ P w') :
    Calls Tryz.prog 34 #[.pointer (some ⟨g, 0, none⟩), .int .i64 t, .string a, .string b] w fun e w' => e = .returned (.int .i64 r) ∧ P w' := by
  have H := hide h
  clear h
  go_enter Tryz.func34, Tryz.ntmps34
  go_wp2_with fail
  refine H.out.mono ?_
  rintro e w' ⟨rfl, hb⟩
  have HP := hide hb
  clear hb H
  go_wp2
  go_ret
  exact ⟨rfl, HP.out⟩
theorem delete_of (w : World) (g : Nat) (t : Int) (a : ByteArray) (r : Int) (P : World → Prop)
    (h : Calls Tryz.prog 60 #[.pointer (some ⟨g, 0, none⟩), .int .i64 t, .agg #[.string a, .string ⟨#[]⟩, .bool true]] w fun e w' => e = .returned (.int .i64 r) ∧ P w') :
    Calls Tryz.prog 35 #[.pointer (some ⟨g, 0, none⟩), .int .i64 t, .string a] w fun e w' => e = .returned (.int .i64 r) ∧ P w' := by
  have H := hide h
  clear h
  go_enter Tryz.func35, Tryz.ntmps35
  go_wp2_with fail
  refine H.out.mono ?_
  rintro e w' ⟨rfl, hb⟩
  have HP := hide hb
  clear hb H
  go_wp2
  go_ret
  exact ⟨rfl, HP.out⟩
/-- what a write at an open one answers -/
def wrote (tr : Tr) (x : Wt) : Int := if 256 < x.key.size ∨ 512 < x.val.size then 4 else if hasW tr.ws x.key = false ∧ tr.ws.length = 256 then 3 else 0
/-- and what stays of the one -/
def wroteTr (tr : Tr) (x : Wt) : Tr := if wrote tr x = 0 then { tr with ws := putW tr.ws x } else tr
theorem set_same {α : Type} {l : List α} {i : Nat} {x : α} (h : l[i]? = some x) : l.set i x = l := by
  obtain ⟨h1, h2⟩ := List.getElem?_eq_some_iff.1 h
  rw [← h2]; exact List.set_getElem_self h1
theorem turn_same {ms : Mg} {i n : Nat} {tr : Tr} (h : ms.opn[i]? = some (n, tr)) : ms.turn i n tr = ms := by
  unfold Mg.turn; rw [set_same h]
theorem wroteTr_len {tr : Tr} {x : Wt} (hs : SrtW tr.ws) (h : tr.ws.length ≤ 256) : (wroteTr tr x).ws.length ≤ 256 := by
  unfold wroteTr
  split
  · next h0 =>
    show (putW tr.ws x).length ≤ 256
    rw [putW_len x hs]
    split
    · exact h
    · next hw =>
      unfold wrote at h0
      split at h0
      · cases h0
      · split at h0
        · cases h0
        · next h2 =>
          have hf : hasW tr.ws x.key = false := by simpa using hw
          have : ¬ tr.ws.length = 256 := fun e => h2 ⟨hf, e⟩
          omega
  · exact h
theorem write_any (w : World) (g ob : Nat) (ps : List Pl) (ms : Mg) (h : IsM w g ob ps ms) (i n : Nat) (tr : Tr) (l : Pl) (h1 : ms.opn[i]? = some (n, tr)) (h2 : ps[i]? = some l) (x : Wt) (hl : tr.ws.length ≤ 256) :
    Calls Tryz.prog 60 #[.pointer (some ⟨g, 0, none⟩), .int .i64 (n : Int), wv x] w fun e w' => e = .returned (.int .i64 (wrote tr x)) ∧ (IsM w' g ob ps (ms.turn i n (wroteTr tr x)) ∧ Frm (fun j => j = l.wb) w w') := by
  obtain ⟨a, b, c⟩ := x
  by_cases q1 : 256 < a.size ∨ 512 < b.size
  · have e : wrote tr ⟨a, b, c⟩ = 4 := if_pos q1
    have e2 : wroteTr tr ⟨a, b, c⟩ = tr := if_neg (by rw [e]; decide)
    rw [e, e2, turn_same h1]
    exact (write_long w g ob ps ms h i n tr l h1 h2 a b c q1).mono (fun _ _ q => ⟨q.1, h.below q.2, Frm.below q.2⟩)
  · have qa : a.size ≤ 256 := by omega
    have qb : b.size ≤ 512 := by omega
    cases hw : hasW tr.ws a
    · by_cases q2 : tr.ws.length = 256
      · have e : wrote tr ⟨a, b, c⟩ = 3 := (if_neg q1).trans (if_pos ⟨hw, q2⟩)
        have e2 : wroteTr tr ⟨a, b, c⟩ = tr := if_neg (by rw [e]; decide)
        rw [e, e2, turn_same h1]
        exact (write_many w g ob ps ms h i n tr l h1 h2 a b c qa qb hw q2).mono (fun _ _ q => ⟨q.1, h.below q.2, Frm.below q.2⟩)
      · have e : wrote tr ⟨a, b, c⟩ = 0 := (if_neg q1).trans (if_neg (fun q => q2 q.2))
        have e2 : wroteTr tr ⟨a, b, c⟩ = { tr with ws := putW tr.ws ⟨a, b, c⟩ } := if_pos e
        rw [e, e2]
        refine (write_new w g ob ps ms h i n tr l h1 h2 a b c qa qb hw (by omega)).mono (fun _ _ q => ?_)
        rw [set_same h2] at q
        exact q
    · have e : wrote tr ⟨a, b, c⟩ = 0 := (if_neg q1).trans (if_neg (fun q => by have := q.1; rw [hw] at this; cases this))
      have e2 : wroteTr tr ⟨a, b, c⟩ = { tr with ws := putW tr.ws ⟨a, b, c⟩ } := if_pos e
      rw [e, e2]
      refine (write_over w g ob ps ms h i n tr l h1 h2 a b c qa qb hw hl).mono (fun _ _ q => ?_)
      rw [set_same h2] at q
      exact q
end Go.Proofs.YtlkmcbelmldleaaGreat
/- span.has -/
namespace Go.Proofs.YtlkmcbelmldleaaGreat
open Go.RowKit
set_option maxRecDepth 40000
/-- whether a key lies in a span -/
def inSp (x : ByteArray × ByteArray) (k : ByteArray) : Bool := !Op.bytesLess k.toList x.1.toList && (x.2.toList.isEmpty || Op.bytesLess k.toList x.2.toList)
set_option maxHeartbeats 1000000 in
theorem span_has (w : World) (x : ByteArray × ByteArray) (k : ByteArray) :
    Calls Tryz.prog 86 #[.agg #[.string x.1, .string x.2], .string k] w fun e w' => e = .returned (.bool (inSp x k)) ∧ Below w.heap.size w w' := by
  obtain ⟨a, b⟩ := x
  have HB : Hid (Below w.heap.size w (w.alloc (.cells #[.string a, .string b] 127))) := hide ((Below.refl _ w).alloc (Nat.le_refl _) _)
  dsimp only
  cases q1 : Op.bytesLess k.toList a.toList
  · by_cases q2 : b.toList = []
    · have HE : Hid (inSp (a, b) k = true) := hide (by simp [inSp, q1, q2])
      go_enter Tryz.func86, Tryz.ntmps86
      go_wp2
      go_ret
      exact ⟨by rw [HE.out]; rfl, HB.out⟩
    · have q3 : b.toList.isEmpty = false := by simpa using q2
      have HE : Hid (inSp (a, b) k = Op.bytesLess k.toList b.toList) := hide (by simp [inSp, q1, q3])
      go_enter Tryz.func86, Tryz.ntmps86
      go_wp2
      go_ret
      exact ⟨by rw [HE.out]; rfl, HB.out⟩
  · have HE : Hid (inSp (a, b) k = false) := hide (by simp [inSp, q1])
    go_enter Tryz.func86, Tryz.ntmps86
    go_wp2
    go_ret
    exact ⟨by rw [HE.out]; rfl, HB.out⟩
end Go.Proofs.YtlkmcbelmldleaaGreat
/- a transaction's reads: ContainsFunc -/
namespace Go.Proofs.YtlkmcbelmldleaaGreat
open Go.RowKit Go.Shelf Go.Lib Go.Sort
set_option maxRecDepth 40000
abbrev Sp := ByteArray × ByteArray
abbrev Sp0 : Sp := (⟨#[]⟩, ⟨#[]⟩)
/-- a list of spans in memory -/
def IsS (w : World) (a : Option Addr) (len cap : Nat) (l : List Sp) : Prop :=
  l.length = len ∧ len ≤ cap ∧ cap ≤ maxLen ∧ ∀ i, i < len → ∃ b off, a = some ⟨b, off, none⟩ ∧ b < w.heap.size ∧ w.cell? ⟨b, off + i * 2, none⟩ = some (.string (l.getD i Sp0).1) ∧ w.cell? ⟨b, off + i * 2 + 1, none⟩ = some (.string (l.getD i Sp0).2)
theorem IsS.below {w w' : World} {a : Option Addr} {len cap : Nat} {l : List Sp} (h : IsS w a len cap l) (hb : Below w.heap.size w w') : IsS w' a len cap l := by
  refine ⟨h.1, h.2.1, h.2.2.1, fun i hi => ?_⟩
  obtain ⟨b, off, e, hlt, h0, h1⟩ := h.2.2.2 i hi
  have k : ∀ j, w'.cell? ⟨b, j, none⟩ = w.cell? ⟨b, j, none⟩ := fun j => World.cell?_of_block (hb.block b hlt)
  exact ⟨b, off, e, Nat.lt_of_lt_of_le hlt hb.size, (k _).trans h0, (k _).trans h1⟩
set_option maxRecDepth 40000 in
set_option maxHeartbeats 1000000 in
/-- slices.IndexFunc: whether there is one -/
theorem idxS_any (a : Option Addr) (len cap fk : Nat) (lb : Array Value) (p : Sp → Bool) (l : List Sp) (w : World) (hL : IsS w a len cap l) (hent : ∀ args W, (callFunc fk args).run Tryz.prog W = .ok (.enter fk args) W)
    (hp : ∀ x W, Below w.heap.size w W → Calls Tryz.prog fk (#[.agg #[.string x.1, .string x.2]] ++ lb) W fun e w' => e = .returned (.bool (p x)) ∧ Below w.heap.size w w') :
    Calls Tryz.prog 146 #[.slice a len cap, .func (.func fk) #[] lb] w fun e w' => ∃ q : Int, e = .returned (.int .i64 q) ∧ (0 ≤ q ↔ l.any p = true) ∧ Below w.heap.size w w' := by
  have HV := hide hL
  have HLN := hide hL.1
  have hcm : cap ≤ 9223372036854775807 := hL.2.2.1
  have hcap := hL.2.1
  have HP := hide hp
  clear hL hp
  go_enter Tryz.func146, Tryz.ntmps146
  go_wp2
  go_loopw [8] (fun v wr => ∃ i : Nat, i ≤ len ∧ v = .int .i64 (i : Nat) ∧ Hid (Below w.heap.size w wr ∧ ∀ j, j < i → p (l.getD j Sp0) = false)) (fun v _ => len - (intOf v).toNat)
  case atStart => exact ⟨0, Nat.zero_le _, rfl, hide ⟨Below.refl _ _, fun j hj => absurd hj (Nat.not_lt_zero _)⟩⟩
  case round =>
    obtain ⟨i, hi, rfl, HI⟩ := hrel
    by_cases hlt : i < len
    · obtain ⟨b, off, rfl, hb, z0, z1⟩ := (HV.out.below HI.out.1).2.2.2 i hlt
      have HPX := hide (HP.out (l.getD i Sp0) wr HI.out.1)
      have HMEM : Hid (p (l.getD i Sp0) = true → l.any p = true) := hide (fun h => by
        rw [List.any_eq_true]
        refine ⟨l.getD i Sp0, ?_, h⟩
        rw [List.getD_eq_getElem?_getD, List.getElem?_eq_getElem (by rw [HLN.out]; exact hlt)]
        exact List.getElem_mem _)
      have HNX : Hid (p (l.getD i Sp0) = false → ∀ j, j < i + 1 → p (l.getD j Sp0) = false) := hide (fun h j hj => by
        by_cases hj' : j < i
        · exact HI.out.2 j hj'
        · obtain rfl : j = i := by omega
          exact h)
      generalize l.getD i Sp0 = x at *
      obtain ⟨x0, x1⟩ := x
      dsimp only at z0 z1 HPX
      have hi0 : (0 : Int) ≤ (i : Int) := by omega
      have hiI : (i : Int) < (len : Int) := by omega
      have hw1 : IntKind.i64.wrap ((i : Int) + 1) = (i : Int) + 1 := wr64' (by omega) (by omega)
      cases hq : p ⟨x0, x1⟩
      · rw [hq] at HPX
        have HN1 := hide (HNX.out hq)
        clear HNX HMEM hq
        go_wp2_with fail
        refine HPX.out.mono ?_
        rintro e w1 ⟨rfl, hb1⟩
        have HI1 := hide (And.intro hb1 HN1.out)
        clear hb1 z0 z1 HPX
        go_wp2
        go_roundw
        case rel => exact ⟨i + 1, by omega, by simp, HI1⟩
        case measure => simp [intOf]; omega
      · rw [hq] at HPX
        have HM1 := hide (HMEM.out hq)
        clear HNX HMEM hq
        go_wp2_with fail
        refine HPX.out.mono ?_
        rintro e w1 ⟨rfl, hb1⟩
        have HB1 := hide hb1
        clear hb1 z0 z1 HPX
        go_wp2
        go_ret
        exact ⟨_, rfl, ⟨fun _ => HM1.out, fun _ => hi0⟩, HB1.out⟩
    · obtain rfl : i = len := by omega
      have HNO : Hid (¬ l.any p = true) := hide (fun h => by
        obtain ⟨x, hx, hpx⟩ := List.any_eq_true.1 h
        obtain ⟨j, hj, rfl⟩ := List.getElem_of_mem hx
        have := HI.out.2 j (by rw [← HLN.out]; exact hj)
        rw [List.getD_eq_getElem?_getD, List.getElem?_eq_getElem hj] at this
        simp only [Option.getD_some] at this
        rw [this] at hpx; cases hpx)
      go_wp2
      go_ret
      exact ⟨_, rfl, ⟨fun h => by simp at h, fun h => absurd h HNO.out⟩, HI.out.1⟩
/-- slices.ContainsFunc -/
theorem hasS_any (a : Option Addr) (len cap fk : Nat) (lb : Array Value) (p : Sp → Bool) (l : List Sp) (w : World) (hL : IsS w a len cap l) (hent : ∀ args W, (callFunc fk args).run Tryz.prog W = .ok (.enter fk args) W)
    (hp : ∀ x W, Below w.heap.size w W → Calls Tryz.prog fk (#[.agg #[.string x.1, .string x.2]] ++ lb) W fun e w' => e = .returned (.bool (p x)) ∧ Below w.heap.size w w') :
    Calls Tryz.prog 103 #[.slice a len cap, .func (.func fk) #[] lb] w fun e w' => e = .returned (.bool (l.any p)) ∧ Below w.heap.size w w' := by
  have HX := hide (idxS_any a len cap fk lb p l w hL hent hp)
  clear hL hp
  generalize l.any p = R at *
  go_enter Tryz.func103, Tryz.ntmps103
  go_wp2_with fail
  refine HX.out.mono ?_
  rintro e w1 ⟨q, rfl, hq, hb⟩
  have HB := hide hb
  have HQ := hide hq
  clear hb hq HX
  by_cases h0 : 0 ≤ q
  · have hd : decide (0 ≤ q) = true := decide_eq_true h0
    have HR : Hid (R = true) := hide (HQ.out.1 h0)
    go_wp2
    go_ret
    exact ⟨by rw [HR.out]; simp, HB.out⟩
  · have hd : decide (0 ≤ q) = false := decide_eq_false h0
    have HR : Hid (R = false) := hide (by
      cases R
      · rfl
      · exact absurd (HQ.out.2 rfl) h0)
    go_wp2
    go_ret
    exact ⟨by rw [HR.out]; simp, HB.out⟩
end Go.Proofs.YtlkmcbelmldleaaGreat
/- hasRead -/
namespace Go.Proofs.YtlkmcbelmldleaaGreat
open Go.RowKit Go.Shelf Go.Lib Go.Sort
set_option maxRecDepth 40000
theorem spc_get : ∀ (l : List Sp) (i : Nat), i < l.length → (l.flatMap spc)[i * 2]? = some (.string (l.getD i Sp0).1) ∧ (l.flatMap spc)[i * 2 + 1]? = some (.string (l.getD i Sp0).2)
  | [], _, h => absurd h (Nat.not_lt_zero _)
  | x :: r, 0, _ => ⟨rfl, rfl⟩
  | x :: r, i + 1, h => by
    have ih := spc_get r i (by simpa using h)
    have e1 : (i + 1) * 2 = i * 2 + 1 + 1 := by omega
    rw [e1]
    exact ih
theorem row_isS {w : World} {rv : Value} {l : List Sp} (h : w.ownsRow 0 127 2 rv l.length (l.flatMap spc)) : ∃ a cap, rv = .slice a l.length cap ∧ IsS w a l.length cap l := by
  have hc := fun g hg => h.cells (g := g) hg
  have hlt := h.lt
  rcases h.2 with ⟨e, hn⟩ | ⟨g, cap, cur, e, _, hg, h1, h2, _⟩
  · have hn' : l.length = 0 := by first | exact hn | (rw [← hn]) | simpa using hn
    refine ⟨none, 0, by rw [hn']; exact e, rfl, by omega, Nat.zero_le _, fun i hi => by omega⟩
  · refine ⟨some ⟨g, 0, none⟩, cap, e, rfl, h1, h2, fun i hi => ⟨g, 0, rfl, heap_lt hg, ?_, ?_⟩⟩
    · have := hc g (by rw [e]; rfl) _ _ (spc_get l i hi).1
      have e2 : (⟨g, 0, none⟩ : Addr).add (i * 2) = ⟨g, 0 + i * 2, none⟩ := by
        by_cases h0 : i * 2 = 0
        · simp [Addr.add, h0]
        · simp [Addr.add, h0]
      rw [e2] at this
      exact this
    · have := hc g (by rw [e]; rfl) _ _ (spc_get l i hi).2
      simpa [Addr.add] using this
set_option maxHeartbeats 1000000 in
theorem read104 (x : Sp) (k : ByteArray) (kb : Nat) (W0 W : World) (hk : W0.cell? ⟨kb, 0, none⟩ = some (.string k)) (hkl : kb < W0.heap.size) (hb : Below W0.heap.size W0 W) :
    Calls Tryz.prog 104 (#[.agg #[.string x.1, .string x.2]] ++ #[.pointer (some ⟨kb, 0, none⟩)]) W fun e w' => e = .returned (.bool (inSp x k)) ∧ Below W0.heap.size W0 w' := by
  have HB : Hid (Below W0.heap.size W0 (W.alloc (.cells #[.string x.1, .string x.2] 127))) := hide (hb.alloc hb.size _)
  have k0 : (W.alloc (.cells #[.string x.1, .string x.2] 127)).cell? ⟨kb, 0, none⟩ = some (.string k) := (HB.out.cell hkl).trans hk
  have HS := hide (span_has (W.alloc (.cells #[.string x.1, .string x.2] 127)) x k)
  clear hb hk
  go_enter Tryz.func104, Tryz.ntmps104
  go_wp2_with fail
  refine HS.out.mono ?_
  rintro e w' ⟨rfl, hb⟩
  have HE := hide (HB.out.trans (hb.mono HB.out.size))
  clear hb k0 HS HB
  go_wp2
  go_ret
  exact ⟨rfl, HE.out⟩
set_option maxHeartbeats 1000000 in
theorem hasRead_any (w : World) (l : Pl) (tr : Tr) (h : IsX w l.p l.wb l.rv tr) (k : ByteArray) :
    Calls Tryz.prog 72 #[.pointer (some ⟨l.p, 0, none⟩), .string k] w fun e w' => e = .returned (.bool (tr.reads.any (fun x => inSp x k))) ∧ Below w.heap.size w w' := by
  have HB : Hid (Below w.heap.size w (w.alloc (.cells #[.string k] 9))) := hide ((Below.refl _ w).alloc (Nat.le_refl _) _)
  have HX : Hid (IsX (w.alloc (.cells #[.string k] 9)) l.p l.wb l.rv tr) := hide (h.kept (fun i hi => HB.out.block i (h.lt hi)))
  have hent : ∀ args W, (callFunc 104 args).run Tryz.prog W = .ok (.enter 104 args) W := enters_of Tryz.func104 (by kernel_rfl) rfl
  obtain ⟨a, cap, er, hS⟩ := row_isS HX.out.row
  have c1 : (w.alloc (.cells #[.string k] 9)).cell? ⟨l.p, 1, none⟩ = some (.slice a tr.reads.length cap) := by rw [← er]; exact cell_blk HX.out.blk rfl
  have hk : (w.alloc (.cells #[.string k] 9)).cell? ⟨w.heap.size, 0, none⟩ = some (.string k) := cell_blk (heap_alloc_new w _) rfl
  have HS := hide (hasS_any a tr.reads.length cap 104 #[.pointer (some ⟨w.heap.size, 0, none⟩)] (fun x => inSp x k) tr.reads _ hS hent (fun x W hb => read104 x k w.heap.size _ W hk (by rw [World.size_alloc]; omega) hb))
  clear hS hk h er hent
  go_enter Tryz.func72, Tryz.ntmps72
  go_wp2_with fail
  refine HS.out.mono ?_
  rintro e w' ⟨rfl, hb⟩
  have HE := hide (HB.out.trans (hb.mono HB.out.size))
  clear hb c1 HS HB
  go_wp2
  go_ret
  exact ⟨rfl, HE.out⟩
end Go.Proofs.YtlkmcbelmldleaaGreat
/- conflicts -/
namespace Go.Proofs.YtlkmcbelmldleaaGreat
open Go.RowKit Go.Shelf Go.Lib Go.Sort
set_option maxRecDepth 40000
/-- whether a version is one that a transaction has read -/
def hitB (tr : Tr) (y : Vr) : Bool := decide (tr.began < y.at_) && tr.reads.any (fun x => inSp x y.key)
set_option maxHeartbeats 2000000 in
theorem read71 (y : Vr) (kb : Nat) (l : Pl) (tr : Tr) (W0 W : World) (hX : IsX W0 l.p l.wb l.rv tr) (hk : W0.cell? ⟨kb, 0, none⟩ = some (.pointer (some ⟨l.p, 0, none⟩))) (hkl : kb < W0.heap.size) (hb : Below W0.heap.size W0 W) :
    Calls Tryz.prog 71 (#[.agg #[.string y.key, .int .u64 (y.at_ : Nat), .string y.val, .bool y.gone]] ++ #[.pointer (some ⟨kb, 0, none⟩)]) W fun e w' => e = .returned (.bool (hitB tr y)) ∧ Below W0.heap.size W0 w' := by
  obtain ⟨y1, y2, y3, y4⟩ := y
  dsimp only
  have HB : Hid (Below W0.heap.size W0 (W.alloc (.cells #[.string y1, .int .u64 (y2 : Nat), .string y3, .bool y4] 66))) := hide (hb.alloc hb.size _)
  have HN := hide (heap_alloc_new W (.cells #[.string y1, .int .u64 (y2 : Nat), .string y3, .bool y4] 66))
  have HX : Hid (IsX (W.alloc (.cells #[.string y1, .int .u64 (y2 : Nat), .string y3, .bool y4] 66)) l.p l.wb l.rv tr) := hide (hX.kept (fun i hi => HB.out.block i (hX.lt hi)))
  have HKB : Hid ((W.alloc (.cells #[.string y1, .int .u64 (y2 : Nat), .string y3, .bool y4] 66)).cell? ⟨kb, 0, none⟩ = some (.pointer (some ⟨l.p, 0, none⟩))) := hide ((HB.out.cell hkl).trans hk)
  have HKL : Hid (kb < (W.alloc (.cells #[.string y1, .int .u64 (y2 : Nat), .string y3, .bool y4] 66)).heap.size) := hide (Nat.lt_of_lt_of_le hkl HB.out.size)
  clear hX hk hb hkl
  go_enter Tryz.func71, Tryz.ntmps71
  go_wp2_with fail
  generalize hB : W.heap.size = B at *
  generalize (W.alloc (.cells #[.string y1, .int .u64 (y2 : Nat), .string y3, .bool y4] 66)) = V at *
  clear hB
  have HS : Hid (∀ W' : World, Below V.heap.size V W' → W'.cell? ⟨B, 0, none⟩ = some (.string y1) ∧ W'.cell? ⟨B, 1, none⟩ = some (.int .u64 (y2 : Nat)) ∧ W'.cell? ⟨kb, 0, none⟩ = some (.pointer (some ⟨l.p, 0, none⟩)) ∧ W'.cell? ⟨l.p, 0, none⟩ = some (.int .u64 (tr.began : Nat))) := hide (fun W' h => by
    have q := (h.block B (heap_lt HN.out)).trans HN.out
    exact ⟨cell_blk q rfl, cell_blk q rfl, (h.cell HKL.out).trans HKB.out, cell_blk ((h.block l.p (heap_lt HX.out.blk)).trans HX.out.blk) rfl⟩)
  have HR : Hid (∀ W' : World, Below V.heap.size V W' → Calls Tryz.prog 72 #[.pointer (some ⟨l.p, 0, none⟩), .string y1] W' fun e w' => e = .returned (.bool (tr.reads.any (fun x => inSp x y1))) ∧ Below V.heap.size V w') := hide (fun W' h =>
    (hasRead_any W' l tr (HX.out.kept (fun i hi => h.block i (HX.out.lt hi))) y1).mono (fun e w' q => ⟨q.1, h.trans (q.2.mono h.size)⟩))
  clear HN HX HKB HKL
  have HH : Hid (hitB tr ⟨y1, y2, y3, y4⟩ = (decide (tr.began < y2) && tr.reads.any (fun x => inSp x y1))) := hide rfl
  generalize tr.reads.any (fun x => inSp x y1) = Q1 at *
  generalize tr.began = T at *
  by_cases hlt : T < y2
  · have hd : decide ((T : Int) < (y2 : Int)) = true := decide_eq_true (by omega)
    have hd2 : decide (T < y2) = true := decide_eq_true hlt
    have HR1 : Hid (hitB tr ⟨y1, y2, y3, y4⟩ = Q1) := hide (by rw [HH.out, hd2]; rfl)
    refine wp_region_held_drew (S := (fun W' : World => W'.cell? ⟨B, 0, none⟩ = some (.string y1) ∧ W'.cell? ⟨B, 1, none⟩ = some (.int .u64 (y2 : Nat)) ∧ W'.cell? ⟨kb, 0, none⟩ = some (.pointer (some ⟨l.p, 0, none⟩)) ∧ W'.cell? ⟨l.p, 0, none⟩ = some (.int .u64 (T : Nat)))) (by kernel_rfl) ?hSa (fun hHeld => ?_)
    case hSa => exact HS.out _ (Below.refl _ V).drew
    refine hTake (i := 0) (v := ?v0a) (some 4) rfl rfl (by kernel_rfl) (by kernel_rfl) (by kernel_rfl) (fun _ _ _ h => h) (by rfl) (by assumption) ?hy0a ?hn0a
    case hy0a => (intro w hSw; (try dsimp only at hSw); skip; go_simp; try with_reducible rfl)
    try simp only [Act.put, List.setIfInBounds_toArray, List.set_cons_zero, List.set_cons_succ]
    refine hTake (i := 1) (v := ?v1a) (some 5) rfl rfl (by kernel_rfl) (by kernel_rfl) (by kernel_rfl) (fun _ _ _ h => h) (by rfl) (by assumption) ?hy1a ?hn1a
    case hy1a => (intro w hSw; (try dsimp only at hSw); skip; go_simp; try with_reducible rfl)
    try simp only [Act.put, List.setIfInBounds_toArray, List.set_cons_zero, List.set_cons_succ]
    refine hTake (i := 2) (v := ?v2a) (some 6) rfl rfl (by kernel_rfl) (by kernel_rfl) (by kernel_rfl) (fun _ _ _ h => h) (by rfl) (by assumption) ?hy2a ?hn2a
    case hy2a => (intro w hSw; (try dsimp only at hSw); skip; go_simp; try with_reducible rfl)
    try simp only [Act.put, List.setIfInBounds_toArray, List.set_cons_zero, List.set_cons_succ]
    refine hTake (i := 3) (v := ?v3a) (some 7) rfl rfl (by kernel_rfl) (by kernel_rfl) (by kernel_rfl) (fun _ _ _ h => h) (by rfl) (by assumption) ?hy3a ?hn3a
    case hy3a => (intro w hSw; (try dsimp only at hSw); skip; go_simp; try with_reducible rfl)
    try simp only [Act.put, List.setIfInBounds_toArray, List.set_cons_zero, List.set_cons_succ]
    refine hTake (i := 4) (v := ?v4a) (some 8) rfl rfl (by kernel_rfl) (by kernel_rfl) (by kernel_rfl) (fun _ _ _ h => h) (by rfl) (by assumption) ?hy4a ?hn4a
    case hy4a => (intro w hSw; (try dsimp only at hSw); skip; go_simp; try with_reducible rfl)
    try simp only [Act.put, List.setIfInBounds_toArray, List.set_cons_zero, List.set_cons_succ]
    refine hTake (i := 5) (v := ?v5a) (some 9) rfl rfl (by kernel_rfl) (by kernel_rfl) (by kernel_rfl) (fun _ _ _ h => h) (by rfl) (by assumption) ?hy5a ?hn5a
    case hy5a => (intro w hSw; (try dsimp only at hSw); skip; go_simp; try with_reducible rfl)
    try simp only [Act.put, List.setIfInBounds_toArray, List.set_cons_zero, List.set_cons_succ]
    refine hTake (i := 6) (v := ?v6a) (some 10) rfl rfl (by kernel_rfl) (by kernel_rfl) (by kernel_rfl) (fun _ _ _ h => h) (by rfl) (by assumption) ?hy6a ?hn6a
    case hy6a => (intro w hSw; (try dsimp only at hSw); skip; go_simp; try with_reducible rfl)
    try simp only [Act.put, List.setIfInBounds_toArray, List.set_cons_zero, List.set_cons_succ]
    refine hTake (i := 7) (v := ?v7a) (some 11) rfl rfl (by kernel_rfl) (by kernel_rfl) (by kernel_rfl) (fun _ _ _ h => h) (by rfl) (by assumption) ?hy7a ?hn7a
    case hy7a => (intro w hSw; (try dsimp only at hSw); skip; go_simp; try with_reducible rfl)
    try simp only [Act.put, List.setIfInBounds_toArray, List.set_cons_zero, List.set_cons_succ]
    refine hTake (i := 8) (v := ?v8a) (some 12) rfl rfl (by kernel_rfl) (by kernel_rfl) (by kernel_rfl) (fun _ _ _ h => h) (by rfl) (by assumption) ?hy8a ?hn8a
    case hy8a => (intro w hSw; (try dsimp only at hSw); skip; go_simp; try with_reducible rfl)
    try simp only [Act.put, List.setIfInBounds_toArray, List.set_cons_zero, List.set_cons_succ]
    refine hTake (i := 9) (v := ?v9a) (some 13) rfl rfl (by kernel_rfl) (by kernel_rfl) (by kernel_rfl) (fun _ _ _ h => h) (by rfl) (by assumption) ?hy9a ?hn9a
    case hy9a => (intro w hSw; (try dsimp only at hSw); skip; go_simp; try with_reducible rfl)
    try simp only [Act.put, List.setIfInBounds_toArray, List.set_cons_zero, List.set_cons_succ]
    refine hTake (i := 10) (v := ?v10a) (some 14) rfl rfl (by kernel_rfl) (by kernel_rfl) (by kernel_rfl) (fun _ _ _ h => h) (by rfl) (by assumption) ?hy10a ?hn10a
    case hy10a => (intro w hSw; (try dsimp only at hSw); skip; go_simp; try with_reducible rfl)
    try simp only [Act.put, List.setIfInBounds_toArray, List.set_cons_zero, List.set_cons_succ]
    refine hOne (i := 11) rfl (by kernel_rfl) (fun K hK => ?_)
    go_simp
    refine (HR.out _ (Below.refl _ V).drew).mono ?_
    rintro e wA ⟨rfl, hbA⟩
    refine hK.out _ _ (HS.out _ hbA) (fun hHeld => ?_)
    clear hK K
    try simp only [Act.put, List.setIfInBounds_toArray, List.set_cons_zero, List.set_cons_succ]
    refine hTake (i := 12) (v := ?v12a) (some 16) rfl rfl (by kernel_rfl) (by kernel_rfl) (by kernel_rfl) (fun _ _ _ h => h) (by rfl) (by assumption) ?hy12a ?hn12a
    case hy12a => (intro w hSw; (try dsimp only at hSw); skip; go_simp; try with_reducible rfl)
    try simp only [Act.put, List.setIfInBounds_toArray, List.set_cons_zero, List.set_cons_succ]
    refine hTake (i := 13) (v := ?v13a) (some 3) rfl rfl (by kernel_rfl) (by kernel_rfl) (by kernel_rfl) (fun _ _ _ h => h) (by rfl) (by assumption) ?hy13a ?hn13a
    case hy13a => (intro w hSw; (try dsimp only at hSw); skip; go_simp; try with_reducible rfl)
    try simp only [Act.put, List.setIfInBounds_toArray, List.set_cons_zero, List.set_cons_succ]
    refine wpAnyH_done (by kernel_rfl) ?_ _
    have HE := hide (HB.out.trans (hbA.mono HB.out.size))
    clear hbA HS HR HB
    go_wp2
    go_ret
    exact ⟨by rw [HR1.out]; rfl, HE.out⟩
  · have hd : decide ((T : Int) < (y2 : Int)) = false := decide_eq_false (by omega)
    have hd2 : decide (T < y2) = false := decide_eq_false hlt
    have HR1 : Hid (hitB tr ⟨y1, y2, y3, y4⟩ = false) := hide (by rw [HH.out, hd2]; rfl)
    refine wp_region_held_drew (S := (fun W' : World => W'.cell? ⟨B, 0, none⟩ = some (.string y1) ∧ W'.cell? ⟨B, 1, none⟩ = some (.int .u64 (y2 : Nat)) ∧ W'.cell? ⟨kb, 0, none⟩ = some (.pointer (some ⟨l.p, 0, none⟩)) ∧ W'.cell? ⟨l.p, 0, none⟩ = some (.int .u64 (T : Nat)))) (by kernel_rfl) ?hSb (fun hHeld => ?_)
    case hSb => exact HS.out _ (Below.refl _ V).drew
    refine hTake (i := 0) (v := ?v0b) (some 4) rfl rfl (by kernel_rfl) (by kernel_rfl) (by kernel_rfl) (fun _ _ _ h => h) (by rfl) (by assumption) ?hy0b ?hn0b
    case hy0b => (intro w hSw; (try dsimp only at hSw); skip; go_simp; try with_reducible rfl)
    try simp only [Act.put, List.setIfInBounds_toArray, List.set_cons_zero, List.set_cons_succ]
    refine hTake (i := 1) (v := ?v1b) (some 5) rfl rfl (by kernel_rfl) (by kernel_rfl) (by kernel_rfl) (fun _ _ _ h => h) (by rfl) (by assumption) ?hy1b ?hn1b
    case hy1b => (intro w hSw; (try dsimp only at hSw); skip; go_simp; try with_reducible rfl)
    try simp only [Act.put, List.setIfInBounds_toArray, List.set_cons_zero, List.set_cons_succ]
    refine hTake (i := 2) (v := ?v2b) (some 6) rfl rfl (by kernel_rfl) (by kernel_rfl) (by kernel_rfl) (fun _ _ _ h => h) (by rfl) (by assumption) ?hy2b ?hn2b
    case hy2b => (intro w hSw; (try dsimp only at hSw); skip; go_simp; try with_reducible rfl)
    try simp only [Act.put, List.setIfInBounds_toArray, List.set_cons_zero, List.set_cons_succ]
    refine hTake (i := 3) (v := ?v3b) (some 7) rfl rfl (by kernel_rfl) (by kernel_rfl) (by kernel_rfl) (fun _ _ _ h => h) (by rfl) (by assumption) ?hy3b ?hn3b
    case hy3b => (intro w hSw; (try dsimp only at hSw); skip; go_simp; try with_reducible rfl)
    try simp only [Act.put, List.setIfInBounds_toArray, List.set_cons_zero, List.set_cons_succ]
    refine hTake (i := 4) (v := ?v4b) (some 8) rfl rfl (by kernel_rfl) (by kernel_rfl) (by kernel_rfl) (fun _ _ _ h => h) (by rfl) (by assumption) ?hy4b ?hn4b
    case hy4b => (intro w hSw; (try dsimp only at hSw); skip; go_simp; try with_reducible rfl)
    try simp only [Act.put, List.setIfInBounds_toArray, List.set_cons_zero, List.set_cons_succ]
    refine hTake (i := 5) (v := ?v5b) (some 9) rfl rfl (by kernel_rfl) (by kernel_rfl) (by kernel_rfl) (fun _ _ _ h => h) (by rfl) (by assumption) ?hy5b ?hn5b
    case hy5b => (intro w hSw; (try dsimp only at hSw); skip; go_simp; try with_reducible rfl)
    try simp only [Act.put, List.setIfInBounds_toArray, List.set_cons_zero, List.set_cons_succ]
    refine hTake (i := 6) (v := ?v6b) (some 10) rfl rfl (by kernel_rfl) (by kernel_rfl) (by kernel_rfl) (fun _ _ _ h => h) (by rfl) (by assumption) ?hy6b ?hn6b
    case hy6b => (intro w hSw; (try dsimp only at hSw); skip; go_simp; try with_reducible rfl)
    try simp only [Act.put, List.setIfInBounds_toArray, List.set_cons_zero, List.set_cons_succ]
    refine hTake (i := 7) (v := ?v7b) (some 11) rfl rfl (by kernel_rfl) (by kernel_rfl) (by kernel_rfl) (fun _ _ _ h => h) (by rfl) (by assumption) ?hy7b ?hn7b
    case hy7b => (intro w hSw; (try dsimp only at hSw); skip; go_simp; try with_reducible rfl)
    try simp only [Act.put, List.setIfInBounds_toArray, List.set_cons_zero, List.set_cons_succ]
    refine hSkip (i := 8) (some 12) rfl rfl (by kernel_rfl) (by kernel_rfl) (by kernel_rfl) (fun _ _ _ h => h) (by rfl) (by assumption) ?_
    try simp only [Act.put, List.setIfInBounds_toArray, List.set_cons_zero, List.set_cons_succ]
    refine hSkip (i := 9) (some 13) rfl rfl (by kernel_rfl) (by kernel_rfl) (by kernel_rfl) (fun _ _ _ h => h) (by rfl) (by assumption) ?_
    try simp only [Act.put, List.setIfInBounds_toArray, List.set_cons_zero, List.set_cons_succ]
    refine hSkip (i := 10) (some 14) rfl rfl (by kernel_rfl) (by kernel_rfl) (by kernel_rfl) (fun _ _ _ h => h) (by rfl) (by assumption) ?_
    try simp only [Act.put, List.setIfInBounds_toArray, List.set_cons_zero, List.set_cons_succ]
    refine hSkip (i := 11) (some 15) rfl rfl (by kernel_rfl) (by kernel_rfl) (by kernel_rfl) (fun _ _ _ h => h) (by rfl) (by assumption) ?_
    try simp only [Act.put, List.setIfInBounds_toArray, List.set_cons_zero, List.set_cons_succ]
    refine hTake (i := 12) (v := ?v12b) (some 16) rfl rfl (by kernel_rfl) (by kernel_rfl) (by kernel_rfl) (fun _ _ _ h => h) (by rfl) (by assumption) ?hy12b ?hn12b
    case hy12b => (intro w hSw; (try dsimp only at hSw); skip; go_simp; try with_reducible rfl)
    try simp only [Act.put, List.setIfInBounds_toArray, List.set_cons_zero, List.set_cons_succ]
    refine hTake (i := 13) (v := ?v13b) (some 3) rfl rfl (by kernel_rfl) (by kernel_rfl) (by kernel_rfl) (fun _ _ _ h => h) (by rfl) (by assumption) ?hy13b ?hn13b
    case hy13b => (intro w hSw; (try dsimp only at hSw); skip; go_simp; try with_reducible rfl)
    try simp only [Act.put, List.setIfInBounds_toArray, List.set_cons_zero, List.set_cons_succ]
    refine wpAnyH_done (by kernel_rfl) ?_ _
    have HE : Hid (Below W0.heap.size W0 V.drew) := hide HB.out.drew
    clear HS HR HB
    go_wp2
    go_ret
    exact ⟨by rw [HR1.out]; rfl, HE.out⟩
/-- (*transaction).conflicts -/
def conflB (vs : List Vr) (tr : Tr) : Bool := vs.any (hitB tr)
set_option maxHeartbeats 1000000 in
theorem confl_any (w : World) (l : Pl) (tr : Tr) (h : IsX w l.p l.wb l.rv tr) (a : Option Addr) (n c low : Nat) (vs : List Vr) (hV : IsV w a n c vs) :
    Calls Tryz.prog 42 #[.pointer (some ⟨l.p, 0, none⟩), .agg #[.slice a n c, .int .u64 (low : Nat)]] w fun e w' => e = .returned (.bool (conflB vs tr)) ∧ Below w.heap.size w w' := by
  have HB : Hid (Below w.heap.size w ((w.alloc (.cells #[.pointer (some ⟨l.p, 0, none⟩)] 98)).alloc (.cells #[.slice a n c, .int .u64 (low : Nat)] 31))) := hide (below_two w _ _)
  have hN1 := heap_alloc_new w (.cells #[.pointer (some ⟨l.p, 0, none⟩)] 98)
  have hN2 := heap_alloc_new (w.alloc (.cells #[.pointer (some ⟨l.p, 0, none⟩)] 98)) (.cells #[.slice a n c, .int .u64 (low : Nat)] 31)
  rw [show (w.alloc (.cells #[.pointer (some ⟨l.p, 0, none⟩)] 98)).heap.size = w.heap.size + 1 by rw [World.size_alloc]] at hN2
  have hN3 : ((w.alloc (.cells #[.pointer (some ⟨l.p, 0, none⟩)] 98)).alloc (.cells #[.slice a n c, .int .u64 (low : Nat)] 31)).heap[w.heap.size]? = some (.cells #[.pointer (some ⟨l.p, 0, none⟩)] 98 (0, 0)) := (Below.heap_alloc _ _ _ (by rw [World.size_alloc]; omega)).trans hN1
  have HX := hide (h.kept (fun i hi => HB.out.block i (h.lt hi)))
  have HV := hide (hV.below HB.out)
  have hent : ∀ args W, (callFunc 71 args).run Tryz.prog W = .ok (.enter 71 args) W := enters_of Tryz.func71 (by kernel_rfl) rfl
  have z0 : ((w.alloc (.cells #[.pointer (some ⟨l.p, 0, none⟩)] 98)).alloc (.cells #[.slice a n c, .int .u64 (low : Nat)] 31)).cell? ⟨w.heap.size + 1, 0, none⟩ = some (.slice a n c) := cell_blk hN2 rfl
  have HS := hide (hasV_any a n c 71 #[.pointer (some ⟨w.heap.size, 0, none⟩)] (hitB tr) vs _ HV.out hent (fun x W hb => read71 x w.heap.size l tr _ W HX.out (cell_blk hN3 rfl) (heap_lt hN3) hb))
  have HCO : Hid (conflB vs tr = vs.any (hitB tr)) := hide rfl
  generalize vs.any (hitB tr) = R at *
  clear h hV hent hN1 hN2 hN3 HX HV
  go_enter Tryz.func42, Tryz.ntmps42
  go_wp2_with fail
  refine HS.out.mono ?_
  rintro e w' ⟨rfl, hb⟩
  have HE := hide (HB.out.trans (hb.mono HB.out.size))
  clear hb z0 HS HB
  go_wp2
  go_ret
  exact ⟨by rw [HCO.out]; rfl, HE.out⟩
end Go.Proofs.YtlkmcbelmldleaaGreat
