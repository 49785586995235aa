/- RH RI DR -/
import Derived.Test.YtebikoekpbnpbaaRC
import Derived.Deep.QuietTactic
import Derived.BigQuiet
import Derived.Lib.SlBytesConst
import Derived.Laws.BytesArg
import Derived.OpenShut
import Derived.Test.YtebikoekpbnpbaaDQ
import Derived.Test.YtebikoekpbnpbaaNU
import Derived.Lib.AppendZeros
/- contracts: the document's Update, Of, Same -/
namespace Go.Proofs.Ytebikoekpbnpbaa
open Go.RowKit
set_option maxRecDepth 40000
set_option maxHeartbeats 400000 in
theorem refUpdate_some (s : Nat) (hs : s < 4294967296) (b off len cap : Nat) (l : List Nat) (w : World) (hl : l.length = len) (hcl : len ≤ cap) (hc : cap ≤ maxLen) (hx : ∀ x ∈ l, x < 256)
    (hcell : ∀ i, i < len → w.cell? ⟨b, off + i, none⟩ = some (.int .u8 (l.getD i 0 : Nat))) :
    Calls Try.prog 91 #[.int .u32 s, .slice (some ⟨b, off, none⟩) len cap] w fun e w' => e = .returned (.int .u32 (Crc.update s l : Nat)) ∧ w' = w := by
  unfold maxLen at hc
  have hsg : IntKind.u32.signed = false := rfl
  have hmx : IntKind.u32.max = 4294967295 := rfl
  have hn := not_u32 s hs
  have hs2 : 4294967295 ^^^ s < 4294967296 := Nat.xor_lt_two_pow (n := 32) (by decide) hs
  have hfin : Hid (Crc.update s l = 4294967295 ^^^ Crc.upd (4294967295 ^^^ s) l) := hide rfl
  generalize hg : 4294967295 ^^^ s = s2 at *
  clear hg
  go_enter Try.func91, Try.ntmps91
  go_wp2_with fail
  clear hn
  go_loop [5, 7, 12] (fun c _ i => ∃ k : Nat, k ≤ len ∧ i = .int .i64 k ∧ c = .int .u32 (Crc.upd s2 (l.take k) : Nat)) (fun _ _ i => len - (intOf i).toNat)
  case atStart => exact ⟨0, Nat.zero_le _, rfl, rfl⟩
  case round =>
    obtain ⟨k, hk, rfl, rfl⟩ := hrel
    have hul := Crc.upd_lt s2 (l.take k) hs2 (mem_take hx)
    by_cases hlt : k < len
    · have hcx : w.cell? ⟨b, off + k, none⟩ = some (.int .u8 (l.getD k 0 : Nat)) := hcell k hlt
      have hx1 := getD_lt l k hx
      have HU : Hid (Crc.upd s2 (l.take (k + 1)) = Crc.shN 8 (Crc.upd s2 (l.take k) ^^^ l.getD k 0)) := hide (upd_take s2 l k (by omega))
      clear hcell hx
      generalize l.getD k 0 = x at *
      generalize Crc.upd s2 (l.take k) = c at *
      obtain ⟨d, hd, Hd, e1⟩ := xor_byte c x hul hx1
      go_wp2_with (go_at_call 99; refine (bits_any d hd _).mono ?_; rintro e w' ⟨rfl, rfl⟩)
      go_round
      case rel => exact ⟨k + 1, by omega, by go_num, by rw [HU.out, ← Hd.out]⟩
      case measure => simp [intOf]; omega
    · have htk : l.take k = l := List.take_of_length_le (by omega)
      rw [htk]
      rw [htk] at hul
      clear htk
      have hn := not_u32 _ hul
      generalize Crc.upd s2 l = c at *
      go_wp2
      go_ret
      exact ⟨ret_u32 (by rw [hfin.out]), rfl⟩
theorem refUpdate_none (s : Nat) (hs : s < 4294967296) (a : Option Addr) (cap : Nat) (w : World) :
    Calls Try.prog 91 #[.int .u32 s, .slice a 0 cap] w fun e w' => e = .returned (.int .u32 (Crc.update s [] : Nat)) ∧ w' = w := by
  have hsg : IntKind.u32.signed = false := rfl
  have hmx : IntKind.u32.max = 4294967295 := rfl
  have hn := not_u32 s hs
  have hs2 : 4294967295 ^^^ s < 4294967296 := Nat.xor_lt_two_pow (n := 32) (by decide) hs
  have hfin : Hid (Crc.update s [] = 4294967295 ^^^ (4294967295 ^^^ s)) := hide rfl
  generalize hg : 4294967295 ^^^ s = s2 at *
  clear hg
  have hn2 := not_u32 s2 hs2
  go_enter Try.func91, Try.ntmps91
  go_wp2_with fail
  clear hn
  go_loop [5, 12] (fun c i => c = .int .u32 s2 ∧ i = .int .i64 0) (fun _ _ => 0)
  case atStart => exact ⟨rfl, rfl⟩
  case round =>
    obtain ⟨rfl, rfl⟩ := hrel
    go_wp2
    go_ret
    exact ⟨ret_u32 (by rw [hfin.out]), rfl⟩
/-- ladingref02.Update -/
theorem refUpdate_any (s : Nat) (hs : s < 4294967296) (a : Option Addr) (len cap : Nat) (l : List Nat) (w : World) (h : IsB w a len cap l) :
    Calls Try.prog 91 #[.int .u32 s, .slice a len cap] w fun e w' => e = .returned (.int .u32 (Crc.update s l : Nat)) ∧ w' = w := by
  obtain ⟨hl, hcl, hc, hx, h⟩ := h
  rcases h with ⟨rfl, _⟩ | ⟨b, off, rfl, hb, hcell⟩
  · obtain rfl : l = [] := List.length_eq_zero_iff.1 hl
    exact refUpdate_none s hs a cap w
  · exact refUpdate_some s hs b off len cap l w hl hcl hc hx hcell
/-- ladingref02.Of -/
theorem refOf_any (a : Option Addr) (len cap : Nat) (l : List Nat) (w : World) (h : IsB w a len cap l) :
    Calls Try.prog 68 #[.slice a len cap] w fun e w' => e = .returned (.int .u32 (Crc.update 0 l : Nat)) ∧ w' = w := by
  go_enter Try.func68, Try.ntmps68
  go_wp2_with fail
  refine (refUpdate_any 0 (by decide) a len cap l _ h).mono ?_
  rintro e w1 ⟨rfl, rfl⟩
  go_wp2
  go_ret
  exact ⟨rfl, rfl⟩
end Go.Proofs.Ytebikoekpbnpbaa
/- contracts: the document's Seal and Open -/
namespace Go.Proofs.Ytebikoekpbnpbaa
open Go.RowKit
set_option maxRecDepth 40000
set_option maxHeartbeats 400000 in
/-- ladingref02.Seal -/
theorem refSeal_any (a : Option Addr) (len cap : Nat) (l : List Nat) (w : World) (h : IsB w a len cap l) (hr : len ≤ 140737488351232) :
    Calls Try.prog 37 #[.slice a len cap] w fun e w' => ∃ v, e = .returned v ∧ w'.ownsRow w.heap.size 5 1 v (len + 4) (bv (l ++ le (Crc.update 0 l))) ∧ Below w.heap.size w w' := by
  have hcl : len ≤ cap := h.2.1
  obtain ⟨i0, hi, hz0, hz1, hz2⟩ := info_parts Try.info5
  go_enter Try.func37, Try.ntmps37
  go_wp2_with fail
  refine (refOf_any a len cap l _ h).mono ?_
  rintro e w' ⟨rfl, rfl⟩
  go_wp2_with (at_builtin; refine wpList_clone rfl (.tmp 7) (.tmp 8) rfl w'.heap.size _ 0 [] rfl (owns_empty w' _ (Nat.le_refl _)) a len cap l rfl ?hB ?hb ?hbase w'.heap.size w' ?bel (Nat.le_refl _) ?_)
  case hB => exact h.below ((Below.refl _ _).alloc (Nat.le_refl _) _)
  case hb => omega
  case hbase => simp
  case bel => exact (Below.refl _ _).alloc (Nat.le_refl _) _
  intro v w1 hown0 hb1
  have hown : w1.ownsRow w'.heap.size 5 1 v len (bv l) := by simpa using hown0
  clear hown0
  have hsz := hb1.size
  generalize hcu : Crc.update 0 l = c at *
  have Hcu := hide hcu
  clear hcu h
  go_wp2_with (at_builtin; refine wpList_append_own _ rfl (.tmp 10) (.tmp 22) 26 rfl w'.heap.size 5 i0 (.int .u8 0) 1 1 Try.underlying26 hi hz0 hz1 hz2 rfl (by decide) _ len (bv l) rfl (hown.alloc _) ⟨w1.heap.size, 0, none⟩ 4 4 [.int .u8 ((c : Int) % 256), .int .u8 ((c : Int) / 256 % 256), .int .u8 ((c : Int) / 65536 % 256), .int .u8 ((c : Int) / 16777216 % 256)] rfl rfl (src_lit w1 _) ?c2 ?c3 ?c4 ?c5 ?_)
  case c2 => intro u hu; simp at hu; rcases hu with rfl | rfl | rfl | rfl <;> rfl
  case c3 => unfold maxLen; omega
  case c4 => omega
  case c5 => simp; omega
  intro v2 w2 hown2 hg2 _
  have hb2 : Below w'.heap.size w' w2 := (hb1.alloc hsz _).grown hg2 (by simp; omega) (fun k hk => (hown.lt k hk).1)
  have el : bv (le c) = [.int .u8 ((c : Int) % 256), .int .u8 ((c : Int) / 256 % 256), .int .u8 ((c : Int) / 65536 % 256), .int .u8 ((c : Int) / 16777216 % 256)] := by simp [bv, le]
  rw [← el, ← bv_append] at hown2
  clear el
  clear hg2 hown
  go_wp2
  go_ret
  exact ⟨_, rfl, by rw [Hcu.out]; exact hown2, hb2⟩
end Go.Proofs.Ytebikoekpbnpbaa
/- the document's Encode -/
namespace Go.Proofs.Ytebikoekpbnpbaa
open Go.RowKit Cod
set_option maxRecDepth 100000
set_option linter.unusedVariables false
set_option linter.unusedSimpArgs false
theorem bv_zeros (n : Nat) : bv (List.replicate n 0) = zeros n := by simp [bv, zeros]
theorem zeroCells5 (n : Nat) : Builtin.zeroCells (Value.int .u8 0).cells n = (zeros n).toArray := by
  simp [Builtin.zeroCells, zeros, show (Value.int .u8 0).cells = #[Value.int .u8 0] from rfl, Nat.mod_one, Array.ext_iff]
theorem zeros_one (n : Nat) : ∀ u ∈ zeros n, u.oneCell' = true := by
  intro u hu
  rw [List.eq_of_mem_replicate hu]
  rfl
/-- append(own, make([]byte, m)...) -/
theorem run_own_zeros (w : World) (ty : TypeId) (base g n cap m : Nat) (xs : List Value) (hown : w.ownsRow base 5 1 (.slice (some ⟨g, 0, none⟩) n cap) n xs) (hm : n + m ≤ 4096) (hbase : base ≤ w.heap.size) :
    ∃ v' w', (Builtin.append_ #[26, 3] ty #[.slice (some ⟨g, 0, none⟩) n cap, .int .i64 (m : Int)]).run Try.prog w = .ok v' w' ∧ w'.ownsRow base 5 1 v' (n + m) (xs ++ zeros m) ∧ w.grownBy w' (some g) := by
  obtain ⟨i0, hi, hz0, hz1, hz2⟩ := info_parts Try.info5
  have hw : IntKind.i64.wrap (m : Int) = m := by rw [IntKind.wrap_i64]; omega
  have hneg : ¬ ((m : Int) < 0) := by omega
  have h48i : ¬ (281474976710656 < (m : Int) * (i0.bytes : Int)) := by rw [hz2]; omega
  have hzl : (zeros m).length = m := by simp [zeros]
  rcases hown.2 with ⟨h0, _⟩ | ⟨g', cap', cur, he, hbg, hg, hnc, hcm, hcs, htake⟩
  · cases h0
  cases he
  have hlen : (xs ++ zeros m).length = (n + m) * 1 := by rw [List.length_append, hown.1, hzl, Nat.add_mul]; omega
  by_cases hroom : n + m ≤ cap
  · by_cases hm0 : m = 0
    · subst hm0
      refine ⟨.slice (some ⟨g, 0, none⟩) n cap, w, ?_, by simpa [zeros] using hown, World.grownBy.refl _ _⟩
      have hw0 : IntKind.i64.wrap 0 = 0 := rfl
      simp [Builtin.append_, run_underlying Try.underlying26, run_underlying Try.underlying3, sizeOf, typeInfo, zeroValue, hi, hz0, asInt, asIntOf, hw0, hnc, storeCells]
    · have hst := run_storeCells_at Try.prog g n 5 (zeros m) 0 cur w hg (by rw [hzl]; omega) (zeros_one m)
      simp only [Nat.add_zero] at hst
      have hns : ¬ (m * i0.size = 0) := by rw [hz1]; omega
      refine ⟨.slice (some ⟨g, 0, none⟩) (n + m) cap, w.setRow g (cur.toList.take n ++ zeros m ++ cur.toList.drop (n + (zeros m).length)).toArray, ?_, ⟨hlen, .inr ⟨g, cap, _, rfl, hbg, setRow_heap w g cur _ 5 _ hg, hroom, hcm, ?_, ?_⟩⟩, ⟨rfl, rfl, rfl, by simp, fun k _ hk => setRow_other w g k _ (fun e => hk (by rw [e]))⟩⟩
      · simp [Builtin.append_, run_underlying Try.underlying26, run_underlying Try.underlying3, sizeOf, typeInfo, zeroValue, hi, hz0, hz1, asInt, asIntOf, hw, hneg, h48i, hm0, hroom, zeroCells5, Addr.add_lit, hst]
      · simp only [List.size_toArray, List.length_append, List.length_take, List.length_drop, Array.length_toList, hzl]
        omega
      · rw [Nat.mul_one] at htake
        rw [htake, ← hlen]
        exact List.take_left
  · have hm0 : m ≠ 0 := by omega
    have hns : ¬ (m * i0.size = 0) := by rw [hz1]; omega
    have holds : ∀ j u, xs[j]? = some u → w.cell? ((⟨g, 0, none⟩ : Addr).add j) = some u := hown.cells (g := g) rfl
    have hfo := run_firstCells_some (P := Try.prog) w.drew i0.size n ⟨g, 0, none⟩ n cap xs (by rw [hz1]; exact hown.1) (by simpa using holds)
    have h63' : ¬ (9223372036854775807 < ((n : Int) + (m : Int))) := by omega
    have hnc48 := growslice_fits (need := n + m) (old := cap) (bytes := i0.bytes) (by omega) (by rw [hz2]; omega)
    have h48' : ¬ (281474976710656 < Builtin.nextslicecap (n + m) cap * i0.bytes) := by omega
    have hge := grownCap_ge w (n + m) cap 5
    refine ⟨.slice (some ⟨w.heap.size, 0, none⟩) (n + m) (grownCap w (n + m) cap 5), w.drew.alloc (.cells (xs.toArray ++ (zeros m).toArray ++ (zeros (grownCap w (n + m) cap 5 - (n + m))).toArray) 5), ?_, ⟨hlen, .inr ⟨w.heap.size, _, _, rfl, hbase, heap_alloc_new w.drew _, hge, grownCap_le_maxLen _ _ _ _ (by unfold maxLen; omega), ?_, ?_⟩⟩, ⟨rfl, rfl, rfl, by simp, fun k hk _ => Below.heap_alloc w.drew _ k hk⟩⟩
    · simp [Builtin.append_, run_underlying Try.underlying26, run_underlying Try.underlying3, sizeOf, typeInfo, zeroValue, hi, hz0, asInt, asIntOf, hw, hneg, h48i, hm0, hz1, hroom, h63', h48', Question.forced, zeroCells5, newRow, grownCap]
      rw [hz1] at hfo
      simp [hfo]
    · have h1 := hown.1
      simp [zeros] at h1 ⊢
      omega
    · simp only [Array.toList_append, List.append_assoc]
      rw [← List.append_assoc, ← hlen]
      exact List.take_left
theorem run_own_zeros_any (w : World) (ty : TypeId) (base n m : Nat) (v : Value) (xs : List Value) (hown : w.ownsRow base 5 1 v n xs) (hm : n + m ≤ 4096) (h0 : 0 < n) (hbase : base ≤ w.heap.size) :
    ∃ v' w', (Builtin.append_ #[26, 3] ty #[v, .int .i64 (m : Int)]).run Try.prog w = .ok v' w' ∧ w'.ownsRow base 5 1 v' (n + m) (xs ++ zeros m) ∧ Below base w w' := by
  rcases hown.2 with ⟨rfl, rfl⟩ | ⟨g, cap, cur, rfl, hbg, _⟩
  · omega
  · obtain ⟨v', w', h1, h2, h3⟩ := run_own_zeros w ty base g n cap m xs hown (by omega) hbase
    exact ⟨v', w', h1, h2, h3.os, h3.tape, h3.output, h3.size, fun k hk => h3.block k (by omega) (by simp; omega)⟩
set_option maxHeartbeats 4000000 in
/-- ladingref06.Encode of a right page -/
theorem renc_yes (v : Pv) (p : Pg) (w : World) (h : IsG w v p) (hce : checkE p = 0) (hc : FewP v) :
    Calls Try.prog 14 #[.agg (pgc p.leaf v)] w fun e w' => ∃ a c, e = .returned (.tuple #[.slice a 4096 c, .int .i64 0]) ∧ IsB w' a 4096 c (encP p) ∧ Below w.heap.size w w' := by
  obtain ⟨V0, hV0⟩ : ∃ V0, V0 = w.alloc (.cells (pgc p.leaf v) 25) := ⟨_, rfl⟩
  have HB0 : Hid (Below w.heap.size w V0) := hide (by rw [hV0]; exact (Below.refl _ w).alloc (Nat.le_refl _) _)
  have HX : Hid (V0.heap[w.heap.size]? = some (.cells (pgc p.leaf v) 25 (0, 0))) := hide (by rw [hV0, heap_alloc_new])
  have HCK := hide (rcheck_any v p V0 (h.below HB0.out) hc)
  rw [hce] at HCK
  have HTX : Hid (∀ W : World, Below w.heap.size w W → Calls Try.prog 36 #[.agg (pgc p.leaf v)] W fun e w' => ∃ a c, e = .returned (.slice a (textP p).length c) ∧ IsQ w' W.heap.size a (textP p).length c (textP p) ∧ Below W.heap.size W w') := hide (fun W hW => rtextQ_any v p W (h.below hW) hc (check_kind hce))
  have HF := hide (text_fits hce)
  have HLT := hide (text_lt h)
  have HEP : Hid (encP p = padN 4092 (textP p) ++ le (Crc.update 0 (padN 4092 (textP p)))) := hide rfl
  generalize encP p = EP at *
  generalize textP p = T at *
  generalize p.leaf = lf at *
  clear h hc hce
  obtain ⟨ka, kn, kc, va, vn, vc, ia, inn, ic⟩ := v
  try dsimp only at HX HCK HTX
  try dsimp only
  obtain ⟨q0, q1, q2, q3⟩ := BlkG.cells HX.out
  try dsimp only at q0 q1 q2 q3
  go_enter Try.func14, Try.ntmps14
  go_wp2_with fail
  try rw [← hV0]
  refine HCK.out.mono ?_
  rintro e w1 ⟨rfl, hb1⟩
  have HB1 : Hid (Below w.heap.size w w1) := hide (HB0.out.trans (hb1.mono HB0.out.size))
  have HX1 : Hid (w1.heap[w.heap.size]? = some (.cells (pgc lf ⟨ka, kn, kc, va, vn, vc, ia, inn, ic⟩) 25 (0, 0))) := hide ((hb1.block _ (heap_ltN HX.out)).trans HX.out)
  clear hb1 HCK q0 q1 q2 q3 hV0
  obtain ⟨q0, q1, q2, q3⟩ := BlkG.cells HX1.out
  try dsimp only at q0 q1 q2 q3
  have HT2 := hide (HTX.out w1 HB1.out)
  clear HTX
  go_wp2_with fail
  refine HT2.out.mono ?_
  rintro e w2 ⟨a2, c2, rfl, hq2, hb2⟩
  have HB2 : Hid (Below w.heap.size w w2) := hide (HB1.out.trans (hb2.mono HB1.out.size))
  obtain ⟨v3, w3, hr, ho3, hb3⟩ := run_own_zeros_any w2 26 w1.heap.size T.length (4092 - T.length) (.slice a2 T.length c2) (bv T) hq2.2 (by have := HF.out.1; omega) HF.out.2 hb2.size
  have e1 : T.length + (4092 - T.length) = 4092 := by have := HF.out.1; omega
  rw [e1, ← bv_zeros, ← bv_append] at ho3
  obtain ⟨a3, c3, rfl, hI3⟩ := owns_isB ho3 (padN_lt (N := 4092) HLT.out)
  have HI3 : Hid (IsB w3 a3 4092 c3 (padN 4092 T)) := hide hI3
  have HB3 : Hid (Below w.heap.size w w3) := hide (HB1.out.trans ((Below.trans hb2 hb3).mono HB1.out.size))
  have HSE := hide (refSeal_any a3 4092 c3 (padN 4092 T) w3 HI3.out (by omega))
  have hc2 : T.length ≤ c2 := hq2.1.2.1
  have hc3 : c2 ≤ 9223372036854775807 := hq2.1.2.2.1
  have hsub : IntKind.i64.wrap (4092 - (T.length : Int)) = ((4092 - T.length : Nat) : Int) := by
    have := HF.out.1
    rw [show (4092 : Int) - (T.length : Int) = ((4092 - T.length : Nat) : Int) by omega]
    exact wrapN (by omega) (by omega)
  clear hq2 hb2 hb3 ho3 hI3 HT2 q0 q1 q2 q3
  go_wp2_with (at_builtin; refine Go.Lib.wpList_append_run _ rfl _ _ _ _ rfl _ _ rfl rfl _ _ hr ?_)
  go_wp2_with fail
  refine HSE.out.mono ?_
  rintro e w4 ⟨v4, rfl, ho4, hb4⟩
  have hlp : (padN 4092 T).length = 4092 := padN_len HF.out.1
  rw [← HEP.out] at ho4
  obtain ⟨a4, c4, rfl, hI4⟩ := owns_isB ho4 (fun x hx => by
    rw [HEP.out] at hx
    rcases List.mem_append.1 hx with h1 | h1
    · exact padN_lt HLT.out x h1
    · exact le_lt _ x h1)
  have HE : Hid (IsB w4 a4 4096 c4 EP ∧ Below w.heap.size w w4) := hide ⟨hI4, HB3.out.trans (hb4.mono HB3.out.size)⟩
  clear hb4 hI4 ho4 HSE hr
  go_wp2
  go_ret2
  exact ⟨a4, c4, rfl, HE.out.1, HE.out.2⟩
set_option maxHeartbeats 1000000 in
/-- ladingref06.Encode of what is no right page -/
theorem renc_no (v : Pv) (p : Pg) (w : World) (h : IsG w v p) (hce : ¬ checkE p = 0) (hc : FewP v) :
    Calls Try.prog 14 #[.agg (pgc p.leaf v)] w fun e w' => e = .returned (.tuple #[.slice none 0 0, .int .i64 (checkE p)]) ∧ Below w.heap.size w w' := by
  obtain ⟨V0, hV0⟩ : ∃ V0, V0 = w.alloc (.cells (pgc p.leaf v) 25) := ⟨_, rfl⟩
  have HB0 : Hid (Below w.heap.size w V0) := hide (by rw [hV0]; exact (Below.refl _ w).alloc (Nat.le_refl _) _)
  have HX : Hid (V0.heap[w.heap.size]? = some (.cells (pgc p.leaf v) 25 (0, 0))) := hide (by rw [hV0, heap_alloc_new])
  have HCK := hide (rcheck_any v p V0 (h.below HB0.out) hc)
  generalize checkE p = E at *
  generalize p.leaf = lf at *
  have hc1 : (E == (0 : Int)) = false := by simpa using hce
  have hc2 : (E != (0 : Int)) = true := by simpa using hce
  clear h hc hce
  obtain ⟨ka, kn, kc, va, vn, vc, ia, inn, ic⟩ := v
  try dsimp only at HX HCK
  try dsimp only
  obtain ⟨q0, q1, q2, q3⟩ := BlkG.cells HX.out
  try dsimp only at q0 q1 q2 q3
  go_enter Try.func14, Try.ntmps14
  go_wp2_with fail
  try rw [← hV0]
  refine HCK.out.mono ?_
  rintro e w1 ⟨rfl, hb1⟩
  have HB1 : Hid (Below w.heap.size w w1) := hide (HB0.out.trans (hb1.mono HB0.out.size))
  clear hb1 HCK q0 q1 q2 q3 hV0
  go_wp2
  go_ret2
  exact ⟨rfl, HB1.out⟩
end Go.Proofs.Ytebikoekpbnpbaa
