/- JnC JnD -/
import Derived.Test.YteckglnfkgfefaaJnA
import Derived.Lib.BufferWrite
/- copies into a row; a sector as bytes; sectorOf -/
namespace Go.Proofs.Yteckglnfkgfefaa
open Go.RowKit
set_option maxRecDepth 40000
theorem bv_take (l : List Nat) (n : Nat) : bv (l.take n) = (bv l).take n := by simp [bv]
theorem bv_drop (l : List Nat) (n : Nat) : bv (l.drop n) = (bv l).drop n := by simp [bv]
theorem bv_splice (m : List Nat) (o : Nat) (l : List Nat) : bv (splice m o l) = (bv m).take o ++ (bv l ++ (bv m).drop (o + l.length)) := by
  rw [splice, bv_append, bv_append, bv_take, bv_drop]
/-- a row laid anew -/
theorem row_put {W : World} {q N : Nat} {m m' : List Nat} (h : Row W q N N m) (hl : m'.length = N) : Row (W.setRow q (bv m').toArray) q N N m' := by
  obtain ⟨h1, h2, h3, cur, hg, hs, ht⟩ := h
  exact row_setRow hg hl h3
theorem frm_setRow (W : World) (q : Nat) (cs : Array Value) : Frm (fun i => i = q) W (W.setRow q cs) :=
  ⟨rfl, rfl, rfl, by simp [World.setRow], fun k _ hk => setRow_other W q k cs hk⟩
theorem cpMid {W : World} {q N : Nat} {m : List Nat} {src : Option Addr} {len cap o d c : Nat} {l : List Nat} (h : Row W q N N m) (hb : IsB W src len cap l) (hd : len ≤ d) (ho : o + d ≤ N) :
    ∃ W', (Builtin.copy_ #[34, 34] 3 #[.slice (some ⟨q, o, none⟩) d c, .slice src len cap]).run Try.prog W = .ok (.int .i64 (len : Int)) W' ∧ Row W' q N N (splice m o l) ∧ Frm (fun i => i = q) W W' := by
  obtain ⟨h1, h2, h3, h4, h5⟩ := id hb
  obtain ⟨r1, r2, r3, cur, hg, hs, ht⟩ := id h
  have hcur : cur.toList = bv m := by rw [← ht, List.take_of_length_le (by simp; omega)]
  by_cases h0 : len = 0
  · subst h0
    obtain rfl : l = [] := List.length_eq_zero_iff.1 h1
    refine ⟨W, run_copy_none W 34 34 3 5 _ _ d c 0 cap Try.underlying34 hsz5 (Nat.zero_min _), ?_, Frm.refl _ _⟩
    simpa [splice] using h
  · obtain ⟨b, off, rfl, hlt, hc⟩ := h5.resolve_left (fun h => h0 h.1)
    have hr := run_copy_row (P := Try.prog) W 34 34 3 5 q o d c ⟨b, off, none⟩ len cap cur 5 (bv l) Try.underlying34 hsz5 hg (by rw [bv_length, h1]; exact (Nat.min_eq_left hd).symm) hb.src (by rw [bv_length, h1]; omega) (bv_one l)
    have e : (cur.toList.take o ++ bv l ++ cur.toList.drop (o + (bv l).length)) = bv (splice m o l) := by
      rw [bv_splice, hcur, bv_length, List.append_assoc]
    rw [e, bv_length, h1] at hr
    exact ⟨_, hr, row_put h (by rw [length_splice _ _ _ (by omega)]; exact r1), frm_setRow _ _ _⟩
theorem byteCells_str (l : List Nat) (h : ∀ x ∈ l, x < 256) : Lib.byteCells (str l).data.toList = bv l := by
  simp only [Lib.byteCells, str, bv, List.map_map]
  apply List.map_congr_left
  intro x hx
  have := h x hx
  simp [Nat.mod_eq_of_lt this]
theorem cp_str {W : World} {q N : Nat} {m l : List Nat} (h : Row W q N N m) (hx : ∀ x ∈ l, x < 256) (hl : l.length ≤ N) :
    ∃ W', (Builtin.copy_ #[34, 9] 3 #[.slice (some ⟨q, 0, none⟩) N N, .string (str l)]).run Try.prog W = .ok (.int .i64 (l.length : Int)) W' ∧ Row W' q N N (splice m 0 l) ∧ Frm (fun i => i = q) W W' := by
  obtain ⟨r1, r2, r3, cur, hg, hs, ht⟩ := id h
  have hcur : cur.toList = bv m := by rw [← ht, List.take_of_length_le (by simp; omega)]
  have hr := Lib.run_copy_row_string (P := Try.prog) W 34 9 3 5 q 0 N N (str l) cur 5 Try.underlying34 hsz5 hg (by rw [str_size]; exact hl) (by rw [str_size]; omega)
  have e : (cur.toList.take 0 ++ Lib.byteCells (str l).data.toList ++ cur.toList.drop (0 + (str l).size)) = bv (splice m 0 l) := by
    rw [bv_splice, hcur, byteCells_str l hx, str_size, List.append_assoc]
  rw [e, str_size] at hr
  exact ⟨_, hr, row_put h (by rw [length_splice _ _ _ (by omega)]; exact r1), frm_setRow _ _ _⟩
/-- a sector as it stands ahead of its checksum -/
def secH (l : List Nat) (s i n : Nat) : List Nat :=
  splice (putN (putN (putN (putN (splice (List.replicate 4096 0) 0 [76, 68, 78, 71]) 8 (s + i) 8) 16 s 8) 24 n 4) 28 l.length 4) 32 l
/-- a sector -/
def secL (l : List Nat) (s i n : Nat) : List Nat := putN (secH l s i n) 4 (Crc.update 0 (secH l s i n)) 4
theorem splice_lt {m l : List Nat} {o : Nat} (hm : ∀ x ∈ m, x < 256) (hl : ∀ x ∈ l, x < 256) : ∀ x ∈ splice m o l, x < 256 := by
  intro x hx
  simp only [splice, List.mem_append] at hx
  rcases hx with h | h | h
  · exact hm x (List.mem_of_mem_take h)
  · exact hl x h
  · exact hm x (List.mem_of_mem_drop h)
theorem putN_lt {m : List Nat} (hm : ∀ x ∈ m, x < 256) (o n i : Nat) : ∀ x ∈ putN m o n i, x < 256 := by
  induction i with
  | zero => exact hm
  | succ i ih => exact mem_set ih (Nat.mod_lt _ (by decide))
theorem secH_lt {l : List Nat} (hl : ∀ x ∈ l, x < 256) (s i n : Nat) : ∀ x ∈ secH l s i n, x < 256 := by
  refine splice_lt (putN_lt (putN_lt (putN_lt (putN_lt (splice_lt ?_ (by decide)) _ _ _) _ _ _) _ _ _) _ _ _) hl
  intro x hx; rw [List.eq_of_mem_replicate hx]; decide
theorem secL_lt {l : List Nat} (hl : ∀ x ∈ l, x < 256) (s i n : Nat) : ∀ x ∈ secL l s i n, x < 256 := putN_lt (secH_lt hl s i n) _ _ _
theorem update_lt (c : Nat) (l : List Nat) (hc : c < 4294967296) (hl : ∀ x ∈ l, x < 256) : Crc.update c l < 4294967296 := by
  exact Nat.xor_lt_two_pow (n := 32) (by decide) (Crc.upd_lt _ _ (Nat.xor_lt_two_pow (n := 32) (by decide) hc) hl)
theorem mark_eq : (⟨#[76, 68, 78, 71]⟩ : ByteArray) = str [76, 68, 78, 71] := rfl
set_option maxHeartbeats 2000000 in
theorem sectorOf_any (w : World) (a : Option Addr) (len cap : Nat) (l : List Nat) (h : IsB w a len cap l) (hl : len ≤ 4064) (s i n : Nat) (hs : s ≤ 4611686018427387904) (hi : i ≤ 4611686018427387904) (hn : n ≤ 4611686018427387904) :
    Calls Try.prog 36 #[.slice a len cap, .int .u64 (s : Nat), .int .i64 (i : Nat), .int .i64 (n : Nat)] w fun e w' => ∃ q, e = .returned (.slice (some ⟨q, 0, none⟩) 4096 4096) ∧ w.heap.size ≤ q ∧ Row w' q 4096 4096 (secL l s i n) ∧ Below w.heap.size w w' := by
  have hmk : ∀ W : World, (Instr.makeSlice 34 (.int .i64 4096) (.int .i64 4096)).run Try.prog W = .ok (.slice (some ⟨W.heap.size, 0, none⟩) 4096 4096) (W.alloc (.cells (zeros 4096).toArray 5)) := fun W => run_mk W 4096 4096 (Nat.le_refl _) (by omega)
  have hq : Row (w.alloc (.cells (zeros 4096).toArray 5)) w.heap.size 4096 4096 (List.replicate 4096 0) := ⟨List.length_replicate, Nat.le_refl _, by unfold maxLen; omega, _, heap_alloc_new w _, by simp [zeros], by rw [bv_zeros, List.toList_toArray, List.take_of_length_le (by simp [zeros])]⟩
  obtain ⟨W1, hcp, hr1, hf1⟩ := cp_str (l := [76, 68, 78, 71]) hq (by decide) (by decide)
  have hb1 : Below w.heap.size w W1 := Below.trans ((Below.refl _ w).alloc (Nat.le_refl _) (.cells (zeros 4096).toArray 5)) (Frm.toBelow hf1 (by simp) (fun i hi => by omega))
  have HR := hide hr1
  have HB := hide hb1
  clear hq hr1 hf1 hb1
  rw [← mark_eq] at hcp
  have hw1 : IntKind.u64.wrap ((s : Int) + (i : Int)) = ((s + i : Nat) : Int) := by rw [IntKind.wrap_u64]; omega
  generalize hr0 : splice (List.replicate 4096 0) 0 [76, 68, 78, 71] = r0 at *
  go_enter Try.func36, Try.ntmps36
  go_wp2_with fail
  refine (putLow_any W1 w.heap.size 4096 4096 r0 HR.out 8 (s + i) 8 4088 (by omega) (by omega)).mono ?_
  rintro e w2 ⟨rfl, hr2, hf2⟩
  have HR2 := hide hr2
  have HB2 := hide (Below.trans HB.out (Frm.toBelow hf2 HB.out.size (fun i hi => by omega)))
  clear hr2 hf2 HR HB hcp hw1
  go_wp2_with fail
  refine (putLow_any w2 w.heap.size 4096 4096 _ HR2.out 16 s 8 4080 (by omega) (by omega)).mono ?_
  rintro e w3 ⟨rfl, hr3, hf3⟩
  have HR3 := hide hr3
  have HB3 := hide (Below.trans HB2.out (Frm.toBelow hf3 HB2.out.size (fun i hi => by omega)))
  clear hr3 hf3 HR2 HB2
  go_wp2_with fail
  refine (putLow_any w3 w.heap.size 4096 4096 _ HR3.out 24 n 4 4072 (by omega) (by omega)).mono ?_
  rintro e w4 ⟨rfl, hr4, hf4⟩
  have HR4 := hide hr4
  have HB4 := hide (Below.trans HB3.out (Frm.toBelow hf4 HB3.out.size (fun i hi => by omega)))
  clear hr4 hf4 HR3 HB3
  go_wp2_with fail
  refine (putLow_any w4 w.heap.size 4096 4096 _ HR4.out 28 len 4 4068 (by omega) (by omega)).mono ?_
  rintro e w5 ⟨rfl, hr5, hf5⟩
  have HR5 := hide hr5
  have HB5 := hide (Below.trans HB4.out (Frm.toBelow hf5 HB4.out.size (fun i hi => by omega)))
  clear hr5 hf5 HR4 HB4
  obtain ⟨w6, hcp6, hr6, hf6⟩ := cpMid (d := 4064) (c := 4064) (o := 32) HR5.out (h.below HB5.out) hl (by omega)
  have HB6 := hide (Below.trans HB5.out (Frm.toBelow hf6 HB5.out.size (fun i hi => by omega)))
  have HS : Hid (splice (putN (putN (putN (putN r0 8 (s + i) 8) 16 s 8) 24 n 4) 28 len 4) 32 l = secH l s i n) := hide (by rw [secH, hr0, h.1])
  rw [HS.out] at hr6
  have HR6 := hide hr6
  clear hr6 hf6 HR5 HB5
  go_wp2_with fail
  have hI : IsB w6.drew (some ⟨w.heap.size, 0, none⟩) 4096 4096 (secH l s i n) := (HR6.out.below (B := w6.heap.size) ((Below.refl _ _).drew) HR6.out.lt).isB (secH_lt h.2.2.2.1 s i n)
  have C1 := hide (of_any (some ⟨w.heap.size, 0, none⟩) 4096 4096 (secH l s i n) w6.drew hI)
  have HQ : Hid (∀ W, Below w6.drew.heap.size w6.drew W → Row W w.heap.size 4096 4096 (secH l s i n) ∧ Below w.heap.size w W) := hide (fun W hW => ⟨HR6.out.below (B := w6.heap.size) (((Below.refl _ _).drew).trans hW) HR6.out.lt, HB6.out.trans ((((Below.refl _ _).drew).trans hW).mono HB6.out.size)⟩)
  have HL : Hid (secL l s i n = putN (secH l s i n) 4 (Crc.update 0 (secH l s i n)) 4) := hide rfl
  have hcl : ¬ (4294967296 ≤ Crc.update 0 (secH l s i n)) := by have := update_lt 0 (secH l s i n) (by decide) (secH_lt h.2.2.2.1 s i n); omega
  clear hI HR6 HB6 HS h hmk hr0 hcp6
  generalize secH l s i n = rh at *
  generalize Crc.update 0 rh = c at *
  have hw : IntKind.u64.wrap (c : Int) = (c : Int) := by rw [IntKind.wrap_u64]; omega
  clear hcl
  go_region_held (fun _ : World => True) (trivial) (first | (go_at_call 59; refine C1.out.mono ?_; rintro e w7 ⟨rfl, hb7⟩; have HQ7 := hide (HQ.out w7 hb7); clear hb7) | (go_at_call 58; refine (putLow_any w7 w.heap.size 4096 4096 rh HQ7.out.1 4 c 4 4092 (by omega) (by omega)).mono ?_; rintro e w8 ⟨rfl, hr8, hf8⟩; have HR8 := hide hr8; have HF8 := hide hf8; clear hr8 hf8))
  all_goals
    have HB8 := hide (Below.trans HQ7.out.2 (Frm.toBelow HF8.out HQ7.out.2.size (fun i hi => by omega)))
    rw [← HL.out] at HR8
    clear HQ7 HF8 HL C1 HQ
    go_wp2_with fail
    go_ret
    exact ⟨_, rfl, Nat.le_refl _, HR8.out, HB8.out⟩
end Go.Proofs.Yteckglnfkgfefaa
/- the document's little -/
namespace Go.Proofs.Yteckglnfkgfefaa
open Go.RowKit
set_option maxRecDepth 40000
/-- n in i bytes, the lowest first -/
def leB (n : Nat) : Nat → List Nat
  | 0 => []
  | i + 1 => leB n i ++ [n / 2 ^ (8 * i) % 256]
theorem leB_length (n i : Nat) : (leB n i).length = i := by
  induction i with
  | zero => rfl
  | succ i ih => simp [leB, ih]
theorem leB_lt (n i : Nat) : ∀ x ∈ leB n i, x < 256 := by
  induction i with
  | zero => simp [leB]
  | succ i ih =>
    intro x hx
    simp only [leB, List.mem_append, List.mem_singleton] at hx
    rcases hx with h | rfl
    · exact ih x h
    · exact Nat.mod_lt _ (by decide)
theorem little_any (n k : Nat) (hk : k ≤ 8) (w : World) :
    Calls Try.prog 62 #[.int .u64 (n : Nat), .int .i64 (k : Nat)] w fun e w' => ∃ v, e = .returned v ∧ w'.ownsRow w.heap.size 5 1 v k (bv (leB n k)) ∧ Below w.heap.size w w' := by
  obtain ⟨i0, hi, hz0, hz1, hz2⟩ := info_parts Try.info5
  go_enter Try.func62, Try.ntmps62
  go_wp2_with fail
  go_loopw [6, 5] (fun i x wr => ∃ j : Nat, j ≤ k ∧ i = .int .i64 (j : Nat) ∧ wr.ownsRow w.heap.size 5 1 x j (bv (leB n j)) ∧ Below w.heap.size w wr) (fun i _ _ => k - (intOf i).toNat)
  case atStart => exact ⟨0, Nat.zero_le _, rfl, ⟨rfl, .inl ⟨rfl, rfl⟩⟩, Below.refl _ _⟩
  case round =>
    obtain ⟨j, hj, rfl, hown, hb⟩ := hrel
    by_cases hjk : j < k
    · have HE : Hid (((n : Int) / 2 ^ (8 * j) % 256) = ((n / 2 ^ (8 * j) % 256 : Nat) : Int)) := hide (by simp)
      have HX : Hid (n / 2 ^ (8 * j) % 256 < 256) := hide (Nat.mod_lt _ (by decide))
      have HL : Hid (leB n (j + 1) = leB n j ++ [n / 2 ^ (8 * j) % 256]) := hide rfl
      have hbs := hb.size
      go_wp2_with (at_builtin; refine wpList_append_own _ rfl _ _ 34 rfl w.heap.size 5 i0 (.int .u8 0) 1 1 Try.underlying34 hi hz0 hz1 hz2 rfl (by decide) _ j (bv (leB n j)) rfl (hown.alloc _) ⟨wr.heap.size, 0, none⟩ 1 1 [.int .u8 ((n : Int) / 2 ^ (8 * j) % 256)] rfl rfl (cell_one_new _ _ _) (u8_one _) ?c3 ?c4 ?c5 ?_)
      case c3 => unfold maxLen; omega
      case c4 => omega
      case c5 => simp; omega
      intro v2 w2 hown2 hg2 _
      have hb2 : Below w.heap.size w w2 := (hb.alloc (by omega) _).grown hg2 (by simp; omega) (fun k hk => (hown.lt k hk).1)
      have hown3 : w2.ownsRow w.heap.size 5 1 v2 (j + 1) (bv (leB n (j + 1))) := by rw [HL.out, bv_append]; rw [HE.out] at hown2; exact hown2
      clear hown2 hg2 hown hb HE HL HX
      go_wp2
      go_roundw
      case rel => exact ⟨j + 1, by omega, by go_num, hown3, hb2⟩
      case measure => simp [intOf]; omega
    · have : j = k := by omega
      subst this
      go_wp2_with fail
      go_ret
      exact ⟨_, rfl, hown, hb⟩
end Go.Proofs.Yteckglnfkgfefaa
