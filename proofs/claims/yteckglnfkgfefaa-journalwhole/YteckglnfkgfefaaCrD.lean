/- CrD CrH JnA -/
import Derived.Test.YteckglnfkgfefaaCrA
import Derived.Laws.CopyOwn
import Derived.Laws.AppendOwnNone
import Derived.Deep.DeepAppendRoom
import Derived.Deep.QuietTactic
import Derived.BigQuiet
import Derived.Lib.SlBytesConst
import Derived.Laws.BytesArg
import Derived.OpenShut
import Derived.Test.YteckglnfkgfefaaDx
import Derived.Test.YteckglnfkgfefaaCdD
/- contracts: Seal -/
namespace Go.Proofs.Yteckglnfkgfefaa
open Go.RowKit
set_option maxRecDepth 40000
/-- the four bytes of a checksum, the lowest one first -/
def le (c : Nat) : List Nat := [c % 256, c / 256 % 256, c / 65536 % 256, c / 16777216 % 256]
end Go.Proofs.Yteckglnfkgfefaa
/- contracts: the document's Update, Of, Same -/
namespace Go.Proofs.Yteckglnfkgfefaa
open Go.RowKit
set_option maxRecDepth 40000
set_option maxHeartbeats 400000 in
theorem refUpdate_some (s : Nat) (hs : s < 4294967296) (b off len cap : Nat) (l : List Nat) (w : World) (hl : l.length = len) (hcl : len ≤ cap) (hc : cap ≤ maxLen) (hx : ∀ x ∈ l, x < 256)
    (hcell : ∀ i, i < len → w.cell? ⟨b, off + i, none⟩ = some (.int .u8 (l.getD i 0 : Nat))) :
    Calls Try.prog 82 #[.int .u32 s, .slice (some ⟨b, off, none⟩) len cap] w fun e w' => e = .returned (.int .u32 (Crc.update s l : Nat)) ∧ w' = w := by
  unfold maxLen at hc
  have hsg : IntKind.u32.signed = false := rfl
  have hmx : IntKind.u32.max = 4294967295 := rfl
  have hn := not_u32 s hs
  have hs2 : 4294967295 ^^^ s < 4294967296 := Nat.xor_lt_two_pow (n := 32) (by decide) hs
  have hfin : Hid (Crc.update s l = 4294967295 ^^^ Crc.upd (4294967295 ^^^ s) l) := hide rfl
  generalize hg : 4294967295 ^^^ s = s2 at *
  clear hg
  go_enter Try.func82, Try.ntmps82
  go_wp2_with fail
  clear hn
  go_loop [5, 7, 12] (fun c _ i => ∃ k : Nat, k ≤ len ∧ i = .int .i64 k ∧ c = .int .u32 (Crc.upd s2 (l.take k) : Nat)) (fun _ _ i => len - (intOf i).toNat)
  case atStart => exact ⟨0, Nat.zero_le _, rfl, rfl⟩
  case round =>
    obtain ⟨k, hk, rfl, rfl⟩ := hrel
    have hul := Crc.upd_lt s2 (l.take k) hs2 (mem_take hx)
    by_cases hlt : k < len
    · have hcx : w.cell? ⟨b, off + k, none⟩ = some (.int .u8 (l.getD k 0 : Nat)) := hcell k hlt
      have hx1 := getD_lt l k hx
      have HU : Hid (Crc.upd s2 (l.take (k + 1)) = Crc.shN 8 (Crc.upd s2 (l.take k) ^^^ l.getD k 0)) := hide (upd_take s2 l k (by omega))
      clear hcell hx
      generalize l.getD k 0 = x at *
      generalize Crc.upd s2 (l.take k) = c at *
      obtain ⟨d, hd, Hd, e1⟩ := xor_byte c x hul hx1
      go_wp2_with (go_at_call 90; refine (bits_any d hd _).mono ?_; rintro e w' ⟨rfl, rfl⟩)
      go_round
      case rel => exact ⟨k + 1, by omega, by go_num, by rw [HU.out, ← Hd.out]⟩
      case measure => simp [intOf]; omega
    · have htk : l.take k = l := List.take_of_length_le (by omega)
      rw [htk]
      rw [htk] at hul
      clear htk
      have hn := not_u32 _ hul
      generalize Crc.upd s2 l = c at *
      go_wp2
      go_ret
      exact ⟨ret_u32 (by rw [hfin.out]), rfl⟩
theorem refUpdate_none (s : Nat) (hs : s < 4294967296) (a : Option Addr) (cap : Nat) (w : World) :
    Calls Try.prog 82 #[.int .u32 s, .slice a 0 cap] w fun e w' => e = .returned (.int .u32 (Crc.update s [] : Nat)) ∧ w' = w := by
  have hsg : IntKind.u32.signed = false := rfl
  have hmx : IntKind.u32.max = 4294967295 := rfl
  have hn := not_u32 s hs
  have hs2 : 4294967295 ^^^ s < 4294967296 := Nat.xor_lt_two_pow (n := 32) (by decide) hs
  have hfin : Hid (Crc.update s [] = 4294967295 ^^^ (4294967295 ^^^ s)) := hide rfl
  generalize hg : 4294967295 ^^^ s = s2 at *
  clear hg
  have hn2 := not_u32 s2 hs2
  go_enter Try.func82, Try.ntmps82
  go_wp2_with fail
  clear hn
  go_loop [5, 12] (fun c i => c = .int .u32 s2 ∧ i = .int .i64 0) (fun _ _ => 0)
  case atStart => exact ⟨rfl, rfl⟩
  case round =>
    obtain ⟨rfl, rfl⟩ := hrel
    go_wp2
    go_ret
    exact ⟨ret_u32 (by rw [hfin.out]), rfl⟩
/-- ladingref02.Update -/
theorem refUpdate_any (s : Nat) (hs : s < 4294967296) (a : Option Addr) (len cap : Nat) (l : List Nat) (w : World) (h : IsB w a len cap l) :
    Calls Try.prog 82 #[.int .u32 s, .slice a len cap] w fun e w' => e = .returned (.int .u32 (Crc.update s l : Nat)) ∧ w' = w := by
  obtain ⟨hl, hcl, hc, hx, h⟩ := h
  rcases h with ⟨rfl, _⟩ | ⟨b, off, rfl, hb, hcell⟩
  · obtain rfl : l = [] := List.length_eq_zero_iff.1 hl
    exact refUpdate_none s hs a cap w
  · exact refUpdate_some s hs b off len cap l w hl hcl hc hx hcell
/-- ladingref02.Of -/
theorem refOf_any (a : Option Addr) (len cap : Nat) (l : List Nat) (w : World) (h : IsB w a len cap l) :
    Calls Try.prog 63 #[.slice a len cap] w fun e w' => e = .returned (.int .u32 (Crc.update 0 l : Nat)) ∧ w' = w := by
  go_enter Try.func63, Try.ntmps63
  go_wp2_with fail
  refine (refUpdate_any 0 (by decide) a len cap l _ h).mono ?_
  rintro e w1 ⟨rfl, rfl⟩
  go_wp2
  go_ret
  exact ⟨rfl, rfl⟩
end Go.Proofs.Yteckglnfkgfefaa
/- a journal in memory; isStart, Next, From, Room, Drop, sector -/
namespace Go.Proofs.Yteckglnfkgfefaa
open Go.RowKit
set_option maxRecDepth 40000
def startB (s : Nat) : Bool := decide (1 ≤ s ∧ s ≤ 4611686018427387904)
/-- journal.isStart -/
theorem isStart_any (s : Nat) (w : World) : Calls Try.prog 32 #[.int .u64 (s : Nat)] w fun e w' => e = .returned (.bool (startB s)) ∧ w' = w := by
  have HT : Hid (startB s = decide (1 ≤ s ∧ s ≤ 4611686018427387904)) := hide rfl
  generalize startB s = b at *
  by_cases h1 : 1 ≤ s
  · have d1 : decide ((1 : Int) ≤ (s : Int)) = true := decide_eq_true (by omega)
    by_cases h2 : s ≤ 4611686018427387904
    · have d2 : decide ((s : Int) ≤ 4611686018427387904) = true := decide_eq_true (by omega)
      have HB : Hid (b = true) := hide (by rw [HT.out]; exact decide_eq_true ⟨h1, h2⟩)
      clear h1 h2
      go_enter Try.func32, Try.ntmps32
      go_wp2
      go_ret
      exact ⟨by rw [HB.out]; rfl, rfl⟩
    · have d2 : decide ((s : Int) ≤ 4611686018427387904) = false := decide_eq_false (by omega)
      have HB : Hid (b = false) := hide (by rw [HT.out]; exact decide_eq_false (fun h => h2 h.2))
      clear h1 h2
      go_enter Try.func32, Try.ntmps32
      go_wp2
      go_ret
      exact ⟨by rw [HB.out]; rfl, rfl⟩
  · have d1 : decide ((1 : Int) ≤ (s : Int)) = false := decide_eq_false (by omega)
    have HB : Hid (b = false) := hide (by rw [HT.out]; exact decide_eq_false (fun h => h1 h.1))
    clear h1
    go_enter Try.func32, Try.ntmps32
    go_wp2
    go_ret
    exact ⟨by rw [HB.out]; rfl, rfl⟩
/-- a journal, as the document has it -/
structure Jn where
  first : Nat
  count : Nat
  frm : Nat
  nxt : Nat
  failed : Bool
/-- its block -/
structure IsJ (w : World) (gj g : Nat) (j : Jn) : Prop where
  blk : w.heap[gj]? = some (.cells #[.pointer (some ⟨g, 0, none⟩), .int .i64 (j.first : Nat), .int .i64 (j.count : Nat), .int .u64 (j.frm : Nat), .int .u64 (j.nxt : Nat), .bool j.failed] 78 (0, 0))
  c0 : 0 < j.count
  c1 : j.first + j.count ≤ 1024
  f0 : 1 ≤ j.frm
  f1 : j.frm ≤ j.nxt
  f2 : j.nxt ≤ j.frm + j.count
  f3 : j.nxt ≤ 4611686018427388928
theorem cell_bk {w : World} {b j : Nat} {cs : Array Value} {t : TypeId} {v : Value} (h : w.heap[b]? = some (.cells cs t (0, 0))) (hv : cs[j]? = some v) : w.cell? ⟨b, j, none⟩ = some v := by
  simp [World.cell?, h, hv]
theorem froz_bk {w : World} {b : Nat} {cs : Array Value} {t : TypeId} (h : w.heap[b]? = some (.cells cs t (0, 0))) (j : Nat) : w.frozen? ⟨b, j, none⟩ = false := by
  simp [World.frozen?, h]
theorem next_any (w : World) (gj g : Nat) (j : Jn) (h : IsJ w gj g j) : Calls Try.prog 30 #[.pointer (some ⟨gj, 0, none⟩)] w fun e w' => e = .returned (.int .u64 (j.nxt : Nat)) ∧ w' = w := by
  have g4 := cell_bk (j := 4) h.blk rfl
  simp only [List.getElem_toArray, List.getElem_cons_zero, List.getElem_cons_succ] at g4
  clear h
  go_enter Try.func30, Try.ntmps30
  go_wp2
  go_ret
  exact ⟨rfl, rfl⟩
def Jn.room (j : Jn) : Nat := j.count - (j.nxt - j.frm)
theorem room_any (w : World) (gj g : Nat) (j : Jn) (h : IsJ w gj g j) : Calls Try.prog 28 #[.pointer (some ⟨gj, 0, none⟩)] w fun e w' => e = .returned (.int .i64 (j.room : Nat)) ∧ Below w.heap.size w w' := by
  have g2 := cell_bk (j := 2) h.blk rfl
  have g3 := cell_bk (j := 3) h.blk rfl
  have g4 := cell_bk (j := 4) h.blk rfl
  simp only [List.getElem_toArray, List.getElem_cons_zero, List.getElem_cons_succ] at g2 g3 g4
  have h1 := h.f1
  have h2 := h.f2
  have h3 := h.f3
  have h4 := h.c1
  have HR : Hid (((j.room : Nat) : Int) = (j.count : Int) - ((j.nxt : Int) - (j.frm : Int))) := hide (by unfold Jn.room; omega)
  have w1 : IntKind.u64.wrap ((j.nxt : Int) - (j.frm : Int)) = (j.nxt : Int) - (j.frm : Int) := by
    simp [IntKind.wrap, IntKind.bits, IntKind.signed]
    omega
  clear h
  go_enter Try.func28, Try.ntmps28
  go_wp2_with fail
  go_region
  all_goals
    go_wp2
    go_ret
    exact ⟨by rw [HR.out]; rfl, Below.drew (Below.refl _ _)⟩
def Jn.drop (j : Jn) (to : Nat) : Jn := { j with frm := to }
theorem drop_ok (w : World) (gj g : Nat) (j : Jn) (h : IsJ w gj g j) (to : Nat) (h1 : j.frm ≤ to) (h2 : to ≤ j.nxt) : Calls Try.prog 31 #[.pointer (some ⟨gj, 0, none⟩), .int .u64 (to : Nat)] w fun e w' => e = .returned (.int .i64 0) ∧ IsJ w' gj g (j.drop to) ∧ Frm (fun i => i = gj) w w' := by
  have g3 := cell_bk (j := 3) h.blk rfl
  have g4 := cell_bk (j := 4) h.blk rfl
  have f3 := froz_bk h.blk 3
  simp only [List.getElem_toArray, List.getElem_cons_zero, List.getElem_cons_succ] at g3 g4
  have HN : Hid (IsJ (w.setCell ⟨gj, 3, none⟩ (.int .u64 (to : Nat))) gj g (j.drop to)) := hide ⟨by rw [blk_set h.blk]; rfl, h.c0, h.c1, Nat.le_trans h.f0 h1, h2, by have := h.f2; simp only [Jn.drop]; omega, h.f3⟩
  have HF : Hid (Frm (fun i => i = gj) w (w.setCell ⟨gj, 3, none⟩ (.int .u64 (to : Nat)))) := hide (Frm.set (S := fun i => i = gj) (Frm.refl _ _) rfl _)
  have d1 : decide (to < j.frm) = false := decide_eq_false (by omega)
  have d2 : decide ((to : Int) < (j.frm : Int)) = false := decide_eq_false (by omega)
  have d3 : decide (j.nxt < to) = false := decide_eq_false (by omega)
  have d4 : decide ((j.nxt : Int) < (to : Int)) = false := decide_eq_false (by omega)
  have n1 : ¬ to < j.frm := by omega
  have n2 : ¬ j.nxt < to := by omega
  clear h h1 h2
  go_enter Try.func31, Try.ntmps31
  go_wp2
  go_ret
  exact ⟨rfl, HN.out, HF.out⟩
theorem wr64 (n : Int) (h0 : 0 ≤ n) (h1 : n ≤ 9223372036854775807) : wrap64 n = n := by unfold wrap64; omega
/-- the sector that the number s has -/
def Jn.sec (j : Jn) (s : Nat) : Nat := j.first + (s - 1) % j.count
theorem sector_any (w : World) (gj g : Nat) (j : Jn) (h : IsJ w gj g j) (s : Nat) (h0 : 1 ≤ s) (h1 : s ≤ 9223372036854775807) : Calls Try.prog 71 #[.pointer (some ⟨gj, 0, none⟩), .int .u64 (s : Nat)] w fun e w' => e = .returned (.int .i64 (j.sec s : Nat)) ∧ Below w.heap.size w w' := by
  have g1 := cell_bk (j := 1) h.blk rfl
  have g2 := cell_bk (j := 2) h.blk rfl
  simp only [List.getElem_toArray, List.getElem_cons_zero, List.getElem_cons_succ] at g1 g2
  have hc0 := h.c0
  have hc1 := h.c1
  clear h
  go_enter Try.func71, Try.ntmps71
  go_wp2_with fail
  go_region
  all_goals
    go_wp2
    go_ret
    refine ⟨?_, (Below.refl _ _).drew⟩
    have hm : ((s : Int) - 1) % (j.count : Int) = (((s - 1) % j.count : Nat) : Int) := by
      rw [Int.natCast_emod]; congr 1; omega
    have hl : (s - 1) % j.count < j.count := Nat.mod_lt _ hc0
    rw [hm, wr64 (((s - 1) % j.count : Nat) : Int) (by omega) (by omega), wr64 _ (by omega) (by omega)]
    rfl
end Go.Proofs.Yteckglnfkgfefaa
