/- the reader: num, text -/
import Derived.Test.YtebikoekpbnpbaaEA
import Derived.Test.YtebikoekpbnpbaaDJ
import Derived.Lib.ConvBytes
namespace Go.Proofs.Ytebikoekpbnpbaa
open Go.RowKit Cod
set_option maxRecDepth 100000
set_option linter.unusedVariables false
set_option linter.unusedSimpArgs false
/-- a reader in memory: what is left, whether it is bad -/
structure RdW (w : World) (r : Nat) (a : Option Addr) (n c : Nat) (R : List Nat) (bad : Bool) : Prop where
  blk : w.heap[r]? = some (.cells #[.slice a n c, .bool bad] 80 (0, 0))
  isb : IsB w a n c R
  few : R.length ≤ 4096
/-- a reader whose rest lies in memory of bytes -/
structure RdI (w : World) (r : Nat) (R : List Nat) (bad : Bool) : Prop where
  few : R.length ≤ 4096
  is : ∃ a n c, w.heap[r]? = some (.cells #[.slice a n c, .bool bad] 80 (0, 0)) ∧ IsB w a n c R ∧ NewB w 0 a
theorem RdI.rdW {w : World} {r : Nat} {R : List Nat} {bad : Bool} (h : RdI w r R bad) : ∃ a n c, RdW w r a n c R bad := by
  obtain ⟨a, n, c, h1, h2, _⟩ := h.is
  exact ⟨a, n, c, h1, h2, h.few⟩
theorem RdI.lt {w : World} {r : Nat} {R : List Nat} {bad : Bool} (h : RdI w r R bad) : r < w.heap.size := by
  obtain ⟨a, n, c, h1, _⟩ := h.is
  exact heap_ltN h1
theorem RdI.kept {w w' : World} {r : Nat} {R : List Nat} {bad : Bool} (h : RdI w r R bad) (hs : w.heap.size ≤ w'.heap.size) (hk : ∀ (b : Nat) (cs : Array Value) (t : TypeId) (f : Nat × Nat), (t = 5 ∨ t = 80) → w.heap[b]? = some (Obj.cells cs t f) → w'.heap[b]? = w.heap[b]?) : RdI w' r R bad := by
  obtain ⟨a, n, c, h1, h2, h3⟩ := h.is
  refine ⟨h.few, a, n, c, (hk r _ 80 _ (.inr rfl) h1).trans h1, h2.keptN hs (fun b off e => ?_), fun b off e => ?_⟩
  · obtain ⟨_, cs, f, h4⟩ := h3 b off e
    exact hk b cs 5 f (.inl rfl) h4
  · obtain ⟨h5, cs, f, h4⟩ := h3 b off e
    exact ⟨h5, cs, f, (hk b cs 5 f (.inl rfl) h4).trans h4⟩
theorem RdI.below {w w' : World} {r : Nat} {R : List Nat} {bad : Bool} (h : RdI w r R bad) (hb : Below w.heap.size w w') : RdI w' r R bad := h.kept hb.size (fun b cs t f _ h4 => hb.block b (heap_ltN h4))
theorem RdI.lits {w : World} {r : Nat} {R : List Nat} {bad : Bool} (h : RdI w r R bad) : ∀ x ∈ R, x < 256 := by
  obtain ⟨a, n, c, h1, h2, _⟩ := h.is
  exact h2.2.2.2.1
/-- what num reads -/
def numS (R : List Nat) (bad : Bool) (n : Nat) (R' : List Nat) (bad' : Bool) : Prop := (rdNum R = some (n, R') ∧ bad' = bad) ∨ (rdNum R = none ∧ n = 0 ∧ R' = [] ∧ bad' = true)
/-- what text reads -/
def textS (R : List Nat) (bad : Bool) (s R' : List Nat) (bad' : Bool) : Prop := (rdText 1024 R = .ok (s, R') ∧ bad' = bad) ∨ ((∃ k, rdText 1024 R = .error k) ∧ s = [] ∧ R' = [] ∧ bad' = true)
theorem set2 {w : World} {r : Nat} {x y u v : Value} (h : w.heap[r]? = some (.cells #[x, y] 80 (0, 0))) : ((w.setCell ⟨r, 0, none⟩ u).setCell ⟨r, 1, none⟩ v).heap[r]? = some (.cells #[u, v] 80 (0, 0)) := by
  have h1 := blk_setN (j := 0) h u
  have h2 := blk_setN (j := 1) h1 v
  rw [h2]
  rfl
theorem set2_grown (w : World) (r : Nat) (u v : Value) : w.grownBy ((w.setCell ⟨r, 0, none⟩ u).setCell ⟨r, 1, none⟩ v) (some r) := grown_set (grown_set (World.grownBy.refl _ _) _) _
/-- what has been read lies in the reader -/
theorem rdI_new {w1 : World} {r q n c : Nat} {x y : Value} {R' : List Nat} {bad' : Bool} (hb : w1.heap[r]? = some (.cells #[x, y] 80 (0, 0))) (hq : Row w1 q n c R') (hr : r < q) (hx : ∀ z ∈ R', z < 256) (hf : R'.length ≤ 4096) :
    RdI ((w1.setCell ⟨r, 0, none⟩ (.slice (some ⟨q, 0, none⟩) n c)).setCell ⟨r, 1, none⟩ (.bool bad')) r R' bad' := by
  have hg := set2_grown w1 r (.slice (some ⟨q, 0, none⟩) n c) (.bool bad')
  obtain ⟨h1, h2, h3, cur, h4, h5, h6⟩ := hq
  have e : ((w1.setCell ⟨r, 0, none⟩ (.slice (some ⟨q, 0, none⟩) n c)).setCell ⟨r, 1, none⟩ (.bool bad')).heap[q]? = w1.heap[q]? := hg.block q (heap_ltN h4) (by simp; omega)
  refine ⟨hf, _, n, c, set2 hb, Row.isB ⟨h1, h2, h3, cur, e.trans h4, h5, h6⟩ hx, fun b off e2 => ?_⟩
  cases e2
  exact ⟨Nat.zero_le _, cur, _, e.trans h4⟩
theorem rdI_nil {w1 : World} {r : Nat} {x y : Value} {bad' : Bool} (hb : w1.heap[r]? = some (.cells #[x, y] 80 (0, 0))) :
    RdI ((w1.setCell ⟨r, 0, none⟩ (.slice none 0 0)).setCell ⟨r, 1, none⟩ (.bool bad')) r [] bad' := ⟨by simp, none, 0, 0, set2 hb, isB_nil _, nofun⟩
set_option maxHeartbeats 2000000 in
/-- reader.num -/
theorem num69 (r : Nat) (a : Option Addr) (n c : Nat) (R : List Nat) (bad : Bool) (w : World) (h : RdW w r a n c R bad) :
    Calls Try.prog 69 #[.pointer (some ⟨r, 0, none⟩)] w fun e w' => ∃ (m : Nat) (R' : List Nat) (bad' : Bool), e = .returned (.int .u64 (m : Nat)) ∧ m < 18446744073709551616 ∧ numS R bad m R' bad' ∧ RdI w' r R' bad' ∧ w.grownBy w' (some r) := by
  have HX := hide h.blk
  have HL := hide h.isb.2.2.2.1
  have HF := hide h.few
  have HLN := hide h.isb.1
  have HN := hide (readNum_any a n c R w h.isb (by have := h.isb.1; have := h.few; omega))
  have q0 : w.cell? ⟨r, 0, none⟩ = some (.slice a n c) := cell_blkN HX.out rfl
  have HRL : Hid (r < w.heap.size) := hide (heap_ltN HX.out)
  clear h
  go_enter Try.func69, Try.ntmps69
  go_wp2_with fail
  refine HN.out.mono ?_
  rintro e w1 ⟨(⟨m, p', q, hn, hm, hp, rfl, hq, hrow⟩ | ⟨hn, rfl⟩), hb⟩
  case inl =>
    have HX1 : Hid (w1.heap[r]? = some (.cells #[.slice a n c, .bool bad] 80 (0, 0))) := hide ((hb.block _ HRL.out).trans HX.out)
    have HFI : Hid (∃ (m' : Nat) (R' : List Nat) (bad' : Bool), Ending.returned (.int .u64 (m : Nat)) = Ending.returned (.int .u64 (m' : Nat)) ∧ m' < 18446744073709551616 ∧ numS R bad m' R' bad' ∧ RdI ((w1.setCell ⟨r, 0, none⟩ (.slice (some ⟨q, 0, none⟩) (n - p') (n - p'))).setCell ⟨r, 1, none⟩ (.bool bad)) r R' bad' ∧ w.grownBy ((w1.setCell ⟨r, 0, none⟩ (.slice (some ⟨q, 0, none⟩) (n - p') (n - p'))).setCell ⟨r, 1, none⟩ (.bool bad)) (some r)) := hide
      ⟨m, R.drop p', bad, rfl, hm, .inl ⟨hn, rfl⟩, rdI_new HX1.out hrow (by have := HRL.out; omega) (mem_drop HL.out) (by rw [List.length_drop]; have := HF.out; omega), grown_trans ⟨hb.os, hb.tape, hb.output, hb.size, fun k hk _ => hb.block k hk⟩ (set2_grown _ _ _ _)⟩
    have q1 : w1.cell? ⟨r, 1, none⟩ = some (.bool bad) := cell_blkN HX1.out rfl
    have q0' : w1.cell? ⟨r, 0, none⟩ = some (.slice a n c) := cell_blkN HX1.out rfl
    have f0 := frzN HX1.out 0
    have f1 := frzN HX1.out 1
    clear hn hm hp hq hrow hb HN q0
    cases bad <;> (
      go_wp2
      go_ret
      exact HFI.out)
  case inr =>
    have HX1 : Hid (w1.heap[r]? = some (.cells #[.slice a n c, .bool bad] 80 (0, 0))) := hide ((hb.block _ HRL.out).trans HX.out)
    have HFI : Hid (∃ (m' : Nat) (R' : List Nat) (bad' : Bool), Ending.returned (.int .u64 0) = Ending.returned (.int .u64 (m' : Nat)) ∧ m' < 18446744073709551616 ∧ numS R bad m' R' bad' ∧ RdI ((w1.setCell ⟨r, 0, none⟩ (.slice none 0 0)).setCell ⟨r, 1, none⟩ (.bool true)) r R' bad' ∧ w.grownBy ((w1.setCell ⟨r, 0, none⟩ (.slice none 0 0)).setCell ⟨r, 1, none⟩ (.bool true)) (some r)) := hide
      ⟨0, [], true, rfl, by decide, .inr ⟨hn, rfl, rfl, rfl⟩, rdI_nil HX1.out, grown_trans ⟨hb.os, hb.tape, hb.output, hb.size, fun k hk _ => hb.block k hk⟩ (set2_grown _ _ _ _)⟩
    have q1 : w1.cell? ⟨r, 1, none⟩ = some (.bool bad) := cell_blkN HX1.out rfl
    have q0' : w1.cell? ⟨r, 0, none⟩ = some (.slice a n c) := cell_blkN HX1.out rfl
    have f0 := frzN HX1.out 0
    have f1 := frzN HX1.out 1
    clear hn hb HN q0
    cases bad <;> (
      go_wp2
      go_ret
      exact HFI.out)
/-- []byte(s) -/
theorem conv_bytes (W : World) (l : List Nat) (hl : ∀ x ∈ l, x < 256) (hm : l.length ≤ 1024) : ∃ c W', (convert 9 26 (.string (str l))).run Try.prog W = .ok (.slice (some ⟨W.heap.size, 0, none⟩) l.length c) W' ∧ IsB W' (some ⟨W.heap.size, 0, none⟩) l.length c l ∧ NewB W' W.heap.size (some ⟨W.heap.size, 0, none⟩) ∧ Below W.heap.size W W' := by
  have hr := Go.Lib.run_convert_string_bytes (P := Try.prog) W 9 26 5 (str l) Try.underlying9 Try.underlying26 Try.underlying5
  rw [str_size] at hr
  have hsz := Go.Lib.bytesWorld_size W 5 (str l)
  refine ⟨_, _, hr, ?_, ?_, ?_⟩
  · refine ⟨rfl, grownCap_ge _ _ _ _, grownCap_le_maxLen _ _ _ _ (by unfold maxLen; omega), hl, .inr ⟨_, 0, rfl, by rw [hsz]; omega, fun i hi => ?_⟩⟩
    rw [Nat.zero_add, Go.Lib.bytesWorld_cell _ _ _ _ (by rw [str_size]; exact hi)]
    have hb := bl_str hl
    have e : l.getD i 0 = ((str l).data.toList.getD i 0).toNat := by
      conv => lhs; rw [← hb]
      simp only [bl, List.getD_eq_getElem?_getD, List.getElem?_map]
      cases (str l).data.toList[i]? <;> rfl
    rw [e]
  · intro b off hb
    cases hb
    exact ⟨Nat.le_refl _, _, _, Go.Lib.bytesWorld_at_new W 5 (str l)⟩
  · refine ⟨rfl, rfl, rfl, by rw [hsz]; omega, fun k hk => Go.Lib.bytesWorld_at_old W 5 (str l) k hk⟩
set_option maxHeartbeats 2000000 in
/-- reader.text -/
theorem text93 (r : Nat) (R : List Nat) (bad : Bool) (w : World) (h : RdI w r R bad) :
    Calls Try.prog 93 #[.pointer (some ⟨r, 0, none⟩)] w fun e w' => ∃ (a : Option Addr) (c : Nat) (s R' : List Nat) (bad' : Bool), e = .returned (.slice a s.length c) ∧ IsB w' a s.length c s ∧ NewB w' w.heap.size a ∧ s.length ≤ 1024 ∧ textS R bad s R' bad' ∧ RdI w' r R' bad' ∧ w.grownBy w' (some r) := by
  obtain ⟨a, n, c, h1, h2, h3⟩ := h.is
  have HX := hide h1
  have HL := hide h2.2.2.2.1
  have HF := hide h.few
  have HN := hide (readText_any a n c R w h2 (by have := h2.1; have := h.few; omega))
  have q0 : w.cell? ⟨r, 0, none⟩ = some (.slice a n c) := cell_blkN HX.out rfl
  have HRL : Hid (r < w.heap.size) := hide (heap_ltN HX.out)
  clear h h1 h2 h3
  go_enter Try.func93, Try.ntmps93
  go_wp2_with fail
  refine HN.out.mono ?_
  rintro e w1 ⟨(⟨s, p', q, hn, hp, hs, rfl, hq, hrow⟩ | ⟨k, hn, hk, rfl⟩), hb⟩
  case inl =>
    have hsl := (rdText_ok HL.out hn).2.1
    have HX1 : Hid (w1.heap[r]? = some (.cells #[.slice a n c, .bool bad] 80 (0, 0))) := hide ((hb.block _ HRL.out).trans HX.out)
    obtain ⟨V, hV⟩ : ∃ V, V = (w1.setCell ⟨r, 0, none⟩ (.slice (some ⟨q, 0, none⟩) (n - p') (n - p'))).setCell ⟨r, 1, none⟩ (.bool bad) := ⟨_, rfl⟩
    have HG1 : Hid (w.grownBy V (some r)) := hide (by rw [hV]; exact grown_trans ⟨hb.os, hb.tape, hb.output, hb.size, fun k hk _ => hb.block k hk⟩ (set2_grown _ _ _ _))
    have HR1 : Hid (RdI V r (R.drop p') bad) := hide (by rw [hV]; exact rdI_new HX1.out hrow (by have := HRL.out; omega) (mem_drop HL.out) (by rw [List.length_drop]; have := HF.out; omega))
    have HSZ : Hid (w.heap.size ≤ V.heap.size) := hide HG1.out.size
    obtain ⟨c2, W2, hcv, hI, hN2, hB2⟩ := conv_bytes V s hs hsl
    have HFI : Hid (∃ (a' : Option Addr) (c' : Nat) (s' R' : List Nat) (bad' : Bool), Ending.returned (.slice (some ⟨w1.heap.size, 0, none⟩) s.length c2) = Ending.returned (.slice a' s'.length c') ∧ IsB W2 a' s'.length c' s' ∧ NewB W2 w.heap.size a' ∧ s'.length ≤ 1024 ∧ textS R bad s' R' bad' ∧ RdI W2 r R' bad' ∧ w.grownBy W2 (some r)) := hide (by
      have hVS : V.heap.size = w1.heap.size := by rw [hV]; simp [World.setCell]
      rw [← hVS]
      exact ⟨_, c2, s, R.drop p', bad, rfl, hI, (fun b off e => by have := hN2 b off e; exact ⟨by have := HSZ.out; omega, this.2⟩), hsl, .inl ⟨hn, rfl⟩, HR1.out.below hB2, grown_trans HG1.out ⟨hB2.os, hB2.tape, hB2.output, hB2.size, fun k hk _ => hB2.block k hk⟩⟩)
    have q1 : w1.cell? ⟨r, 1, none⟩ = some (.bool bad) := cell_blkN HX1.out rfl
    have q0' : w1.cell? ⟨r, 0, none⟩ = some (.slice a n c) := cell_blkN HX1.out rfl
    have f0 := frzN HX1.out 0
    have f1 := frzN HX1.out 1
    rw [hV] at hcv
    clear hn hp hq hrow hb HN q0 hI hN2 hB2 hsl hs
    cases bad <;> (
      go_wp2
      try rw [← hV]
      go_ret
      exact HFI.out)
  case inr =>
    have HX1 : Hid (w1.heap[r]? = some (.cells #[.slice a n c, .bool bad] 80 (0, 0))) := hide ((hb.block _ HRL.out).trans HX.out)
    obtain ⟨V, hV⟩ : ∃ V, V = (w1.setCell ⟨r, 0, none⟩ (.slice none 0 0)).setCell ⟨r, 1, none⟩ (.bool true) := ⟨_, rfl⟩
    have HG1 : Hid (w.grownBy V (some r)) := hide (by rw [hV]; exact grown_trans ⟨hb.os, hb.tape, hb.output, hb.size, fun k hk _ => hb.block k hk⟩ (set2_grown _ _ _ _))
    have HR1 : Hid (RdI V r [] true) := hide (by rw [hV]; exact rdI_nil HX1.out)
    have HSZ : Hid (w.heap.size ≤ V.heap.size) := hide HG1.out.size
    obtain ⟨c2, W2, hcv, hI, hN2, hB2⟩ := conv_bytes V [] nofun (by simp)
    have HFI : Hid (∃ (a' : Option Addr) (c' : Nat) (s' R' : List Nat) (bad' : Bool), Ending.returned (.slice (some ⟨w1.heap.size, 0, none⟩) ([] : List Nat).length c2) = Ending.returned (.slice a' s'.length c') ∧ IsB W2 a' s'.length c' s' ∧ NewB W2 w.heap.size a' ∧ s'.length ≤ 1024 ∧ textS R bad s' R' bad' ∧ RdI W2 r R' bad' ∧ w.grownBy W2 (some r)) := hide (by
      have hVS : V.heap.size = w1.heap.size := by rw [hV]; simp [World.setCell]
      rw [← hVS]
      exact ⟨_, c2, [], [], true, rfl, hI, (fun b off e => by have := hN2 b off e; exact ⟨by have := HSZ.out; omega, this.2⟩), by simp, .inr ⟨⟨k, hn⟩, rfl, rfl, rfl⟩, HR1.out.below hB2, grown_trans HG1.out ⟨hB2.os, hB2.tape, hB2.output, hB2.size, fun k hk _ => hB2.block k hk⟩⟩)
    have q1 : w1.cell? ⟨r, 1, none⟩ = some (.bool bad) := cell_blkN HX1.out rfl
    have q0' : w1.cell? ⟨r, 0, none⟩ = some (.slice a n c) := cell_blkN HX1.out rfl
    have f0 := frzN HX1.out 0
    have f1 := frzN HX1.out 1
    have hk1 : ((k : Int) == 0) = false := by simpa using hk
    have hk2 : ((k : Int) != 0) = true := by simpa using hk
    rw [hV] at hcv
    clear hn hb HN q0 hI hN2 hB2 hk
    cases bad <;> (
      go_wp2
      try rw [← hV]
      go_ret
      exact HFI.out)
end Go.Proofs.Ytebikoekpbnpbaa
