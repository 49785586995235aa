/- lists in memory of their own; clones -/
import Derived.Test.YtebikoekpbnpbaaNF
namespace Go.Proofs.Ytebikoekpbnpbaa
open Go.RowKit Cod
set_option maxRecDepth 40000
set_option linter.unusedVariables false
set_option linter.unusedSimpArgs false
theorem blk_setN {w : World} {g j : Nat} {cs : Array Value} {t : TypeId} (h : w.heap[g]? = some (.cells cs t (0, 0))) (v : Value) : (w.setCell ⟨g, j, none⟩ v).heap[g]? = some (.cells (cs.setIfInBounds j v) t (0, 0)) := by
  simp [World.setCell, Array.getElem?_modify, h]
theorem frzN {w : World} {g : Nat} {cs : Array Value} {t : TypeId} (h : w.heap[g]? = some (.cells cs t (0, 0))) (j : Nat) : w.frozen? ⟨g, j, none⟩ = false := by simp [World.frozen?, h]
theorem IsB.keptN {w w' : World} {a : Option Addr} {len cap : Nat} {l : List Nat} (h : IsB w a len cap l) (hs : w.heap.size ≤ w'.heap.size) (hk : ∀ b off, a = some ⟨b, off, none⟩ → w'.heap[b]? = w.heap[b]?) : IsB w' a len cap l := by
  obtain ⟨h1, h2, h3, h4, h5⟩ := h
  refine ⟨h1, h2, h3, h4, h5.imp id ?_⟩
  rintro ⟨b, off, rfl, hlt, hc⟩
  exact ⟨b, off, rfl, Nat.lt_of_lt_of_le hlt hs, fun i hi => (World.cell?_of_block (hk b off rfl)).trans (hc i hi)⟩
/-- a block of bytes, of numbers, none of whose cells is frozen -/
def FzB (w : World) (b : Nat) : Prop := ∃ cs, w.heap[b]? = some (.cells cs 5 (0, 0))
def FzK (w : World) (b : Nat) : Prop := ∃ cs, w.heap[b]? = some (.cells cs 3 (0, 0))
theorem FzB.kept {w w' : World} {b : Nat} (h : FzB w b) (hk : w'.heap[b]? = w.heap[b]?) : FzB w' b := ⟨h.choose, hk.trans h.choose_spec⟩
theorem FzK.kept {w w' : World} {b : Nat} (h : FzK w b) (hk : w'.heap[b]? = w.heap[b]?) : FzK w' b := ⟨h.choose, hk.trans h.choose_spec⟩
theorem FzB.lt {w : World} {b : Nat} (h : FzB w b) : b < w.heap.size := heap_ltN h.choose_spec
theorem FzK.lt {w : World} {b : Nat} (h : FzK w b) : b < w.heap.size := heap_ltN h.choose_spec
theorem own_fzB {w : World} {base n b off : Nat} {c : Nat} {xs : List Value} (h : w.ownsRow base 5 1 (.slice (some ⟨b, off, none⟩) n c) n xs) : FzB w b := by
  rcases h.2 with ⟨e, _⟩ | ⟨g, cap, cur, e, _, hg, _⟩
  · cases e
  · cases e
    exact ⟨cur, hg⟩
/-- slices of bytes, each in memory behind a block -/
def Els (w : World) (g : Nat) (sv : List Value) (L : List (List Nat)) : Prop := sv.length = L.length ∧ ∀ i, i < L.length → ∃ a n c, sv[i]? = some (.slice a n c) ∧ IsB w a n c (L.getD i []) ∧ ∀ b off, a = some ⟨b, off, none⟩ → g < b ∧ FzB w b
theorem Els.kept {w w' : World} {g : Nat} {sv : List Value} {L : List (List Nat)} (h : Els w g sv L) (hs : w.heap.size ≤ w'.heap.size) (hk : ∀ b, g < b → b < w.heap.size → w'.heap[b]? = w.heap[b]?) : Els w' g sv L := by
  refine ⟨h.1, fun i hi => ?_⟩
  obtain ⟨a, n, c, e, hB, hg⟩ := h.2 i hi
  obtain ⟨h1, h2, h3, h4, h5⟩ := hB
  refine ⟨a, n, c, e, ⟨h1, h2, h3, h4, h5.imp id ?_⟩, fun b off e => ⟨(hg b off e).1, (hg b off e).2.kept (hk b (hg b off e).1 (hg b off e).2.lt)⟩⟩
  rintro ⟨b, off, rfl, hlt, hc⟩
  exact ⟨b, off, rfl, Nat.lt_of_lt_of_le hlt hs, fun i hi => (World.cell?_of_block (hk b (hg b off rfl).1 hlt)).trans (hc i hi)⟩
/-- a list of slices of bytes in memory of its own: its row, and behind that its parts -/
structure OwnL (w : World) (g c : Nat) (sv : List Value) (L : List (List Nat)) : Prop where
  row : ∃ xs, w.heap[g]? = some (.cells (sv ++ xs).toArray 26 (0, 0)) ∧ sv.length + xs.length = c
  els : Els w g sv L
  cap : c ≤ maxLen
theorem OwnL.isL {w : World} {g c : Nat} {sv : List Value} {L : List (List Nat)} (h : OwnL w g c sv L) : IsL w (some ⟨g, 0, none⟩) L.length c L := by
  obtain ⟨xs, hr, hl⟩ := h.row
  refine ⟨rfl, by rw [← h.els.1]; omega, h.cap, nofun, fun i hi => ?_⟩
  obtain ⟨a, n, c', e, hB, hg⟩ := h.els.2 i hi
  refine ⟨g, 0, a, n, c', rfl, heap_ltN hr, ?_, hB⟩
  rw [Nat.zero_add]
  refine cell_blkN hr ?_
  rw [List.getElem?_toArray, List.getElem?_append_left (by rw [h.els.1]; exact hi), e]
theorem OwnL.below {w w' : World} {g c : Nat} {sv : List Value} {L : List (List Nat)} (h : OwnL w g c sv L) (hb : Below w.heap.size w w') : OwnL w' g c sv L := by
  obtain ⟨xs, hr, hl⟩ := h.row
  exact ⟨⟨xs, (hb.block _ (heap_ltN hr)).trans hr, hl⟩, h.els.kept hb.size (fun b _ hlt => hb.block b hlt), h.cap⟩
theorem info26 : (Try.prog.info? 26).map (fun i => (i.zero, i.size, i.bytes)) = some (some (.slice none 0 0), 1, 24) := by kernel_rfl
theorem run_mkL (W : World) (n : Nat) (hb : n ≤ 10000000) :
    (Instr.makeSlice 22 (.int .i64 (n : Int)) (.int .i64 (n : Int))).run Try.prog W = .ok (.slice (some ⟨W.heap.size, 0, none⟩) n n) (W.alloc (.cells (List.replicate n (Value.slice none 0 0)).toArray 26)) := by
  obtain ⟨i0, hi, hz0, hz1, hz2⟩ := info_parts info26
  have hr := run_make (P := Try.prog) W 22 26 i0 _ Try.underlying22 hi hz0 .i64 .i64 (n : Int) (n : Int) (by omega) (by omega) (by rw [hz2]; omega) (by omega)
  rw [hr, hz1]
  simp only [Int.toNat_natCast, Nat.mul_one]
  have e : madeCells (Value.slice none 0 0).cells n = (List.replicate n (Value.slice none 0 0)).toArray := by
    rw [show (Value.slice none 0 0).cells = #[Value.slice none 0 0] from rfl]
    simp [madeCells, Nat.mod_one, Array.ext_iff]
  rw [e]
theorem rep_set {sv : List Value} {m : Nat} (v : Value) : (sv ++ List.replicate (m + 1) (Value.slice none 0 0)).toArray.setIfInBounds sv.length v = ((sv ++ [v]) ++ List.replicate m (Value.slice none 0 0)).toArray := by
  rw [List.setIfInBounds_toArray, List.replicate_succ, List.set_append_right _ _ (Nat.le_refl _), Nat.sub_self, List.set_cons_zero]
  simp
set_option maxHeartbeats 2000000 in
theorem clones_any (a : Option Addr) (n c : Nat) (L : List (List Nat)) (w : World) (h : IsL w a n c L) (hn : n ≤ 2000000) (hl : ∀ b ∈ L, b.length ≤ 100000) :
    Calls Try.prog 49 #[.slice a n c] w fun e w' => ∃ sv, e = .returned (.slice (some ⟨w.heap.size, 0, none⟩) n n) ∧ OwnL w' w.heap.size n sv L ∧ Below w.heap.size w w' := by
  have HL := hide h
  have HN := hide h.1
  have HS := hide hl
  have hcm : c ≤ 9223372036854775807 := h.2.2.1
  have hcap := h.2.1
  have hmk := run_mkL w n (by omega)
  have HB0 : Hid (Below w.heap.size w (w.alloc (.cells (List.replicate n (Value.slice none 0 0)).toArray 26))) := hide ((Below.refl _ w).alloc (Nat.le_refl _) _)
  have HX : Hid ((w.alloc (.cells (List.replicate n (Value.slice none 0 0)).toArray 26)).heap[w.heap.size]? = some (.cells (List.replicate n (Value.slice none 0 0)).toArray 26 (0, 0))) := hide (heap_alloc_new _ _)
  clear h hl
  generalize hV : w.alloc (.cells (List.replicate n (Value.slice none 0 0)).toArray 26) = V at *
  clear hV
  go_enter Try.func49, Try.ntmps49
  go_wp2
  go_loopw [11] (fun v11 wr => ∃ (k : Nat) (sv : List Value), k ≤ n ∧ v11 = .int .i64 (k : Nat) ∧ Hid (wr.heap[w.heap.size]? = some (.cells (sv ++ List.replicate (n - k) (Value.slice none 0 0)).toArray 26 (0, 0)) ∧ Els wr w.heap.size sv (L.take k) ∧ Below w.heap.size w wr)) (fun v11 _ => n - (intOf v11).toNat)
  case atStart => exact ⟨0, [], Nat.zero_le _, rfl, hide ⟨HX.out, ⟨rfl, fun i hi => by simp at hi⟩, HB0.out⟩⟩
  case round =>
    obtain ⟨k, sv, hk, rfl, HI⟩ := hrel
    by_cases hlt : k < n
    · obtain ⟨b, off, a1, n1, c1, e1, hb, z1, hB⟩ := (HL.out.below HI.out.2.2).2.2.2.2 k hlt
      have hle : (L.getD k []).length ≤ 100000 := HS.out _ (getD_mem (by rw [HN.out]; exact hlt))
      rw [hB.1] at hle
      have hsv : sv.length = k := by have := HI.out.2.1.1; rw [List.length_take, HN.out] at this; omega
      have HCL := hide (cloneF_any a1 n1 c1 _ wr hB (by omega))
      have HLT := hide hB.2.2.2.1
      have HLB := hide hB.1
      have hw1 : IntKind.i64.wrap ((k : Int) + 1) = (k : Int) + 1 := wrapN (by omega) (by omega)
      have hi4 : (0 : Int) ≤ (k : Int) := by omega
      have hiI : (k : Int) < (n : Int) := by omega
      have HI2 := hide HI.out
      rw [e1]
      clear hB hle HI
      go_wp2_with fail
      refine HCL.out.mono ?_
      rintro e w2 ⟨v2, rfl, hr2, hb2⟩
      have HR2 := hide hr2
      have HB2 : Hid (Below w.heap.size w w2) := hide (HI2.out.2.2.trans (hb2.mono HI2.out.2.2.size))
      have HX2 : Hid (w2.heap[w.heap.size]? = some (.cells (sv ++ List.replicate (n - (k + 1) + 1) (Value.slice none 0 0)).toArray 26 (0, 0))) := hide (by
        have e : n - (k + 1) + 1 = n - k := by omega
        rw [e]
        exact (hb2.block _ (heap_ltN HI2.out.1)).trans HI2.out.1)
      have HE2 := hide (HI2.out.2.1.kept hb2.size (fun b _ hlt => hb2.block b hlt))
      have HGS : Hid (w.heap.size < wr.heap.size) := hide (heap_ltN HI2.out.1)
      clear hr2 hb2 HCL z1
      have g1 : w2.cell? ⟨w.heap.size, k, none⟩ = some (Value.slice none 0 0) := cell_blkN HX2.out (by rw [List.getElem?_toArray, List.getElem?_append_right (by omega), hsv, Nat.sub_self]; simp [List.replicate_succ])
      have g2 : w2.frozen? ⟨w.heap.size, k, none⟩ = false := frzN HX2.out k
      obtain ⟨a2, c2, rfl⟩ := own_formN HR2.out
      have HNX : Hid ((w2.setCell ⟨w.heap.size, k, none⟩ (.slice a2 n1 c2)).heap[w.heap.size]? = some (.cells ((sv ++ [Value.slice a2 n1 c2]) ++ List.replicate (n - (k + 1)) (Value.slice none 0 0)).toArray 26 (0, 0)) ∧ Els (w2.setCell ⟨w.heap.size, k, none⟩ (.slice a2 n1 c2)) w.heap.size (sv ++ [Value.slice a2 n1 c2]) (L.take (k + 1)) ∧ Below w.heap.size w (w2.setCell ⟨w.heap.size, k, none⟩ (.slice a2 n1 c2))) := hide (by
        have hkept : ∀ b, w.heap.size < b → (w2.setCell ⟨w.heap.size, k, none⟩ (.slice a2 n1 c2)).heap[b]? = w2.heap[b]? := fun b hb => Below.heap_setCell _ _ _ _ (by show b ≠ w.heap.size; omega)
        have hsz : w2.heap.size ≤ (w2.setCell ⟨w.heap.size, k, none⟩ (.slice a2 n1 c2)).heap.size := by simp [World.setCell]
        refine ⟨?_, ⟨?_, fun i hi => ?_⟩, HB2.out.setCell (Nat.le_refl _) _⟩
        · have := blk_setN (j := k) HX2.out (.slice a2 n1 c2)
          rw [← rep_set, hsv]
          exact this
        · rw [List.length_append, HI2.out.2.1.1, List.length_take, List.length_take, HN.out]
          simp
          omega
        · rw [List.length_take, HN.out] at hi
          have hE3 := HE2.out.kept hsz (fun b hb _ => hkept b hb)
          by_cases hik : i = k
          · subst hik
            obtain ⟨a', c', e, hI⟩ := owns_isB HR2.out HLT.out
            cases e
            refine ⟨a2, n1, c2, by rw [List.getElem?_append_right (by omega), hsv, Nat.sub_self]; rfl, ?_, fun b off e => ?_⟩
            · have e : (L.take (i + 1)).getD i [] = L.getD i [] := by simp [List.getD_eq_getElem?_getD, List.getElem?_take]
              rw [e]
              refine hI.keptN hsz (fun b off e => hkept b ?_)
              have := (HR2.out.lt b (by rw [e]; rfl)).1
              have := HGS.out
              omega
            · have h8 := (HR2.out.lt b (by rw [e]; rfl)).1
              have h9 := HGS.out
              subst e
              exact ⟨by omega, (own_fzB HR2.out).kept (hkept b (by omega))⟩
          · obtain ⟨a', n', c', e, hB', hg'⟩ := hE3.2 i (by rw [List.length_take, HN.out]; omega)
            have e2 : (L.take (k + 1)).getD i [] = (L.take k).getD i [] := by
              have : i < k := by omega
              simp [List.getD_eq_getElem?_getD, List.getElem?_take, this, show i < k + 1 by omega]
            exact ⟨a', n', c', by rw [List.getElem?_append_left (by omega)]; exact e, by rw [e2]; exact hB', hg'⟩)
      clear HR2 HE2 HI2 HX2 HGS
      go_wp2
      go_roundw
      case rel => exact ⟨k + 1, sv ++ [Value.slice a2 n1 c2], by omega, by simp, HNX⟩
      case measure => simp [intOf]; omega
    · obtain rfl : n = k := by omega
      have hkk : ¬ ((n : Nat) : Int) < ((n : Nat) : Int) := by omega
      have HE : Hid (OwnL wr w.heap.size n sv L ∧ Below w.heap.size w wr) := hide (by
        obtain ⟨h1, h2, h3⟩ := HI.out
        have e : L.take n = L := by rw [← HN.out]; exact List.take_length
        rw [e] at h2
        refine ⟨⟨⟨[], ?_, ?_⟩, h2, by unfold maxLen; omega⟩, h3⟩
        · rw [Nat.sub_self] at h1
          exact h1
        · have := h2.1; rw [HN.out] at this; simpa using this)
      clear HI
      go_wp2
      go_ret
      exact ⟨rfl, ⟨sv, HE.out.1⟩, HE.out.2⟩
end Go.Proofs.Ytebikoekpbnpbaa
