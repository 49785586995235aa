/- the document's bytes, lists -/
import Derived.Test.YtebikoekpbnpbaaPB
namespace Go.Proofs.Ytebikoekpbnpbaa
open Go.RowKit Cod
set_option maxRecDepth 100000
set_option linter.unusedVariables false
set_option linter.unusedSimpArgs false
/-- a block of bytes that is new -/
def NewB (w : World) (base : Nat) (a : Option Addr) : Prop := ∀ b off, a = some ⟨b, off, none⟩ → base ≤ b ∧ ∃ cs f, w.heap[b]? = some (.cells cs 5 f)
theorem NewB.below {w w' : World} {base : Nat} {a : Option Addr} (h : NewB w base a) (hb : Below w.heap.size w w') : NewB w' base a := fun b off e => by
  obtain ⟨h1, cs, f, h2⟩ := h b off e
  exact ⟨h1, cs, f, (hb.block _ (heap_ltN h2)).trans h2⟩
/-- ladingref06.bytes -/
theorem rbytes_any (a : Option Addr) (len cap : Nat) (l : List Nat) (w : World) (h : IsB w a len cap l) (hr : len ≤ 140737488355328) :
    Calls Try.prog 53 #[.slice a len cap] w fun e w' => ∃ a' c', e = .returned (.slice a' len c') ∧ IsB w' a' len c' l ∧ NewB w' w.heap.size a' ∧ Below w.heap.size w w' := by
  have HL := hide h.2.2.2.1
  go_enter Try.func53, Try.ntmps53
  go_wp2_with (at_builtin; refine wpList_clone rfl _ _ rfl w.heap.size _ 0 [] rfl (owns_empty w _ (Nat.le_refl _)) a len cap l rfl ?hB ?hb ?hbase w.heap.size w ?bel (Nat.le_refl _) ?_)
  case hB => exact h.below ((Below.refl _ _).alloc (Nat.le_refl _) _)
  case hb => omega
  case hbase => simp
  case bel => exact (Below.refl _ _).alloc (Nat.le_refl _) _
  intro v w1 hown0 hb1
  have hown : w1.ownsRow w.heap.size 5 1 v len (bv l) := by simpa using hown0
  obtain ⟨a', c', rfl, hI⟩ := owns_isB hown HL.out
  have HF : Hid (IsB w1 a' len c' l ∧ NewB w1 w.heap.size a' ∧ Below w.heap.size w w1) := hide ⟨hI, fun b off e => by
    subst e
    rcases hown.2 with ⟨e, _⟩ | ⟨g, cap, cur, e, hb, hg, _⟩
    · cases e
    · cases e
      exact ⟨hb, cur, _, hg⟩, hb1⟩
  clear hown0 h hown hI hb1
  go_wp2
  go_ret
  exact ⟨a', c', rfl, HF.out⟩
/-- values that are slices of bytes in memory that is new -/
def ElT (w : World) (base : Nat) (xs : List Value) (L : List (List Nat)) : Prop := xs.length = L.length ∧ ∀ i, i < L.length → ∃ a n c, xs[i]? = some (.slice a n c) ∧ IsB w a n c (L.getD i []) ∧ NewB w base a
theorem ElT.elB {w : World} {base : Nat} {xs : List Value} {L : List (List Nat)} (h : ElT w base xs L) : ElB w xs L := ⟨h.1, fun i hi => by
  obtain ⟨a, n, c, e, hB, _⟩ := h.2 i hi
  exact ⟨a, n, c, e, hB⟩⟩
theorem ElT.below {w w' : World} {base : Nat} {xs : List Value} {L : List (List Nat)} (h : ElT w base xs L) (hb : Below w.heap.size w w') : ElT w' base xs L := ⟨h.1, fun i hi => by
  obtain ⟨a, n, c, e, hB, hf⟩ := h.2 i hi
  exact ⟨a, n, c, e, hB.below hb, hf.below hb⟩⟩
theorem ElT.kept {w w' : World} {base : Nat} {xs : List Value} {L : List (List Nat)} (h : ElT w base xs L) (hs : w.heap.size ≤ w'.heap.size) (hk : ∀ (b : Nat) (cs : Array Value) (f : Nat × Nat), w.heap[b]? = some (Obj.cells cs 5 f) → w'.heap[b]? = w.heap[b]?) : ElT w' base xs L := ⟨h.1, fun i hi => by
  obtain ⟨a, n, c, e, hB, hf⟩ := h.2 i hi
  refine ⟨a, n, c, e, hB.keptN hs (fun b off e2 => ?_), fun b off e2 => ?_⟩
  · obtain ⟨_, cs, f, h2⟩ := hf b off e2
    exact hk b cs f h2
  · obtain ⟨h1, cs, f, h2⟩ := hf b off e2
    exact ⟨h1, cs, f, (hk b cs f h2).trans h2⟩⟩
theorem ElT.grown {w w' : World} {base base' : Nat} {xs ys : List Value} {L : List (List Nat)} {v : Value} {n : Nat} (h : ElT w base xs L) (hg : w.grownBy w' v.ownBlock) (ho : w.ownsRow base' 26 1 v n ys) : ElT w' base xs L := h.kept hg.size (fun b cs f hb => hg.block b (heap_ltN hb) (fun e => by
  rcases ho.2 with ⟨rfl, _⟩ | ⟨g, cap, cur, rfl, _, h2, _⟩
  · cases e
  · have e' : b = g := by simpa [Value.ownBlock] using e
    rw [e', h2] at hb
    cases hb))
theorem ElT.push {w : World} {base : Nat} {xs : List Value} {L : List (List Nat)} {a : Option Addr} {n c : Nat} {l : List Nat} (h : ElT w base xs L) (hB : IsB w a n c l) (hf : NewB w base a) : ElT w base (xs ++ [.slice a n c]) (L ++ [l]) := by
  refine ⟨by simp [h.1], fun i hi => ?_⟩
  rw [List.length_append] at hi
  simp only [List.length_singleton] at hi
  by_cases hl : i < L.length
  · obtain ⟨a', n', c', e, hB', hf'⟩ := h.2 i hl
    refine ⟨a', n', c', by rw [List.getElem?_append_left (by rw [h.1]; exact hl)]; exact e, ?_, hf'⟩
    rwa [List.getD_eq_getElem?_getD, List.getElem?_append_left hl, ← List.getD_eq_getElem?_getD]
  · obtain rfl : i = L.length := by omega
    refine ⟨a, n, c, by rw [List.getElem?_append_right (by rw [h.1]; omega), h.1]; simp, ?_, hf⟩
    rw [List.getD_eq_getElem?_getD, List.getElem?_append_right (by omega)]
    simpa using hB
theorem wpList_push26 {w : World} {ops : Array Oper} {rest : List Oper} {o : Oper} {a : Act} {Q : Exit → Act → World → Prop} (hgd : o.guard = none) (s x : Operand)
    (ho : o.op = .call { callee := .builtin .append, args := #[s, x], argTypes := #[22, 22] }) (base : Nat) (v : Value) (n : Nat) (xs : List Value) (hs : a.eval s = v) (hown : w.ownsRow base 26 1 v n xs)
    (q : Nat) (u : Value) (hx : a.eval x = .slice (some ⟨q, 0, none⟩) 1 1) (hq : w.cell? ⟨q, 0, none⟩ = some u) (h1 : u.oneCell' = true) (hb : n ≤ 2000000) (hbase : base ≤ w.heap.size)
    (h : ∀ v' w', Hid (w'.ownsRow base 26 1 v' (n + 1) (xs ++ [u]) ∧ w.grownBy w' v.ownBlock) → wpList Try.prog ops Q rest (a.put o.dst v') w') : wpList Try.prog ops Q (o :: rest) a w := by
  obtain ⟨i0, hi, hz0, hz1, hz2⟩ := info_partsM info26
  refine wpList_append_own w hgd s x 22 ho base 26 i0 (Value.slice none 0 0) 1 24 Try.underlying22 hi hz0 hz1 hz2 rfl (by decide) v n _ hs hown _ 1 1 [u] hx rfl ?_ (by simpa using h1) (by unfold maxLen; omega) (by omega) hbase ?_
  · intro j y hj
    obtain rfl : j = 0 := by have := (List.getElem?_eq_some_iff.1 hj).1; simpa using this
    simp only [List.getElem?_cons_zero, Option.some.injEq] at hj
    rw [addr_addM, ← hj]
    exact hq
  · intro v' w' ho' hg _
    exact h v' w' (hide ⟨ho', hg⟩)
theorem take_step {L : List (List Nat)} {k : Nat} (h : k < L.length) : L.take (k + 1) = L.take k ++ [L.getD k []] := by
  rw [List.take_add_one, List.getD_eq_getElem?_getD, List.getElem?_eq_getElem h]
  rfl
set_option maxHeartbeats 2000000 in
/-- ladingref06.lists -/
theorem rlists_any (a : Option Addr) (n c : Nat) (L : List (List Nat)) (w : World) (h : IsL w a n c L) (hn : n ≤ 2000000) (hl : ∀ b ∈ L, b.length ≤ 2000000) :
    Calls Try.prog 33 #[.slice a n c] w fun e w' => ∃ v xs, e = .returned v ∧ w'.ownsRow w.heap.size 26 1 v n xs ∧ ElT w' w.heap.size xs L ∧ Below w.heap.size w w' := by
  have HG := hide h
  have HL := hide hl
  have HLN : Hid (L.length = n) := hide h.1
  clear h hl
  go_enter Try.func33, Try.ntmps33
  go_wp2
  go_loopw [3, 8] (fun nv i W => ∃ (k : Nat) (xs : List Value), k ≤ n ∧ i = .int .i64 (k : Nat) ∧ Hid (W.ownsRow w.heap.size 26 1 nv k xs ∧ ElT W w.heap.size xs (L.take k) ∧ Below w.heap.size w W)) (fun _ i _ => n - (intOf i).toNat)
  case atStart => exact ⟨0, [], Nat.zero_le _, rfl, hide ⟨World.ownsRow_nil _ _ _ _, ⟨rfl, fun i hi => by simp at hi⟩, Below.refl _ _⟩⟩
  case round =>
    obtain ⟨k, xs, hk, rfl, HI⟩ := hrel
    by_cases hlt : k < n
    · have hkI : (k : Int) < (n : Int) := by omega
      have hk0 : (0 : Int) ≤ (k : Int) := by omega
      have hwk : IntKind.i64.wrap ((k : Int) + 1) = (k : Int) + 1 := wrapN (by omega) (by omega)
      obtain ⟨b1, o1, a1, n1, c1, rfl, hb1, z1, hB1⟩ := (HG.out.below HI.out.2.2).2.2.2.2 k hlt
      have HB1 := hide hB1
      have HC := hide (rbytes_any a1 n1 c1 _ wr hB1 (by rw [← hB1.1]; have := HL.out _ (getD_mem (show k < L.length by rw [HLN.out]; exact hlt)); omega))
      clear hB1
      go_wp2_with fail
      refine HC.out.mono ?_
      rintro e w2 ⟨a2, c2, rfl, hB2, hN2, hb2⟩
      have HX : Hid (w2.ownsRow w.heap.size 26 1 u3 k xs ∧ ElT w2 w.heap.size xs (L.take k) ∧ Below w.heap.size w w2) := hide ⟨own_below HI.out.1 hb2, HI.out.2.1.below hb2, HI.out.2.2.trans (hb2.mono HI.out.2.2.size)⟩
      have HE : Hid (IsB w2 a2 n1 c2 (L.getD k []) ∧ NewB w2 w.heap.size a2) := hide ⟨hB2, fun b off e => ⟨Nat.le_trans HI.out.2.2.size (hN2 b off e).1, (hN2 b off e).2⟩⟩
      have HBA : Hid (Below w2.heap.size w2 (w2.alloc (.cells #[.slice a2 n1 c2] 26))) := hide ((Below.refl _ _).alloc (Nat.le_refl _) _)
      have HO := hide (own_below HX.out.1 HBA.out)
      have HQ : Hid ((w2.alloc (.cells #[.slice a2 n1 c2] 26)).cell? ⟨w2.heap.size, 0, none⟩ = some (.slice a2 n1 c2)) := hide (cell_blkN (heap_alloc_new _ _) rfl)
      clear hB2 hN2 hb2 HC z1
      go_wp2_with (at_builtin; refine wpList_push26 rfl _ _ rfl w.heap.size u3 k xs rfl HO.out w2.heap.size (.slice a2 n1 c2) rfl HQ.out rfl (by omega) (Nat.le_trans HX.out.2.2.size HBA.out.size) ?_; intro v' w' HN)
      have HR : Hid (w'.ownsRow w.heap.size 26 1 v' (k + 1) (xs ++ [.slice a2 n1 c2]) ∧ ElT w' w.heap.size (xs ++ [.slice a2 n1 c2]) (L.take (k + 1)) ∧ Below w.heap.size w w') := hide (by
        have hbb := HX.out.2.2.trans (HBA.out.mono HX.out.2.2.size)
        refine ⟨HN.out.1, ?_, hbb.grown HN.out.2 hbb.size (fun g hg => (HO.out.lt g hg).1)⟩
        rw [take_step (by rw [HLN.out]; exact hlt)]
        exact (((HX.out.2.1.below HBA.out).push (HE.out.1.below HBA.out) (HE.out.2.below HBA.out))).grown HN.out.2 HO.out)
      clear HN HX HE HBA HO HQ
      go_wp2
      go_roundw
      case rel => exact ⟨k + 1, _, by omega, by simp, HR⟩
      case measure => simp [intOf]; omega
    · obtain rfl : n = k := by omega
      have hkk : ¬ (n : Int) < (n : Int) := by omega
      have HF : Hid (wr.ownsRow w.heap.size 26 1 u3 n xs ∧ ElT wr w.heap.size xs L ∧ Below w.heap.size w wr) := hide ⟨HI.out.1, by have h1 := HI.out.2.1; rw [List.take_of_length_le (by rw [HLN.out]; exact Nat.le_refl _)] at h1; exact h1, HI.out.2.2⟩
      go_wp2
      go_ret
      first | exact ⟨_, rfl, xs, HF.out⟩ | exact ⟨_, xs, rfl, HF.out⟩
end Go.Proofs.Ytebikoekpbnpbaa
