/- pairs in memory; rows that grow in a loop over an iterator -/
import Derived.Test.YtlkmcbelmldleaaGreatVK
namespace Go.Proofs.YtlkmcbelmldleaaGreat
open Go.RowKit Go.Shelf
set_option maxRecDepth 40000
/-- a pair -/
structure Pr where
  key : ByteArray
  val : ByteArray
def Pr0 : Pr := ⟨⟨#[]⟩, ⟨#[]⟩⟩
abbrev prc (x : Pr) : List Value := [.string x.key, .string x.val]
abbrev vrc (x : Vr) : List Value := [.string x.key, .int .u64 (x.at_ : Nat), .string x.val, .bool x.gone]
/-- pairs in memory -/
def IsP (w : World) (a : Option Addr) (len cap : Nat) (l : List Pr) : Prop :=
  l.length = len ∧ len ≤ cap ∧ cap ≤ maxLen ∧ ∀ i, i < len → ∃ b off, a = some ⟨b, off, none⟩ ∧ b < w.heap.size ∧ w.cell? ⟨b, off + i * 2, none⟩ = some (.string (l.getD i Pr0).key) ∧ w.cell? ⟨b, off + i * 2 + 1, none⟩ = some (.string (l.getD i Pr0).val)
theorem IsP.below {w w' : World} {a : Option Addr} {len cap : Nat} {l : List Pr} (h : IsP w a len cap l) (hb : Below w.heap.size w w') : IsP w' a len cap l := by
  refine ⟨h.1, h.2.1, h.2.2.1, fun i hi => ?_⟩
  obtain ⟨b, off, e, hlt, h0, h1⟩ := h.2.2.2 i hi
  have k : ∀ j, w'.cell? ⟨b, j, none⟩ = w.cell? ⟨b, j, none⟩ := fun j => World.cell?_of_block (hb.block b hlt)
  exact ⟨b, off, e, Nat.lt_of_lt_of_le hlt hb.size, (k _).trans h0, (k _).trans h1⟩
theorem flat_at {α : Type} (enc : α → List Value) (d : α) (k : Nat) (hk : ∀ x, (enc x).length = k) : ∀ (l : List α) (i j : Nat), i < l.length → j < k → (l.flatMap enc)[i * k + j]? = (enc (l.getD i d))[j]? := by
  intro l
  induction l with
  | nil => intro i j hi; simp at hi
  | cons x r ih =>
    intro i j hi hj
    cases i with
    | zero => rw [List.flatMap_cons, List.getElem?_append_left (by rw [hk]; omega)]; simp
    | succ i =>
      rw [List.flatMap_cons, List.getElem?_append_right (by rw [hk, Nat.succ_mul]; omega), hk, show (i + 1) * k + j - k = i * k + j by rw [Nat.succ_mul]; omega, ih i j (by simpa using hi) hj]
      simp
theorem own_cells {α : Type} (enc : α → List Value) (d : α) (k : Nat) (hk : ∀ x, (enc x).length = k) {w : World} {g cap n e : Nat} {cur : Array Value} {l : List α} (hl : l.length = n) (hg : w.heap[g]? = some (.cells cur e (0, 0))) (_hs : cur.size = cap * k) (ht : cur.toList.take (n * k) = l.flatMap enc) (i j : Nat) (hi : i < n) (hj : j < k) :
    w.cell? ⟨g, 0 + i * k + j, none⟩ = (enc (l.getD i d))[j]? := by
  rw [← flat_at enc d k hk l i j (by omega) hj, ← ht, List.getElem?_take, if_pos (by
    have : (i + 1) * k ≤ n * k := Nat.mul_le_mul_right k hi
    rw [Nat.succ_mul] at this
    omega), Nat.zero_add]
  simp [World.cell?, hg]
theorem own_isP {w : World} {base : Nat} {v : Value} {n : Nat} {l : List Pr} (hl : l.length = n) (h : w.ownsRow base 62 2 v n (l.flatMap prc)) : ∃ a cap, v = .slice a n cap ∧ IsP w a n cap l ∧ ∀ b off, a = some ⟨b, off, none⟩ → base ≤ b := by
  rcases h.2 with ⟨rfl, rfl⟩ | ⟨g, cap, cur, rfl, hb, hg, hn, hm, hs, ht⟩
  · exact ⟨none, 0, rfl, ⟨hl, Nat.le_refl _, Nat.zero_le _, fun i hi => by omega⟩, by intro b off h; cases h⟩
  · refine ⟨_, cap, rfl, ⟨hl, hn, hm, fun i hi => ⟨g, 0, rfl, heap_lt hg, ?_, ?_⟩⟩, by intro b off h; cases h; exact hb⟩
    · exact own_cells prc Pr0 2 (fun _ => rfl) hl hg hs ht i 0 hi (by omega)
    · exact own_cells prc Pr0 2 (fun _ => rfl) hl hg hs ht i 1 hi (by omega)
theorem own_isV {w : World} {base : Nat} {v : Value} {n : Nat} {l : List Vr} (hl : l.length = n) (h : w.ownsRow base 66 4 v n (l.flatMap vrc)) : ∃ a cap, v = .slice a n cap ∧ IsV w a n cap l ∧ ∀ b off, a = some ⟨b, off, none⟩ → base ≤ b := by
  rcases h.2 with ⟨rfl, rfl⟩ | ⟨g, cap, cur, rfl, hb, hg, hn, hm, hs, ht⟩
  · exact ⟨none, 0, rfl, ⟨hl, Nat.le_refl _, Nat.zero_le _, fun i hi => by omega⟩, by intro b off h; cases h⟩
  · refine ⟨_, cap, rfl, ⟨hl, hn, hm, fun i hi => ⟨g, 0, rfl, heap_lt hg, ?_, ?_, ?_, ?_⟩⟩, by intro b off h; cases h; exact hb⟩
    · exact own_cells vrc Vr0 4 (fun _ => rfl) hl hg hs ht i 0 hi (by omega)
    · exact own_cells vrc Vr0 4 (fun _ => rfl) hl hg hs ht i 1 hi (by omega)
    · exact own_cells vrc Vr0 4 (fun _ => rfl) hl hg hs ht i 2 hi (by omega)
    · exact own_cells vrc Vr0 4 (fun _ => rfl) hl hg hs ht i 3 hi (by omega)
theorem own_form {w : World} {base e size n : Nat} {v : Value} {xs : List Value} (h : w.ownsRow base e size v n xs) : ∃ a c, v = .slice a n c := by
  rcases h.2 with ⟨rfl, rfl⟩ | ⟨g, cap, cur, rfl, _⟩
  · exact ⟨none, 0, rfl⟩
  · exact ⟨_, _, rfl⟩
theorem info54 : (Tryz.prog.info? 62).map (fun i => (i.zero, i.size, i.bytes)) = some (some (.agg #[.string ⟨#[]⟩, .string ⟨#[]⟩]), 2, 32) := by kernel_rfl
theorem info51 : (Tryz.prog.info? 66).map (fun i => (i.zero, i.size, i.bytes)) = some (some (.agg #[.string ⟨#[]⟩, .int .u64 0, .string ⟨#[]⟩, .bool false]), 4, 48) := by kernel_rfl
theorem prc_news {w : World} {b : Nat} (x : Pr) (h : w.heap[b]? = some (.cells #[.string x.key, .string x.val] 62 (0, 0))) : ∀ j u, (prc x)[j]? = some u → w.cell? ((⟨b, 0, none⟩ : Addr).add j) = some u := by
  intro j u hj
  rw [Addr.add_lit, Nat.zero_add]
  refine cell_blk h ?_
  simpa using hj
theorem prc_one (x : Pr) : ∀ u ∈ prc x, u.oneCell' = true := by
  intro u hu
  simp only [List.mem_cons, List.not_mem_nil, or_false] at hu
  rcases hu with rfl | rfl <;> rfl
theorem ownBlock_ge {W : World} {n e size k : Nat} {v : Value} {xs : List Value} (h : W.ownsRow n e size v k xs) {j : Nat} (hj : v.ownBlock = some j) : n ≤ j := (h.lt j hj).1
theorem row_mono {w : World} {base base' : Nat} {e : TypeId} {size : Nat} {v : Value} {n : Nat} {xs : List Value} (h : w.ownsRow base e size v n xs) (hb : base' ≤ base) : w.ownsRow base' e size v n xs :=
  ⟨h.1, h.2.imp id (fun ⟨g, cap, cur, h1, h2, h3⟩ => ⟨g, cap, cur, h1, Nat.le_trans hb h2, h3⟩)⟩
/-- 'out = append(out, ..)' where the row lies beyond all boxes -/
theorem appended {W w1 : World} {n₁ F : Nat} {t e : TypeId} {size : Nat} {v v' : Value} {k m : Nat} {xs ys : List Value} {tmp : Obj} (hv : Boxed W F t v) (hte : t ≠ e) (hF : F < n₁) (hrow : W.ownsRow n₁ e size v k xs) (hn : n₁ ≤ W.heap.size)
    (hown' : w1.ownsRow n₁ e size v' m ys) (hgrow : (W.alloc tmp).grownBy w1 v.ownBlock) :
    Boxed w1 F t v ∧ Boxed (w1.setCell ⟨F, 0, none⟩ v') F t v' ∧ (w1.setCell ⟨F, 0, none⟩ v').ownsRow n₁ e size v' m ys ∧ KeepsOthers W (w1.setCell ⟨F, 0, none⟩ v') ∧ Below F W (w1.setCell ⟨F, 0, none⟩ v') ∧ Kp (fun b => decide (b = F)) n₁ W (w1.setCell ⟨F, 0, none⟩ v') := by
  obtain ⟨h1, h2, h3, h4, h5⟩ := hv.appended hte (row_mono hrow (Nat.le_of_lt hF)) (by omega) (Nat.le_refl F) (row_mono hown' (Nat.le_of_lt hF)) hgrow
  refine ⟨h1, h2, ?_, h4, h5, ⟨h4.size, fun b hb hx => ?_⟩⟩
  · exact ownsRow_setCell_below hown' hF _
  · have hne : b ≠ F := by simpa using hx
    rw [Below.heap_setCell _ _ _ _ hne, hgrow.block b (by simp; omega) (fun e => by have := ownBlock_ge hrow e.symm; omega)]
    exact heap_alloc_old W tmp b (by omega)
/-- what Scan finds among groups -/
def scanG (t : Nat) (G : List (Nat × List Vr)) : List Pr := G.filterMap (fun g => if (seenR (lastTo g.2 t)).2 = true then some ⟨(hd g).key, (seenR (lastTo g.2 t)).1⟩ else none)
theorem scanG_len (t : Nat) (G : List (Nat × List Vr)) : (scanG t G).length ≤ G.length := List.length_filterMap_le _ _
theorem scanG_snoc (t : Nat) (G : List (Nat × List Vr)) (k : Nat) (x : Nat × List Vr) (h : G[k]? = some x) : scanG t (G.take (k + 1)) = scanG t (G.take k) ++ (if (seenR (lastTo x.2 t)).2 = true then [⟨(hd x).key, (seenR (lastTo x.2 t)).1⟩] else []) := by
  rw [List.take_add_one, h]
  unfold scanG
  rw [List.filterMap_append]
  congr 1
  simp only [Option.toList_some, List.filterMap_cons, List.filterMap_nil]
  split <;> rename_i hh <;> split at hh <;> simp_all
/-- what Scan answers -/
def scanR (low : Nat) (l : List Vr) (fr to : ByteArray) (t : Nat) : List Pr × Int := if askE low l t = 0 then (scanG t ((gpsOf 0 l).filter (fun g => inSpan fr to (hd g).key)), 0) else ([], askE low l t)
theorem gps_len : ∀ (f s : Nat) (l : List Vr), l.length ≤ f → (gpsOf s l).length ≤ l.length := by
  intro f
  induction f with
  | zero => intro s l h; rw [List.eq_nil_of_length_eq_zero (Nat.le_zero.1 h)]; exact Nat.le_refl _
  | succ f ih =>
    intro s l h
    cases l with
    | nil => exact Nat.le_refl _
    | cons x r =>
      rw [gpsOf_cons]
      have := dropWhile_len (sameK x.key) r
      have h2 := ih (s + 1 + (r.takeWhile (sameK x.key)).length) (r.dropWhile (sameK x.key)) (by simp at h; omega)
      simp only [List.length_cons]
      omega
end Go.Proofs.YtlkmcbelmldleaaGreat
