/- what a page's text reads as (pure) -/
import Derived.Test.YtebikoekpbnpbaaFA
namespace Go.Proofs.Ytebikoekpbnpbaa
open Go.RowKit Cod
set_option maxRecDepth 100000
set_option linter.unusedVariables false
set_option linter.unusedSimpArgs false
def restL (q : Pg) (k : Nat) : List Nat := ((List.range (q.keys.length - k)).map (fun j => tx (q.keys.getD (k + j) []) ++ tx (q.vals.getD (k + j) []))).flatten
def restI (q : Pg) (k : Nat) : List Nat := ((List.range (q.keys.length - k)).map (fun j => tx (q.keys.getD (k + j) []) ++ num (q.kids.getD (k + j + 1) 0).toNat)).flatten
theorem restL_step {q : Pg} {k : Nat} (h : k < q.keys.length) : restL q k = tx (q.keys.getD k []) ++ (tx (q.vals.getD k []) ++ restL q (k + 1)) := by
  unfold restL
  rw [show q.keys.length - k = (q.keys.length - (k + 1)) + 1 by omega, List.range_succ_eq_map]
  simp only [List.map_cons, List.map_map, List.flatten_cons, Nat.add_zero, List.append_assoc]
  congr 4
  funext j
  simp only [Function.comp_apply]
  rw [show k + j.succ = k + 1 + j by omega]
theorem restI_step {q : Pg} {k : Nat} (h : k < q.keys.length) : restI q k = tx (q.keys.getD k []) ++ (num (q.kids.getD (k + 1) 0).toNat ++ restI q (k + 1)) := by
  unfold restI
  rw [show q.keys.length - k = (q.keys.length - (k + 1)) + 1 by omega, List.range_succ_eq_map]
  simp only [List.map_cons, List.map_map, List.flatten_cons, Nat.add_zero, List.append_assoc]
  congr 4
  funext j
  simp only [Function.comp_apply]
  rw [show k + j.succ = k + 1 + j by omega]
theorem ltx_rest (q : Pg) : ltx q q.keys.length = 1 :: (num q.keys.length ++ restL q 0) := by
  unfold ltx restL
  simp
theorem itx_rest (q : Pg) : itx q q.keys.length = 2 :: (num q.keys.length ++ (num (q.kids.getD 0 0).toNat ++ restI q 0)) := by
  unfold itx restI
  simp
theorem rdText_tx {s r : List Nat} (h : s.length ≤ 1024) : rdText 1024 (tx s ++ r) = .ok (s, r) := rdText_text h (by omega) r
theorem textS_tx {s r s' R' : List Nat} {bad bad' : Bool} (h : s.length ≤ 1024) (hs : textS (tx s ++ r) bad s' R' bad') : s' = s ∧ R' = r ∧ bad' = bad := by
  rcases hs with ⟨h1, h2⟩ | ⟨⟨k, h1⟩, _⟩
  · rw [rdText_tx h] at h1
    cases h1
    exact ⟨rfl, rfl, h2⟩
  · rw [rdText_tx h] at h1
    cases h1
theorem numS_num {n m : Nat} {r R' : List Nat} {bad bad' : Bool} (h : n < 18446744073709551616) (hs : numS (num n ++ r) bad m R' bad') : m = n ∧ R' = r ∧ bad' = bad := by
  rcases hs with ⟨h1, h2⟩ | ⟨h1, _⟩
  · rw [rdNum_num h] at h1
    cases h1
    exact ⟨rfl, rfl, h2⟩
  · rw [rdNum_num h] at h1
    cases h1
theorem textS_less {R s R' : List Nat} {bad bad' : Bool} (hx : ∀ x ∈ R, x < 256) (h : textS R bad s R' bad') : (bad' = false → bad = false ∧ R'.length + 1 ≤ R.length) ∧ (bad' = true → bad = true ∨ R' = []) := by
  rcases h with ⟨h1, rfl⟩ | ⟨_, _, rfl, rfl⟩
  · refine ⟨fun e => ⟨e, ?_⟩, fun e => .inl e⟩
    obtain ⟨e1, _⟩ := rdText_ok hx h1
    have h2 : 1 ≤ (num s.length).length := nLen_pos s.length
    rw [e1]
    simp only [text, List.length_append]
    omega
  · exact ⟨fun e => (by cases e), fun _ => .inr rfl⟩
theorem numS_less {R R' : List Nat} {n : Nat} {bad bad' : Bool} (hx : ∀ x ∈ R, x < 256) (h : numS R bad n R' bad') : (bad' = false → bad = false ∧ R'.length + 1 ≤ R.length) ∧ (bad' = true → bad = true ∨ R' = []) := by
  rcases h with ⟨h1, rfl⟩ | ⟨_, _, rfl, rfl⟩
  · refine ⟨fun e => ⟨e, ?_⟩, fun e => .inl e⟩
    obtain ⟨e1, _⟩ := rdNum_some hx h1
    have h2 : 1 ≤ (num n).length := nLen_pos n
    rw [e1]
    simp only [List.length_append]
    omega
  · exact ⟨fun e => (by cases e), fun _ => .inr rfl⟩
/-- how far a loop over entries is -/
structure Cnt (R0 : Nat) (k : Nat) (R : List Nat) (bad : Bool) : Prop where
  good : bad = false → k + R.length ≤ R0
  most : k ≤ R0 + 1
/-- the measure -/
def rdM (R : List Nat) (bad : Bool) : Nat := R.length + (if bad = true then 0 else 1)
theorem cnt_step {R0 k : Nat} {R R1 R2 : List Nat} {b1 b2 : Bool} (h : Cnt R0 k R false) (h1 : (b1 = false → false = false ∧ R1.length + 1 ≤ R.length) ∧ (b1 = true → false = true ∨ R1 = [])) (h2 : (b2 = false → b1 = false ∧ R2.length + 1 ≤ R1.length) ∧ (b2 = true → b1 = true ∨ R2 = [])) (hlen : R2.length ≤ R1.length) : Cnt R0 (k + 1) R2 b2 ∧ rdM R2 b2 < rdM R false := by
  have hg := h.good rfl
  cases b2 with
  | false =>
    obtain ⟨e1, l2⟩ := h2.1 rfl
    obtain ⟨_, l1⟩ := h1.1 e1
    exact ⟨⟨fun _ => by omega, by omega⟩, by simp [rdM]; omega⟩
  | true =>
    refine ⟨⟨nofun, by omega⟩, ?_⟩
    rcases h2.2 rfl with e1 | e2
    · rcases h1.2 e1 with e | e
      · cases e
      · have : R1.length = 0 := by rw [e]; rfl
        simp [rdM]; omega
    · simp [rdM, e2]
theorem textS_len {R s R' : List Nat} {bad bad' : Bool} (hx : ∀ x ∈ R, x < 256) (h : textS R bad s R' bad') : R'.length ≤ R.length := by
  rcases h with ⟨h1, _⟩ | ⟨_, _, rfl, _⟩
  · obtain ⟨e1, _⟩ := rdText_ok hx h1
    rw [e1, List.length_append]
    omega
  · simp
theorem numS_len {R R' : List Nat} {n : Nat} {bad bad' : Bool} (hx : ∀ x ∈ R, x < 256) (h : numS R bad n R' bad') : R'.length ≤ R.length := by
  rcases h with ⟨h1, _⟩ | ⟨_, _, rfl, _⟩
  · obtain ⟨e1, _⟩ := rdNum_some hx h1
    rw [e1, List.length_append]
    omega
  · simp
/-- what a loop over a leaf's entries has, if they are those of a right page -/
def LeafAt (cnt : Nat) (R0 : List Nat) (k : Nat) (keys vals : List (List Nat)) (R : List Nat) (bad : Bool) : Prop :=
  ∀ q pad, checkE q = 0 → q.leaf = true → q.keys.length = cnt → R0 = restL q 0 ++ pad → k ≤ cnt ∧ bad = false ∧ keys = q.keys.take k ∧ vals = q.vals.take k ∧ R = restL q k ++ pad
def InnerAt (cnt : Nat) (R0 : List Nat) (k : Nat) (keys : List (List Nat)) (kids : List Int) (R : List Nat) (bad : Bool) : Prop :=
  ∀ q pad, checkE q = 0 → q.leaf = false → q.keys.length = cnt → R0 = num (q.kids.getD 0 0).toNat ++ (restI q 0 ++ pad) → k ≤ cnt ∧ bad = false ∧ keys = q.keys.take k ∧ kids = q.kids.take (k + 1) ∧ R = restI q k ++ pad
theorem leaf_vals {q : Pg} (h : checkE q = 0) (hl : q.leaf = true) : q.vals.length = q.keys.length ∧ q.kids = [] := by
  have := leaf_eq (leaf_of h hl)
  exact ⟨this.2, by rw [this.1]⟩
theorem leafAt_0 (cnt : Nat) (R0 : List Nat) : LeafAt cnt R0 0 [] [] R0 false := fun q pad _ _ _ e => ⟨Nat.zero_le _, rfl, rfl, rfl, e⟩
theorem leafAt_step {cnt k : Nat} {R0 R R1 R2 s1 s2 : List Nat} {keys vals : List (List Nat)} {b1 b2 : Bool} (h : LeafAt cnt R0 k keys vals R false) (hk : k < cnt) (h1 : textS R false s1 R1 b1) (h2 : textS R1 b1 s2 R2 b2) : LeafAt cnt R0 (k + 1) (keys ++ [s1]) (vals ++ [s2]) R2 b2 := by
  intro q pad hq hl hc he
  obtain ⟨_, _, ek, ev, eR⟩ := h q pad hq hl hc he
  have hkl : k < q.keys.length := by omega
  have hvl : k < q.vals.length := by rw [(leaf_vals hq hl).1]; exact hkl
  have hks := kind_short (check_kind hq)
  rw [eR, restL_step hkl] at h1
  rw [List.append_assoc, List.append_assoc] at h1
  obtain ⟨rfl, rfl, rfl⟩ := textS_tx (hks.1 _ (getD_mem hkl)) h1
  obtain ⟨rfl, rfl, rfl⟩ := textS_tx (hks.2.1 _ (getD_mem hvl)) h2
  exact ⟨by omega, rfl, by rw [take_step hkl, ek], by rw [take_step hvl, ev], rfl⟩
theorem leafAt_end {cnt k : Nat} {R0 R : List Nat} {keys vals : List (List Nat)} {bad : Bool} (h : LeafAt cnt R0 k keys vals R bad) (hk : bad = true ∨ ¬ k < cnt) {q : Pg} {pad : List Nat} (hq : checkE q = 0) (hl : q.leaf = true) (hc : q.keys.length = cnt) (he : R0 = restL q 0 ++ pad) : keys = q.keys ∧ vals = q.vals ∧ bad = false := by
  obtain ⟨h1, h2, h3, h4, _⟩ := h q pad hq hl hc he
  rcases hk with e | e
  · rw [h2] at e; cases e
  · have hkc : k = q.keys.length := by omega
    rw [h3, h4, hkc]
    exact ⟨List.take_length, by rw [← (leaf_vals hq hl).1]; exact List.take_length, h2⟩
theorem inner_kid {q : Pg} (h : checkE q = 0) (hl : q.leaf = false) {i : Nat} (hi : i < q.kids.length) : q.kids.getD i 0 = (((q.kids.getD i 0).toNat : Nat) : Int) ∧ (q.kids.getD i 0).toNat < 1024 := by
  have := (inner_lens h hl).2.2.2.2 _ (getD_mem0 hi)
  omega
theorem take_stepI {L : List Int} {k : Nat} (h : k < L.length) : L.take (k + 1) = L.take k ++ [L.getD k 0] := by
  rw [List.take_add_one, List.getD_eq_getElem?_getD, List.getElem?_eq_getElem h]
  rfl
theorem wrap_kid {n : Nat} (h : n < 1024) : IntKind.i64.wrap ((n : Nat) : Int) = (n : Int) := wrapN (by omega) (by omega)
theorem innerAt_0 {cnt n : Nat} {R0 R : List Nat} {bad bad' : Bool} (hb : bad = false) (h : numS R0 bad n R bad') : InnerAt cnt R0 0 [] [IntKind.i64.wrap (n : Int)] R bad' := by
  intro q pad hq hl hc he
  obtain ⟨g1, g2, _⟩ := inner_lens hq hl
  rw [he] at h
  obtain ⟨e1, e2⟩ := inner_kid hq hl (i := 0) (by omega)
  obtain ⟨rfl, rfl, rfl⟩ := numS_num (by omega) h
  refine ⟨Nat.zero_le _, hb, rfl, ?_, rfl⟩
  rw [take_stepI (by omega), wrap_kid e2, ← e1]
  rfl
theorem innerAt_step {cnt k n : Nat} {R0 R R1 R2 s1 : List Nat} {keys : List (List Nat)} {kids : List Int} {b1 b2 : Bool} (h : InnerAt cnt R0 k keys kids R false) (hk : k < cnt) (h1 : textS R false s1 R1 b1) (h2 : numS R1 b1 n R2 b2) : InnerAt cnt R0 (k + 1) (keys ++ [s1]) (kids ++ [IntKind.i64.wrap (n : Int)]) R2 b2 := by
  intro q pad hq hl hc he
  obtain ⟨_, _, ek, ev, eR⟩ := h q pad hq hl hc he
  have hkl : k < q.keys.length := by omega
  obtain ⟨g1, g2, _⟩ := inner_lens hq hl
  have hil : k + 1 < q.kids.length := by omega
  have hks := kind_short (check_kind hq)
  rw [eR, restI_step hkl] at h1
  rw [List.append_assoc, List.append_assoc] at h1
  obtain ⟨rfl, rfl, rfl⟩ := textS_tx (hks.1 _ (getD_mem hkl)) h1
  obtain ⟨e1, e2⟩ := inner_kid hq hl hil
  obtain ⟨rfl, rfl, rfl⟩ := numS_num (by omega) h2
  refine ⟨by omega, rfl, by rw [take_step hkl, ek], ?_, rfl⟩
  rw [take_stepI hil, ev, wrap_kid e2, ← e1]
theorem innerAt_end {cnt k : Nat} {R0 R : List Nat} {keys : List (List Nat)} {kids : List Int} {bad : Bool} (h : InnerAt cnt R0 k keys kids R bad) (hk : bad = true ∨ ¬ k < cnt) {q : Pg} {pad : List Nat} (hq : checkE q = 0) (hl : q.leaf = false) (hc : q.keys.length = cnt) (he : R0 = num (q.kids.getD 0 0).toNat ++ (restI q 0 ++ pad)) : keys = q.keys ∧ kids = q.kids ∧ bad = false := by
  obtain ⟨h1, h2, h3, h4, _⟩ := h q pad hq hl hc he
  obtain ⟨g1, g2, _⟩ := inner_lens hq hl
  rcases hk with e | e
  · rw [h2] at e; cases e
  · have hkc : k = q.keys.length := by omega
    rw [h3, h4, hkc]
    exact ⟨List.take_length, by rw [← g2]; exact List.take_length, h2⟩
end Go.Proofs.Ytebikoekpbnpbaa
