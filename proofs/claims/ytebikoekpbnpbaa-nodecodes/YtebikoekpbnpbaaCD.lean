/- CD NA -/
import Derived.Test.YtebikoekpbnpbaaCC
import Derived.Test.YtebikoekpbnpbaaCMath
import Derived.Maps.AppendAt
import Derived.Laws.OwnMore
/- contracts: ReadNum, ReadInt, ReadText -/
namespace Go.Proofs.Ytebikoekpbnpbaa
open Go.RowKit Cod
set_option maxRecDepth 40000
theorem Row.kept {w w' : World} {q len cap : Nat} {m : List Nat} {r : Option Nat} (h : Row w q len cap m) (hg : w.grownBy w' r) (hne : some q ≠ r) : Row w' q len cap m := by
  have hlt := h.lt
  obtain ⟨h1, h2, h3, cur, h4, h5, h6⟩ := h
  exact ⟨h1, h2, h3, cur, by rw [hg.block q hlt hne]; exact h4, h5, h6⟩
theorem mem_drop {l : List Nat} {k : Nat} (hx : ∀ x ∈ l, x < 256) : ∀ x ∈ l.drop k, x < 256 := fun x h => hx x (List.mem_of_mem_drop h)
/-- a fresh cursor over an argument -/
theorem Cur.new {w : World} {a : Option Addr} {len cap : Nat} {l : List Nat} (h : IsB w a len cap l) : Cur (w.alloc (.cells #[.slice a len cap, .int .i64 0] 109)) w.heap.size a len cap l 0 := by
  have hn := heap_alloc_new w (.cells #[.slice a len cap, .int .i64 0] 109)
  refine ⟨?_, ?_, ?_, h.below ((Below.refl _ _).alloc (Nat.le_refl _) _), ?_, Nat.zero_le _⟩
  · rw [World.cell?_alloc_new]; rfl
  · rw [World.cell?_alloc_new]; rfl
  · unfold World.frozen?; rw [hn]; rfl
  · intro b off hb hlen
    rcases h.2.2.2.2 with ⟨h0, _⟩ | ⟨b', off', hb', hlt, _⟩
    · omega
    · rw [hb] at hb'; cases hb'; omega
theorem below_of_grown {w w' : World} {o : Obj} (hg : (w.alloc o).grownBy w' (some w.heap.size)) : Below w.heap.size w w' :=
  ⟨hg.os, hg.tape, hg.output, by have := hg.size; simp at this; omega, fun k hk => (hg.block k (by simp; omega) (by simp; omega)).trans (Below.heap_alloc _ _ _ hk)⟩
/-- codec.ReadNum -/
theorem readNum_any (a : Option Addr) (len cap : Nat) (l : List Nat) (w : World) (h : IsB w a len cap l) (hr : len ≤ 140737488355328) :
    Calls Try.prog 92 #[.slice a len cap] w fun e w' =>
      ((∃ n p' q, rdNum l = some (n, l.drop p') ∧ n < 18446744073709551616 ∧ p' ≤ len ∧ e = .returned (.tuple #[.int .u64 (n : Nat), .slice (some ⟨q, 0, none⟩) (len - p') (len - p'), .int .i64 0]) ∧ w.heap.size ≤ q ∧ Row w' q (len - p') (len - p') (l.drop p')) ∨
       (rdNum l = none ∧ e = .returned (.tuple #[.int .u64 0, .slice none 0 0, .int .i64 6]))) ∧ Below w.heap.size w w' := by
  have hc := curNum_any _ _ _ _ _ _ _ (Cur.new h)
  rw [List.drop_zero] at hc
  have hc := hide hc
  go_enter Try.func92, Try.ntmps92
  go_wp2_with fail
  refine hc.out.mono ?_
  rintro e w2 ⟨(⟨n, p', hn, hn2, hp, rfl, hcur⟩ | ⟨hn, n, p', rfl, hcur⟩), hg⟩
  · have HN := hide hn
    clear hn
    go_wp2_with fail
    refine (rest_any w2 _ a len cap l p' hcur hr).mono ?_
    rintro e w3 ⟨q, rfl, hq, hrow, hg3⟩
    go_wp2
    go_ret3
    exact ⟨.inl ⟨n, p', q, HN.out, hn2, hp, rfl, by have := hg.size; simp at this; omega, hrow⟩, below_of_grown (grown_trans hg hg3)⟩
  · have HN := hide hn
    clear hn
    go_wp2
    go_ret3
    exact ⟨.inr ⟨HN.out, rfl⟩, below_of_grown hg⟩
/-- a number read as a whole one -/
def zag (n : Nat) : Int := if n % 2 = 1 then -1 - (n / 2 : Nat) else (n / 2 : Nat)
set_option maxHeartbeats 400000 in
/-- the cursor's text -/
theorem curText_any (most : Nat) (hm : most ≤ 1024) (w : World) (g : Nat) (a : Option Addr) (len cap : Nat) (l : List Nat) (p : Nat) (h : Cur w g a len cap l p) :
    Calls Try.prog 108 #[.pointer (some ⟨g, 0, none⟩), .int .u64 most] w fun e w' =>
      ((∃ s p' q, rdText most (l.drop p) = .ok (s, l.drop p') ∧ p' ≤ len ∧ s.length ≤ 1024 ∧ (∀ x ∈ s, x < 256) ∧ e = .returned (.tuple #[.slice (some ⟨q, 0, none⟩) s.length s.length, .int .i64 0]) ∧ w.heap.size ≤ q ∧ Row w' q s.length s.length s ∧ Cur w' g a len cap l p') ∨
       (∃ k p' : Nat, rdText most (l.drop p) = .error k ∧ k ≠ 0 ∧ k < 16 ∧ e = .returned (.tuple #[.slice none 0 0, .int .i64 k]) ∧ Cur w' g a len cap l p')) ∧ w.grownBy w' (some g) := by
  have hlen := h.isb.1
  have hxs := h.isb.2.2.2.1
  go_enter Try.func108, Try.ntmps108
  go_wp2_with fail
  refine (curNum_any w g a len cap l p h).mono ?_
  rintro e w2 ⟨(⟨n, p', hn, hn2, hp, rfl, hcur⟩ | ⟨hn, n, p', rfl, hcur⟩), hg⟩
  case inr =>
    have HN : Hid (rdText most (l.drop p) = .error 6) := hide (by unfold rdText; rw [hn])
    clear hn
    go_wp2
    go_ret2
    exact ⟨.inr ⟨6, p', HN.out, by decide, by decide, rfl, hcur⟩, hg⟩
  by_cases hmost : most < n
  · have HN : Hid (rdText most (l.drop p) = .error 4) := hide (by unfold rdText; rw [hn]; simp only; rw [if_pos hmost])
    have d1 : decide ((most : Int) < (n : Int)) = true := by simp; omega
    clear hn
    go_wp2
    go_ret2
    exact ⟨.inr ⟨4, p', HN.out, by decide, by decide, rfl, hcur⟩, hg⟩
  have d1 : decide ((most : Int) < (n : Int)) = false := by simp; omega
  have hn3 : n ≤ 1024 := by omega
  by_cases hfit : len - p' < n
  · have HN : Hid (rdText most (l.drop p) = .error 6) := hide (by unfold rdText; rw [hn]; simp only; rw [if_neg hmost, if_pos (by simp; omega)])
    clear hn hn2
    go_wp2_with fail
    refine (take_none w2 g a len cap l p' n hcur (by omega) (by omega)).mono ?_
    rintro e w3 ⟨rfl, hcur3, hg3⟩
    go_wp2
    go_ret2
    exact ⟨.inr ⟨6, p', HN.out, by decide, by decide, rfl, hcur3⟩, grown_trans hg hg3⟩
  · have HN : Hid (rdText most (l.drop p) = .ok ((l.drop p').take n, l.drop (p' + n))) := hide (by unfold rdText; rw [hn]; simp only; rw [if_neg hmost, if_neg (by simp; omega), List.drop_drop])
    have HL : Hid (((l.drop p').take n).length = n) := hide (by simp; omega)
    clear hn hn2
    go_wp2_with fail
    refine (take_any w2 g a len cap l p' n hcur (by omega) (by omega)).mono ?_
    rintro e w3 ⟨q, rfl, hq, hrow, hcur3, hg3⟩
    go_wp2
    go_ret2
    refine ⟨.inl ⟨(l.drop p').take n, p' + n, q, HN.out, hcur3.le, by rw [HL.out]; exact hn3, mem_take (mem_drop hxs), ?_, by have := hg.size; omega, ?_, hcur3⟩, grown_trans hg hg3⟩
    · rw [HL.out]; rfl
    · rw [HL.out]; exact hrow
/-- codec.ReadText -/
theorem readText_any (a : Option Addr) (len cap : Nat) (l : List Nat) (w : World) (h : IsB w a len cap l) (hr : len ≤ 140737488355328) :
    Calls Try.prog 102 #[.slice a len cap] w fun e w' =>
      ((∃ s p' q, rdText 1024 l = .ok (s, l.drop p') ∧ p' ≤ len ∧ (∀ x ∈ s, x < 256) ∧ e = .returned (.tuple #[.string (str s), .slice (some ⟨q, 0, none⟩) (len - p') (len - p'), .int .i64 0]) ∧ w.heap.size ≤ q ∧ Row w' q (len - p') (len - p') (l.drop p')) ∨
       (∃ k : Nat, rdText 1024 l = .error k ∧ k ≠ 0 ∧ e = .returned (.tuple #[.string (str []), .slice none 0 0, .int .i64 k]))) ∧ Below w.heap.size w w' := by
  have hc := curText_any 1024 (by decide) _ _ _ _ _ _ _ (Cur.new h)
  rw [List.drop_zero] at hc
  have hc := hide hc
  go_enter Try.func102, Try.ntmps102
  go_wp2_with fail
  refine hc.out.mono ?_
  rintro e w2 ⟨(⟨s, p', q, hn, hp, hs1, hs2, rfl, hq, hrow, hcur⟩ | ⟨k, p', hn, hk, hk2, rfl, hcur⟩), hg⟩
  · have HN := hide hn
    clear hn
    have hcv : (convert 26 9 (.slice (some ⟨q, 0, none⟩) s.length s.length)).run Try.prog w2.drew = .ok (.string (str s)) w2.drew := conv_str (Row.isB (w := w2.drew) hrow hs2)
    have HT := hide (rest_any w2.drew _ a len cap l p' (hcur.drewN 1) hr)
    have HR : Hid (∀ w' : World, w2.drew.grownBy w' (some w.heap.size) → (convert 26 9 (.slice (some ⟨q, 0, none⟩) s.length s.length)).run Try.prog w' = .ok (.string (str s)) w') := hide (fun w' hg' => conv_str ((Row.kept (w := w2.drew) hrow hg' (by simp at hq; simp; omega)).isB hs2))
    have hsz : w.heap.size ≤ w2.heap.size := by have := hg.size; simp at this; omega
    have HG := hide hg
    clear hrow hcur hg
    go_wp2_with fail
    go_region_with (go_at_call 101; refine HT.out.mono ?_; rintro e w' ⟨q2, rfl, hq2, hrow2, hg2⟩; have hcv2 := HR.out w' hg2)
    all_goals
      go_wp2
      go_ret3
      exact ⟨.inl ⟨s, p', q2, HN.out, hp, hs2, rfl, Nat.le_trans hsz hq2, hrow2⟩, below_of_grown (grown_trans HG.out ⟨hg2.os, hg2.tape, hg2.output, hg2.size, hg2.block⟩)⟩
  · have HN := hide hn
    clear hn
    have d1 : ((k : Int) != 0) = true := by simp; omega
    go_wp2
    go_ret3
    exact ⟨.inr ⟨k, HN.out, hk, rfl⟩, below_of_grown hg⟩
end Go.Proofs.Ytebikoekpbnpbaa
/- lists of bytes, numbers and pages in memory -/
namespace Go.Proofs.Ytebikoekpbnpbaa
open Go.RowKit Cod
set_option maxRecDepth 40000
set_option linter.unusedVariables false
set_option linter.unusedSimpArgs false
theorem wrapN {n : Int} (h0 : 0 ≤ n) (h1 : n ≤ 9223372036854775807) : IntKind.i64.wrap n = n := by rw [IntKind.wrap_i64]; omega
theorem cell_blkN {w : World} {g : Nat} {cs : Array Value} {t : TypeId} {f : Nat × Nat} (h : w.heap[g]? = some (.cells cs t f)) {j : Nat} {u : Value} (hj : cs[j]? = some u) : w.cell? ⟨g, j, none⟩ = some u := by
  simp [World.cell?, h, hj]
theorem heap_ltN {w : World} {g : Nat} {o : Obj} (h : w.heap[g]? = some o) : g < w.heap.size := (Array.getElem?_eq_some_iff.1 h).1
theorem own_formN {w : World} {base e size n : Nat} {v : Value} {xs : List Value} (h : w.ownsRow base e size v n xs) : ∃ a c, v = .slice a n c := by
  rcases h.2 with ⟨rfl, rfl⟩ | ⟨g, cap, cur, rfl, _⟩
  · exact ⟨none, 0, rfl⟩
  · exact ⟨_, cap, rfl⟩
/-- a list of slices of bytes in memory -/
def IsL (w : World) (a : Option Addr) (n c : Nat) (L : List (List Nat)) : Prop :=
  L.length = n ∧ n ≤ c ∧ c ≤ maxLen ∧ (a = none → c = 0) ∧ ∀ i, i < n → ∃ b off a' n' c', a = some ⟨b, off, none⟩ ∧ b < w.heap.size ∧ w.cell? ⟨b, off + i, none⟩ = some (.slice a' n' c') ∧ IsB w a' n' c' (L.getD i [])
theorem IsL.below {w w' : World} {a : Option Addr} {n c : Nat} {L : List (List Nat)} (h : IsL w a n c L) (hb : Below w.heap.size w w') : IsL w' a n c L := by
  refine ⟨h.1, h.2.1, h.2.2.1, h.2.2.2.1, fun i hi => ?_⟩
  obtain ⟨b, off, a', n', c', e, hlt, h0, h1⟩ := h.2.2.2.2 i hi
  exact ⟨b, off, a', n', c', e, Nat.lt_of_lt_of_le hlt hb.size, (World.cell?_of_block (hb.block b hlt)).trans h0, h1.below hb⟩
/-- numbers in memory -/
def i64B (t : Int) : Prop := -9223372036854775808 ≤ t ∧ t ≤ 9223372036854775807
def IsK (w : World) (a : Option Addr) (n c : Nat) (l : List Int) : Prop :=
  l.length = n ∧ n ≤ c ∧ c ≤ maxLen ∧ (a = none → c = 0) ∧ ∀ i, i < n → i64B (l.getD i 0) ∧ ∃ b off, a = some ⟨b, off, none⟩ ∧ b < w.heap.size ∧ w.cell? ⟨b, off + i, none⟩ = some (.int .i64 (l.getD i 0))
theorem IsK.below {w w' : World} {a : Option Addr} {n c : Nat} {l : List Int} (h : IsK w a n c l) (hb : Below w.heap.size w w') : IsK w' a n c l := by
  refine ⟨h.1, h.2.1, h.2.2.1, h.2.2.2.1, fun i hi => ?_⟩
  obtain ⟨ht, b, off, e, hlt, h0⟩ := h.2.2.2.2 i hi
  exact ⟨ht, b, off, e, Nat.lt_of_lt_of_le hlt hb.size, (World.cell?_of_block (hb.block b hlt)).trans h0⟩
theorem isL_nil (w : World) : IsL w none 0 0 [] := ⟨rfl, Nat.le_refl _, Nat.zero_le _, fun _ => rfl, fun _ hi => absurd hi (Nat.not_lt_zero _)⟩
theorem isK_nil (w : World) : IsK w none 0 0 [] := ⟨rfl, Nat.le_refl _, Nat.zero_le _, fun _ => rfl, fun _ hi => absurd hi (Nat.not_lt_zero _)⟩
/-- a page -/
structure Pg where
  leaf : Bool
  keys : List (List Nat)
  vals : List (List Nat)
  kids : List Int
def Pg0 : Pg := ⟨false, [], [], []⟩
/-- where a page's lists lie -/
structure Pv where
  ka : Option Addr
  kn : Nat
  kc : Nat
  va : Option Addr
  vn : Nat
  vc : Nat
  ia : Option Addr
  inn : Nat
  ic : Nat
abbrev pgc (b : Bool) (v : Pv) : Array Value := #[.bool b, .slice v.ka v.kn v.kc, .slice v.va v.vn v.vc, .slice v.ia v.inn v.ic]
/-- a page in memory -/
structure IsG (w : World) (v : Pv) (p : Pg) : Prop where
  keys : IsL w v.ka v.kn v.kc p.keys
  vals : IsL w v.va v.vn v.vc p.vals
  kids : IsK w v.ia v.inn v.ic p.kids
theorem IsG.below {w w' : World} {v : Pv} {p : Pg} (h : IsG w v p) (hb : Below w.heap.size w w') : IsG w' v p := ⟨h.keys.below hb, h.vals.below hb, h.kids.below hb⟩
/-- a page's own block -/
abbrev BlkG (w : World) (g : Nat) (b : Bool) (v : Pv) : Prop := w.heap[g]? = some (.cells (pgc b v) 25 (0, 0))
theorem BlkG.cells {w : World} {g : Nat} {b : Bool} {v : Pv} (h : BlkG w g b v) : w.cell? ⟨g, 0, none⟩ = some (.bool b) ∧ w.cell? ⟨g, 1, none⟩ = some (.slice v.ka v.kn v.kc) ∧ w.cell? ⟨g, 2, none⟩ = some (.slice v.va v.vn v.vc) ∧ w.cell? ⟨g, 3, none⟩ = some (.slice v.ia v.inn v.ic) :=
  ⟨cell_blkN h rfl, cell_blkN h rfl, cell_blkN h rfl, cell_blkN h rfl⟩
/-- how many bytes a number has -/
def nLen (n : Nat) : Nat := (num n).length
theorem nLen_le {n : Nat} (h : n < 18446744073709551616) : nLen n ≤ 10 := num_len10 h
def bSize (b : List Nat) : Nat := nLen b.length + b.length
def sumB (l : List (List Nat)) : Nat := (l.map bSize).sum
def sumK (l : List Int) : Nat := (l.map (fun k => nLen k.toNat)).sum
/-- how great a page is -/
def sizeP (p : Pg) : Nat := 1 + nLen p.keys.length + 4 + sumB p.keys + sumB p.vals + sumK p.kids
/-- '<' of bytes -/
def ltN : List Nat → List Nat → Bool
  | _, [] => false
  | [], _ :: _ => true
  | x :: r, y :: s => decide (x < y) || (decide (x = y) && ltN r s)
def shortB (most : Nat) (l : List (List Nat)) : Bool := l.all (fun b => decide (b.length ≤ most))
def riseAt (l : List (List Nat)) (i : Nat) : Bool := decide (i = 0) || ltN (l.getD (i - 1) []) (l.getD i [])
def riseB (l : List (List Nat)) : Bool := (List.range l.length).all (riseAt l)
def keysB (l : List (List Nat)) : Bool := riseB l && shortB 256 l
def kidsB (l : List Int) : Bool := l.all (fun k => decide (1 ≤ k ∧ k < 1024))
def leafB (p : Pg) : Bool := p.leaf && decide (p.vals.length = p.keys.length) && decide (p.kids.length = 0) && keysB p.keys && shortB 512 p.vals
def innerB (p : Pg) : Bool := !p.leaf && decide (0 < p.keys.length) && decide (p.kids.length = p.keys.length + 1) && decide (p.vals.length = 0) && keysB p.keys && kidsB p.kids
/-- why a page is not right -/
def checkE (p : Pg) : Int := if leafB p = true ∨ innerB p = true then (if 4096 < sizeP p then 7 else 0) else 2
end Go.Proofs.Ytebikoekpbnpbaa
