/- CdD CdMath3 CdF -/
import Derived.Test.YteckglnfkgfefaaCdC
import Derived.Test.YteckglnfkgfefaaCdMath2
/- contracts: ReadNum, ReadInt, ReadText -/
namespace Go.Proofs.Yteckglnfkgfefaa
open Go.RowKit Cod
set_option maxRecDepth 40000
/-- a fresh cursor over an argument -/
theorem Cur.new {w : World} {a : Option Addr} {len cap : Nat} {l : List Nat} (h : IsB w a len cap l) : Cur (w.alloc (.cells #[.slice a len cap, .int .i64 0] 131)) w.heap.size a len cap l 0 := by
  have hn := heap_alloc_new w (.cells #[.slice a len cap, .int .i64 0] 131)
  refine ⟨?_, ?_, ?_, h.below ((Below.refl _ _).alloc (Nat.le_refl _) _), ?_, Nat.zero_le _⟩
  · rw [World.cell?_alloc_new]; rfl
  · rw [World.cell?_alloc_new]; rfl
  · unfold World.frozen?; rw [hn]; rfl
  · intro b off hb hlen
    rcases h.2.2.2.2 with ⟨h0, _⟩ | ⟨b', off', hb', hlt, _⟩
    · omega
    · rw [hb] at hb'; cases hb'; omega
theorem below_of_grown {w w' : World} {o : Obj} (hg : (w.alloc o).grownBy w' (some w.heap.size)) : Below w.heap.size w w' :=
  ⟨hg.os, hg.tape, hg.output, by have := hg.size; simp at this; omega, fun k hk => (hg.block k (by simp; omega) (by simp; omega)).trans (Below.heap_alloc _ _ _ hk)⟩
/-- codec.ReadNum -/
theorem readNum_any (a : Option Addr) (len cap : Nat) (l : List Nat) (w : World) (h : IsB w a len cap l) (hr : len ≤ 140737488355328) :
    Calls Try.prog 83 #[.slice a len cap] w fun e w' =>
      ((∃ n p' q, rdNum l = some (n, l.drop p') ∧ n < 18446744073709551616 ∧ p' ≤ len ∧ e = .returned (.tuple #[.int .u64 (n : Nat), .slice (some ⟨q, 0, none⟩) (len - p') (len - p'), .int .i64 0]) ∧ w.heap.size ≤ q ∧ Row w' q (len - p') (len - p') (l.drop p')) ∨
       (rdNum l = none ∧ e = .returned (.tuple #[.int .u64 0, .slice none 0 0, .int .i64 6]))) ∧ Below w.heap.size w w' := by
  have hc := curNum_any _ _ _ _ _ _ _ (Cur.new h)
  rw [List.drop_zero] at hc
  have hc := hide hc
  go_enter Try.func83, Try.ntmps83
  go_wp2_with fail
  refine hc.out.mono ?_
  rintro e w2 ⟨(⟨n, p', hn, hn2, hp, rfl, hcur⟩ | ⟨hn, n, p', rfl, hcur⟩), hg⟩
  · have HN := hide hn
    clear hn
    go_wp2_with fail
    refine (rest_anyCd w2 _ a len cap l p' hcur hr).mono ?_
    rintro e w3 ⟨q, rfl, hq, hrow, hg3⟩
    go_wp2
    go_ret3
    exact ⟨.inl ⟨n, p', q, HN.out, hn2, hp, rfl, by have := hg.size; simp at this; omega, hrow⟩, below_of_grown (grown_trans hg hg3)⟩
  · have HN := hide hn
    clear hn
    go_wp2
    go_ret3
    exact ⟨.inr ⟨HN.out, rfl⟩, below_of_grown hg⟩
/-- a number read as a whole one -/
def zag (n : Nat) : Int := if n % 2 = 1 then -1 - (n / 2 : Nat) else (n / 2 : Nat)
end Go.Proofs.Yteckglnfkgfefaa
/- what the bytes of keys are, as lists -/
namespace Cod
/-- a part of a key: its kind, its number, its text -/
structure Part where
  k : Nat
  n : Nat
  s : List Nat
/-- eight bytes, the highest one first -/
def be8 (n : Nat) : List Nat := [n / 2 ^ 56 % 256, n / 2 ^ 48 % 256, n / 2 ^ 40 % 256, n / 2 ^ 32 % 256, n / 2 ^ 24 % 256, n / 2 ^ 16 % 256, n / 2 ^ 8 % 256, n % 256]
def esc : List Nat → List Nat
  | [] => []
  | x :: t => (if x = 0 then [0, 255] else [x]) ++ esc t
def isPart (p : Part) : Bool := (p.k == 1 && p.s.isEmpty) || (p.k == 2 && p.n == 0)
def partB (p : Part) : List Nat := if p.k = 1 then 1 :: be8 p.n else 2 :: (esc p.s ++ [0, 1])
def keyB (ps : List Part) : List Nat := ps.flatMap partB
def okP (p : Part) : Prop := p.k < 256 ∧ p.n < 18446744073709551616 ∧ ∀ x ∈ p.s, x < 256
def key (ps : List Part) : Except Nat (List Nat) :=
  if 16 < ps.length then .error 3 else if !ps.all isPart then .error 15 else if 256 < (keyB ps).length then .error 4 else .ok (keyB ps)
end Cod
/- contracts: the writers of keys -/
namespace Go.Proofs.Yteckglnfkgfefaa
open Go.RowKit Cod
set_option maxRecDepth 40000
/-- parts in memory -/
def IsP (w : World) (a : Option Addr) (len cap : Nat) (ps : List Part) : Prop :=
  ps.length = len ∧ len ≤ cap ∧ cap ≤ maxLen ∧ (∀ p ∈ ps, okP p) ∧ (len = 0 ∧ (a = none → cap = 0) ∨ ∃ b off, a = some ⟨b, off, none⟩ ∧ b < w.heap.size ∧ ∀ i p, ps[i]? = some p → w.cell? ⟨b, off + i * 3, none⟩ = some (.int .u8 (p.k : Nat)) ∧ w.cell? ⟨b, off + i * 3 + 1, none⟩ = some (.int .u64 (p.n : Nat)) ∧ w.cell? ⟨b, off + i * 3 + 2, none⟩ = some (.string (str p.s)))
theorem IsP.below {w w1 : World} {a : Option Addr} {len cap : Nat} {ps : List Part} (h : IsP w a len cap ps) (hb : Below w.heap.size w w1) : IsP w1 a len cap ps := by
  obtain ⟨h1, h2, h3, h4, h5⟩ := h
  refine ⟨h1, h2, h3, h4, ?_⟩
  rcases h5 with h5 | ⟨b, off, rfl, hlt, hc⟩
  · exact .inl h5
  · refine .inr ⟨b, off, rfl, Nat.lt_of_lt_of_le hlt hb.size, fun i p hp => ?_⟩
    obtain ⟨c1, c2, c3⟩ := hc i p hp
    exact ⟨(hb.cell (p := ⟨b, _, none⟩) hlt).trans c1, (hb.cell (p := ⟨b, _, none⟩) hlt).trans c2, (hb.cell (p := ⟨b, _, none⟩) hlt).trans c3⟩
end Go.Proofs.Yteckglnfkgfefaa
