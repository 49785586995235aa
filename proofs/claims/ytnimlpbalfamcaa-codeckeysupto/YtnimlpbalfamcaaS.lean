/- contracts: entry, ReadEntries -/
import Derived.Test.YtnimlpbalfamcaaD
import Derived.Test.YtnimlpbalfamcaaQ
namespace Go.Proofs.Ytnimlpbalfamcaa
open Go.RowKit Cod
theorem grown_setFar {a b : World} {r : Option Nat} (h : a.grownBy b r) {q j : Nat} (hq : a.heap.size ≤ q) (v : Value) : a.grownBy (b.setCell ⟨q, j, none⟩ v) r :=
  ⟨h.os, h.tape, h.output, by simpa [World.setCell] using h.size, fun k hk hne => (Below.heap_setCell _ _ _ _ (show k ≠ q by omega)).trans (h.block k hk hne)⟩
theorem Cur.setFar {w : World} {g : Nat} {a : Option Addr} {len cap : Nat} {l : List Nat} {p : Nat} (h : Cur w g a len cap l p) {q j : Nat} {v : Value} (hq : q ≠ g) (ha : ∀ b off, a = some ⟨b, off, none⟩ → 0 < len → b ≠ q) : Cur (w.setCell ⟨q, j, none⟩ v) g a len cap l p := by
  have hb : w.grownBy (w.setCell ⟨q, j, none⟩ v) (some q) := grown_set (World.grownBy.refl _ _) _
  refine ⟨hb.cell h.c0 (by simpa using Ne.symm hq), hb.cell h.c1 (by simpa using Ne.symm hq), (World.frozen?_of_block (hb.block g h.lt (by simpa using Ne.symm hq))).trans h.fr, h.isb.kept hb ha, h.ne, h.le⟩
theorem Cur.keptBy {w w' : World} {g : Nat} {a : Option Addr} {len cap : Nat} {l : List Nat} {p : Nat} {r : Option Nat} (h : Cur w g a len cap l p) (hg : w.grownBy w' r) (hr : ∀ k, r = some k → k ≠ g ∧ ∀ b off, a = some ⟨b, off, none⟩ → 0 < len → b ≠ k) : Cur w' g a len cap l p := by
  have hrg : some g ≠ r := fun e => (hr g e.symm).1 rfl
  refine ⟨hg.cell h.c0 hrg, hg.cell h.c1 hrg, (World.frozen?_of_block (hg.block g h.lt hrg)).trans h.fr, ?_, h.ne, h.le⟩
  cases r with
  | none => exact h.isb.kept (grown_any hg) h.ne
  | some k => exact h.isb.kept hg (hr k rfl).2
theorem grown_far {a b c : World} {r s : Option Nat} (h : a.grownBy b r) (k : b.grownBy c s) (hs : ∀ j, s = some j → a.heap.size ≤ j) : a.grownBy c r :=
  ⟨k.os.trans h.os, k.tape.trans h.tape, k.output.trans h.output, Nat.le_trans h.size k.size, fun i hi hne => (k.block i (Nat.lt_of_lt_of_le hi h.size) (fun e => by have := hs i e.symm; omega)).trans (h.block i hi hne)⟩
theorem Cur.arg {w : World} {g : Nat} {a : Option Addr} {len cap : Nat} {l : List Nat} {p : Nat} (h : Cur w g a len cap l p) : ∀ b off, a = some ⟨b, off, none⟩ → 0 < len → b < w.heap.size := by
  intro b off ha hl
  rcases h.isb.2.2.2.2 with ⟨h0, _⟩ | ⟨b', off', hb', hlt, _⟩
  · omega
  · rw [ha] at hb'; cases hb'; exact hlt
set_option maxHeartbeats 1000000 in
theorem entry_any (w : World) (g : Nat) (a : Option Addr) (len cap : Nat) (l : List Nat) (p : Nat) (h : Cur w g a len cap l p) :
    Calls Try.prog 52 #[.pointer (some ⟨g, 0, none⟩)] w fun e w' =>
      ((∃ en p' qk qv, rdEnt (l.drop p) = .ok (en, l.drop p') ∧ p' ≤ len ∧ (∀ x ∈ en.1, x < 256) ∧ (∀ x ∈ en.2, x < 256) ∧ e = .returned (.tuple #[.agg #[.slice (some ⟨qk, 0, none⟩) en.1.length en.1.length, .slice (some ⟨qv, 0, none⟩) en.2.length en.2.length], .int .i64 0]) ∧ w.heap.size ≤ qk ∧ w.heap.size ≤ qv ∧ Row w' qk en.1.length en.1.length en.1 ∧ Row w' qv en.2.length en.2.length en.2 ∧ Cur w' g a len cap l p') ∨
       (∃ k p' : Nat, rdEnt (l.drop p) = .error k ∧ k ≠ 0 ∧ k < 16 ∧ e = .returned (.tuple #[.agg #[.slice none 0 0, .slice none 0 0], .int .i64 k]) ∧ Cur w' g a len cap l p')) ∧ w.grownBy w' (some g) := by
  have hgs := h.lt
  have HA := hide h.arg
  have hc0 : Cur (w.alloc (.cells #[.slice none 0 0, .slice none 0 0] 78)) g a len cap l p := h.kept (World.grownBy_alloc _ _ _)
  have hg0 : w.grownBy (w.alloc (.cells #[.slice none 0 0, .slice none 0 0] 78)) (some g) := World.grownBy_alloc _ _ _
  have hn0 : (w.alloc (.cells #[.slice none 0 0, .slice none 0 0] 78)).heap[w.heap.size]? = some (.cells #[.slice none 0 0, .slice none 0 0] 78 (0, 0)) := heap_alloc_new w _
  have hs0 : w.heap.size < (w.alloc (.cells #[.slice none 0 0, .slice none 0 0] 78)).heap.size := by simp
  have C1 := hide (curText_any 256 (by decide) _ g a len cap l p hc0)
  have HG0 := hide hg0
  clear hc0 hg0 h
  go_enter Try.func52, Try.ntmps52
  go_wp2_with fail
  refine C1.out.mono ?_
  rintro e w2 ⟨(⟨s, p', q, hn, hp, hs1, hs2, rfl, hq, hrow, hcur⟩ | ⟨k, p', hn, hk, hk2, rfl, hcur⟩), hg⟩
  case inr =>
    have HN : Hid (rdEnt (l.drop p) = .error k) := hide (by unfold rdEnt; rw [hn])
    have hb2 : w2.heap[w.heap.size]? = some (.cells #[.slice none 0 0, .slice none 0 0] 78 (0, 0)) := (hg.block _ hs0 (by simp; omega)).trans hn0
    have d1 : ((k : Int) != 0) = true := by simp; omega
    have e0 : w2.cell? ⟨w.heap.size, 0, none⟩ = some (.slice none 0 0) := by simp [World.cell?, hb2]
    have e1 : w2.cell? ⟨w.heap.size, 1, none⟩ = some (.slice none 0 0) := by simp [World.cell?, hb2]
    have f0 : w2.frozen? ⟨w.heap.size, 0, none⟩ = false := by simp [World.frozen?, hb2]
    have f1 : w2.frozen? ⟨w.heap.size, 1, none⟩ = false := by simp [World.frozen?, hb2]
    have HC := hide hcur
    have HG := hide (grown_trans HG0.out hg)
    clear hn hn0 hs0 hg C1 hb2 hcur
    go_wp2
    refine bodyPost_ret (v := .tuple #[.agg #[.slice none 0 0, .slice none 0 0], .int .i64 k]) (by simp [results, Try.results52, go_sem, e0, e1]) rfl ⟨.inr ⟨k, p', HN.out, hk, hk2, rfl, ?_⟩, ?_⟩
    · exact (HC.out.setFar (by omega) (fun b off h1 h2 => by have := HA.out b off h1 h2; omega)).setFar (by omega) (fun b off h1 h2 => by have := HA.out b off h1 h2; omega)
    · exact grown_setFar (grown_setFar HG.out (Nat.le_refl _) _) (Nat.le_refl _) _
  have C2 := hide (curText_any 512 (by decide) _ g a len cap l p' hcur)
  have hb2 : w2.heap[w.heap.size]? = some (.cells #[.slice none 0 0, .slice none 0 0] 78 (0, 0)) := (hg.block _ hs0 (by simp; omega)).trans hn0
  have hs2' : w.heap.size < w2.heap.size := by have := hg.size; simp at this; omega
  have hq' : w.heap.size < q := by simp at hq; omega
  have HN1 := hide hn
  have HR := hide hrow
  have HS := hide hs2
  have HG := hide (grown_trans HG0.out hg)
  clear hn hrow hs2 hcur hg hn0 hs0 C1 hq HG0
  go_wp2_with fail
  refine C2.out.mono ?_
  rintro e w3 ⟨(⟨t, p2, q2, hn, hp2, ht1, ht2, rfl, hq2, hrow2, hcur⟩ | ⟨k, p2, hn, hk, hk2, rfl, hcur⟩), hg⟩
  case inr =>
    have HN : Hid (rdEnt (l.drop p) = .error k) := hide (by unfold rdEnt; rw [HN1.out]; simp only; rw [hn])
    have hb3 : w3.heap[w.heap.size]? = some (.cells #[.slice none 0 0, .slice none 0 0] 78 (0, 0)) := (hg.block _ hs2' (by simp; omega)).trans hb2
    have d1 : ((k : Int) != 0) = true := by simp; omega
    have e0 : w3.cell? ⟨w.heap.size, 0, none⟩ = some (.slice none 0 0) := by simp [World.cell?, hb3]
    have e1 : w3.cell? ⟨w.heap.size, 1, none⟩ = some (.slice none 0 0) := by simp [World.cell?, hb3]
    have f0 : w3.frozen? ⟨w.heap.size, 0, none⟩ = false := by simp [World.frozen?, hb3]
    have f1 : w3.frozen? ⟨w.heap.size, 1, none⟩ = false := by simp [World.frozen?, hb3]
    have HC := hide hcur
    have HG3 := hide (grown_trans HG.out hg)
    clear hn hg C2 hb2 hb3 hcur
    go_wp2
    refine bodyPost_ret (v := .tuple #[.agg #[.slice none 0 0, .slice none 0 0], .int .i64 k]) (by simp [results, Try.results52, go_sem, e0, e1]) rfl ⟨.inr ⟨k, p2, HN.out, hk, hk2, rfl, ?_⟩, ?_⟩
    · exact (HC.out.setFar (by omega) (fun b off h1 h2 => by have := HA.out b off h1 h2; omega)).setFar (by omega) (fun b off h1 h2 => by have := HA.out b off h1 h2; omega)
    · exact grown_setFar (grown_setFar HG3.out (Nat.le_refl _) _) (Nat.le_refl _) _
  have HN : Hid (rdEnt (l.drop p) = .ok ((s, t), l.drop p2)) := hide (by unfold rdEnt; rw [HN1.out]; simp only; rw [hn])
  have hb3 : w3.heap[w.heap.size]? = some (.cells #[.slice none 0 0, .slice none 0 0] 78 (0, 0)) := (hg.block _ hs2' (by simp; omega)).trans hb2
  have e0 : w3.cell? ⟨w.heap.size, 0, none⟩ = some (.slice none 0 0) := by simp [World.cell?, hb3]
  have e1 : w3.cell? ⟨w.heap.size, 1, none⟩ = some (.slice none 0 0) := by simp [World.cell?, hb3]
  have f0 : w3.frozen? ⟨w.heap.size, 0, none⟩ = false := by simp [World.frozen?, hb3]
  have f1 : w3.frozen? ⟨w.heap.size, 1, none⟩ = false := by simp [World.frozen?, hb3]
  have HC := hide hcur
  have HG3 := hide (grown_trans HG.out hg)
  have HR3 := hide (HR.out.kept hg (by simp; omega))
  have HR4 := hide hrow2
  have HT := hide ht2
  have hq2' : w.heap.size < q2 := by omega
  clear hn hg C2 hb2 hb3 hcur HR HN1 HG hrow2 ht2 hq2
  go_wp2
  refine bodyPost_ret (v := .tuple #[.agg #[.slice (some ⟨q, 0, none⟩) s.length s.length, .slice (some ⟨q2, 0, none⟩) t.length t.length], .int .i64 0]) (by simp [results, Try.results52, go_sem, e0, e1]) rfl ⟨.inl ⟨(s, t), p2, q, q2, HN.out, hp2, HS.out, HT.out, rfl, by omega, by omega, ?_, ?_, ?_⟩, ?_⟩
  · exact (HR3.out.set_far (by omega)).set_far (by omega)
  · exact (HR4.out.set_far (by omega)).set_far (by omega)
  · exact (HC.out.setFar (by omega) (fun b off h1 h2 => by have := HA.out b off h1 h2; omega)).setFar (by omega) (fun b off h1 h2 => by have := HA.out b off h1 h2; omega)
  · exact grown_setFar (grown_setFar HG3.out (Nat.le_refl _) _) (Nat.le_refl _) _
/-- an entry and the blocks of its key and its value -/
abbrev En := Ent × Nat × Nat
def ev1 (y : En) : List Value := [.slice (some ⟨y.2.1, 0, none⟩) y.1.1.length y.1.1.length, .slice (some ⟨y.2.2, 0, none⟩) y.1.2.length y.1.2.length]
def evs (l : List En) : List Value := l.flatMap ev1
theorem evs_snoc (l : List En) (y : En) : evs (l ++ [y]) = evs l ++ ev1 y := by simp [evs]
theorem evs_length (l : List En) : (evs l).length = l.length * 2 := by
  induction l with
  | nil => rfl
  | cons y t ih =>
    have : evs (y :: t) = ev1 y ++ evs t := by simp [evs]
    rw [this, List.length_append, ih, List.length_cons]; simp [ev1]; omega
theorem evs_get (l : List En) : ∀ i y, l[i]? = some y → (evs l)[i * 2]? = some (.slice (some ⟨y.2.1, 0, none⟩) y.1.1.length y.1.1.length) ∧ (evs l)[i * 2 + 1]? = some (.slice (some ⟨y.2.2, 0, none⟩) y.1.2.length y.1.2.length) := by
  induction l with
  | nil => intro i y h; simp at h
  | cons z t ih =>
    intro i y h
    have e : evs (z :: t) = ev1 z ++ evs t := by simp [evs]
    cases i with
    | zero => simp at h; subst h; rw [e]; exact ⟨rfl, rfl⟩
    | succ i =>
      simp at h
      have := ih i y h
      rw [e, show (i + 1) * 2 = i * 2 + 2 by omega, List.getElem?_append_right (by simp [ev1]), List.getElem?_append_right (by simp [ev1])]
      simpa [ev1] using this
def okEn (w : World) (base : Nat) (y : En) : Prop := base ≤ y.2.1 ∧ base ≤ y.2.2 ∧ Row w y.2.1 y.1.1.length y.1.1.length y.1.1 ∧ Row w y.2.2 y.1.2.length y.1.2.length y.1.2 ∧ (∀ x ∈ y.1.1, x < 256) ∧ (∀ x ∈ y.1.2, x < 256)
theorem okEn.kept {w w' : World} {base : Nat} {y : En} {r : Option Nat} (h : okEn w base y) (hg : w.grownBy w' r) (hr : ∀ k, r = some k → k ≠ y.2.1 ∧ k ≠ y.2.2) : okEn w' base y := by
  obtain ⟨h1, h2, h3, h4, h5, h6⟩ := h
  exact ⟨h1, h2, h3.kept hg (fun e => (hr _ e.symm).1 rfl), h4.kept hg (fun e => (hr _ e.symm).2 rfl), h5, h6⟩
theorem owns_not5 {w : World} {base e size n : Nat} {v : Value} {xs : List Value} (he : e ≠ 5) (h : w.ownsRow base e size v n xs) {q len cap : Nat} {m : List Nat} (hr : Row w q len cap m) : ∀ k, v.ownBlock = some k → k ≠ q := by
  intro k hk
  rcases h.2 with ⟨rfl, _⟩ | ⟨g, c, cur, rfl, _, hg, _⟩
  · cases hk
  · cases hk
    rintro rfl
    obtain ⟨_, _, _, cur', hq, _⟩ := hr
    simp only at hq
    rw [hg] at hq
    simp at hq
    exact he hq.2
theorem isE_of_owns {w : World} {base : Nat} {v : Value} {n : Nat} {l : List En} (h : w.ownsRow base 78 2 v n (evs l)) (hl : ∀ y ∈ l, okEn w base y) : ∃ a cap, v = .slice a n cap ∧ IsE w a n cap (l.map (·.1)) := by
  obtain ⟨h1, h2⟩ := h
  rw [evs_length] at h1
  have hn : l.length = n := by omega
  rcases h2 with ⟨rfl, rfl⟩ | ⟨g, cap, cur, rfl, hb, hg, hc, hm, hs, ht⟩
  · exact ⟨none, 0, rfl, by simpa using hn, Nat.le_refl _, Nat.zero_le _, .inl ⟨rfl, fun _ => rfl⟩⟩
  · refine ⟨_, cap, rfl, by simpa using hn, hc, hm, .inr ⟨g, 0, rfl, ?_, ?_⟩⟩
    · by_cases h : g < w.heap.size
      · exact h
      · rw [Array.getElem?_eq_none (by omega)] at hg; cases hg
    · intro i e hi
      rw [List.getElem?_map] at hi
      cases hy : l[i]? with
      | none => rw [hy] at hi; cases hi
      | some y =>
        rw [hy] at hi
        simp only [Option.map_some, Option.some.injEq] at hi
        subst hi
        have hil : i < l.length := (List.getElem?_eq_some_iff.1 hy).1
        obtain ⟨_, _, r1, r2, b1, b2⟩ := hl y (List.mem_of_getElem? hy)
        obtain ⟨g1, g2⟩ := evs_get l i y hy
        refine ⟨_, _, _, _, ?_, ?_, r1.isB b1, r2.isB b2⟩
        · rw [← ht, List.getElem?_take, if_pos (by omega)] at g1
          simp only [World.cell?, hg, Nat.zero_add]
          simpa using g1
        · rw [← ht, List.getElem?_take, if_pos (by omega)] at g2
          simp only [World.cell?, hg, Nat.zero_add]
          simpa using g2
theorem Try.info78 : (Try.prog.info? 78).map (fun i => (i.zero, i.size, i.bytes)) = some (some (.agg #[.slice none 0 0, .slice none 0 0]), 2, 48) := by kernel_rfl
theorem ev1_new (w : World) (o : Obj) (y : En) : ∀ j u, (ev1 y)[j]? = some u → ((w.alloc o).alloc (.cells (ev1 y).toArray 78)).cell? ((⟨w.heap.size + 1, 0, none⟩ : Addr).add j) = some u := by
  intro j u hj
  rw [addr_add]
  have hn := heap_alloc_new (w.alloc o) (.cells (ev1 y).toArray 78)
  have hs : (w.alloc o).heap.size = w.heap.size + 1 := by simp
  rw [hs] at hn
  simp only [World.cell?, hn]
  simpa using hj
theorem ev1_one (y : En) : ∀ u ∈ ev1 y, u.oneCell' = true := by
  intro u hu; simp [ev1] at hu; rcases hu with rfl | rfl <;> rfl
theorem rdEntries_of {l r : List Nat} {n : Nat} (h : rdNum l = some (n, r)) (hm : ¬ 4096 < n) : (∀ e, rdEnts n r [] = .error e → rdEntries l = .error e) ∧ (∀ es r', rdEnts n r [] = .ok (es, r') → rdEntries l = if r'.length = 0 then .ok es else .error 6) := by
  unfold rdEntries
  rw [h]
  simp only
  rw [if_neg hm]
  exact ⟨fun e he => by rw [he], fun es r' he => by rw [he]⟩
theorem rdEnts_err {n e : Nat} {l : List Nat} (h : rdEnt l = .error e) (acc : List Ent) : rdEnts (n + 1) l acc = .error e := by rw [rdEnts, h]
theorem rdEnts_one {n : Nat} {l r : List Nat} {e : Ent} (h : rdEnt l = .ok (e, r)) (acc : List Ent) : rdEnts (n + 1) l acc = rdEnts n r (acc ++ [e]) := by rw [rdEnts, h]
set_option maxHeartbeats 2000000 in
/-- codec.ReadEntries -/
theorem readEntries_any (a : Option Addr) (len cap : Nat) (l : List Nat) (w : World) (h : IsB w a len cap l) :
    Calls Try.prog 34 #[.slice a len cap] w fun e w' =>
      ((∃ es a' c', rdEntries l = .ok es ∧ e = .returned (.tuple #[.slice a' es.length c', .int .i64 0]) ∧ IsE w' a' es.length c' es) ∨
       (∃ k : Nat, rdEntries l = .error k ∧ k ≠ 0 ∧ e = .returned (.tuple #[.slice none 0 0, .int .i64 k]))) ∧ Below w.heap.size w w' := by
  obtain ⟨i0, hi, hz0, hz1, hz2⟩ := info_parts Try.info78
  have hc := curNum_any _ _ _ _ _ _ _ (Cur.new h)
  rw [List.drop_zero] at hc
  have hc := hide hc
  have hlen := hide h.1
  have HA := hide (show ∀ b off, a = some ⟨b, off, none⟩ → 0 < len → b < w.heap.size by
    intro b off ha hl
    rcases h.2.2.2.2 with ⟨h0, _⟩ | ⟨b', off', hb', hlt, _⟩
    · omega
    · rw [ha] at hb'; cases hb'; exact hlt)
  clear h
  go_enter Try.func34, Try.ntmps34
  go_wp2_with fail
  refine hc.out.mono ?_
  rintro e w2 ⟨(⟨n, p', hn, hn2, hp, rfl, hcur⟩ | ⟨hn, n, p', rfl, hcur⟩), hg⟩
  case inr =>
    have HN : Hid (rdEntries l = .error 6) := hide (by unfold rdEntries; rw [hn])
    clear hn
    go_wp2
    go_ret2
    exact ⟨.inr ⟨6, HN.out, by decide, rfl⟩, below_of_grown hg⟩
  by_cases hmost : 4096 < n
  · have HN : Hid (rdEntries l = .error 3) := hide (by unfold rdEntries; rw [hn]; simp only; rw [if_pos hmost])
    have d1 : decide ((4096 : Int) < (n : Int)) = true := by simp; omega
    clear hn hn2
    go_wp2
    go_ret2
    exact ⟨.inr ⟨3, HN.out, by decide, rfl⟩, below_of_grown hg⟩
  have d1 : decide ((4096 : Int) < (n : Int)) = false := by simp; omega
  have hn3 : n ≤ 4096 := by omega
  have HN0 := hide (rdEntries_of hn hmost)
  have hsz : w.heap.size + 1 ≤ w2.heap.size := by have := hg.size; simp at this; omega
  have HG := hide hg
  have HC := hide hcur
  clear hn hn2 hmost hg hcur hc
  go_wp2_with fail
  go_loopw [7, 8, 9, 21] (fun x _ _ i wr => ∃ (k q : Nat) (acc : List En), k ≤ n ∧ i = .int .u64 k ∧ wr.ownsRow (w.heap.size + 1) 78 2 x k (evs acc) ∧ Hid (∀ y ∈ acc, okEn wr (w.heap.size + 1) y) ∧ Hid (Cur wr w.heap.size a len cap l q) ∧ q ≤ len ∧ Hid (rdEnts n (l.drop p') [] = rdEnts (n - k) (l.drop q) (acc.map (·.1))) ∧ Hid ((w.alloc (.cells #[.slice a len cap, .int .i64 0] 64)).grownBy wr (some w.heap.size))) (fun _ _ _ i _ => n - (intOf i).toNat)
  case atStart => exact ⟨0, p', [], by omega, rfl, World.ownsRow_nil _ _ _ _, hide (by simp), HC, hp, hide rfl, HG⟩
  case round =>
    obtain ⟨k, q, acc, hk, rfl, hown, HROWS, HCUR, hq, HRD, HGR⟩ := hrel
    clear HC HG
    have hwz : w.heap.size + 1 ≤ wr.heap.size := by have := HGR.out.size; simp at this; omega
    by_cases hlt : k < n
    · have d2 : decide ((k : Int) < (n : Int)) = true := by simp; omega
      have HE := hide (entry_any wr w.heap.size a len cap l q HCUR.out)
      have hnk : n - k = (n - (k + 1)) + 1 := by omega
      have HNK := hide hnk
      clear hnk
      go_wp2_with fail
      refine HE.out.mono ?_
      rintro e w3 ⟨(⟨en, p2, qk, qv, he, hp2, hx1, hx2, rfl, hqk, hqv, hr1, hr2, hcur3⟩ | ⟨m, p2, he, hm, hm2, rfl, hcur3⟩), hg3⟩
      case inr =>
        have HN : Hid (rdEntries l = .error m) := hide (HN0.out.1 m (by rw [HRD.out, HNK.out, rdEnts_err he]))
        have d3 : ((m : Int) != 0) = true := by simp; omega
        have HB := hide (below_of_grown (grown_trans HGR.out hg3))
        clear he hcur3 hg3
        go_wp2
        go_ret2
        refine ⟨.inr ⟨m, HN.out, hm, rfl⟩, HB.out.alloc HB.out.size _⟩
      have HR2 : Hid (rdEnts n (l.drop p') [] = rdEnts (n - (k + 1)) (l.drop p2) ((acc ++ [(en, qk, qv)]).map (·.1))) := hide (by rw [HRD.out, HNK.out, rdEnts_one he]; simp)
      have hz3 : w.heap.size + 1 ≤ w3.heap.size := by have := hg3.size; omega
      have hown3 : w3.ownsRow (w.heap.size + 1) 78 2 u7 k (evs acc) := hown.kept hg3 (.inr (fun e => by have := (hown.lt _ e).1; omega))
      have HRW : Hid (∀ y ∈ acc ++ [(en, qk, qv)], okEn w3 (w.heap.size + 1) y) := hide (by
        intro y hy
        rcases List.mem_append.1 hy with hy | hy
        · exact (HROWS.out y hy).kept hg3 (fun j hj => by cases hj; have := (HROWS.out y hy).1; have := (HROWS.out y hy).2.1; omega)
        · simp at hy; subst hy; exact ⟨by simp only; omega, by simp only; omega, hr1, hr2, hx1, hx2⟩)
      have HC3 := hide hcur3
      have HG3 := hide (grown_trans HGR.out hg3)
      clear he hcur3 hg3 hown HROWS HCUR HRD HGR HE hr1 hr2 hx1 hx2
      go_wp2_with (at_builtin; refine wpList_append_own _ rfl _ _ 45 rfl (w.heap.size + 1) 78 i0 (.agg #[.slice none 0 0, .slice none 0 0]) 2 48 Try.underlying45 hi hz0 hz1 hz2 rfl (by decide) _ k (evs acc) rfl ((hown3.alloc _).alloc _) ⟨w3.heap.size + 1, 0, none⟩ 1 1 (ev1 (en, qk, qv)) rfl rfl (ev1_new _ _ _) (ev1_one _) ?c3 ?c4 ?c5 ?_)
      case c3 => unfold maxLen; omega
      case c4 => omega
      case c5 => simp; omega
      intro v4 w4 hown4 hg4 _
      rw [← evs_snoc] at hown4
      have hlo : ∀ j, u7.ownBlock = some j → w.heap.size + 1 ≤ j := fun j hj => (hown3.lt j hj).1
      have HRW4 : Hid (∀ y ∈ acc ++ [(en, qk, qv)], okEn w4 (w.heap.size + 1) y) := hide (by
        intro y hy
        have h1 : ∀ o1 o2 : Obj, okEn ((w3.alloc o1).alloc o2) (w.heap.size + 1) y := fun o1 o2 => ((HRW.out y hy).kept (World.grownBy_alloc w3 o1 none) (by simp)).kept (World.grownBy_alloc (w3.alloc o1) o2 none) (by simp)
        exact (h1 _ _).kept hg4 (fun j hj => ⟨owns_not5 (by decide) hown3 (HRW.out y hy).2.2.1 j hj, owns_not5 (by decide) hown3 (HRW.out y hy).2.2.2.1 j hj⟩))
      have HC4 : Hid (Cur w4 w.heap.size a len cap l p2) := hide (((HC3.out.kept (World.grownBy_alloc _ _ _)).kept (World.grownBy_alloc _ _ _)).keptBy hg4 (fun j hj => ⟨by have := hlo j hj; omega, fun b off h1 h2 => by have := hlo j hj; have := HA.out b off h1 h2; omega⟩))
      have HG4 := hide (grown_far (grown_alloc (grown_alloc HG3.out _) _) hg4 (fun j hj => by have := hlo j hj; simp; omega))
      clear hown3 hg4 HRW HC3 HG3 hlo
      go_wp2
      go_roundw
      case rel => exact ⟨k + 1, p2, acc ++ [(en, qk, qv)], by omega, by go_num, hown4, HRW4, HC4, hp2, HR2, HG4⟩
      case measure => simp [intOf]; omega
    · obtain rfl : k = n := by omega
      have d2 : decide ((k : Int) < (k : Int)) = false := by simp
      have HR2 : Hid (rdEnts k (l.drop p') [] = .ok (acc.map (·.1), l.drop q)) := hide (by rw [HRD.out, Nat.sub_self, rdEnts])
      have HE := hide (isEnd_any wr w.heap.size a len cap l q HCUR.out)
      obtain ⟨a4, c4, rfl, hE4⟩ := isE_of_owns hown HROWS.out
      have HE4 := hide hE4
      have HLL : Hid ((acc.map (·.1)).length = k) := hide hE4.1
      have HB := hide (below_of_grown HGR.out)
      clear hown HROWS HRD hE4
      by_cases hend : q = len
      · have HN : Hid (rdEntries l = .ok (acc.map (·.1))) := hide (by rw [HN0.out.2 _ _ HR2.out, if_pos (by have := hlen.out; simp; omega)])
        rw [decide_eq_true hend] at HE
        clear hend
        go_wp2_with fail
        refine HE.out.mono ?_
        rintro e w5 ⟨rfl, m, rfl⟩
        have hB5 := below_drewN HB.out m
        have hE5 := HE4.out.below (below_drewN (Below.refl _ _) m)
        go_wp2
        go_ret2
        exact ⟨.inl ⟨_, a4, c4, HN.out, by rw [HLL.out]; rfl, by rw [HLL.out]; exact hE5⟩, hB5⟩
      · have HN : Hid (rdEntries l = .error 6) := hide (by rw [HN0.out.2 _ _ HR2.out, if_neg (by have := hlen.out; simp; omega)])
        rw [decide_eq_false hend] at HE
        clear hend
        go_wp2_with fail
        refine HE.out.mono ?_
        rintro e w5 ⟨rfl, m, rfl⟩
        have hB5 := below_drewN HB.out m
        go_wp2
        go_ret2
        exact ⟨.inr ⟨6, HN.out, by decide, rfl⟩, hB5⟩
end Go.Proofs.Ytnimlpbalfamcaa
