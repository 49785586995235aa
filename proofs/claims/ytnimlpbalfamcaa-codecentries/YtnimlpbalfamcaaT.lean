/- contracts: the document's Entries, ReadEntries, Copy -/
import Derived.Test.YtnimlpbalfamcaaS
import Derived.Test.YtnimlpbalfamcaaE
import Derived.Lib.ConvBytes
import Derived.Deep.RegionHeldLaw
namespace Go.Proofs.Ytnimlpbalfamcaa
open Go.RowKit Cod
set_option maxHeartbeats 1000000 in
theorem refTextR_at (m : Nat) (hm : m ≤ 1024) (a : Option Addr) (len cap : Nat) (l : List Nat) (w : World) (h : IsB w a len cap l) (hr : len ≤ 140737488355328) : Calls Try.prog 46 #[.slice a len cap, .int .u64 m] w fun e w' =>
      ((∃ s r a' c', rdText m l = .ok (s, r) ∧ (∀ x ∈ s, x < 256) ∧ s.length ≤ 1024 ∧ e = .returned (.tuple #[.string (str s), .slice a' r.length c', .int .i64 0]) ∧ IsB w' a' r.length c' r ∧ r.length ≤ len ∧ ∀ b off, a' = some ⟨b, off, none⟩ → 0 < r.length → w.heap.size ≤ b) ∨
       (∃ k : Nat, rdText m l = .error k ∧ k ≠ 0 ∧ k < 16 ∧ e = .returned (.tuple #[.string (str []), .slice none 0 0, .int .i64 k]))) ∧ Below w.heap.size w w' := by
  have hlen := h.1
  have hxs := h.2.2.2.1
  go_enter Try.func46, Try.ntmps46
  go_wp2_with fail
  refine (refReadNum_any a len cap l w h hr).mono ?_
  rintro e w2 ⟨(⟨n, p', v, hn, hn2, hp, rfl, hown⟩ | ⟨hn, rfl⟩), hb⟩
  case inr =>
    have HN : Hid (rdText m l = .error 6) := hide (by unfold rdText; rw [hn])
    clear hn
    go_wp2
    go_ret3
    exact ⟨.inr ⟨6, HN.out, by decide, by decide, rfl⟩, hb⟩
  obtain ⟨a', c', rfl, hB⟩ := owns_isB hown (mem_drop hxs)
  have HLO : ∀ b off, a' = some ⟨b, off, none⟩ → w.heap.size ≤ b := by rintro b off rfl; exact (hown.lt b rfl).1
  clear hown
  by_cases hmost : m < n
  · have HN : Hid (rdText m l = .error 4) := hide (by unfold rdText; rw [hn]; simp only; rw [if_pos hmost])
    have d1 : decide ((m : Int) < (n : Int)) = true := by simp; omega
    have d2 : decide (m < n) = true := by simp; omega
    clear hn
    go_wp2
    go_ret3
    exact ⟨.inr ⟨4, HN.out, by decide, by decide, rfl⟩, hb⟩
  have d1 : decide ((m : Int) < (n : Int)) = false := by simp; omega
  have d2 : decide (m < n) = false := by simp; omega
  have hw : IntKind.u64.wrap (((len - p' : Nat) : Int)) = ((len - p' : Nat) : Int) := by rw [IntKind.wrap_u64]; omega
  by_cases hfit : len - p' < n
  · have HN : Hid (rdText m l = .error 6) := hide (by unfold rdText; rw [hn]; simp only; rw [if_neg hmost, if_pos (by simp; omega)])
    have d3 : decide (((len - p' : Nat) : Int) < (n : Int)) = true := by simp; omega
    have d4 : decide (len - p' < n) = true := by simp; omega
    clear hn
    generalize len - p' = k at *
    go_wp2
    go_ret3
    exact ⟨.inr ⟨6, HN.out, by decide, by decide, rfl⟩, hb⟩
  · have HN : Hid (rdText m l = .ok ((l.drop p').take n, l.drop (p' + n))) := hide (by unfold rdText; rw [hn]; simp only; rw [if_neg hmost, if_neg (by simp; omega), List.drop_drop])
    have d3 : decide (((len - p' : Nat) : Int) < (n : Int)) = false := by simp; omega
    have d4 : decide (len - p' < n) = false := by simp; omega
    clear hn
    have hk : n ≤ len - p' := by omega
    generalize hK : len - p' = k at *
    have hck : k ≤ c' := hB.2.1
    have hcm : c' ≤ 9223372036854775807 := hB.2.2.1
    have HL : Hid (((l.drop p').take n).length = n) := hide (by simp; omega)
    have HL2 : Hid ((l.drop (p' + n)).length = k - n) := hide (by simp; omega)
    have HS := hide (mem_take (k := n) (mem_drop (k := p') hxs))
    have HLE : Hid (k - n ≤ len) := hide (by omega)
    have fin : ∀ (W : World) (a2 : Option Addr) (c2 : Nat), Below w2.heap.size w2 W → IsB W a2 (k - n) c2 (l.drop (p' + n)) → (∀ b off, a2 = some ⟨b, off, none⟩ → 0 < k - n → w.heap.size ≤ b) → ((∃ s r a' c', rdText m l = .ok (s, r) ∧ (∀ x ∈ s, x < 256) ∧ s.length ≤ 1024 ∧ Ending.returned (.tuple #[.string (str ((l.drop p').take n)), .slice a2 (k - n) c2, .int .i64 0]) = .returned (.tuple #[.string (str s), .slice a' r.length c', .int .i64 0]) ∧ IsB W a' r.length c' r ∧ r.length ≤ len ∧ ∀ b off, a' = some ⟨b, off, none⟩ → 0 < r.length → w.heap.size ≤ b) ∨
       (∃ k' : Nat, rdText m l = .error k' ∧ k' ≠ 0 ∧ k' < 16 ∧ Ending.returned (.tuple #[.string (str ((l.drop p').take n)), .slice a2 (k - n) c2, .int .i64 0]) = .returned (.tuple #[.string (str []), .slice none 0 0, .int .i64 k']))) ∧ Below w.heap.size w W := by
      intro W a2 c2 hW hI hA2
      refine ⟨.inl ⟨_, _, a2, c2, HN.out, HS.out, by rw [HL.out]; omega, by rw [HL2.out], by rw [HL2.out]; exact hI, by rw [HL2.out]; exact HLE.out, by rw [HL2.out]; exact hA2⟩, hb.trans (hW.mono hb.size)⟩
    have FIN := hide fin
    clear fin hK hb
    by_cases hk0 : k = 0
    · obtain rfl : n = 0 := by omega
      subst hk0
      have hcv := fun q => conv_str (w := w2.drewN q) (a := a') (len := 0) (cap := c') (l := []) ⟨rfl, by omega, hB.2.2.1, by simp, .inl ⟨rfl, fun h => by
        rcases hB.2.2.2.2 with ⟨_, h2⟩ | ⟨b, off, h2, _⟩
        · exact h2 h
        · rw [h] at h2; cases h2⟩⟩
      have HF := fun q => hide (FIN.out (w2.drewN q) a' c' (below_drewN (Below.refl _ _) q) (by
        have := hB.1
        refine ⟨by simp at this ⊢; omega, by omega, hB.2.2.1, mem_drop hxs, .inl ⟨by omega, fun h => by
          rcases hB.2.2.2.2 with ⟨_, h2⟩ | ⟨b, off, h2, _⟩
          · exact h2 h
          · rw [h] at h2; cases h2⟩⟩) (fun _ _ _ h => by omega))
      clear FIN
      cases a' with
      | none =>
        obtain rfl : c' = 0 := by
          rcases hB.2.2.2.2 with ⟨_, h2⟩ | ⟨b, off, h2, _⟩
          · exact h2 rfl
          · cases h2
        go_wp2
        go_quiet (fail)
        go_wp2
        go_ret3
        exact (HF nq).out
      | some x =>
        by_cases hc0 : c' = 0
        · subst hc0
          go_wp2
          go_quiet (fail)
          go_wp2
          go_ret3
          exact (HF nq).out
        · go_wp2
          go_quiet (fail)
          go_wp2
          go_ret3
          exact (HF nq).out
    · obtain ⟨b, off, rfl, _, _⟩ := hB.2.2.2.2.resolve_left (fun h => hk0 h.1)
      have hcv := fun q => conv_str (w := w2.drewN q) (hB.front n hk)
      by_cases hc0 : c' = n
      · obtain rfl := hc0
        obtain rfl : k = c' := by omega
        have HF := fun q => hide (FIN.out (w2.drewN q) (some ⟨b, off, none⟩) 0 (below_drewN (Below.refl _ _) q) ⟨HL2.out, by omega, by simp, mem_drop hxs, .inl ⟨by omega, by intro h; cases h⟩⟩ (fun _ _ _ h => by omega))
        rw [Nat.sub_self] at HF
        clear FIN
        go_wp2
        go_quiet (fail)
        go_wp2
        go_ret3
        exact (HF nq).out
      · have HF := fun q => hide (FIN.out (w2.drewN q) (some ⟨b, off + n, none⟩) (c' - n) (below_drewN (Below.refl _ _) q) (by have := hB.back n hk; rw [List.drop_drop] at this; exact this) (fun b' off' h _ => by cases h; exact HLO _ _ rfl))
        clear FIN
        go_wp2
        go_quiet (fail)
        go_wp2
        go_ret3
        exact (HF nq).out
/-- an entry and where its key and its value lie -/
abbrev Eg := Ent × (Option Addr × Nat) × (Option Addr × Nat)
def gv1 (y : Eg) : List Value := [.slice y.2.1.1 y.1.1.length y.2.1.2, .slice y.2.2.1 y.1.2.length y.2.2.2]
def gvs (l : List Eg) : List Value := l.flatMap gv1
theorem gvs_snoc (l : List Eg) (y : Eg) : gvs (l ++ [y]) = gvs l ++ gv1 y := by simp [gvs]
theorem gvs_length (l : List Eg) : (gvs l).length = l.length * 2 := by
  induction l with
  | nil => rfl
  | cons y t ih =>
    have : gvs (y :: t) = gv1 y ++ gvs t := by simp [gvs]
    rw [this, List.length_append, ih, List.length_cons]; simp [gv1]; omega
theorem gvs_get (l : List Eg) : ∀ i y, l[i]? = some y → (gvs l)[i * 2]? = some (.slice y.2.1.1 y.1.1.length y.2.1.2) ∧ (gvs l)[i * 2 + 1]? = some (.slice y.2.2.1 y.1.2.length y.2.2.2) := by
  induction l with
  | nil => intro i y h; simp at h
  | cons z t ih =>
    intro i y h
    have e : gvs (z :: t) = gv1 z ++ gvs t := by simp [gvs]
    cases i with
    | zero => simp at h; subst h; rw [e]; exact ⟨rfl, rfl⟩
    | succ i =>
      simp at h
      have := ih i y h
      rw [e, show (i + 1) * 2 = i * 2 + 2 by omega, List.getElem?_append_right (by simp [gv1]), List.getElem?_append_right (by simp [gv1])]
      simpa [gv1] using this
/-- it lies in bytes of its own -/
def At5 (w : World) (base : Nat) (a : Option Addr) : Prop := ∀ b off, a = some ⟨b, off, none⟩ → base ≤ b ∧ b < w.heap.size ∧ ∃ cur m, w.heap[b]? = some (.cells cur 5 m)
theorem At5.kept {w w' : World} {base : Nat} {a : Option Addr} {r : Option Nat} (h : At5 w base a) (hg : w.grownBy w' r) (hr : ∀ k, r = some k → ∀ b off, a = some ⟨b, off, none⟩ → b ≠ k) : At5 w' base a := by
  intro b off ha
  obtain ⟨h1, h2, cur, m, h3⟩ := h b off ha
  exact ⟨h1, Nat.lt_of_lt_of_le h2 hg.size, cur, m, (hg.block b h2 (fun e => hr b e.symm b off ha rfl)).trans h3⟩
theorem IsB.keptBy {w w' : World} {a : Option Addr} {len cap : Nat} {l : List Nat} {r : Option Nat} (h : IsB w a len cap l) (hg : w.grownBy w' r) (hr : ∀ k, r = some k → ∀ b off, a = some ⟨b, off, none⟩ → 0 < len → b ≠ k) : IsB w' a len cap l := by
  cases r with
  | none => exact h.kept (g := w.heap.size) (grown_any hg) (fun b off ha hl => by
      rcases h.2.2.2.2 with ⟨h0, _⟩ | ⟨b', off', hb', hlt, _⟩
      · omega
      · rw [ha] at hb'; cases hb'; omega)
  | some k => exact h.kept hg (hr k rfl)
def okG (w : World) (base : Nat) (y : Eg) : Prop := IsB w y.2.1.1 y.1.1.length y.2.1.2 y.1.1 ∧ IsB w y.2.2.1 y.1.2.length y.2.2.2 y.1.2 ∧ (0 < y.1.1.length → At5 w base y.2.1.1) ∧ (0 < y.1.2.length → At5 w base y.2.2.1)
theorem okG.kept {w w' : World} {base : Nat} {y : Eg} {r : Option Nat} (h : okG w base y) (hg : w.grownBy w' r) (hr : ∀ k, r = some k → ∀ b off, (y.2.1.1 = some ⟨b, off, none⟩ ∧ 0 < y.1.1.length ∨ y.2.2.1 = some ⟨b, off, none⟩ ∧ 0 < y.1.2.length) → b ≠ k) : okG w' base y :=
  ⟨h.1.keptBy hg (fun k hk b off ha h0 => hr k hk b off (.inl ⟨ha, h0⟩)), h.2.1.keptBy hg (fun k hk b off ha h0 => hr k hk b off (.inr ⟨ha, h0⟩)), fun h0 => (h.2.2.1 h0).kept hg (fun k hk b off ha => hr k hk b off (.inl ⟨ha, h0⟩)), fun h0 => (h.2.2.2 h0).kept hg (fun k hk b off ha => hr k hk b off (.inr ⟨ha, h0⟩))⟩
theorem owns_not5' {w : World} {base e size n : Nat} {v : Value} {xs : List Value} (he : e ≠ 5) (h : w.ownsRow base e size v n xs) {base' : Nat} {a : Option Addr} (hr : At5 w base' a) : ∀ k, v.ownBlock = some k → ∀ b off, a = some ⟨b, off, none⟩ → b ≠ k := by
  intro k hk b off ha
  rcases h.2 with ⟨rfl, _⟩ | ⟨g, c, cur, rfl, _, hg, _⟩
  · cases hk
  · cases hk
    rintro rfl
    obtain ⟨_, _, cur', m, hq⟩ := hr _ off ha
    rw [hg] at hq
    simp at hq
    exact he hq.2.1
theorem okG.owns {w w' : World} {base b' e size n : Nat} {v : Value} {xs : List Value} {y : Eg} (h : okG w base y) (he : e ≠ 5) (ho : w.ownsRow b' e size v n xs) (hg : w.grownBy w' v.ownBlock) : okG w' base y :=
  h.kept hg (fun k hk b off hb => hb.elim (fun ha => owns_not5' he ho (h.2.2.1 ha.2) k hk b off ha.1) (fun ha => owns_not5' he ho (h.2.2.2 ha.2) k hk b off ha.1))
theorem below_grown {w w' : World} (h : Below w.heap.size w w') (r : Option Nat) : w.grownBy w' r := ⟨h.os, h.tape, h.output, h.size, fun k hk _ => h.block k hk⟩
theorem okG.below {w w' : World} {base : Nat} {y : Eg} (h : okG w base y) (hb : Below w.heap.size w w') : okG w' base y := h.kept (below_grown hb none) (by simp)
theorem isE_of_ownsG {w : World} {base b' : Nat} {v : Value} {n : Nat} {l : List Eg} (h : w.ownsRow b' 78 2 v n (gvs l)) (hl : ∀ y ∈ l, okG w base y) : ∃ a cap, v = .slice a n cap ∧ IsE w a n cap (l.map (·.1)) := by
  obtain ⟨h1, h2⟩ := h
  rw [gvs_length] at h1
  have hn : l.length = n := by omega
  rcases h2 with ⟨rfl, rfl⟩ | ⟨g, cap, cur, rfl, hb, hg, hc, hm, hs, ht⟩
  · exact ⟨none, 0, rfl, by simpa using hn, Nat.le_refl _, Nat.zero_le _, .inl ⟨rfl, fun _ => rfl⟩⟩
  · refine ⟨_, cap, rfl, by simpa using hn, hc, hm, .inr ⟨g, 0, rfl, ?_, ?_⟩⟩
    · by_cases h : g < w.heap.size
      · exact h
      · rw [Array.getElem?_eq_none (by omega)] at hg; cases hg
    · intro i e hi
      rw [List.getElem?_map] at hi
      cases hy : l[i]? with
      | none => rw [hy] at hi; cases hi
      | some y =>
        rw [hy] at hi
        simp only [Option.map_some, Option.some.injEq] at hi
        subst hi
        have hil : i < l.length := (List.getElem?_eq_some_iff.1 hy).1
        obtain ⟨r1, r2, _, _⟩ := hl y (List.mem_of_getElem? hy)
        obtain ⟨g1, g2⟩ := gvs_get l i y hy
        refine ⟨_, _, _, _, ?_, ?_, r1, r2⟩
        · rw [← ht, List.getElem?_take, if_pos (by omega)] at g1
          simp only [World.cell?, hg, Nat.zero_add]
          simpa using g1
        · rw [← ht, List.getElem?_take, if_pos (by omega)] at g2
          simp only [World.cell?, hg, Nat.zero_add]
          simpa using g2
theorem gv1_one (y : Eg) : ∀ u ∈ gv1 y, u.oneCell' = true := by
  intro u hu; simp [gv1] at hu; rcases hu with rfl | rfl <;> rfl
theorem gv1_new (w : World) (y : Eg) : ∀ j u, (gv1 y)[j]? = some u → (w.alloc (.cells (gv1 y).toArray 78)).cell? ((⟨w.heap.size, 0, none⟩ : Addr).add j) = some u := by
  intro j u hj
  rw [addr_add]
  have hn := heap_alloc_new w (.cells (gv1 y).toArray 78)
  simp only [World.cell?, hn]
  simpa using hj
/-- []byte(s) -/
theorem conv_bytes (W : World) (l : List Nat) (hl : ∀ x ∈ l, x < 256) (hm : l.length ≤ 1024) : ∃ c W', (convert 9 22 (.string (str l))).run Try.prog W = .ok (.slice (some ⟨W.heap.size, 0, none⟩) l.length c) W' ∧ W'.heap.size = W.heap.size + 1 ∧ IsB W' (some ⟨W.heap.size, 0, none⟩) l.length c l ∧ At5 W' W.heap.size (some ⟨W.heap.size, 0, none⟩) ∧ Below W.heap.size W W' := by
  have hr := Go.Lib.run_convert_string_bytes (P := Try.prog) W 9 22 5 (str l) Try.underlying9 Try.underlying22 Try.underlying5
  rw [str_size] at hr
  have hsz := Go.Lib.bytesWorld_size W 5 (str l)
  refine ⟨_, _, hr, hsz, ?_, ?_, ?_⟩
  · refine ⟨rfl, grownCap_ge _ _ _ _, grownCap_le_maxLen _ _ _ _ (by unfold maxLen; omega), hl, .inr ⟨_, 0, rfl, by rw [hsz]; omega, fun i hi => ?_⟩⟩
    rw [Nat.zero_add, Go.Lib.bytesWorld_cell _ _ _ _ (by rw [str_size]; exact hi)]
    have hb := bl_str hl
    have e : l.getD i 0 = ((str l).data.toList.getD i 0).toNat := by
      conv => lhs; rw [← hb]
      simp only [bl, List.getD_eq_getElem?_getD, List.getElem?_map]
      cases (str l).data.toList[i]? <;> rfl
    rw [e]
  · intro b off hb
    cases hb
    exact ⟨Nat.le_refl _, by rw [hsz]; omega, _, _, Go.Lib.bytesWorld_at_new W 5 (str l)⟩
  · refine ⟨rfl, rfl, rfl, by rw [hsz]; omega, fun k hk => Go.Lib.bytesWorld_at_old W 5 (str l) k hk⟩
set_option maxHeartbeats 2000000 in
/-- ladingref03.ReadEntries -/
theorem refReadEntries_any (a : Option Addr) (len cap : Nat) (l : List Nat) (w : World) (h : IsB w a len cap l) (hr : len ≤ 140737488355328) :
    Calls Try.prog 35 #[.slice a len cap] w fun e w' =>
      ((∃ es a' c', rdEntries l = .ok es ∧ e = .returned (.tuple #[.slice a' es.length c', .int .i64 0]) ∧ IsE w' a' es.length c' es) ∨
       (∃ k : Nat, rdEntries l = .error k ∧ k ≠ 0 ∧ e = .returned (.tuple #[.slice none 0 0, .int .i64 k]))) ∧ Below w.heap.size w w' := by
  obtain ⟨i0, hi, hz0, hz1, hz2⟩ := info_parts Try.info78
  have hc := hide (refReadNum_any a len cap l w h hr)
  have hlen := hide h.1
  have Hxs := hide h.2.2.2.1
  clear h
  go_enter Try.func35, Try.ntmps35
  go_wp2_with fail
  refine hc.out.mono ?_
  rintro e w2 ⟨(⟨n, p', v, hn, hn2, hp, rfl, hown⟩ | ⟨hn, rfl⟩), hb⟩
  case inr =>
    have HN : Hid (rdEntries l = .error 6) := hide (by unfold rdEntries; rw [hn])
    clear hn
    go_wp2
    go_ret2
    exact ⟨.inr ⟨6, HN.out, by decide, rfl⟩, hb⟩
  obtain ⟨a2, c2, rfl, hB⟩ := owns_isB hown (mem_drop Hxs.out)
  have HLO : ∀ b off, a2 = some ⟨b, off, none⟩ → w.heap.size ≤ b := by rintro b off rfl; exact (hown.lt b rfl).1
  clear hown
  by_cases hmost : 4096 < n
  · have HN : Hid (rdEntries l = .error 3) := hide (by unfold rdEntries; rw [hn]; simp only; rw [if_pos hmost])
    have d1 : decide ((4096 : Int) < (n : Int)) = true := by simp; omega
    have d2 : decide (4096 < n) = true := by simp; omega
    clear hn hn2
    go_wp2
    go_ret2
    exact ⟨.inr ⟨3, HN.out, by decide, rfl⟩, hb⟩
  have d1 : decide ((4096 : Int) < (n : Int)) = false := by simp; omega
  have d2 : decide (4096 < n) = false := by simp; omega
  have hn3 : n ≤ 4096 := by omega
  have HN0 := hide (rdEntries_of hn hmost)
  have hB' : IsB w2 a2 (l.drop p').length c2 (l.drop p') := by have := hB.1; rw [this]; exact hB
  have hll : len - p' = (l.drop p').length := hB.1.symm
  rw [hll]
  have HRL : Hid ((l.drop p').length ≤ len) := hide (by rw [← hll]; omega)
  have HRX : Hid (∀ x ∈ l.drop p', x < 256) := hide (mem_drop Hxs.out)
  have HB := hide hb
  have HBB := hide hB'
  clear hn hn2 hmost hb hc hB hB' hll
  generalize hr0 : l.drop p' = r0 at *
  clear hr0
  go_wp2_with fail
  go_loopw [5, 7, 8, 9, 10, 11, 12] (fun y x i _ _ _ _ wr => ∃ (k : Nat) (r : List Nat) (ar : Option Addr) (cr : Nat) (acc : List Eg), k ≤ n ∧ i = .int .u64 k ∧ y = .slice ar r.length cr ∧ r.length ≤ len ∧ Hid (IsB wr ar r.length cr r) ∧ wr.ownsRow w.heap.size 78 2 x k (gvs acc) ∧ Hid (∀ y ∈ acc, okG wr w.heap.size y) ∧ Hid (rdEnts n r0 [] = rdEnts (n - k) r (acc.map (·.1))) ∧ Hid (Below w.heap.size w wr)) (fun _ _ i _ _ _ _ _ => n - (intOf i).toNat)
  case atStart => exact ⟨0, r0, a2, c2, [], by omega, rfl, rfl, HRL.out, HBB, World.ownsRow_nil _ _ _ _, hide (by simp), hide rfl, HB⟩
  case round =>
    obtain ⟨k, r, ar, cr, acc, hk, rfl, rfl, hrl, HR, hown, HROWS, HRD, HBEL⟩ := hrel
    clear HB HBB HLO
    have hwz : w.heap.size ≤ wr.heap.size := HBEL.out.size
    by_cases hlt : k < n
    · have d3 : decide ((k : Int) < (n : Int)) = true := by simp; omega
      have HE := hide (refTextR_at 256 (by decide) ar r.length cr r wr HR.out (by omega))
      have hnk : n - k = (n - (k + 1)) + 1 := by omega
      have HNK := hide hnk
      clear hnk
      go_wp2_with fail
      refine HE.out.mono ?_
      rintro e w3 ⟨(⟨s, r3, a3, c3, he, hs, hs2, rfl, hB3, hl3, hlo3⟩ | ⟨m, he, hm, hm2, rfl⟩), hb3⟩
      case inr =>
        have HN : Hid (rdEntries l = .error m) := hide (HN0.out.1 m (by rw [HRD.out, HNK.out, rdEnts_err (by unfold rdEnt; rw [he])]))
        have d4 : ((m : Int) != 0) = true := by simp; omega
        have HB3 := hide (HBEL.out.trans (hb3.mono HBEL.out.size))
        clear he hb3
        go_wp2
        go_ret2
        exact ⟨.inr ⟨m, HN.out, hm, rfl⟩, HB3.out⟩
      have HE3 := hide he
      have HE2 := hide (refTextR_at 512 (by decide) a3 r3.length c3 r3 w3 hB3 (by omega))
      have HB3 := hide hb3
      clear he hb3 hB3 hlo3 HE HR
      go_wp2_with fail
      refine HE2.out.mono ?_
      rintro e w4 ⟨(⟨t, r4, a4, c4, he, ht, ht2, rfl, hB4, hl4, hlo4⟩ | ⟨m, he, hm, hm2, rfl⟩), hb4⟩
      case inr =>
        have HN : Hid (rdEntries l = .error m) := hide (HN0.out.1 m (by rw [HRD.out, HNK.out, rdEnts_err (by unfold rdEnt; rw [HE3.out]; simp only; rw [he])]))
        have d4 : ((m : Int) != 0) = true := by simp; omega
        have HB4 := hide (HBEL.out.trans ((HB3.out.trans (hb4.mono HB3.out.size)).mono HBEL.out.size))
        clear he hb4
        go_wp2
        go_ret2
        exact ⟨.inr ⟨m, HN.out, hm, rfl⟩, HB4.out⟩
      have hRD : rdEnt r = .ok ((s, t), r4) := by unfold rdEnt; rw [HE3.out]; simp only; rw [he]
      have hb34 := HB3.out.trans (hb4.mono HB3.out.size)
      have hown4 : w4.ownsRow w.heap.size 78 2 u7 k (gvs acc) := hown.kept (below_grown hb34 none) (by cases hq : u7.ownBlock <;> simp)
      obtain ⟨ck, w5, cv1, hz5, hk5, hat5, hb5⟩ := conv_bytes w4 s hs hs2
      obtain ⟨cv, w6, cv2, hz6, hv6, hat6, hb6⟩ := conv_bytes w5 t ht ht2
      have hown6 : w6.ownsRow w.heap.size 78 2 u7 k (gvs acc) := (hown4.kept (below_grown hb5 none) (by cases hq : u7.ownBlock <;> simp)).kept (below_grown hb6 none) (by cases hq : u7.ownBlock <;> simp)
      have hw4 : w.heap.size ≤ w4.heap.size := by have := hb34.size; omega
      have hw6 : w.heap.size ≤ w6.heap.size := by omega
      have hb36 := (hb34.trans (hb5.mono hb34.size)).trans (hb6.mono (by have := hb34.size; omega))
      have hat1 : At5 w6 w.heap.size (some ⟨w4.heap.size, 0, none⟩) := by
        have := hat5.kept (below_grown hb6 none) (by simp)
        intro b off hb'
        obtain ⟨h1, h2⟩ := this b off hb'
        exact ⟨by omega, h2⟩
      have hat2 : At5 w6 w.heap.size (some ⟨w5.heap.size, 0, none⟩) := by
        intro b off hb'
        obtain ⟨h1, h2⟩ := hat6 b off hb'
        exact ⟨by omega, h2⟩
      have HRW6 : Hid (∀ y ∈ acc ++ [((s, t), (some ⟨w4.heap.size, 0, none⟩, ck), (some ⟨w5.heap.size, 0, none⟩, cv))], okG w6 w.heap.size y) := hide (by
        intro y hy
        rcases List.mem_append.1 hy with hy | hy
        · exact (HROWS.out y hy).below hb36
        · simp at hy; subst hy; exact ⟨hk5.below hb6, hv6, fun _ => hat1, fun _ => hat2⟩)
      have HR6 : Hid (IsB w6 a4 r4.length c4 r4) := hide ((hB4.below hb5).below hb6)
      have HLO4 : Hid (∀ b off, a4 = some ⟨b, off, none⟩ → 0 < r4.length → wr.heap.size ≤ b) := hide (fun b off h1 h2 => Nat.le_trans HB3.out.size (hlo4 b off h1 h2))
      have HR2 : Hid (rdEnts n r0 [] = rdEnts (n - (k + 1)) r4 ((acc ++ [((s, t), (some (⟨w4.heap.size, 0, none⟩ : Addr), ck), (some (⟨w5.heap.size, 0, none⟩ : Addr), cv))]).map (·.1))) := hide (by rw [HRD.out, HNK.out, rdEnts_one hRD]; simp)
      have HB6 := hide (HBEL.out.trans (hb36.mono HBEL.out.size))
      have HOLT : Hid (∀ j, u7.ownBlock = some j → j < wr.heap.size) := hide (fun j hj => (hown.lt j hj).2)
      clear hz5 hz6 he hRD hb4 hb34 hown hown4 hb5 hb6 hk5 hv6 hat5 hat6 hat1 hat2 hB4 hlo4 hb36 HROWS HRD HE2 HE3 HB3
      go_wp2_with (at_builtin; refine wpList_append_own _ rfl _ _ 45 rfl w.heap.size 78 i0 (.agg #[.slice none 0 0, .slice none 0 0]) 2 48 Try.underlying45 hi hz0 hz1 hz2 rfl (by decide) _ k (gvs acc) rfl (hown6.alloc _) ⟨w6.heap.size, 0, none⟩ 1 1 (gv1 ((s, t), (some ⟨w4.heap.size, 0, none⟩, ck), (some ⟨w5.heap.size, 0, none⟩, cv))) rfl rfl (gv1_new _ _) (gv1_one _) ?c3 ?c4 ?c5 ?_)
      case c3 => unfold maxLen; omega
      case c4 => omega
      case c5 => simp; omega
      intro v7 w7 hown7 hg7 _
      rw [← gvs_snoc] at hown7
      have hlo : ∀ j, u7.ownBlock = some j → w.heap.size ≤ j := fun j hj => (hown6.lt j hj).1
      have HRW7 : Hid (∀ y ∈ acc ++ [((s, t), (some ⟨w4.heap.size, 0, none⟩, ck), (some ⟨w5.heap.size, 0, none⟩, cv))], okG w7 w.heap.size y) := hide (by
        intro y hy
        exact (((HRW6.out y hy).kept (World.grownBy_alloc w6 _ none) (by simp)).owns (by decide) (hown6.alloc _) hg7))
      have HR7 : Hid (IsB w7 a4 r4.length c4 r4) := hide ((HR6.out.keptBy (World.grownBy_alloc w6 _ none) (by simp)).keptBy hg7 (fun j hj b off h1 h2 => by have := HLO4.out b off h1 h2; have := HOLT.out j hj; omega))
      have HB7 : Hid (Below w.heap.size w w7) := hide ((HB6.out.alloc HB6.out.size _).grown hg7 (by simp; omega) hlo)
      clear hown6 hg7 HRW6 HR6 HB6 hlo HLO4 HOLT
      go_wp2
      go_roundw
      case rel => exact ⟨k + 1, r4, a4, c4, _, by omega, by go_num, rfl, by omega, HR7, hown7, HRW7, HR2, HB7⟩
      case measure => simp [intOf]; omega
    · obtain rfl : k = n := by omega
      have d3 : decide ((k : Int) < (k : Int)) = false := by simp
      have HR2 : Hid (rdEnts k r0 [] = .ok (acc.map (·.1), r)) := hide (by rw [HRD.out, Nat.sub_self, rdEnts])
      obtain ⟨a4, c4, rfl, hE4⟩ := isE_of_ownsG hown HROWS.out
      have HE4 := hide hE4
      have HLL : Hid ((acc.map (·.1)).length = k) := hide hE4.1
      clear hown HROWS HRD hE4
      by_cases hend : r.length = 0
      · have HN : Hid (rdEntries l = .ok (acc.map (·.1))) := hide (by rw [HN0.out.2 _ _ HR2.out, if_pos hend])
        have d4 : decide ((0 : Int) < (r.length : Int)) = false := decide_eq_false (by omega)
        have d5 : decide (0 < r.length) = false := decide_eq_false (by omega)
        clear hend
        generalize r.length = rl at *
        go_wp2
        go_ret2
        exact ⟨.inl ⟨_, a4, c4, HN.out, by rw [HLL.out]; rfl, by rw [HLL.out]; exact HE4.out⟩, HBEL.out⟩
      · have HN : Hid (rdEntries l = .error 6) := hide (by rw [HN0.out.2 _ _ HR2.out, if_neg hend])
        have d4 : decide ((0 : Int) < (r.length : Int)) = true := decide_eq_true (by omega)
        have d5 : decide (0 < r.length) = true := decide_eq_true (by omega)
        clear hend
        generalize r.length = rl at *
        go_wp2
        go_ret2
        exact ⟨.inr ⟨6, HN.out, by decide, rfl⟩, HBEL.out⟩
/-- append([]byte{}, b...) -/
theorem run_fresh (W : World) (ty : TypeId) (ad : Addr) (src : Option Addr) (len cap : Nat) (l : List Nat) (hB : IsB W src len cap l) (hb : len ≤ 140737488355328) :
    ∃ a' c' W', (Builtin.append_ #[22, 22] ty #[.slice (some ad) 0 0, .slice src len cap]).run Try.prog W = .ok (.slice a' len c') W' ∧ IsB W' a' len c' l ∧ (0 < len → At5 W' W.heap.size a') ∧ Below W.heap.size W W' := by
  obtain ⟨i0, hi, hz0, hz1, hz2⟩ := info_parts Try.info5
  obtain ⟨h1, h2, h3, h4, h5⟩ := id hB
  by_cases h0 : len = 0
  · subst h0
    obtain rfl : l = [] := List.length_eq_zero_iff.1 h1
    refine ⟨some ad, 0, W, ?_, ⟨rfl, Nat.le_refl _, Nat.zero_le _, by simp, .inl ⟨rfl, by intro h; cases h⟩⟩, by omega, Below.refl _ _⟩
    cases src with
    | none => simp [Builtin.append_, run_underlying Try.underlying22, sizeOf, Builtin.lenOf, Builtin.firstCells, storeCells]
    | some x =>
      have hl : (loadCells x 0).run Try.prog W = .ok #[] W := by simpa using run_loadCells_list (P := Try.prog) W x [] (by simp)
      simp [hl, Builtin.append_, run_underlying Try.underlying22, sizeOf, Builtin.lenOf, Builtin.firstCells, storeCells]
  · obtain ⟨b, off, rfl, hlt, hc⟩ := h5.resolve_left (fun h => h0 h.1)
    have hr := run_append_grow (P := Try.prog) (w := W) 22 ty 5 i0 _ Try.underlying22 hi hz0 ad 0 0 [] (by simp) (by simp) ⟨b, off, none⟩ len cap (bv l) (by rw [bv_length, h1, hz1]; omega) hB.src (by omega) (by omega) (by rw [Nat.zero_add, hz2, nextslicecap_zero (by omega)]; omega)
    rw [Nat.zero_add] at hr
    refine ⟨_, _, _, hr, ?_, ?_, ?_⟩
    · refine ⟨h1, grownCap_ge _ _ _ _, grownCap_le_maxLen _ _ _ _ (by unfold maxLen; omega), h4, .inr ⟨_, 0, rfl, by simp, fun i hi' => ?_⟩⟩
      rw [Nat.zero_add]
      have hn := heap_alloc_new W.drew (.cells (([] : List Value).toArray ++ (bv l).toArray ++ Builtin.zeroCells (Value.int .u8 0).cells (grownCap W len 0 5 - len)) 5)
      have hv := bv_get l i (by omega)
      simp only [World.cell?]
      rw [show W.drew.heap.size = W.heap.size from rfl] at hn
      rw [hn]
      simp only [List.append_toArray, List.nil_append]
      rw [Array.getElem?_append_left (by simp [bv_length]; omega)]
      simpa using hv
    · intro _ b' off' hb'
      cases hb'
      exact ⟨Nat.le_refl _, by simp, _, _, heap_alloc_new W.drew _⟩
    · exact (Below.drew (Below.refl _ _)).alloc (Nat.le_refl _) _
theorem step_fresh {ops : Array Oper} {o : Oper} {a : Act} {w : World} {K : Act → World → Prop} {Q : Exit → Act → World → Prop} {E : Prop} (hw : Region.wanted o (yielded ops a.tmps) = true) (s x : Operand)
    (ho : o.op = .call { callee := .builtin .append, args := #[s, x], argTypes := #[22, 22] }) (ad : Addr) (hs : a.eval s = .slice (some ad) 0 0) (src : Option Addr) (len cap : Nat) (l : List Nat) (hx : a.eval x = .slice src len cap)
    (w0 : World) (hB : IsB w0 src len cap l) (hb : len ≤ 140737488355328) (hbel : Below w0.heap.size w0 w)
    (h : ∀ a' c' w', IsB w' a' len c' l → (0 < len → At5 w' w0.heap.size a') → Below w0.heap.size w0 w' → Below w.heap.size w w' → K (a.put o.dst (.slice a' len c')) w') : if Region.wanted o (yielded ops a.tmps) = true then Oper.wp Try.prog o a w K Q else E := by
  rw [if_pos hw]
  obtain ⟨a', c', w', hr, h1, h2, h3⟩ := run_fresh w o.type ad src len cap l (hB.below hbel) hb
  have hk := h a' c' w' h1 (fun h0 b off hb' => by obtain ⟨g1, g2⟩ := h2 h0 b off hb'; exact ⟨Nat.le_trans hbel.size g1, g2⟩) (hbel.trans (h3.mono hbel.size)) h3
  unfold Oper.wp
  simp [execOp, ho, resolve, invoke, builtin, hs, hx, hr, Result.andThen]
  exact hk
theorem step_list {ops : Array Oper} {o : Oper} {a : Act} {w : World} {K : Act → World → Prop} {Q : Exit → Act → World → Prop} {E : Prop} (hw : Region.wanted o (yielded ops a.tmps) = true) (s x : Operand)
    (ho : o.op = .call { callee := .builtin .append, args := #[s, x], argTypes := #[45, 45] }) (base : Nat) (v : Value) (n : Nat) (xs : List Value) (hs : a.eval s = v) (hown : w.ownsRow base 78 2 v n xs)
    (y : Eg) (hx : a.eval x = .slice (some ⟨w.heap.size, 0, none⟩) 1 1) (hn : (n + 1) * 48 ≤ 140737488355328) (hbase : base ≤ w.heap.size)
    (h : ∀ v' w', w'.ownsRow base 78 2 v' (n + 1) (xs ++ gv1 y) → (w.alloc (.cells (gv1 y).toArray 78)).grownBy w' v.ownBlock → K (a.put o.dst v') w') : if Region.wanted o (yielded ops a.tmps) = true then Oper.wp Try.prog o a (w.alloc (.cells (gv1 y).toArray 78)) K Q else E := by
  rw [if_pos hw]
  obtain ⟨i0, hi, hz0, hz1, hz2⟩ := info_parts Try.info78
  refine wp_append_own (P := Try.prog) _ s x 45 ho base 78 i0 (.agg #[.slice none 0 0, .slice none 0 0]) 2 48 Try.underlying45 hi hz0 hz1 hz2 rfl (by decide) v n xs hs (hown.alloc _) ⟨w.heap.size, 0, none⟩ 1 1 (gv1 y) hx rfl (gv1_new _ _) (gv1_one _) (by unfold maxLen; omega) hn (by simp; omega) ?_
  intro v' w' ho' hg _
  exact h v' w' ho' hg
set_option maxHeartbeats 2000000 in
theorem copy_some (b off len cap : Nat) (es : List Ent) (w : World) (h : IsE w (some ⟨b, off, none⟩) len cap es) (h0 : 0 < len) (hr : len * 48 ≤ 140737488355328) (hrs : ∀ e ∈ es, e.1.length ≤ 140737488355328 ∧ e.2.length ≤ 140737488355328) :
    Calls Try.prog 31 #[.slice (some ⟨b, off, none⟩) len cap] w fun e w' => (∃ a' c', e = .returned (.slice a' len c') ∧ IsE w' a' len c' es) ∧ Below w.heap.size w w' := by
  have hcl : len ≤ cap := h.2.1
  have hcm : cap ≤ 9223372036854775807 := h.2.2.1
  have Hlen := hide h.1
  have HRS := hide hrs
  have H := hide h
  clear h hrs
  go_enter Try.func31, Try.ntmps31
  go_wp2_with fail
  go_loopw [3, 5, 8] (fun x _ i wr => ∃ (k : Nat) (acc : List Eg), k ≤ len ∧ i = .int .i64 k ∧ wr.ownsRow w.heap.size 78 2 x k (gvs acc) ∧ Hid (∀ y ∈ acc, okG wr w.heap.size y) ∧ Hid (acc.map (·.1) = es.take k) ∧ Hid (Below w.heap.size w wr)) (fun _ _ i _ => len - (intOf i).toNat)
  case atStart => exact ⟨0, [], by omega, rfl, World.ownsRow_nil _ _ _ _, hide (by simp), hide rfl, hide (Below.refl _ _)⟩
  case round =>
    obtain ⟨k, acc, hk, rfl, hown, HROWS, HACC, HBEL⟩ := hrel
    have hwz : w.heap.size ≤ wr.heap.size := HBEL.out.size
    by_cases hlt : k < len
    · obtain ⟨⟨ek, ev⟩, hp⟩ : ∃ p, es[k]? = some p := ⟨es[k]'(by have := Hlen.out; omega), List.getElem?_eq_getElem _⟩
      obtain ⟨b', off', hbe, hblt, hc⟩ := (H.out.below HBEL.out).2.2.2.resolve_left (fun h => by omega)
      cases hbe
      obtain ⟨ka, kc, va, vc, c1, c2, b1, b2⟩ := hc k _ hp
      dsimp only at c1 c2 b1 b2
      have hls := HRS.out _ (List.mem_of_getElem? hp)
      have hl1 : ek.length ≤ 140737488355328 := hls.1
      have hl2 : ev.length ≤ 140737488355328 := hls.2
      have d1 : decide ((k : Int) < (len : Int)) = true := by simp; omega
      have HACC2 : Hid (acc.map (·.1) ++ [(ek, ev)] = es.take (k + 1)) := hide (by rw [List.take_add_one, hp, HACC.out]; rfl)
      have hW0 : Below wr.heap.size wr (wr.alloc (.cells #[.slice ka ek.length kc, .slice va ev.length vc] 78)) := (Below.refl _ _).alloc (Nat.le_refl _) _
      have HK0 := hide (b1.below hW0)
      have HV0 := hide (b2.below hW0)
      have hE : (wr.alloc (.cells #[.slice ka ek.length kc, .slice va ev.length vc] 78)).heap[wr.heap.size]? = some (.cells #[.slice ka ek.length kc, .slice va ev.length vc] 78 (0, 0)) := heap_alloc_new wr _
      have hEs : wr.heap.size < (wr.alloc (.cells #[.slice ka ek.length kc, .slice va ev.length vc] 78)).heap.size := by simp
      have HROWS0 : Hid (∀ y ∈ acc, okG (wr.alloc (.cells #[.slice ka ek.length kc, .slice va ev.length vc] 78)) w.heap.size y) := hide (fun y hy => (HROWS.out y hy).below hW0)
      have hown0 := hown.alloc (.cells #[.slice ka ek.length kc, .slice va ev.length vc] 78)
      have hnb : u3.ownBlock ≠ some wr.heap.size := fun h => by have := (hown.lt _ h).2; omega
      have HBEL0 : Hid (Below w.heap.size w (wr.alloc (.cells #[.slice ka ek.length kc, .slice va ev.length vc] 78))) := hide (HBEL.out.alloc hwz _)
      have hlo : ∀ j, u3.ownBlock = some j → w.heap.size ≤ j := fun j hj => (hown.lt j hj).1
      have HLO := hide hlo
      clear hc hp b1 b2 hls hown HROWS HACC HBEL hW0 hlo
      go_wp2_with fail
      generalize hWW : wr.alloc (.cells #[.slice ka ek.length kc, .slice va ev.length vc] 78) = W0 at *
      have HWW := hide hWW
      have hc0 : W0.cell? ⟨wr.heap.size, 0, none⟩ = some (.slice ka ek.length kc) := by simp [World.cell?, hE]
      have hc1 : W0.cell? ⟨wr.heap.size, 1, none⟩ = some (.slice va ev.length vc) := by simp [World.cell?, hE]
      have HS : Hid (∀ W, Below W0.heap.size W0 W → W.cell? ⟨wr.heap.size, 0, none⟩ = some (.slice ka ek.length kc) ∧ W.cell? ⟨wr.heap.size, 1, none⟩ = some (.slice va ev.length vc)) := hide (fun W hW => ⟨(hW.cell (p := ⟨wr.heap.size, 0, none⟩) hEs).trans hc0, (hW.cell (p := ⟨wr.heap.size, 1, none⟩) hEs).trans hc1⟩)
      have HOWN := hide (fun (W : World) (hW : Below W0.heap.size W0 W) => hown0.kept (below_grown hW none) (by cases hq : u3.ownBlock <;> simp))
      have B0 : Below W0.heap.size W0 W0.drew := Below.drew (Below.refl _ _)
      have hwz0 : w.heap.size ≤ W0.heap.size := HBEL0.out.size
      clear hWW hE hc0 hc1 hown0 c1 c2 hblt
      go_region_held_law (fun w' => w'.cell? ⟨wr.heap.size, 0, none⟩ = some (.slice ka ek.length kc) ∧ w'.cell? ⟨wr.heap.size, 1, none⟩ = some (.slice va ev.length vc)) (first | exact HS.out _ B0 | exact HS.out _ (B0.alloc B0.size _) | exact HS.out _ ((B0.alloc B0.size _).alloc (B0.alloc B0.size _).size _) | exact HS.out _ hbK | exact HS.out _ (hbK.alloc hbK.size _) | exact HS.out _ hbV | exact HS.out _ (hbV.alloc hbV.size _) | exact hS7) (first | (refine step_fresh rfl _ _ rfl _ rfl ka ek.length kc ek rfl W0 HK0.out hl1 (by first | exact B0.alloc B0.size _ | exact (B0.alloc B0.size _).alloc (B0.alloc B0.size _).size _) ?_; intro aK cK wK hIK hAK hbK hbX) | (refine step_fresh rfl _ _ rfl _ rfl va ev.length vc ev rfl W0 HV0.out hl2 (by first | exact hbK | exact hbK.alloc hbK.size _) ?_; intro aV cV wV hIV hAV hbV hbY; have hIK2 : IsB wV aK ek.length cK ek := (by first | exact hIK.below hbY | exact hIK.below ((((Below.refl _ wK).alloc (Nat.le_refl _) _)).trans (hbY.mono (by simp)))); have hAK2 : 0 < ek.length → At5 wV w.heap.size aK := fun h0 => (by intro b' off' hb'; obtain ⟨g1, g2, g3⟩ := ((hAK h0).kept (by first | exact below_grown hbY none | exact below_grown ((((Below.refl _ wK).alloc (Nat.le_refl _) _)).trans (hbY.mono (by simp))) none) (by simp)) b' off' hb'; exact ⟨Nat.le_trans hwz0 g1, g2, g3⟩); have hAV2 : 0 < ev.length → At5 wV w.heap.size aV := fun h0 => (by intro b' off' hb'; obtain ⟨g1, g2, g3⟩ := (hAV h0) b' off' hb'; exact ⟨Nat.le_trans hwz0 g1, g2, g3⟩); have hok : okG wV w.heap.size ((ek, ev), (aK, cK), (aV, cV)) := ⟨hIK2, hIV, hAK2, hAV2⟩) | (refine step_list rfl _ _ rfl w.heap.size u3 k (gvs acc) rfl (HOWN.out wV hbV) ((ek, ev), (aK, cK), (aV, cV)) rfl (by omega) (Nat.le_trans hwz0 hbV.size) ?_; intro v7 w7 hown7 hg7; have hS7 : w7.cell? ⟨wr.heap.size, 0, none⟩ = some (.slice ka ek.length kc) ∧ w7.cell? ⟨wr.heap.size, 1, none⟩ = some (.slice va ev.length vc) := (⟨hg7.cell (HS.out _ (hbV.alloc hbV.size _)).1 (fun h => hnb h.symm), hg7.cell (HS.out _ (hbV.alloc hbV.size _)).2 (fun h => hnb h.symm)⟩)))
      all_goals
        rw [← gvs_snoc] at hown7
        have HRW7 : Hid (∀ y ∈ acc ++ [((ek, ev), (aK, cK), (aV, cV))], okG w7 w.heap.size y) := hide (by
          intro y hy
          have h1 : okG wV w.heap.size y := by
            rcases List.mem_append.1 hy with hy | hy
            · exact (HROWS0.out y hy).below hbV
            · simp at hy; subst hy; exact hok
          exact ((h1.kept (World.grownBy_alloc wV _ none) (by simp)).owns (by decide) ((HOWN.out wV hbV).alloc _) hg7))
        have HB7 : Hid (Below w.heap.size w w7) := hide (((HBEL0.out.trans (hbV.mono hwz0)).alloc (Nat.le_trans hwz0 hbV.size) _).grown hg7 (by simp; have := hbV.size; omega) HLO.out)
        have HA7 : Hid ((acc ++ [((ek, ev), (aK, cK), (aV, cV))]).map (·.1) = es.take (k + 1)) := hide (by rw [← HACC2.out]; simp)
        clear hg7 hS7 hok hIK hAK hIV hAV hIK2 hAK2 hAV2 hbK hbX hbV hbY
        go_wp2
        go_roundw
        case rel => exact ⟨k + 1, _, by omega, by go_num, hown7, HRW7, HA7, HB7⟩
        case measure => simp [intOf]; omega
    · obtain rfl : k = len := by omega
      have d1 : decide ((k : Int) < (k : Int)) = false := by simp
      obtain ⟨a4, c4, rfl, hE4⟩ := isE_of_ownsG hown HROWS.out
      rw [HACC.out, List.take_of_length_le (by rw [Hlen.out]; exact Nat.le_refl _)] at hE4
      have HE4 := hide hE4
      clear hown HROWS HACC hE4
      go_wp2
      go_ret
      exact ⟨⟨a4, c4, rfl, HE4.out⟩, HBEL.out⟩
end Go.Proofs.Ytnimlpbalfamcaa
