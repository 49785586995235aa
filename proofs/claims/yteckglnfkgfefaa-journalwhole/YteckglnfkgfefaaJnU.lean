/- JnU JnV -/
import Derived.Test.YteckglnfkgfefaaJnT
/- Unframe: the batch of some sectors -/
namespace Go.Proofs.Yteckglnfkgfefaa
open Go.RowKit Cod
set_option maxRecDepth 40000
/-- a slice of slices of bytes reads as bs -/
def IsBB (w : World) (a : Option Addr) (len cap : Nat) (bs : List (List Nat)) : Prop :=
  bs.length = len ∧ len ≤ cap ∧ cap ≤ maxLen ∧ (len = 0 ∨ ∃ b off, a = some ⟨b, off, none⟩ ∧ b < w.heap.size ∧ ∀ i, i < len → ∃ a' l' c', w.cell? ⟨b, off + i, none⟩ = some (.slice a' l' c') ∧ IsB w a' l' c' (bs.getD i []))
theorem IsBB.below {w w1 : World} {a : Option Addr} {len cap : Nat} {bs : List (List Nat)} (h : IsBB w a len cap bs) (hb : Below w.heap.size w w1) : IsBB w1 a len cap bs := by
  obtain ⟨h1, h2, h3, h5⟩ := h
  refine ⟨h1, h2, h3, h5.imp id ?_⟩
  rintro ⟨b, off, rfl, hlt, hc⟩
  refine ⟨b, off, rfl, Nat.lt_of_lt_of_le hlt hb.size, fun i hi => ?_⟩
  obtain ⟨a', l', c', e, hI⟩ := hc i hi
  exact ⟨a', l', c', (hb.cell (p := ⟨b, off + i, none⟩) hlt).trans e, hI.below hb⟩
theorem pieceOf_all (w : World) (a : Option Addr) (len cap : Nat) (l : List Nat) (h : IsB w a len cap l) (s i n : Nat) (hs : s ≤ 4611686018427387904) (hi : i < n) (hn : n ≤ 4611686018427387904) :
    Calls Try.prog 39 #[.slice a len cap, .int .u64 (s : Nat), .int .i64 (i : Nat), .int .i64 (n : Nat)] w fun e w' =>
      ((∃ a' c', e = .returned (.tuple #[.slice a' (pieceL l).length c', .bool true]) ∧ Chk1 l s i n ∧ IsB w' a' (pieceL l).length c' (pieceL l)) ∨ (∃ v, e = .returned (.tuple #[v, .bool false]) ∧ ¬ Chk1 l s i n)) ∧ Below w.heap.size w w' := by
  by_cases h4 : len = 4096
  · rcases h.2.2.2.2 with ⟨h0, _⟩ | ⟨b, off, rfl, _⟩
    · omega
    · refine (pieceOf_any w b off len cap l h s i n hs hi hn).mono ?_
      rintro e w2 ⟨⟨rfl, hc⟩ | ⟨v, rfl, hc⟩, hb⟩
      · have h2 := hc.2.1
        have hl := hc.len.2
        refine ⟨.inl ⟨_, _, by rw [hl], hc, ?_⟩, hb⟩
        have := ((h.back 32 (by omega)).front (lenL l) (by omega)).below hb
        rw [hl] at this
        have e2 : (l.drop 32).take (pieceL l).length = pieceL l := by rw [← hl]; rfl
        rwa [e2] at this
      · exact ⟨.inr ⟨v, rfl, hc⟩, hb⟩
  · have d0 : ((len : Int) == 4096) = false := by simp; omega
    have HN : Hid (¬ Chk1 l s i n) := hide (fun hc => h4 (by rw [← h.1]; exact hc.len.1))
    clear h
    go_enter Try.func39, Try.ntmps39
    go_wp2_with fail
    go_ret2
    exact ⟨.inr ⟨_, rfl, HN.out⟩, Below.refl _ _⟩
theorem unL_take (bs : List (List Nat)) (j : Nat) (h : j < bs.length) : unL (bs.take (j + 1)) = unL (bs.take j) ++ pieceL (bs.getD j []) := by
  have : bs.take (j + 1) = bs.take j ++ [bs.getD j []] := by
    rw [List.take_add_one, List.getElem?_eq_getElem h, List.getD_eq_getElem?_getD, List.getElem?_eq_getElem h]; rfl
  rw [this, unL, List.map_append, List.flatten_append]
  simp [unL]
end Go.Proofs.Yteckglnfkgfefaa
/- Unframe, walked -/
namespace Go.Proofs.Yteckglnfkgfefaa
open Go.RowKit Cod
set_option maxRecDepth 40000
/-- what Unframe answers -/
def UfPost (w : World) (bs : List (List Nat)) (s : Nat) (e : Ending) (w' : World) : Prop :=
  ((∃ v rs, e = .returned (.tuple #[v, .int .i64 0]) ∧ startB s = true ∧ UnR bs s rs 0 ∧ w'.ownsRow w.heap.size 9 1 v rs.length (rs.map Value.string)) ∨
    (startB s = false ∧ e = .returned (.tuple #[.slice none 0 0, .int .i64 2])) ∨
    (startB s = true ∧ UnR bs s [] 6 ∧ e = .returned (.tuple #[.slice none 0 0, .int .i64 6]))) ∧ Below w.heap.size w w'
theorem UfPost.ok {w w' : World} {bs : List (List Nat)} {s : Nat} {v : Value} {rs : List ByteArray} (h0 : startB s = true) (h1 : UnR bs s rs 0) (h2 : w'.ownsRow w.heap.size 9 1 v rs.length (rs.map Value.string)) (hb : Below w.heap.size w w') : UfPost w bs s (.returned (.tuple #[v, .int .i64 0])) w' := ⟨.inl ⟨v, rs, rfl, h0, h1, h2⟩, hb⟩
theorem UfPost.range {w w' : World} {bs : List (List Nat)} {s : Nat} (h0 : startB s = false) (hb : Below w.heap.size w w') : UfPost w bs s (.returned (.tuple #[.slice none 0 0, .int .i64 2])) w' := ⟨.inr (.inl ⟨h0, rfl⟩), hb⟩
theorem UfPost.code {w w' : World} {bs : List (List Nat)} {s : Nat} (h0 : startB s = true) (h1 : UnR bs s [] 6) (hb : Below w.heap.size w w') : UfPost w bs s (.returned (.tuple #[.slice none 0 0, .int .i64 6])) w' := ⟨.inr (.inr ⟨h0, h1, rfl⟩), hb⟩
theorem startB_le {s : Nat} (h : startB s = true) : s ≤ 4611686018427387904 := by
  have : startB s = decide (1 ≤ s ∧ s ≤ 4611686018427387904) := rfl
  rw [this] at h
  exact (of_decide_eq_true h).2
/-- the loop's state -/
def UfInv (w : World) (bs : List (List Nat)) (s j : Nat) (x : Value) (wr : World) : Prop :=
  ∃ q, q ≤ j * 4064 ∧ wr.ownsRow w.heap.size 5 1 x q (bv (unL (bs.take j))) ∧ (∀ y ∈ unL (bs.take j), y < 256) ∧ (∀ i, i < j → Chk1 (bs.getD i []) s i bs.length) ∧ Below w.heap.size w wr
theorem owns_pos {w : World} {base : Nat} {v : Value} {n : Nat} {l : List Nat} (h : w.ownsRow base 5 1 v n (bv l)) (hl : ∀ x ∈ l, x < 256) :
    ∃ a cap, v = .slice a n cap ∧ IsB w a n cap l ∧ ((a = none ∧ n = 0 ∧ cap = 0) ∨ ∃ b off, a = some ⟨b, off, none⟩ ∧ b < w.heap.size) := by
  obtain ⟨a, cap, rfl, hI⟩ := owns_isB h hl
  refine ⟨a, cap, rfl, hI, ?_⟩
  rcases h.2 with ⟨e, h0⟩ | ⟨g, c2, cur, e, _, hg, _⟩
  · cases e; exact .inl ⟨rfl, rfl, rfl⟩
  · cases e; exact .inr ⟨g, 0, rfl, (Array.getElem?_eq_some_iff.1 hg).1⟩
theorem unframe_any (w : World) (a : Option Addr) (len cap : Nat) (bs : List (List Nat)) (h : IsBB w a len cap bs) (hl : len ≤ 65536) (s : Nat) :
    Calls Try.prog 12 #[.slice a len cap, .int .u64 (s : Nat)] w (UfPost w bs s) := by
  have HS := hide (isStart_any s w)
  have H := hide h
  clear h
  by_cases hst : startB s = true
  · have HT := hide hst
    have hs := startB_le hst
    rw [hst] at HS
    clear hst
    go_enter Try.func12, Try.ntmps12
    go_wp2_with fail
    refine HS.out.mono ?_
    rintro e w2 ⟨rfl, rfl⟩
    go_wp2_with fail
    go_loopw [18, 6] (fun i x wr => ∃ j : Nat, j ≤ len ∧ i = .int .i64 (j : Nat) ∧ UfInv w2 bs s j x wr) (fun i _ _ => len - (intOf i).toNat)
    case atStart => exact ⟨0, Nat.zero_le _, rfl, 0, by omega, ⟨rfl, .inl ⟨rfl, rfl⟩⟩, by simp [unL], fun i hi => by omega, Below.refl _ _⟩
    case round =>
      obtain ⟨j, hj, rfl, q, hq, hown, hxs, hck, hb⟩ := hrel
      have HO := hide hown
      have HXs := hide hxs
      have HCk := hide hck
      have HB := hide hb
      clear hown hxs hck hb
      by_cases hjn : j < len
      · obtain ⟨h1, h2, h3, h5⟩ := H.out.below HB.out
        rcases h5 with h0 | ⟨b, off, rfl, hlt, hc⟩
        · omega
        obtain ⟨a1, l1, c1, hcj, hI⟩ := hc j hjn
        have HP := hide (pieceOf_all wr a1 l1 c1 (bs.getD j []) hI s j len hs hjn (by omega))
        have HT1 := hide (unL_take bs j (by omega))
        have HL1 := hide h1
        clear hc hI h1
        go_wp2_with fail
        refine HP.out.mono ?_
        rintro e w3 ⟨⟨a4, c4, rfl, hc, hI4⟩ | ⟨v, rfl, hc⟩, hb3⟩
        · have hL4 := hc.2.1
          have HO3 := hide (own_below HO.out hb3)
          have HB3 : Hid (Below w2.heap.size w2 w3) := hide (HB.out.trans (hb3.mono HB.out.size))
          have HC3 := hide hc
          have HX3 := hide hI4.2.2.2.1
          generalize hlj : bs.getD j [] = lj at *
          have HLj := hide hlj
          clear hlj hc hb3 HP HO HB
          go_wp2_with (at_builtin; refine wpList_clone rfl _ _ rfl w2.heap.size _ q _ rfl HO3.out a4 _ c4 _ rfl hI4 (by omega) HB3.out.size w2.heap.size w2 HB3.out (Nat.le_refl _) ?_)
          intro v5 w5 ho5 hb5
          rw [← bv_append, ← HT1.out] at ho5
          have hx5 : ∀ y ∈ unL (bs.take (j + 1)), y < 256 := by
            rw [HT1.out]
            intro y hy
            rcases List.mem_append.1 hy with hy | hy
            · exact HXs.out y hy
            · exact HX3.out y hy
          have hk5 : ∀ i, i < j + 1 → Chk1 (bs.getD i []) s i bs.length := by
            intro i hi
            by_cases e : i = j
            · subst e; rw [HLj.out, HL1.out]; exact HC3.out
            · exact HCk.out i (by omega)
          have hq5 : q + (pieceL lj).length ≤ (j + 1) * 4064 := by omega
          clear HT1 HX3 HC3 HLj HXs HCk hI4
          go_wp2
          go_roundw
          case rel => exact ⟨j + 1, by omega, by go_num, q + (pieceL lj).length, hq5, ho5, hx5, hk5, hb5⟩
          case measure => simp [intOf]; omega
        · have HB3 : Hid (Below w2.heap.size w2 w3) := hide (HB.out.trans (hb3.mono HB.out.size))
          have HF : Hid (UnR bs s [] 6) := hide (UnR.of_not (fun hk => hc (by have := hk j (by rw [HL1.out]; exact hjn); rw [HL1.out] at this; exact this)) [] (by omega))
          clear hc hb3 HP HO HB
          go_wp2_with fail
          go_ret2
          exact UfPost.code HT.out HF.out HB3.out
      · have : j = len := by omega
        subst this
        have HE : Hid (bs.take j = bs) := hide (List.take_of_length_le (by rw [H.out.1]; exact Nat.le_refl _))
        rw [HE.out] at HO HXs
        obtain ⟨a6, c6, rfl, hI6, hp6⟩ := owns_pos HO.out HXs.out
        have HQ := hide (readBatch_any wr a6 q c6 (unL bs) hI6 hp6 (by omega))
        have HK : Hid (Chk bs s) := hide (fun i hi => HCk.out i (by have := H.out.1; omega))
        clear hI6 hp6 HO HXs HCk
        go_wp2_with fail
        refine HQ.out.mono ?_
        rintro e w4 ⟨⟨v, rs, ok, rfl, hr, ho⟩, hb4⟩
        have HB4 : Hid (Below w2.heap.size w2 w4) := hide (HB.out.trans (hb4.mono HB.out.size))
        have HB0 := hide HB.out.size
        clear HQ HB hb4
        cases ok with
        | true =>
          have HU := hide (UnR.of_chk HK.out hr 0 (by simp))
          have HO4 := hide (own_le (ho rfl) HB0.out)
          clear hr ho
          go_wp2_with fail
          go_ret2
          exact UfPost.ok HT.out HU.out HO4.out HB4.out
        | false =>
          have HU : Hid (UnR bs s [] 6) := hide (UnR.of_text (hr.elim (fun h => by cases h.1) (fun h => .inr h)) (by omega))
          clear hr ho
          go_wp2_with fail
          go_ret2
          exact UfPost.code HT.out HU.out HB4.out
  · have HT : Hid (startB s = false) := hide (by simpa using hst)
    rw [HT.out] at HS
    clear hst
    go_enter Try.func12, Try.ntmps12
    go_wp2_with fail
    refine HS.out.mono ?_
    rintro e w2 ⟨rfl, rfl⟩
    go_wp2_with fail
    go_ret2
    exact UfPost.range HT.out (Below.refl _ _)
end Go.Proofs.Yteckglnfkgfefaa
