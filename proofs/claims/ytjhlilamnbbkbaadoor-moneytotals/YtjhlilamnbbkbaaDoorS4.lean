/- contracts: the document's Share -/
import Derived.Test.YtjhlilamnbbkbaaDoorS3
import Derived.Laws.AppendOwn
namespace Go.Proofs.YtjhlilamnbbkbaaDoor
open Go.RowKit Go.Shelf Go.Sort Go.Lib
open Classical
theorem shErr_aw {T : Int} {l : List Int} (hl : l.length ≤ 4096) (h : aw l = false) : shErr T l = 2 := by
  unfold shErr
  rw [if_neg (by omega), if_pos (.inr h)]
theorem shErr_neg {T : Int} {l : List Int} (hl : l.length ≤ 4096) (h : T < 0) : shErr T l = 2 := by
  unfold shErr
  rw [if_neg (by omega), if_pos (.inl h)]
theorem shErr_sum {T : Int} {l : List Int} (hl : l.length ≤ 4096) (h : ¬ T < 0) (h2 : aw l = true) : shErr T l = err l.sum := by
  unfold shErr
  rw [if_neg (by omega), if_neg (by simp [h, h2])]
theorem own_row {w : World} {base n : Nat} {v : Value} {m : List Int} (h : w.ownsRow base 2 1 v n (iv m)) (hn : 0 < n) : ∃ g c, v = .slice (some ⟨g, 0, none⟩) n c ∧ base ≤ g ∧ RowI w g n c m := by
  obtain ⟨h1, h2⟩ := h
  rcases h2 with ⟨_, h2⟩ | ⟨g, c, cur, h3, h4, h5, h6, h7, h8, h9⟩
  · omega
  · refine ⟨g, c, h3, h4, by simpa [iv] using h1, h6, h7, cur, h5, by simpa using h8, by simpa using h9⟩
theorem iv_snoc (m : List Int) (x : Int) : iv m ++ [.int .i64 x] = iv (m ++ [x]) := by simp [iv]
theorem one_cell (x : Int) : ∀ u ∈ [Value.int .i64 x], u.oneCell' = true := by
  intro u hu; simp at hu; subst hu; rfl
theorem one_new (W : World) (x : Int) (f : Nat × Nat) : ∀ j u, [Value.int .i64 x][j]? = some u → (W.alloc (.cells #[.int .i64 x] 2 f)).cell? ((⟨W.heap.size, 0, none⟩ : Addr).add j) = some u := by
  intro j u hj
  match j, hj with
  | 0, hj =>
    simp at hj
    subst hj
    have e : (⟨W.heap.size, 0, none⟩ : Addr).add 0 = ⟨W.heap.size, 0, none⟩ := rfl
    rw [e]
    simp only [World.cell?]
    rw [heap_alloc_new]
    rfl
set_option maxHeartbeats 2000000 in
set_option maxRecDepth 20000 in
/-- ladingref01.Share -/
theorem refShare_some (T : Int) (b off len cap : Nat) (l : List Int) (w : World) (hT : In64 T) (h : IsI w (some ⟨b, off, none⟩) len cap l) (hlen : len ≤ 4096) (hpos : 0 < len) :
    Calls Tryd.prog 24 #[.int .i64 T, .slice (some ⟨b, off, none⟩) len cap] w fun e w' =>
      (shErr T l ≠ 0 ∧ e = .returned (.tuple #[.slice none 0 0, .int .i64 (shErr T l)]) ∧ w' = w) ∨
      (shErr T l = 0 ∧ ∃ g c, e = .returned (.tuple #[.slice (some ⟨g, 0, none⟩) len c, .int .i64 0]) ∧ RowI w' g len c (share T l) ∧ w.heap.size ≤ g ∧ Below w.heap.size w w') := by
  have hl := h.1
  obtain ⟨_, _, eb, hlt0, hcell⟩ := h.2.2.2.2.resolve_left (by omega)
  cases eb
  have t1 : ¬ (4096 : Int) < (len : Int) := by omega
  have AL := hide (all_any (some ⟨b, off, none⟩) len cap l w h hlen)
  go_enter Tryd.func24, Tryd.ntmps24
  go_wp2_with fail
  go_loop [6, 8, 22] (fun sm _ i => ∃ (k : Nat) (s : Bool), k ≤ len ∧ i = .int .i64 k ∧ sm = .bool s ∧ Hid (s = (l.take k).any (fun x => decide (0 < x))) ∧ Hid ((l.take k).all (fun x => decide (0 ≤ x)) = true)) (fun _ _ i => len - (RowKit.intOf i).toNat)
  case atStart => exact ⟨0, false, by omega, rfl, rfl, hide (by simp), hide (by simp)⟩
  case round =>
    obtain ⟨k, s, hk, rfl, rfl, hs, hall⟩ := hrel
    by_cases hlt : k < len
    · have hcx := hcell k hlt
      have HT := hide (take_snocI l k (by omega))
      have HA := hide (aw_neg l k (by omega))
      clear hcell
      generalize l.getD k 0 = n at *
      by_cases hn : n < 0
      · have HF : Hid (shErr T l = 2) := hide (shErr_aw (by omega) (HA.out hn))
        clear HA
        go_wp2
        go_ret2
        exact .inl ⟨by rw [HF.out]; decide, nil_err HF.out.symm, rfl⟩
      · have H2 : Hid ((l.take (k + 1)).all (fun x => decide (0 ≤ x)) = true) := hide (by rw [HT.out, List.all_append, hall.out]; simp; omega)
        clear HA
        cases s
        · have H1 : Hid (decide (0 < n) = (l.take (k + 1)).any (fun x => decide (0 < x))) := hide (by rw [HT.out, List.any_append, ← hs.out]; simp)
          go_wp2
          go_round
          case rel => exact ⟨k + 1, _, by omega, by go_num, rfl, H1, H2⟩
          case measure => simp [RowKit.intOf]; omega
        · have H1 : Hid (true = (l.take (k + 1)).any (fun x => decide (0 < x))) := hide (by rw [HT.out, List.any_append, ← hs.out]; simp)
          go_wp2
          go_round
          case rel => exact ⟨k + 1, _, by omega, by go_num, rfl, H1, H2⟩
          case measure => simp [RowKit.intOf]; omega
    · have htk : l.take k = l := List.take_of_length_le (by omega)
      rw [htk] at hs hall
      have HF : Hid (aw l = s) := hide (by unfold aw; rw [hall.out, ← hs.out]; simp)
      clear htk hs hall
      by_cases hT0 : T < 0
      · have HE : Hid (shErr T l = 2) := hide (shErr_neg (by omega) hT0)
        go_wp2
        go_ret2
        exact .inl ⟨by rw [HE.out]; decide, nil_err HE.out.symm, rfl⟩
      · have d0 : decide (T < 0) = false := by simpa using hT0
        cases s
        · have HE : Hid (shErr T l = 2) := hide (shErr_aw (by omega) HF.out)
          go_wp2
          go_ret2
          exact .inl ⟨by rw [HE.out]; decide, nil_err HE.out.symm, rfl⟩
        · have HE := hide (shErr_sum (by omega) hT0 HF.out)
          by_cases hin : In64 l.sum
          · rw [err_in hin] at HE
            rw [num_in hin, decide_eq_true hin] at AL
            go_wp2_with fail
            refine AL.out.mono ?_
            rintro e w' ⟨rfl, rfl⟩
            go_wp2_with fail
            have haw := HF.out
            have h0 : 0 ≤ T := by omega
            have PN := parts_nonneg h0 haw
            have PS := parts_sum h0 haw
            have hpl := parts_len T l
            have PC : Hid (∀ k, k < len → ∀ W : World, Calls Tryd.prog 38 #[.int .i64 T, .int .i64 (l.getD k 0), .int .i64 l.sum] W fun e w' => e = .returned (.int .i64 ((parts T l).getD k 0)) ∧ w' = W) := hide (by
              intro k hk W
              rw [parts_get0]
              have hx : l.getD k 0 ∈ l := by
                rw [List.getD_eq_getElem?_getD, List.getElem?_eq_getElem (by omega)]
                exact List.getElem_mem _
              have n0 := aw_nonneg haw _ hx
              have n1 := mem_le_sum l (aw_nonneg haw) _ hx
              have n2 := aw_pos haw
              generalize l.getD k 0 = x at *
              obtain ⟨h5, h6⟩ := hin
              generalize l.sum = A at *
              obtain ⟨x, rfl⟩ := Int.eq_ofNat_of_zero_le n0
              obtain ⟨A, rfl⟩ := Int.eq_ofNat_of_zero_le (Int.le_of_lt n2)
              obtain ⟨t, rfl⟩ := Int.eq_ofNat_of_zero_le h0
              have := refPart_any t x A (by have := hT.2; omega) (by omega) (by omega) (by omega) W
              rw [show ((t : Int) * (x : Int)) / (A : Int) = ((t * x / A : Nat) : Int) by simp]
              exact this)
            obtain ⟨w, rfl⟩ : ∃ w, w = w' := ⟨_, rfl⟩
            clear hk hlt AL
            obtain ⟨i0, hi, hz0, hz1, hz2⟩ := info_parts Tryd.info2
            go_loopw [11, 12, 14, 15, 50] (fun v lf _ _ i wr => ∃ (k : Nat) (z : Int), k ≤ len ∧ i = .int .i64 k ∧ lf = .int .i64 z ∧ Hid (z = T - ((parts T l).take k).sum) ∧ wr.ownsRow w.heap.size 2 1 v k (iv ((parts T l).take k)) ∧ Below w.heap.size w wr) (fun _ _ _ _ i _ => len - (RowKit.intOf i).toNat)
            case atStart => exact ⟨0, T, by omega, rfl, rfl, hide (by simp), World.ownsRow_nil _ _ _ _, Below.refl _ _⟩
            case round =>
              obtain ⟨k, z, hk, rfl, rfl, hz, hown, hb⟩ := hrel
              have hbs := hb.size
              by_cases hlt : k < len
              · have hcx : wr.cell? ⟨b, off + k, none⟩ = some (.int .i64 (l.getD k 0)) := (hb.cell (p := ⟨b, off + k, none⟩) hlt0).trans (hcell k hlt)
                have hst := sum_take (parts T l) k (by omega)
                have hs0 := take_sum_le (parts T l) PN k
                have hs1 := take_sum_le (parts T l) PN (k + 1)
                have hp0 := getD_nonneg _ PN k
                have hzz := hz.out
                have hT2 := hT.2
                have b1 : 0 ≤ z - (parts T l).getD k 0 := by omega
                have b2 : z ≤ 9223372036854775807 := by omega
                have HZ : Hid (z - (parts T l).getD k 0 = T - ((parts T l).take (k + 1)).sum) := hide (by omega)
                have HTK := hide (take_snocI (parts T l) k (by omega))
                have PK := hide (PC.out k hlt)
                clear hst hs0 hs1 hzz hz hcell PN PS PC hT2
                generalize l.getD k 0 = x at *
                generalize (parts T l).getD k 0 = pk at *
                go_wp2_with fail
                refine (PK.out _).mono ?_
                rintro e w3 ⟨rfl, rfl⟩
                go_wp2_with (at_builtin; refine wpList_append_own _ rfl _ _ 22 rfl w.heap.size 2 i0 (.int .i64 0) 1 8 Tryd.underlying22 hi hz0 hz1 hz2 rfl (by decide) _ _ _ rfl (hown.alloc _) ⟨w3.heap.size, 0, none⟩ 1 1 [.int .i64 pk] rfl rfl (one_new _ _ _) (one_cell _) ?c3 ?c4 ?c5 ?_)
                case c3 => unfold maxLen; omega
                case c4 => omega
                case c5 => simp; omega
                intro v' w4 hown' hgrow _
                have hb4 : Below w.heap.size w w4 := (hb.alloc (by omega) _).grown hgrow (by simp; omega) (fun k hk => (hown.lt k hk).1)
                rw [iv_snoc, ← HTK.out] at hown'
                clear hgrow hown hb
                go_wp2
                go_roundw
                case rel => exact ⟨k + 1, z - pk, by omega, by go_num, rfl, HZ, hown', hb4⟩
                case measure => simp [RowKit.intOf]; omega
              · have hkl : len = k := by omega
                subst hkl
                have hzz := hz.out
                rw [List.take_of_length_le (by omega)] at hzz hown
                obtain ⟨g, c, rfl, hg, hr⟩ := own_row hown hpos
                obtain ⟨w2, rfl⟩ : ∃ w2, w2 = wr := ⟨_, rfl⟩
                have hzb : In64 z := by
                  have := sum_nonneg _ PN
                  have := hT.2
                  unfold In64; omega
                obtain ⟨hn1, hn2⟩ := hzb
                have hS : ∀ x ∈ parts T l, -9223372036854775808 ≤ x ∧ (0 < z → x + 1 ≤ 9223372036854775807) := fun x hx => by
                  have h1 := PN x hx
                  have h2 := mem_le_sum _ PN x hx
                  have := hT.2
                  exact ⟨by omega, fun _ => by omega⟩
                have hcell2 : ∀ i, i < len → w2.cell? ⟨b, off + i, none⟩ = some (.int .i64 (l.getD i 0)) := fun i hi => (hb.cell (p := ⟨b, off + i, none⟩) hlt0).trans (hcell i hi)
                have HSH : Hid (hand z (parts T l) l = share T l) := hide (by rw [hzz]; rfl)
                have hne : b ≠ g := by omega
                have hSl := hpl
                clear hown hz PN PS PC hzz hlt hk hcell
                go_wp2_with fail
                go_loopw [12, 16, 68] (fun x _ i wr => ∃ (k : Nat) (nk : Int) (m : List Int), k ≤ len ∧ i = .int .i64 k ∧ x = .int .i64 nk ∧ -9223372036854775808 ≤ nk ∧ nk ≤ 9223372036854775807 ∧ (0 < nk → 0 < z) ∧ RowI wr g len c m ∧ Hid (m.drop k = (parts T l).drop k) ∧ Hid (hand z (parts T l) l = m.take k ++ hand nk (m.drop k) (l.drop k)) ∧ (∀ j, j < len → wr.cell? ⟨b, off + j, none⟩ = w2.cell? ⟨b, off + j, none⟩) ∧ Below w.heap.size w wr) (fun _ _ i _ => len - (RowKit.intOf i).toNat)
                case atStart => exact ⟨0, z, parts T l, by omega, rfl, rfl, hn1, hn2, id, hr, hide rfl, hide (by simp), fun _ _ => rfl, hb⟩
                case round =>
                  obtain ⟨k, nk, m, hk, rfl, rfl, hk1, hk2, hkn, hr1, hdr, hhd, hcw, hb⟩ := hrel
                  have hml := hr1.1
                  by_cases hlt : k < len
                  · have hcx := (hcw k hlt).trans (hcell2 k hlt)
                    have hc := hr1.cell hlt
                    have hf := hr1.frozen k
                    have HH := hide (hand_step nk m l k (by omega) (by omega))
                    have eS : m.getD k 0 = (parts T l).getD k 0 := by
                      have : (m.drop k).getD 0 0 = ((parts T l).drop k).getD 0 0 := by rw [hdr.out]
                      simpa [List.getD_eq_getElem?_getD, List.getElem?_drop] using this
                    by_cases hp : 0 < nk ∧ 0 < l.getD k 0
                    · obtain ⟨hp1, hp2⟩ := hp
                      have hbd : m.getD k 0 + 1 ≤ 9223372036854775807 := by
                        rw [eS]; exact get_le k (fun x hx => (hS x hx).2 (hkn hp1)) (by omega)
                      have hbd2 : -9223372036854775808 ≤ m.getD k 0 := by
                        rw [eS, List.getD_eq_getElem?_getD, List.getElem?_eq_getElem (show k < (parts T l).length by omega)]
                        exact (hS _ (List.getElem_mem _)).1
                      have HR := hide (hr1.set k (m.getD k 0 + 1))
                      have HB := hide (hb.setCell (p := ⟨g, k, none⟩) hg (.int .i64 (m.getD k 0 + 1)))
                      have hsp := set_split m k (m.getD k 0 + 1) (by omega)
                      have HX : Hid (hand z (parts T l) l = (m.set k (m.getD k 0 + 1)).take (k + 1) ++ hand (nk - 1) ((m.set k (m.getD k 0 + 1)).drop (k + 1)) (l.drop (k + 1))) := hide (by
                        rw [hsp.1, hsp.2, hhd.out, HH.out, if_pos ⟨hp1, hp2⟩, List.append_assoc, List.singleton_append])
                      have HD : Hid ((m.set k (m.getD k 0 + 1)).drop (k + 1) = (parts T l).drop (k + 1)) := hide (by
                        rw [hsp.2]
                        have : (m.drop k).drop 1 = ((parts T l).drop k).drop 1 := by rw [hdr.out]
                        simpa [List.drop_drop] using this)
                      have HC : Hid (∀ j, j < len → (wr.setCell ⟨g, k, none⟩ (.int .i64 (m.getD k 0 + 1))).cell? ⟨b, off + j, none⟩ = w2.cell? ⟨b, off + j, none⟩) := hide (fun j hj => by
                        rw [World.cell?_setCell_other _ _ _ _ (by intro h; injection h with h1 h2 h3; exact hne h1.symm)]; exact hcw j hj)
                      clear hr1 hcell2 hcw hb hdr hhd HH hsp hS eS hml hSl
                      generalize l.getD k 0 = x at *
                      generalize hy : m.getD k 0 = y at *
                      clear hy
                      go_wp2
                      go_roundw
                      case rel => exact ⟨k + 1, nk - 1, _, by omega, by go_num, rfl, by omega, by omega, fun h => hkn hp1, HR.out, HD, HX, HC.out, HB.out⟩
                      case measure => simp [RowKit.intOf]; omega
                    · have HX : Hid (hand z (parts T l) l = m.take (k + 1) ++ hand nk (m.drop (k + 1)) (l.drop (k + 1))) := hide (by
                        rw [hhd.out, HH.out, if_neg hp, take_snocI m k (by omega), List.append_assoc, List.singleton_append])
                      have HD : Hid (m.drop (k + 1) = (parts T l).drop (k + 1)) := hide (by
                        have : (m.drop k).drop 1 = ((parts T l).drop k).drop 1 := by rw [hdr.out]
                        simpa [List.drop_drop] using this)
                      have hcw' := hide hcw
                      clear hcell2 hcw hdr hhd HH hS eS hml hSl hc
                      generalize l.getD k 0 = x at *
                      by_cases hp1 : 0 < nk
                      · have hp2 : ¬ 0 < x := fun h => hp ⟨hp1, h⟩
                        have d2 : decide (0 < x) = false := by simpa using hp2
                        clear hp
                        go_wp2
                        go_roundw
                        case rel => exact ⟨k + 1, nk, m, by omega, by go_num, rfl, hk1, hk2, hkn, hr1, HD, HX, hcw'.out, hb⟩
                        case measure => simp [RowKit.intOf]; omega
                      · have d1 : decide (0 < nk) = false := by simpa using hp1
                        clear hp
                        go_wp2
                        go_roundw
                        case rel => exact ⟨k + 1, nk, m, by omega, by go_num, rfl, hk1, hk2, hkn, hr1, HD, HX, hcw'.out, hb⟩
                        case measure => simp [RowKit.intOf]; omega
                  · have HX : Hid (hand z (parts T l) l = m) := hide (by
                      rw [hhd.out, List.take_of_length_le (by omega), List.drop_of_length_le (by omega)]
                      simp [hand])
                    clear hdr hhd hS hcell2 hcw
                    go_wp2
                    go_ret2
                    exact .inr ⟨HE.out, g, c, rfl, by rw [← HSH.out, HX.out]; exact hr1, hg, hb⟩
          · rw [err_out hin] at HE
            rw [decide_eq_false hin] at AL
            clear hin
            go_wp2_with fail
            refine AL.out.mono ?_
            rintro e w' ⟨rfl, rfl⟩
            go_wp2
            go_ret2
            exact .inl ⟨by rw [HE.out]; decide, nil_err HE.out.symm, rfl⟩
end Go.Proofs.YtjhlilamnbbkbaaDoor
