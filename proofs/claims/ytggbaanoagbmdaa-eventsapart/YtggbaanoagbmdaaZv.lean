/- the document's Streams -/
import Derived.Test.YtggbaanoagbmdaaZu
import Derived.Test.YtggbaanoagbmdaaY
namespace Go.Proofs.Ytggbaanoagbmdaa
open Go.RowKit Go.Maps Go.Sort
theorem info9 : (Try.prog.info? 9).map (fun i => (i.zero, i.size, i.bytes)) = some (some (.string ⟨#[]⟩), 1, 16) := by kernel_rfl
/-- an append whose answer is known -/
theorem wp_append_eq {P : Program} {o : Oper} {a : Act} {w w' : World} {v u v' : Value} {K : Act → World → Prop} {Q : Exit → Act → World → Prop} (s x : Operand) (t : TypeId) (ho : o.op = .call { callee := .builtin .append, args := #[s, x], argTypes := #[t, t] })
    (hs : a.eval s = v) (hx : a.eval x = u) (hr : (Builtin.append_ #[t, t] o.type #[v, u]).run P w = .ok v' w') (h : K (a.put o.dst v') w') : o.wp P a w K Q := by
  subst hs hx
  have he : (execOp a.eval o).run P w = .ok (.value v') w' := by
    simp [execOp, ho, resolve, invoke, builtin, hr]
  simp only [Oper.wp, he]
  exact h
theorem own_takeS {w : World} {base : Nat} {av : Option Addr} {cv n sn : Nat} {T : List ByteArray} (hl : T.length = sn) (h : w.ownsRow base 9 1 (.slice av sn cv) sn (T.map Value.string)) (hn : n ≤ sn) : w.ownsRow base 9 1 (.slice av n cv) n ((T.take n).map Value.string) := by
  subst hl
  exact own_takeT h hn
theorem one_strs (T : List ByteArray) : ∀ u ∈ T.map Value.string, u.oneCell' = true := by
  intro u hu
  obtain ⟨x, _, rfl⟩ := List.mem_map.1 hu
  rfl
theorem own_blk (av : Option Addr) (n cv n' cv' : Nat) : (Value.slice av n cv).ownBlock = (Value.slice av n' cv').ownBlock := by cases av <;> rfl
set_option maxRecDepth 40000 in
set_option maxHeartbeats 2000000 in
/-- the document's Streams -/
theorem rstreams_any (a : Option Addr) (len cap : Nat) (l : List Ev) (w : World) (h : IsE w a len cap l) :
    Calls Try.prog 23 #[.slice a len cap] w fun e w' => ∃ v T, e = .returned (.tuple #[v, .int .i64 (checkE l)]) ∧ NmB l T ∧ w'.ownsRow w.heap.size 9 1 v T.length (T.map Value.string) ∧ Below w.heap.size w w' := by
  have HV := hide h
  have HLN := hide h.1
  have hcap := h.2.1
  have hcm : cap ≤ 9223372036854775807 := h.2.2.1
  have CK := hide (rcheck_any a len cap l w h)
  clear h
  cases hg : goodB l
  case false =>
    have HE : Hid (checkE l = 2) := hide (by unfold checkE; rw [hg]; rfl)
    have HN : Hid (NmB l []) := hide (by unfold NmB; rw [hg]; rfl)
    rw [HE.out] at CK ⊢
    clear hg
    go_enter Try.func23, Try.ntmps23
    go_wp2_with fail
    refine CK.out.mono ?_
    rintro e w1 ⟨rfl, hb1⟩
    have HB1 := hide hb1
    clear hb1 CK
    go_wp2
    go_ret2
    exact ⟨_, [], rfl, HN.out, ⟨rfl, .inl ⟨rfl, rfl⟩⟩, HB1.out⟩
  case true =>
    have HE : Hid (checkE l = 0) := hide (by unfold checkE; rw [hg]; rfl)
    have HLS : Hid (len ≤ 16384) := hide (by rw [← HLN.out]; exact (goodB_iff.1 hg).1)
    have HN : Hid (∀ r, NamesB l r → NmB l r) := hide (fun r hr => by unfold NmB; rw [if_pos hg]; exact hr)
    rw [HE.out] at CK ⊢
    clear hg
    obtain ⟨i9, hi9, hy0, hy1, hy2⟩ := info_parts info9
    go_enter Try.func23, Try.ntmps23
    go_wp2_with fail
    refine CK.out.mono ?_
    rintro e w1 ⟨rfl, hb1⟩
    have HB1 : Hid (Below w.heap.size w w1 ∧ w.heap.size ≤ w1.heap.size) := hide ⟨hb1, hb1.size⟩
    clear hb1 CK
    generalize hB : w.heap.size = B at *
    have HBE := hide hB
    clear hB
    go_wp2
    go_loopw [5, 17] (fun s i wr => ∃ (k : Nat) (T : List ByteArray) (sn : Nat) (av : Option Addr) (cv : Nat), k ≤ len ∧ i = .int .i64 k ∧ s = .slice av sn cv ∧ Hid (T.length = sn ∧ sn ≤ k ∧ NamesB (l.take k) T) ∧ Hid (wr.ownsRow B 9 1 (.slice av sn cv) sn (T.map Value.string)) ∧ Hid (Below B w wr ∧ B ≤ wr.heap.size)) (fun _ i _ => len - (intOf i).toNat)
    case atStart => exact ⟨0, [], 0, none, 0, Nat.zero_le _, rfl, rfl, hide ⟨rfl, Nat.le_refl _, NamesB.start⟩, hide ⟨rfl, .inl ⟨rfl, rfl⟩⟩, HB1⟩
    case round =>
      obtain ⟨k, T, sn, av, cv, hk, rfl, rfl, HT, HO, HB⟩ := hrel
      by_cases hlt : k < len
      case neg =>
        obtain rfl : k = len := by omega
        go_wp2
        go_ret2
        refine ⟨_, T, rfl, HN.out T ?_, ?_, by rw [HBE.out]; exact HB.out.1⟩
        · have h1 := HT.out.2.2
          rwa [List.take_of_length_le (by rw [HLN.out]; exact Nat.le_refl _)] at h1
        · rw [HT.out.1, HBE.out]; exact HO.out
      case pos =>
        have HLL : Hid (k < l.length) := hide (by rw [HLN.out]; exact hlt)
        have HVW : Hid (IsE wr a len cap l) := hide (HV.out.below' (by rw [HBE.out]; exact HB.out.1))
        obtain ⟨bs, off, rfl, hbs, z0, z1, z2, z3, z4⟩ := HVW.out.2.2.2.2 k hlt
        have HTK : Hid (l.take (k + 1) = l.take k ++ [l.getD k Ev0]) := hide (by rw [List.take_add_one, List.getD_eq_getElem?_getD, List.getElem?_eq_getElem HLL.out]; rfl)
        generalize hx : l.getD k Ev0 = x at *
        clear hx
        have HSK : Hid (sn ≤ 16384) := hide (by have := HT.out.2.1; have := HLS.out; omega)
        have hsk : sn ≤ 16384 := HSK.out
        have hk64 : k < 9223372036854775807 := by omega
        have hwr3 : IntKind.i64.wrap ((k : Int) + 1) = (k : Int) + 1 := wrap_nat _ hk64
        have HNEW := hide (heap_alloc_new wr (.cells #[.string x.st, .int .i64 x.num, .int .i64 x.glob, .string x.ma, .string x.dt] 41))
        have HE0 : Hid ((wr.alloc (.cells #[.string x.st, .int .i64 x.num, .int .i64 x.glob, .string x.ma, .string x.dt] 41)).cell? ⟨wr.heap.size, 0, none⟩ = some (.string x.st)) := hide (cell_blk HNEW.out rfl)
        have HO1 : Hid ((wr.alloc (.cells #[.string x.st, .int .i64 x.num, .int .i64 x.glob, .string x.ma, .string x.dt] 41)).ownsRow B 9 1 (.slice av sn cv) sn (T.map Value.string)) := hide (HO.out.alloc _)
        have HB2 : Hid (Below B w (wr.alloc (.cells #[.string x.st, .int .i64 x.num, .int .i64 x.glob, .string x.ma, .string x.dt] 41)) ∧ wr.heap.size + 1 ≤ (wr.alloc (.cells #[.string x.st, .int .i64 x.num, .int .i64 x.glob, .string x.ma, .string x.dt] 41)).heap.size) := hide ⟨HB.out.1.alloc HB.out.2 _, by simp⟩
        have HGE : Hid (∀ g, (Value.slice av sn cv).ownBlock = some g → B ≤ g ∧ g < wr.heap.size) := hide (fun g hg => HO.out.lt g hg)
        have HBS : Hid (B ≤ wr.heap.size) := hide HB.out.2
        go_wp2
        generalize wr.alloc (.cells #[.string x.st, .int .i64 x.num, .int .i64 x.glob, .string x.ma, .string x.dt] 41) = W1 at *
        generalize wr.heap.size = E at *
        clear HNEW HO HB HVW z0 z1 z2 z3 z4 hbs
        go_loopw [8] (fun i wi => ∃ n : Nat, n ≤ sn ∧ i = .int .i64 n ∧ Hid (∀ j, j < n → (T.getD j ⟨#[]⟩).toList < x.st.toList) ∧ Hid (wi.cell? ⟨E, 0, none⟩ = some (.string x.st) ∧ wi.ownsRow B 9 1 (.slice av sn cv) sn (T.map Value.string) ∧ Below B w wi ∧ E + 1 ≤ wi.heap.size)) (fun i _ => sn - (intOf i).toNat)
        case atStart => exact ⟨0, Nat.zero_le _, rfl, hide (fun j hj => by omega), hide ⟨HE0.out, HO1.out, HB2.out⟩⟩
        case round =>
          obtain ⟨n, hn, rfl, HLO, HW⟩ := hrel
          have hshape := own_shape HW.out.2.1
          by_cases hns : n < sn
          case pos =>
            obtain ⟨g, rfl, hgb, hgl, hsc, hcv⟩ : ∃ g, av = some ⟨g, 0, none⟩ ∧ B ≤ g ∧ g < wr.heap.size ∧ sn ≤ cv ∧ cv ≤ 9223372036854775807 := by
              rcases hshape with ⟨_, h0, _⟩ | h0
              · omega
              · exact h0
            clear hshape
            have hn0 : (0 : Int) ≤ (n : Int) := by omega
            have hnn : (n : Int) < (sn : Int) := by omega
            have hwn : IntKind.i64.wrap ((n : Int) + 1) = (n : Int) + 1 := wrap_nat _ (by omega)
            have HC : Hid (wr.cell? ⟨g, n, none⟩ = some (.string (T.getD n ⟨#[]⟩))) := hide (by
              have h1 := World.ownsRow.cells HW.out.2.1 (g := g) rfl n (.string (T.getD n ⟨#[]⟩)) (by
                rw [List.getElem?_map, List.getD_eq_getElem?_getD, List.getElem?_eq_getElem (by rw [HT.out.1]; exact hns)]; rfl)
              rw [Addr.add_lit, Nat.zero_add] at h1
              exact h1)
            have HST : Hid (T.getD n ⟨#[]⟩ ∈ T) := hide (by rw [List.getD_eq_getElem?_getD, List.getElem?_eq_getElem (by rw [HT.out.1]; exact hns)]; simp)
            generalize hy : T.getD n ⟨#[]⟩ = y at *
            have HY := hide hy
            clear hy
            have HS2 : Hid (wr.drew.cell? ⟨g, n, none⟩ = some (.string y) ∧ wr.drew.cell? ⟨E, 0, none⟩ = some (.string x.st)) := hide ⟨HC.out, HW.out.1⟩
            cases hcmp : Op.bytesLess y.toList x.st.toList
            case true =>
              go_wp2_with fail
              go_region_held (fun W : World => W.cell? ⟨g, n, none⟩ = some (.string y) ∧ W.cell? ⟨E, 0, none⟩ = some (.string x.st)) (exact HS2.out) (fail)
              go_wp2
              go_roundw
              case rel => exact ⟨n + 1, by omega, by simp, hide (fun j hj => by
                by_cases e : j = n
                · rw [e, HY.out]; rw [bytesLess_eq] at hcmp; exact of_decide_eq_true hcmp
                · exact HLO.out j (by omega)), hide ⟨HW.out.1, HW.out.2.1, HW.out.2.2.1.drew, HW.out.2.2.2⟩⟩
              case measure => simp [intOf]; omega
            case false =>
              have HNL : Hid (¬ y.toList < x.st.toList) := hide (by rw [bytesLess_eq] at hcmp; exact of_decide_eq_false hcmp)
              have HS3 : Hid (wr.drew.drew.cell? ⟨g, n, none⟩ = some (.string y) ∧ wr.drew.drew.cell? ⟨E, 0, none⟩ = some (.string x.st)) := hide ⟨HC.out, HW.out.1⟩
              by_cases heq : y = x.st
              case pos =>
                have hq : (y.toList == x.st.toList) = true := by rw [heq]; simp
                have HNS : Hid (NamesB (l.take (k + 1)) T) := hide (by rw [HTK.out]; exact HT.out.2.2.same (by rw [← heq]; exact HST.out))
                clear heq
                go_wp2_with fail
                go_region_held (fun W : World => W.cell? ⟨g, n, none⟩ = some (.string y) ∧ W.cell? ⟨E, 0, none⟩ = some (.string x.st)) (exact HS2.out) (fail)
                go_wp2_with fail
                go_region_held (fun W : World => W.cell? ⟨g, n, none⟩ = some (.string y) ∧ W.cell? ⟨E, 0, none⟩ = some (.string x.st)) (exact HS3.out) (fail)
                go_wp2
                go_roundw
                case rel => exact ⟨k + 1, T, sn, _, cv, by omega, by simp, rfl, hide ⟨HT.out.1, by have := HT.out.2.1; omega, HNS.out⟩, hide HW.out.2.1, hide ⟨HW.out.2.2.1.drew.drew, by have := HW.out.2.2.2; have := HBS.out; show B ≤ wr.heap.size; omega⟩⟩
                case measure => simp [intOf]; omega
              case neg =>
                have hq : (y.toList == x.st.toList) = false := by
                  simp only [beq_eq_false_iff_ne, ne_eq]
                  exact fun e => heq (str_inj e)
                have HHI : Hid (n < T.length → x.st.toList < (T.getD n ⟨#[]⟩).toList) := hide (fun _ => by
                  rw [HY.out]
                  exact Decidable.byContradiction (fun hc => heq (str_inj (List.le_antisymm (List.not_lt.1 hc) (List.not_lt.1 HNL.out)))))
                clear heq
                go_wp2_with fail
                go_region_held (fun W : World => W.cell? ⟨g, n, none⟩ = some (.string y) ∧ W.cell? ⟨E, 0, none⟩ = some (.string x.st)) (exact HS2.out) (fail)
                go_wp2_with fail
                go_region_held (fun W : World => W.cell? ⟨g, n, none⟩ = some (.string y) ∧ W.cell? ⟨E, 0, none⟩ = some (.string x.st)) (exact HS3.out) (fail)
                have HW0 : Hid (wr.drew.drew.cell? ⟨E, 0, none⟩ = some (.string x.st) ∧ wr.drew.drew.ownsRow B 9 1 (.slice (some ⟨g, 0, none⟩) sn cv) sn (T.map Value.string) ∧ Below B w wr.drew.drew ∧ E + 1 ≤ wr.drew.drew.heap.size) := hide ⟨HW.out.1, HW.out.2.1, HW.out.2.2.1.drew.drew, HW.out.2.2.2⟩
                generalize wr.drew.drew = V0 at *
                have HINS : Hid (NamesB (l.take (k + 1)) (T.take n ++ [x.st] ++ T.drop n)) := hide (by rw [HTK.out]; exact HT.out.2.2.ins (by have := HT.out.1; omega) HLO.out HHI.out)
                have HTL : Hid ((T.drop n).length = sn - n ∧ (T.take n ++ [x.st] ++ T.drop n).length = sn + 1) := hide (by have h1 := HT.out.1; simp only [List.length_append, List.length_take, List.length_drop, List.length_cons, List.length_nil]; omega)
                have HST1 : Hid (V0.ownsRow B 9 1 (.slice (some ⟨g, 0, none⟩) n cv) n ((T.take n).map Value.string)) := hide (own_takeS HT.out.1 HW0.out.2.1 (by omega))
                have HGE2 : Hid (∀ b0, (Value.slice (some ⟨g, 0, none⟩) n cv).ownBlock = some b0 → B ≤ b0 ∧ b0 < E) := hide (fun b0 hg => HGE.out b0 ((own_blk _ _ _ _ _).trans hg))

                have HCL : Hid (∀ j u, ((T.drop n).map Value.string)[j]? = some u → (V0.alloc (.cells #[] 9)).cell? ((⟨g, n, none⟩ : Addr).add j) = some u) := hide (fun j u hj => by
                  have hj2 : (T.map Value.string)[n + j]? = some u := by rw [List.getElem?_map] at hj ⊢; rw [List.getElem?_drop] at hj; exact hj
                  have h1 := World.ownsRow.cells HW0.out.2.1 (g := g) rfl (n + j) u hj2
                  rw [Addr.add_lit] at h1 ⊢
                  rw [Nat.zero_add] at h1
                  exact Lib.cell?_alloc_some _ h1)
                go_wp2_with (at_builtin; refine wpList_append_own _ rfl _ _ 23 rfl V0.heap.size 9 i9 _ 1 16 Try.underlying23 hi9 hy0 hy1 hy2 rfl (by decide) _ _ _ rfl (World.ownsRow_made V0 #[] 0 (Nat.le_refl _) (Nat.zero_le _) (by simp)) ⟨g, n, none⟩ ((sn - n)) ((cv - n)) ((T.drop n).map Value.string) rfl (by have h := HTL.out.1; rw [List.length_map]; omega) HCL.out (one_strs _) (by show _ ≤ 9223372036854775807; omega) (by omega) (by simp) ?_)
                intro v' w5 hown' hg' hnil'
                have hown5 : w5.ownsRow V0.heap.size 9 1 v' ((sn - n)) ((T.drop n).map Value.string) := by simpa using hown'
                have hg5 : (V0.alloc (.cells #[] 9)).grownBy w5 (some V0.heap.size) := hg'
                have hnil5 := hnil'
                clear hown' hg' hnil'

                obtain ⟨R, hRb, c5, rfl, HRO⟩ : ∃ R, V0.heap.size ≤ R ∧ ∃ c5, v' = .slice (some ⟨R, 0, none⟩) (sn - n) c5 ∧ Hid (w5.ownsRow V0.heap.size 9 1 (.slice (some ⟨R, 0, none⟩) (sn - n) c5) (sn - n) ((T.drop n).map Value.string)) := by
                  obtain ⟨a5, c5, rfl⟩ := own_form hown5
                  rcases own_shape hown5 with ⟨rfl, h0, rfl⟩ | ⟨R, rfl, h1, _⟩
                  · exact (hnil5 (by rw [h0])).elim
                  · exact ⟨R, h1, c5, rfl, hide hown5⟩
                have HW5 : Hid (w5.drew.cell? ⟨E, 0, none⟩ = some (.string x.st) ∧ w5.drew.ownsRow B 9 1 (.slice (some ⟨g, 0, none⟩) n cv) n ((T.take n).map Value.string) ∧ Below B w w5.drew ∧ E + 1 ≤ w5.heap.size ∧ B ≤ w5.heap.size) := hide (by
                  have hE := HW0.out.2.2.2
                  have hs := hg5.size
                  simp only [World.size_alloc] at hs
                  have hB := HBS.out
                  have hE' : some E ≠ some V0.heap.size := by simp; omega
                  have hk5 : w5.ownsRow B 9 1 (.slice (some ⟨g, 0, none⟩) n cv) n ((T.take n).map Value.string) := by
                    refine World.ownsRow.kept (HST1.out.alloc _) hg5 ?_
                    cases hav : (Value.slice (some ⟨g, 0, none⟩) n cv).ownBlock with
                    | none => exact .inl rfl
                    | some b0 => exact .inr (by have := HGE2.out b0 hav; simp; omega)
                  exact ⟨hg5.cell ((World.grownBy_alloc V0 _ none).cell HW0.out.1 (by simp)) hE', hk5, ((HW0.out.2.2.1.alloc (by omega) _).grown hg5 (by simp; omega) (fun q hq => by simp at hq; omega)).drew, by omega, by omega⟩)
                clear hown5 hg5
                have HNE0 : Hid (R ≠ E ∧ ∀ b0, (Value.slice (some ⟨g, 0, none⟩) n cv).ownBlock = some b0 → b0 ≠ R ∧ b0 ≠ E) := hide ⟨by have := HW0.out.2.2.2; omega, fun b0 hg => by have := HGE2.out b0 hg; have := HW0.out.2.2.2; omega⟩
                -- region 13
                have HN6 := hide (heap_alloc_new w5.drew (.cells #[.string x.st] 9))
                have HQ6 : Hid (B ≤ (w5.alloc (.cells #[.string x.st] 9)).drew.heap.size) := hide (by have := HW5.out.2.2.2.2; simp; omega)
                have HS6 : Hid ((w5.alloc (.cells #[.string x.st] 9)).drew.cell? ⟨E, 0, none⟩ = some (.string x.st)) := hide ((World.grownBy_alloc w5.drew _ none).cell HW5.out.1 (by simp))
                obtain ⟨v1, W7, hrun7, hown7, hg7, _, hw7⟩ := run_append_own_at (P := Try.prog) (w5.alloc (.cells #[.string x.st] 9)).drew B 23 23 9 i9 _ 1 16 Try.underlying23 hi9 hy0 hy1 hy2 rfl (by decide) _ _ _ (HW5.out.2.1.alloc _) ⟨w5.heap.size, 0, none⟩ 1 1 [.string x.st] rfl (cell_one_new w5.drew (.string x.st) 9) (by simp [Value.oneCell']) (by show _ ≤ 9223372036854775807; omega) (by omega) HQ6.out
                obtain ⟨a1, c1, rfl⟩ := own_form hown7
                have HS7 : Hid (W7.cell? ⟨E, 0, none⟩ = some (.string x.st) ∧ (∀ j u, ((T.drop n).map Value.string)[j]? = some u → W7.cell? ((⟨R, 0, none⟩ : Addr).add j) = some u) ∧ w5.heap.size + 1 ≤ W7.heap.size) := hide (by
                  have hne := HNE0.out
                  have hs : w5.heap.size + 1 ≤ W7.heap.size := by have := hg7.size; simpa using this
                  refine ⟨hg7.cell ((World.grownBy_alloc w5.drew _ none).cell HW5.out.1 (by simp)) (fun e => (hne.2 E e.symm).2 rfl), fun j u hj => ?_, hs⟩
                  have h1 := World.ownsRow.cells HRO.out (g := R) rfl j u hj
                  rw [Addr.add_lit] at h1 ⊢
                  exact hg7.cell ((World.grownBy_alloc w5.drew _ none).cell h1 (by simp)) (fun e => (hne.2 R e.symm).1 rfl))
                have HB7 : Hid (Below B w W7) := hide ((HW5.out.2.2.1.alloc (by have := HW5.out.2.2.2.2; exact this) _).grown hg7 HQ6.out (fun q hq => (HGE2.out q hq).1))
                have HV1 : Hid ((Value.slice a1 (n + 1) c1).ownBlock = (Value.slice (some ⟨g, 0, none⟩) n cv).ownBlock ∨ (Value.slice a1 (n + 1) c1).ownBlock = some (w5.heap.size + 1)) := hide (by simpa using hw7)
                obtain ⟨v2, W8, hrun8, hown8, hg8, _⟩ := run_append_own (P := Try.prog) W7 B 23 23 9 i9 _ 1 16 Try.underlying23 hi9 hy0 hy1 hy2 rfl (by decide) _ _ _ hown7 ⟨R, 0, none⟩ ((sn - n)) c5 ((T.drop n).map Value.string) (by have h := HTL.out.1; rw [List.length_map]; omega) HS7.out.2.1 (one_strs _) (by show _ ≤ 9223372036854775807; omega) (by omega) (by have := HS7.out.2.2; have := HW5.out.2.2.2.2; omega)
                have HS8 : Hid (W8.cell? ⟨E, 0, none⟩ = some (.string x.st)) := hide (hg8.cell HS7.out.1 (fun e => by
                  rcases HV1.out with h | h
                  · rw [h] at e; exact (HNE0.out.2 E e.symm).2 rfl
                  · rw [h] at e; have := HW5.out.2.2.2.1; simp at e; omega))
                have HB8 : Hid (Below B w W8 ∧ B ≤ W8.heap.size) := hide ⟨HB7.out.grown hg8 (by have := HS7.out.2.2; have := HW5.out.2.2.2.2; omega) (fun q hq => by
                  rcases HV1.out with h | h
                  · rw [h] at hq; exact (HGE2.out q hq).1
                  · rw [h] at hq; have := HW5.out.2.2.2.2; simp at hq; omega), by have := hg8.size; have := HS7.out.2.2; have := HW5.out.2.2.2.2; omega⟩
                obtain ⟨a2, c2, rfl⟩ := own_form hown8
                have HO8 : Hid (W8.ownsRow B 9 1 (.slice a2 (sn + 1) c2) (sn + 1) ((T.take n ++ [x.st] ++ T.drop n).map Value.string)) := hide (by
                  have h := hown8
                  rw [show n + 1 + ((sn - n)) = sn + 1 by omega] at h
                  simpa using h)
                have HS5 := hide HW5.out.1
                have hncv : n ≤ cv := by omega
                have hR7 := hide hrun7
                have hR8 := hide hrun8
                clear hrun7 hrun8 hown7 hown8 hg7 hg8 hw7
                go_wp2_with fail
                refine wp_region_last 9 (fun W : World => W.cell? ⟨E, 0, none⟩ = some (.string x.st)) (by kernel_rfl) HS5.out (fun hHeld => ?_)
                refine wpAnyL_take (i := 0) (v := ?v0ta) rfl (by kernel_rfl) (fun _ _ _ h => h) (by assumption) (by rfl) ?hy0ta ?hn0ta
                case hy0ta => (intro w hSw; (try dsimp only at hSw); go_simp; try with_reducible rfl)
                try simp only [Act.put]
                refine wpAnyL_take (i := 1) (v := ?v1ta) rfl (by kernel_rfl) (fun _ _ _ h => h) (by assumption) (by rfl) ?hy1ta ?hn1ta
                case hy1ta => (intro w hSw; (try dsimp only at hSw); go_simp; try with_reducible rfl)
                try simp only [Act.put]
                refine wpAnyL_take (i := 2) (v := ?v2ta) rfl (by kernel_rfl) (fun _ _ _ h => h) (by assumption) (by rfl) ?hy2ta ?hn2ta
                case hy2ta => (intro w hSw; (try dsimp only at hSw); go_simp; try with_reducible rfl)
                try simp only [Act.put]
                refine wpAnyL_take (i := 3) (v := ?v3ta) rfl (by kernel_rfl) (fun _ _ _ h => h) (by assumption) (by rfl) ?hy3ta ?hn3ta
                case hy3ta => (intro w hSw; (try dsimp only at hSw); go_simp; try with_reducible rfl)
                try simp only [Act.put]
                refine wpAnyL_take (i := 4) (v := ?v4ta) rfl (by kernel_rfl) (fun _ _ _ h => h) (by assumption) (by rfl) ?hy4ta ?hn4ta
                case hy4ta => (intro w hSw; (try dsimp only at hSw); go_simp; try with_reducible rfl)
                try simp only [Act.put]
                refine wpAnyL_take (i := 7) (v := ?v7ta) rfl (by kernel_rfl) (fun _ _ _ h => h) (by assumption) (by rfl) ?hy7ta ?hn7ta
                case hy7ta => (intro w hSw; (try dsimp only at hSw); go_simp; try with_reducible rfl)
                try simp only [Act.put]
                refine wpAnyL_one (i := 5) rfl (by kernel_rfl) (fun K hK => ?_)
                go_simp
                refine hK.out _ _ HS6.out (fun hHeld2 => ?_)
                clear hK K hHeld
                try simp only [Act.put]
                refine wpAnyL_one (i := 6) rfl (by kernel_rfl) (fun K hK => ?_)
                rw [if_pos (by rfl)]
                refine wp_append_eq _ _ 23 rfl rfl rfl hR7.out ?_
                refine hK.out _ _ HS7.out.1 (fun hHeld3 => ?_)
                clear hK K hHeld2
                try simp only [Act.put]
                refine wpAnyL_one (i := 8) rfl (by kernel_rfl) (fun K hK => ?_)
                rw [if_pos (by rfl)]
                refine wp_append_eq _ _ 23 rfl rfl rfl hR8.out ?_
                refine hK.out _ _ HS8.out (fun hHeld4 => ?_)
                clear hK K hHeld3
                try simp only [Act.put]
                refine wpAnyL_last rfl (by kernel_rfl) (by kernel_rfl) (fun K hK => ?_)
                go_simp
                refine hK.out _ _ ?_
                clear hK K hHeld4
                go_wp2
                go_roundw
                case rel => exact ⟨k + 1, _, sn + 1, a2, c2, by omega, by simp, by rw [show n + 1 + (sn - n) = sn + 1 by omega], hide ⟨HTL.out.2, by have := HT.out.2.1; omega, HINS.out⟩, HO8, HB8⟩
                case measure => simp [intOf]; omega
          case neg =>
            have HNS : Hid (n = sn) := hide (by omega)
            have HHI : Hid (n < T.length → x.st.toList < (T.getD n ⟨#[]⟩).toList) := hide (fun h => by have := HT.out.1; omega)
            have hns' : decide ((n : Int) < (sn : Int)) = false := decide_eq_false (by omega)
            go_wp2_with fail
            refine wp_region_held_drew (S := (fun _ : World => True)) (by kernel_rfl) trivial (fun hHeld => ?_)
            refine hTakeK (i := 0) (v := ?v0r9) (some 21) rfl rfl (by kernel_rfl) (by kernel_rfl) (by kernel_rfl) (fun _ _ _ h => h) (by rfl) (by assumption) ?hy0r9 ?hn0r9
            case hy0r9 => (intro w hSw; (try dsimp only at hSw); go_simp; try with_reducible rfl)
            try simp only [Act.put, List.setIfInBounds_toArray, List.set_cons_zero, List.set_cons_succ]
            refine hTakeK (i := 1) (v := ?v1r9) (some 22) rfl rfl (by kernel_rfl) (by kernel_rfl) (by kernel_rfl) (fun _ _ _ h => h) (by rfl) (by assumption) ?hy1r9 ?hn1r9
            case hy1r9 => (intro w hSw; (try dsimp only at hSw); go_simp; try with_reducible rfl)
            try simp only [Act.put, List.setIfInBounds_toArray, List.set_cons_zero, List.set_cons_succ]
            refine hTakeK (i := 2) (v := ?v2r9) (some 23) rfl rfl (by kernel_rfl) (by kernel_rfl) (by kernel_rfl) (fun _ _ _ h => h) (by rfl) (by assumption) ?hy2r9 ?hn2r9
            case hy2r9 => (intro w hSw; (try dsimp only at hSw); go_simp; try with_reducible rfl)
            try simp only [Act.put, List.setIfInBounds_toArray, List.set_cons_zero, List.set_cons_succ]
            refine hTakeK (i := 3) (v := ?v3r9) (some 24) rfl rfl (by kernel_rfl) (by kernel_rfl) (by kernel_rfl) (fun _ _ _ h => h) (by rfl) (by assumption) ?hy3r9 ?hn3r9
            case hy3r9 => (intro w hSw; (try dsimp only at hSw); go_simp; try with_reducible rfl)
            try simp only [Act.put, List.setIfInBounds_toArray, List.set_cons_zero, List.set_cons_succ]
            refine hTakeK (i := 4) (v := ?v4r9) (some 25) rfl rfl (by kernel_rfl) (by kernel_rfl) (by kernel_rfl) (fun _ _ _ h => h) (by rfl) (by assumption) ?hy4r9 ?hn4r9
            case hy4r9 => (intro w hSw; (try dsimp only at hSw); go_simp; try with_reducible rfl)
            try simp only [Act.put, List.setIfInBounds_toArray, List.set_cons_zero, List.set_cons_succ]
            refine hSkipK (i := 5) (some 26) rfl rfl (by kernel_rfl) (by kernel_rfl) (by kernel_rfl) (fun _ _ _ h => h) (by rfl) (by assumption) ?_
            try simp only [Act.put, List.setIfInBounds_toArray, List.set_cons_zero, List.set_cons_succ]
            refine hSkipK (i := 6) (some 27) rfl rfl (by kernel_rfl) (by kernel_rfl) (by kernel_rfl) (fun _ _ _ h => h) (by rfl) (by assumption) ?_
            try simp only [Act.put, List.setIfInBounds_toArray, List.set_cons_zero, List.set_cons_succ]
            refine hSkipK (i := 7) (some 28) rfl rfl (by kernel_rfl) (by kernel_rfl) (by kernel_rfl) (fun _ _ _ h => h) (by rfl) (by assumption) ?_
            try simp only [Act.put, List.setIfInBounds_toArray, List.set_cons_zero, List.set_cons_succ]
            refine hSkipK (i := 8) (some 29) rfl rfl (by kernel_rfl) (by kernel_rfl) (by kernel_rfl) (fun _ _ _ h => h) (by rfl) (by assumption) ?_
            try simp only [Act.put, List.setIfInBounds_toArray, List.set_cons_zero, List.set_cons_succ]
            refine hSkipK (i := 9) (some 30) rfl rfl (by kernel_rfl) (by kernel_rfl) (by kernel_rfl) (fun _ _ _ h => h) (by rfl) (by assumption) ?_
            try simp only [Act.put, List.setIfInBounds_toArray, List.set_cons_zero, List.set_cons_succ]
            refine hSkipK (i := 10) (some 31) rfl rfl (by kernel_rfl) (by kernel_rfl) (by kernel_rfl) (fun _ _ _ h => h) (by rfl) (by assumption) ?_
            try simp only [Act.put, List.setIfInBounds_toArray, List.set_cons_zero, List.set_cons_succ]
            refine hSkipK (i := 11) (some 32) rfl rfl (by kernel_rfl) (by kernel_rfl) (by kernel_rfl) (fun _ _ _ h => h) (by rfl) (by assumption) ?_
            try simp only [Act.put, List.setIfInBounds_toArray, List.set_cons_zero, List.set_cons_succ]
            refine hTakeK (i := 12) (v := ?v12r9) (some 33) rfl rfl (by kernel_rfl) (by kernel_rfl) (by kernel_rfl) (fun _ _ _ h => h) (by rfl) (by assumption) ?hy12r9 ?hn12r9
            case hy12r9 => (intro w hSw; (try dsimp only at hSw); go_simp; try with_reducible rfl)
            try simp only [Act.put, List.setIfInBounds_toArray, List.set_cons_zero, List.set_cons_succ]
            refine wpAnyH_done (by kernel_rfl) ?_ _
            go_wp2_with fail
            refine wp_region_held_drew (S := (fun _ : World => True)) (by kernel_rfl) trivial (fun hHeld => ?_)
            refine hTakeK (i := 0) (v := ?v0r11) (some 36) rfl rfl (by kernel_rfl) (by kernel_rfl) (by kernel_rfl) (fun _ _ _ h => h) (by rfl) (by assumption) ?hy0r11 ?hn0r11
            case hy0r11 => (intro w hSw; (try dsimp only at hSw); go_simp; try with_reducible rfl)
            try simp only [Act.put, List.setIfInBounds_toArray, List.set_cons_zero, List.set_cons_succ]
            refine hTakeK (i := 1) (v := ?v1r11) (some 37) rfl rfl (by kernel_rfl) (by kernel_rfl) (by kernel_rfl) (fun _ _ _ h => h) (by rfl) (by assumption) ?hy1r11 ?hn1r11
            case hy1r11 => (intro w hSw; (try dsimp only at hSw); go_simp; try with_reducible rfl)
            try simp only [Act.put, List.setIfInBounds_toArray, List.set_cons_zero, List.set_cons_succ]
            refine hTakeK (i := 2) (v := ?v2r11) (some 38) rfl rfl (by kernel_rfl) (by kernel_rfl) (by kernel_rfl) (fun _ _ _ h => h) (by rfl) (by assumption) ?hy2r11 ?hn2r11
            case hy2r11 => (intro w hSw; (try dsimp only at hSw); go_simp; try with_reducible rfl)
            try simp only [Act.put, List.setIfInBounds_toArray, List.set_cons_zero, List.set_cons_succ]
            refine hTakeK (i := 3) (v := ?v3r11) (some 39) rfl rfl (by kernel_rfl) (by kernel_rfl) (by kernel_rfl) (fun _ _ _ h => h) (by rfl) (by assumption) ?hy3r11 ?hn3r11
            case hy3r11 => (intro w hSw; (try dsimp only at hSw); go_simp; try with_reducible rfl)
            try simp only [Act.put, List.setIfInBounds_toArray, List.set_cons_zero, List.set_cons_succ]
            refine hTakeK (i := 4) (v := ?v4r11) (some 40) rfl rfl (by kernel_rfl) (by kernel_rfl) (by kernel_rfl) (fun _ _ _ h => h) (by rfl) (by assumption) ?hy4r11 ?hn4r11
            case hy4r11 => (intro w hSw; (try dsimp only at hSw); go_simp; try with_reducible rfl)
            try simp only [Act.put, List.setIfInBounds_toArray, List.set_cons_zero, List.set_cons_succ]
            refine hSkipK (i := 5) (some 41) rfl rfl (by kernel_rfl) (by kernel_rfl) (by kernel_rfl) (fun _ _ _ h => h) (by rfl) (by assumption) ?_
            try simp only [Act.put, List.setIfInBounds_toArray, List.set_cons_zero, List.set_cons_succ]
            refine hSkipK (i := 6) (some 42) rfl rfl (by kernel_rfl) (by kernel_rfl) (by kernel_rfl) (fun _ _ _ h => h) (by rfl) (by assumption) ?_
            try simp only [Act.put, List.setIfInBounds_toArray, List.set_cons_zero, List.set_cons_succ]
            refine hSkipK (i := 7) (some 43) rfl rfl (by kernel_rfl) (by kernel_rfl) (by kernel_rfl) (fun _ _ _ h => h) (by rfl) (by assumption) ?_
            try simp only [Act.put, List.setIfInBounds_toArray, List.set_cons_zero, List.set_cons_succ]
            refine hSkipK (i := 8) (some 44) rfl rfl (by kernel_rfl) (by kernel_rfl) (by kernel_rfl) (fun _ _ _ h => h) (by rfl) (by assumption) ?_
            try simp only [Act.put, List.setIfInBounds_toArray, List.set_cons_zero, List.set_cons_succ]
            refine hSkipK (i := 9) (some 45) rfl rfl (by kernel_rfl) (by kernel_rfl) (by kernel_rfl) (fun _ _ _ h => h) (by rfl) (by assumption) ?_
            try simp only [Act.put, List.setIfInBounds_toArray, List.set_cons_zero, List.set_cons_succ]
            refine hSkipK (i := 10) (some 46) rfl rfl (by kernel_rfl) (by kernel_rfl) (by kernel_rfl) (fun _ _ _ h => h) (by rfl) (by assumption) ?_
            try simp only [Act.put, List.setIfInBounds_toArray, List.set_cons_zero, List.set_cons_succ]
            refine hSkipK (i := 11) (some 47) rfl rfl (by kernel_rfl) (by kernel_rfl) (by kernel_rfl) (fun _ _ _ h => h) (by rfl) (by assumption) ?_
            try simp only [Act.put, List.setIfInBounds_toArray, List.set_cons_zero, List.set_cons_succ]
            refine hTakeK (i := 12) (v := ?v12r11) (some 48) rfl rfl (by kernel_rfl) (by kernel_rfl) (by kernel_rfl) (fun _ _ _ h => h) (by rfl) (by assumption) ?hy12r11 ?hn12r11
            case hy12r11 => (intro w hSw; (try dsimp only at hSw); go_simp; try with_reducible rfl)
            try simp only [Act.put, List.setIfInBounds_toArray, List.set_cons_zero, List.set_cons_succ]
            refine wpAnyH_done (by kernel_rfl) ?_ _
            rcases hshape with ⟨rfl, h0, rfl⟩ | ⟨g, rfl, hgb, hgl, hsc, hcv⟩
            case inl =>
              subst h0
              obtain rfl : n = 0 := by omega
              clear hns' HNS hns
              have HW0 : Hid (wr.drew.drew.cell? ⟨E, 0, none⟩ = some (.string x.st) ∧ wr.drew.drew.ownsRow B 9 1 (.slice none 0 0) 0 (T.map Value.string) ∧ Below B w wr.drew.drew ∧ E + 1 ≤ wr.drew.drew.heap.size) := hide ⟨HW.out.1, HW.out.2.1, HW.out.2.2.1.drew.drew, HW.out.2.2.2⟩
              generalize wr.drew.drew = V0 at *
              have HINS : Hid (NamesB (l.take (k + 1)) (T.take 0 ++ [x.st] ++ T.drop 0)) := hide (by rw [HTK.out]; exact HT.out.2.2.ins (by have := HT.out.1; omega) HLO.out HHI.out)
              have HTL : Hid ((T.drop 0).length = 0 - 0 ∧ (T.take 0 ++ [x.st] ++ T.drop 0).length = 0 + 1) := hide (by have h1 := HT.out.1; simp only [List.length_append, List.length_take, List.length_drop, List.length_cons, List.length_nil]; omega)
              have HST1 : Hid (V0.ownsRow B 9 1 (.slice none 0 0) 0 ((T.take 0).map Value.string)) := hide (own_takeS HT.out.1 HW0.out.2.1 (by omega))
              have HGE2 : Hid (∀ b0, (Value.slice none 0 0).ownBlock = some b0 → B ≤ b0 ∧ b0 < E) := hide (fun b0 hg => HGE.out b0 ((own_blk _ _ _ _ _).trans hg))

              go_wp2_with (at_builtin; refine wpList_append_none2 rfl _ _ 23 rfl V0.heap.size 9 i9 1 Try.underlying23 hi9 _ _ _ rfl (World.ownsRow_made V0 #[] 0 (Nat.le_refl _) (Nat.zero_le _) (by simp)) rfl ?_)
              intro v' w5 hew
              obtain ⟨ev, ew⟩ := hew.out
              have hown5 : w5.ownsRow V0.heap.size 9 1 v' 0 ((T.drop 0).map Value.string) := by
                rw [ev, ew, List.eq_nil_of_length_eq_zero HT.out.1]
                exact World.ownsRow_made (base := V0.heap.size) (e := 9) (size := 1) V0 #[] 0 (Nat.le_refl _) (Nat.zero_le _) (by simp)
              have hg5 : (V0.alloc (.cells #[] 9)).grownBy w5 (some V0.heap.size) := by rw [ew]; exact ⟨rfl, rfl, rfl, Nat.le_refl _, fun _ _ _ => rfl⟩
              have hnil5 : v' = .slice none 0 0 → False := by rw [ev]; intro h; simp at h
              clear ev ew hew

              obtain ⟨R, hRb, c5, rfl, HRO⟩ : ∃ R, V0.heap.size ≤ R ∧ ∃ c5, v' = .slice (some ⟨R, 0, none⟩) 0 c5 ∧ Hid (w5.ownsRow V0.heap.size 9 1 (.slice (some ⟨R, 0, none⟩) 0 c5) 0 ((T.drop 0).map Value.string)) := by
                obtain ⟨a5, c5, rfl⟩ := own_form hown5
                rcases own_shape hown5 with ⟨rfl, h0, rfl⟩ | ⟨R, rfl, h1, _⟩
                · exact (hnil5 (by rw [h0])).elim
                · exact ⟨R, h1, c5, rfl, hide hown5⟩
              have HW5 : Hid (w5.drew.cell? ⟨E, 0, none⟩ = some (.string x.st) ∧ w5.drew.ownsRow B 9 1 (.slice none 0 0) 0 ((T.take 0).map Value.string) ∧ Below B w w5.drew ∧ E + 1 ≤ w5.heap.size ∧ B ≤ w5.heap.size) := hide (by
                have hE := HW0.out.2.2.2
                have hs := hg5.size
                simp only [World.size_alloc] at hs
                have hB := HBS.out
                have hE' : some E ≠ some V0.heap.size := by simp; omega
                have hk5 : w5.ownsRow B 9 1 (.slice none 0 0) 0 ((T.take 0).map Value.string) := by
                  refine World.ownsRow.kept (HST1.out.alloc _) hg5 ?_
                  cases hav : (Value.slice none 0 0).ownBlock with
                  | none => exact .inl rfl
                  | some b0 => exact .inr (by have := HGE2.out b0 hav; simp; omega)
                exact ⟨hg5.cell ((World.grownBy_alloc V0 _ none).cell HW0.out.1 (by simp)) hE', hk5, ((HW0.out.2.2.1.alloc (by omega) _).grown hg5 (by simp; omega) (fun q hq => by simp at hq; omega)).drew, by omega, by omega⟩)
              clear hown5 hg5
              have HNE0 : Hid (R ≠ E ∧ ∀ b0, (Value.slice none 0 0).ownBlock = some b0 → b0 ≠ R ∧ b0 ≠ E) := hide ⟨by have := HW0.out.2.2.2; omega, fun b0 hg => by have := HGE2.out b0 hg; have := HW0.out.2.2.2; omega⟩
              -- region 13
              have HN6 := hide (heap_alloc_new w5.drew (.cells #[.string x.st] 9))
              have HQ6 : Hid (B ≤ (w5.alloc (.cells #[.string x.st] 9)).drew.heap.size) := hide (by have := HW5.out.2.2.2.2; simp; omega)
              have HS6 : Hid ((w5.alloc (.cells #[.string x.st] 9)).drew.cell? ⟨E, 0, none⟩ = some (.string x.st)) := hide ((World.grownBy_alloc w5.drew _ none).cell HW5.out.1 (by simp))
              obtain ⟨v1, W7, hrun7, hown7, hg7, _, hw7⟩ := run_append_own_at (P := Try.prog) (w5.alloc (.cells #[.string x.st] 9)).drew B 23 23 9 i9 _ 1 16 Try.underlying23 hi9 hy0 hy1 hy2 rfl (by decide) _ _ _ (HW5.out.2.1.alloc _) ⟨w5.heap.size, 0, none⟩ 1 1 [.string x.st] rfl (cell_one_new w5.drew (.string x.st) 9) (by simp [Value.oneCell']) (by show _ ≤ 9223372036854775807; omega) (by omega) HQ6.out
              obtain ⟨a1, c1, rfl⟩ := own_form hown7
              have HS7 : Hid (W7.cell? ⟨E, 0, none⟩ = some (.string x.st) ∧ (∀ j u, ((T.drop 0).map Value.string)[j]? = some u → W7.cell? ((⟨R, 0, none⟩ : Addr).add j) = some u) ∧ w5.heap.size + 1 ≤ W7.heap.size) := hide (by
                have hne := HNE0.out
                have hs : w5.heap.size + 1 ≤ W7.heap.size := by have := hg7.size; simpa using this
                refine ⟨hg7.cell ((World.grownBy_alloc w5.drew _ none).cell HW5.out.1 (by simp)) (fun e => (hne.2 E e.symm).2 rfl), fun j u hj => ?_, hs⟩
                have h1 := World.ownsRow.cells HRO.out (g := R) rfl j u hj
                rw [Addr.add_lit] at h1 ⊢
                exact hg7.cell ((World.grownBy_alloc w5.drew _ none).cell h1 (by simp)) (fun e => (hne.2 R e.symm).1 rfl))
              have HB7 : Hid (Below B w W7) := hide ((HW5.out.2.2.1.alloc (by have := HW5.out.2.2.2.2; exact this) _).grown hg7 HQ6.out (fun q hq => (HGE2.out q hq).1))
              have HV1 : Hid ((Value.slice a1 (0 + 1) c1).ownBlock = (Value.slice none 0 0).ownBlock ∨ (Value.slice a1 (0 + 1) c1).ownBlock = some (w5.heap.size + 1)) := hide (by simpa using hw7)
              obtain ⟨v2, W8, hrun8, hown8, hg8, _⟩ := run_append_own (P := Try.prog) W7 B 23 23 9 i9 _ 1 16 Try.underlying23 hi9 hy0 hy1 hy2 rfl (by decide) _ _ _ hown7 ⟨R, 0, none⟩ (0) c5 ((T.drop 0).map Value.string) (by have h := HTL.out.1; rw [List.length_map]; omega) HS7.out.2.1 (one_strs _) (by show _ ≤ 9223372036854775807; omega) (by omega) (by have := HS7.out.2.2; have := HW5.out.2.2.2.2; omega)
              have HS8 : Hid (W8.cell? ⟨E, 0, none⟩ = some (.string x.st)) := hide (hg8.cell HS7.out.1 (fun e => by
                rcases HV1.out with h | h
                · rw [h] at e; exact (HNE0.out.2 E e.symm).2 rfl
                · rw [h] at e; have := HW5.out.2.2.2.1; simp at e; omega))
              have HB8 : Hid (Below B w W8 ∧ B ≤ W8.heap.size) := hide ⟨HB7.out.grown hg8 (by have := HS7.out.2.2; have := HW5.out.2.2.2.2; omega) (fun q hq => by
                rcases HV1.out with h | h
                · rw [h] at hq; exact (HGE2.out q hq).1
                · rw [h] at hq; have := HW5.out.2.2.2.2; simp at hq; omega), by have := hg8.size; have := HS7.out.2.2; have := HW5.out.2.2.2.2; omega⟩
              obtain ⟨a2, c2, rfl⟩ := own_form hown8
              have HO8 : Hid (W8.ownsRow B 9 1 (.slice a2 (0 + 1) c2) (0 + 1) ((T.take 0 ++ [x.st] ++ T.drop 0).map Value.string)) := hide (by
                have h := hown8
                rw [show 0 + 1 + (0) = 0 + 1 by omega] at h
                simpa using h)
              have HS5 := hide HW5.out.1
              have hncv : 0 ≤ 0 := by omega
              have hR7 := hide hrun7
              have hR8 := hide hrun8
              clear hrun7 hrun8 hown7 hown8 hg7 hg8 hw7
              go_wp2_with fail
              refine wp_region_last 9 (fun W : World => W.cell? ⟨E, 0, none⟩ = some (.string x.st)) (by kernel_rfl) HS5.out (fun hHeld => ?_)
              refine wpAnyL_take (i := 0) (v := ?v0td) rfl (by kernel_rfl) (fun _ _ _ h => h) (by assumption) (by rfl) ?hy0td ?hn0td
              case hy0td => (intro w hSw; (try dsimp only at hSw); go_simp; try with_reducible rfl)
              try simp only [Act.put]
              refine wpAnyL_take (i := 1) (v := ?v1td) rfl (by kernel_rfl) (fun _ _ _ h => h) (by assumption) (by rfl) ?hy1td ?hn1td
              case hy1td => (intro w hSw; (try dsimp only at hSw); go_simp; try with_reducible rfl)
              try simp only [Act.put]
              refine wpAnyL_take (i := 2) (v := ?v2td) rfl (by kernel_rfl) (fun _ _ _ h => h) (by assumption) (by rfl) ?hy2td ?hn2td
              case hy2td => (intro w hSw; (try dsimp only at hSw); go_simp; try with_reducible rfl)
              try simp only [Act.put]
              refine wpAnyL_take (i := 3) (v := ?v3td) rfl (by kernel_rfl) (fun _ _ _ h => h) (by assumption) (by rfl) ?hy3td ?hn3td
              case hy3td => (intro w hSw; (try dsimp only at hSw); go_simp; try with_reducible rfl)
              try simp only [Act.put]
              refine wpAnyL_take (i := 4) (v := ?v4td) rfl (by kernel_rfl) (fun _ _ _ h => h) (by assumption) (by rfl) ?hy4td ?hn4td
              case hy4td => (intro w hSw; (try dsimp only at hSw); go_simp; try with_reducible rfl)
              try simp only [Act.put]
              refine wpAnyL_take (i := 7) (v := ?v7td) rfl (by kernel_rfl) (fun _ _ _ h => h) (by assumption) (by rfl) ?hy7td ?hn7td
              case hy7td => (intro w hSw; (try dsimp only at hSw); go_simp; try with_reducible rfl)
              try simp only [Act.put]
              refine wpAnyL_one (i := 5) rfl (by kernel_rfl) (fun K hK => ?_)
              go_simp
              refine hK.out _ _ HS6.out (fun hHeld2 => ?_)
              clear hK K hHeld
              try simp only [Act.put]
              refine wpAnyL_one (i := 6) rfl (by kernel_rfl) (fun K hK => ?_)
              rw [if_pos (by rfl)]
              refine wp_append_eq _ _ 23 rfl rfl rfl hR7.out ?_
              refine hK.out _ _ HS7.out.1 (fun hHeld3 => ?_)
              clear hK K hHeld2
              try simp only [Act.put]
              refine wpAnyL_one (i := 8) rfl (by kernel_rfl) (fun K hK => ?_)
              rw [if_pos (by rfl)]
              refine wp_append_eq _ _ 23 rfl rfl rfl hR8.out ?_
              refine hK.out _ _ HS8.out (fun hHeld4 => ?_)
              clear hK K hHeld3
              try simp only [Act.put]
              refine wpAnyL_last rfl (by kernel_rfl) (by kernel_rfl) (fun K hK => ?_)
              go_simp
              refine hK.out _ _ ?_
              clear hK K hHeld4
              go_wp2
              go_roundw
              case rel => exact ⟨k + 1, _, 0 + 1, a2, c2, by omega, by simp, rfl, hide ⟨HTL.out.2, by have := HT.out.2.1; omega, HINS.out⟩, HO8, HB8⟩
              case measure => simp [intOf]; omega
            case inr =>
              by_cases hfull : n < cv
              case pos =>
                have HW0 : Hid (wr.drew.drew.cell? ⟨E, 0, none⟩ = some (.string x.st) ∧ wr.drew.drew.ownsRow B 9 1 (.slice (some ⟨g, 0, none⟩) sn cv) sn (T.map Value.string) ∧ Below B w wr.drew.drew ∧ E + 1 ≤ wr.drew.drew.heap.size) := hide ⟨HW.out.1, HW.out.2.1, HW.out.2.2.1.drew.drew, HW.out.2.2.2⟩
                generalize wr.drew.drew = V0 at *
                have HINS : Hid (NamesB (l.take (k + 1)) (T.take n ++ [x.st] ++ T.drop n)) := hide (by rw [HTK.out]; exact HT.out.2.2.ins (by have := HT.out.1; omega) HLO.out HHI.out)
                have HTL : Hid ((T.drop n).length = sn - n ∧ (T.take n ++ [x.st] ++ T.drop n).length = sn + 1) := hide (by have h1 := HT.out.1; simp only [List.length_append, List.length_take, List.length_drop, List.length_cons, List.length_nil]; omega)
                have HST1 : Hid (V0.ownsRow B 9 1 (.slice (some ⟨g, 0, none⟩) n cv) n ((T.take n).map Value.string)) := hide (own_takeS HT.out.1 HW0.out.2.1 (by omega))
                have HGE2 : Hid (∀ b0, (Value.slice (some ⟨g, 0, none⟩) n cv).ownBlock = some b0 → B ≤ b0 ∧ b0 < E) := hide (fun b0 hg => HGE.out b0 ((own_blk _ _ _ _ _).trans hg))

                have HCL : Hid (∀ j u, ((T.drop n).map Value.string)[j]? = some u → (V0.alloc (.cells #[] 9)).cell? ((⟨g, n, none⟩ : Addr).add j) = some u) := hide (fun j u hj => by
                  have hj2 : (T.map Value.string)[n + j]? = some u := by rw [List.getElem?_map] at hj ⊢; rw [List.getElem?_drop] at hj; exact hj
                  have h1 := World.ownsRow.cells HW0.out.2.1 (g := g) rfl (n + j) u hj2
                  rw [Addr.add_lit] at h1 ⊢
                  rw [Nat.zero_add] at h1
                  exact Lib.cell?_alloc_some _ h1)
                go_wp2_with (at_builtin; refine wpList_append_own _ rfl _ _ 23 rfl V0.heap.size 9 i9 _ 1 16 Try.underlying23 hi9 hy0 hy1 hy2 rfl (by decide) _ _ _ rfl (World.ownsRow_made V0 #[] 0 (Nat.le_refl _) (Nat.zero_le _) (by simp)) ⟨g, n, none⟩ ((sn - n)) ((cv - n)) ((T.drop n).map Value.string) rfl (by have h := HTL.out.1; rw [List.length_map]; omega) HCL.out (one_strs _) (by show _ ≤ 9223372036854775807; omega) (by omega) (by simp) ?_)
                intro v' w5 hown' hg' hnil'
                have hown5 : w5.ownsRow V0.heap.size 9 1 v' ((sn - n)) ((T.drop n).map Value.string) := by simpa using hown'
                have hg5 : (V0.alloc (.cells #[] 9)).grownBy w5 (some V0.heap.size) := hg'
                have hnil5 := hnil'
                clear hown' hg' hnil'

                obtain ⟨R, hRb, c5, rfl, HRO⟩ : ∃ R, V0.heap.size ≤ R ∧ ∃ c5, v' = .slice (some ⟨R, 0, none⟩) (sn - n) c5 ∧ Hid (w5.ownsRow V0.heap.size 9 1 (.slice (some ⟨R, 0, none⟩) (sn - n) c5) (sn - n) ((T.drop n).map Value.string)) := by
                  obtain ⟨a5, c5, rfl⟩ := own_form hown5
                  rcases own_shape hown5 with ⟨rfl, h0, rfl⟩ | ⟨R, rfl, h1, _⟩
                  · exact (hnil5 (by rw [h0])).elim
                  · exact ⟨R, h1, c5, rfl, hide hown5⟩
                have HW5 : Hid (w5.drew.cell? ⟨E, 0, none⟩ = some (.string x.st) ∧ w5.drew.ownsRow B 9 1 (.slice (some ⟨g, 0, none⟩) n cv) n ((T.take n).map Value.string) ∧ Below B w w5.drew ∧ E + 1 ≤ w5.heap.size ∧ B ≤ w5.heap.size) := hide (by
                  have hE := HW0.out.2.2.2
                  have hs := hg5.size
                  simp only [World.size_alloc] at hs
                  have hB := HBS.out
                  have hE' : some E ≠ some V0.heap.size := by simp; omega
                  have hk5 : w5.ownsRow B 9 1 (.slice (some ⟨g, 0, none⟩) n cv) n ((T.take n).map Value.string) := by
                    refine World.ownsRow.kept (HST1.out.alloc _) hg5 ?_
                    cases hav : (Value.slice (some ⟨g, 0, none⟩) n cv).ownBlock with
                    | none => exact .inl rfl
                    | some b0 => exact .inr (by have := HGE2.out b0 hav; simp; omega)
                  exact ⟨hg5.cell ((World.grownBy_alloc V0 _ none).cell HW0.out.1 (by simp)) hE', hk5, ((HW0.out.2.2.1.alloc (by omega) _).grown hg5 (by simp; omega) (fun q hq => by simp at hq; omega)).drew, by omega, by omega⟩)
                clear hown5 hg5
                have HNE0 : Hid (R ≠ E ∧ ∀ b0, (Value.slice (some ⟨g, 0, none⟩) n cv).ownBlock = some b0 → b0 ≠ R ∧ b0 ≠ E) := hide ⟨by have := HW0.out.2.2.2; omega, fun b0 hg => by have := HGE2.out b0 hg; have := HW0.out.2.2.2; omega⟩
                -- region 13
                have HN6 := hide (heap_alloc_new w5.drew (.cells #[.string x.st] 9))
                have HQ6 : Hid (B ≤ (w5.alloc (.cells #[.string x.st] 9)).drew.heap.size) := hide (by have := HW5.out.2.2.2.2; simp; omega)
                have HS6 : Hid ((w5.alloc (.cells #[.string x.st] 9)).drew.cell? ⟨E, 0, none⟩ = some (.string x.st)) := hide ((World.grownBy_alloc w5.drew _ none).cell HW5.out.1 (by simp))
                obtain ⟨v1, W7, hrun7, hown7, hg7, _, hw7⟩ := run_append_own_at (P := Try.prog) (w5.alloc (.cells #[.string x.st] 9)).drew B 23 23 9 i9 _ 1 16 Try.underlying23 hi9 hy0 hy1 hy2 rfl (by decide) _ _ _ (HW5.out.2.1.alloc _) ⟨w5.heap.size, 0, none⟩ 1 1 [.string x.st] rfl (cell_one_new w5.drew (.string x.st) 9) (by simp [Value.oneCell']) (by show _ ≤ 9223372036854775807; omega) (by omega) HQ6.out
                obtain ⟨a1, c1, rfl⟩ := own_form hown7
                have HS7 : Hid (W7.cell? ⟨E, 0, none⟩ = some (.string x.st) ∧ (∀ j u, ((T.drop n).map Value.string)[j]? = some u → W7.cell? ((⟨R, 0, none⟩ : Addr).add j) = some u) ∧ w5.heap.size + 1 ≤ W7.heap.size) := hide (by
                  have hne := HNE0.out
                  have hs : w5.heap.size + 1 ≤ W7.heap.size := by have := hg7.size; simpa using this
                  refine ⟨hg7.cell ((World.grownBy_alloc w5.drew _ none).cell HW5.out.1 (by simp)) (fun e => (hne.2 E e.symm).2 rfl), fun j u hj => ?_, hs⟩
                  have h1 := World.ownsRow.cells HRO.out (g := R) rfl j u hj
                  rw [Addr.add_lit] at h1 ⊢
                  exact hg7.cell ((World.grownBy_alloc w5.drew _ none).cell h1 (by simp)) (fun e => (hne.2 R e.symm).1 rfl))
                have HB7 : Hid (Below B w W7) := hide ((HW5.out.2.2.1.alloc (by have := HW5.out.2.2.2.2; exact this) _).grown hg7 HQ6.out (fun q hq => (HGE2.out q hq).1))
                have HV1 : Hid ((Value.slice a1 (n + 1) c1).ownBlock = (Value.slice (some ⟨g, 0, none⟩) n cv).ownBlock ∨ (Value.slice a1 (n + 1) c1).ownBlock = some (w5.heap.size + 1)) := hide (by simpa using hw7)
                obtain ⟨v2, W8, hrun8, hown8, hg8, _⟩ := run_append_own (P := Try.prog) W7 B 23 23 9 i9 _ 1 16 Try.underlying23 hi9 hy0 hy1 hy2 rfl (by decide) _ _ _ hown7 ⟨R, 0, none⟩ ((sn - n)) c5 ((T.drop n).map Value.string) (by have h := HTL.out.1; rw [List.length_map]; omega) HS7.out.2.1 (one_strs _) (by show _ ≤ 9223372036854775807; omega) (by omega) (by have := HS7.out.2.2; have := HW5.out.2.2.2.2; omega)
                have HS8 : Hid (W8.cell? ⟨E, 0, none⟩ = some (.string x.st)) := hide (hg8.cell HS7.out.1 (fun e => by
                  rcases HV1.out with h | h
                  · rw [h] at e; exact (HNE0.out.2 E e.symm).2 rfl
                  · rw [h] at e; have := HW5.out.2.2.2.1; simp at e; omega))
                have HB8 : Hid (Below B w W8 ∧ B ≤ W8.heap.size) := hide ⟨HB7.out.grown hg8 (by have := HS7.out.2.2; have := HW5.out.2.2.2.2; omega) (fun q hq => by
                  rcases HV1.out with h | h
                  · rw [h] at hq; exact (HGE2.out q hq).1
                  · rw [h] at hq; have := HW5.out.2.2.2.2; simp at hq; omega), by have := hg8.size; have := HS7.out.2.2; have := HW5.out.2.2.2.2; omega⟩
                obtain ⟨a2, c2, rfl⟩ := own_form hown8
                have HO8 : Hid (W8.ownsRow B 9 1 (.slice a2 (sn + 1) c2) (sn + 1) ((T.take n ++ [x.st] ++ T.drop n).map Value.string)) := hide (by
                  have h := hown8
                  rw [show n + 1 + ((sn - n)) = sn + 1 by omega] at h
                  simpa using h)
                have HS5 := hide HW5.out.1
                have hncv : n ≤ cv := by omega
                have hR7 := hide hrun7
                have hR8 := hide hrun8
                clear hrun7 hrun8 hown7 hown8 hg7 hg8 hw7
                go_wp2_with fail
                refine wp_region_last 9 (fun W : World => W.cell? ⟨E, 0, none⟩ = some (.string x.st)) (by kernel_rfl) HS5.out (fun hHeld => ?_)
                refine wpAnyL_take (i := 0) (v := ?v0tb) rfl (by kernel_rfl) (fun _ _ _ h => h) (by assumption) (by rfl) ?hy0tb ?hn0tb
                case hy0tb => (intro w hSw; (try dsimp only at hSw); go_simp; try with_reducible rfl)
                try simp only [Act.put]
                refine wpAnyL_take (i := 1) (v := ?v1tb) rfl (by kernel_rfl) (fun _ _ _ h => h) (by assumption) (by rfl) ?hy1tb ?hn1tb
                case hy1tb => (intro w hSw; (try dsimp only at hSw); go_simp; try with_reducible rfl)
                try simp only [Act.put]
                refine wpAnyL_take (i := 2) (v := ?v2tb) rfl (by kernel_rfl) (fun _ _ _ h => h) (by assumption) (by rfl) ?hy2tb ?hn2tb
                case hy2tb => (intro w hSw; (try dsimp only at hSw); go_simp; try with_reducible rfl)
                try simp only [Act.put]
                refine wpAnyL_take (i := 3) (v := ?v3tb) rfl (by kernel_rfl) (fun _ _ _ h => h) (by assumption) (by rfl) ?hy3tb ?hn3tb
                case hy3tb => (intro w hSw; (try dsimp only at hSw); go_simp; try with_reducible rfl)
                try simp only [Act.put]
                refine wpAnyL_take (i := 4) (v := ?v4tb) rfl (by kernel_rfl) (fun _ _ _ h => h) (by assumption) (by rfl) ?hy4tb ?hn4tb
                case hy4tb => (intro w hSw; (try dsimp only at hSw); go_simp; try with_reducible rfl)
                try simp only [Act.put]
                refine wpAnyL_take (i := 7) (v := ?v7tb) rfl (by kernel_rfl) (fun _ _ _ h => h) (by assumption) (by rfl) ?hy7tb ?hn7tb
                case hy7tb => (intro w hSw; (try dsimp only at hSw); go_simp; try with_reducible rfl)
                try simp only [Act.put]
                refine wpAnyL_one (i := 5) rfl (by kernel_rfl) (fun K hK => ?_)
                go_simp
                refine hK.out _ _ HS6.out (fun hHeld2 => ?_)
                clear hK K hHeld
                try simp only [Act.put]
                refine wpAnyL_one (i := 6) rfl (by kernel_rfl) (fun K hK => ?_)
                rw [if_pos (by rfl)]
                refine wp_append_eq _ _ 23 rfl rfl rfl hR7.out ?_
                refine hK.out _ _ HS7.out.1 (fun hHeld3 => ?_)
                clear hK K hHeld2
                try simp only [Act.put]
                refine wpAnyL_one (i := 8) rfl (by kernel_rfl) (fun K hK => ?_)
                rw [if_pos (by rfl)]
                refine wp_append_eq _ _ 23 rfl rfl rfl hR8.out ?_
                refine hK.out _ _ HS8.out (fun hHeld4 => ?_)
                clear hK K hHeld3
                try simp only [Act.put]
                refine wpAnyL_last rfl (by kernel_rfl) (by kernel_rfl) (fun K hK => ?_)
                go_simp
                refine hK.out _ _ ?_
                clear hK K hHeld4
                go_wp2
                go_roundw
                case rel => exact ⟨k + 1, _, sn + 1, a2, c2, by omega, by simp, by rw [show n + 1 + (sn - n) = sn + 1 by omega], hide ⟨HTL.out.2, by have := HT.out.2.1; omega, HINS.out⟩, HO8, HB8⟩
                case measure => simp [intOf]; omega
              case neg =>
                obtain rfl : n = sn := by omega
                obtain rfl : n = cv := by omega
                clear hns' HNS hns
                have HW0 : Hid (wr.drew.drew.cell? ⟨E, 0, none⟩ = some (.string x.st) ∧ wr.drew.drew.ownsRow B 9 1 (.slice (some ⟨g, 0, none⟩) n n) n (T.map Value.string) ∧ Below B w wr.drew.drew ∧ E + 1 ≤ wr.drew.drew.heap.size) := hide ⟨HW.out.1, HW.out.2.1, HW.out.2.2.1.drew.drew, HW.out.2.2.2⟩
                generalize wr.drew.drew = V0 at *
                have HINS : Hid (NamesB (l.take (k + 1)) (T.take n ++ [x.st] ++ T.drop n)) := hide (by rw [HTK.out]; exact HT.out.2.2.ins (by have := HT.out.1; omega) HLO.out HHI.out)
                have HTL : Hid ((T.drop n).length = n - n ∧ (T.take n ++ [x.st] ++ T.drop n).length = n + 1) := hide (by have h1 := HT.out.1; simp only [List.length_append, List.length_take, List.length_drop, List.length_cons, List.length_nil]; omega)
                have HST1 : Hid (V0.ownsRow B 9 1 (.slice (some ⟨g, 0, none⟩) n n) n ((T.take n).map Value.string)) := hide (own_takeS HT.out.1 HW0.out.2.1 (by omega))
                have HGE2 : Hid (∀ b0, (Value.slice (some ⟨g, 0, none⟩) n n).ownBlock = some b0 → B ≤ b0 ∧ b0 < E) := hide (fun b0 hg => HGE.out b0 ((own_blk _ _ _ _ _).trans hg))

                have HCL : Hid (∀ j u, ((T.drop n).map Value.string)[j]? = some u → (V0.alloc (.cells #[] 9)).cell? ((⟨g, 0, none⟩ : Addr).add j) = some u) := hide (fun j u hj => by
                  rw [List.drop_of_length_le (by rw [HT.out.1]; exact Nat.le_refl _)] at hj
                  simp at hj)
                go_wp2_with (at_builtin; refine wpList_append_own _ rfl _ _ 23 rfl V0.heap.size 9 i9 _ 1 16 Try.underlying23 hi9 hy0 hy1 hy2 rfl (by decide) _ _ _ rfl (World.ownsRow_made V0 #[] 0 (Nat.le_refl _) (Nat.zero_le _) (by simp)) ⟨g, 0, none⟩ (0) (0) ((T.drop n).map Value.string) rfl (by have h := HTL.out.1; rw [List.length_map]; omega) HCL.out (one_strs _) (by show _ ≤ 9223372036854775807; omega) (by omega) (by simp) ?_)
                intro v' w5 hown' hg' hnil'
                have hown5 : w5.ownsRow V0.heap.size 9 1 v' (0) ((T.drop n).map Value.string) := by simpa using hown'
                have hg5 : (V0.alloc (.cells #[] 9)).grownBy w5 (some V0.heap.size) := hg'
                have hnil5 := hnil'
                clear hown' hg' hnil'

                obtain ⟨R, hRb, c5, rfl, HRO⟩ : ∃ R, V0.heap.size ≤ R ∧ ∃ c5, v' = .slice (some ⟨R, 0, none⟩) 0 c5 ∧ Hid (w5.ownsRow V0.heap.size 9 1 (.slice (some ⟨R, 0, none⟩) 0 c5) 0 ((T.drop n).map Value.string)) := by
                  obtain ⟨a5, c5, rfl⟩ := own_form hown5
                  rcases own_shape hown5 with ⟨rfl, h0, rfl⟩ | ⟨R, rfl, h1, _⟩
                  · exact (hnil5 (by rw [h0])).elim
                  · exact ⟨R, h1, c5, rfl, hide hown5⟩
                have HW5 : Hid (w5.drew.cell? ⟨E, 0, none⟩ = some (.string x.st) ∧ w5.drew.ownsRow B 9 1 (.slice (some ⟨g, 0, none⟩) n n) n ((T.take n).map Value.string) ∧ Below B w w5.drew ∧ E + 1 ≤ w5.heap.size ∧ B ≤ w5.heap.size) := hide (by
                  have hE := HW0.out.2.2.2
                  have hs := hg5.size
                  simp only [World.size_alloc] at hs
                  have hB := HBS.out
                  have hE' : some E ≠ some V0.heap.size := by simp; omega
                  have hk5 : w5.ownsRow B 9 1 (.slice (some ⟨g, 0, none⟩) n n) n ((T.take n).map Value.string) := by
                    refine World.ownsRow.kept (HST1.out.alloc _) hg5 ?_
                    cases hav : (Value.slice (some ⟨g, 0, none⟩) n n).ownBlock with
                    | none => exact .inl rfl
                    | some b0 => exact .inr (by have := HGE2.out b0 hav; simp; omega)
                  exact ⟨hg5.cell ((World.grownBy_alloc V0 _ none).cell HW0.out.1 (by simp)) hE', hk5, ((HW0.out.2.2.1.alloc (by omega) _).grown hg5 (by simp; omega) (fun q hq => by simp at hq; omega)).drew, by omega, by omega⟩)
                clear hown5 hg5
                have HNE0 : Hid (R ≠ E ∧ ∀ b0, (Value.slice (some ⟨g, 0, none⟩) n n).ownBlock = some b0 → b0 ≠ R ∧ b0 ≠ E) := hide ⟨by have := HW0.out.2.2.2; omega, fun b0 hg => by have := HGE2.out b0 hg; have := HW0.out.2.2.2; omega⟩
                -- region 13
                have HN6 := hide (heap_alloc_new w5.drew (.cells #[.string x.st] 9))
                have HQ6 : Hid (B ≤ (w5.alloc (.cells #[.string x.st] 9)).drew.heap.size) := hide (by have := HW5.out.2.2.2.2; simp; omega)
                have HS6 : Hid ((w5.alloc (.cells #[.string x.st] 9)).drew.cell? ⟨E, 0, none⟩ = some (.string x.st)) := hide ((World.grownBy_alloc w5.drew _ none).cell HW5.out.1 (by simp))
                obtain ⟨v1, W7, hrun7, hown7, hg7, _, hw7⟩ := run_append_own_at (P := Try.prog) (w5.alloc (.cells #[.string x.st] 9)).drew B 23 23 9 i9 _ 1 16 Try.underlying23 hi9 hy0 hy1 hy2 rfl (by decide) _ _ _ (HW5.out.2.1.alloc _) ⟨w5.heap.size, 0, none⟩ 1 1 [.string x.st] rfl (cell_one_new w5.drew (.string x.st) 9) (by simp [Value.oneCell']) (by show _ ≤ 9223372036854775807; omega) (by omega) HQ6.out
                obtain ⟨a1, c1, rfl⟩ := own_form hown7
                have HS7 : Hid (W7.cell? ⟨E, 0, none⟩ = some (.string x.st) ∧ (∀ j u, ((T.drop n).map Value.string)[j]? = some u → W7.cell? ((⟨R, 0, none⟩ : Addr).add j) = some u) ∧ w5.heap.size + 1 ≤ W7.heap.size) := hide (by
                  have hne := HNE0.out
                  have hs : w5.heap.size + 1 ≤ W7.heap.size := by have := hg7.size; simpa using this
                  refine ⟨hg7.cell ((World.grownBy_alloc w5.drew _ none).cell HW5.out.1 (by simp)) (fun e => (hne.2 E e.symm).2 rfl), fun j u hj => ?_, hs⟩
                  have h1 := World.ownsRow.cells HRO.out (g := R) rfl j u hj
                  rw [Addr.add_lit] at h1 ⊢
                  exact hg7.cell ((World.grownBy_alloc w5.drew _ none).cell h1 (by simp)) (fun e => (hne.2 R e.symm).1 rfl))
                have HB7 : Hid (Below B w W7) := hide ((HW5.out.2.2.1.alloc (by have := HW5.out.2.2.2.2; exact this) _).grown hg7 HQ6.out (fun q hq => (HGE2.out q hq).1))
                have HV1 : Hid ((Value.slice a1 (n + 1) c1).ownBlock = (Value.slice (some ⟨g, 0, none⟩) n n).ownBlock ∨ (Value.slice a1 (n + 1) c1).ownBlock = some (w5.heap.size + 1)) := hide (by simpa using hw7)
                obtain ⟨v2, W8, hrun8, hown8, hg8, _⟩ := run_append_own (P := Try.prog) W7 B 23 23 9 i9 _ 1 16 Try.underlying23 hi9 hy0 hy1 hy2 rfl (by decide) _ _ _ hown7 ⟨R, 0, none⟩ (0) c5 ((T.drop n).map Value.string) (by have h := HTL.out.1; rw [List.length_map]; omega) HS7.out.2.1 (one_strs _) (by show _ ≤ 9223372036854775807; omega) (by omega) (by have := HS7.out.2.2; have := HW5.out.2.2.2.2; omega)
                have HS8 : Hid (W8.cell? ⟨E, 0, none⟩ = some (.string x.st)) := hide (hg8.cell HS7.out.1 (fun e => by
                  rcases HV1.out with h | h
                  · rw [h] at e; exact (HNE0.out.2 E e.symm).2 rfl
                  · rw [h] at e; have := HW5.out.2.2.2.1; simp at e; omega))
                have HB8 : Hid (Below B w W8 ∧ B ≤ W8.heap.size) := hide ⟨HB7.out.grown hg8 (by have := HS7.out.2.2; have := HW5.out.2.2.2.2; omega) (fun q hq => by
                  rcases HV1.out with h | h
                  · rw [h] at hq; exact (HGE2.out q hq).1
                  · rw [h] at hq; have := HW5.out.2.2.2.2; simp at hq; omega), by have := hg8.size; have := HS7.out.2.2; have := HW5.out.2.2.2.2; omega⟩
                obtain ⟨a2, c2, rfl⟩ := own_form hown8
                have HO8 : Hid (W8.ownsRow B 9 1 (.slice a2 (n + 1) c2) (n + 1) ((T.take n ++ [x.st] ++ T.drop n).map Value.string)) := hide (by
                  have h := hown8
                  rw [show n + 1 + (0) = n + 1 by omega] at h
                  simpa using h)
                have HS5 := hide HW5.out.1
                have hncv : n ≤ n := by omega
                have hR7 := hide hrun7
                have hR8 := hide hrun8
                clear hrun7 hrun8 hown7 hown8 hg7 hg8 hw7
                go_wp2_with fail
                refine wp_region_last 9 (fun W : World => W.cell? ⟨E, 0, none⟩ = some (.string x.st)) (by kernel_rfl) HS5.out (fun hHeld => ?_)
                refine wpAnyL_take (i := 0) (v := ?v0tc) rfl (by kernel_rfl) (fun _ _ _ h => h) (by assumption) (by rfl) ?hy0tc ?hn0tc
                case hy0tc => (intro w hSw; (try dsimp only at hSw); go_simp; try with_reducible rfl)
                try simp only [Act.put]
                refine wpAnyL_take (i := 1) (v := ?v1tc) rfl (by kernel_rfl) (fun _ _ _ h => h) (by assumption) (by rfl) ?hy1tc ?hn1tc
                case hy1tc => (intro w hSw; (try dsimp only at hSw); go_simp; try with_reducible rfl)
                try simp only [Act.put]
                refine wpAnyL_take (i := 2) (v := ?v2tc) rfl (by kernel_rfl) (fun _ _ _ h => h) (by assumption) (by rfl) ?hy2tc ?hn2tc
                case hy2tc => (intro w hSw; (try dsimp only at hSw); go_simp; try with_reducible rfl)
                try simp only [Act.put]
                refine wpAnyL_take (i := 3) (v := ?v3tc) rfl (by kernel_rfl) (fun _ _ _ h => h) (by assumption) (by rfl) ?hy3tc ?hn3tc
                case hy3tc => (intro w hSw; (try dsimp only at hSw); go_simp; try with_reducible rfl)
                try simp only [Act.put]
                refine wpAnyL_take (i := 4) (v := ?v4tc) rfl (by kernel_rfl) (fun _ _ _ h => h) (by assumption) (by rfl) ?hy4tc ?hn4tc
                case hy4tc => (intro w hSw; (try dsimp only at hSw); go_simp; try with_reducible rfl)
                try simp only [Act.put]
                refine wpAnyL_take (i := 7) (v := ?v7tc) rfl (by kernel_rfl) (fun _ _ _ h => h) (by assumption) (by rfl) ?hy7tc ?hn7tc
                case hy7tc => (intro w hSw; (try dsimp only at hSw); go_simp; try with_reducible rfl)
                try simp only [Act.put]
                refine wpAnyL_one (i := 5) rfl (by kernel_rfl) (fun K hK => ?_)
                go_simp
                refine hK.out _ _ HS6.out (fun hHeld2 => ?_)
                clear hK K hHeld
                try simp only [Act.put]
                refine wpAnyL_one (i := 6) rfl (by kernel_rfl) (fun K hK => ?_)
                rw [if_pos (by rfl)]
                refine wp_append_eq _ _ 23 rfl rfl rfl hR7.out ?_
                refine hK.out _ _ HS7.out.1 (fun hHeld3 => ?_)
                clear hK K hHeld2
                try simp only [Act.put]
                refine wpAnyL_one (i := 8) rfl (by kernel_rfl) (fun K hK => ?_)
                rw [if_pos (by rfl)]
                refine wp_append_eq _ _ 23 rfl rfl rfl hR8.out ?_
                refine hK.out _ _ HS8.out (fun hHeld4 => ?_)
                clear hK K hHeld3
                try simp only [Act.put]
                refine wpAnyL_last rfl (by kernel_rfl) (by kernel_rfl) (fun K hK => ?_)
                go_simp
                refine hK.out _ _ ?_
                clear hK K hHeld4
                go_wp2
                go_roundw
                case rel => exact ⟨k + 1, _, n + 1, a2, c2, by omega, by simp, rfl, hide ⟨HTL.out.2, by have := HT.out.2.1; omega, HINS.out⟩, HO8, HB8⟩
                case measure => simp [intOf]; omega
end Go.Proofs.Ytggbaanoagbmdaa
