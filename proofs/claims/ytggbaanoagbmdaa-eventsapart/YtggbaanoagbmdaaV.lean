/- the document's Of, last, twice -/
import Derived.Test.YtggbaanoagbmdaaLawKept
namespace Go.Proofs.Ytggbaanoagbmdaa
open Go.RowKit
set_option maxRecDepth 40000 in
set_option maxHeartbeats 1000000 in
/-- the document's Of -/
theorem rof_any (a : Option Addr) (len cap : Nat) (l : List Ev) (s : ByteArray) (w : World) (h : IsE w a len cap l) (hbig : len * 64 ≤ 140737488355328) :
    Calls Try.prog 29 #[.slice a len cap, .string s] w fun e w' => ∃ v, e = .returned v ∧ w'.ownsRow w.heap.size 41 5 v (l.filter (isOf s)).length ((l.filter (isOf s)).flatMap evc) ∧ Below w.heap.size w w' := by
  have HV := hide h
  have HLN := hide h.1
  have hcap := h.2.1
  have hcm : cap ≤ 9223372036854775807 := h.2.2.1
  have HBIG := hide hbig
  obtain ⟨i0, hi, hz0, hz1, hz2⟩ := info_parts info41
  clear h hbig
  go_enter Try.func29, Try.ntmps29
  go_wp2
  go_loopw [5, 10] (fun s5 i wr => ∃ (k : Nat) (av : Option Addr) (cv : Nat), k ≤ len ∧ i = .int .i64 k ∧ s5 = .slice av ((l.take k).filter (isOf s)).length cv ∧ Hid (wr.ownsRow w.heap.size 41 5 (.slice av ((l.take k).filter (isOf s)).length cv) ((l.take k).filter (isOf s)).length (((l.take k).filter (isOf s)).flatMap evc)) ∧ Hid (Below w.heap.size w wr)) (fun _ i _ => len - (intOf i).toNat)
  case atStart => exact ⟨0, none, 0, Nat.zero_le _, rfl, by simp, hide (by simpa using World.ownsRow_nil _ _ _ _), hide (Below.refl _ _)⟩
  case round =>
    obtain ⟨k, av, cv, hk, rfl, rfl, HO, HB⟩ := hrel
    by_cases hlt : k < len
    case neg =>
      obtain rfl : k = len := by omega
      go_wp2
      go_ret
      rw [← HLN.out, List.take_length] at HO ⊢
      exact ⟨_, rfl, HO.out, HB.out⟩
    case pos =>
      obtain ⟨bb, off, rfl, hbb, z0, z1, z2, z3, z4⟩ := (HV.out.below' HB.out).2.2.2.2 k hlt
      have HTP := hide (take_filter_pos (isOf s) l k Ev0 (by rw [HLN.out]; exact hlt))
      have HTN := hide (take_filter_neg (isOf s) l k Ev0 (by rw [HLN.out]; exact hlt))
      have HFL : Hid (((l.take k).filter (isOf s)).length ≤ k) := hide cnt_le
      generalize hx : l.getD k Ev0 = x at *
      clear hx
      generalize hfk : (l.take k).filter (isOf s) = fk at *
      clear hfk
      have HAL := hide (fun o : Obj => HB.out.alloc HB.out.size o)
      have HOA := hide (fun o : Obj => HO.out.alloc o)
      by_cases heq : x.st.toList = s.toList
      case neg =>
        have hq : (x.st.toList == s.toList) = false := by simpa using heq
        go_wp2
        go_roundw
        case rel =>
          refine ⟨k + 1, av, cv, by omega, by simp, ?_, ?_, hide (HAL.out _)⟩
          · rw [HTN.out (decide_eq_false heq)]
          · rw [HTN.out (decide_eq_false heq)]; exact hide (HOA.out _)
        case measure => simp [intOf]; omega
      case pos =>
        have hq : (x.st.toList == s.toList) = true := by simpa using heq
        have HQ4 : Hid (fk.length + 1 ≤ maxLen) := hide (by have := HFL.out; show _ ≤ 9223372036854775807; omega)
        have HQ5 : Hid ((fk.length + 1) * 64 ≤ 140737488355328) := hide (by have := HFL.out; have := HBIG.out; omega)
        have HA7 : Hid (Below w.heap.size w (wr.alloc (.cells #[.string x.st, .int .i64 x.num, .int .i64 x.glob, .string x.ma, .string x.dt] 41))) := hide (HAL.out _)
        have HO7 : Hid ((wr.alloc (.cells #[.string x.st, .int .i64 x.num, .int .i64 x.glob, .string x.ma, .string x.dt] 41)).ownsRow w.heap.size 41 5 (.slice av fk.length cv) fk.length (fk.flatMap evc)) := hide (HOA.out _)
        have HNW := hide (evc_news x (heap_alloc_new (wr.alloc (.cells #[.string x.st, .int .i64 x.num, .int .i64 x.glob, .string x.ma, .string x.dt] 41)) (.cells #[.string x.st, .int .i64 x.num, .int .i64 x.glob, .string x.ma, .string x.dt] 41)))
        rw [World.size_alloc] at HNW
        have HQ6 : Hid (∀ o, w.heap.size ≤ ((wr.alloc (.cells #[.string x.st, .int .i64 x.num, .int .i64 x.glob, .string x.ma, .string x.dt] 41)).alloc o).heap.size) := hide (fun o => by have := HB.out.size; simp; omega)
        go_wp2_with (at_builtin; refine wpList_append_own _ rfl _ _ 22 rfl w.heap.size 41 i0 _ 5 64 Try.underlying22 hi hz0 hz1 hz2 rfl (by decide) _ _ _ rfl (HO7.out.alloc _) ⟨wr.heap.size + 1, 0, none⟩ 1 1 (evc x) rfl rfl HNW.out (evc_one1 x) HQ4.out HQ5.out (HQ6.out _) ?_)
        intro v' w' hown' hg' hnil'
        obtain ⟨av', cv', rfl⟩ := own_form hown'
        have HB' : Hid (Below w.heap.size w w') := hide ((HA7.out.alloc HA7.out.size _).grown hg' (HQ6.out _) (fun q hq => (HO7.out.lt q hq).1))
        have HO' : Hid (w'.ownsRow w.heap.size 41 5 (.slice av' ((l.take (k + 1)).filter (isOf s)).length cv') ((l.take (k + 1)).filter (isOf s)).length (((l.take (k + 1)).filter (isOf s)).flatMap evc)) := hide (by
          rw [HTP.out (decide_eq_true heq), flat_snoc, List.length_append]
          exact hown')
        have HL' : Hid (((l.take (k + 1)).filter (isOf s)).length = fk.length + 1) := hide (by rw [HTP.out (decide_eq_true heq), List.length_append]; rfl)
        clear hown' hg' hnil'
        go_wp2
        go_roundw
        case rel => exact ⟨k + 1, av', cv', by omega, by simp, by rw [HL'.out], HO', HB'⟩
        case measure => simp [intOf]; omega
/-- where a stream's last event ahead of a place stands -/
def LastAt (l : List Ev) (p : Nat) (r : Int) : Prop := (r = -1 ∧ ∀ j, j < p → ¬ (l.getD j Ev0).st.toList = (l.getD p Ev0).st.toList) ∨ ∃ q : Nat, r = (q : Int) ∧ q < p ∧ (l.getD q Ev0).st.toList = (l.getD p Ev0).st.toList ∧ ∀ j, q < j → j < p → ¬ (l.getD j Ev0).st.toList = (l.getD p Ev0).st.toList
set_option maxRecDepth 40000 in
set_option maxHeartbeats 1000000 in
/-- the document's last -/
theorem rlast_any (a : Option Addr) (len cap : Nat) (l : List Ev) (p : Nat) (w : World) (h : IsE w a len cap l) (hp : p < len) :
    Calls Try.prog 30 #[.slice a len cap, .int .i64 p] w fun e w' => (∃ r, e = .returned (.int .i64 r) ∧ LastAt l p r) ∧ Below w.heap.size w w' := by
  have HV := hide h
  have hcap := h.2.1
  have hcm : cap ≤ 9223372036854775807 := h.2.2.1
  obtain ⟨b, off, rfl, hbb, y0, y1, y2, y3, y4⟩ := h.2.2.2.2 p hp
  have hw0 : IntKind.i64.wrap ((p : Int) - 1) = (p : Int) - 1 := by simp [IntKind.wrap, IntKind.bits, IntKind.signed]; omega
  have HLA : Hid (∀ r, LastAt l p r = ((r = -1 ∧ ∀ j, j < p → ¬ (l.getD j Ev0).st.toList = (l.getD p Ev0).st.toList) ∨ ∃ q : Nat, r = (q : Int) ∧ q < p ∧ (l.getD q Ev0).st.toList = (l.getD p Ev0).st.toList ∧ ∀ j, q < j → j < p → ¬ (l.getD j Ev0).st.toList = (l.getD p Ev0).st.toList)) := hide (fun r => rfl)
  generalize hy : l.getD p Ev0 = y at *
  clear h hy
  have HY := hide y0
  clear y0 y1 y2 y3 y4
  go_enter Try.func30, Try.ntmps30
  go_wp2
  go_loopw [5] (fun i wr => ∃ k : Nat, k ≤ p ∧ i = .int .i64 ((k : Int) - 1) ∧ Hid (∀ j, k ≤ j → j < p → ¬ (l.getD j Ev0).st.toList = y.st.toList) ∧ Hid (Below w.heap.size w wr)) (fun i _ => ((intOf i) + 1).toNat)
  case atStart => exact ⟨p, Nat.le_refl _, rfl, hide (fun j h1 h2 => by omega), hide (Below.refl _ _)⟩
  case round =>
    obtain ⟨k, hk, rfl, HA, HB⟩ := hrel
    by_cases h0 : k = 0
    case pos =>
      subst h0
      rw [show (((0 : Nat) : Int) - 1) = -1 by omega]
      go_wp2
      go_ret
      exact ⟨⟨-1, rfl, by rw [HLA.out]; exact .inl ⟨rfl, fun j hj => HA.out j (by omega) hj⟩⟩, HB.out⟩
    case neg =>
      obtain ⟨k, rfl⟩ : ∃ k', k = k' + 1 := ⟨k - 1, by omega⟩
      rw [show (((k + 1 : Nat) : Int) - 1) = (k : Int) by omega]
      obtain ⟨b', off', e, _, z0, z1, z2, z3, z4⟩ := (HV.out.below' HB.out).2.2.2.2 k (by omega)
      cases e
      have HYW : Hid (wr.drew.cell? ⟨b, off + p * 5, none⟩ = some (.string y.st)) := hide ((HB.out.cell (p := ⟨b, off + p * 5, none⟩) hbb).trans HY.out)
      have hw1 : IntKind.i64.wrap ((k : Int) - 1) = (k : Int) - 1 := by simp [IntKind.wrap, IntKind.bits, IntKind.signed]; omega
      generalize hx : l.getD k Ev0 = x at *
      have HX := hide hx
      clear hx
      have HSS : Hid (wr.drew.cell? ⟨b, off + k * 5, none⟩ = some (.string x.st) ∧ wr.drew.cell? ⟨b, off + p * 5, none⟩ = some (.string y.st)) := hide ⟨z0, HYW.out⟩
      have HBD : Hid (Below w.heap.size w wr.drew) := hide HB.out.drew
      have hpl : (p : Int) < len := by omega
      have hkl : (k : Int) < len := by omega
      have hk0 : (0 : Int) ≤ (k : Int) := by omega
      have hkd : decide ((0 : Int) ≤ (k : Int)) = true := decide_eq_true hk0
      by_cases heq : x.st.toList = y.st.toList
      case pos =>
        have hq : (x.st.toList == y.st.toList) = true := by simpa using heq
        go_wp2_with fail
        go_region_held (fun W : World => W.cell? ⟨b, off + k * 5, none⟩ = some (.string x.st) ∧ W.cell? ⟨b, off + p * 5, none⟩ = some (.string y.st)) (exact HSS.out) (fail)
        go_wp2
        go_ret
        exact ⟨⟨_, rfl, by rw [HLA.out]; exact .inr ⟨k, rfl, by omega, by rw [HX.out]; exact heq, fun j h1 h2 => HA.out j (by omega) h2⟩⟩, HBD.out⟩
      case neg =>
        have hq : (x.st.toList == y.st.toList) = false := by simpa using heq
        go_wp2_with fail
        go_region_held (fun W : World => W.cell? ⟨b, off + k * 5, none⟩ = some (.string x.st) ∧ W.cell? ⟨b, off + p * 5, none⟩ = some (.string y.st)) (exact HSS.out) (fail)
        go_wp2
        go_roundw
        case rel => exact ⟨k, by omega, by simp, hide (fun j h1 h2 => by
          by_cases e : j = k
          · rw [e, HX.out]; exact heq
          · exact HA.out j (by omega) h2), HBD⟩
        case measure => simp [intOf]
/-- a mark was there ahead -/
def TwiceAt (l : List Ev) (p : Nat) : Prop := (l.getD p Ev0).ma.toList.isEmpty = false ∧ ∃ j, j < p ∧ (l.getD j Ev0).st.toList = (l.getD p Ev0).st.toList ∧ (l.getD j Ev0).ma.toList = (l.getD p Ev0).ma.toList
set_option maxRecDepth 40000 in
set_option maxHeartbeats 1000000 in
/-- the document's twice -/
theorem rtwice_any (a : Option Addr) (len cap : Nat) (l : List Ev) (p : Nat) (w : World) (h : IsE w a len cap l) (hp : p < len) :
    Calls Try.prog 31 #[.slice a len cap, .int .i64 p] w fun e w' => (∃ r, e = .returned (.bool r) ∧ (r = true ↔ TwiceAt l p)) ∧ Below w.heap.size w w' := by
  have HV := hide h
  have hcap := h.2.1
  have hcm : cap ≤ 9223372036854775807 := h.2.2.1
  obtain ⟨b, off, rfl, hbb, y0, y1, y2, y3, y4⟩ := h.2.2.2.2 p hp
  have HTW : Hid (TwiceAt l p = ((l.getD p Ev0).ma.toList.isEmpty = false ∧ ∃ j, j < p ∧ (l.getD j Ev0).st.toList = (l.getD p Ev0).st.toList ∧ (l.getD j Ev0).ma.toList = (l.getD p Ev0).ma.toList)) := hide rfl
  generalize hy : l.getD p Ev0 = y at *
  clear h hy
  have HY := hide (And.intro y0 y3)
  clear y0 y1 y2 y3 y4
  go_enter Try.func31, Try.ntmps31
  go_wp2
  go_loopw [5] (fun i wr => ∃ k : Nat, k ≤ p ∧ i = .int .i64 k ∧ Hid (∀ j, j < k → ¬ ((l.getD j Ev0).st.toList = y.st.toList ∧ (l.getD j Ev0).ma.toList = y.ma.toList)) ∧ Hid (Below w.heap.size w wr)) (fun i _ => p - (intOf i).toNat)
  case atStart => exact ⟨0, Nat.zero_le _, rfl, hide (fun j h1 => by omega), hide (Below.refl _ _)⟩
  case round =>
    obtain ⟨k, hk, rfl, HA, HB⟩ := hrel
    have y3 : wr.cell? ⟨b, off + p * 5 + 3, none⟩ = some (.string y.ma) := (HB.out.cell (p := ⟨b, off + p * 5 + 3, none⟩) hbb).trans HY.out.2
    have hpl : (p : Int) < len := by omega
    by_cases hlt : k < p
    case neg =>
      obtain rfl : k = p := by omega
      go_wp2
      go_ret
      exact ⟨⟨false, rfl, iff_of_false (by simp) (by rw [HTW.out]; rintro ⟨_, j, hj, h1, h2⟩; exact HA.out j hj ⟨h1, h2⟩)⟩, HB.out⟩
    case pos =>
      cases hme : y.ma.toList.isEmpty
      case true =>
        go_wp2
        go_ret
        exact ⟨⟨false, rfl, iff_of_false (by simp) (by rw [HTW.out]; rintro ⟨h, _⟩; rw [hme] at h; cases h)⟩, HB.out⟩
      case false =>
        obtain ⟨b', off', e, _, z0, z1, z2, z3, z4⟩ := (HV.out.below' HB.out).2.2.2.2 k (by omega)
        cases e
        have HY0 : Hid (wr.drew.cell? ⟨b, off + p * 5, none⟩ = some (.string y.st)) := hide ((HB.out.cell (p := ⟨b, off + p * 5, none⟩) hbb).trans HY.out.1)
        have hkl : (k : Int) < len := by omega
        generalize hx : l.getD k Ev0 = x at *
        have HX := hide hx
        clear hx
        have HSS : Hid (wr.drew.cell? ⟨b, off + k * 5, none⟩ = some (.string x.st) ∧ wr.drew.cell? ⟨b, off + k * 5 + 3, none⟩ = some (.string x.ma) ∧ wr.drew.cell? ⟨b, off + p * 5, none⟩ = some (.string y.st) ∧ wr.drew.cell? ⟨b, off + p * 5 + 3, none⟩ = some (.string y.ma)) := hide ⟨z0, z3, HY0.out, y3⟩
        have HBD : Hid (Below w.heap.size w wr.drew) := hide HB.out.drew
        by_cases heq : x.st.toList = y.st.toList
        case neg =>
          have hq : (x.st.toList == y.st.toList) = false := by simpa using heq
          go_wp2_with fail
          refine wp_region_held_drew (S := (fun W : World => W.cell? ⟨b, off + k * 5, none⟩ = some (.string x.st) ∧ W.cell? ⟨b, off + k * 5 + 3, none⟩ = some (.string x.ma) ∧ W.cell? ⟨b, off + p * 5, none⟩ = some (.string y.st) ∧ W.cell? ⟨b, off + p * 5 + 3, none⟩ = some (.string y.ma))) (by kernel_rfl) ?hSpa (fun hHeld => ?_)
          case hSpa => exact HSS.out
          refine hTakeK (i := 0) (v := ?v0pa) (some 19) rfl rfl (by kernel_rfl) (by kernel_rfl) (by kernel_rfl) (fun _ _ _ h => h) (by rfl) (by assumption) ?hy0pa ?hn0pa
          case hy0pa => (intro w hSw; (try dsimp only at hSw); go_simp; try with_reducible rfl)
          try simp only [Act.put, List.setIfInBounds_toArray, List.set_cons_zero, List.set_cons_succ]
          refine hTakeK (i := 1) (v := ?v1pa) (some 20) rfl rfl (by kernel_rfl) (by kernel_rfl) (by kernel_rfl) (fun _ _ _ h => h) (by rfl) (by assumption) ?hy1pa ?hn1pa
          case hy1pa => (intro w hSw; (try dsimp only at hSw); go_simp; try with_reducible rfl)
          try simp only [Act.put, List.setIfInBounds_toArray, List.set_cons_zero, List.set_cons_succ]
          refine hTakeK (i := 2) (v := ?v2pa) (some 21) rfl rfl (by kernel_rfl) (by kernel_rfl) (by kernel_rfl) (fun _ _ _ h => h) (by rfl) (by assumption) ?hy2pa ?hn2pa
          case hy2pa => (intro w hSw; (try dsimp only at hSw); go_simp; try with_reducible rfl)
          try simp only [Act.put, List.setIfInBounds_toArray, List.set_cons_zero, List.set_cons_succ]
          refine hTakeK (i := 3) (v := ?v3pa) (some 22) rfl rfl (by kernel_rfl) (by kernel_rfl) (by kernel_rfl) (fun _ _ _ h => h) (by rfl) (by assumption) ?hy3pa ?hn3pa
          case hy3pa => (intro w hSw; (try dsimp only at hSw); go_simp; try with_reducible rfl)
          try simp only [Act.put, List.setIfInBounds_toArray, List.set_cons_zero, List.set_cons_succ]
          refine hTakeK (i := 4) (v := ?v4pa) (some 23) rfl rfl (by kernel_rfl) (by kernel_rfl) (by kernel_rfl) (fun _ _ _ h => h) (by rfl) (by assumption) ?hy4pa ?hn4pa
          case hy4pa => (intro w hSw; (try dsimp only at hSw); go_simp; try with_reducible rfl)
          try simp only [Act.put, List.setIfInBounds_toArray, List.set_cons_zero, List.set_cons_succ]
          refine hTakeK (i := 5) (v := ?v5pa) (some 24) rfl rfl (by kernel_rfl) (by kernel_rfl) (by kernel_rfl) (fun _ _ _ h => h) (by rfl) (by assumption) ?hy5pa ?hn5pa
          case hy5pa => (intro w hSw; (try dsimp only at hSw); go_simp; try with_reducible rfl)
          try simp only [Act.put, List.setIfInBounds_toArray, List.set_cons_zero, List.set_cons_succ]
          refine hTakeK (i := 6) (v := ?v6pa) (some 25) rfl rfl (by kernel_rfl) (by kernel_rfl) (by kernel_rfl) (fun _ _ _ h => h) (by rfl) (by assumption) ?hy6pa ?hn6pa
          case hy6pa => (intro w hSw; (try dsimp only at hSw); go_simp; try with_reducible rfl)
          try simp only [Act.put, List.setIfInBounds_toArray, List.set_cons_zero, List.set_cons_succ]
          refine hTakeK (i := 7) (v := ?v7pa) (some 26) rfl rfl (by kernel_rfl) (by kernel_rfl) (by kernel_rfl) (fun _ _ _ h => h) (by rfl) (by assumption) ?hy7pa ?hn7pa
          case hy7pa => (intro w hSw; (try dsimp only at hSw); go_simp; try with_reducible rfl)
          try simp only [Act.put, List.setIfInBounds_toArray, List.set_cons_zero, List.set_cons_succ]
          refine hTakeK (i := 8) (v := ?v8pa) (some 27) rfl rfl (by kernel_rfl) (by kernel_rfl) (by kernel_rfl) (fun _ _ _ h => h) (by rfl) (by assumption) ?hy8pa ?hn8pa
          case hy8pa => (intro w hSw; (try dsimp only at hSw); go_simp; try with_reducible rfl)
          try simp only [Act.put, List.setIfInBounds_toArray, List.set_cons_zero, List.set_cons_succ]
          refine hTakeK (i := 9) (v := ?v9pa) (some 28) rfl rfl (by kernel_rfl) (by kernel_rfl) (by kernel_rfl) (fun _ _ _ h => h) (by rfl) (by assumption) ?hy9pa ?hn9pa
          case hy9pa => (intro w hSw; (try dsimp only at hSw); go_simp; try with_reducible rfl)
          try simp only [Act.put, List.setIfInBounds_toArray, List.set_cons_zero, List.set_cons_succ]
          refine hTakeK (i := 10) (v := ?v10pa) (some 29) rfl rfl (by kernel_rfl) (by kernel_rfl) (by kernel_rfl) (fun _ _ _ h => h) (by rfl) (by assumption) ?hy10pa ?hn10pa
          case hy10pa => (intro w hSw; (try dsimp only at hSw); go_simp; try with_reducible rfl)
          try simp only [Act.put, List.setIfInBounds_toArray, List.set_cons_zero, List.set_cons_succ]
          refine hTakeK (i := 11) (v := ?v11pa) (some 30) rfl rfl (by kernel_rfl) (by kernel_rfl) (by kernel_rfl) (fun _ _ _ h => h) (by rfl) (by assumption) ?hy11pa ?hn11pa
          case hy11pa => (intro w hSw; (try dsimp only at hSw); go_simp; try with_reducible rfl)
          try simp only [Act.put, List.setIfInBounds_toArray, List.set_cons_zero, List.set_cons_succ]
          refine hSkipK (i := 12) (some 31) rfl rfl (by kernel_rfl) (by kernel_rfl) (by kernel_rfl) (fun _ _ _ h => h) (by rfl) (by assumption) ?_
          try simp only [Act.put, List.setIfInBounds_toArray, List.set_cons_zero, List.set_cons_succ]
          refine hSkipK (i := 13) (some 32) rfl rfl (by kernel_rfl) (by kernel_rfl) (by kernel_rfl) (fun _ _ _ h => h) (by rfl) (by assumption) ?_
          try simp only [Act.put, List.setIfInBounds_toArray, List.set_cons_zero, List.set_cons_succ]
          refine hSkipK (i := 14) (some 33) rfl rfl (by kernel_rfl) (by kernel_rfl) (by kernel_rfl) (fun _ _ _ h => h) (by rfl) (by assumption) ?_
          try simp only [Act.put, List.setIfInBounds_toArray, List.set_cons_zero, List.set_cons_succ]
          refine hSkipK (i := 15) (some 34) rfl rfl (by kernel_rfl) (by kernel_rfl) (by kernel_rfl) (fun _ _ _ h => h) (by rfl) (by assumption) ?_
          try simp only [Act.put, List.setIfInBounds_toArray, List.set_cons_zero, List.set_cons_succ]
          refine hSkipK (i := 16) (some 35) rfl rfl (by kernel_rfl) (by kernel_rfl) (by kernel_rfl) (fun _ _ _ h => h) (by rfl) (by assumption) ?_
          try simp only [Act.put, List.setIfInBounds_toArray, List.set_cons_zero, List.set_cons_succ]
          refine hSkipK (i := 17) (some 36) rfl rfl (by kernel_rfl) (by kernel_rfl) (by kernel_rfl) (fun _ _ _ h => h) (by rfl) (by assumption) ?_
          try simp only [Act.put, List.setIfInBounds_toArray, List.set_cons_zero, List.set_cons_succ]
          refine hSkipK (i := 18) (some 37) rfl rfl (by kernel_rfl) (by kernel_rfl) (by kernel_rfl) (fun _ _ _ h => h) (by rfl) (by assumption) ?_
          try simp only [Act.put, List.setIfInBounds_toArray, List.set_cons_zero, List.set_cons_succ]
          refine hSkipK (i := 19) (some 38) rfl rfl (by kernel_rfl) (by kernel_rfl) (by kernel_rfl) (fun _ _ _ h => h) (by rfl) (by assumption) ?_
          try simp only [Act.put, List.setIfInBounds_toArray, List.set_cons_zero, List.set_cons_succ]
          refine hSkipK (i := 20) (some 39) rfl rfl (by kernel_rfl) (by kernel_rfl) (by kernel_rfl) (fun _ _ _ h => h) (by rfl) (by assumption) ?_
          try simp only [Act.put, List.setIfInBounds_toArray, List.set_cons_zero, List.set_cons_succ]
          refine hSkipK (i := 21) (some 40) rfl rfl (by kernel_rfl) (by kernel_rfl) (by kernel_rfl) (fun _ _ _ h => h) (by rfl) (by assumption) ?_
          try simp only [Act.put, List.setIfInBounds_toArray, List.set_cons_zero, List.set_cons_succ]
          refine hSkipK (i := 22) (some 41) rfl rfl (by kernel_rfl) (by kernel_rfl) (by kernel_rfl) (fun _ _ _ h => h) (by rfl) (by assumption) ?_
          try simp only [Act.put, List.setIfInBounds_toArray, List.set_cons_zero, List.set_cons_succ]
          refine hTakeK (i := 23) (v := ?v23pa) (some 42) rfl rfl (by kernel_rfl) (by kernel_rfl) (by kernel_rfl) (fun _ _ _ h => h) (by rfl) (by assumption) ?hy23pa ?hn23pa
          case hy23pa => (intro w hSw; (try dsimp only at hSw); go_simp; try with_reducible rfl)
          try simp only [Act.put, List.setIfInBounds_toArray, List.set_cons_zero, List.set_cons_succ]
          refine wpAnyH_done (by kernel_rfl) ?_ _
          go_wp2
          go_roundw
          case rel => exact ⟨k + 1, by omega, by simp, hide (fun j hj => by
            by_cases e : j = k
            · rw [e, HX.out]; exact fun h => heq h.1
            · exact HA.out j (by omega)), HBD⟩
          case measure => simp [intOf]; omega
        case pos =>
          have hq : (x.st.toList == y.st.toList) = true := by simpa using heq
          by_cases heq2 : x.ma.toList = y.ma.toList
          case pos =>
            have hq2 : (x.ma.toList == y.ma.toList) = true := by simpa using heq2
            go_wp2_with fail
            refine wp_region_held_drew (S := (fun W : World => W.cell? ⟨b, off + k * 5, none⟩ = some (.string x.st) ∧ W.cell? ⟨b, off + k * 5 + 3, none⟩ = some (.string x.ma) ∧ W.cell? ⟨b, off + p * 5, none⟩ = some (.string y.st) ∧ W.cell? ⟨b, off + p * 5 + 3, none⟩ = some (.string y.ma))) (by kernel_rfl) ?hSpb (fun hHeld => ?_)
            case hSpb => exact HSS.out
            refine hTakeK (i := 0) (v := ?v0pb) (some 19) rfl rfl (by kernel_rfl) (by kernel_rfl) (by kernel_rfl) (fun _ _ _ h => h) (by rfl) (by assumption) ?hy0pb ?hn0pb
            case hy0pb => (intro w hSw; (try dsimp only at hSw); go_simp; try with_reducible rfl)
            try simp only [Act.put, List.setIfInBounds_toArray, List.set_cons_zero, List.set_cons_succ]
            refine hTakeK (i := 1) (v := ?v1pb) (some 20) rfl rfl (by kernel_rfl) (by kernel_rfl) (by kernel_rfl) (fun _ _ _ h => h) (by rfl) (by assumption) ?hy1pb ?hn1pb
            case hy1pb => (intro w hSw; (try dsimp only at hSw); go_simp; try with_reducible rfl)
            try simp only [Act.put, List.setIfInBounds_toArray, List.set_cons_zero, List.set_cons_succ]
            refine hTakeK (i := 2) (v := ?v2pb) (some 21) rfl rfl (by kernel_rfl) (by kernel_rfl) (by kernel_rfl) (fun _ _ _ h => h) (by rfl) (by assumption) ?hy2pb ?hn2pb
            case hy2pb => (intro w hSw; (try dsimp only at hSw); go_simp; try with_reducible rfl)
            try simp only [Act.put, List.setIfInBounds_toArray, List.set_cons_zero, List.set_cons_succ]
            refine hTakeK (i := 3) (v := ?v3pb) (some 22) rfl rfl (by kernel_rfl) (by kernel_rfl) (by kernel_rfl) (fun _ _ _ h => h) (by rfl) (by assumption) ?hy3pb ?hn3pb
            case hy3pb => (intro w hSw; (try dsimp only at hSw); go_simp; try with_reducible rfl)
            try simp only [Act.put, List.setIfInBounds_toArray, List.set_cons_zero, List.set_cons_succ]
            refine hTakeK (i := 4) (v := ?v4pb) (some 23) rfl rfl (by kernel_rfl) (by kernel_rfl) (by kernel_rfl) (fun _ _ _ h => h) (by rfl) (by assumption) ?hy4pb ?hn4pb
            case hy4pb => (intro w hSw; (try dsimp only at hSw); go_simp; try with_reducible rfl)
            try simp only [Act.put, List.setIfInBounds_toArray, List.set_cons_zero, List.set_cons_succ]
            refine hTakeK (i := 5) (v := ?v5pb) (some 24) rfl rfl (by kernel_rfl) (by kernel_rfl) (by kernel_rfl) (fun _ _ _ h => h) (by rfl) (by assumption) ?hy5pb ?hn5pb
            case hy5pb => (intro w hSw; (try dsimp only at hSw); go_simp; try with_reducible rfl)
            try simp only [Act.put, List.setIfInBounds_toArray, List.set_cons_zero, List.set_cons_succ]
            refine hTakeK (i := 6) (v := ?v6pb) (some 25) rfl rfl (by kernel_rfl) (by kernel_rfl) (by kernel_rfl) (fun _ _ _ h => h) (by rfl) (by assumption) ?hy6pb ?hn6pb
            case hy6pb => (intro w hSw; (try dsimp only at hSw); go_simp; try with_reducible rfl)
            try simp only [Act.put, List.setIfInBounds_toArray, List.set_cons_zero, List.set_cons_succ]
            refine hTakeK (i := 7) (v := ?v7pb) (some 26) rfl rfl (by kernel_rfl) (by kernel_rfl) (by kernel_rfl) (fun _ _ _ h => h) (by rfl) (by assumption) ?hy7pb ?hn7pb
            case hy7pb => (intro w hSw; (try dsimp only at hSw); go_simp; try with_reducible rfl)
            try simp only [Act.put, List.setIfInBounds_toArray, List.set_cons_zero, List.set_cons_succ]
            refine hTakeK (i := 8) (v := ?v8pb) (some 27) rfl rfl (by kernel_rfl) (by kernel_rfl) (by kernel_rfl) (fun _ _ _ h => h) (by rfl) (by assumption) ?hy8pb ?hn8pb
            case hy8pb => (intro w hSw; (try dsimp only at hSw); go_simp; try with_reducible rfl)
            try simp only [Act.put, List.setIfInBounds_toArray, List.set_cons_zero, List.set_cons_succ]
            refine hTakeK (i := 9) (v := ?v9pb) (some 28) rfl rfl (by kernel_rfl) (by kernel_rfl) (by kernel_rfl) (fun _ _ _ h => h) (by rfl) (by assumption) ?hy9pb ?hn9pb
            case hy9pb => (intro w hSw; (try dsimp only at hSw); go_simp; try with_reducible rfl)
            try simp only [Act.put, List.setIfInBounds_toArray, List.set_cons_zero, List.set_cons_succ]
            refine hTakeK (i := 10) (v := ?v10pb) (some 29) rfl rfl (by kernel_rfl) (by kernel_rfl) (by kernel_rfl) (fun _ _ _ h => h) (by rfl) (by assumption) ?hy10pb ?hn10pb
            case hy10pb => (intro w hSw; (try dsimp only at hSw); go_simp; try with_reducible rfl)
            try simp only [Act.put, List.setIfInBounds_toArray, List.set_cons_zero, List.set_cons_succ]
            refine hTakeK (i := 11) (v := ?v11pb) (some 30) rfl rfl (by kernel_rfl) (by kernel_rfl) (by kernel_rfl) (fun _ _ _ h => h) (by rfl) (by assumption) ?hy11pb ?hn11pb
            case hy11pb => (intro w hSw; (try dsimp only at hSw); go_simp; try with_reducible rfl)
            try simp only [Act.put, List.setIfInBounds_toArray, List.set_cons_zero, List.set_cons_succ]
            refine hTakeK (i := 12) (v := ?v12pb) (some 31) rfl rfl (by kernel_rfl) (by kernel_rfl) (by kernel_rfl) (fun _ _ _ h => h) (by rfl) (by assumption) ?hy12pb ?hn12pb
            case hy12pb => (intro w hSw; (try dsimp only at hSw); go_simp; try with_reducible rfl)
            try simp only [Act.put, List.setIfInBounds_toArray, List.set_cons_zero, List.set_cons_succ]
            refine hTakeK (i := 13) (v := ?v13pb) (some 32) rfl rfl (by kernel_rfl) (by kernel_rfl) (by kernel_rfl) (fun _ _ _ h => h) (by rfl) (by assumption) ?hy13pb ?hn13pb
            case hy13pb => (intro w hSw; (try dsimp only at hSw); go_simp; try with_reducible rfl)
            try simp only [Act.put, List.setIfInBounds_toArray, List.set_cons_zero, List.set_cons_succ]
            refine hTakeK (i := 14) (v := ?v14pb) (some 33) rfl rfl (by kernel_rfl) (by kernel_rfl) (by kernel_rfl) (fun _ _ _ h => h) (by rfl) (by assumption) ?hy14pb ?hn14pb
            case hy14pb => (intro w hSw; (try dsimp only at hSw); go_simp; try with_reducible rfl)
            try simp only [Act.put, List.setIfInBounds_toArray, List.set_cons_zero, List.set_cons_succ]
            refine hTakeK (i := 15) (v := ?v15pb) (some 34) rfl rfl (by kernel_rfl) (by kernel_rfl) (by kernel_rfl) (fun _ _ _ h => h) (by rfl) (by assumption) ?hy15pb ?hn15pb
            case hy15pb => (intro w hSw; (try dsimp only at hSw); go_simp; try with_reducible rfl)
            try simp only [Act.put, List.setIfInBounds_toArray, List.set_cons_zero, List.set_cons_succ]
            refine hTakeK (i := 16) (v := ?v16pb) (some 35) rfl rfl (by kernel_rfl) (by kernel_rfl) (by kernel_rfl) (fun _ _ _ h => h) (by rfl) (by assumption) ?hy16pb ?hn16pb
            case hy16pb => (intro w hSw; (try dsimp only at hSw); go_simp; try with_reducible rfl)
            try simp only [Act.put, List.setIfInBounds_toArray, List.set_cons_zero, List.set_cons_succ]
            refine hTakeK (i := 17) (v := ?v17pb) (some 36) rfl rfl (by kernel_rfl) (by kernel_rfl) (by kernel_rfl) (fun _ _ _ h => h) (by rfl) (by assumption) ?hy17pb ?hn17pb
            case hy17pb => (intro w hSw; (try dsimp only at hSw); go_simp; try with_reducible rfl)
            try simp only [Act.put, List.setIfInBounds_toArray, List.set_cons_zero, List.set_cons_succ]
            refine hTakeK (i := 18) (v := ?v18pb) (some 37) rfl rfl (by kernel_rfl) (by kernel_rfl) (by kernel_rfl) (fun _ _ _ h => h) (by rfl) (by assumption) ?hy18pb ?hn18pb
            case hy18pb => (intro w hSw; (try dsimp only at hSw); go_simp; try with_reducible rfl)
            try simp only [Act.put, List.setIfInBounds_toArray, List.set_cons_zero, List.set_cons_succ]
            refine hTakeK (i := 19) (v := ?v19pb) (some 38) rfl rfl (by kernel_rfl) (by kernel_rfl) (by kernel_rfl) (fun _ _ _ h => h) (by rfl) (by assumption) ?hy19pb ?hn19pb
            case hy19pb => (intro w hSw; (try dsimp only at hSw); go_simp; try with_reducible rfl)
            try simp only [Act.put, List.setIfInBounds_toArray, List.set_cons_zero, List.set_cons_succ]
            refine hTakeK (i := 20) (v := ?v20pb) (some 39) rfl rfl (by kernel_rfl) (by kernel_rfl) (by kernel_rfl) (fun _ _ _ h => h) (by rfl) (by assumption) ?hy20pb ?hn20pb
            case hy20pb => (intro w hSw; (try dsimp only at hSw); go_simp; try with_reducible rfl)
            try simp only [Act.put, List.setIfInBounds_toArray, List.set_cons_zero, List.set_cons_succ]
            refine hTakeK (i := 21) (v := ?v21pb) (some 40) rfl rfl (by kernel_rfl) (by kernel_rfl) (by kernel_rfl) (fun _ _ _ h => h) (by rfl) (by assumption) ?hy21pb ?hn21pb
            case hy21pb => (intro w hSw; (try dsimp only at hSw); go_simp; try with_reducible rfl)
            try simp only [Act.put, List.setIfInBounds_toArray, List.set_cons_zero, List.set_cons_succ]
            refine hTakeK (i := 22) (v := ?v22pb) (some 41) rfl rfl (by kernel_rfl) (by kernel_rfl) (by kernel_rfl) (fun _ _ _ h => h) (by rfl) (by assumption) ?hy22pb ?hn22pb
            case hy22pb => (intro w hSw; (try dsimp only at hSw); go_simp; try with_reducible rfl)
            try simp only [Act.put, List.setIfInBounds_toArray, List.set_cons_zero, List.set_cons_succ]
            refine hTakeK (i := 23) (v := ?v23pb) (some 42) rfl rfl (by kernel_rfl) (by kernel_rfl) (by kernel_rfl) (fun _ _ _ h => h) (by rfl) (by assumption) ?hy23pb ?hn23pb
            case hy23pb => (intro w hSw; (try dsimp only at hSw); go_simp; try with_reducible rfl)
            try simp only [Act.put, List.setIfInBounds_toArray, List.set_cons_zero, List.set_cons_succ]
            refine wpAnyH_done (by kernel_rfl) ?_ _
            go_wp2
            go_ret
            exact ⟨⟨true, rfl, iff_of_true rfl (by rw [HTW.out]; exact ⟨hme, k, hlt, by rw [HX.out]; exact heq, by rw [HX.out]; exact heq2⟩)⟩, HBD.out⟩
          case neg =>
            have hq2 : (x.ma.toList == y.ma.toList) = false := by simpa using heq2
            go_wp2_with fail
            refine wp_region_held_drew (S := (fun W : World => W.cell? ⟨b, off + k * 5, none⟩ = some (.string x.st) ∧ W.cell? ⟨b, off + k * 5 + 3, none⟩ = some (.string x.ma) ∧ W.cell? ⟨b, off + p * 5, none⟩ = some (.string y.st) ∧ W.cell? ⟨b, off + p * 5 + 3, none⟩ = some (.string y.ma))) (by kernel_rfl) ?hSpc (fun hHeld => ?_)
            case hSpc => exact HSS.out
            refine hTakeK (i := 0) (v := ?v0pc) (some 19) rfl rfl (by kernel_rfl) (by kernel_rfl) (by kernel_rfl) (fun _ _ _ h => h) (by rfl) (by assumption) ?hy0pc ?hn0pc
            case hy0pc => (intro w hSw; (try dsimp only at hSw); go_simp; try with_reducible rfl)
            try simp only [Act.put, List.setIfInBounds_toArray, List.set_cons_zero, List.set_cons_succ]
            refine hTakeK (i := 1) (v := ?v1pc) (some 20) rfl rfl (by kernel_rfl) (by kernel_rfl) (by kernel_rfl) (fun _ _ _ h => h) (by rfl) (by assumption) ?hy1pc ?hn1pc
            case hy1pc => (intro w hSw; (try dsimp only at hSw); go_simp; try with_reducible rfl)
            try simp only [Act.put, List.setIfInBounds_toArray, List.set_cons_zero, List.set_cons_succ]
            refine hTakeK (i := 2) (v := ?v2pc) (some 21) rfl rfl (by kernel_rfl) (by kernel_rfl) (by kernel_rfl) (fun _ _ _ h => h) (by rfl) (by assumption) ?hy2pc ?hn2pc
            case hy2pc => (intro w hSw; (try dsimp only at hSw); go_simp; try with_reducible rfl)
            try simp only [Act.put, List.setIfInBounds_toArray, List.set_cons_zero, List.set_cons_succ]
            refine hTakeK (i := 3) (v := ?v3pc) (some 22) rfl rfl (by kernel_rfl) (by kernel_rfl) (by kernel_rfl) (fun _ _ _ h => h) (by rfl) (by assumption) ?hy3pc ?hn3pc
            case hy3pc => (intro w hSw; (try dsimp only at hSw); go_simp; try with_reducible rfl)
            try simp only [Act.put, List.setIfInBounds_toArray, List.set_cons_zero, List.set_cons_succ]
            refine hTakeK (i := 4) (v := ?v4pc) (some 23) rfl rfl (by kernel_rfl) (by kernel_rfl) (by kernel_rfl) (fun _ _ _ h => h) (by rfl) (by assumption) ?hy4pc ?hn4pc
            case hy4pc => (intro w hSw; (try dsimp only at hSw); go_simp; try with_reducible rfl)
            try simp only [Act.put, List.setIfInBounds_toArray, List.set_cons_zero, List.set_cons_succ]
            refine hTakeK (i := 5) (v := ?v5pc) (some 24) rfl rfl (by kernel_rfl) (by kernel_rfl) (by kernel_rfl) (fun _ _ _ h => h) (by rfl) (by assumption) ?hy5pc ?hn5pc
            case hy5pc => (intro w hSw; (try dsimp only at hSw); go_simp; try with_reducible rfl)
            try simp only [Act.put, List.setIfInBounds_toArray, List.set_cons_zero, List.set_cons_succ]
            refine hTakeK (i := 6) (v := ?v6pc) (some 25) rfl rfl (by kernel_rfl) (by kernel_rfl) (by kernel_rfl) (fun _ _ _ h => h) (by rfl) (by assumption) ?hy6pc ?hn6pc
            case hy6pc => (intro w hSw; (try dsimp only at hSw); go_simp; try with_reducible rfl)
            try simp only [Act.put, List.setIfInBounds_toArray, List.set_cons_zero, List.set_cons_succ]
            refine hTakeK (i := 7) (v := ?v7pc) (some 26) rfl rfl (by kernel_rfl) (by kernel_rfl) (by kernel_rfl) (fun _ _ _ h => h) (by rfl) (by assumption) ?hy7pc ?hn7pc
            case hy7pc => (intro w hSw; (try dsimp only at hSw); go_simp; try with_reducible rfl)
            try simp only [Act.put, List.setIfInBounds_toArray, List.set_cons_zero, List.set_cons_succ]
            refine hTakeK (i := 8) (v := ?v8pc) (some 27) rfl rfl (by kernel_rfl) (by kernel_rfl) (by kernel_rfl) (fun _ _ _ h => h) (by rfl) (by assumption) ?hy8pc ?hn8pc
            case hy8pc => (intro w hSw; (try dsimp only at hSw); go_simp; try with_reducible rfl)
            try simp only [Act.put, List.setIfInBounds_toArray, List.set_cons_zero, List.set_cons_succ]
            refine hTakeK (i := 9) (v := ?v9pc) (some 28) rfl rfl (by kernel_rfl) (by kernel_rfl) (by kernel_rfl) (fun _ _ _ h => h) (by rfl) (by assumption) ?hy9pc ?hn9pc
            case hy9pc => (intro w hSw; (try dsimp only at hSw); go_simp; try with_reducible rfl)
            try simp only [Act.put, List.setIfInBounds_toArray, List.set_cons_zero, List.set_cons_succ]
            refine hTakeK (i := 10) (v := ?v10pc) (some 29) rfl rfl (by kernel_rfl) (by kernel_rfl) (by kernel_rfl) (fun _ _ _ h => h) (by rfl) (by assumption) ?hy10pc ?hn10pc
            case hy10pc => (intro w hSw; (try dsimp only at hSw); go_simp; try with_reducible rfl)
            try simp only [Act.put, List.setIfInBounds_toArray, List.set_cons_zero, List.set_cons_succ]
            refine hTakeK (i := 11) (v := ?v11pc) (some 30) rfl rfl (by kernel_rfl) (by kernel_rfl) (by kernel_rfl) (fun _ _ _ h => h) (by rfl) (by assumption) ?hy11pc ?hn11pc
            case hy11pc => (intro w hSw; (try dsimp only at hSw); go_simp; try with_reducible rfl)
            try simp only [Act.put, List.setIfInBounds_toArray, List.set_cons_zero, List.set_cons_succ]
            refine hTakeK (i := 12) (v := ?v12pc) (some 31) rfl rfl (by kernel_rfl) (by kernel_rfl) (by kernel_rfl) (fun _ _ _ h => h) (by rfl) (by assumption) ?hy12pc ?hn12pc
            case hy12pc => (intro w hSw; (try dsimp only at hSw); go_simp; try with_reducible rfl)
            try simp only [Act.put, List.setIfInBounds_toArray, List.set_cons_zero, List.set_cons_succ]
            refine hTakeK (i := 13) (v := ?v13pc) (some 32) rfl rfl (by kernel_rfl) (by kernel_rfl) (by kernel_rfl) (fun _ _ _ h => h) (by rfl) (by assumption) ?hy13pc ?hn13pc
            case hy13pc => (intro w hSw; (try dsimp only at hSw); go_simp; try with_reducible rfl)
            try simp only [Act.put, List.setIfInBounds_toArray, List.set_cons_zero, List.set_cons_succ]
            refine hTakeK (i := 14) (v := ?v14pc) (some 33) rfl rfl (by kernel_rfl) (by kernel_rfl) (by kernel_rfl) (fun _ _ _ h => h) (by rfl) (by assumption) ?hy14pc ?hn14pc
            case hy14pc => (intro w hSw; (try dsimp only at hSw); go_simp; try with_reducible rfl)
            try simp only [Act.put, List.setIfInBounds_toArray, List.set_cons_zero, List.set_cons_succ]
            refine hTakeK (i := 15) (v := ?v15pc) (some 34) rfl rfl (by kernel_rfl) (by kernel_rfl) (by kernel_rfl) (fun _ _ _ h => h) (by rfl) (by assumption) ?hy15pc ?hn15pc
            case hy15pc => (intro w hSw; (try dsimp only at hSw); go_simp; try with_reducible rfl)
            try simp only [Act.put, List.setIfInBounds_toArray, List.set_cons_zero, List.set_cons_succ]
            refine hTakeK (i := 16) (v := ?v16pc) (some 35) rfl rfl (by kernel_rfl) (by kernel_rfl) (by kernel_rfl) (fun _ _ _ h => h) (by rfl) (by assumption) ?hy16pc ?hn16pc
            case hy16pc => (intro w hSw; (try dsimp only at hSw); go_simp; try with_reducible rfl)
            try simp only [Act.put, List.setIfInBounds_toArray, List.set_cons_zero, List.set_cons_succ]
            refine hTakeK (i := 17) (v := ?v17pc) (some 36) rfl rfl (by kernel_rfl) (by kernel_rfl) (by kernel_rfl) (fun _ _ _ h => h) (by rfl) (by assumption) ?hy17pc ?hn17pc
            case hy17pc => (intro w hSw; (try dsimp only at hSw); go_simp; try with_reducible rfl)
            try simp only [Act.put, List.setIfInBounds_toArray, List.set_cons_zero, List.set_cons_succ]
            refine hTakeK (i := 18) (v := ?v18pc) (some 37) rfl rfl (by kernel_rfl) (by kernel_rfl) (by kernel_rfl) (fun _ _ _ h => h) (by rfl) (by assumption) ?hy18pc ?hn18pc
            case hy18pc => (intro w hSw; (try dsimp only at hSw); go_simp; try with_reducible rfl)
            try simp only [Act.put, List.setIfInBounds_toArray, List.set_cons_zero, List.set_cons_succ]
            refine hTakeK (i := 19) (v := ?v19pc) (some 38) rfl rfl (by kernel_rfl) (by kernel_rfl) (by kernel_rfl) (fun _ _ _ h => h) (by rfl) (by assumption) ?hy19pc ?hn19pc
            case hy19pc => (intro w hSw; (try dsimp only at hSw); go_simp; try with_reducible rfl)
            try simp only [Act.put, List.setIfInBounds_toArray, List.set_cons_zero, List.set_cons_succ]
            refine hTakeK (i := 20) (v := ?v20pc) (some 39) rfl rfl (by kernel_rfl) (by kernel_rfl) (by kernel_rfl) (fun _ _ _ h => h) (by rfl) (by assumption) ?hy20pc ?hn20pc
            case hy20pc => (intro w hSw; (try dsimp only at hSw); go_simp; try with_reducible rfl)
            try simp only [Act.put, List.setIfInBounds_toArray, List.set_cons_zero, List.set_cons_succ]
            refine hTakeK (i := 21) (v := ?v21pc) (some 40) rfl rfl (by kernel_rfl) (by kernel_rfl) (by kernel_rfl) (fun _ _ _ h => h) (by rfl) (by assumption) ?hy21pc ?hn21pc
            case hy21pc => (intro w hSw; (try dsimp only at hSw); go_simp; try with_reducible rfl)
            try simp only [Act.put, List.setIfInBounds_toArray, List.set_cons_zero, List.set_cons_succ]
            refine hTakeK (i := 22) (v := ?v22pc) (some 41) rfl rfl (by kernel_rfl) (by kernel_rfl) (by kernel_rfl) (fun _ _ _ h => h) (by rfl) (by assumption) ?hy22pc ?hn22pc
            case hy22pc => (intro w hSw; (try dsimp only at hSw); go_simp; try with_reducible rfl)
            try simp only [Act.put, List.setIfInBounds_toArray, List.set_cons_zero, List.set_cons_succ]
            refine hTakeK (i := 23) (v := ?v23pc) (some 42) rfl rfl (by kernel_rfl) (by kernel_rfl) (by kernel_rfl) (fun _ _ _ h => h) (by rfl) (by assumption) ?hy23pc ?hn23pc
            case hy23pc => (intro w hSw; (try dsimp only at hSw); go_simp; try with_reducible rfl)
            try simp only [Act.put, List.setIfInBounds_toArray, List.set_cons_zero, List.set_cons_succ]
            refine wpAnyH_done (by kernel_rfl) ?_ _
            go_wp2
            go_roundw
            case rel => exact ⟨k + 1, by omega, by simp, hide (fun j hj => by
              by_cases e : j = k
              · rw [e, HX.out]; exact fun h => heq2 h.2
              · exact HA.out j (by omega)), HBD⟩
            case measure => simp [intOf]; omega
end Go.Proofs.Ytggbaanoagbmdaa
