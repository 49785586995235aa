/- the document's some, Read, All -/
import Derived.Test.YtggbaanoagbmdaaY
import Derived.Test.YtggbaanoagbmdaaT
namespace Go.Proofs.Ytggbaanoagbmdaa
open Go.RowKit
set_option maxRecDepth 40000 in
set_option maxHeartbeats 1000000 in
/-- the document's some -/
theorem rsome_any (a : Option Addr) (len cap : Nat) (l : List Ev) (mn : Nat) (w : World) (h : IsE w a len cap l) (hnone : a = none → cap = 0) (hbig : len * 64 ≤ 140737488355328) (hmn : mn ≤ 9223372036854775807) :
    Calls Try.prog 35 #[.slice a len cap, .int .i64 mn] w fun e w' => ∃ a' c', e = .returned (.slice a' (l.take mn).length c') ∧ IsE w' a' (l.take mn).length c' (l.take mn) ∧ Below w.heap.size w w' := by
  obtain ⟨i0, hi, hz0, hz1, hz2⟩ := info_parts info41
  have hk : ∃ k, k = min mn len := ⟨_, rfl⟩
  obtain ⟨k, hk⟩ := hk
  have hkl : k ≤ len := by omega
  have HTL : Hid ((l.take mn).length = k ∧ l.take mn = l.take k) := hide (by
    refine ⟨by rw [List.length_take, h.1, hk], ?_⟩
    rw [hk, ← h.1, List.take_eq_take_min])
  have HT := hide (isE_take h k hkl)
  have HB0 : Hid (Below w.heap.size w (w.alloc (.cells #[] 41))) := hide ((Below.refl _ w).alloc (Nat.le_refl _) _)
  have HCLONE : Hid (∀ p, a = some p → ∀ j u, ((l.take k).flatMap evc)[j]? = some u → (w.alloc (.cells #[] 41)).cell? (p.add j) = some u) := hide (fun p e j u hj => by
    obtain ⟨h1, _⟩ := evc_at (l.take k) j u hj
    have hI := HT.out
    rw [hI.1] at h1
    obtain ⟨b', off, e', _⟩ := hI.2.2.2.2 0 (by omega)
    rw [e'] at e
    cases e
    rw [e'] at hI
    rw [Addr.add_lit]
    exact Lib.cell?_alloc_some _ (hI.news j u hj))
  have HCQ : Hid ((0 + k) ≤ maxLen ∧ (0 + k) * 64 ≤ 140737488355328) := hide ⟨by show _ ≤ 9223372036854775807; omega, by omega⟩
  have hlc := h.2.1
  have hcm : cap ≤ 9223372036854775807 := h.2.2.1
  have HNO := hide hnone
  have hkm : (min (mn : Int) (len : Int)) = (k : Int) := by omega
  rw [HTL.out.1, HTL.out.2]
  have hcases : (mn ≤ len ∧ k = mn) ∨ (len < mn ∧ k = len) := by omega
  clear h hnone HTL hk
  go_enter Try.func35, Try.ntmps35
  cases a with
  | none =>
    obtain rfl : cap = 0 := HNO.out rfl
    obtain rfl : len = 0 := by omega
    obtain rfl : k = 0 := by omega
    clear hcases hkm
    have hkm : min (mn : Int) 0 = 0 := by omega
    go_wp2_with (at_builtin; refine wpList_append_none2 rfl _ _ 22 rfl w.heap.size 41 i0 5 Try.underlying22 hi _ _ _ rfl (World.ownsRow_made w #[] 0 (Nat.le_refl _) (Nat.zero_le _) (by simp)) rfl ?_)
    intro v' w1 hew
    obtain ⟨ev, ew⟩ := hew.out
    have hown' : w1.ownsRow w.heap.size 41 5 v' 0 [] := by rw [ev, ew]; exact World.ownsRow_made (base := w.heap.size) (e := 41) (size := 5) w #[] 0 (Nat.le_refl _) (Nat.zero_le _) (by simp)
    have HBG : Hid (Below w.heap.size w w1) := hide (by rw [ew]; exact (Below.refl _ w).alloc (Nat.le_refl _) _)
    obtain ⟨ag, cg, he, hI, _⟩ := own_isE HT.out.1 HT.out.2.2.2.1 (show w1.ownsRow w.heap.size 41 5 v' 0 ((l.take 0).flatMap evc) from hown')
    subst he
    have HIG := hide hI
    clear hI hown' ev ew hew hkm HT HCLONE
    go_wp2
    go_ret
    exact ⟨ag, cg, rfl, HIG.out, HBG.out⟩
  | some p =>
    clear hcases
    go_wp2_with (at_builtin; refine wpList_append_own _ rfl _ _ 22 rfl w.heap.size 41 i0 _ 5 64 Try.underlying22 hi hz0 hz1 hz2 rfl (by decide) _ _ _ rfl (World.ownsRow_made w #[] 0 (Nat.le_refl _) (Nat.zero_le _) (by simp)) p k cap ((l.take k).flatMap evc) rfl (by rw [evc_len, HT.out.1]) (HCLONE.out p rfl) (evc_one _) HCQ.out.1 HCQ.out.2 (by simp) ?_)
    intro v' w1 hown' hg' hnil'
    have HBG : Hid (Below w.heap.size w w1) := hide (((Below.refl _ w).alloc (Nat.le_refl _) _).grown hg' (by simp) (by intro k hk; simp [Value.ownBlock] at hk; omega))
    obtain ⟨ag, cg, he, hI, _⟩ := own_isE HT.out.1 HT.out.2.2.2.1 (show w1.ownsRow w.heap.size 41 5 v' k ((l.take k).flatMap evc) from by simpa using hown')
    subst he
    have HIG := hide hI
    clear hI hown' hg' hnil'
    go_wp2
    go_ret
    exact ⟨ag, cg, rfl, HIG.out, HBG.out⟩
theorem isE_drop {w : World} {bb off len cap : Nat} {l : List Ev} (h : IsE w (some ⟨bb, off, none⟩) len cap l) (k : Nat) (hk : k ≤ len) : IsE w (some ⟨bb, off + k * 5, none⟩) (len - k) (cap - k) (l.drop k) := by
  have h2 := h.2.1
  have h3 := h.2.2.1
  refine ⟨by rw [List.length_drop, h.1], by omega, by omega, fun x hx => h.2.2.2.1 x (List.mem_of_mem_drop hx), fun i hi => ?_⟩
  obtain ⟨b', off', e, hlt, hc⟩ := h.2.2.2.2 (k + i) (by omega)
  cases e
  refine ⟨bb, off + k * 5, rfl, hlt, ?_⟩
  rw [show (l.drop k).getD i Ev0 = l.getD (k + i) Ev0 from by rw [List.getD_eq_getElem?_getD, List.getD_eq_getElem?_getD, List.getElem?_drop]]
  rw [show off + k * 5 + i * 5 = off + (k + i) * 5 by omega]
  exact hc
theorem isE_none {w : World} {b : Option Addr} {c : Nat} (h : c ≤ maxLen) : IsE w b 0 c [] := ⟨rfl, Nat.zero_le _, h, by simp, fun i hi => by omega⟩
theorem own_isE2 {w : World} {base : Nat} {v : Value} {n : Nat} {l : List Ev} (hl : l.length = n) (ho : ∀ x ∈ l, okE x) (h : w.ownsRow base 41 5 v n (l.flatMap evc)) : ∃ a cap, v = .slice a n cap ∧ IsE w a n cap l ∧ (cap = 0 ∨ ∃ b off, a = some ⟨b, off, none⟩) := by
  obtain ⟨a, cap, e, hI, _⟩ := own_isE hl ho h
  refine ⟨a, cap, e, hI, ?_⟩
  rcases h.2 with ⟨rfl, rfl⟩ | ⟨g, cap', cur, rfl, _⟩
  · cases e; exact .inl rfl
  · cases e; exact .inr ⟨_, _, rfl⟩
theorem pick_l {l : List Ev} (hg : goodB l = true) (f mn : Nat) : pick (·.glob) ((f : Int) + 1) mn l = (l.drop f).take mn := by
  rw [pick_drop (glob_at hg)]
  rw [show ((f : Int) + 1 - 1).toNat = f by omega]
theorem pick_s {l : List Ev} (hg : goodB l = true) (s : ByteArray) (f mn : Nat) : pick (·.num) ((f : Int) + 1) mn (l.filter (isOf s)) = ((l.filter (isOf s)).drop f).take mn := by
  rw [pick_drop (num_at hg s)]
  rw [show ((f : Int) + 1 - 1).toNat = f by omega]
theorem drop_min {zs : List Ev} {n f k : Nat} (hl : zs.length = n) (hk : k = min f n) : zs.drop f = zs.drop k := by
  by_cases h : f ≤ n
  · rw [show k = f by omega]
  · rw [List.drop_of_length_le (by omega), List.drop_of_length_le (by omega)]
set_option maxRecDepth 40000 in
set_option maxHeartbeats 1000000 in
/-- the document's All -/
theorem rall_any (a : Option Addr) (len cap : Nat) (l : List Ev) (fr mo : Int) (w : World) (h : IsE w a len cap l) (hsp : cap = 0 ∨ ∃ b off, a = some ⟨b, off, none⟩) (hbig : len * 64 ≤ 140737488355328) (hfr : fr ≤ 9223372036854775807) (hmo : mo ≤ 9223372036854775807) :
    Calls Try.prog 19 #[.slice a len cap, .int .i64 fr, .int .i64 mo] w fun e w' => ∃ a' c', e = .returned (.tuple #[.slice a' (someR l l fr mo (·.glob)).1.length c', .int .i64 (someR l l fr mo (·.glob)).2]) ∧ IsE w' a' (someR l l fr mo (·.glob)).1.length c' (someR l l fr mo (·.glob)).1 ∧ Below w.heap.size w w' := by
  have HV := hide h
  have HBG := hide hbig
  have CK := hide (rcheck_any a len cap l w h)
  clear h hbig
  cases hg : goodB l
  case false =>
    have HR : Hid (someR l l fr mo (·.glob) = ([], 2)) := hide (by unfold someR; rw [if_pos hg])
    rw [show checkE l = 2 from by unfold checkE; rw [hg]; rfl] at CK
    clear hg hsp
    go_enter Try.func19, Try.ntmps19
    go_wp2_with fail
    refine CK.out.mono ?_
    rintro e w1 ⟨rfl, hb1⟩
    have HB1 := hide hb1
    clear hb1 CK
    go_wp2
    go_ret2
    rw [HR.out]
    exact ⟨none, 0, rfl, isE_nil _, HB1.out⟩
  case true =>
    have HG := hide hg
    rw [show checkE l = 0 from by unfold checkE; rw [hg]; rfl] at CK
    by_cases hfm : fr < 1 ∨ mo < 0
    case pos =>
      have HR : Hid (someR l l fr mo (·.glob) = ([], 2)) := hide (by unfold someR; rw [if_neg (by rw [hg]; simp), if_pos hfm])
      clear hg hsp
      have hfm2 : fr < 1 ∨ (¬ fr < 1 ∧ mo < 0) := by omega
      rcases hfm2 with h1 | ⟨h1, h2⟩
      case' inl => have d1 : decide (fr < 1) = true := decide_eq_true h1
      case' inr =>
        have d1 : decide (fr < 1) = false := decide_eq_false h1
        have d2 : decide (mo < 0) = true := decide_eq_true h2
      all_goals
        clear hfm
        go_enter Try.func19, Try.ntmps19
        go_wp2_with fail
        refine CK.out.mono ?_
        rintro e w1 ⟨rfl, hb1⟩
        have HB1 := hide hb1
        clear hb1 CK
        go_wp2
        go_ret2
        rw [HR.out]
        exact ⟨none, 0, rfl, isE_nil _, HB1.out⟩
    case neg =>
      obtain ⟨f, rfl⟩ : ∃ f : Nat, fr = (f : Int) + 1 := ⟨(fr - 1).toNat, by omega⟩
      obtain ⟨mn, rfl⟩ : ∃ mn : Nat, mo = (mn : Int) := ⟨mo.toNat, by omega⟩
      have HR : Hid (someR l l ((f : Int) + 1) mn (·.glob) = ((l.drop f).take mn, 0)) := hide (by
        unfold someR
        rw [if_neg (by rw [hg]; simp), if_neg hfm]
        rw [pick_l hg]
        rfl)
      have HMN : Hid (mn ≤ 9223372036854775807) := hide (by omega)
      have d1 : decide ((f : Int) + 1 < 1) = false := decide_eq_false (by omega)
      have d2 : decide ((mn : Int) < 0) = false := decide_eq_false (by omega)
      have hw1 : IntKind.i64.wrap ((f : Int) + 1 - 1) = (f : Int) := by simp [IntKind.wrap, IntKind.bits, IntKind.signed]; omega
      have hw2 : wrap64 (f : Int) = (f : Int) := by simp only [wrap64]; omega
      clear hg hfm hmo hfr
      go_enter Try.func19, Try.ntmps19
      go_wp2_with fail
      refine CK.out.mono ?_
      rintro e w1 ⟨rfl, hb1⟩
      have HB1 := hide hb1
      clear hb1 CK
      have HI : Hid (IsE w1 a len cap l) := hide (HV.out.below' HB1.out)
      have HBW := HB1
      obtain ⟨k, hk⟩ : ∃ k, k = min f len := ⟨_, rfl⟩
      have hkl : k ≤ len := by omega
      have hkm : (min (f : Int) (len : Int)) = (k : Int) := by omega
      have HDK : Hid (l.drop f = l.drop k) := hide (drop_min HI.out.1 hk)
      have hlc := HI.out.2.1
      have hcm : cap ≤ 9223372036854775807 := HI.out.2.2.1
      clear hk
      have hsp3 : (cap = 0) ∨ (∃ bb off, a = some ⟨bb, off, none⟩ ∧ k < cap) ∨ (∃ bb off, a = some ⟨bb, off, none⟩ ∧ k = len ∧ len = cap) := by
        rcases hsp with h | ⟨bb, off, h⟩
        · exact .inl h
        · by_cases hk2 : k < cap
          · exact .inr (.inl ⟨bb, off, h, hk2⟩)
          · exact .inr (.inr ⟨bb, off, h, by omega, by omega⟩)
      clear hsp
      rcases hsp3 with rfl | ⟨bb, off, rfl, hk2⟩ | ⟨bb, off, rfl, rfl, rfl⟩
      case inl =>
        obtain rfl : len = 0 := by omega
        obtain rfl : k = 0 := by omega
        clear hkm
        have hkm : min (f : Int) 0 = 0 := by omega
        have HZ0 : Hid (l.drop f = []) := hide (by rw [HDK.out]; simpa using List.eq_nil_of_length_eq_zero HI.out.1)
        cases a with
        | none =>
          have C3 := hide (rsome_any none 0 0 [] mn w1 (isE_nil _) (fun _ => rfl) (by omega) HMN.out)
          go_wp2_with fail
          refine C3.out.mono ?_
          rintro e w9 ⟨a9, c9, rfl, hI9, hb9⟩
          have HI9 := hide hI9
          have HB9 : Hid (Below w.heap.size w w9) := hide (HBW.out.trans (hb9.mono HBW.out.size))
          clear hI9 hb9 C3
          go_wp2
          go_ret2
          rw [HR.out]
          have hI9' := HI9.out
          clear HI9
          dsimp only
          rw [HZ0.out]
          rw [List.take_nil] at hI9' ⊢
          have HI9 := hide hI9'
          exact ⟨a9, c9, rfl, HI9.out, HB9.out⟩
        | some p =>
          have C3 := hide (rsome_any (some p) 0 0 [] mn w1 (isE_none (Nat.zero_le _)) (fun _ => rfl) (by omega) HMN.out)
          go_wp2_with fail
          refine C3.out.mono ?_
          rintro e w9 ⟨a9, c9, rfl, hI9, hb9⟩
          have HI9 := hide hI9
          have HB9 : Hid (Below w.heap.size w w9) := hide (HBW.out.trans (hb9.mono HBW.out.size))
          clear hI9 hb9 C3
          go_wp2
          go_ret2
          rw [HR.out]
          have hI9' := HI9.out
          clear HI9
          dsimp only
          rw [HZ0.out]
          rw [List.take_nil] at hI9' ⊢
          have HI9 := hide hI9'
          exact ⟨a9, c9, rfl, HI9.out, HB9.out⟩
      case inr.inl =>
        have C3 := hide (rsome_any (some ⟨bb, off + k * 5, none⟩) (len - k) (cap - k) (l.drop k) mn w1 (isE_drop HI.out k hkl) (fun h => by cases h) (by have := HBG.out; omega) HMN.out)
        rw [← HDK.out] at C3
        go_wp2_with fail
        refine C3.out.mono ?_
        rintro e w9 ⟨a9, c9, rfl, hI9, hb9⟩
        have HI9 := hide hI9
        have HB9 : Hid (Below w.heap.size w w9) := hide (HBW.out.trans (hb9.mono HBW.out.size))
        clear hI9 hb9 C3
        generalize (l.drop f).take mn = rr at HI9 HR ⊢
        go_wp2
        go_ret2
        rw [HR.out]
        exact ⟨a9, c9, rfl, HI9.out, HB9.out⟩
      case inr.inr =>
        have C3 := hide (rsome_any (some ⟨bb, off, none⟩) 0 0 [] mn w1 (isE_none (Nat.zero_le _)) (fun _ => rfl) (by omega) HMN.out)
        have HZ0 : Hid (l.drop f = []) := hide (by rw [HDK.out]; exact List.drop_of_length_le (by rw [HI.out.1]; exact Nat.le_refl _))
        go_wp2_with fail
        refine C3.out.mono ?_
        rintro e w9 ⟨a9, c9, rfl, hI9, hb9⟩
        have HI9 := hide hI9
        have HB9 : Hid (Below w.heap.size w w9) := hide (HBW.out.trans (hb9.mono HBW.out.size))
        clear hI9 hb9 C3
        go_wp2
        go_ret2
        rw [HR.out]
        have hI9' := HI9.out
        clear HI9
        dsimp only
        rw [HZ0.out]
        rw [List.take_nil] at hI9' ⊢
        have HI9 := hide hI9'
        exact ⟨a9, c9, rfl, HI9.out, HB9.out⟩
set_option maxRecDepth 40000 in
set_option maxHeartbeats 1000000 in
/-- the document's Read -/
theorem rread_any (a : Option Addr) (len cap : Nat) (l : List Ev) (s : ByteArray) (fr mo : Int) (w : World) (h : IsE w a len cap l) (hbig : len * 64 ≤ 140737488355328) (hfr : fr ≤ 9223372036854775807) (hmo : mo ≤ 9223372036854775807) :
    Calls Try.prog 17 #[.slice a len cap, .string s, .int .i64 fr, .int .i64 mo] w fun e w' => ∃ a' c', e = .returned (.tuple #[.slice a' (someR l (l.filter (isOf s)) fr mo (·.num)).1.length c', .int .i64 (someR l (l.filter (isOf s)) fr mo (·.num)).2]) ∧ IsE w' a' (someR l (l.filter (isOf s)) fr mo (·.num)).1.length c' (someR l (l.filter (isOf s)) fr mo (·.num)).1 ∧ Below w.heap.size w w' := by
  have HV := hide h
  have HBG := hide hbig
  have CK := hide (rcheck_any a len cap l w h)
  clear h hbig
  cases hg : goodB l
  case false =>
    have HR : Hid (someR l (l.filter (isOf s)) fr mo (·.num) = ([], 2)) := hide (by unfold someR; rw [if_pos hg])
    rw [show checkE l = 2 from by unfold checkE; rw [hg]; rfl] at CK
    clear hg
    go_enter Try.func17, Try.ntmps17
    go_wp2_with fail
    refine CK.out.mono ?_
    rintro e w1 ⟨rfl, hb1⟩
    have HB1 := hide hb1
    clear hb1 CK
    go_wp2
    go_ret2
    rw [HR.out]
    exact ⟨none, 0, rfl, isE_nil _, HB1.out⟩
  case true =>
    have HG := hide hg
    rw [show checkE l = 0 from by unfold checkE; rw [hg]; rfl] at CK
    by_cases hfm : fr < 1 ∨ mo < 0
    case pos =>
      have HR : Hid (someR l (l.filter (isOf s)) fr mo (·.num) = ([], 2)) := hide (by unfold someR; rw [if_neg (by rw [hg]; simp), if_pos hfm])
      clear hg
      have hfm2 : fr < 1 ∨ (¬ fr < 1 ∧ mo < 0) := by omega
      rcases hfm2 with h1 | ⟨h1, h2⟩
      case' inl => have d1 : decide (fr < 1) = true := decide_eq_true h1
      case' inr =>
        have d1 : decide (fr < 1) = false := decide_eq_false h1
        have d2 : decide (mo < 0) = true := decide_eq_true h2
      all_goals
        clear hfm
        go_enter Try.func17, Try.ntmps17
        go_wp2_with fail
        refine CK.out.mono ?_
        rintro e w1 ⟨rfl, hb1⟩
        have HB1 := hide hb1
        clear hb1 CK
        go_wp2
        go_ret2
        rw [HR.out]
        exact ⟨none, 0, rfl, isE_nil _, HB1.out⟩
    case neg =>
      obtain ⟨f, rfl⟩ : ∃ f : Nat, fr = (f : Int) + 1 := ⟨(fr - 1).toNat, by omega⟩
      obtain ⟨mn, rfl⟩ : ∃ mn : Nat, mo = (mn : Int) := ⟨mo.toNat, by omega⟩
      have HR : Hid (someR l (l.filter (isOf s)) ((f : Int) + 1) mn (·.num) = (((l.filter (isOf s)).drop f).take mn, 0)) := hide (by
        unfold someR
        rw [if_neg (by rw [hg]; simp), if_neg hfm]
        rw [pick_s hg s]
        rfl)
      have HMN : Hid (mn ≤ 9223372036854775807) := hide (by omega)
      have d1 : decide ((f : Int) + 1 < 1) = false := decide_eq_false (by omega)
      have d2 : decide ((mn : Int) < 0) = false := decide_eq_false (by omega)
      have hw1 : IntKind.i64.wrap ((f : Int) + 1 - 1) = (f : Int) := by simp [IntKind.wrap, IntKind.bits, IntKind.signed]; omega
      have hw2 : wrap64 (f : Int) = (f : Int) := by simp only [wrap64]; omega
      clear hg hfm hmo hfr
      go_enter Try.func17, Try.ntmps17
      go_wp2_with fail
      refine CK.out.mono ?_
      rintro e w1 ⟨rfl, hb1⟩
      have HB1 := hide hb1
      clear hb1 CK
      have C2 := hide (rof_any a len cap l s w1 (HV.out.below' HB1.out) HBG.out)
      go_wp2_with fail
      refine C2.out.mono ?_
      rintro e w2 ⟨v, rfl, hown, hb2⟩
      have HBW : Hid (Below w.heap.size w w2) := hide (HB1.out.trans (hb2.mono HB1.out.size))
      obtain ⟨n2, hn2⟩ : ∃ n2, (l.filter (isOf s)).length = n2 := ⟨_, rfl⟩
      rw [hn2] at hown
      obtain ⟨a2, c2, rfl, hI2, hsp⟩ := own_isE2 hn2 (fun x hx => HV.out.2.2.2.1 x (List.mem_filter.1 hx).1) hown
      have HBG2 : Hid (n2 * 64 ≤ 140737488355328) := hide (by have := HBG.out; have h1 := List.length_filter_le (isOf s) l; have h2 := HV.out.1; omega)
      clear HBG
      have HBG := HBG2
      clear HBG2 hn2
      have HI := hide hI2
      clear hI2 hown hb2 C2
      generalize hzz : l.filter (isOf s) = zz at HI
      have HR3 := HR
      clear HR
      have HR : Hid (someR l (l.filter (isOf s)) ((f : Int) + 1) mn (·.num) = ((zz.drop f).take mn, 0)) := hide (by rw [HR3.out, hzz])
      clear hzz HR3
      obtain ⟨k, hk⟩ : ∃ k, k = min f n2 := ⟨_, rfl⟩
      have hkl : k ≤ n2 := by omega
      have hkm : (min (f : Int) (n2 : Int)) = (k : Int) := by omega
      have HDK : Hid (zz.drop f = zz.drop k) := hide (drop_min HI.out.1 hk)
      have hlc := HI.out.2.1
      have hcm : c2 ≤ 9223372036854775807 := HI.out.2.2.1
      clear hk
      have hsp3 : (c2 = 0) ∨ (∃ bb off, a2 = some ⟨bb, off, none⟩ ∧ k < c2) ∨ (∃ bb off, a2 = some ⟨bb, off, none⟩ ∧ k = n2 ∧ n2 = c2) := by
        rcases hsp with h | ⟨bb, off, h⟩
        · exact .inl h
        · by_cases hk2 : k < c2
          · exact .inr (.inl ⟨bb, off, h, hk2⟩)
          · exact .inr (.inr ⟨bb, off, h, by omega, by omega⟩)
      clear hsp
      rcases hsp3 with rfl | ⟨bb, off, rfl, hk2⟩ | ⟨bb, off, rfl, rfl, rfl⟩
      case inl =>
        obtain rfl : n2 = 0 := by omega
        obtain rfl : k = 0 := by omega
        clear hkm
        have hkm : min (f : Int) 0 = 0 := by omega
        have HZ0 : Hid (zz.drop f = []) := hide (by rw [HDK.out]; simpa using List.eq_nil_of_length_eq_zero HI.out.1)
        cases a2 with
        | none =>
          have C3 := hide (rsome_any none 0 0 [] mn w2 (isE_nil _) (fun _ => rfl) (by omega) HMN.out)
          go_wp2_with fail
          refine C3.out.mono ?_
          rintro e w9 ⟨a9, c9, rfl, hI9, hb9⟩
          have HI9 := hide hI9
          have HB9 : Hid (Below w.heap.size w w9) := hide (HBW.out.trans (hb9.mono HBW.out.size))
          clear hI9 hb9 C3
          go_wp2
          go_ret2
          rw [HR.out]
          have hI9' := HI9.out
          clear HI9
          dsimp only
          rw [HZ0.out]
          rw [List.take_nil] at hI9' ⊢
          have HI9 := hide hI9'
          exact ⟨a9, c9, rfl, HI9.out, HB9.out⟩
        | some p =>
          have C3 := hide (rsome_any (some p) 0 0 [] mn w2 (isE_none (Nat.zero_le _)) (fun _ => rfl) (by omega) HMN.out)
          go_wp2_with fail
          refine C3.out.mono ?_
          rintro e w9 ⟨a9, c9, rfl, hI9, hb9⟩
          have HI9 := hide hI9
          have HB9 : Hid (Below w.heap.size w w9) := hide (HBW.out.trans (hb9.mono HBW.out.size))
          clear hI9 hb9 C3
          go_wp2
          go_ret2
          rw [HR.out]
          have hI9' := HI9.out
          clear HI9
          dsimp only
          rw [HZ0.out]
          rw [List.take_nil] at hI9' ⊢
          have HI9 := hide hI9'
          exact ⟨a9, c9, rfl, HI9.out, HB9.out⟩
      case inr.inl =>
        have C3 := hide (rsome_any (some ⟨bb, off + k * 5, none⟩) (n2 - k) (c2 - k) (zz.drop k) mn w2 (isE_drop HI.out k hkl) (fun h => by cases h) (by have := HBG.out; omega) HMN.out)
        rw [← HDK.out] at C3
        go_wp2_with fail
        refine C3.out.mono ?_
        rintro e w9 ⟨a9, c9, rfl, hI9, hb9⟩
        have HI9 := hide hI9
        have HB9 : Hid (Below w.heap.size w w9) := hide (HBW.out.trans (hb9.mono HBW.out.size))
        clear hI9 hb9 C3
        generalize (zz.drop f).take mn = rr at HI9 HR ⊢
        go_wp2
        go_ret2
        rw [HR.out]
        exact ⟨a9, c9, rfl, HI9.out, HB9.out⟩
      case inr.inr =>
        have C3 := hide (rsome_any (some ⟨bb, off, none⟩) 0 0 [] mn w2 (isE_none (Nat.zero_le _)) (fun _ => rfl) (by omega) HMN.out)
        have HZ0 : Hid (zz.drop f = []) := hide (by rw [HDK.out]; exact List.drop_of_length_le (by rw [HI.out.1]; exact Nat.le_refl _))
        go_wp2_with fail
        refine C3.out.mono ?_
        rintro e w9 ⟨a9, c9, rfl, hI9, hb9⟩
        have HI9 := hide hI9
        have HB9 : Hid (Below w.heap.size w w9) := hide (HBW.out.trans (hb9.mono HBW.out.size))
        clear hI9 hb9 C3
        go_wp2
        go_ret2
        rw [HR.out]
        have hI9' := HI9.out
        clear HI9
        dsimp only
        rw [HZ0.out]
        rw [List.take_nil] at hI9' ⊢
        have HI9 := hide hI9'
        exact ⟨a9, c9, rfl, HI9.out, HB9.out⟩
end Go.Proofs.Ytggbaanoagbmdaa
