/- the document's Move -/
import Derived.Test.YtdiciobdknddkaaDoorP
namespace Go.Proofs.YtdiciobdknddkaaDoor
open Go.RowKit
set_option linter.unusedVariables false
theorem gl_lt {c x : Sh} {r : List Sh} (h : x.od < c.od) : gl c false (x :: r) = x :: gl c false r := by rw [gl, if_pos h]
theorem gl_eq {c x : Sh} {r : List Sh} (h : x.od = c.od) : gl c false (x :: r) = c :: gl c true r := by rw [gl, if_neg (by omega), if_pos h]
theorem gl_gt {c x : Sh} {r : List Sh} (h : ¬ x.od < c.od) (h' : ¬ x.od = c.od) : gl c false (x :: r) = c :: x :: gl c true r := by rw [gl, if_neg h, if_neg h']
theorem gl_teq {c x : Sh} {r : List Sh} (h : x.od = c.od) : gl c true (x :: r) = gl c true r := by rw [gl, if_pos h]
theorem gl_tne {c x : Sh} {r : List Sh} (h : ¬ x.od = c.od) : gl c true (x :: r) = x :: gl c true r := by rw [gl, if_neg h]
theorem ins_ok {l : List Sh} {c : Sh} (h : ∀ x ∈ l, okS x) (hc : okS c) : ∀ x ∈ insL l c, okS x := by
  induction l with
  | nil => intro x hx; rw [List.mem_singleton.1 hx]; exact hc
  | cons y r ih =>
    intro x hx
    have hr := ih (fun z hz => h z (by simp [hz]))
    unfold insL at hx
    split at hx
    · rcases List.mem_cons.1 hx with rfl | hx
      · exact h _ (by simp)
      · exact hr x hx
    · split at hx
      · rcases List.mem_cons.1 hx with rfl | hx
        · exact hc
        · exact h x (by simp [hx])
      · rcases List.mem_cons.1 hx with rfl | hx
        · exact hc
        · exact h x hx
set_option maxRecDepth 8000 in
set_option maxHeartbeats 2000000 in
/-- the document's Move, where it is done -/
theorem rmove_done (a : Option Addr) (len cap : Nat) (l : List Sh) (n m v : Int) (w : World) (h : IsH w a len cap l) (hg : Good 0 l) (hn : orB n = true) (hm : mvB m = true) (hve : v < 2) (hmk : mk (stL l n) m ≠ 0) (has : ¬ (asB m = true ∧ v = 1)) :
    Calls Tryd.prog 16 #[.slice a len cap, .int .i64 n, .int .u8 m, .int .u8 v] w fun e w' => ∃ a' c', e = .returned (.tuple #[.slice a' (insL l ⟨n, mk (stL l n) m⟩).length c', .int .i64 0]) ∧ Hid (IsH w' a' (insL l ⟨n, mk (stL l n) m⟩).length c' (insL l ⟨n, mk (stL l n) m⟩)) ∧ Below w.heap.size w w' := by
  have HV := hide h
  have HLN := hide h.1
  have hcap := h.2.1
  have hcm : cap ≤ 9223372036854775807 := h.2.2.1
  have HLE : Hid (len ≤ 1024) := hide (by rw [← h.1]; exact hg.len0)
  have HOF := hide (rof_any a len cap l n w h)
  rw [ofR_good hg hn] at HOF
  have HK := hide (kn_any m)
  rw [hm] at HK
  have HA := hide (ras_any m)
  have HMK := hide (rmk_any (stL l n) m)
  have HML := hide (mk_le (stL l n) m)
  have HON := hide (orB_iff.1 hn)
  have HGI : Hid (insL l ⟨n, mk (stL l n) m⟩ = gl ⟨n, mk (stL l n) m⟩ false l) := hide (gl_ins _ hg).symm
  have hve' : ¬ 2 ≤ v := by omega
  have hav : asB m = false ∨ (asB m = true ∧ ¬ v = 1) := by
    cases hb : asB m
    · exact .inl rfl
    · exact .inr ⟨rfl, fun h => has ⟨hb, h⟩⟩
  have HPU : Hid (∀ x ∈ insL l ⟨n, mk (stL l n) m⟩, okS x) := hide (ins_ok h.2.2.2.1 (by
    have h1 := orB_iff.1 hn
    have h2 := mk_le (stL l n) m
    unfold okS i64B u8B
    exact ⟨⟨by show _ ≤ n; omega, by show n ≤ _; omega⟩, by show _ ≤ mk _ _; omega, by show mk _ _ ≤ _; omega⟩))
  clear h hg hn hm has
  generalize insL l ⟨n, mk (stL l n) m⟩ = PU at *
  generalize stL l n = sn at *
  generalize mk sn m = s' at *
  have HKO : Hid (okS ⟨n, s'⟩) := hide (by
    have h1 := HON.out
    have h2 := HML.out
    unfold okS i64B u8B
    exact ⟨⟨by show _ ≤ n; omega, by show n ≤ _; omega⟩, by show _ ≤ s'; omega, by show s' ≤ _; omega⟩)
  generalize asB m = bm at *
  have HAV : Hid (∀ e : Bool, bm = e → e = false ∨ (e = true ∧ ¬ v = 1)) := hide (by intro e he; rw [← he]; exact hav)
  clear hav
  have hs0 : (s' == 0) = false := by simpa using hmk
  have hd2 : decide (2 ≤ v) = false := decide_eq_false hve'
  cases bm
  case' true => have hv1 : ¬ v = 1 := by rcases HAV.out true rfl with h | h; exact absurd h (by decide); exact h.2
  all_goals
    try have hv1b : (v == 1) = false := by simpa using hv1
    go_enter Tryd.func16, Tryd.ntmps16
    go_wp2_with fail
    refine HOF.out.mono ?_
    rintro e w1 ⟨rfl, hb1⟩
    have HB1 := hide hb1
    clear hb1 HOF
    go_wp2_with (first | (go_at_call 24; refine (HK.out _).mono ?_; rintro e w' ⟨rfl, he'⟩; obtain rfl := he'.symm; clear he') | (go_at_call 25; refine (HMK.out _).mono ?_; rintro e w' ⟨rfl, he'⟩; obtain rfl := he'.symm; clear he') | (go_at_call 12; refine (HA.out _).mono ?_; rintro e w' ⟨rfl, he'⟩; obtain rfl := he'.symm; clear he'))
    clear hve hve' hmk hs0 hd2
    try clear hv1b
    try clear hv1
    go_loopw [12, 13, 48] (fun ov fv i wr => ∃ (k : Nat) (f : Bool) (o : List Sh), k ≤ len ∧ i = .int .i64 k ∧ fv = .bool f ∧ Hid (OwnS wr w.heap.size ov o) ∧ Hid (PU = o ++ gl ⟨n, s'⟩ f (l.drop k)) ∧ Hid (o.length ≤ 2 * k) ∧ Hid (Below w.heap.size w wr)) (fun _ _ i _ => len - (intOf i).toNat)
    case atStart => exact ⟨0, false, [], by omega, rfl, rfl, hide (World.ownsRow_nil _ _ _ _), hide (by rw [HGI.out]; simp), hide (by simp), HB1⟩
    case round =>
      obtain ⟨k, f, o, hk, rfl, rfl, HO, HG0, HL0, HW⟩ := hrel
      have HLO : Hid (o.length ≤ 2048) := hide (by have := HL0.out; have := HLE.out; omega)
      by_cases hlt : k < len
      · have HD := hide (drop_getD l k (by rw [HLN.out]; exact hlt))
        obtain ⟨bs, off, rfl, hbs, z0⟩ := (HV.out.below' HW.out).2.2.2.2.1 k hlt
        generalize l.getD k Sh0 = x at *
        obtain ⟨x1, x2⟩ := x
        obtain ⟨z1, z2⟩ := z0
        simp only at z1 z2
        rw [HD.out] at HG0
        have HW1 : Hid (Below w.heap.size w (wr.alloc (.cells #[.int .i64 x1, .int .u8 x2] 42))) := hide (HW.out.alloc HW.out.size _)
        have HBX : Hid (Blk (wr.alloc (.cells #[.int .i64 x1, .int .u8 x2] 42)) wr.heap.size ⟨x1, x2⟩) := hide (heap_alloc_new _ _)
        clear HD
        cases f
        · by_cases h1 : x1 < n
          · have h1' : ¬ n ≤ x1 := by omega
            have h1e : ¬ x1 = n := by omega
            have HG : Hid (PU = o ++ (⟨x1, x2⟩ :: gl ⟨n, s'⟩ false (l.drop (k + 1)))) := hide (by rw [HG0.out]; rw [gl_lt (by exact h1)])
            have HO2 : Hid (OwnS ((wr.alloc (.cells #[.int .i64 x1, .int .u8 x2] 42)).alloc (.cells #[.int .i64 x1, .int .u8 x2] 42)) w.heap.size u12 o) := hide ((HO.out.alloc _).alloc _)
            have HQ2 : Hid (ShAt ((wr.alloc (.cells #[.int .i64 x1, .int .u8 x2] 42)).alloc (.cells #[.int .i64 x1, .int .u8 x2] 42)) (wr.heap.size + 1) 0 ⟨x1, x2⟩) := hide ⟨by simp, by simp⟩
            have HB2 : Hid (Below w.heap.size w ((wr.alloc (.cells #[.int .i64 x1, .int .u8 x2] 42)).alloc (.cells #[.int .i64 x1, .int .u8 x2] 42))) := hide (HW1.out.alloc (by have := HW1.out.size; omega) _)
            go_wp2_with (first | (at_builtin; refine wpList_one rfl _ _ rfl w.heap.size u12 o rfl HO2.out (wr.heap.size + 1) ⟨x1, x2⟩ rfl HQ2.out (by have := HLO.out; omega) HB2.out.size ?_))
            intro v2 w2 HN
            have HB3 : Hid (Below w.heap.size w w2) := hide (HB2.out.grown HN.out.2.1 HB2.out.size (fun q hq => (HO.out.lt q hq).1))
            go_wp2
            go_roundw
            case rel => exact ⟨k + 1, false, o ++ [⟨x1, x2⟩], by omega, by simp, rfl, hide HN.out.1, hide (by rw [HG.out]; simp), hide (by have := HL0.out; simp; omega), HB3⟩
            case measure => simp [intOf]; omega
          · have h1' : n ≤ x1 := by omega
            by_cases h2 : x1 = n
            · subst h2
              have HG : Hid (PU = o ++ (⟨x1, s'⟩ :: gl ⟨x1, s'⟩ true (l.drop (k + 1)))) := hide (by rw [HG0.out]; rw [gl_eq (by rfl)])
              have HO2 : Hid (OwnS ((wr.alloc (.cells #[.int .i64 x1, .int .u8 x2] 42)).alloc (.cells #[.int .i64 x1, .int .u8 s'] 42)) w.heap.size u12 o) := hide ((HO.out.alloc _).alloc _)
              have HQ2 : Hid (ShAt ((wr.alloc (.cells #[.int .i64 x1, .int .u8 x2] 42)).alloc (.cells #[.int .i64 x1, .int .u8 s'] 42)) (wr.heap.size + 1) 0 ⟨x1, s'⟩) := hide ⟨by simp, by simp⟩
              have HB2 : Hid (Below w.heap.size w ((wr.alloc (.cells #[.int .i64 x1, .int .u8 x2] 42)).alloc (.cells #[.int .i64 x1, .int .u8 s'] 42))) := hide (HW1.out.alloc (by have := HW1.out.size; omega) _)
              go_wp2_with (first | (go_at_call 25; refine (HMK.out _).mono ?_; rintro e w' ⟨rfl, he'⟩; obtain rfl := he'.symm; clear he') | (at_builtin; refine wpList_one rfl _ _ rfl w.heap.size u12 o rfl HO2.out (wr.heap.size + 1) ⟨x1, s'⟩ rfl HQ2.out (by have := HLO.out; omega) HB2.out.size ?_))
              intro v2 w2 HN
              have HB3 : Hid (Below w.heap.size w w2) := hide (HB2.out.grown HN.out.2.1 HB2.out.size (fun q hq => (HO.out.lt q hq).1))
              have HX3 : Hid (Blk w2 wr.heap.size ⟨x1, x2⟩) := hide (Blk.grown (show Blk _ _ _ from (Below.heap_alloc _ _ _ (heap_lt HBX.out)).trans HBX.out) HN.out.2.1 (fun e => by have := (HO.out.lt _ e.symm).2; omega))
              obtain ⟨c1, c2⟩ := HX3.out.cells
              simp only [Nat.zero_add] at c1 c2
              go_wp2
              go_roundw
              case rel => exact ⟨k + 1, true, o ++ [⟨x1, s'⟩], by omega, by simp, rfl, hide HN.out.1, hide (by rw [HG.out]; simp), hide (by have := HL0.out; simp; omega), HB3⟩
              case measure => simp [intOf]; omega
            · have HG : Hid (PU = o ++ (⟨n, s'⟩ :: ⟨x1, x2⟩ :: gl ⟨n, s'⟩ true (l.drop (k + 1)))) := hide (by rw [HG0.out]; rw [gl_gt (by exact h1) (by exact h2)])
              have HO2 : Hid (OwnS ((wr.alloc (.cells #[.int .i64 x1, .int .u8 x2] 42)).alloc (.cells #[.int .i64 n, .int .u8 s'] 42)) w.heap.size u12 o) := hide ((HO.out.alloc _).alloc _)
              have HQ2 : Hid (ShAt ((wr.alloc (.cells #[.int .i64 x1, .int .u8 x2] 42)).alloc (.cells #[.int .i64 n, .int .u8 s'] 42)) (wr.heap.size + 1) 0 ⟨n, s'⟩) := hide ⟨by simp, by simp⟩
              have HB2 : Hid (Below w.heap.size w ((wr.alloc (.cells #[.int .i64 x1, .int .u8 x2] 42)).alloc (.cells #[.int .i64 n, .int .u8 s'] 42))) := hide (HW1.out.alloc (by have := HW1.out.size; omega) _)
              go_wp2_with (first | (go_at_call 25; refine (HMK.out _).mono ?_; rintro e w' ⟨rfl, he'⟩; obtain rfl := he'.symm; clear he') | (at_builtin; refine wpList_one rfl _ _ rfl w.heap.size u12 o rfl HO2.out (wr.heap.size + 1) ⟨n, s'⟩ rfl HQ2.out (by have := HLO.out; omega) HB2.out.size ?_))
              intro v2 w2 HN
              have HB3 : Hid (Below w.heap.size w w2) := hide (HB2.out.grown HN.out.2.1 HB2.out.size (fun q hq => (HO.out.lt q hq).1))
              have HX3 : Hid (Blk w2 wr.heap.size ⟨x1, x2⟩) := hide (Blk.grown (show Blk _ _ _ from (Below.heap_alloc _ _ _ (heap_lt HBX.out)).trans HBX.out) HN.out.2.1 (fun e => by have := (HO.out.lt _ e.symm).2; omega))
              obtain ⟨c1, c2⟩ := HX3.out.cells
              simp only [Nat.zero_add] at c1 c2
              have HO4 : Hid (OwnS (w2.alloc (.cells #[.int .i64 x1, .int .u8 x2] 42)) w.heap.size v2 (o ++ [⟨n, s'⟩])) := hide (HN.out.1.alloc _)
              have HQ4 : Hid (ShAt (w2.alloc (.cells #[.int .i64 x1, .int .u8 x2] 42)) w2.heap.size 0 ⟨x1, x2⟩) := hide ⟨by simp, by simp⟩
              have HB4 : Hid (Below w.heap.size w (w2.alloc (.cells #[.int .i64 x1, .int .u8 x2] 42))) := hide (HB3.out.alloc HB3.out.size _)
              go_wp2_with (first | (at_builtin; refine wpList_one rfl _ _ rfl w.heap.size v2 (o ++ [⟨n, s'⟩]) rfl HO4.out w2.heap.size ⟨x1, x2⟩ rfl HQ4.out (by have := HLO.out; simp; omega) HB4.out.size ?_))
              intro v5 w5 HN5
              have HB5 : Hid (Below w.heap.size w w5) := hide (HB4.out.grown HN5.out.2.1 HB4.out.size (fun q hq => (HN.out.1.lt q hq).1))
              go_wp2
              go_roundw
              case rel => exact ⟨k + 1, true, o ++ [⟨n, s'⟩, ⟨x1, x2⟩], by omega, by simp, rfl, hide HN5.out.1, hide (by rw [HG.out]; simp), hide (by have := HL0.out; simp; omega), HB5⟩
              case measure => simp [intOf]; omega
        · by_cases h2 : x1 = n
          · have HG : Hid (PU = o ++ gl ⟨n, s'⟩ true (l.drop (k + 1))) := hide (by rw [HG0.out]; rw [gl_teq (by exact h2)])
            obtain rfl : n = x1 := h2.symm
            clear h2
            go_wp2
            go_roundw
            case rel => exact ⟨k + 1, true, o, by omega, by simp, rfl, hide (HO.out.alloc _), HG, hide (by have := HL0.out; omega), HW1⟩
            case measure => simp [intOf]; omega
          · have HG : Hid (PU = o ++ (⟨x1, x2⟩ :: gl ⟨n, s'⟩ true (l.drop (k + 1)))) := hide (by rw [HG0.out]; rw [gl_tne (by exact h2)])
            have HO2 : Hid (OwnS ((wr.alloc (.cells #[.int .i64 x1, .int .u8 x2] 42)).alloc (.cells #[.int .i64 x1, .int .u8 x2] 42)) w.heap.size u12 o) := hide ((HO.out.alloc _).alloc _)
            have HQ2 : Hid (ShAt ((wr.alloc (.cells #[.int .i64 x1, .int .u8 x2] 42)).alloc (.cells #[.int .i64 x1, .int .u8 x2] 42)) (wr.heap.size + 1) 0 ⟨x1, x2⟩) := hide ⟨by simp, by simp⟩
            have HB2 : Hid (Below w.heap.size w ((wr.alloc (.cells #[.int .i64 x1, .int .u8 x2] 42)).alloc (.cells #[.int .i64 x1, .int .u8 x2] 42))) := hide (HW1.out.alloc (by have := HW1.out.size; omega) _)
            go_wp2_with (first | (at_builtin; refine wpList_one rfl _ _ rfl w.heap.size u12 o rfl HO2.out (wr.heap.size + 1) ⟨x1, x2⟩ rfl HQ2.out (by have := HLO.out; omega) HB2.out.size ?_))
            intro v2 w2 HN
            have HB3 : Hid (Below w.heap.size w w2) := hide (HB2.out.grown HN.out.2.1 HB2.out.size (fun q hq => (HO.out.lt q hq).1))
            go_wp2
            go_roundw
            case rel => exact ⟨k + 1, true, o ++ [⟨x1, x2⟩], by omega, by simp, rfl, hide HN.out.1, hide (by rw [HG.out]; simp), hide (by have := HL0.out; simp; omega), HB3⟩
            case measure => simp [intOf]; omega
      · obtain rfl : k = len := by omega
        rw [List.drop_of_length_le (by rw [HLN.out]; omega)] at HG0
        have HEL : Hid (∀ x ∈ PU, okS x) := HPU
        cases f
        · have HG : Hid (PU = o ++ [⟨n, s'⟩]) := HG0
          have HO2 : Hid (OwnS (wr.alloc (.cells #[.int .i64 n, .int .u8 s'] 42)) w.heap.size u12 o) := hide (HO.out.alloc _)
          have HQ2 : Hid (ShAt (wr.alloc (.cells #[.int .i64 n, .int .u8 s'] 42)) wr.heap.size 0 ⟨n, s'⟩) := hide ⟨by simp, by simp⟩
          have HB2 : Hid (Below w.heap.size w (wr.alloc (.cells #[.int .i64 n, .int .u8 s'] 42))) := hide (HW.out.alloc HW.out.size _)
          go_wp2_with (first | (go_at_call 25; refine (HMK.out _).mono ?_; rintro e w' ⟨rfl, he'⟩; obtain rfl := he'.symm; clear he') | (at_builtin; refine wpList_one rfl _ _ rfl w.heap.size u12 o rfl HO2.out wr.heap.size ⟨n, s'⟩ rfl HQ2.out (by have := HLO.out; omega) HB2.out.size ?_))
          intro v2 w2 HN
          have HB3 : Hid (Below w.heap.size w w2) := hide (HB2.out.grown HN.out.2.1 HB2.out.size (fun q hq => (HO.out.lt q hq).1))
          obtain ⟨a', c', rfl, hI, _⟩ := own_isH rfl (HG.out ▸ HEL.out) HN.out.1
          have HI := hide hI
          clear hI
          go_wp2
          go_ret2
          exact ⟨a', c', by rw [HG.out]; rfl, by rw [HG.out]; exact HI, HB3.out⟩
        · have HG : Hid (PU = o) := hide (by rw [HG0.out]; unfold gl; simp)
          obtain ⟨a', c', rfl, hI, _⟩ := own_isH rfl (HG.out ▸ HEL.out) HO.out
          have HI := hide hI
          clear hI
          go_wp2
          go_ret2
          exact ⟨a', c', by rw [HG.out]; rfl, by rw [HG.out]; exact HI, HW.out⟩
end Go.Proofs.YtdiciobdknddkaaDoor
