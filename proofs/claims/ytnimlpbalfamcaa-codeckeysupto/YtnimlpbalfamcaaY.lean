/- contracts: the document's part, ReadKey -/
import Derived.Test.YtnimlpbalfamcaaX
namespace Go.Proofs.Ytnimlpbalfamcaa
open Go.RowKit Cod
theorem IsB.cellAt {w : World} {a : Option Addr} {len cap : Nat} {l : List Nat} (h : IsB w a len cap l) {i : Nat} (hi : i < len) : ∃ b off, a = some ⟨b, off, none⟩ ∧ b < w.heap.size ∧ w.cell? ⟨b, off + i, none⟩ = some (.int .u8 (l.getD i 0 : Nat)) := by
  rcases h.2.2.2.2 with ⟨h0, _⟩ | ⟨b, off, hb, hlt, hc⟩
  · omega
  · exact ⟨b, off, hb, hlt, hc i hi⟩
theorem list_cons {l : List Nat} {len : Nat} (hl : l.length = len) (h : 0 < len) : l = l.getD 0 0 :: l.drop 1 := by
  have := drop_cons l 0 (by omega)
  simpa using this
set_option maxRecDepth 10000 in
set_option maxHeartbeats 4000000 in
theorem refPart_some (b off len cap : Nat) (l : List Nat) (w : World) (h : IsB w (some ⟨b, off, none⟩) len cap l) (h0 : 0 < len) (hsm : len ≤ 1048576) :
    Calls Try.prog 50 #[.slice (some ⟨b, off, none⟩) len cap] w fun e w' =>
      ((∃ pt p', rdPart l = some (pt, l.drop p') ∧ 0 < p' ∧ p' ≤ len ∧ e = .returned (.tuple #[.agg #[.int .u8 (pt.k : Nat), .int .u64 (pt.n : Nat), .string (str pt.s)], .int .i64 (p' : Nat)])) ∨
       (rdPart l = none ∧ ∃ (k n : Nat) (s : ByteArray), e = .returned (.tuple #[.agg #[.int .u8 (k : Nat), .int .u64 (n : Nat), .string s], .int .i64 0]))) ∧ Below w.heap.size w w' := by
  have hlen := h.1
  have hcl : len ≤ cap := h.2.1
  have hcm : cap ≤ 9223372036854775807 := h.2.2.1
  have Hxs := hide h.2.2.2.1
  obtain ⟨b', off', hbe, hblt, hcell⟩ := h.2.2.2.2.resolve_left (fun h => by omega)
  cases hbe
  have HCELL : Hid (∀ W : World, Below w.heap.size w W → ∀ i, i < len → W.cell? ⟨b, off + i, none⟩ = some (.int .u8 (l.getD i 0 : Nat))) := hide (fun W hW i hi => (hW.cell (p := ⟨b, off + i, none⟩) hblt).trans (hcell i hi))
  have Hlen := hide hlen
  have hN0 : (w.alloc (.cells #[.int .u8 0, .int .u64 0, .string ⟨#[]⟩] 60)).heap[w.heap.size]? = some (.cells #[.int .u8 0, .int .u64 0, .string ⟨#[]⟩] 60 (0, 0)) := heap_alloc_new w _
  have hb0 : Below w.heap.size w (w.alloc (.cells #[.int .u8 0, .int .u64 0, .string ⟨#[]⟩] 60)) := (Below.refl _ _).alloc (Nat.le_refl _) _
  have hs0 : w.heap.size ≤ (w.alloc (.cells #[.int .u8 0, .int .u64 0, .string ⟨#[]⟩] 60)).heap.size := by simp
  have HLC : Hid (l = l.getD 0 0 :: l.drop 1) := hide (list_cons hlen h0)
  have hx0 := getD_lt l 0 Hxs.out
  have gx0 : (w.alloc (.cells #[.int .u8 0, .int .u64 0, .string ⟨#[]⟩] 60)).cell? ⟨b, off, none⟩ = some (.int .u8 (l.getD 0 0 : Nat)) := by have := HCELL.out _ hb0 0 h0; simpa using this
  clear h hcell hlen
  generalize hx : l.getD 0 0 = x0 at *
  clear hx
  have FIN : Hid (∀ (W : World), Below w.heap.size w W → ∀ v0 v1 v2, Below w.heap.size w (((W.setCell ⟨w.heap.size, 0, none⟩ v0).setCell ⟨w.heap.size, 1, none⟩ v1).setCell ⟨w.heap.size, 2, none⟩ v2)) := hide (by
    intro W hB v0 v1 v2
    exact ((hB.setCell (by simp) _).setCell (by simp) _).setCell (by simp) _)
  go_enter Try.func50, Try.ntmps50
  by_cases h19 : 9 ≤ len ∧ x0 = 1
  · obtain ⟨h9, hx1⟩ := h19
    have d1 : ((x0 : Int) == 1) = true := by simp; omega
    have HRD : Hid (rdPart l = some (⟨1, be 0 ((l.drop 1).take 8), []⟩, l.drop 9)) := hide (by
      conv => lhs; rw [HLC.out]
      rw [rdPart, if_pos hx1, if_neg (by have := Hlen.out; simp; omega), List.drop_drop])
    have HM : Hid (((l.drop 1).take 8).length = 8) := hide (by have := Hlen.out; simp; omega)
    have HMX : Hid (∀ x ∈ (l.drop 1).take 8, x < 256) := hide (mem_take (mem_drop Hxs.out))
    have HMG : Hid (∀ t, t < 8 → l.getD (t + 1) 0 = ((l.drop 1).take 8).getD t 0) := hide (fun t ht => by simp [List.getD_eq_getElem?_getD, ht])
    generalize hmm : (l.drop 1).take 8 = m at *
    have HMM := hide hmm
    clear hx1 hmm
    go_wp2_with fail
    go_loop [4, 5] (fun n i => ∃ t N : Nat, t ≤ 8 ∧ i = .int .i64 ((t + 1 : Nat) : Int) ∧ n = .int .u64 N ∧ Hid (N = be 0 (m.take t)) ∧ Hid (N < 256 ^ t)) (fun _ i => 9 - (intOf i).toNat)
    case atStart => exact ⟨0, 0, by omega, rfl, rfl, hide rfl, hide (by decide)⟩
    case round =>
      obtain ⟨t, N, ht, rfl, rfl, HN, HB⟩ := hrel
      by_cases hlt : t < 8
      · have hc := HCELL.out _ hb0 (t + 1) (by omega)
        rw [HMG.out t hlt] at hc
        have hx : m.getD t 0 < 256 := getD_lt m t HMX.out
        have HT : Hid (be 0 (m.take (t + 1)) = N * 256 + m.getD t 0) := hide (by rw [take_succ_getD _ _ (by rw [HM.out]; exact hlt), be_snoc, HN.out])
        have hb : N < 72057594037927936 := Nat.lt_of_lt_of_le HB.out (pow256_le t hlt)
        have HB2 : Hid (N * 256 + m.getD t 0 < 256 ^ (t + 1)) := hide (by have := HB.out; rw [Nat.pow_succ]; omega)
        generalize m.getD t 0 = x at *
        generalize ht1 : t + 1 = t1 at *
        have ht2 : t1 < 9 := by omega
        have HT1 := hide ht1
        clear ht1
        go_wp2
        go_round
        case rel => exact ⟨t1, N * 256 + x, by omega, by go_num, by go_num, hide HT.out.symm, HB2⟩
        case measure => simp [intOf]; omega
      · obtain rfl : t = 8 := by omega
        have HE : Hid (N = be 0 m) := hide (by have := HN.out; rwa [List.take_of_length_le (by rw [HM.out]; exact Nat.le_refl _)] at this)
        go_wp2
        refine bodyPost_ret (v := .tuple #[.agg #[.int .u8 1, .int .u64 N, .string ⟨#[]⟩], .int .i64 9]) (by simp [results, Try.results50, go_sem]) rfl ⟨.inl ⟨_, 9, HRD.out, by decide, h9, ?_⟩, (Below.refl _ _).alloc (Nat.le_refl _) _⟩
        rw [HE.out]; rfl
  by_cases hx2 : x0 = 2
  case neg =>
    have HRD : Hid (rdPart l = none) := hide (by
      conv => lhs; rw [HLC.out]
      rw [rdPart]
      by_cases hx1 : x0 = 1
      · rw [if_pos hx1, if_pos (by have := Hlen.out; simp; omega)]
      · rw [if_neg hx1, if_neg hx2])
    have d2 : ((x0 : Int) != 2) = true := by simp; omega
    have d0 : ((len : Int) == 0) = false := by simp; omega
    by_cases h9 : 9 ≤ len
    · have d1 : ((x0 : Int) == 1) = false := by simp; omega
      clear h19 hx2
      go_wp2
      exact bodyPost_ret (v := .tuple #[.agg #[.int .u8 0, .int .u64 0, .string ⟨#[]⟩], .int .i64 0]) (by simp [results, Try.results50, go_sem]) rfl ⟨.inr ⟨HRD.out, 0, 0, _, rfl⟩, (Below.refl _ _).alloc (Nat.le_refl _) _⟩
    · clear h19 hx2
      go_wp2
      exact bodyPost_ret (v := .tuple #[.agg #[.int .u8 0, .int .u64 0, .string ⟨#[]⟩], .int .i64 0]) (by simp [results, Try.results50, go_sem]) rfl ⟨.inr ⟨HRD.out, 0, 0, _, rfl⟩, (Below.refl _ _).alloc (Nat.le_refl _) _⟩
  have HRD : Hid (rdPart l = (rdEsc (l.drop 1) []).map (fun y => (⟨2, 0, y.1⟩, y.2))) := hide (by
    conv => lhs; rw [HLC.out]
    rw [rdPart, if_neg (by omega), if_pos hx2])
  have d2 : ((x0 : Int) != 2) = false := by simp; omega
  have d0 : ((len : Int) == 0) = false := by simp; omega
  have d1 : ((x0 : Int) == 1) = false := by simp; omega
  clear h19 hx2
  by_cases h9 : 9 ≤ len
  all_goals
    go_wp2_with fail
    go_loopw [6, 7] (fun x i wr => ∃ (t n : Nat) (acc : List Nat), 0 < t ∧ t ≤ len ∧ i = .int .i64 t ∧ n ≤ t ∧ wr.ownsRow w.heap.size 5 1 x n (bv acc) ∧ Hid (∀ y ∈ acc, y < 256) ∧ Hid (rdEsc (l.drop 1) [] = rdEsc (l.drop t) acc) ∧ Below w.heap.size w wr ∧ wr.heap[w.heap.size]? = some (.cells #[.int .u8 0, .int .u64 0, .string ⟨#[]⟩] 60 (0, 0))) (fun _ i _ => len + 1 - (intOf i).toNat)
    case atStart => exact ⟨1, 0, [], by omega, by omega, rfl, by omega, World.ownsRow_nil _ _ _ _, hide (by simp), hide rfl, hb0, hN0⟩
    case round =>
      obtain ⟨t, n, acc, ht0, htl, rfl, hnt, hown, HX, HR, hbel, hN⟩ := hrel
      clear gx0
      have hbs := hbel.size
      by_cases hlt : t + 1 < len
      case neg =>
        have HN : Hid (rdPart l = none) := hide (by
          rw [HRD.out, HR.out]
          have hd : (l.drop t).length ≤ 1 := by have := Hlen.out; simp; omega
          match hq : l.drop t, hd with
          | [], _ => rw [rdEsc_nil]; rfl
          | [y], _ => rw [rdEsc_one]; rfl)
        have e0 : wr.cell? ⟨w.heap.size, 0, none⟩ = some (.int .u8 0) := by simp [World.cell?, hN]
        have e1 : wr.cell? ⟨w.heap.size, 1, none⟩ = some (.int .u64 0) := by simp [World.cell?, hN]
        have e2 : wr.cell? ⟨w.heap.size, 2, none⟩ = some (.string ⟨#[]⟩) := by simp [World.cell?, hN]
        have f0 : wr.frozen? ⟨w.heap.size, 0, none⟩ = false := by simp [World.frozen?, hN]
        have f1 : wr.frozen? ⟨w.heap.size, 1, none⟩ = false := by simp [World.frozen?, hN]
        have f2 : wr.frozen? ⟨w.heap.size, 2, none⟩ = false := by simp [World.frozen?, hN]
        go_wp2
        exact bodyPost_ret (v := .tuple #[.agg #[.int .u8 0, .int .u64 0, .string ⟨#[]⟩], .int .i64 0]) (by simp [results, Try.results50, go_sem, e0, e1, e2]) rfl ⟨.inr ⟨HN.out, 0, 0, _, rfl⟩, FIN.out wr hbel _ _ _⟩
      have hc := HCELL.out wr hbel t (by omega)
      have hcy := HCELL.out wr hbel (t + 1) hlt
      have hx := getD_lt l t Hxs.out
      have HD : Hid (l.drop t = l.getD t 0 :: l.drop (t + 1)) := hide (drop_cons l t (by have := Hlen.out; omega))
      have HD2 : Hid (l.drop (t + 1) = l.getD (t + 1) 0 :: l.drop (t + 2)) := hide (drop_cons l (t + 1) (by have := Hlen.out; omega))
      generalize l.getD t 0 = x at *
      generalize l.getD (t + 1) 0 = y at *
      by_cases hxz : x = 0
      case neg =>
        have q1 : ((x : Int) != 0) = true := by simp; omega
        have HR2 : Hid (rdEsc (l.drop 1) [] = rdEsc (l.drop (t + 1)) (acc ++ [x])) := hide (by rw [HR.out, HD.out, rdEsc_cons hxz])
        have HX2 : Hid (∀ z ∈ acc ++ [x], z < 256) := hide (by
          intro z hz
          rcases List.mem_append.1 hz with hz | hz
          · exact HX.out z hz
          · simp at hz; omega)
        go_wp2_with (at_builtin; refine wpList_byte_k rfl _ _ rfl w.heap.size u6 n acc rfl hown (x : Int) x rfl wr.heap.size rfl rfl (by omega) hbs w hbel w.heap.size _ 60 (by decide) hN ?_)
        intro v2 w2 hown2 hb2 hN2
        clear hown hbel hN hc hcy
        go_wp2
        go_roundw
        case rel => exact ⟨t + 1, n + 1, acc ++ [x], by omega, by omega, by go_num, by omega, hown2, HX2, HR2, hb2, hN2⟩
        case measure => simp [intOf]; omega
      have q1 : ((x : Int) != 0) = false := by simp; omega
      have HRZ : Hid (rdEsc (l.drop 1) [] = if y = 1 then some (acc, l.drop (t + 2)) else if y = 255 then rdEsc (l.drop (t + 2)) (acc ++ [0]) else none) := hide (by rw [HR.out, HD.out, HD2.out, hxz, rdEsc_zero])
      clear hxz HR HD HD2
      have hcy2 := hcy
      rw [show off + (t + 1) = off + t + 1 by omega] at hcy2
      by_cases hy1 : y = 1
      · have HN : Hid (rdPart l = some (⟨2, 0, acc⟩, l.drop (t + 2))) := hide (by rw [HRD.out, HRZ.out, if_pos hy1]; rfl)
        have q2 : ((y : Int) == 1) = true := by simp; omega
        obtain ⟨a4, c4, rfl, hB4⟩ := owns_isB hown HX.out
        have cv := conv_str hB4
        have e0 : wr.cell? ⟨w.heap.size, 0, none⟩ = some (.int .u8 0) := by simp [World.cell?, hN]
        have e1 : wr.cell? ⟨w.heap.size, 1, none⟩ = some (.int .u64 0) := by simp [World.cell?, hN]
        have e2 : wr.cell? ⟨w.heap.size, 2, none⟩ = some (.string ⟨#[]⟩) := by simp [World.cell?, hN]
        have f0 : wr.frozen? ⟨w.heap.size, 0, none⟩ = false := by simp [World.frozen?, hN]
        have f1 : wr.frozen? ⟨w.heap.size, 1, none⟩ = false := by simp [World.frozen?, hN]
        have f2 : wr.frozen? ⟨w.heap.size, 2, none⟩ = false := by simp [World.frozen?, hN]
        clear hown hB4 hy1
        go_wp2
        exact bodyPost_ret (v := .tuple #[.agg #[.int .u8 2, .int .u64 0, .string (str acc)], .int .i64 ((t : Int) + 2)]) (by simp [results, Try.results50, go_sem, e0, e1, e2]) rfl ⟨.inl ⟨_, t + 2, HN.out, by omega, by omega, rfl⟩, FIN.out wr hbel _ _ _⟩
      have q2 : ((y : Int) == 1) = false := by simp; omega
      by_cases hy2 : y = 255
      case neg =>
        have HN : Hid (rdPart l = none) := hide (by rw [HRD.out, HRZ.out, if_neg hy1, if_neg hy2]; rfl)
        have q3 : ((y : Int) != 255) = true := by simp; omega
        have e0 : wr.cell? ⟨w.heap.size, 0, none⟩ = some (.int .u8 0) := by simp [World.cell?, hN]
        have e1 : wr.cell? ⟨w.heap.size, 1, none⟩ = some (.int .u64 0) := by simp [World.cell?, hN]
        have e2 : wr.cell? ⟨w.heap.size, 2, none⟩ = some (.string ⟨#[]⟩) := by simp [World.cell?, hN]
        have f0 : wr.frozen? ⟨w.heap.size, 0, none⟩ = false := by simp [World.frozen?, hN]
        have f1 : wr.frozen? ⟨w.heap.size, 1, none⟩ = false := by simp [World.frozen?, hN]
        have f2 : wr.frozen? ⟨w.heap.size, 2, none⟩ = false := by simp [World.frozen?, hN]
        clear hown
        go_wp2
        exact bodyPost_ret (v := .tuple #[.agg #[.int .u8 0, .int .u64 0, .string ⟨#[]⟩], .int .i64 0]) (by simp [results, Try.results50, go_sem, e0, e1, e2]) rfl ⟨.inr ⟨HN.out, 0, 0, _, rfl⟩, FIN.out wr hbel _ _ _⟩
      have q3 : ((y : Int) != 255) = false := by simp; omega
      have HR2 : Hid (rdEsc (l.drop 1) [] = rdEsc (l.drop (t + 2)) (acc ++ [0])) := hide (by rw [HRZ.out, if_neg hy1, if_pos hy2])
      have HX2 : Hid (∀ z ∈ acc ++ [0], z < 256) := hide (by
        intro z hz
        rcases List.mem_append.1 hz with hz | hz
        · exact HX.out z hz
        · simp at hz; omega)
      clear hy1 hy2
      go_wp2_with (at_builtin; refine wpList_byte_k rfl _ _ rfl w.heap.size u6 n acc rfl hown 0 0 rfl wr.heap.size rfl rfl (by omega) hbs w hbel w.heap.size _ 60 (by decide) hN ?_)
      intro v2 w2 hown2 hb2 hN2
      clear hown hbel hN hc hcy hcy2
      go_wp2
      go_roundw
      case rel => exact ⟨t + 2, n + 1, acc ++ [0], by omega, by omega, by go_num, by omega, hown2, HX2, HR2, hb2, hN2⟩
      case measure => simp [intOf]; omega
theorem pv1_new1 (w : World) (o : Obj) (y : Part) : ∀ j u, (pv1 y)[j]? = some u → ((w.alloc o).alloc (.cells (pv1 y).toArray 60)).cell? ((⟨w.heap.size + 1, 0, none⟩ : Addr).add j) = some u := by
  intro j u hj
  rw [addr_add]
  have hn := heap_alloc_new (w.alloc o) (.cells (pv1 y).toArray 60)
  have hs : (w.alloc o).heap.size = w.heap.size + 1 := by simp
  rw [hs] at hn
  simp only [World.cell?, hn]
  simpa using hj
end Go.Proofs.Ytnimlpbalfamcaa
