/- byKey gives the groups that are asked for -/
import Derived.Test.YtlkmcbelmldleaaGreatVF
namespace Go.Proofs.YtlkmcbelmldleaaGreat
open Go.RowKit Go.Shelf
set_option maxRecDepth 40000
attribute [local go_sem] Oper.semAt_some
theorem wr64' {x : Int} (h1 : 0 ≤ x) (h2 : x ≤ 9223372036854775807) : IntKind.i64.wrap x = x := by
  unfold IntKind.wrap; simp [IntKind.signed, IntKind.bits]; omega
theorem drop_getD (l : List Vr) (k : Nat) (h : k < l.length) : l.drop k = l.getD k Vr0 :: l.drop (k + 1) := by
  rw [List.drop_eq_getElem_cons h, List.getD_eq_getElem?_getD, List.getElem?_eq_getElem h]; rfl
theorem getD_drop (l : List Vr) (s j : Nat) : (l.drop s).getD j Vr0 = l.getD (s + j) Vr0 := by
  rw [List.getD_eq_getElem?_getD, List.getElem?_drop, ← List.getD_eq_getElem?_getD]
/-- one group more: where it begins, what it is, what is left -/
theorem group_at (l : List Vr) (s m : Nat) (hs : s < l.length) (h1 : 1 ≤ m) (hm : s + m ≤ l.length) (hall : ∀ j, j < m → sameK (l.getD s Vr0).key (l.getD (s + j) Vr0) = true) (hend : s + m = l.length ∨ sameK (l.getD s Vr0).key (l.getD (s + m) Vr0) = false) :
    gpsOf s (l.drop s) = (s, (l.drop s).take m) :: gpsOf (s + m) (l.drop (s + m)) := by
  obtain ⟨m, rfl⟩ : ∃ k, m = k + 1 := ⟨m - 1, by omega⟩
  rw [drop_getD l s hs, gpsOf_cons]
  have := while_take (sameK (l.getD s Vr0).key) (l.drop (s + 1)) m (by rw [List.length_drop]; omega) (fun j hj => by
    have := hall (j + 1) (by omega)
    rw [getD_drop, show s + 1 + j = s + (j + 1) by omega]; exact this) (by
    rcases hend with h | h
    · left; rw [List.length_drop]; omega
    · right; rw [getD_drop, show s + 1 + m = s + (m + 1) by omega]; exact h)
  rw [this.1, this.2, List.take_succ_cons, List.drop_drop, List.length_take, List.length_drop]
  congr 2
  · omega
  · congr 1; omega
/-- what stands in memory while byKey runs -/
structure Core (Bl Bi n₀ : Nat) (a : Option Addr) (len cap : Nat) (l : List Vr) (fi : Nat) (lbi : Array Value) (caps : List (Nat × Obj)) (v : Value) (W : World) : Prop where
  bl : Boxed W Bl 28 v
  bi : Boxed W Bi 145 (.func (.func fi) #[] lbi)
  vs : IsV W a len cap l
  sz : n₀ ≤ W.heap.size
  cs : ∀ q ∈ caps, W.heap[q.1]? = some q.2
theorem Core.kp {Bl Bi n₀ : Nat} {X : Nat → Bool} {a : Option Addr} {len cap b off : Nat} {l : List Vr} {fi : Nat} {lbi : Array Value} {caps : List (Nat × Obj)} {v : Value} {W W' : World} (h : Core Bl Bi n₀ a len cap l fi lbi caps v W)
    (hl0 : Bl < n₀) (hi0 : Bi < n₀) (hxl : X Bl = false) (hxi : X Bi = false) (ha : 0 < len → a = some ⟨b, off, none⟩ ∧ b < n₀ ∧ X b = false ∧ b ≠ Bl) (hc : ∀ q ∈ caps, q.1 < n₀ ∧ X q.1 = false ∧ q.1 ≠ Bl) (k : Kp X n₀ W W') : Core Bl Bi n₀ a len cap l fi lbi caps v W' :=
  ⟨(k.block _ hl0 hxl).trans h.bl, (k.block _ hi0 hxi).trans h.bi, h.vs.blk k.size (fun b' off' e hl => by
    obtain ⟨e2, g1, g2, _⟩ := ha hl
    rw [e2] at e; cases e
    exact k.block _ g1 g2), Nat.le_trans h.sz k.size, fun q hq => (k.block _ (hc q hq).1 (hc q hq).2.1).trans (h.cs q hq)⟩
theorem Core.set {Bl Bi n₀ : Nat} {a : Option Addr} {len cap b off : Nat} {l : List Vr} {fi : Nat} {lbi : Array Value} {caps : List (Nat × Obj)} {v : Value} {W : World} (h : Core Bl Bi n₀ a len cap l fi lbi caps v W) (hne : Bi ≠ Bl)
    (ha : 0 < len → a = some ⟨b, off, none⟩ ∧ b ≠ Bl) (hc : ∀ q ∈ caps, q.1 ≠ Bl) (v' : Value) : Core Bl Bi n₀ a len cap l fi lbi caps v' (W.setCell ⟨Bl, 0, none⟩ v') :=
  have hk : ∀ q, q ≠ Bl → (W.setCell ⟨Bl, 0, none⟩ v').heap[q]? = W.heap[q]? := fun q hq => Below.heap_setCell W _ v' q hq
  have hz : W.heap.size ≤ (W.setCell ⟨Bl, 0, none⟩ v').heap.size := (KeepsOthers.setCell W ⟨Bl, 0, none⟩ v').size
  ⟨h.bl.set v', (hk _ hne).trans h.bi, h.vs.blk hz (fun b' off' e hl => by
    obtain ⟨e2, g1⟩ := ha hl
    rw [e2] at e; cases e
    exact hk _ g1), Nat.le_trans h.sz hz, fun q hq => (hk _ (hc q hq)).trans (h.cs q hq)⟩
/-- between two rounds of byKey: s versions are done, rem are left, k groups were given -/
def RelB (Bl Bi n₀ : Nat) (a : Option Addr) (len cap b off : Nat) (l : List Vr) (fi : Nat) (lbi : Array Value) (caps : List (Nat × Obj)) (p : ByteArray → Bool) (xs : List (Nat × List Vr)) (J : Nat → World → Prop) (W : World) : Prop :=
  ∃ (s rem k : Nat) (a' : Option Addr) (c' : Nat), s + rem = len ∧ Core Bl Bi n₀ a len cap l fi lbi caps (.slice a' rem c') W ∧ (0 < rem → a' = some ⟨b, off + s * 4, none⟩ ∧ c' = cap - s) ∧ ((gpsOf s (l.drop s)).filter (fun g => p (hd g).key) = xs.drop k ∧ k ≤ xs.length) ∧ J k W
theorem left_of {Bl Bi n₀ : Nat} {a : Option Addr} {len cap : Nat} {l : List Vr} {fi : Nat} {lbi : Array Value} {caps : List (Nat × Obj)} {a' : Option Addr} {rem c' : Nat} {W : World} (h : Core Bl Bi n₀ a len cap l fi lbi caps (.slice a' rem c') W) : leftAt Bl W = rem := by
  unfold leftAt; rw [h.bl.cell]
theorem RelB.next {Bl Bi n₀ : Nat} {a : Option Addr} {len cap b off : Nat} {l : List Vr} {fi : Nat} {lbi : Array Value} {caps : List (Nat × Obj)} {p : ByteArray → Bool} {xs : List (Nat × List Vr)} {J : Nat → World → Prop} {W W0 : World} {s rem m r2 k : Nat} {v v0 : Value} {a'' : Option Addr} {c'' : Nat}
    (hne : Bi ≠ Bl) (ha : 0 < len → a = some ⟨b, off, none⟩ ∧ b < n₀ ∧ True ∧ b ≠ Bl) (hc : ∀ q ∈ caps, q.1 ≠ Bl) (hJ : Stays (some Bl) J)
    (h0 : Core Bl Bi n₀ a len cap l fi lbi caps v0 W0) (ev0 : ∃ a0 c0, v0 = .slice a0 rem c0) (h : Core Bl Bi n₀ a len cap l fi lbi caps v W) (hj : J k W) (hs : s + rem = len) (h1 : 1 ≤ m) (hm : m ≤ rem) (hr : r2 = rem - m)
    (hf : (gpsOf (s + m) (l.drop (s + m))).filter (fun g => p (hd g).key) = xs.drop k ∧ k ≤ xs.length) (hac : 0 < r2 → a'' = some ⟨b, off + (s + m) * 4, none⟩ ∧ c'' = cap - (s + m)) :
    RelB Bl Bi n₀ a len cap b off l fi lbi caps p xs J (W.setCell ⟨Bl, 0, none⟩ (.slice a'' r2 c'')) ∧ leftAt Bl (W.setCell ⟨Bl, 0, none⟩ (.slice a'' r2 c'')) < leftAt Bl W0 := by
  have hcore := h.set (b := b) (off := off) hne (fun hl => ⟨(ha hl).1, (ha hl).2.2.2⟩) hc (.slice a'' r2 c'')
  obtain ⟨a0, c0, rfl⟩ := ev0
  refine ⟨⟨s + m, r2, k, a'', c'', by omega, hcore, hac, hf, hJ _ _ _ (.put W Bl _ rfl) hj⟩, ?_⟩
  rw [left_of hcore, left_of h0]
  omega
set_option maxRecDepth 40000 in
set_option maxHeartbeats 2000000 in
theorem byKey_gives (n : Nat) (hn : 1 ≤ n) (Bl Bi n₀ : Nat) (X : Nat → Bool) (a : Option Addr) (b off len cap : Nat) (l : List Vr) (fi : Nat) (lbi : Array Value) (p : ByteArray → Bool) (caps : List (Nat × Obj)) (w : World)
    (hBl : Boxed w Bl 28 (.slice a len cap)) (hBi : Boxed w Bi 145 (.func (.func fi) #[] lbi)) (hl0 : Bl < n₀) (hi0 : Bi < n₀) (hn₀ : n₀ ≤ w.heap.size) (hxl : X Bl = false) (hxi : X Bi = false) (hne : Bi ≠ Bl)
    (hL : IsV w a len cap l) (ha : 0 < len → a = some ⟨b, off, none⟩ ∧ b < n₀ ∧ X b = false ∧ b ≠ Bl)
    (hcaps : ∀ q ∈ caps, w.heap[q.1]? = some q.2 ∧ q.1 < n₀ ∧ X q.1 = false ∧ q.1 ≠ Bl)
    (ei : ∀ args w, (callFunc fi args).run Tryz.prog w = .ok (.enter fi args) w)
    (his : ∀ k W, (∀ q ∈ caps, W.heap[q.1]? = some q.2) → Calls Tryz.prog fi (#[.string k] ++ lbi) W fun e w' => e = .returned (.bool (p k)) ∧ w' = W) :
    Gives n Tryz.prog 112 #[.pointer (some ⟨Bl, 0, none⟩), .pointer (some ⟨Bi, 0, none⟩)] (encG b off cap) ((gpsOf 0 l).filter (fun g => p (hd g).key)) (some Bl) (Kp X n₀) w := by
  intro lo J E W hW hJ hE hY h0
  have hcap := hL.2.1
  have hcm : cap ≤ 9223372036854775807 := hL.2.2.1
  have HLN := hide hL.1
  have HY := hide hY
  have HJ := hide hJ
  have HA := hide ha
  have HIS := hide his
  have HCO : Hid (Core Bl Bi n₀ a len cap l fi lbi caps (.slice a len cap) W) := hide ⟨(hW.block Bl hBl.lt).trans hBl, (hW.block Bi hBi.lt).trans hBi, hL.below hW, Nat.le_trans hn₀ hW.size, fun q hq => (hW.block _ (Nat.lt_of_lt_of_le (hcaps q hq).2.1 hn₀)).trans (hcaps q hq).1⟩
  have HCQ : Hid (∀ q ∈ caps, q.1 < n₀ ∧ X q.1 = false ∧ q.1 ≠ Bl) := hide (fun q hq => (hcaps q hq).2)
  have HXA : Hid (0 < len → a = some ⟨b, off, none⟩ ∧ b < n₀ ∧ True ∧ b ≠ Bl) := hide (fun h => ⟨(ha h).1, (ha h).2.1, trivial, (ha h).2.2.2⟩)
  generalize hxs : (gpsOf 0 l).filter (fun g => p (hd g).key) = xs at *
  have HXS := hide hxs
  clear hY hJ hE ha hcaps his hL hBl hBi hW hxs hn₀
  refine callsIn_of_wp Tryz.func112 rfl trivial ?_ rfl
  simp only [Tryz.ntmps112, List.size_toArray, List.length_cons, List.length_nil, Nat.reduceAdd, Nat.reduceSub, Array.replicate_succ, Array.replicate_zero, List.push_toArray, List.append_toArray, List.nil_append, List.cons_append]
  gi_wp2
  gi_loopw [] (fun wr => RelB Bl Bi n₀ a len cap b off l fi lbi caps p xs J wr) (fun wr => leftAt Bl wr)
  case atStart => exact ⟨0, len, 0, a, cap, by omega, HCO.out, fun h => ⟨by rw [(HA.out h).1]; simp, by omega⟩, ⟨by rw [List.drop_zero, List.drop_zero]; exact HXS.out, Nat.zero_le _⟩, h0⟩
  case round =>
    obtain ⟨s, rem, k, a', c', hsr, hcore, hac, hf, hjk⟩ := hrel
    have HCW := hide hcore
    have HF := hide hf
    have HJk := hide hjk
    have cl := hcore.bl.cell
    have fl := hcore.bl.frozen
    have ci := hcore.bi.cell
    by_cases hrem : 0 < rem
    · obtain ⟨ea, ec⟩ := hac hrem
      subst ea
      have HCells : Hid (∀ j, j < rem → wr.cell? ⟨b, off + s * 4 + j * 4, none⟩ = some (.string (l.getD (s + j) Vr0).key)) := hide (fun j hj => by
        obtain ⟨b', off', e, _, z0, _⟩ := hcore.vs.2.2.2 (s + j) (by omega)
        rw [(HA.out (by omega)).1] at e
        cases e
        rw [← z0]; congr 2; omega)
      have HENC : Hid (∀ m, m ≤ rem → encG b off cap (s, (l.drop s).take m) = #[.string (((l.drop s).take m).headD Vr0).key, .slice (some ⟨b, off + s * 4, none⟩) m c']) := hide (fun m hm => by
        have : ((l.drop s).take m).length = m := by rw [List.length_take, List.length_drop, HLN.out]; omega
        simp only [encG, hd, this, ec])
      have hrc : rem ≤ c' := by omega
      have hcc : c' ≤ 9223372036854775807 := by omega
      have HEC := hide ec
      clear hcore hf hjk hac ec HCO h0
      generalize hO : off + s * 4 = o at *
      have HO := hide hO
      generalize hK0 : (l.getD s Vr0).key = key0 at *
      have HK0 := hide hK0
      have z0 : wr.cell? ⟨b, o, none⟩ = some (.string key0) := by have := HCells.out 0 hrem; rw [Nat.add_zero s, hK0] at this; simpa using this
      clear hO hK0
      have HNX : Hid (∀ (W : World) (k2 m r2 : Nat) (a'' : Option Addr) (c'' : Nat), Core Bl Bi n₀ a len cap l fi lbi caps (.slice (some ⟨b, o, none⟩) rem c') W → J k2 W → 1 ≤ m → m ≤ rem → r2 = rem - m → ((gpsOf (s + m) (l.drop (s + m))).filter (fun g => p (hd g).key) = xs.drop k2 ∧ k2 ≤ xs.length) → (0 < r2 → a'' = some ⟨b, off + (s + m) * 4, none⟩ ∧ c'' = cap - (s + m)) → RelB Bl Bi n₀ a len cap b off l fi lbi caps p xs J (W.setCell ⟨Bl, 0, none⟩ (.slice a'' r2 c'')) ∧ leftAt Bl (W.setCell ⟨Bl, 0, none⟩ (.slice a'' r2 c'')) < leftAt Bl wr) := hide (fun W k2 m r2 a'' c'' h1 h2 h3 h4 h5 h6 h7 =>
        RelB.next hne HXA.out (fun q hq => (HCQ.out q hq).2.2) HJ.out HCW.out ⟨_, _, rfl⟩ h1 h2 hsr h3 h4 h5 h6 h7)
      generalize hWr : wr = W0 at *
      clear hWr
      have hr0 : (0 : Int) < (rem : Int) := by omega
      gi_wp2_with fail
      gi_loopw [5] (fun v wr => ∃ m : Nat, v = .int .i64 m ∧ 1 ≤ m ∧ m ≤ rem ∧ wr = W0 ∧ Hid (∀ j, j < m → sameK key0 (l.getD (s + j) Vr0) = true)) (fun v _ => rem - (intOf v).toNat)
      case atStart =>
        refine ⟨1, rfl, by omega, by omega, rfl, hide (fun j hj => ?_)⟩
        obtain rfl : j = 0 := by omega
        rw [Nat.add_zero]; unfold sameK; rw [HK0.out]; simp
      case round =>
        obtain ⟨m, rfl, hm1, hmr, hwW, HALL⟩ := hrel
        subst hwW
        rename_i K hK
        have HK := hide hK
        clear hK
        by_cases hgo : m < rem ∧ sameK key0 (l.getD (s + m) Vr0) = true
        · have hmI : (m : Int) < (rem : Int) := by omega
          have hm0 : (0 : Int) ≤ (m : Int) := by omega
          have z1 := HCells.out m hgo.1
          have HSM := hide hgo.2
          have heq : ((l.getD (s + m) Vr0).key.toList == key0.toList) = true := hgo.2
          have hw1 : IntKind.i64.wrap ((m : Int) + 1) = (m : Int) + 1 := wr64' (by omega) (by omega)
          have hgl := hgo.1
          clear hgo
          generalize hy : l.getD (s + m) Vr0 = y at *
          have HYE := hide hy
          clear hy
          gi_wp2
          go_roundw
          case rel => exact ⟨m + 1, by simp, by omega, by omega, trivial, hide (fun j hj => by
              by_cases h : j < m
              · exact HALL.out j h
              · obtain rfl : j = m := by omega
                rw [HYE.out]; exact HSM.out)⟩
          case measure => simp [intOf]; omega
        · have HG : Hid (gpsOf s (l.drop s) = (s, (l.drop s).take m) :: gpsOf (s + m) (l.drop (s + m))) := hide (group_at l s m (by rw [HLN.out]; omega) hm1 (by rw [HLN.out]; omega) (fun j hj => by rw [HK0.out]; exact HALL.out j hj) (by
              rw [HK0.out, HLN.out]
              by_cases h : m < rem
              · right
                cases hc : sameK key0 (l.getD (s + m) Vr0)
                · rfl
                · exact absurd ⟨h, hc⟩ hgo
              · left; omega))
          have HH : Hid ((((l.drop s).take m).headD Vr0).key = key0) := hide (by
            rw [← HK0.out]
            obtain ⟨m, rfl⟩ : ∃ q, m = q + 1 := ⟨m - 1, by omega⟩
            rw [drop_getD l s (by rw [HLN.out]; omega)]
            rfl)
          have hend : rem ≤ m ∨ (m < rem ∧ ((l.getD (s + m) Vr0).key.toList == key0.toList) = false) := by
            by_cases h : m < rem
            · right
              refine ⟨h, ?_⟩
              cases hc : ((l.getD (s + m) Vr0).key.toList == key0.toList)
              · rfl
              · exact absurd ⟨h, hc⟩ hgo
            · left; omega
          clear hgo HALL
          have HENCm := hide (HENC.out m hmr)
          have hmc : (m : Int) ≤ (c' : Int) := by omega
          have hm0 : (0 : Int) ≤ (m : Int) := by omega
          have hmrI : (m : Int) ≤ (rem : Int) := by omega
          clear HENC
          have HIK := hide (HIS.out key0 wr HCW.out.cs)
          have HADR : Hid (o + m * 4 = off + (s + m) * 4 ∧ c' - m = cap - (s + m)) := hide ⟨by rw [← HO.out]; omega, by rw [HEC.out]; omega⟩
          cases hp : p key0
          · have HF2 : Hid ((gpsOf (s + m) (l.drop (s + m))).filter (fun g => p (hd g).key) = xs.drop k ∧ k ≤ xs.length) := hide ⟨by
              have := HF.out.1
              rw [HG.out, List.filter_cons_of_neg (by show ¬ p (((l.drop s).take m).headD Vr0).key = true; rw [HH.out, hp]; simp)] at this
              exact this, HF.out.2⟩
            rcases hend with hle | ⟨hlt, hne2⟩
            · obtain rfl : m = rem := by omega
              gi_wp2
              refine HK.out _ _ ?_
              gi_wp2_with fail
              refine ⟨trivial, (callsIn_wide.2 HIK.out).mono ?_⟩
              rintro e w2 ⟨rfl, rfl⟩
              rw [hp]
              gi_wp2
              refine ⟨fun _ h => (by cases h), ?_⟩
              gi_wp2
              all_goals exact HNX.out w2 k m 0 _ _ HCW.out HJk.out hm1 (Nat.le_refl _) (by omega) HF2.out (fun h => absurd h (Nat.lt_irrefl 0))
            · have hltI : (m : Int) < (rem : Int) := by omega
              have z1 := HCells.out m hlt
              generalize l.getD (s + m) Vr0 = y at *
              gi_wp2
              refine HK.out _ _ ?_
              gi_wp2_with fail
              refine ⟨trivial, (callsIn_wide.2 HIK.out).mono ?_⟩
              rintro e w2 ⟨rfl, rfl⟩
              rw [hp]
              gi_wp2
              refine ⟨fun _ h => (by cases h), ?_⟩
              gi_wp2
              all_goals exact HNX.out w2 k m _ _ _ HCW.out HJk.out hm1 hmr rfl HF2.out (fun h => ⟨by rw [HADR.out.1], HADR.out.2⟩)
          · have HDR : Hid (xs.drop k = (s, (l.drop s).take m) :: (gpsOf (s + m) (l.drop (s + m))).filter (fun g => p (hd g).key)) := hide (by
              have := HF.out.1
              rw [HG.out, List.filter_cons_of_pos (by show p (((l.drop s).take m).headD Vr0).key = true; rw [HH.out, hp])] at this
              exact this.symm)
            have HXK : Hid (xs[k]? = some (s, (l.drop s).take m)) := hide (by
              have := congrArg (fun q => q[0]?) HDR.out
              simpa using this)
            have hkl : k < xs.length := (List.getElem?_eq_some_iff.1 HXK.out).1
            have HF2 : Hid ((gpsOf (s + m) (l.drop (s + m))).filter (fun g => p (hd g).key) = xs.drop (k + 1) ∧ k + 1 ≤ xs.length) := hide ⟨by
              have := congrArg List.tail HDR.out
              simpa using this.symm, hkl⟩
            have hYk := HY.out k _ wr HXK.out HJk.out
            rw [HENCm.out, HH.out] at hYk
            obtain ⟨fn, tmps, assign, body, hy, hR⟩ := hYk
            rcases hend with hle | ⟨hlt, hne2⟩
            · obtain rfl : m = rem := by omega
              gi_wp2
              refine HK.out _ _ ?_
              gi_wp2_with fail
              refine ⟨trivial, (callsIn_wide.2 HIK.out).mono ?_⟩
              rintro e w2 ⟨rfl, rfl⟩
              rw [hp]
              gi_wp2
              refine hR.mono ?_
              rintro e W3 (⟨rfl, hJ3, hk3⟩ | ⟨rfl, hE3⟩)
              · have hC3 := HCW.out.kp hl0 hi0 hxl hxi HA.out HCQ.out hk3
                have cl3 := hC3.bl.cell
                have fl3 := hC3.bl.frozen
                have HC3 := hide hC3
                have HJ3 := hide hJ3
                clear hC3 hJ3 hk3 hy hR cl fl ci z0
                gi_wp2
                all_goals exact HNX.out W3 (k + 1) m 0 _ _ HC3.out HJ3.out hm1 (Nat.le_refl _) (by omega) HF2.out (fun h => absurd h (Nat.lt_irrefl 0))
              · have HE3 := hide hE3
                clear hE3 hy hR
                gi_wp2
                refine bodyPost_ret (results_none rfl _ _ _) rfl ?_
                exact ⟨⟨_, rfl⟩, .inr ⟨k, hkl, HE3.out⟩⟩
            · have hltI : (m : Int) < (rem : Int) := by omega
              have z1 := HCells.out m hlt
              generalize l.getD (s + m) Vr0 = y at *
              gi_wp2
              refine HK.out _ _ ?_
              gi_wp2_with fail
              refine ⟨trivial, (callsIn_wide.2 HIK.out).mono ?_⟩
              rintro e w2 ⟨rfl, rfl⟩
              rw [hp]
              gi_wp2
              refine hR.mono ?_
              rintro e W3 (⟨rfl, hJ3, hk3⟩ | ⟨rfl, hE3⟩)
              · have hC3 := HCW.out.kp hl0 hi0 hxl hxi HA.out HCQ.out hk3
                have cl3 := hC3.bl.cell
                have fl3 := hC3.bl.frozen
                have HC3 := hide hC3
                have HJ3 := hide hJ3
                clear hC3 hJ3 hk3 hy hR cl fl ci z0 z1
                gi_wp2
                all_goals exact HNX.out W3 (k + 1) m _ _ _ HC3.out HJ3.out hm1 hmr rfl HF2.out (fun h => ⟨by rw [if_neg (by omega), HADR.out.1], HADR.out.2⟩)
              · have HE3 := hide hE3
                clear hE3 hy hR
                gi_wp2
                refine bodyPost_ret (results_none rfl _ _ _) rfl ?_
                exact ⟨⟨_, rfl⟩, .inr ⟨k, hkl, HE3.out⟩⟩
    · obtain rfl : rem = 0 := by omega
      have HEND : Hid (k = xs.length) := hide (by
        have h1 := hf.1
        rw [List.drop_of_length_le (by rw [HLN.out]; omega), gpsOf_nil] at h1
        have h2 := congrArg List.length h1
        simp at h2
        have := hf.2
        omega)
      clear hcore hf hac
      gi_wp2
      go_end0
      exact ⟨⟨_, rfl⟩, .inl (by rw [← HEND.out]; exact HJk.out)⟩
end Go.Proofs.YtlkmcbelmldleaaGreat
