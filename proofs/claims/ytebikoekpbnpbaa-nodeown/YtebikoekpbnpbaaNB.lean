/- bytes compared; keys that rise -/
import Derived.Test.YtebikoekpbnpbaaNC
import Derived.Test.YtebikoekpbnpbaaRMath
import Derived.Lib.Bytealg
import Derived.Laws.Externs
import Derived.Deep.RegionHeld
import Derived.Deep.RegionHeldLaw
import Derived.Shelf.RegionOpen
namespace Go.Proofs.Ytebikoekpbnpbaa
open Go.RowKit Cod
set_option maxRecDepth 40000
set_option linter.unusedVariables false
set_option linter.unusedSimpArgs false
theorem hTake {P : Program} {ops : Array Oper} {Q : Exit → Act → World → Prop} {md : Region.Mode} {S : World → Prop} {i : Nat} {oi : Oper} {v : Value} {fuel : Nat} {listed : Array Bool} {a : Act} {w : World} (d : Option Tmp) (hi : ops[i]? = some oi) (hd : oi.dst = d)
    (hs : Region.noSelect ops = true) (hf : Region.free md ops listed i = true) (hr : (Region.ready md ops listed).contains i = true) (hQ : ∀ c a w, Q (.panic c) (a.put d v) w → Q (.panic c) a w)
    (hwt : Region.wanted oi (yielded ops a.tmps) = true) (hS : S w) (hy : ∀ w, S w → (execOp a.eval oi).run P w = .ok (.value v) w)
    (h : wpAnyH P md ops Q S fuel (listed.setIfInBounds i true) (a.put d v) w) : wpAnyH P md ops Q S (fuel + 1) listed a w := by
  subst hd
  exact wpAnyH_take hi hs hf hr hQ (.inl ⟨hwt, hy⟩) hS h
theorem hSkip {P : Program} {ops : Array Oper} {Q : Exit → Act → World → Prop} {md : Region.Mode} {S : World → Prop} {i : Nat} {oi : Oper} {fuel : Nat} {listed : Array Bool} {a : Act} {w : World} (d : Option Tmp) (hi : ops[i]? = some oi) (hd : oi.dst = d)
    (hs : Region.noSelect ops = true) (hf : Region.free md ops listed i = true) (hr : (Region.ready md ops listed).contains i = true) (hQ : ∀ c a w, Q (.panic c) (a.put d undef) w → Q (.panic c) a w)
    (hwt : Region.wanted oi (yielded ops a.tmps) = false) (hS : S w)
    (h : wpAnyH P md ops Q S fuel (listed.setIfInBounds i true) (a.put d undef) w) : wpAnyH P md ops Q S (fuel + 1) listed a w := by
  subst hd
  exact wpAnyH_take hi hs hf hr hQ (.inr ⟨hwt, rfl⟩) hS h
theorem hOne {P : Program} {ops : Array Oper} {Q : Exit → Act → World → Prop} {md : Region.Mode} {S : World → Prop} {i : Nat} {o : Oper} {fuel : Nat} {listed : Array Bool} {a : Act} {w : World} (ho : ops[i]? = some o) (hr : Region.ready md ops listed = [i])
    (h : ∀ K' : Act → World → Prop, Shut (∀ a w, S w → (S w → wpAnyH P md ops Q S fuel (listed.setIfInBounds i true) a w) → K' a w) → if Region.wanted o (yielded ops a.tmps) = true then Oper.wp P o a w K' Q else K' (a.put o.dst undef) w) : wpAnyH P md ops Q S (fuel + 1) listed a w :=
  wpAnyH_ready hr (by simp) (AllReadyH.cons ho h AllReadyH.nil)
theorem str_push (m : List Nat) (x : Nat) : (str m).push (x : Int).toNat.toUInt8 = str (m ++ [x]) := by
  simp [str, ByteArray.push]
theorem load_str {w : World} {b : Nat} : ∀ (l : List Nat) (off : Nat) (m : List Nat), (∀ i, i < l.length → w.cell? ⟨b, off + i, none⟩ = some (.int .u8 (l.getD i 0 : Nat))) → (Extern.Bytes.loadBytes ⟨b, off, none⟩ l.length (str m)).run Try.prog w = .ok (str (m ++ l)) w
  | [], off, m, _ => by simp [Extern.Bytes.loadBytes]
  | x :: r, off, m, h => by
    have h0 := h 0 (by simp)
    have hx : w.cell? ⟨b, off, none⟩ = some (.int .u8 (x : Nat)) := by simpa using h0
    have ih := load_str r (off + 1) (m ++ [x]) (fun i hi => by
      have := h (i + 1) (by simpa using hi)
      rw [Nat.add_assoc, Nat.add_comm 1 i]
      simpa using this)
    have hl : (load ⟨b, off, none⟩).run Try.prog w = .ok (.int .u8 (x : Nat)) w := by rw [run_load, hx]
    have ha : (⟨b, off, none⟩ : Addr).add 1 = ⟨b, off + 1, none⟩ := by simp [Addr.add]
    rw [List.length_cons, Extern.Bytes.loadBytes, Sem.run_bind, hl]
    simp only [Result.andThen]
    rw [ha, str_push, ih]
    simp
theorem bytesOf_isB {w : World} {a : Option Addr} {len cap : Nat} {l : List Nat} (h : IsB w a len cap l) : (Extern.Bytes.bytesOf (.slice a len cap)).run Try.prog w = .ok (str l) w := by
  obtain ⟨h1, _, _, _, h5⟩ := h
  rcases h5 with ⟨h5, _⟩ | ⟨b, off, rfl, _, hc⟩
  · subst h5
    obtain rfl : l = [] := List.length_eq_zero_iff.1 h1
    cases a with
    | none => rfl
    | some x => rfl
  · have := load_str (w := w) (b := b) l off [] (fun i hi => hc i (by omega))
    rw [h1] at this
    exact this
/-- how bytes compare -/
def cmpN (l m : List Nat) : Int := if ltN l m = true then -1 else if l = m then 0 else 1
theorem cmpN_eq : ∀ (l m : List Nat), (∀ x ∈ l, x < 256) → (∀ x ∈ m, x < 256) → Lib.compareBytes (l.map UInt8.ofNat) (m.map UInt8.ofNat) = cmpN l m
  | [], [], _, _ => rfl
  | [], _ :: _, _, _ => rfl
  | _ :: _, [], _, _ => by simp [Lib.compareBytes, cmpN, ltN]
  | x :: r, y :: s, hl, hm => by
    have ih := cmpN_eq r s (fun z hz => hl z (List.mem_cons_of_mem _ hz)) (fun z hz => hm z (List.mem_cons_of_mem _ hz))
    have hx : x < 256 := hl x (by simp)
    have hy : y < 256 := hm y (by simp)
    have lt : ∀ {u v : Nat}, u < 256 → v < 256 → (UInt8.ofNat u < UInt8.ofNat v ↔ u < v) := fun {u v} hu hv => by
      rw [UInt8.lt_iff_toNat_lt]
      simp [UInt8.toNat_ofNat, Nat.mod_eq_of_lt hu, Nat.mod_eq_of_lt hv]
    rw [List.map_cons, List.map_cons, Lib.compareBytes, ih]
    unfold cmpN
    rw [show ltN (x :: r) (y :: s) = (decide (x < y) || (decide (x = y) && ltN r s)) from rfl]
    by_cases h1 : x < y
    · rw [if_pos ((lt hx hy).2 h1), if_pos (by simp [h1])]
    · rw [if_neg (fun h => h1 ((lt hx hy).1 h))]
      by_cases h2 : y < x
      · rw [if_pos ((lt hy hx).2 h2), if_neg (by simp; omega), if_neg (by simp; omega)]
      · obtain rfl : x = y := by omega
        rw [if_neg (fun h => h2 ((lt hy hx).1 h))]
        simp
theorem compare_any (a b : Option Addr) (la ca lb cb : Nat) (l m : List Nat) (w : World) (h : IsB w a la ca l) (h' : IsB w b lb cb m) : Calls Try.prog 81 #[.slice a la ca, .slice b lb cb] w fun e w' => e = .returned (.int .i64 (cmpN l m)) ∧ w' = w := by
  have h1 := bytesOf_isB h
  have h2 := bytesOf_isB h'
  have hr : (Extern.BytealgCompare.compare #[.slice a la ca, .slice b lb cb]).run Try.prog w = .ok (.int .i64 (cmpN l m)) w := by
    change Sem.run Try.prog (do pure (goInt (Extern.BytealgCompare.cmp (← Extern.Bytes.bytesOf (.slice a la ca)) (← Extern.Bytes.bytesOf (.slice b lb cb))))) w = _
    simp only [Sem.run_bind, h1, h2, Sem.run_pure, Result.andThen]
    rw [Lib.cmp_eq, ← cmpN_eq l m h.2.2.2.1 h'.2.2.2.1]
    simp [str, goInt]
  clear h1 h2 h h'
  go_enter Try.func81, Try.ntmps81
  go_wp2
  rw [run_callFunc_extern Try.func95 (by kernel_rfl) (by kernel_rfl) (by kernel_rfl) (e := Extern.BytealgCompare.compare) (by kernel_rfl), hr]
  simp only [Result.andThen]
  rw [Oper.upon_value]
  go_wp2
  go_ret
  exact ⟨rfl, rfl⟩
theorem equal_any (a b : Option Addr) (la ca lb cb : Nat) (l m : List Nat) (w : World) (h : IsB w a la ca l) (h' : IsB w b lb cb m) : Calls Try.prog 39 #[.slice a la ca, .slice b lb cb] w fun e w' => e = .returned (.bool (decide (l = m))) ∧ w' = w := by
  have h1 := conv_str h
  have h2 := conv_str h'
  have h3 := str_eq h.2.2.2.1 h'.2.2.2.1
  generalize decide (l = m) = r at *
  clear h h'
  go_enter Try.func39, Try.ntmps39
  go_wp2
  go_ret
  exact ⟨rfl, rfl⟩
theorem rise_at {L : List (List Nat)} {k : Nat} (h : ∀ j, j < k → riseAt L j = true) (hk : k = L.length) : riseB L = true := by
  unfold riseB
  rw [List.all_eq_true]
  intro j hj
  exact h j (by rw [hk]; exact List.mem_range.1 hj)
theorem rise_not {L : List (List Nat)} {k : Nat} (hk : k < L.length) (h : riseAt L k = false) : riseB L = false := by
  cases hr : riseB L with
  | false => rfl
  | true =>
    unfold riseB at hr
    rw [List.all_eq_true] at hr
    rw [hr k (List.mem_range.2 hk)] at h
    cases h
set_option maxHeartbeats 4000000 in
theorem areKeys_any (a : Option Addr) (n c : Nat) (L : List (List Nat)) (w : World) (h : IsL w a n c L) : Calls Try.prog 75 #[.slice a n c] w fun e w' => e = .returned (.bool (keysB L)) ∧ Below w.heap.size w w' := by
  have HL := hide h
  have HN := hide h.1
  have hcm : c ≤ 9223372036854775807 := h.2.2.1
  have hcap := h.2.1
  have HSH : Hid (∀ W : World, Below w.heap.size w W → Calls Try.prog 76 #[.slice a n c, .int .i64 ((256 : Nat) : Nat)] W fun e w' => e = .returned (.bool (shortB 256 L)) ∧ w' = W) := hide (fun W hW => areShort_any a n c 256 L W (HL.out.below hW) (by omega))
  clear h
  go_enter Try.func75, Try.ntmps75
  go_wp2
  go_loopw [6] (fun v6 wr => ∃ k : Nat, k ≤ n ∧ v6 = .int .i64 (k : Nat) ∧ Hid ((∀ j, j < k → riseAt L j = true) ∧ Below w.heap.size w wr)) (fun v6 _ => n - (intOf v6).toNat)
  case atStart => exact ⟨0, Nat.zero_le _, rfl, hide ⟨fun j hj => absurd hj (Nat.not_lt_zero _), Below.refl _ _⟩⟩
  case round =>
    obtain ⟨k, hk, rfl, HI⟩ := hrel
    by_cases hlt : k < n
    · have hw1 : IntKind.i64.wrap ((k : Int) + 1) = (k : Int) + 1 := wrapN (by omega) (by omega)
      have HLr := hide (HL.out.below HI.out.2)
      have hiI : (k : Int) < (n : Int) := by omega
      have hi4 : (0 : Int) ≤ (k : Int) := by omega
      by_cases hk0 : k = 0
      · have HNX : Hid (∀ j, j < 1 → riseAt L j = true) := hide (fun j hj => by obtain rfl : j = 0 := (by omega); simp [riseAt])
        have HBW := hide HI.out.2
        subst hk0
        clear HI
        go_wp2_with fail
        refine wp_region_held_drew (S := (fun W : World => True)) (by kernel_rfl) ?hSq (fun hHeld => ?_)
        case hSq => exact trivial
        refine hTake (i := 0) (v := ?v0q) (some 9) rfl rfl (by kernel_rfl) (by kernel_rfl) (by kernel_rfl) (fun _ _ _ h => h) (by rfl) (by assumption) ?hy0q ?hn0q
        case hy0q => (intro w hSw; (try dsimp only at hSw); skip; go_simp; try with_reducible rfl)
        try simp only [Act.put, List.setIfInBounds_toArray, List.set_cons_zero, List.set_cons_succ]
        refine hTake (i := 1) (v := ?v1q) (some 10) rfl rfl (by kernel_rfl) (by kernel_rfl) (by kernel_rfl) (fun _ _ _ h => h) (by rfl) (by assumption) ?hy1q ?hn1q
        case hy1q => (intro w hSw; (try dsimp only at hSw); skip; go_simp; try with_reducible rfl)
        try simp only [Act.put, List.setIfInBounds_toArray, List.set_cons_zero, List.set_cons_succ]
        refine hTake (i := 2) (v := ?v2q) (some 11) rfl rfl (by kernel_rfl) (by kernel_rfl) (by kernel_rfl) (fun _ _ _ h => h) (by rfl) (by assumption) ?hy2q ?hn2q
        case hy2q => (intro w hSw; (try dsimp only at hSw); skip; go_simp; try with_reducible rfl)
        try simp only [Act.put, List.setIfInBounds_toArray, List.set_cons_zero, List.set_cons_succ]
        refine hSkip (i := 3) (some 12) rfl rfl (by kernel_rfl) (by kernel_rfl) (by kernel_rfl) (fun _ _ _ h => h) (by rfl) (by assumption) ?_
        try simp only [Act.put, List.setIfInBounds_toArray, List.set_cons_zero, List.set_cons_succ]
        refine hSkip (i := 4) (some 13) rfl rfl (by kernel_rfl) (by kernel_rfl) (by kernel_rfl) (fun _ _ _ h => h) (by rfl) (by assumption) ?_
        try simp only [Act.put, List.setIfInBounds_toArray, List.set_cons_zero, List.set_cons_succ]
        refine hSkip (i := 5) (some 14) rfl rfl (by kernel_rfl) (by kernel_rfl) (by kernel_rfl) (fun _ _ _ h => h) (by rfl) (by assumption) ?_
        try simp only [Act.put, List.setIfInBounds_toArray, List.set_cons_zero, List.set_cons_succ]
        refine hSkip (i := 6) (some 15) rfl rfl (by kernel_rfl) (by kernel_rfl) (by kernel_rfl) (fun _ _ _ h => h) (by rfl) (by assumption) ?_
        try simp only [Act.put, List.setIfInBounds_toArray, List.set_cons_zero, List.set_cons_succ]
        refine hSkip (i := 7) (some 16) rfl rfl (by kernel_rfl) (by kernel_rfl) (by kernel_rfl) (fun _ _ _ h => h) (by rfl) (by assumption) ?_
        try simp only [Act.put, List.setIfInBounds_toArray, List.set_cons_zero, List.set_cons_succ]
        refine hSkip (i := 8) (some 17) rfl rfl (by kernel_rfl) (by kernel_rfl) (by kernel_rfl) (fun _ _ _ h => h) (by rfl) (by assumption) ?_
        try simp only [Act.put, List.setIfInBounds_toArray, List.set_cons_zero, List.set_cons_succ]
        refine hSkip (i := 9) (some 18) rfl rfl (by kernel_rfl) (by kernel_rfl) (by kernel_rfl) (fun _ _ _ h => h) (by rfl) (by assumption) ?_
        try simp only [Act.put, List.setIfInBounds_toArray, List.set_cons_zero, List.set_cons_succ]
        refine hSkip (i := 10) (some 19) rfl rfl (by kernel_rfl) (by kernel_rfl) (by kernel_rfl) (fun _ _ _ h => h) (by rfl) (by assumption) ?_
        try simp only [Act.put, List.setIfInBounds_toArray, List.set_cons_zero, List.set_cons_succ]
        refine hSkip (i := 11) (some 20) rfl rfl (by kernel_rfl) (by kernel_rfl) (by kernel_rfl) (fun _ _ _ h => h) (by rfl) (by assumption) ?_
        try simp only [Act.put, List.setIfInBounds_toArray, List.set_cons_zero, List.set_cons_succ]
        refine hSkip (i := 12) (some 21) rfl rfl (by kernel_rfl) (by kernel_rfl) (by kernel_rfl) (fun _ _ _ h => h) (by rfl) (by assumption) ?_
        try simp only [Act.put, List.setIfInBounds_toArray, List.set_cons_zero, List.set_cons_succ]
        refine hSkip (i := 13) (some 22) rfl rfl (by kernel_rfl) (by kernel_rfl) (by kernel_rfl) (fun _ _ _ h => h) (by rfl) (by assumption) ?_
        try simp only [Act.put, List.setIfInBounds_toArray, List.set_cons_zero, List.set_cons_succ]
        refine hTake (i := 14) (v := ?v14q) (some 23) rfl rfl (by kernel_rfl) (by kernel_rfl) (by kernel_rfl) (fun _ _ _ h => h) (by rfl) (by assumption) ?hy14q ?hn14q
        case hy14q => (intro w hSw; (try dsimp only at hSw); skip; go_simp; try with_reducible rfl)
        try simp only [Act.put, List.setIfInBounds_toArray, List.set_cons_zero, List.set_cons_succ]
        refine wpAnyH_done (by kernel_rfl) ?_ _
        go_wp2
        go_roundw
        case rel => exact ⟨1, by omega, by simp, hide ⟨HNX.out, HBW.out.drew⟩⟩
        case measure => simp [intOf]; omega
      · obtain ⟨i, rfl⟩ : ∃ i, k = i + 1 := ⟨k - 1, by omega⟩
        obtain ⟨b, off, a1, n1, c1, rfl, hb1, z1, hB1⟩ := HLr.out.2.2.2.2 i (by omega)
        obtain ⟨b', off', a2, n2, c2, e2, hb2, z2, hB2⟩ := HLr.out.2.2.2.2 (i + 1) hlt
        cases e2
        have HCMP := hide (compare_any a1 a2 n1 c1 n2 c2 _ _ wr.drew (hB1.below (Below.refl _ wr).drew) (hB2.below (Below.refl _ wr).drew))
        have HRA : Hid (riseAt L (i + 1) = ltN (L.getD i []) (L.getD (i + 1) [])) := hide (by simp [riseAt])
        obtain ⟨cv, hcv⟩ : ∃ cv, cmpN (L.getD i []) (L.getD (i + 1) []) = cv := ⟨_, rfl⟩
        have HCV : Hid ((cv < 0 ∧ riseAt L (i + 1) = true) ∨ (0 ≤ cv ∧ riseAt L (i + 1) = false)) := hide (by
          rw [HRA.out, ← hcv]
          unfold cmpN
          cases ltN (L.getD i []) (L.getD (i + 1) [])
          · refine .inr ⟨?_, rfl⟩
            split <;> (try split) <;> simp_all
          · exact .inl ⟨by simp, rfl⟩)
        rw [hcv] at HCMP
        have hk1 : (0 : Int) < ((i + 1 : Nat) : Int) := by omega
        have hws : IntKind.i64.wrap (((i + 1 : Nat) : Int) - 1) = (i : Int) := by rw [wrapN (by omega) (by omega)]; omega
        have hi5 : (0 : Int) ≤ (i : Int) := by omega
        have hi7 : (0 : Int) ≤ (i : Int) + 1 := by omega
        have hi8 : (i : Int) + 1 < (n : Int) := by omega
        have hws2 : IntKind.i64.wrap (i : Int) = (i : Int) := wrapN (by omega) (by omega)
        have hi6 : (i : Int) < (n : Int) := by omega
        have HBW := hide HI.out
        have HNL : Hid (i + 1 < L.length) := hide (by rw [HN.out]; exact hlt)
        clear hcv HRA hB1 hB2 HI
        go_wp2_with fail
        refine wp_region_held_drew (S := (fun W : World => W.cell? ⟨b, off + i, none⟩ = some (.slice a1 n1 c1) ∧ W.cell? ⟨b, off + (i + 1), none⟩ = some (.slice a2 n2 c2))) (by kernel_rfl) ?hSp (fun hHeld => ?_)
        case hSp => exact ⟨z1, z2⟩
        refine hTake (i := 0) (v := ?v0p) (some 9) rfl rfl (by kernel_rfl) (by kernel_rfl) (by kernel_rfl) (fun _ _ _ h => h) (by rfl) (by assumption) ?hy0p ?hn0p
        case hy0p => (intro w hSw; (try dsimp only at hSw); skip; go_simp; try with_reducible rfl)
        try simp only [Act.put, List.setIfInBounds_toArray, List.set_cons_zero, List.set_cons_succ]
        refine hTake (i := 1) (v := ?v1p) (some 10) rfl rfl (by kernel_rfl) (by kernel_rfl) (by kernel_rfl) (fun _ _ _ h => h) (by rfl) (by assumption) ?hy1p ?hn1p
        case hy1p => (intro w hSw; (try dsimp only at hSw); skip; go_simp; try with_reducible rfl)
        try simp only [Act.put, List.setIfInBounds_toArray, List.set_cons_zero, List.set_cons_succ]
        refine hTake (i := 2) (v := ?v2p) (some 11) rfl rfl (by kernel_rfl) (by kernel_rfl) (by kernel_rfl) (fun _ _ _ h => h) (by rfl) (by assumption) ?hy2p ?hn2p
        case hy2p => (intro w hSw; (try dsimp only at hSw); skip; go_simp; try with_reducible rfl)
        try simp only [Act.put, List.setIfInBounds_toArray, List.set_cons_zero, List.set_cons_succ]
        refine hTake (i := 3) (v := ?v3p) (some 12) rfl rfl (by kernel_rfl) (by kernel_rfl) (by kernel_rfl) (fun _ _ _ h => h) (by rfl) (by assumption) ?hy3p ?hn3p
        case hy3p => (intro w hSw; (try dsimp only at hSw); skip; go_simp; try with_reducible rfl)
        try simp only [Act.put, List.setIfInBounds_toArray, List.set_cons_zero, List.set_cons_succ]
        refine hTake (i := 4) (v := ?v4p) (some 13) rfl rfl (by kernel_rfl) (by kernel_rfl) (by kernel_rfl) (fun _ _ _ h => h) (by rfl) (by assumption) ?hy4p ?hn4p
        case hy4p => (intro w hSw; (try dsimp only at hSw); skip; go_simp; try with_reducible rfl)
        try simp only [Act.put, List.setIfInBounds_toArray, List.set_cons_zero, List.set_cons_succ]
        refine hTake (i := 5) (v := ?v5p) (some 14) rfl rfl (by kernel_rfl) (by kernel_rfl) (by kernel_rfl) (fun _ _ _ h => h) (by rfl) (by assumption) ?hy5p ?hn5p
        case hy5p => (intro w hSw; (try dsimp only at hSw); skip; go_simp; try with_reducible rfl)
        try simp only [Act.put, List.setIfInBounds_toArray, List.set_cons_zero, List.set_cons_succ]
        refine hTake (i := 6) (v := ?v6p) (some 15) rfl rfl (by kernel_rfl) (by kernel_rfl) (by kernel_rfl) (fun _ _ _ h => h) (by rfl) (by assumption) ?hy6p ?hn6p
        case hy6p => (intro w hSw; (try dsimp only at hSw); skip; go_simp; try with_reducible rfl)
        try simp only [Act.put, List.setIfInBounds_toArray, List.set_cons_zero, List.set_cons_succ]
        refine hTake (i := 7) (v := ?v7p) (some 16) rfl rfl (by kernel_rfl) (by kernel_rfl) (by kernel_rfl) (fun _ _ _ h => h) (by rfl) (by assumption) ?hy7p ?hn7p
        case hy7p => (intro w hSw; (try dsimp only at hSw); skip; go_simp; try with_reducible rfl)
        try simp only [Act.put, List.setIfInBounds_toArray, List.set_cons_zero, List.set_cons_succ]
        refine hTake (i := 8) (v := ?v8p) (some 17) rfl rfl (by kernel_rfl) (by kernel_rfl) (by kernel_rfl) (fun _ _ _ h => h) (by rfl) (by assumption) ?hy8p ?hn8p
        case hy8p => (intro w hSw; (try dsimp only at hSw); skip; go_simp; try with_reducible rfl)
        try simp only [Act.put, List.setIfInBounds_toArray, List.set_cons_zero, List.set_cons_succ]
        refine hTake (i := 9) (v := ?v9p) (some 18) rfl rfl (by kernel_rfl) (by kernel_rfl) (by kernel_rfl) (fun _ _ _ h => h) (by rfl) (by assumption) ?hy9p ?hn9p
        case hy9p => (intro w hSw; (try dsimp only at hSw); skip; go_simp; try with_reducible rfl)
        try simp only [Act.put, List.setIfInBounds_toArray, List.set_cons_zero, List.set_cons_succ]
        refine hTake (i := 10) (v := ?v10p) (some 19) rfl rfl (by kernel_rfl) (by kernel_rfl) (by kernel_rfl) (fun _ _ _ h => h) (by rfl) (by assumption) ?hy10p ?hn10p
        case hy10p => (intro w hSw; (try dsimp only at hSw); skip; go_simp; try with_reducible rfl)
        try simp only [Act.put, List.setIfInBounds_toArray, List.set_cons_zero, List.set_cons_succ]
        refine hTake (i := 11) (v := ?v11p) (some 20) rfl rfl (by kernel_rfl) (by kernel_rfl) (by kernel_rfl) (fun _ _ _ h => h) (by rfl) (by assumption) ?hy11p ?hn11p
        case hy11p => (intro w hSw; (try dsimp only at hSw); skip; go_simp; try with_reducible rfl)
        try simp only [Act.put, List.setIfInBounds_toArray, List.set_cons_zero, List.set_cons_succ]
        refine hOne (i := 12) rfl (by kernel_rfl) (fun K hK => ?_)
        go_simp
        refine HCMP.out.mono ?_
        rintro e w' ⟨rfl, rfl⟩
        refine hK.out _ _ (⟨z1, z2⟩) (fun hHeld => ?_)
        clear hK K
        try simp only [Act.put, List.setIfInBounds_toArray, List.set_cons_zero, List.set_cons_succ]
        refine hTake (i := 13) (v := ?v13p) (some 22) rfl rfl (by kernel_rfl) (by kernel_rfl) (by kernel_rfl) (fun _ _ _ h => h) (by rfl) (by assumption) ?hy13p ?hn13p
        case hy13p => (intro w hSw; (try dsimp only at hSw); skip; go_simp; try with_reducible rfl)
        try simp only [Act.put, List.setIfInBounds_toArray, List.set_cons_zero, List.set_cons_succ]
        refine hTake (i := 14) (v := ?v14p) (some 23) rfl rfl (by kernel_rfl) (by kernel_rfl) (by kernel_rfl) (fun _ _ _ h => h) (by rfl) (by assumption) ?hy14p ?hn14p
        case hy14p => (intro w hSw; (try dsimp only at hSw); skip; go_simp; try with_reducible rfl)
        try simp only [Act.put, List.setIfInBounds_toArray, List.set_cons_zero, List.set_cons_succ]
        refine wpAnyH_done (by kernel_rfl) ?_ _
        rcases HCV.out with ⟨hneg, hra⟩ | ⟨hpos, hra⟩
        · have hg : ¬ (0 : Int) ≤ cv := by omega
          have HNX : Hid (∀ j, j < i + 1 + 1 → riseAt L j = true) := hide (fun j hj => by
            by_cases e : j = i + 1
            · rw [e]; exact hra
            · exact HBW.out.1 j (by omega))
          clear HCV hra
          go_wp2
          go_roundw
          case rel => exact ⟨i + 1 + 1, by omega, by simp, hide ⟨HNX.out, HBW.out.2.drew⟩⟩
          case measure => simp [intOf]; omega
        · have HE : Hid (keysB L = false) := hide (by unfold keysB; rw [rise_not HNL.out hra]; rfl)
          clear HCV hra
          go_wp2
          go_ret
          exact ⟨by rw [HE.out]; rfl, HBW.out.2.drew⟩
    · obtain rfl : n = k := by omega
      have hkk : ¬ ((n : Nat) : Int) < ((n : Nat) : Int) := by omega
      have HE : Hid (keysB L = shortB 256 L) := hide (by unfold keysB; rw [rise_at HI.out.1 HN.out.symm]; rfl)
      have HBW := hide HI.out.2
      clear HI
      have HS2 := hide (HSH.out wr HBW.out)
      go_wp2_with fail
      refine HS2.out.mono ?_
      rintro e w' ⟨rfl, rfl⟩
      go_wp2
      go_ret
      exact ⟨by rw [HE.out]; rfl, HBW.out⟩
end Go.Proofs.Ytebikoekpbnpbaa
