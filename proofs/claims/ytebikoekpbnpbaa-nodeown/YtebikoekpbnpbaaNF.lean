/- keys in order; where a key is -/
import Derived.Test.YtebikoekpbnpbaaNE
namespace Go.Proofs.Ytebikoekpbnpbaa
open Go.RowKit Cod
set_option maxRecDepth 40000
set_option linter.unusedVariables false
set_option linter.unusedSimpArgs false
theorem ltN_tri : ∀ a b : List Nat, ltN a b = false → ltN b a = false → a = b
  | [], [], _, _ => rfl
  | [], _ :: _, h, _ => by simp [ltN] at h
  | _ :: _, [], _, h => by simp [ltN] at h
  | x :: r, y :: s, h, h' => by
    simp only [ltN, Bool.or_eq_false_iff, decide_eq_false_iff_not, Bool.and_eq_false_iff] at h h'
    obtain rfl : x = y := by omega
    obtain rfl : r = s := ltN_tri r s (by rcases h.2 with h | h; exact absurd rfl h; exact h) (by rcases h'.2 with h | h; exact absurd rfl h; exact h)
    rfl
theorem ltN_trans : ∀ a b c : List Nat, ltN a b = true → ltN b c = true → ltN a c = true
  | _, [], _, h, _ => by cases ‹List Nat› <;> simp [ltN] at h
  | _, _ :: _, [], _, h => by simp [ltN] at h
  | [], _ :: _, _ :: _, _, _ => by simp [ltN]
  | x :: r, y :: s, z :: q, h1, h2 => by
    simp only [ltN, Bool.or_eq_true, Bool.and_eq_true, decide_eq_true_eq] at h1 h2 ⊢
    rcases h1 with h1 | ⟨rfl, h1⟩
    · rcases h2 with h2 | ⟨rfl, _⟩
      · exact .inl (by omega)
      · exact .inl h1
    · rcases h2 with h2 | ⟨rfl, h2⟩
      · exact .inl h2
      · exact .inr ⟨rfl, ltN_trans r s q h1 h2⟩
/-- keys rise -/
def SrtK (l : List (List Nat)) : Prop := l.Pairwise (fun x y => ltN x y = true)
theorem rise_srt {l : List (List Nat)} (h : riseB l = true) : SrtK l := by
  unfold riseB at h
  rw [List.all_eq_true] at h
  have hstep : ∀ i, i + 1 < l.length → ltN (l.getD i []) (l.getD (i + 1) []) = true := fun i hi => by
    have := h (i + 1) (List.mem_range.2 hi)
    unfold riseAt at this
    simpa using this
  clear h
  induction l with
  | nil => exact List.Pairwise.nil
  | cons x r ih =>
    have hr : SrtK r := ih (fun i hi => by have := hstep (i + 1) (by simpa using hi); simpa using this)
    refine List.pairwise_cons.2 ⟨fun y hy => ?_, hr⟩
    cases r with
    | nil => cases hy
    | cons z q =>
      have h0 := hstep 0 (by simp)
      have h0' : ltN x z = true := by simpa using h0
      rcases List.mem_cons.1 hy with rfl | hy
      · exact h0'
      · exact ltN_trans _ _ _ h0' ((List.pairwise_cons.1 hr).1 y hy)
theorem srt_getD {l : List (List Nat)} (h : SrtK l) {i j : Nat} (hij : i < j) (hj : j < l.length) : ltN (l.getD i []) (l.getD j []) = true := by
  have := (List.pairwise_iff_getElem.1 h) i j (by omega) hj hij
  simpa [List.getD_eq_getElem?_getD, List.getElem?_eq_getElem hj, List.getElem?_eq_getElem (show i < l.length by omega)] using this
/-- how many keys are below one -/
def lowK (l : List (List Nat)) (k : List Nat) : Nat := (l.takeWhile (fun x => ltN x k)).length
def hasK (l : List (List Nat)) (k : List Nat) : Bool := decide (lowK l k < l.length) && decide (l.getD (lowK l k) [] = k)
theorem lowK_is {k : List Nat} : ∀ (l : List (List Nat)) (n : Nat), n ≤ l.length → (∀ j, j < n → ltN (l.getD j []) k = true) → (n < l.length → ltN (l.getD n []) k = false) → lowK l k = n
  | [], n, hn, _, _ => by simp at hn; simp [lowK, hn]
  | x :: r, 0, _, _, h2 => by
    have := h2 (by simp)
    simp at this
    simp [lowK, this]
  | x :: r, n + 1, hn, h1, h2 => by
    have h0 := h1 0 (by omega)
    simp at h0
    have ih := lowK_is (k := k) r n (by simpa using hn) (fun j hj => by have := h1 (j + 1) (by omega); simpa using this) (fun hl => by have := h2 (by simpa using hl); simpa using this)
    unfold lowK at *
    simp [h0, ih]
theorem lowK_le (l : List (List Nat)) (k : List Nat) : lowK l k ≤ l.length := List.Sublist.length_le (List.takeWhile_sublist _)
theorem mono_ge {l : List (List Nat)} (h : SrtK l) (k : List Nat) : ∀ a b, a ≤ b → b < l.length → (!ltN (l.getD a []) k) = true → (!ltN (l.getD b []) k) = true := by
  intro a b hab hb h1
  by_cases e : a = b
  · rw [← e]; exact h1
  · have h2 := srt_getD h (show a < b by omega) hb
    cases h3 : ltN (l.getD b []) k with
    | false => rfl
    | true => rw [ltN_trans _ _ _ h2 h3] at h1; cases h1
set_option maxHeartbeats 2000000 in
theorem search80 (x y : Nat) (n : Nat) (p : Nat → Bool) (w : World) (hn : n ≤ 2000000) (hf : ∀ W : World, Below w.heap.size w W → ∀ i, i < n → Calls Try.prog 80 #[.int .i64 (i : Nat), .pointer (some ⟨x, 0, none⟩), .pointer (some ⟨y, 0, none⟩)] W fun e w' => e = .returned (.bool (p i)) ∧ Below W.heap.size W w')
    (hm : ∀ a b, a ≤ b → b < n → p a = true → p b = true) : Calls Try.prog 79 #[.int .i64 (n : Nat), .func (.func 80) #[] #[.pointer (some ⟨x, 0, none⟩), .pointer (some ⟨y, 0, none⟩)]] w fun e w' => ∃ k : Nat, e = .returned (.int .i64 (k : Nat)) ∧ k ≤ n ∧ (∀ j, j < k → p j = false) ∧ (∀ j, k ≤ j → j < n → p j = true) ∧ Below w.heap.size w w' := by
  have HF := hide hf
  have HM := hide hm
  clear hf hm
  go_enter Try.func79, Try.ntmps79
  go_wp2
  go_loopw [5, 6] (fun i j wr => ∃ lo hi : Nat, i = .int .i64 (lo : Nat) ∧ j = .int .i64 (hi : Nat) ∧ lo ≤ hi ∧ hi ≤ n ∧ Hid ((∀ t, t < lo → p t = false) ∧ (∀ t, hi ≤ t → t < n → p t = true) ∧ Below w.heap.size w wr)) (fun i j _ => (intOf j).toNat - (intOf i).toNat)
  case atStart => exact ⟨0, n, rfl, rfl, by omega, by omega, hide ⟨fun t h => by omega, fun t h h' => by omega, Below.refl _ _⟩⟩
  case round =>
    obtain ⟨i, j, rfl, rfl, hij, hj, HI⟩ := hrel
    by_cases hlt : i < j
    · obtain ⟨m, hmm⟩ : ∃ m, m = (i + j) / 2 := ⟨_, rfl⟩
      have hm' : ((i : Int) + (j : Int)) / 2 = (m : Int) := by omega
      have hmj : m < j := by omega
      have him : i ≤ m := by omega
      have hl1 : (i : Int) < (j : Int) := by omega
      have hw1 : IntKind.i64.wrap ((i : Int) + (j : Int)) = (i : Int) + (j : Int) := wrapN (by omega) (by omega)
      have hw2 : IntKind.u64.wrap ((i : Int) + (j : Int)) = (i : Int) + (j : Int) := by rw [IntKind.wrap_u64]; omega
      have hw3 : IntKind.i64.wrap (m : Int) = (m : Int) := wrapN (by omega) (by omega)
      have hw4 : IntKind.u64.wrap (m : Int) = (m : Int) := by rw [IntKind.wrap_u64]; omega
      have hw5 : IntKind.i64.wrap ((m : Int) + 1) = (m : Int) + 1 := wrapN (by omega) (by omega)
      have HC := hide (HF.out wr HI.out.2.2 m (by omega))
      obtain ⟨pm, hpm⟩ : ∃ pm, p m = pm := ⟨_, rfl⟩
      have HPM := hide hpm
      rw [hpm] at HC
      clear hmm hpm
      go_wp2_with fail
      refine HC.out.mono ?_
      rintro e w2 ⟨rfl, hb2⟩
      have HB2 : Hid (Below w.heap.size w w2) := hide (HI.out.2.2.trans (hb2.mono HI.out.2.2.size))
      clear hb2 HC
      cases pm with
      | true =>
        have HN : Hid (∀ t, m ≤ t → t < n → p t = true) := hide (fun t h1 h2 => HM.out m t h1 h2 HPM.out)
        go_wp2
        go_roundw
        case rel => exact ⟨i, m, rfl, rfl, him, by omega, hide ⟨HI.out.1, HN.out, HB2.out⟩⟩
        case measure => simp [intOf]; omega
      | false =>
        have HN : Hid (∀ t, t < m + 1 → p t = false) := hide (fun t h1 => by
          cases ht : p t with
          | false => rfl
          | true => rw [← HM.out t m (by omega) (by omega) ht, HPM.out])
        go_wp2
        go_roundw
        case rel => exact ⟨m + 1, j, by simp, rfl, by omega, hj, hide ⟨HN.out, HI.out.2.1, HB2.out⟩⟩
        case measure => simp [intOf]; omega
    · obtain rfl : i = j := by omega
      have hkk : ¬ (i : Int) < (i : Int) := by omega
      have HE := hide HI.out
      clear HI
      go_wp2
      go_ret
      exact ⟨i, rfl, hj, HE.out.1, HE.out.2.1, HE.out.2.2⟩
theorem cmp_ge (l m : List Nat) : decide (0 ≤ cmpN l m) = !ltN l m := by
  unfold cmpN
  cases h : ltN l m
  · rw [if_neg (by simp)]
    split <;> simp
  · rw [if_pos rfl]; rfl
set_option maxHeartbeats 2000000 in
theorem close80 (x y i : Nat) (a : Option Addr) (n c : Nat) (L : List (List Nat)) (ka : Option Addr) (kn kc : Nat) (k : List Nat) (W : World) (hx : W.cell? ⟨x, 0, none⟩ = some (.slice a n c)) (hy : W.cell? ⟨y, 0, none⟩ = some (.slice ka kn kc)) (hL : IsL W a n c L) (hk : IsB W ka kn kc k) (hi : i < n) :
    Calls Try.prog 80 #[.int .i64 (i : Nat), .pointer (some ⟨x, 0, none⟩), .pointer (some ⟨y, 0, none⟩)] W fun e w' => e = .returned (.bool (!ltN (L.getD i []) k)) ∧ Below W.heap.size W w' := by
  obtain ⟨b, off, a1, n1, c1, rfl, hb, z1, hB⟩ := hL.2.2.2.2 i hi
  have hcm : c ≤ 9223372036854775807 := hL.2.2.1
  have hcap := hL.2.1
  have HCMP := hide (compare_any a1 ka n1 c1 kn kc _ k W.drew (hB.below (Below.refl _ W).drew) (hk.below (Below.refl _ W).drew))
  have HG := hide (cmp_ge (L.getD i []) k)
  generalize cmpN (L.getD i []) k = cv at *
  generalize (!ltN (L.getD i []) k) = R at *
  have hi4 : (0 : Int) ≤ (i : Int) := by omega
  have hiI : (i : Int) < (n : Int) := by omega
  clear hL hk hB
  go_enter Try.func80, Try.ntmps80
  go_wp2_with fail
  refine wp_region_held_drew (S := (fun W : World => W.cell? ⟨x, 0, none⟩ = some (.slice (some ⟨b, off, none⟩) n c) ∧ W.cell? ⟨y, 0, none⟩ = some (.slice ka kn kc) ∧ W.cell? ⟨b, off + i, none⟩ = some (.slice a1 n1 c1))) (by kernel_rfl) ?hSp (fun hHeld => ?_)
  case hSp => exact ⟨hx, hy, z1⟩
  refine hTake (i := 0) (v := ?v0p) (some 5) rfl rfl (by kernel_rfl) (by kernel_rfl) (by kernel_rfl) (fun _ _ _ h => h) (by rfl) (by assumption) ?hy0p ?hn0p
  case hy0p => (intro w hSw; (try dsimp only at hSw); skip; go_simp; try with_reducible rfl)
  try simp only [Act.put, List.setIfInBounds_toArray, List.set_cons_zero, List.set_cons_succ]
  refine hTake (i := 1) (v := ?v1p) (some 6) rfl rfl (by kernel_rfl) (by kernel_rfl) (by kernel_rfl) (fun _ _ _ h => h) (by rfl) (by assumption) ?hy1p ?hn1p
  case hy1p => (intro w hSw; (try dsimp only at hSw); skip; go_simp; try with_reducible rfl)
  try simp only [Act.put, List.setIfInBounds_toArray, List.set_cons_zero, List.set_cons_succ]
  refine hTake (i := 2) (v := ?v2p) (some 7) rfl rfl (by kernel_rfl) (by kernel_rfl) (by kernel_rfl) (fun _ _ _ h => h) (by rfl) (by assumption) ?hy2p ?hn2p
  case hy2p => (intro w hSw; (try dsimp only at hSw); skip; go_simp; try with_reducible rfl)
  try simp only [Act.put, List.setIfInBounds_toArray, List.set_cons_zero, List.set_cons_succ]
  refine hTake (i := 3) (v := ?v3p) (some 8) rfl rfl (by kernel_rfl) (by kernel_rfl) (by kernel_rfl) (fun _ _ _ h => h) (by rfl) (by assumption) ?hy3p ?hn3p
  case hy3p => (intro w hSw; (try dsimp only at hSw); skip; go_simp; try with_reducible rfl)
  try simp only [Act.put, List.setIfInBounds_toArray, List.set_cons_zero, List.set_cons_succ]
  refine hTake (i := 4) (v := ?v4p) (some 9) rfl rfl (by kernel_rfl) (by kernel_rfl) (by kernel_rfl) (fun _ _ _ h => h) (by rfl) (by assumption) ?hy4p ?hn4p
  case hy4p => (intro w hSw; (try dsimp only at hSw); skip; go_simp; try with_reducible rfl)
  try simp only [Act.put, List.setIfInBounds_toArray, List.set_cons_zero, List.set_cons_succ]
  refine hOne (i := 5) rfl (by kernel_rfl) (fun K hK => ?_)
  go_simp
  refine HCMP.out.mono ?_
  rintro e w' ⟨rfl, rfl⟩
  refine hK.out _ _ (⟨hx, hy, z1⟩) (fun hHeld => ?_)
  clear hK K
  try simp only [Act.put, List.setIfInBounds_toArray, List.set_cons_zero, List.set_cons_succ]
  refine hTake (i := 6) (v := ?v6p) (some 11) rfl rfl (by kernel_rfl) (by kernel_rfl) (by kernel_rfl) (fun _ _ _ h => h) (by rfl) (by assumption) ?hy6p ?hn6p
  case hy6p => (intro w hSw; (try dsimp only at hSw); skip; go_simp; try with_reducible rfl)
  try simp only [Act.put, List.setIfInBounds_toArray, List.set_cons_zero, List.set_cons_succ]
  refine hTake (i := 7) (v := ?v7p) (some 4) rfl rfl (by kernel_rfl) (by kernel_rfl) (by kernel_rfl) (fun _ _ _ h => h) (by rfl) (by assumption) ?hy7p ?hn7p
  case hy7p => (intro w hSw; (try dsimp only at hSw); skip; go_simp; try with_reducible rfl)
  try simp only [Act.put, List.setIfInBounds_toArray, List.set_cons_zero, List.set_cons_succ]
  refine wpAnyH_done (by kernel_rfl) ?_ _
  go_wp2
  go_ret
  exact ⟨by rw [← HG.out]; rfl, (Below.refl _ _).drew⟩
set_option maxHeartbeats 4000000 in
theorem place_any (a : Option Addr) (n c : Nat) (L : List (List Nat)) (ka : Option Addr) (kn kc : Nat) (key : List Nat) (w : World) (hL : IsL w a n c L) (hk : IsB w ka kn kc key) (hs : SrtK L) (hn : n ≤ 2000000) :
    Calls Try.prog 46 #[.slice a n c, .slice ka kn kc] w fun e w' => e = .returned (.tuple #[.int .i64 (lowK L key : Nat), .bool (hasK L key)]) ∧ Below w.heap.size w w' := by
  have HB0 : Hid (Below w.heap.size w ((w.alloc (.cells #[.slice a n c] 22)).alloc (.cells #[.slice ka kn kc] 26))) := hide (((Below.refl _ w).alloc (Nat.le_refl _) _).alloc (by simp) _)
  have HX : Hid (((w.alloc (.cells #[.slice a n c] 22)).alloc (.cells #[.slice ka kn kc] 26)).heap[w.heap.size]? = some (.cells #[.slice a n c] 22 (0, 0))) := hide ((heap_alloc_old _ _ (by simp)).trans (heap_alloc_new _ _))
  have hY := heap_alloc_new (w.alloc (.cells #[.slice a n c] 22)) (.cells #[.slice ka kn kc] 26)
  simp only [World.size_alloc] at hY
  have HY := hide hY
  have HS0 : Hid (((w.alloc (.cells #[.slice a n c] 22)).alloc (.cells #[.slice ka kn kc] 26)).heap.size = w.heap.size + 2) := hide (by simp)
  have HL := hide hL
  have HK := hide hk
  have HN := hide hL.1
  have hcm : c ≤ 9223372036854775807 := hL.2.2.1
  have hcap := hL.2.1
  have HW : Hid (∀ k : Nat, k ≤ n → (∀ j, j < k → (!ltN (L.getD j []) key) = false) → (∀ j, k ≤ j → j < n → (!ltN (L.getD j []) key) = true) → lowK L key = k) := hide (fun k h1 h2 h3 => lowK_is L k (by rw [HN.out]; exact h1) (fun j hj => by simpa using h2 j hj) (fun hl => by have := h3 k (Nat.le_refl _) (by rw [← HN.out]; exact hl); simpa using this))
  have HH : Hid (hasK L key = (decide (lowK L key < n) && decide (L.getD (lowK L key) [] = key))) := hide (by unfold hasK; rw [HN.out])
  have q0 : ((w.alloc (.cells #[.slice a n c] 22)).alloc (.cells #[.slice ka kn kc] 26)).cell? ⟨w.heap.size, 0, none⟩ = some (.slice a n c) := cell_blkN HX.out rfl
  generalize hV : ((w.alloc (.cells #[.slice a n c] 22)).alloc (.cells #[.slice ka kn kc] 26)) = V at *
  have HSE := hide (search80 w.heap.size (w.heap.size + 1) n (fun i => !ltN (L.getD i []) key) V hn (fun W hW i hi => by
    have hw : Below w.heap.size w W := HB0.out.trans (hW.mono HB0.out.size)
    exact close80 w.heap.size (w.heap.size + 1) i a n c L ka kn kc key W (cell_blkN ((hW.block _ (heap_ltN HX.out)).trans HX.out) rfl) (cell_blkN ((hW.block _ (heap_ltN HY.out)).trans HY.out) rfl) (HL.out.below hw) (HK.out.below hw) hi) (by rw [← HN.out]; exact mono_ge hs key))
  clear hL hk hY hs
  generalize hasK L key = R at *
  generalize lowK L key = lo at *
  go_enter Try.func46, Try.ntmps46
  go_wp2_with fail
  try rw [hV]
  refine HSE.out.mono ?_
  rintro e w2 ⟨k, rfl, hkn, hlo, hhi, hb2⟩
  obtain rfl : k = lo := (HW.out k hkn hlo hhi).symm
  have HB2 : Hid (Below w.heap.size w w2) := hide (HB0.out.trans (hb2.mono HB0.out.size))
  have p0 : w2.cell? ⟨w.heap.size, 0, none⟩ = some (.slice a n c) := cell_blkN ((hb2.block _ (heap_ltN HX.out)).trans HX.out) rfl
  have p1 : w2.cell? ⟨w.heap.size + 1, 0, none⟩ = some (.slice ka kn kc) := cell_blkN ((hb2.block _ (heap_ltN HY.out)).trans HY.out) rfl
  clear hlo hhi hb2 HSE q0 HW
  have hi4 : (0 : Int) ≤ (k : Int) := by omega
  by_cases hlt : k < n
  · obtain ⟨b, off, a1, n1, c1, rfl, hb, z1, hB⟩ := (HL.out.below HB2.out).2.2.2.2 k hlt
    have hiI : (k : Int) < (n : Int) := by omega
    have HEQ := hide (equal_any a1 ka n1 c1 kn kc _ key w2.drew (hB.below (Below.refl _ w2).drew) ((HK.out.below HB2.out).below (Below.refl _ w2).drew))
    have HE : Hid (R = decide (L.getD k [] = key)) := hide (by rw [HH.out, decide_eq_true hlt]; rfl)
    generalize decide (L.getD k [] = key) = D at *
    clear hB HH
    have HBD : Hid (Below w.heap.size w w2.drew) := hide HB2.out.drew
    go_wp2_with fail
    refine wp_region_held_drew (S := (fun W : World => W.cell? ⟨w.heap.size, 0, none⟩ = some (.slice (some ⟨b, off, none⟩) n c) ∧ W.cell? ⟨w.heap.size + 1, 0, none⟩ = some (.slice ka kn kc) ∧ W.cell? ⟨b, off + k, none⟩ = some (.slice a1 n1 c1))) (by kernel_rfl) ?hSl (fun hHeld => ?_)
    case hSl => exact ⟨p0, p1, z1⟩
    refine hTake (i := 0) (v := ?v0l) (some 11) rfl rfl (by kernel_rfl) (by kernel_rfl) (by kernel_rfl) (fun _ _ _ h => h) (by rfl) (by assumption) ?hy0l ?hn0l
    case hy0l => (intro w hSw; (try dsimp only at hSw); skip; go_simp; try with_reducible rfl)
    try simp only [Act.put, List.setIfInBounds_toArray, List.set_cons_zero, List.set_cons_succ]
    refine hTake (i := 1) (v := ?v1l) (some 12) rfl rfl (by kernel_rfl) (by kernel_rfl) (by kernel_rfl) (fun _ _ _ h => h) (by rfl) (by assumption) ?hy1l ?hn1l
    case hy1l => (intro w hSw; (try dsimp only at hSw); skip; go_simp; try with_reducible rfl)
    try simp only [Act.put, List.setIfInBounds_toArray, List.set_cons_zero, List.set_cons_succ]
    refine hTake (i := 2) (v := ?v2l) (some 13) rfl rfl (by kernel_rfl) (by kernel_rfl) (by kernel_rfl) (fun _ _ _ h => h) (by rfl) (by assumption) ?hy2l ?hn2l
    case hy2l => (intro w hSw; (try dsimp only at hSw); skip; go_simp; try with_reducible rfl)
    try simp only [Act.put, List.setIfInBounds_toArray, List.set_cons_zero, List.set_cons_succ]
    refine hTake (i := 3) (v := ?v3l) (some 14) rfl rfl (by kernel_rfl) (by kernel_rfl) (by kernel_rfl) (fun _ _ _ h => h) (by rfl) (by assumption) ?hy3l ?hn3l
    case hy3l => (intro w hSw; (try dsimp only at hSw); skip; go_simp; try with_reducible rfl)
    try simp only [Act.put, List.setIfInBounds_toArray, List.set_cons_zero, List.set_cons_succ]
    refine hTake (i := 4) (v := ?v4l) (some 15) rfl rfl (by kernel_rfl) (by kernel_rfl) (by kernel_rfl) (fun _ _ _ h => h) (by rfl) (by assumption) ?hy4l ?hn4l
    case hy4l => (intro w hSw; (try dsimp only at hSw); skip; go_simp; try with_reducible rfl)
    try simp only [Act.put, List.setIfInBounds_toArray, List.set_cons_zero, List.set_cons_succ]
    refine hTake (i := 5) (v := ?v5l) (some 16) rfl rfl (by kernel_rfl) (by kernel_rfl) (by kernel_rfl) (fun _ _ _ h => h) (by rfl) (by assumption) ?hy5l ?hn5l
    case hy5l => (intro w hSw; (try dsimp only at hSw); skip; go_simp; try with_reducible rfl)
    try simp only [Act.put, List.setIfInBounds_toArray, List.set_cons_zero, List.set_cons_succ]
    refine hTake (i := 6) (v := ?v6l) (some 17) rfl rfl (by kernel_rfl) (by kernel_rfl) (by kernel_rfl) (fun _ _ _ h => h) (by rfl) (by assumption) ?hy6l ?hn6l
    case hy6l => (intro w hSw; (try dsimp only at hSw); skip; go_simp; try with_reducible rfl)
    try simp only [Act.put, List.setIfInBounds_toArray, List.set_cons_zero, List.set_cons_succ]
    refine hTake (i := 7) (v := ?v7l) (some 18) rfl rfl (by kernel_rfl) (by kernel_rfl) (by kernel_rfl) (fun _ _ _ h => h) (by rfl) (by assumption) ?hy7l ?hn7l
    case hy7l => (intro w hSw; (try dsimp only at hSw); skip; go_simp; try with_reducible rfl)
    try simp only [Act.put, List.setIfInBounds_toArray, List.set_cons_zero, List.set_cons_succ]
    refine hTake (i := 8) (v := ?v8l) (some 19) rfl rfl (by kernel_rfl) (by kernel_rfl) (by kernel_rfl) (fun _ _ _ h => h) (by rfl) (by assumption) ?hy8l ?hn8l
    case hy8l => (intro w hSw; (try dsimp only at hSw); skip; go_simp; try with_reducible rfl)
    try simp only [Act.put, List.setIfInBounds_toArray, List.set_cons_zero, List.set_cons_succ]
    refine hTake (i := 9) (v := ?v9l) (some 20) rfl rfl (by kernel_rfl) (by kernel_rfl) (by kernel_rfl) (fun _ _ _ h => h) (by rfl) (by assumption) ?hy9l ?hn9l
    case hy9l => (intro w hSw; (try dsimp only at hSw); skip; go_simp; try with_reducible rfl)
    try simp only [Act.put, List.setIfInBounds_toArray, List.set_cons_zero, List.set_cons_succ]
    refine hTake (i := 10) (v := ?v10l) (some 21) rfl rfl (by kernel_rfl) (by kernel_rfl) (by kernel_rfl) (fun _ _ _ h => h) (by rfl) (by assumption) ?hy10l ?hn10l
    case hy10l => (intro w hSw; (try dsimp only at hSw); skip; go_simp; try with_reducible rfl)
    try simp only [Act.put, List.setIfInBounds_toArray, List.set_cons_zero, List.set_cons_succ]
    refine hOne (i := 11) rfl (by kernel_rfl) (fun K hK => ?_)
    go_simp
    refine HEQ.out.mono ?_
    rintro e w' ⟨rfl, rfl⟩
    refine hK.out _ _ (⟨p0, p1, z1⟩) (fun hHeld => ?_)
    clear hK K
    try simp only [Act.put, List.setIfInBounds_toArray, List.set_cons_zero, List.set_cons_succ]
    refine hTake (i := 12) (v := ?v12l) (some 23) rfl rfl (by kernel_rfl) (by kernel_rfl) (by kernel_rfl) (fun _ _ _ h => h) (by rfl) (by assumption) ?hy12l ?hn12l
    case hy12l => (intro w hSw; (try dsimp only at hSw); skip; go_simp; try with_reducible rfl)
    try simp only [Act.put, List.setIfInBounds_toArray, List.set_cons_zero, List.set_cons_succ]
    refine hTake (i := 13) (v := ?v13l) (some 4) rfl rfl (by kernel_rfl) (by kernel_rfl) (by kernel_rfl) (fun _ _ _ h => h) (by rfl) (by assumption) ?hy13l ?hn13l
    case hy13l => (intro w hSw; (try dsimp only at hSw); skip; go_simp; try with_reducible rfl)
    try simp only [Act.put, List.setIfInBounds_toArray, List.set_cons_zero, List.set_cons_succ]
    refine hTake (i := 14) (v := ?v14l) (some 5) rfl rfl (by kernel_rfl) (by kernel_rfl) (by kernel_rfl) (fun _ _ _ h => h) (by rfl) (by assumption) ?hy14l ?hn14l
    case hy14l => (intro w hSw; (try dsimp only at hSw); skip; go_simp; try with_reducible rfl)
    try simp only [Act.put, List.setIfInBounds_toArray, List.set_cons_zero, List.set_cons_succ]
    refine wpAnyH_done (by kernel_rfl) ?_ _
    go_wp2
    go_ret2
    exact ⟨by rw [HE.out]; rfl, HBD.out⟩
  · have hiI : ¬ (k : Int) < (n : Int) := by omega
    have HE : Hid (R = false) := hide (by rw [HH.out, decide_eq_false hlt]; rfl)
    have HBD : Hid (Below w.heap.size w w2.drew) := hide HB2.out.drew
    clear HH
    go_wp2_with fail
    refine wp_region_held_drew (S := (fun W : World => W.cell? ⟨w.heap.size, 0, none⟩ = some (.slice a n c) ∧ W.cell? ⟨w.heap.size + 1, 0, none⟩ = some (.slice ka kn kc))) (by kernel_rfl) ?hSg (fun hHeld => ?_)
    case hSg => exact ⟨p0, p1⟩
    refine hTake (i := 0) (v := ?v0g) (some 11) rfl rfl (by kernel_rfl) (by kernel_rfl) (by kernel_rfl) (fun _ _ _ h => h) (by rfl) (by assumption) ?hy0g ?hn0g
    case hy0g => (intro w hSw; (try dsimp only at hSw); skip; go_simp; try with_reducible rfl)
    try simp only [Act.put, List.setIfInBounds_toArray, List.set_cons_zero, List.set_cons_succ]
    refine hTake (i := 1) (v := ?v1g) (some 12) rfl rfl (by kernel_rfl) (by kernel_rfl) (by kernel_rfl) (fun _ _ _ h => h) (by rfl) (by assumption) ?hy1g ?hn1g
    case hy1g => (intro w hSw; (try dsimp only at hSw); skip; go_simp; try with_reducible rfl)
    try simp only [Act.put, List.setIfInBounds_toArray, List.set_cons_zero, List.set_cons_succ]
    refine hTake (i := 2) (v := ?v2g) (some 13) rfl rfl (by kernel_rfl) (by kernel_rfl) (by kernel_rfl) (fun _ _ _ h => h) (by rfl) (by assumption) ?hy2g ?hn2g
    case hy2g => (intro w hSw; (try dsimp only at hSw); skip; go_simp; try with_reducible rfl)
    try simp only [Act.put, List.setIfInBounds_toArray, List.set_cons_zero, List.set_cons_succ]
    refine hTake (i := 3) (v := ?v3g) (some 14) rfl rfl (by kernel_rfl) (by kernel_rfl) (by kernel_rfl) (fun _ _ _ h => h) (by rfl) (by assumption) ?hy3g ?hn3g
    case hy3g => (intro w hSw; (try dsimp only at hSw); skip; go_simp; try with_reducible rfl)
    try simp only [Act.put, List.setIfInBounds_toArray, List.set_cons_zero, List.set_cons_succ]
    refine hTake (i := 4) (v := ?v4g) (some 15) rfl rfl (by kernel_rfl) (by kernel_rfl) (by kernel_rfl) (fun _ _ _ h => h) (by rfl) (by assumption) ?hy4g ?hn4g
    case hy4g => (intro w hSw; (try dsimp only at hSw); skip; go_simp; try with_reducible rfl)
    try simp only [Act.put, List.setIfInBounds_toArray, List.set_cons_zero, List.set_cons_succ]
    refine hTake (i := 5) (v := ?v5g) (some 16) rfl rfl (by kernel_rfl) (by kernel_rfl) (by kernel_rfl) (fun _ _ _ h => h) (by rfl) (by assumption) ?hy5g ?hn5g
    case hy5g => (intro w hSw; (try dsimp only at hSw); skip; go_simp; try with_reducible rfl)
    try simp only [Act.put, List.setIfInBounds_toArray, List.set_cons_zero, List.set_cons_succ]
    refine hSkip (i := 6) (some 17) rfl rfl (by kernel_rfl) (by kernel_rfl) (by kernel_rfl) (fun _ _ _ h => h) (by rfl) (by assumption) ?_
    try simp only [Act.put, List.setIfInBounds_toArray, List.set_cons_zero, List.set_cons_succ]
    refine hSkip (i := 7) (some 18) rfl rfl (by kernel_rfl) (by kernel_rfl) (by kernel_rfl) (fun _ _ _ h => h) (by rfl) (by assumption) ?_
    try simp only [Act.put, List.setIfInBounds_toArray, List.set_cons_zero, List.set_cons_succ]
    refine hSkip (i := 8) (some 19) rfl rfl (by kernel_rfl) (by kernel_rfl) (by kernel_rfl) (fun _ _ _ h => h) (by rfl) (by assumption) ?_
    try simp only [Act.put, List.setIfInBounds_toArray, List.set_cons_zero, List.set_cons_succ]
    refine hSkip (i := 9) (some 20) rfl rfl (by kernel_rfl) (by kernel_rfl) (by kernel_rfl) (fun _ _ _ h => h) (by rfl) (by assumption) ?_
    try simp only [Act.put, List.setIfInBounds_toArray, List.set_cons_zero, List.set_cons_succ]
    refine hSkip (i := 10) (some 21) rfl rfl (by kernel_rfl) (by kernel_rfl) (by kernel_rfl) (fun _ _ _ h => h) (by rfl) (by assumption) ?_
    try simp only [Act.put, List.setIfInBounds_toArray, List.set_cons_zero, List.set_cons_succ]
    refine hSkip (i := 11) (some 22) rfl rfl (by kernel_rfl) (by kernel_rfl) (by kernel_rfl) (fun _ _ _ h => h) (by rfl) (by assumption) ?_
    try simp only [Act.put, List.setIfInBounds_toArray, List.set_cons_zero, List.set_cons_succ]
    refine hTake (i := 12) (v := ?v12g) (some 23) rfl rfl (by kernel_rfl) (by kernel_rfl) (by kernel_rfl) (fun _ _ _ h => h) (by rfl) (by assumption) ?hy12g ?hn12g
    case hy12g => (intro w hSw; (try dsimp only at hSw); skip; go_simp; try with_reducible rfl)
    try simp only [Act.put, List.setIfInBounds_toArray, List.set_cons_zero, List.set_cons_succ]
    refine hTake (i := 13) (v := ?v13g) (some 4) rfl rfl (by kernel_rfl) (by kernel_rfl) (by kernel_rfl) (fun _ _ _ h => h) (by rfl) (by assumption) ?hy13g ?hn13g
    case hy13g => (intro w hSw; (try dsimp only at hSw); skip; go_simp; try with_reducible rfl)
    try simp only [Act.put, List.setIfInBounds_toArray, List.set_cons_zero, List.set_cons_succ]
    refine hTake (i := 14) (v := ?v14g) (some 5) rfl rfl (by kernel_rfl) (by kernel_rfl) (by kernel_rfl) (fun _ _ _ h => h) (by rfl) (by assumption) ?hy14g ?hn14g
    case hy14g => (intro w hSw; (try dsimp only at hSw); skip; go_simp; try with_reducible rfl)
    try simp only [Act.put, List.setIfInBounds_toArray, List.set_cons_zero, List.set_cons_succ]
    refine wpAnyH_done (by kernel_rfl) ?_ _
    go_wp2
    go_ret2
    exact ⟨by rw [HE.out]; rfl, HBD.out⟩
end Go.Proofs.Ytebikoekpbnpbaa
