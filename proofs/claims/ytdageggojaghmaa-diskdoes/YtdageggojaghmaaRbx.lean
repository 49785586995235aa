/- the document's restore -/
import Derived.Test.YtdageggojaghmaaRax
namespace Go.Proofs.Ytdageggojaghmaa
open Go.RowKit
theorem Row.dat {w : World} {q c : Nat} {l : List Nat} (h : Row w q 4096 c l) (hx : ∀ x ∈ l, x < 256) : Dat NoX w (.slice (some ⟨q, 0, none⟩) 4096 c) l := by
  refine ⟨_, _, _, rfl, h.isB hx, Nat.le_refl _, fun _ b off e => ?_⟩
  obtain ⟨_, _, _, cur, hb, _⟩ := h
  cases e
  exact ⟨⟨cur, _, hb⟩, id⟩
theorem mem_uns {st : St} {n i : Nat} : i ∈ st.uns n ↔ i < n ∧ (st.fr i).isSome = true := by simp [St.uns]
theorem uns_pair (st : St) (n : Nat) : (st.uns n).Pairwise (· < ·) := List.Pairwise.filter _ List.pairwise_lt_range
theorem uns_notin {us : List Nat} (h : us.Pairwise (· < ·)) {j x : Nat} (hx : us[j]? = some x) : x ∉ us.take j := by
  intro hm
  obtain ⟨i, hi, e⟩ := List.mem_iff_getElem.1 hm
  obtain ⟨hj, hjx⟩ := List.getElem?_eq_some_iff.1 hx
  have hi2 : i < j := by simp at hi; omega
  have := List.pairwise_iff_getElem.1 h i j (by omega) hj hi2
  rw [List.getElem_take] at e
  omega
theorem take_snoc {us : List Nat} {j x : Nat} (hx : us[j]? = some x) : us.take (j + 1) = us.take j ++ [x] := by
  rw [List.take_add_one, hx]; rfl
theorem fated_out {fr : Nat → Option (List Nat)} {l : List (Nat × Nat)} {us : List Nat} {f : Nat → List Nat} (hnd : us.Pairwise (· < ·)) {k i : Nat} (hk : k ≤ us.length) (h : i ∉ us.take k) : fated fr l us f k i = f i := by
  rcases fated_any fr l us f hnd k hk i with e | ⟨⟨j, hj, hx⟩, _⟩
  · exact e
  · exfalso
    apply h
    obtain ⟨hjl, hjx⟩ := List.getElem?_eq_some_iff.1 hx
    rw [List.mem_iff_getElem]
    exact ⟨j, by simp; omega, by rw [List.getElem_take]; exact hjx⟩
/-- the sectors when the first j of those that were unsynced have had their fates -/
def rlr (st : St) (l : List (Nat × Nat)) (us : List Nat) (j i : Nat) : List Nat := if i ∈ us.take j then fated st.fr l us st.syn j i else st.reads i
def rdi (st : St) (us : List Nat) (j i : Nat) : Bool := if i ∈ us.take j then false else (st.fr i).isSome
theorem RowR.fate {w : World} {q cap n : Nat} {st : St} {l : List (Nat × Nat)} {us : List Nat} (_hnd : us.Pairwise (· < ·)) {j x : Nat} {lf b : List Nat} (hx : us[j]? = some x) (hf : st.fr x = some lf)
    (hb : b = outL (l.getD j (0, 0)).1 (l.getD j (0, 0)).2 (fated st.fr l us st.syn j x) lf)
    (h : RowR w q cap n (fun i => if i = x then b else fated st.fr l us st.syn j i) (fun i => if i = x then b else rlr st l us j i) (fun i => if i = x then false else rdi st us j i)) :
    RowR w q cap n (fated st.fr l us st.syn (j + 1)) (rlr st l us (j + 1)) (rdi st us (j + 1)) := by
  have hg : us.getD j 0 = x := by rw [List.getD_eq_getElem?_getD, hx]; rfl
  have hs : ∀ i, fated st.fr l us st.syn (j + 1) i = if i = x then b else fated st.fr l us st.syn j i := by
    intro i
    simp only [fated, setSyn]
    rw [hg, hf, hb]
    rfl
  refine h.congr (fun i _ => (hs i).symm) (fun i _ => ?_) (fun i _ => ?_)
  · unfold rlr
    rw [take_snoc hx, hs i]
    by_cases e : i = x
    · simp [e]
    · by_cases m : i ∈ us.take j
      · simp [e, m]
      · simp [e, m]
  · unfold rdi
    rw [take_snoc hx]
    by_cases e : i = x
    · simp [e]
    · by_cases m : i ∈ us.take j
      · simp [e, m]
      · simp [e, m]
theorem RowR.fated0 {w : World} {q cap n : Nat} {st : St} {l : List (Nat × Nat)} {us : List Nat} (h : RowR w q cap n st.syn st.reads (fun i => (st.fr i).isSome)) : RowR w q cap n (fated st.fr l us st.syn 0) (rlr st l us 0) (rdi st us 0) :=
  h.congr (fun i _ => rfl) (fun i _ => by simp [rlr]) (fun i _ => by simp [rdi])
theorem RowR.fatedN {w : World} {q cap n : Nat} {st : St} {l : List (Nat × Nat)} (h : RowR w q cap n (fated st.fr l (st.uns n) st.syn (st.uns n).length) (rlr st l (st.uns n) (st.uns n).length) (rdi st (st.uns n) (st.uns n).length)) :
    RowR w q cap n (st.fates l (st.uns n) (st.uns n).length).back.syn (st.fates l (st.uns n) (st.uns n).length).back.reads (fun i => ((st.fates l (st.uns n) (st.uns n).length).back.fr i).isSome) := by
  have hn : ∀ i, i < n → i ∉ st.uns n → st.fr i = none := by
    intro i hi hm
    cases hf : st.fr i with
    | none => rfl
    | some v => exact absurd (mem_uns.2 ⟨hi, by rw [hf]; rfl⟩) hm
  refine h.congr (fun i _ => rfl) (fun i hi => ?_) (fun i hi => ?_)
  · show rlr st l (st.uns n) (st.uns n).length i = fated st.fr l (st.uns n) st.syn (st.uns n).length i
    unfold rlr
    rw [List.take_length]
    by_cases m : i ∈ st.uns n
    · rw [if_pos m]
    · rw [if_neg m, fated_out (uns_pair st n) (Nat.le_refl _) (by rw [List.take_length]; exact m)]
      unfold St.reads
      rw [hn i hi m]
      rfl
  · show rdi st (st.uns n) (st.uns n).length i = false
    unfold rdi
    rw [List.take_length]
    by_cases m : i ∈ st.uns n
    · rw [if_pos m]
    · rw [if_neg m, hn i hi m]
      rfl
/-- the blocks that the call begins with -/
structure Two (W : World) (B q cap n : Nat) (st : St) : Prop where
  bx : W.heap[B]? = some (.cells #[.slice (some ⟨q, 0, none⟩) n cap, .bool st.down, .bool st.arm, .int .i64 (st.left : Nat), .int .i64 (st.wr : Nat)] 27 (0, 0))
  rs : W.heap[B + 1]? = some (.cells #[.slice none 0 0, .bool false, .bool false, .int .i64 0, .int .i64 0] 27 (0, 0))
theorem Two.below {W W' : World} {B q cap n : Nat} {st : St} (h : Two W B q cap n st) (hb : Below W.heap.size W W') : Two W' B q cap n st := ⟨(hb.block _ (heap_lt h.bx)).trans h.bx, (hb.block _ (heap_lt h.rs)).trans h.rs⟩
theorem two_new (w : World) (q cap n : Nat) (st : St) : Two ((w.alloc (.cells #[.slice (some ⟨q, 0, none⟩) n cap, .bool st.down, .bool st.arm, .int .i64 (st.left : Nat), .int .i64 (st.wr : Nat)] 27)).alloc (.cells #[.slice none 0 0, .bool false, .bool false, .int .i64 0, .int .i64 0] 27)) w.heap.size q cap n st := by
  refine ⟨?_, blk_2 _ _ _⟩
  rw [Below.heap_alloc _ _ _ (by simp), heap_alloc_new]
set_option maxRecDepth 40000 in
set_option maxHeartbeats 1000000 in
theorem rrest_up (w : World) (q cap n : Nat) (st : St) (h : IsR w q cap n st) (hd : st.down = false) (v : Value) :
    Calls Try.prog 29 #[stv q cap n st, v] w fun e w' => e = .returned (.tuple #[stv q cap n st, .int .i64 9]) ∧ IsR w' q cap n st ∧ Below w.heap.size w w' := by
  have HR := hide h
  have HB2 := hide (below_2 w)
  clear h
  go_enter Try.func29, Try.ntmps29
  go_wp2
  (try simp only [Exit.inBlock, Exit.then])
  refine bodyPost_ret (res5 rfl _ _ (w.heap.size + 1) _ (blk_2 _ _ _) rfl rfl) rfl ?_
  exact ⟨by simp [stv, hd], HR.out.below (HB2.out _ _), HB2.out _ _⟩
set_option maxRecDepth 40000 in
set_option maxHeartbeats 1000000 in
theorem rrest_many (w : World) (q cap n : Nat) (st : St) (h : IsR w q cap n st) (hd : st.down = true) (a : Option Addr) (len cp : Nat) (hl : 1024 < len) :
    Calls Try.prog 29 #[stv q cap n st, .slice a len cp] w fun e w' => e = .returned (.tuple #[stv q cap n st, .int .i64 3]) ∧ IsR w' q cap n st ∧ Below w.heap.size w w' := by
  have HR := hide h
  have HB2 := hide (below_2 w)
  have d1 : decide ((1024 : Int) < (len : Int)) = true := decide_eq_true (by omega)
  clear h hl
  go_enter Try.func29, Try.ntmps29
  go_wp2
  (try simp only [Exit.inBlock, Exit.then])
  refine bodyPost_ret (res5 rfl _ _ (w.heap.size + 1) _ (blk_2 _ _ _) rfl rfl) rfl ?_
  exact ⟨by simp [stv, hd], HR.out.below (HB2.out _ _), HB2.out _ _⟩
theorem fate_step {w : World} {q cap n : Nat} {st : St} {l : List (Nat × Nat)} {us : List Nat} {j x : Nat} {lf b : List Nat} {v : Value} (h : RowR w q cap n (fated st.fr l us st.syn j) (rlr st l us j) (rdi st us j)) (hnd : us.Pairwise (· < ·)) (hxn : x < n) (hx : us[j]? = some x) (hf : st.fr x = some lf) (hD : Dat NoX w v b)
    (hb : b = outL (l.getD j (0, 0)).1 (l.getD j (0, 0)).2 (fated st.fr l us st.syn j x) lf) :
    RowR (((w.setCell ⟨q, x * 3, none⟩ v).setCell ⟨q, x * 3 + 1, none⟩ v).setCell ⟨q, x * 3 + 2, none⟩ (.bool false)) q cap n (fated st.fr l us st.syn (j + 1)) (rlr st l us (j + 1)) (rdi st us (j + 1)) :=
  RowR.fate hnd hx hf hb (h.put hxn false hD hD)
theorem frm_set3 {Q : Nat} {a w : World} (h : Frm (fun i => i = Q) a w) (i j k : Nat) (v0 v1 v2 : Value) : Frm (fun i => i = Q) a (((w.setCell ⟨Q, i, none⟩ v0).setCell ⟨Q, j, none⟩ v1).setCell ⟨Q, k, none⟩ v2) :=
  ((h.set rfl v0).set rfl v1).set rfl v2
set_option maxRecDepth 40000 in
set_option maxHeartbeats 8000000 in
/-- the document's restore of fates that are not too many, without power -/
theorem rrest_down (w : World) (q cap n : Nat) (st : St) (h : IsR w q cap n st) (hd : st.down = true) (a : Option Addr) (len cp : Nat) (l : List (Nat × Nat)) (hF : IsF w a len cp l) (hl : len ≤ 1024) :
    Calls Try.prog 29 #[stv q cap n st, .slice a len cp] w fun e w' => (¬ GoodF l ∧ e = .returned (.tuple #[stv q cap n st, .int .i64 15]) ∧ IsR w' q cap n st ∧ Below w.heap.size w w') ∨
      (GoodF l ∧ ∃ q' c', e = .returned (.tuple #[stv q' c' n (st.fates l (st.uns n) (st.uns n).length).back, .int .i64 0]) ∧ IsR w' q' c' n (st.fates l (st.uns n) (st.uns n).length).back ∧ Below w.heap.size w w') := by
  have HR := hide h
  have HF := hide hF
  have hcap := hF.2.1
  have HLN := hide hF.1
  have hn1 := h.n1
  have HB2 := hide (below_2 w)
  have d1 : decide ((1024 : Int) < (len : Int)) = false := decide_eq_false (by omega)
  have HTW := hide (two_new w q cap n st)
  rw [hd] at HTW
  clear h hF
  go_enter Try.func29, Try.ntmps29
  go_wp2_with fail
  generalize hW0 : (w.alloc _).alloc _ = W0 at *
  have HBW : Hid (Below w.heap.size w W0) := hide (by rw [← hW0]; exact HB2.out _ _)
  clear hW0 HB2
  go_loopw [24] (fun i wr => ∃ k : Nat, k ≤ len ∧ i = .int .i64 k ∧ Hid (∀ j, j < k → (l.getD j (0, 0)).1 < 3) ∧ Hid (Below W0.heap.size W0 wr)) (fun i _ => len - (intOf i).toNat)
  case atStart => exact ⟨0, Nat.zero_le _, rfl, hide (fun j hj => by omega), hide (Below.refl _ _)⟩
  case round =>
    obtain ⟨k, hk, rfl, HA, HB⟩ := hrel
    have HBX := hide (HBW.out.trans (HB.out.mono HBW.out.size))
    have HT := hide (HTW.out.below HB.out)
    by_cases hkL : k = len
    · subst hkL
      have HG : Hid (GoodF l) := hide (by
        intro x hx
        obtain ⟨j, hj, rfl⟩ := List.mem_iff_getElem.1 hx
        have := HA.out j (by have := HLN.out; omega)
        rw [List.getD_eq_getElem?_getD, List.getElem?_eq_getElem hj] at this
        exact this)
      obtain ⟨c', W1, hr, hrow, hbel⟩ := secs_at wr q cap n _ _ _ (HR.out.row.below HBX.out) HR.out.n0 HR.out.n1
      have HRW := hide hrow
      have HB1 := hide hbel
      have HT1 := hide (HT.out.below hbel)
      have g0 := cell_blk (j := 0) HT.out.bx rfl
      have hq0 := heap_lt HT.out.bx
      have p0 := cell_blk (j := 0) HT1.out.bx rfl
      have p1 := cell_blk (j := 1) HT1.out.bx rfl
      have p2 := cell_blk (j := 2) HT1.out.bx rfl
      have p3 := cell_blk (j := 3) HT1.out.bx rfl
      have p4 := cell_blk (j := 4) HT1.out.bx rfl
      simp only [List.getElem_toArray, List.getElem_cons_zero, List.getElem_cons_succ] at g0 p0 p1 p2 p3 p4
      clear hrow hbel
      go_wp2_with (at_builtin; refine Go.Lib.wpList_append_run _ rfl _ _ _ _ rfl _ _ rfl rfl _ _ hr ?_)
      have RU := runs_any W1 q cap n st (HR.out.below (HBX.out.trans (HB1.out.mono HBX.out.size)))
      simp only [stv, hd] at RU
      refine RU.mono ?_
      rintro e w3 ⟨v, rfl, hown, hb3⟩
      obtain ⟨au, cu, rfl, hcu, hU⟩ := isU_row hown
      have HU := hide hU
      have HB3 := hide hb3
      have HW3 := hide ((HBX.out.trans (HB1.out.mono HBX.out.size)).trans (hb3.mono (HBX.out.trans (HB1.out.mono HBX.out.size)).size))
      have HT3 := hide (HT1.out.below hb3)
      have HR3 := hide (HRW.out.below hb3)
      have HQ1 := hide HRW.out.lt
      have HND := hide (uns_pair st n)
      have HMU : Hid (∀ x ∈ st.uns n, x < n ∧ (st.fr x).isSome = true) := hide (fun x hx => mem_uns.1 hx)
      have HFN : Hid (∀ W, RowR W (wr.heap.size + 1) c' n (fated st.fr l (st.uns n) st.syn (st.uns n).length) (rlr st l (st.uns n) (st.uns n).length) (rdi st (st.uns n) (st.uns n).length) → RowR W (wr.heap.size + 1) c' n (st.fates l (st.uns n) (st.uns n).length).back.syn (st.fates l (st.uns n) (st.uns n).length).back.reads (fun i => ((st.fates l (st.uns n) (st.uns n).length).back.fr i).isSome)) := hide (fun W h => h.fatedN)
      have HUL := hide (uns_le st n)
      have HBQ : Hid (w.heap.size + 1 < wr.heap.size + 1) := hide (by have := heap_lt HT.out.rs; omega)
      generalize hus : st.uns n = us at *
      have HUS := hide hus
      generalize hL : us.length = L at *
      have HL := hide hL
      generalize hQ : wr.heap.size + 1 = Q at *
      have hL1 : L ≤ 1024 := by have := HUL.out; omega
      clear hus hown hU hb3 RU hr g0 p0 p1 p2 p3 p4 hL hQ HT1 HT HRW HB1 HB HBX HA HTW HBW
      go_wp2_with fail
      go_loopw [40] (fun i ws => ∃ j : Nat, j ≤ L ∧ i = .int .i64 j ∧ Hid (RowR ws Q c' n (fated st.fr l us st.syn j) (rlr st l us j) (rdi st us j)) ∧ Hid (Frm (fun i => i = Q) w3 ws)) (fun i _ => L - (intOf i).toNat)
      case atStart => exact ⟨0, Nat.zero_le _, rfl, hide HR3.out.fated0, hide (Frm.refl _ _)⟩
      case round =>
        obtain ⟨j, hj, rfl, HRJ, HFJ⟩ := hrel
        by_cases hjL : j = L
        · subst hjL
          have HTB : Hid (wr.heap[w.heap.size]? = some (.cells #[.slice (some ⟨q, 0, none⟩) n cap, .bool st.down, .bool st.arm, .int .i64 (st.left : Nat), .int .i64 (st.wr : Nat)] 27 (0, 0))) := hide ((HFJ.out.block _ (heap_lt HT3.out.bx) (by have := HBQ.out; omega)).trans HT3.out.bx)
          have HTR : Hid (wr.heap[w.heap.size + 1]? = some (.cells #[.slice none 0 0, .bool false, .bool false, .int .i64 0, .int .i64 0] 27 (0, 0))) := hide ((HFJ.out.block _ (heap_lt HT3.out.rs) (by have := HBQ.out; omega)).trans HT3.out.rs)
          have HBF : Hid (Below w.heap.size w wr) := hide (HW3.out.trans (HFJ.out.toBelow HW3.out.size (by rintro i rfl; have := HBQ.out; omega)))
          have g0 := cell_blk (j := 0) HTB.out rfl
          have g1 := cell_blk (j := 1) HTB.out rfl
          have g2 := cell_blk (j := 2) HTB.out rfl
          have g3 := cell_blk (j := 3) HTB.out rfl
          have g4 := cell_blk (j := 4) HTB.out rfl
          have r0 := cell_blk (j := 0) HTR.out rfl
          have r1 := cell_blk (j := 1) HTR.out rfl
          have r2 := cell_blk (j := 2) HTR.out rfl
          have r3 := cell_blk (j := 3) HTR.out rfl
          have r4 := cell_blk (j := 4) HTR.out rfl
          have f0 := froz_blk HTR.out 0
          have f1 := froz_blk HTR.out 1
          have f2 := froz_blk HTR.out 2
          have f3 := froz_blk HTR.out 3
          have f4 := froz_blk HTR.out 4
          simp only [List.getElem_toArray, List.getElem_cons_zero, List.getElem_cons_succ] at g0 g1 g2 g3 g4 r0 r1 r2 r3 r4
          have hq8 := heap_lt HTB.out
          have hq9 := heap_lt HTR.out
          go_wp2
          (try simp only [Exit.inBlock, Exit.then])
          refine bodyPost_ret (res5 rfl _ _ (w.heap.size + 1) #[.slice (some ⟨Q, 0, none⟩) n c', .bool false, .bool false, .int .i64 0, .int .i64 (st.wr : Nat)] (by rw [blk_set (blk_set (blk_set (blk_set (blk_set HTR.out _) _) _) _) _]; rfl) rfl rfl) rfl ?_
          refine .inr ⟨HG.out, Q, c', ?_, ⟨HR.out.n0, HR.out.n1, ?_, HR.out.wr, Nat.zero_le _⟩, below_set5 HBF.out (by omega) _ _ _ _ _⟩
          · rfl
          · have := (HFN.out _ HRJ.out).set5 (.slice (some ⟨Q, 0, none⟩) n c') (.bool false) (.bool false) (.int .i64 0) (.int .i64 (st.wr : Nat)) HTR.out
            first | exact this | (rw [HUS.out, HL.out]; exact this)
        · have hjlt : j < L := by omega
          obtain ⟨qa, rfl, hqa, hqal, x, hxj, zx⟩ := HU.out j (by have := HL.out; omega)
          have hmx : x ∈ us := List.mem_of_getElem? hxj
          obtain ⟨hxn, hsx⟩ := HMU.out x hmx
          obtain ⟨lf, hfx⟩ : ∃ lf, st.fr x = some lf := Option.isSome_iff_exists.1 hsx
          have HFX := hide hfx
          have hnx := uns_notin HND.out hxj
          have erd : rdi st us j x = true := by unfold rdi; rw [if_neg hnx]; exact hsx
          have erl : rlr st l us j x = lf := by unfold rlr St.reads; rw [if_neg hnx, hfx]; rfl
          have hneq : qa ≠ Q := by have := HQ1.out; omega
          have yx : wr.cell? ⟨qa, j, none⟩ = some (.int .i64 (x : Nat)) := (World.cell?_of_block (HFJ.out.block qa hqal hneq)).trans zx
          have hqa2 : qa < wr.heap.size := Nat.lt_of_lt_of_le hqal HFJ.out.size
          obtain ⟨a0, l0, c0, a1, l1, c1, z0, z1, z2, hd0, hd1⟩ := HRJ.out.sec hxn
          rw [erd] at z2
          rw [erl] at hd1
          have HD0 := hide hd0
          have HD1 := hide hd1
          have hQl := HRJ.out.lt
          obtain ⟨cur, hcur, _, _⟩ := HRJ.out.row
          have y0 := froz_blk hcur (x * 3)
          have y1 := froz_blk hcur (x * 3 + 1)
          have y2 := froz_blk hcur (x * 3 + 2)
          have hxn' : (x : Int) < n := by omega
          have HFF := hide (HF.out.below (HW3.out.trans (HFJ.out.toBelow HW3.out.size (by rintro i rfl; have := HBQ.out; omega))))
          clear hmx hsx hfx hnx erd erl hd0 hd1 hcur zx hqa hqal
          by_cases hjk : j < k
          · obtain ⟨bf, off, rfl, hbf, d0, d1'⟩ := HFF.out.2.2.2.2 j hjk
            have hjk' : decide ((j : Int) < (k : Int)) = true := decide_eq_true (by omega)
            obtain ⟨p1, p2, hp⟩ : ∃ p1 p2 : Nat, l.getD j (0, 0) = (p1, p2) := ⟨_, _, rfl⟩
            have hgl : l.getD j (0, 0) ∈ l := by
              have hjl : j < l.length := by have := HLN.out; omega
              rw [List.getD_eq_getElem?_getD, List.getElem?_eq_getElem hjl]
              exact List.getElem_mem hjl
            have hp3 : p1 < 3 := by have := HG.out _ hgl; rw [hp] at this; exact this
            have hp2 : p2 < 256 := by have := (HF.out.2.2.2.1 _ hgl).2; rw [hp] at this; exact this
            rw [hp] at d0 d1'
            have HP := hide hp
            clear hgl hp
            by_cases h1 : p1 = 1
            · subst h1
              have d0x : wr.cell? ⟨bf, off + j * 2, none⟩ = some (.int .u8 1) := d0
              have EE : Hid (lf = outL (l.getD j (0, 0)).1 (l.getD j (0, 0)).2 (fated st.fr l us st.syn j x) lf) := hide (by rw [HP.out]; simp [outL])
              clear d0
              go_wp2
              go_roundw
              case rel => exact ⟨j + 1, by omega, by simp, hide ((fate_step HRJ.out HND.out hxn hxj HFX.out HD1.out EE.out).below (((Below.refl _ _).alloc (Nat.le_refl _) _).alloc (by simp) _)), hide ((frm_set3 HFJ.out _ _ _ _ _ _).alloc _ |>.alloc _)⟩
              case measure => simp [intOf]; omega
            · by_cases h2 : p1 = 2
              · subst h2
                have d0x : wr.cell? ⟨bf, off + j * 2, none⟩ = some (.int .u8 2) := d0
                obtain ⟨_, _, _, e0, hB0, hn0, _⟩ := HD0.out
                cases e0
                obtain ⟨_, _, _, e1, hB1, hn1', _⟩ := HD1.out
                cases e1
                have HI0 := hide hB0
                have HI1 := hide hB1
                clear d0 hB0 hB1
                have HXT := hide (tornK_lt (mask := p2) (full_lt HI0.out.2.2.2.1) (full_lt HI1.out.2.2.2.1) 8)
                have HAL2 := hide (below_2 wr)
                go_wp2_with fail
                refine (rtorn_any p2 hp2 a0 a1 l0 c0 l1 c1 _ _ _ (HI0.out.below (HAL2.out _ _)) hn0 (HI1.out.below (HAL2.out _ _)) hn1').mono ?_
                rintro e w5 ⟨qt, ct, rfl, hqt, hrowt, hbt⟩
                have HB5 : Hid (Below wr.heap.size wr w5) := hide ((HAL2.out _ _).trans (hbt.mono (HAL2.out _ _).size))
                have HDT := hide (hrowt.dat HXT.out)
                obtain ⟨a0', l0', c0', a1', l1', c1', z0', z1', z2', _, _⟩ := (HRJ.out.below HB5.out).sec hxn
                obtain ⟨cur', hcur', _, _⟩ := (HRJ.out.below HB5.out).row
                have y0' := froz_blk hcur' (x * 3)
                have y1' := froz_blk hcur' (x * 3 + 1)
                have y2' := froz_blk hcur' (x * 3 + 2)
                have EE : Hid (tornK p2 (full (fated st.fr l us st.syn j x)) (full lf) 8 = outL (l.getD j (0, 0)).1 (l.getD j (0, 0)).2 (fated st.fr l us st.syn j x) lf) := hide (by rw [HP.out]; simp [outL])
                clear hrowt hbt hqt z0 z1 z2 y0 y1 y2 hcur'
                go_wp2
                go_roundw
                case rel => exact ⟨j + 1, by omega, by simp, hide (fate_step (HRJ.out.below HB5.out) HND.out hxn hxj HFX.out HDT.out EE.out), hide (frm_set3 (HFJ.out.trans (Frm.below HB5.out)) _ _ _ _ _ _)⟩
                case measure => simp [intOf]; omega
              · obtain rfl : p1 = 0 := by omega
                have d0x : wr.cell? ⟨bf, off + j * 2, none⟩ = some (.int .u8 0) := d0
                have EE : Hid (fated st.fr l us st.syn j x = outL (l.getD j (0, 0)).1 (l.getD j (0, 0)).2 (fated st.fr l us st.syn j x) lf) := hide (by rw [HP.out]; simp [outL])
                clear d0
                go_wp2
                go_roundw
                case rel => exact ⟨j + 1, by omega, by simp, hide ((fate_step HRJ.out HND.out hxn hxj HFX.out HD0.out EE.out).below (((Below.refl _ _).alloc (Nat.le_refl _) _).alloc (by simp) _)), hide ((frm_set3 HFJ.out _ _ _ _ _ _).alloc _ |>.alloc _)⟩
                case measure => simp [intOf]; omega
          · have hjk' : decide ((j : Int) < (k : Int)) = false := decide_eq_false (by omega)
            have EE : Hid (fated st.fr l us st.syn j x = outL (l.getD j (0, 0)).1 (l.getD j (0, 0)).2 (fated st.fr l us st.syn j x) lf) := hide (by
              have : l.getD j (0, 0) = (0, 0) := by rw [List.getD_eq_getElem?_getD, List.getElem?_eq_none (by have := HLN.out; omega)]; rfl
              rw [this]; simp [outL])
            go_wp2
            go_roundw
            case rel => exact ⟨j + 1, by omega, by simp, hide ((fate_step HRJ.out HND.out hxn hxj HFX.out HD0.out EE.out).below (((Below.refl _ _).alloc (Nat.le_refl _) _).alloc (by simp) _)), hide ((frm_set3 HFJ.out _ _ _ _ _ _).alloc _ |>.alloc _)⟩
            case measure => simp [intOf]; omega
    · have hlt : k < len := by omega
      obtain ⟨b, off, rfl, hbl, c0, c1⟩ := (HF.out.below HBX.out).2.2.2.2 k hlt
      generalize hx : l.getD k (0, 0) = x at *
      obtain ⟨x1, x2⟩ := x
      have HX := hide hx
      clear hx
      by_cases h3 : x1 < 3
      · have HN : Hid (∀ j, j < k + 1 → (l.getD j (0, 0)).1 < 3) := hide (fun j hj => by
          by_cases e : j = k
          · subst e; rw [HX.out]; exact h3
          · exact HA.out j (by omega))
        have d3 : decide ((3 : Int) ≤ (x1 : Int)) = false := decide_eq_false (by omega)
        have HBN := hide (fun o : Obj => HB.out.trans (((Below.refl wr.heap.size wr).alloc (Nat.le_refl _) o).mono HB.out.size))
        go_wp2
        go_roundw
        case rel => exact ⟨k + 1, by omega, by simp, HN, hide (HBN.out _)⟩
        case measure => simp [intOf]; omega
      · have HN : Hid (¬ GoodF l) := hide (fun hall => by
          have hm : (x1, x2) ∈ l := by
            have hkl : k < l.length := by have := HLN.out; omega
            rw [← HX.out, List.getD_eq_getElem?_getD, List.getElem?_eq_getElem hkl]
            exact List.getElem_mem hkl
          exact h3 (hall _ hm))
        have d3 : decide ((3 : Int) ≤ (x1 : Int)) = true := decide_eq_true (by omega)
        have HAL := hide (fun o : Obj => (Below.refl wr.heap.size wr).alloc (Nat.le_refl _) o)
        have g0 := cell_blk (j := 0) HT.out.bx rfl
        have g1 := cell_blk (j := 1) HT.out.bx rfl
        have g2 := cell_blk (j := 2) HT.out.bx rfl
        have g3 := cell_blk (j := 3) HT.out.bx rfl
        have g4 := cell_blk (j := 4) HT.out.bx rfl
        have r0 := cell_blk (j := 0) HT.out.rs rfl
        have r1 := cell_blk (j := 1) HT.out.rs rfl
        have r2 := cell_blk (j := 2) HT.out.rs rfl
        have r3 := cell_blk (j := 3) HT.out.rs rfl
        have r4 := cell_blk (j := 4) HT.out.rs rfl
        have f0 := froz_blk HT.out.rs 0
        have f1 := froz_blk HT.out.rs 1
        have f2 := froz_blk HT.out.rs 2
        have f3 := froz_blk HT.out.rs 3
        have f4 := froz_blk HT.out.rs 4
        simp only [List.getElem_toArray, List.getElem_cons_zero, List.getElem_cons_succ] at g0 g1 g2 g3 g4 r0 r1 r2 r3 r4
        have hq0 := heap_lt HT.out.bx
        have hq1 := heap_lt HT.out.rs
        clear h3
        go_wp2
        (try simp only [Exit.inBlock, Exit.then])
        refine bodyPost_ret (res5 rfl _ _ (w.heap.size + 1) #[.slice (some ⟨q, 0, none⟩) n cap, .bool true, .bool st.arm, .int .i64 (st.left : Nat), .int .i64 (st.wr : Nat)] (by rw [Below.heap_alloc _ _ _ (by simp; omega), blk_set (blk_set (blk_set (blk_set (blk_set HT.out.rs _) _) _) _) _]; rfl) rfl rfl) rfl ?_
        have hrr := (HR.out.row.below HBX.out).set5 (.slice (some ⟨q, 0, none⟩) n cap) (.bool true) (.bool st.arm) (.int .i64 (st.left : Nat)) (.int .i64 (st.wr : Nat)) HT.out.rs
        have hbb := below_set5 HBX.out (Nat.le_succ _) (.slice (some ⟨q, 0, none⟩) n cap) (.bool true) (.bool st.arm) (.int .i64 (st.left : Nat)) (.int .i64 (st.wr : Nat))
        exact .inl ⟨HN.out, by simp [stv, hd], ⟨HR.out.n0, HR.out.n1, hrr.below ((Below.refl _ _).alloc (Nat.le_refl _) _), HR.out.wr, HR.out.left⟩, hbb.alloc hbb.size _⟩
/-- the document's restore -/
theorem rrest_any (w : World) (q cap n : Nat) (st : St) (h : IsR w q cap n st) (a : Option Addr) (len cp : Nat) (l : List (Nat × Nat)) (hF : IsF w a len cp l) :
    Calls Try.prog 29 #[stv q cap n st, .slice a len cp] w fun e w' => ∃ q' c', e = .returned (.tuple #[stv q' c' n (st.rest n l).1, .int .i64 (st.rest n l).2]) ∧ IsR w' q' c' n (st.rest n l).1 ∧ Below w.heap.size w w' := by
  unfold St.rest
  by_cases hd : st.down = true
  · rw [if_pos hd]
    by_cases hl : 1024 < l.length
    · rw [if_pos hl]
      refine (rrest_many w q cap n st h hd a len cp (by rw [← hF.1]; exact hl)).mono ?_
      rintro e w' ⟨rfl, h1, h2⟩
      exact ⟨q, cap, rfl, h1, h2⟩
    · rw [if_neg hl]
      refine (rrest_down w q cap n st h hd a len cp l hF (by rw [← hF.1]; omega)).mono ?_
      rintro e w' (⟨hg, rfl, h1, h2⟩ | ⟨hg, q', c', rfl, h1, h2⟩)
      · rw [if_neg (fun e => hg (goodB_iff.1 e))]
        exact ⟨q, cap, rfl, h1, h2⟩
      · rw [if_pos (goodB_iff.2 hg)]
        exact ⟨q', c', rfl, h1, h2⟩
  · rw [if_neg hd]
    refine (rrest_up w q cap n st h (bool_not hd) _).mono ?_
    rintro e w' ⟨rfl, h1, h2⟩
    exact ⟨q, cap, rfl, h1, h2⟩
end Go.Proofs.Ytdageggojaghmaa
