/- settle, Void, Capture -/
import Derived.Test.YtffhkljegopjmaaDoorGT
namespace Go.Proofs.YtffhkljegopjmaaDoor.Lg
open Go.RowKit
set_option maxRecDepth 40000
theorem results_cell_tmp2 {fn : Func} {p u v : Tmp} {ty : TypeId} (h : fn.results = #[.cell p ty, .tmp u, .tmp v]) (tmps : Array Value) (P : Program) (w : World) :
    (results fn tmps).run P w = ((asAddr (tmps.getD p undef)).run P w).andThen fun a w₁ => ((loadVar ty a).run P w₁).andThen fun x w₂ => .ok (.tuple #[x, tmps.getD u undef, tmps.getD v undef]) w₂ := by
  simp only [results, h]
  simp [Sem.run_bind, Result.andThen]
theorem res3b {fn : Func} {p u v : Tmp} (h : fn.results = #[.cell p 35, .tmp u, .tmp v]) (tmps : Array Value) (W : World) (B : Nat) (v1 v2 : Value) (hb : BlkB W B v1 v2) (hp : tmps.getD p undef = .pointer (some ⟨B, 0, none⟩)) :
    (results fn tmps).run Tryd.prog W = .ok (.tuple #[.agg #[v1, v2], tmps.getD u undef, tmps.getD v undef]) W := by
  rw [results_cell_tmp2 h, hp]
  have hl := run_loadVar_row (P := Tryd.prog) W B 35 35 _ (0, 0) _ hb Tryd.underlying35 rfl (by kernel_rfl)
  simp [asAddr, Result.andThen, hl]
/-- what a settling answers: refused, or other books and the amount -/
def SetP (r v : Int) (A' : List Py) (G' : List Pg) (w : World) (e : Ending) (w' : World) : Prop :=
  Below w.heap.size w w' ∧ ((r ≠ 0 ∧ e = .returned (.tuple #[vb none 0 0 none 0 0, .int .i64 0, .int .i64 r])) ∨ (r = 0 ∧ ∃ a c b d, e = .returned (.tuple #[vb a (A'.filter keepB).length c b G'.length d, .int .i64 v, .int .i64 0]) ∧ IsP w' a (A'.filter keepB).length c (A'.filter keepB) ∧ IsG w' b G'.length d G' ∧ BksA A' (A'.filter keepB) G' ∧ NewA w.heap.size a ∧ NewA w.heap.size b))
/-- why a settling is refused -/
def setE (A : List Py) (G : List Pg) (n to : Int) : Int := if ordB n = false then 2 else if (pvA A n).op = 0 then 9 else if 16384 ≤ G.length then 3 else if beyB (behR (pvA A n) ⟨n, 2, to, (pvA A n).op⟩) = true then 5 else 0
set_option maxHeartbeats 4000000 in
theorem settle_wrong (a : Option Addr) (len cap : Nat) (P : List Py) (a2 : Option Addr) (len2 cap2 : Nat) (G : List Pg) (n to : Int) (w : World) (h : IsP w a len cap P) (h2 : IsG w a2 len2 cap2 G) (hc : ¬ checkR P G) :
    Calls Tryd.prog 30 #[vb a len cap a2 len2 cap2, .int .i64 n, .int .u8 to] w fun e w' => Below w.heap.size w w' ∧ e = .returned (.tuple #[vb none 0 0 none 0 0, .int .i64 0, .int .i64 9]) := by
  have HP := hide h
  have HG := hide h2
  obtain ⟨k1, k2, k3, k4⟩ := w0b_facts w (.slice a len cap) (.slice a2 len2 cap2)
  have HBG := hide (begin_any a len cap P a2 len2 cap2 G n _ (h.below' k1) (h2.below' k1))
  have HK := hide (And.intro k1 (And.intro k2 (And.intro k3 k4)))
  clear h h2 k1 k2 k3 k4
  go_enter Tryd.func30, Tryd.ntmps30
  refine wp_seq_k (fun K0 hK0 => ?_)
  have HK0 := hide hK0
  clear hK0
  go_wp2
  refine HK0.out _ _ ?_
  clear HK0
  refine wp_seq_k (fun K1 hK1 => ?_)
  have HK1 := hide hK1
  clear hK1
  obtain ⟨b1, b2⟩ := HK.out.2.1.cells
  go_wp2_with fail
  refine HBG.out.mono ?_
  rintro e w1 hbeg
  obtain ⟨hb1, rfl⟩ := beg_wrong hc _ _ _ _ _ _ hbeg
  clear hbeg hc
  have HB1 : Hid (Below w.heap.size w w1) := hide (HK.out.1.trans (hb1.mono HK.out.1.size))
  have HR1 := hide (HK.out.2.2.1.below (heap_lt HK.out.2.2.1) hb1)
  clear hb1 HK HBG b1 b2
  go_wp2
  generalize hW2 : w1.alloc (.cells #[.slice none 0 0, .slice none 0 0, .int .i64 0, .int .i64 0, .int .i64 0, .int .i64 0, .int .i64 0, .int .i64 0] 66) = W2
  have HB2 : Hid (Below w.heap.size w W2) := hide (hW2 ▸ HB1.out.alloc HB1.out.size _)
  have HR2 : Hid (BlkB W2 (w.heap.size + 1) (.slice none 0 0) (.slice none 0 0)) := hide (hW2 ▸ (Below.heap_alloc _ _ _ (heap_lt HR1.out)).trans HR1.out)
  clear hW2 HB1 HR1
  obtain ⟨r1, r2⟩ := HR2.out.cells
  have fr0 := HR2.out.froz
  refine HK1.out _ _ ?_
  clear HK1
  go_wp2
  refine bodyPost_ret (res3b rfl _ ((W2.setCell ⟨w.heap.size + 1, 0, none⟩ (.slice none 0 0)).setCell ⟨w.heap.size + 1, 1, none⟩ (.slice none 0 0)) (w.heap.size + 1) (.slice none 0 0) (.slice none 0 0) (put2b_blk HR2.out _ _) rfl) rfl ?_
  exact ⟨put2b_below HB2.out (by omega) _ _, rfl⟩
set_option maxHeartbeats 4000000 in
theorem settle_any (a : Option Addr) (len cap : Nat) (A P : List Py) (a2 : Option Addr) (len2 cap2 : Nat) (G : List Pg) (n to : Int) (w : World) (h : IsP w a len cap P) (h2 : IsG w a2 len2 cap2 G) (hA : BksA A P G) (hto : to = 1 ∨ to = 3) :
    Calls Tryd.prog 30 #[vb a len cap a2 len2 cap2, .int .i64 n, .int .u8 to] w (SetP (setE A G n to) (pvA A n).op (A.set n.toNat (behR (pvA A n) ⟨n, 2, to, (pvA A n).op⟩)) (G ++ [⟨n, 2, to, (pvA A n).op⟩]) w) := by
  have HAA := hide hA
  have HE : Hid (setE A G n to = if ordB n = false then 2 else if (pvA A n).op = 0 then 9 else if 16384 ≤ G.length then 3 else if beyB (behR (pvA A n) ⟨n, 2, to, (pvA A n).op⟩) = true then 5 else 0) := hide rfl
  have HPV := hide (fun (ho : ordB n = true) => And.intro (pv_in hA.2.2.1 ho) (hA.pvOwes ho))
  have HAM : Hid (ordB n = true → (pvA A n).op ≠ 0 → amtB (pvA A n).op = true) := hide (fun ho hne => by
    obtain ⟨⟨h1, _⟩, h3⟩ := HPV.out ho
    unfold inB at h1
    unfold owesB at h3
    unfold amtB
    simp at h3 ⊢
    omega)
  have hpost : ordB n = true → (pvA A n).op ≠ 0 → postB ⟨n, 2, to, (pvA A n).op⟩ = true := fun ho hne => by
    rcases hto with rfl | rfl <;> simp [postB, ho, HAM.out ho hne, accB]
  have HPO := hide (fun (ho : ordB n = true) (hne : (pvA A n).op ≠ 0) W (hW : IsP W a len cap P) (hW2 : IsG W a2 len2 cap2 G) => post_any a len cap P a2 len2 cap2 G (pvA A n) (lowP P n) (hiP P n) 2 to (pvA A n).op W hW hW2 (bks_low hA ho).2.1 (by rw [← hW.1]; exact (bks_low hA ho).2.2.1) (by rw [← hW.1]; exact (pays_rise hA.check).2.1) (pv_in hA.2.2.1 ho).1 (by rw [(pv_in hA.2.2.1 ho).2]; exact hpost ho hne))
  have HPB := hide (fun (ho : ordB n = true) (hne : (pvA A n).op ≠ 0) => BksA.post hA (g := ⟨n, 2, to, (pvA A n).op⟩) (hpost ho hne))
  have HPW := hide (fun (ho : ordB n = true) => (bks_low hA ho).2.2.2)
  have HOW : Hid (ordB n = true → (pvA A n).op ≠ 0 → owesB (behR (pvA A n) ⟨n, 2, to, (pvA A n).op⟩) = false) := hide (fun ho hne => by
    obtain ⟨⟨h1, _⟩, h3⟩ := HPV.out ho
    unfold inB at h1
    unfold owesB at h3 ⊢
    unfold behR
    rcases hto with rfl | rfl <;> simp at h3 ⊢ <;> omega)
  have HLG := hide h2.1
  generalize setE A G n to = E0 at *
  generalize hAS : A.set n.toNat (behR (pvA A n) ⟨n, 2, to, (pvA A n).op⟩) = AS
  have HAS := hide hAS
  clear hAS hto hpost HAM
  have HP := hide h
  have HG := hide h2
  obtain ⟨k1, k2, k3, k4⟩ := w0b_facts w (.slice a len cap) (.slice a2 len2 cap2)
  have HBG := hide (begin_any a len cap P a2 len2 cap2 G n _ (h.below' k1) (h2.below' k1))
  have HK := hide (And.intro k1 (And.intro k2 (And.intro k3 k4)))
  clear h h2 k1 k2 k3 k4
  go_enter Tryd.func30, Tryd.ntmps30
  refine wp_seq_k (fun K0 hK0 => ?_)
  have HK0 := hide hK0
  clear hK0
  go_wp2
  refine HK0.out _ _ ?_
  clear HK0
  refine wp_seq_k (fun K1 hK1 => ?_)
  have HK1 := hide hK1
  clear hK1
  obtain ⟨b1, b2⟩ := HK.out.2.1.cells
  go_wp2_with fail
  refine HBG.out.mono ?_
  rintro e w1 hbeg
  obtain ⟨hb1, ⟨rfl, ho⟩ | ⟨rfl, ho⟩⟩ := beg_right hA _ _ _ _ _ _ hbeg
  · have HX : Hid (E0 = 2) := hide (by rw [HE.out, if_pos ho])
    clear hbeg hA ho HE HPO HPV HPB HPW HOW
    generalize (pvA A n).op = V0 at *
    have HB1 : Hid (Below w.heap.size w w1) := hide (HK.out.1.trans (hb1.mono HK.out.1.size))
    have HR1 := hide (HK.out.2.2.1.below (heap_lt HK.out.2.2.1) hb1)
    clear hb1 HK HBG b1 b2
    go_wp2
    generalize hW2 : w1.alloc (.cells #[.slice none 0 0, .slice none 0 0, .int .i64 0, .int .i64 0, .int .i64 0, .int .i64 0, .int .i64 0, .int .i64 0] 66) = W2
    have HB2 : Hid (Below w.heap.size w W2) := hide (hW2 ▸ HB1.out.alloc HB1.out.size _)
    have HR2 : Hid (BlkB W2 (w.heap.size + 1) (.slice none 0 0) (.slice none 0 0)) := hide (hW2 ▸ (Below.heap_alloc _ _ _ (heap_lt HR1.out)).trans HR1.out)
    clear hW2 HB1 HR1
    obtain ⟨r1, r2⟩ := HR2.out.cells
    have fr0 := HR2.out.froz
    refine HK1.out _ _ ?_
    clear HK1
    go_wp2
    refine bodyPost_ret (res3b rfl _ ((W2.setCell ⟨w.heap.size + 1, 0, none⟩ (.slice none 0 0)).setCell ⟨w.heap.size + 1, 1, none⟩ (.slice none 0 0)) (w.heap.size + 1) (.slice none 0 0) (.slice none 0 0) (put2b_blk HR2.out _ _) rfl) rfl ?_
    exact ⟨put2b_below HB2.out (by omega) _ _, .inl ⟨by rw [HX.out]; decide, by rw [HX.out]; rfl⟩⟩
  · clear hbeg hA
    have HO := hide ho
    have HPV := hide (HPV.out ho)
    rw [if_neg (by rw [ho]; decide)] at HE
    clear ho
    have HB1 : Hid (Below w.heap.size w w1) := hide (HK.out.1.trans (hb1.mono HK.out.1.size))
    have HR1 := hide (HK.out.2.2.1.below (heap_lt HK.out.2.2.1) hb1)
    clear hb1 HK HBG b1 b2
    have HPO := hide (HPO.out HO.out)
    have HPB := hide (HPB.out HO.out)
    have HPW := hide (HPW.out HO.out)
    have HOW := hide (HOW.out HO.out)
    rcases hq : pvA A n with ⟨q1, q2, q3, q4⟩
    rw [hq] at HPO HE HPV HPB HAS HOW HK1
    dsimp only at HPO HE HPV HPB HAS HOW HK1 ⊢
    clear hq
    obtain rfl : n = q1 := HPV.out.1.2.symm
    generalize lowP P n = lo at *
    generalize hiP P n = hi at *
    go_wp2
    generalize hW2 : w1.alloc (.cells #[.slice a len cap, .slice a2 len2 cap2, .int .i64 n, .int .i64 q2, .int .i64 q3, .int .i64 q4, .int .i64 (lo : Int), .int .i64 (hi : Int)] 66) = W2
    have HB2 : Hid (Below w.heap.size w W2) := hide (hW2 ▸ HB1.out.alloc HB1.out.size _)
    have HR2 : Hid (BlkB W2 (w.heap.size + 1) (.slice none 0 0) (.slice none 0 0)) := hide (hW2 ▸ (Below.heap_alloc _ _ _ (heap_lt HR1.out)).trans HR1.out)
    have HC2 : Hid (BlkC W2 w1.heap.size ⟨.slice a len cap, .slice a2 len2 cap2, ⟨n, q2, q3, q4⟩, (lo : Int), (hi : Int)⟩) := hide (hW2 ▸ heap_alloc_new _ _)
    have hgC : w.heap.size + 1 < w1.heap.size := heap_lt HR1.out
    generalize w1.heap.size = gC at *
    clear hW2 HB1 HR1
    obtain ⟨r1, r2⟩ := HR2.out.cells
    have fr0 := HR2.out.froz
    obtain ⟨c1, c2, c3, c4, c5, c6, c7, c8⟩ := HC2.out.cells
    dsimp only at c1 c2 c3 c4 c5 c6 c7 c8
    refine HK1.out _ _ ?_
    clear HK1
    by_cases ht : q2 = 0
    · have HX : Hid (E0 = 9) := hide (by rw [HE.out, if_pos ht])
      clear HE HPO HPV HPB HPW HOW
      subst ht
      go_wp2
      refine bodyPost_ret (res3b rfl _ ((W2.setCell ⟨w.heap.size + 1, 0, none⟩ (.slice none 0 0)).setCell ⟨w.heap.size + 1, 1, none⟩ (.slice none 0 0)) (w.heap.size + 1) (.slice none 0 0) (.slice none 0 0) (put2b_blk HR2.out _ _) rfl) rfl ?_
      exact ⟨put2b_below HB2.out (by omega) _ _, .inl ⟨by rw [HX.out]; decide, by rw [HX.out]; rfl⟩⟩
    · rw [if_neg ht] at HE
      have HPO := hide (HPO.out ht)
      have HPB := hide (HPB.out ht)
      have HOW := hide (HOW.out ht)
      go_wp2_with fail
      refine (HPO.out W2 (HP.out.below' HB2.out) (HG.out.below' HB2.out)).mono ?_
      rintro e w4 ⟨hb4, hcase⟩
      have HB4 : Hid (Below w.heap.size w w4) := hide (HB2.out.trans (hb4.mono HB2.out.size))
      have HR4 := hide (HR2.out.below (heap_lt HR2.out) hb4)
      have HC4 := hide (HC2.out.below (heap_lt HC2.out) hb4)
      have hrl := heap_lt HR2.out
      have hsz := HB2.out.size
      clear hb4 r1 r2 fr0 c1 c2 c3 c4 c5 c6 c7 c8 HC2
      rename_i KA hA1 KB hB1
      have HA1 := hide hA1
      clear hA1
      rcases hcase with ⟨rfl, hx⟩ | ⟨rfl, hx, hy⟩ | ⟨a', c', b', d', rfl, hx, hy, hi1, hi2, hi3, hi4⟩
      · have HX : Hid (E0 = 3) := hide (by rw [HE.out, if_pos (by rw [HLG.out]; exact hx)])
        clear hx
        clear HE HPO HPV HPB HPW HOW
        go_wp2
        generalize hW5 : w4.alloc (.cells #[.slice none 0 0, .slice none 0 0] 35) = W5
        have HB5 : Hid (Below w.heap.size w W5) := hide (hW5 ▸ HB4.out.alloc HB4.out.size _)
        have HR5 : Hid (BlkB W5 (w.heap.size + 1) (.slice none 0 0) (.slice none 0 0)) := hide (hW5 ▸ (Below.heap_alloc _ _ _ (heap_lt HR4.out)).trans HR4.out)
        clear hW5 HB4 HR4
        obtain ⟨r1, r2⟩ := HR5.out.cells
        have fr0 := HR5.out.froz
        refine HA1.out _ _ ?_
        clear HA1
        go_wp2
        refine bodyPost_ret (res3b rfl _ ((W5.setCell ⟨w.heap.size + 1, 0, none⟩ (.slice none 0 0)).setCell ⟨w.heap.size + 1, 1, none⟩ (.slice none 0 0)) (w.heap.size + 1) (.slice none 0 0) (.slice none 0 0) (put2b_blk HR5.out _ _) rfl) rfl ?_
        exact ⟨put2b_below HB5.out (by omega) _ _, .inl ⟨by rw [HX.out]; decide, by rw [HX.out]; rfl⟩⟩
      · have HX : Hid (E0 = 5) := hide (by rw [HE.out, if_neg (by rw [HLG.out]; omega), if_pos hy])
        clear hx hy
        clear HE HPO HPV HPB HPW HOW
        go_wp2
        generalize hW5 : w4.alloc (.cells #[.slice none 0 0, .slice none 0 0] 35) = W5
        have HB5 : Hid (Below w.heap.size w W5) := hide (hW5 ▸ HB4.out.alloc HB4.out.size _)
        have HR5 : Hid (BlkB W5 (w.heap.size + 1) (.slice none 0 0) (.slice none 0 0)) := hide (hW5 ▸ (Below.heap_alloc _ _ _ (heap_lt HR4.out)).trans HR4.out)
        clear hW5 HB4 HR4
        obtain ⟨r1, r2⟩ := HR5.out.cells
        have fr0 := HR5.out.froz
        refine HA1.out _ _ ?_
        clear HA1
        go_wp2
        refine bodyPost_ret (res3b rfl _ ((W5.setCell ⟨w.heap.size + 1, 0, none⟩ (.slice none 0 0)).setCell ⟨w.heap.size + 1, 1, none⟩ (.slice none 0 0)) (w.heap.size + 1) (.slice none 0 0) (.slice none 0 0) (put2b_blk HR5.out _ _) rfl) rfl ?_
        exact ⟨put2b_below HB5.out (by omega) _ _, .inl ⟨by rw [HX.out]; decide, by rw [HX.out]; rfl⟩⟩
      · have HX : Hid (E0 = 0) := hide (by rw [HE.out, if_neg (by rw [HLG.out]; omega), if_neg (by rw [hy]; decide)])
        have HBK := hide (HPB.out (by rw [HLG.out]; exact hx) hy HOW.out)
        rw [HPW.out] at hi1
        have HEQ := hide (HPW.out (behR ⟨n, q2, q3, q4⟩ ⟨n, 2, to, q2⟩))
        have HI1 := hide hi1
        have HI2 := hide hi2
        have HN1 := hide hi3
        have HN2 := hide hi4
        clear hx hy hi1 hi2 hi3 hi4 HE HPO HPV HPB HPW HOW
        try dsimp only at HBK
        generalize behR ⟨n, q2, q3, q4⟩ ⟨n, 2, to, q2⟩ = y at *
        generalize pwL P lo hi y = PW at *
        generalize G ++ [⟨n, 2, to, q2⟩] = GW at *
        generalize A.set n.toNat y = A1 at *
        have hpl := HEQ.out
        subst hpl
        have hz := HAS.out
        subst hz
        go_wp2
        generalize hW5 : w4.alloc (.cells #[.slice a' (A1.filter keepB).length c', .slice b' GW.length d'] 35) = W5
        have HB5 : Hid (Below w.heap.size w W5) := hide (hW5 ▸ HB4.out.alloc HB4.out.size _)
        have HR5 : Hid (BlkB W5 (w.heap.size + 1) (.slice none 0 0) (.slice none 0 0)) := hide (hW5 ▸ (Below.heap_alloc _ _ _ (heap_lt HR4.out)).trans HR4.out)
        have HC5 : Hid (BlkC W5 gC ⟨.slice a len cap, .slice a2 len2 cap2, ⟨n, q2, q3, q4⟩, (lo : Int), (hi : Int)⟩) := hide (hW5 ▸ (Below.heap_alloc _ _ _ (heap_lt HC4.out)).trans HC4.out)
        have HX5 : Hid (BlkB W5 w4.heap.size (.slice a' (A1.filter keepB).length c') (.slice b' GW.length d')) := hide (hW5 ▸ heap_alloc_new _ _)
        have HBL : Hid (Below w4.heap.size w4 W5) := hide (hW5 ▸ (Below.refl _ _).alloc (Nat.le_refl _) _)
        have HI3 := hide (HI1.out.below' HBL.out)
        have HI4 := hide (HI2.out.below' HBL.out)
        have hgB : gC < w4.heap.size := heap_lt HC4.out
        generalize w4.heap.size = gB at *
        clear hW5 HB4 HR4 HC4 HI1 HI2 HBL
        refine HA1.out _ _ ?_
        clear HA1
        have HKS : Hid (∀ W, BlkB W gB (.slice a' (A1.filter keepB).length c') (.slice b' GW.length d') → BlkC W gC ⟨.slice a len cap, .slice a2 len2 cap2, ⟨n, q2, q3, q4⟩, (lo : Int), (hi : Int)⟩ → (W.cell? ⟨gB, 0, none⟩ = some (.slice a' (A1.filter keepB).length c') ∧ W.cell? ⟨gB, 1, none⟩ = some (.slice b' GW.length d') ∧ W.cell? ⟨gC, 3, none⟩ = some (.int .i64 q2))) := hide (fun W h1 h2 => ⟨h1.cells.1, h1.cells.2, h2.cells.2.2.2.1⟩)
        have HKA := hide (HKS.out W5.drew HX5.out HC5.out)
        have HKB := hide (HKS.out (((W5.setCell ⟨w.heap.size + 1, 0, none⟩ (.slice a' (A1.filter keepB).length c')).setCell ⟨w.heap.size + 1, 1, none⟩ (.slice b' GW.length d')).drew) (((Below.heap_setCell _ _ _ _ (show gB ≠ w.heap.size + 1 by omega)).trans ((Below.heap_setCell _ _ _ _ (show gB ≠ w.heap.size + 1 by omega)).trans HX5.out))) ((HC5.out.other (g' := w.heap.size + 1) (j := 0) (by omega) _).other (g' := w.heap.size + 1) (j := 1) (by omega) _))
        have HR6 : Hid (BlkB W5.drew (w.heap.size + 1) (.slice none 0 0) (.slice none 0 0)) := HR5
        obtain ⟨r1, r2⟩ := HR5.out.cells
        have fr0 := HR5.out.froz
        obtain ⟨s1, s2⟩ := HR6.out.cells
        have fs0 := HR6.out.froz
        go_wp2_with fail
        go_region_held (fun W : World => (W.cell? ⟨gB, 0, none⟩ = some (.slice a' (A1.filter keepB).length c') ∧ W.cell? ⟨gB, 1, none⟩ = some (.slice b' GW.length d') ∧ W.cell? ⟨gC, 3, none⟩ = some (.int .i64 q2))) (first | with_reducible exact HKA.out | with_reducible exact HKB.out) (fail)
        go_wp2
        refine bodyPost_ret (res3b rfl _ (((W5.setCell ⟨w.heap.size + 1, 0, none⟩ (.slice a' (A1.filter keepB).length c')).setCell ⟨w.heap.size + 1, 1, none⟩ (.slice b' GW.length d')).drew) (w.heap.size + 1) (.slice a' (A1.filter keepB).length c') (.slice b' GW.length d') (show BlkB (((W5.setCell ⟨w.heap.size + 1, 0, none⟩ (.slice a' (A1.filter keepB).length c')).setCell ⟨w.heap.size + 1, 1, none⟩ (.slice b' GW.length d')).drew) _ _ _ from put2b_blk HR5.out _ _) rfl) rfl ?_
        exact ⟨(put2b_below HB5.out (by omega) _ _).drew, .inr ⟨HX.out, a', c', b', d', rfl, (HI3.out.off HN1.out hrl _).off HN1.out hrl _, (HI4.out.off HN2.out hrl _).off HN2.out hrl _, HBK.out, HN1.out.mono hsz, HN2.out.mono hsz⟩⟩
end Go.Proofs.YtffhkljegopjmaaDoor.Lg
