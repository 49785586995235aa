/- the walk of DiskDoes -/
import Derived.Test.YtdageggojaghmaaRex
import Derived.Test.YtdageggojaghmaaTx
import Derived.Test.YtdageggojaghmaaCy
namespace Go.Proofs.Ytdageggojaghmaa.diskDoes
open Go.RowKit
/-- the document's state in a block of its own -/
def Bx (w : World) (r q c n : Nat) (st : St) : Prop := w.heap[r]? = some (.cells #[.slice (some ⟨q, 0, none⟩) n c, .bool st.down, .bool st.arm, .int .i64 (st.left : Nat), .int .i64 (st.wr : Nat)] 27 (0, 0))
theorem rnew_no2 (w : World) (n : Int) (h : ¬ (1 ≤ n ∧ n ≤ 1024)) :
    Calls Try.prog 11 #[.int .i64 n] w fun e w' => e = .returned (.tuple #[.agg #[.slice none 0 0, .bool false, .bool false, .int .i64 0, .int .i64 0], .bool false]) ∧ Below w.heap.size w w' := by
  go_enter Try.func11, Try.ntmps11
  by_cases h1 : n < 1
  · have d1 : decide (n < 1) = true := decide_eq_true h1
    clear h h1
    go_wp2
    go_returns
    exact ⟨rfl, (Below.refl _ _).alloc (Nat.le_refl _) _⟩
  · have d1 : decide (n < 1) = false := decide_eq_false h1
    have d2 : decide ((1024 : Int) < n) = true := decide_eq_true (by omega)
    clear h h1
    go_wp2
    go_returns
    exact ⟨rfl, (Below.refl _ _).alloc (Nat.le_refl _) _⟩
theorem not_sd {X : Nat → Prop} {w : World} {g gs b n : Nat} {st : St} (h : IsD X w g gs b n st) {r : Nat} {cs : Array Value} {t : TypeId} {m : Nat × Nat} (hr : w.heap[r]? = some (.cells cs t m)) (h1 : t ≠ 62) (h2 : t ≠ 32) : ¬ SD g gs b r := by
  obtain ⟨c2, hc2, _⟩ := h.syn
  obtain ⟨es, clock, hm⟩ := h.map_blk
  rintro (rfl | rfl | rfl)
  · rw [h.blk] at hr; cases hr; exact h1 rfl
  · rw [hc2] at hr; cases hr; exact h2 rfl
  · rw [hm] at hr; cases hr
theorem frm_set5 {r : Nat} {a w : World} (h : Frm (fun i => i = r) a w) (v0 v1 v2 v3 v4 : Value) : Frm (fun i => i = r) a (((((w.setCell ⟨r, 0, none⟩ v0).setCell ⟨r, 1, none⟩ v1).setCell ⟨r, 2, none⟩ v2).setCell ⟨r, 3, none⟩ v3).setCell ⟨r, 4, none⟩ v4) :=
  ((((h.set rfl v0).set rfl v1).set rfl v2).set rfl v3).set rfl v4
theorem k5_set5 {r : Nat} {w : World} {cs : Array Value} {m : Nat × Nat} (h : w.heap[r]? = some (.cells cs 27 m)) (v0 v1 v2 v3 v4 : Value) : K5 w (((((w.setCell ⟨r, 0, none⟩ v0).setCell ⟨r, 1, none⟩ v1).setCell ⟨r, 2, none⟩ v2).setCell ⟨r, 3, none⟩ v3).setCell ⟨r, 4, none⟩ v4) :=
  K5.of_frm (frm_set5 (Frm.refl _ _) v0 v1 v2 v3 v4) (fun i cur m hi e => by subst hi; rw [h] at e; cases e)
theorem isD_set5 {X : Nat → Prop} {w : World} {g gs b n : Nat} {st : St} (h : IsD X w g gs b n st) {r : Nat} {cs : Array Value} {m : Nat × Nat} (hr : w.heap[r]? = some (.cells cs 27 m)) (v0 v1 v2 v3 v4 : Value) : IsD X (((((w.setCell ⟨r, 0, none⟩ v0).setCell ⟨r, 1, none⟩ v1).setCell ⟨r, 2, none⟩ v2).setCell ⟨r, 3, none⟩ v3).setCell ⟨r, 4, none⟩ v4) g gs b n st :=
  h.kept (frm_set5 (Frm.refl _ _) v0 v1 v2 v3 v4) (fun i hi e => by subst hi; exact not_sd h hr (by decide) (by decide) e) (k5_set5 hr v0 v1 v2 v3 v4)
theorem getD_lt (m : List Nat) (t : Nat) (h : ∀ x ∈ m, x < 256) : m.getD t 0 < 256 := by
  rw [List.getD_eq_getElem?_getD]
  cases e : m[t]? with
  | none => decide
  | some v => exact h v (List.mem_of_getElem? e)
theorem mem_set {m : List Nat} {t y : Nat} (h : ∀ x ∈ m, x < 256) (hy : y < 256) : ∀ x ∈ m.set t y, x < 256 := by
  intro x hx
  rcases List.mem_or_eq_of_mem_set hx with h1 | h1
  · exact h x h1
  · omega
theorem row_frozen {w : World} {g len cap : Nat} {m : List Nat} (h : Row w g len cap m) (j : Nat) : w.frozen? ⟨g, j, none⟩ = false := by
  obtain ⟨_, _, _, cur, hg, _⟩ := h
  exact froz_blk hg j
/-- append([]byte(nil made anew), b...) -/
theorem wpList_given {w : World} {ops : Array Oper} {rest : List Oper} {o : Oper} {a : Act} {Q : Exit → Act → World → Prop} (hgd : o.guard = none) (s x : Operand)
    (ho : o.op = .call { callee := .builtin .append, args := #[s, x], argTypes := #[32, 32] }) (ad : Addr) (hs : a.eval s = .slice (some ad) 0 0) (src : Option Addr) (len cap : Nat) (l : List Nat) (hx : a.eval x = .slice src len cap)
    (W0 : World) (hw : w = W0.alloc (.cells #[] 5)) (had : ad = ⟨W0.heap.size, 0, none⟩) (hB : IsB w src len cap l) (hb : len ≤ 140737488355328)
    (h : ∀ v' w', w'.ownsRow W0.heap.size 5 1 v' len (bv l) → Below W0.heap.size W0 w' → wpList Try.prog ops Q rest (a.put o.dst v') w') : wpList Try.prog ops Q (o :: rest) a w := by
  subst hw had
  refine wpList_clone hgd s x ho W0.heap.size _ 0 [] hs (owns_empty W0 W0.heap.size (Nat.le_refl _)) src len cap l hx hB (by omega) (by simp) W0.heap.size W0 ((Below.refl _ _).alloc (Nat.le_refl _) _) (Nat.le_refl _) ?_
  intro v' w' h1 h2
  refine h v' w' ?_ h2
  simpa using h1
theorem pack0 {B r8 r11 g gs b N q c q' c' : Nat} {st s' sd : St} {w w3 : World} {cs : Array Value} (hI : IsD NoX w3 g gs b N sd) (hR : IsR w3 q' c' N s') (hX : Bx w3 r8 q c N st) (hT : w3.heap[r11]? = some (.cells cs 35 (0, 0))) (hB : Below B w w3) (h8 : B ≤ r8) (hne : r8 ≠ r11) (hz : B ≤ w3.heap.size) :
    IsD NoX ((((((w3.setCell ⟨r8, 0, none⟩ (.slice (some ⟨q', 0, none⟩) N c')).setCell ⟨r8, 1, none⟩ (.bool s'.down)).setCell ⟨r8, 2, none⟩ (.bool s'.arm)).setCell ⟨r8, 3, none⟩ (.int .i64 (s'.left : Nat))).setCell ⟨r8, 4, none⟩ (.int .i64 (s'.wr : Nat))).alloc (.cells #[.slice (some ⟨q', 0, none⟩) N c', .bool s'.down, .bool s'.arm, .int .i64 (s'.left : Nat), .int .i64 (s'.wr : Nat)] 27)) g gs b N sd ∧ IsR ((((((w3.setCell ⟨r8, 0, none⟩ (.slice (some ⟨q', 0, none⟩) N c')).setCell ⟨r8, 1, none⟩ (.bool s'.down)).setCell ⟨r8, 2, none⟩ (.bool s'.arm)).setCell ⟨r8, 3, none⟩ (.int .i64 (s'.left : Nat))).setCell ⟨r8, 4, none⟩ (.int .i64 (s'.wr : Nat))).alloc (.cells #[.slice (some ⟨q', 0, none⟩) N c', .bool s'.down, .bool s'.arm, .int .i64 (s'.left : Nat), .int .i64 (s'.wr : Nat)] 27)) q' c' N s' ∧ Bx ((((((w3.setCell ⟨r8, 0, none⟩ (.slice (some ⟨q', 0, none⟩) N c')).setCell ⟨r8, 1, none⟩ (.bool s'.down)).setCell ⟨r8, 2, none⟩ (.bool s'.arm)).setCell ⟨r8, 3, none⟩ (.int .i64 (s'.left : Nat))).setCell ⟨r8, 4, none⟩ (.int .i64 (s'.wr : Nat))).alloc (.cells #[.slice (some ⟨q', 0, none⟩) N c', .bool s'.down, .bool s'.arm, .int .i64 (s'.left : Nat), .int .i64 (s'.wr : Nat)] 27)) r8 q' c' N s' ∧ ((((((w3.setCell ⟨r8, 0, none⟩ (.slice (some ⟨q', 0, none⟩) N c')).setCell ⟨r8, 1, none⟩ (.bool s'.down)).setCell ⟨r8, 2, none⟩ (.bool s'.arm)).setCell ⟨r8, 3, none⟩ (.int .i64 (s'.left : Nat))).setCell ⟨r8, 4, none⟩ (.int .i64 (s'.wr : Nat))).alloc (.cells #[.slice (some ⟨q', 0, none⟩) N c', .bool s'.down, .bool s'.arm, .int .i64 (s'.left : Nat), .int .i64 (s'.wr : Nat)] 27)).heap[r11]? = some (.cells cs 35 (0, 0)) ∧ Below B w ((((((w3.setCell ⟨r8, 0, none⟩ (.slice (some ⟨q', 0, none⟩) N c')).setCell ⟨r8, 1, none⟩ (.bool s'.down)).setCell ⟨r8, 2, none⟩ (.bool s'.arm)).setCell ⟨r8, 3, none⟩ (.int .i64 (s'.left : Nat))).setCell ⟨r8, 4, none⟩ (.int .i64 (s'.wr : Nat))).alloc (.cells #[.slice (some ⟨q', 0, none⟩) N c', .bool s'.down, .bool s'.arm, .int .i64 (s'.left : Nat), .int .i64 (s'.wr : Nat)] 27)) := by
  have hb := below_set5 hB h8 (.slice (some ⟨q', 0, none⟩) N c') (.bool s'.down) (.bool s'.arm) (.int .i64 (s'.left : Nat)) (.int .i64 (s'.wr : Nat))
  have h11 := heap_lt hT
  have hx8 := heap_lt hX
  refine ⟨(isD_set5 hI hX _ _ _ _ _).below ((Below.refl _ _).alloc (Nat.le_refl _) _), ⟨hR.n0, hR.n1, (hR.row.set5 _ _ _ _ _ hX).below ((Below.refl _ _).alloc (Nat.le_refl _) _), hR.wr, hR.left⟩, ?_, ?_, hb.alloc (by simp [World.setCell]; exact hz) _⟩
  · unfold Bx
    rw [Below.heap_alloc _ _ _ (by simp [World.setCell]; exact hx8), blk_set (blk_set (blk_set (blk_set (blk_set hX _) _) _) _) _]
    rfl
  · rw [Below.heap_alloc _ _ _ (by simp [World.setCell]; exact h11), blk_at hne, blk_at hne, blk_at hne, blk_at hne, blk_at hne]
    exact hT
/-- a row of bytes that is one's own -/
theorem own_open {w : World} {base : Nat} {v : Value} {n : Nat} {l : List Nat} (h : w.ownsRow base 5 1 v n (bv l)) (hl : ∀ x ∈ l, x < 256) :
    ∃ a cap, v = .slice a n cap ∧ IsB w a n cap l ∧ ((a = none ∧ n = 0) ∨ ∃ G, a = some ⟨G, 0, none⟩ ∧ base ≤ G ∧ Row w G n cap l) := by
  obtain ⟨h1, h2⟩ := id h
  rw [bv_length, Nat.mul_one] at h1
  rcases h2 with ⟨rfl, rfl⟩ | ⟨G, cap, cur, rfl, hb, hg, hn', hc, hs, ht⟩
  · obtain rfl : l = [] := List.eq_nil_of_length_eq_zero h1
    exact ⟨none, 0, rfl, isB_nil w, .inl ⟨rfl, rfl⟩⟩
  · have hr : Row w G n cap l := ⟨h1, hn', hc, cur, hg, by omega, by simpa using ht⟩
    exact ⟨_, cap, rfl, hr.isB hl, .inr ⟨G, rfl, hb, hr⟩⟩
set_option maxRecDepth 40000 in
set_option maxHeartbeats 4000000 in
/-- DiskDoes, where there is no such disk -/
theorem walk_none (n k : Int) (v : Value) (w : World) (hn : ¬ (1 ≤ n ∧ n ≤ 1024)) :
    Calls Try.prog 3 #[.int .i64 n, v, .int .i64 k] w fun e w' => e = .returned (.bool true) ∧ Below w.heap.size w w' := by
  have NN : Hid (Calls Try.prog 10 #[.int .i64 n] w fun e w' => e = .returned (.pointer none) ∧ w' = w) := hide (new_no w n hn)
  have NR := hide (rnew_no2 w n hn)
  clear hn
  go_enter Try.func3, Try.ntmps3
  go_wp2_with fail
  refine NN.out.mono ?_
  rintro e w1 ⟨rfl, rfl⟩
  go_wp2_with fail
  refine NR.out.mono ?_
  rintro e w2 ⟨rfl, hb2⟩
  have HB2 := hide hb2
  clear hb2
  go_wp2_with fail
  refine (lives_true _).mono ?_
  rintro e w3 ⟨rfl, hb3⟩
  have HB3 : Hid (Below w1.heap.size w1 w3) := hide ((HB2.out.alloc HB2.out.size _).trans (hb3.mono (by have := HB2.out.size; simp; omega)))
  clear hb3
  go_wp2
  go_ret
  exact ⟨rfl, HB3.out⟩
set_option maxRecDepth 40000 in
set_option maxHeartbeats 8000000 in
theorem walk_some (N : Nat) (k : Int) (sa : Option Addr) (sl sc : Nat) (ls : List Stp) (w : World) (hN0 : 0 < N) (hN : N ≤ 1024) (hS : IsSS w sa sl sc ls) (hSW : ∀ i, i < sl → (ls.getD i Stp0).dat.length ≤ reachBytes) :
    Calls Try.prog 3 #[.int .i64 (N : Int), .slice sa sl sc, .int .i64 k] w fun e w' => e = .returned (.bool true) ∧ Below w.heap.size w w' := by
  have NW : Hid (Calls Try.prog 10 #[.int .i64 (N : Int)] w fun e w' => ∃ g gs b, e = .returned (.pointer (some ⟨g, 0, none⟩)) ∧ IsD NoX w' g gs b N st0 ∧ Below w.heap.size w w' ∧ ∀ i, SD g gs b i → w.heap.size ≤ i) := hide (new_ok w N hN0 hN (fun _ h => h.elim))
  have NR := hide (fun W => rnew_ok W N hN0 hN)
  have HS := hide hS
  have hsc := hS.2.1
  have hsl : sl ≤ 140737488355328 := by have := hS.2.2.2.1; simp only [reachBytes] at this; omega
  have HSZ := hide hsl
  have HSW : Hid (∀ i, i < sl → (ls.getD i Stp0).dat.length ≤ 140737488351232) := hide (fun i hi => by have := hSW i hi; simpa [reachBytes] using this)
  clear hS hSW
  go_enter Try.func3, Try.ntmps3
  go_wp2_with fail
  refine NW.out.mono ?_
  rintro e w1 ⟨g, gs, b, rfl, hI1, hb1, hfr⟩
  have HFR := hide hfr
  have HI1 := hide hI1
  have HB1 := hide hb1
  clear hI1 hb1 hfr
  go_wp2_with fail
  refine (NR.out w1).mono ?_
  rintro e w2 ⟨q0, rfl, hR2, hq2, hb2⟩
  have HB2 := hide (HB1.out.trans (hb2.mono HB1.out.size))
  have HI2 := hide (HI1.out.below hb2)
  have HR2 := hide hR2
  clear hR2 hq2 hb2 HI1 HB1
  go_wp2_with fail
  generalize hW3 : w2.alloc (.cells #[.slice (some ⟨q0, 0, none⟩) N N, .bool st0.down, .bool st0.arm, .int .i64 (st0.left : Nat), .int .i64 (st0.wr : Nat)] 27) = W3
  have HB3 : Hid (Below w2.heap.size w2 W3) := hide (by rw [← hW3]; exact (Below.refl _ _).alloc (Nat.le_refl _) _)
  have HX3 : Hid (Bx W3 w2.heap.size q0 N N st0) := hide (by rw [← hW3]; exact heap_alloc_new w2 _)
  have HR8 : Hid (w.heap.size ≤ w2.heap.size) := hide HB2.out.size
  generalize hr8 : w2.heap.size = r8 at *
  have HE8 := hide hr8
  clear hW3 hr8
  refine (lives_true W3).mono ?_
  rintro e w4 ⟨rfl, hb4⟩
  have HB34 : Hid (Below w2.heap.size w2 w4) := hide ((HE8.out ▸ HB3.out : Below w2.heap.size w2 W3).trans (hb4.mono (HE8.out ▸ HB3.out : Below w2.heap.size w2 W3).size))
  have HI4 := hide (HI2.out.below HB34.out)
  have HR4 := hide (HR2.out.below HB34.out)
  have HX4 : Hid (Bx w4 r8 q0 N N st0) := hide ((hb4.block r8 (heap_lt HX3.out)).trans HX3.out)
  have HB4 : Hid (Below w.heap.size w w4) := hide (HB2.out.trans (HB34.out.mono HB2.out.size))
  generalize hB : w.heap.size = B at *
  have HBE := hide hB
  have HZ : Hid (∀ W, Below B w W → B ≤ W.heap.size) := hide (fun W hW => by have := hW.size; have := HBE.out; omega)
  have HSS : Hid (∀ W, Below B w W → IsSS W sa sl sc ls) := hide (fun W hW => HS.out.below (HBE.out ▸ hW))
  clear hb4 hB HI2 HR2 HB2 HB3 HX3 HB34 NW NR HS
  go_wp2_with fail
  go_loopw [37] (fun i wr => ∃ j : Nat, j ≤ sl ∧ i = .int .i64 j ∧ Hid (IsD NoX wr g gs b N (st0.steps N ls j)) ∧ Hid (∃ q c, IsR wr q c N (st0.steps N ls j) ∧ Bx wr r8 q c N (st0.steps N ls j)) ∧ Hid (Below B w wr)) (fun i _ => sl - (intOf i).toNat)
  case atStart => exact ⟨0, Nat.zero_le _, rfl, HI4, hide ⟨q0, N, HR4.out, HX4.out⟩, HB4⟩
  case round =>
    obtain ⟨j, hj, rfl, HI, HRX, HB⟩ := hrel
    obtain ⟨q, c, hR, hX⟩ := HRX.out
    have HR := hide hR
    have HX := hide hX
    have hq8 := heap_lt hX
    by_cases hlt : j < sl
    · obtain ⟨bs, off, c0, c1, c2, c3, c4, rfl, hbs0, y0, y1, y2, y3, y4, hstp0⟩ := (HSS.out w (Below.refl _ _)).2.2.2.2 j hlt
      rw [HBE.out] at hbs0
      have z0 := (HB.out.cell (p := ⟨bs, off + j * 5, none⟩) hbs0).trans y0
      have z1 := (HB.out.cell (p := ⟨bs, off + j * 5 + 1, none⟩) hbs0).trans y1
      have z2 := (HB.out.cell (p := ⟨bs, off + j * 5 + 2, none⟩) hbs0).trans y2
      have z3 := (HB.out.cell (p := ⟨bs, off + j * 5 + 3, none⟩) hbs0).trans y3
      have z4 := (HB.out.cell (p := ⟨bs, off + j * 5 + 4, none⟩) hbs0).trans y4
      have hbs : bs < wr.heap.size := Nat.lt_of_lt_of_le hbs0 (HZ.out _ HB.out)
      have HSI : Hid (∀ W, Below B w W → IsS W c0 c1 c2 c3 c4 (ls.getD j Stp0)) := hide (fun W hW => hstp0.below (HBE.out ▸ hW))
      have hstp := HSI.out wr HB.out
      clear y0 y1 y2 y3 y4 hbs0 hstp0
      have HWR : Hid ((st0.steps N ls j).wr < 4611686018427387904) := hide (by have h1 := steps_wr N ls st0 j; have h2 := HSZ.out; have h0 : st0.wr = 0 := rfl; omega)
      have HLD := hide (HSW.out j hlt)
      have HNX : Hid (st0.steps N ls (j + 1) = ((st0.steps N ls j).step N (ls.getD j Stp0)).1) := hide rfl
      generalize hsj : ls.getD j Stp0 = s at *
      generalize hst : st0.steps N ls j = st at *
      generalize hst1 : st0.steps N ls (j + 1) = st1 at *
      have HST := hide hstp
      obtain ⟨rfl, rfl, rfl, _, _, ⟨a2, l2, k2, rfl, hdat⟩, a4, l4, k4, rfl, _⟩ := id hstp
      have hl2 : l2 ≤ 140737488351232 := by rw [← hdat.1]; exact HLD.out
      have HDT : Hid (∀ W, Below B w W → IsB W a2 l2 k2 s.dat) := hide (fun W hW => by obtain ⟨_, _, _, _, _, ⟨_, _, _, e, h⟩, _⟩ := HSI.out W hW; cases e; exact h)
      have HDX := hide hdat.2.2.2.1
      have HAL := hide (fun o : Obj => (Below.refl wr.heap.size wr).alloc (Nat.le_refl _) o)
      have HNE := hide (fun o : Obj => heap_alloc_new wr o)
      have g0 := cell_blk (j := 0) hX rfl
      have g1 := cell_blk (j := 1) hX rfl
      have g2 := cell_blk (j := 2) hX rfl
      have g3 := cell_blk (j := 3) hX rfl
      have g4 := cell_blk (j := 4) hX rfl
      simp only [List.getElem_toArray, List.getElem_cons_zero, List.getElem_cons_succ] at g0 g1 g2 g3 g4
      have HST1 := hide hst1
      clear hstp hsj hst hst1 hdat hR hX
      go_wp2_with fail
      generalize hW1 : wr.alloc (.cells #[.int .u8 (s.kind : Nat), .int .i64 s.sec, .slice a2 l2 k2, .int .i64 s.cnt, .slice a4 l4 k4] 35) = W1
      have HB1 : Hid (Below wr.heap.size wr W1) := hide (by rw [← hW1]; exact HAL.out _)
      have HT1 : Hid (W1.heap[wr.heap.size]? = some (.cells #[.int .u8 (s.kind : Nat), .int .i64 s.sec, .slice a2 l2 k2, .int .i64 s.cnt, .slice a4 l4 k4] 35 (0, 0))) := hide (by rw [← hW1]; exact HNE.out _)
      have HRR : Hid (r8 ≠ wr.heap.size ∧ B ≤ wr.heap.size) := hide ⟨by omega, HZ.out _ HB.out⟩
      generalize hr : wr.heap.size = r11 at *
      have HE11 := hide hr
      clear hW1 HAL HNE z0 z1 z2 z3 z4 g0 g1 g2 g3 g4 hr
      refine (rdo_any W1 q c N st (HR.out.below (HE11.out ▸ HB1.out)) _ _ _ _ _ s (HST.out.below (HE11.out ▸ HB1.out)) HWR.out).mono ?_
      rintro e w3 ⟨q', c', rfl, hR3, hb3⟩
      have HR3 := hide hR3
      have HI3 := hide (HI.out.below ((HE11.out ▸ HB1.out : Below wr.heap.size wr W1).trans (hb3.mono (HE11.out ▸ HB1.out : Below wr.heap.size wr W1).size)))
      have HB3 : Hid (Below B w w3) := hide ((HB.out.trans ((HE11.out ▸ HB1.out : Below wr.heap.size wr W1).mono (HZ.out _ HB.out))).trans (hb3.mono (HZ.out _ (HB.out.trans ((HE11.out ▸ HB1.out : Below wr.heap.size wr W1).mono (HZ.out _ HB.out))))))
      have HX3 : Hid (Bx w3 r8 q c N st) := hide ((hb3.block r8 (by have := HB1.out.size; have := HE11.out; omega)).trans ((HB1.out.block r8 (by have := HE11.out; omega)).trans HX.out))
      have HT3 : Hid (w3.heap[r11]? = some (.cells #[.int .u8 (s.kind : Nat), .int .i64 s.sec, .slice a2 l2 k2, .int .i64 s.cnt, .slice a4 l4 k4] 35 (0, 0))) := hide ((hb3.block r11 (heap_lt HT1.out)).trans HT1.out)
      have HX3' := HX3.out
      unfold Bx at HX3'
      have g0 := cell_blk (j := 0) HX3' rfl
      have g1 := cell_blk (j := 1) HX3' rfl
      have g2 := cell_blk (j := 2) HX3' rfl
      have g3 := cell_blk (j := 3) HX3' rfl
      have g4 := cell_blk (j := 4) HX3' rfl
      have f0 := froz_blk HX3' 0
      have f1 := froz_blk HX3' 1
      have f2 := froz_blk HX3' 2
      have f3 := froz_blk HX3' 3
      have f4 := froz_blk HX3' 4
      have s0 := cell_blk (j := 0) HT3.out rfl
      have s1 := cell_blk (j := 1) HT3.out rfl
      have s2 := cell_blk (j := 2) HT3.out rfl
      have s3 := cell_blk (j := 3) HT3.out rfl
      have s4 := cell_blk (j := 4) HT3.out rfl
      simp only [List.getElem_toArray, List.getElem_cons_zero, List.getElem_cons_succ] at g0 g1 g2 g3 g4 s0 s1 s2 s3 s4
      have hx8 := heap_lt HX3'
      have hx11 := heap_lt HT3.out
      clear hR3 hb3 HX3'
      generalize hs' : (st.step N s).1 = s' at *
      generalize he' : (st.step N s).2 = er at *
      have HS' := hide hs'
      have HE' := hide he'
      clear hs' he'
      go_wp2_with (at_builtin; refine wpList_given rfl _ _ rfl _ rfl a2 l2 k2 s.dat rfl _ rfl ?had ?hB (by omega) ?_)
      case had => simp [World.setCell]
      case hB => exact HDT.out _ ((pack0 HI3.out HR3.out HX3.out HT3.out HB3.out HR8.out HRR.out.1 (HZ.out _ HB3.out)).2.2.2.2.alloc (HZ.out _ (pack0 HI3.out HR3.out HX3.out HT3.out HB3.out HR8.out HRR.out.1 (HZ.out _ HB3.out)).2.2.2.2) _)
      intro v' W' hown hbG
      have hP0 := pack0 HI3.out HR3.out HX3.out HT3.out HB3.out HR8.out HRR.out.1 (HZ.out _ HB3.out)
      have hz0 : ((((((w3.setCell ⟨r8, 0, none⟩ (.slice (some ⟨q', 0, none⟩) N c')).setCell ⟨r8, 1, none⟩ (.bool s'.down)).setCell ⟨r8, 2, none⟩ (.bool s'.arm)).setCell ⟨r8, 3, none⟩ (.int .i64 (s'.left : Nat))).setCell ⟨r8, 4, none⟩ (.int .i64 (s'.wr : Nat))).alloc (.cells #[.slice (some ⟨q', 0, none⟩) N c', .bool s'.down, .bool s'.arm, .int .i64 (s'.left : Nat), .int .i64 (s'.wr : Nat)] 27)).heap.size = w3.heap.size + 1 := by simp [World.setCell]
      generalize hW0 : ((((((w3.setCell ⟨r8, 0, none⟩ (.slice (some ⟨q', 0, none⟩) N c')).setCell ⟨r8, 1, none⟩ (.bool s'.down)).setCell ⟨r8, 2, none⟩ (.bool s'.arm)).setCell ⟨r8, 3, none⟩ (.int .i64 (s'.left : Nat))).setCell ⟨r8, 4, none⟩ (.int .i64 (s'.wr : Nat))).alloc (.cells #[.slice (some ⟨q', 0, none⟩) N c', .bool s'.down, .bool s'.arm, .int .i64 (s'.left : Nat), .int .i64 (s'.wr : Nat)] 27)) = W0 at hP0 hown hbG hz0
      rw [← hz0] at hown hbG
      obtain ⟨hI0, hR0, hX0, hT0, hB0⟩ := hP0
      obtain ⟨ag, cg, rfl, hBg, hcase⟩ := own_open hown HDX.out
      have HI0 := hide hI0
      have HR0 := hide hR0
      have HB0 := hide hB0
      have HC := hide hcase
      have HBg := hide hBg
      have HBG := hide hbG
      have HX1 : Hid (Bx W' r8 q' c' N s') := hide ((hbG.block r8 (heap_lt hX0)).trans hX0)
      have HT1' : Hid (W'.heap[r11]? = some (.cells #[.int .u8 (s.kind : Nat), .int .i64 s.sec, .slice a2 l2 k2, .int .i64 s.cnt, .slice a4 l4 k4] 35 (0, 0))) := hide ((hbG.block r11 (heap_lt hT0)).trans hT0)
      have HW' : Hid (Below B w W') := hide (hB0.trans (hbG.mono (HZ.out _ hB0)))
      clear hz0 hW0 hI0 hR0 hX0 hT0 hB0 hown hBg hcase hbG g0 g1 g2 g3 g4 f0 f1 f2 f3 f4 s0 s1 s2 s3 s4 hx8 hx11
      have s0 := cell_blk (j := 0) HT1'.out rfl
      have s1 := cell_blk (j := 1) HT1'.out rfl
      have s2 := cell_blk (j := 2) HT1'.out rfl
      have s3 := cell_blk (j := 3) HT1'.out rfl
      have s4 := cell_blk (j := 4) HT1'.out rfl
      simp only [List.getElem_toArray, List.getElem_cons_zero, List.getElem_cons_succ] at s0 s1 s2 s3 s4
      have hx11 := heap_lt HT1'.out
      have HAL := hide (fun o : Obj => (Below.refl W'.heap.size W').alloc (Nat.le_refl _) o)
      go_wp2_with fail
      generalize hWe : W'.alloc (.cells #[.int .u8 (s.kind : Nat), .int .i64 s.sec, .slice ag l2 cg, .int .i64 s.cnt, .slice a4 l4 k4] 35) = We
      have HWe : Hid (Below W'.heap.size W' We) := hide (by rw [← hWe]; exact HAL.out _)
      clear hWe HAL s0 s1 s2 s3 s4 hx11
      have HGe : Hid (Below W0.heap.size W0 We) := hide (HBG.out.trans (HWe.out.mono HBG.out.size))
      have HBe : Hid (Below B w We) := hide (HB0.out.trans (HGe.out.mono (HZ.out _ HB0.out)))
      have HXb : Hid (∀ i, (fun i => ag = some (⟨i, 0, none⟩ : Addr)) i → W0.heap.size ≤ i ∧ i < We.heap.size) := hide (by
        intro i hi
        rcases HC.out with ⟨h1, _⟩ | ⟨G, h1, h2, h3⟩
        · rw [h1] at hi; cases hi
        · rw [h1] at hi; cases hi
          exact ⟨h2, Nat.lt_of_lt_of_le h3.lt HWe.out.size⟩)
      have HIe : Hid (IsD (fun i => ag = some (⟨i, 0, none⟩ : Addr)) We g gs b N st) := hide (HI0.out.toX HGe.out HXb.out)
      have HQe : Hid (RowQ (fun i => ag = some (⟨i, 0, none⟩ : Addr)) We q' c' N s'.syn s'.reads (fun i => (s'.fr i).isSome)) := hide (HR0.out.row.toX HGe.out (fun i hi => (HXb.out i hi).1))
      have HSe : Hid (IsS We (.int .u8 (s.kind : Nat)) (.int .i64 s.sec) (.slice ag l2 cg) (.int .i64 s.cnt) (.slice a4 l4 k4) s) := hide (by
        obtain ⟨_, _, _, h5, h6, _, h8⟩ := HSI.out We HBe.out
        exact ⟨rfl, rfl, rfl, h5, h6, ⟨ag, l2, cg, rfl, HBg.out.below HWe.out⟩, h8⟩)
      have HXe : Hid (Bx We r8 q' c' N s') := hide ((HWe.out.block r8 (heap_lt HX1.out)).trans HX1.out)
      have HTe : Hid (We.heap[r11]? = some (.cells #[.int .u8 (s.kind : Nat), .int .i64 s.sec, .slice a2 l2 k2, .int .i64 s.cnt, .slice a4 l4 k4] 35 (0, 0))) := hide ((HWe.out.block r11 (heap_lt HT1'.out)).trans HT1'.out)
      have DO := do_any We g gs b N st HIe.out _ _ _ _ _ s HSe.out HWR.out
      rw [HS'.out, HE'.out] at DO
      refine DO.mono ?_
      rintro e w5 ⟨rfl, hI5, hF5⟩
      have HI5 := hide hI5
      have HQ5 := hide (HQe.out.frm HIe.out hF5)
      have HX5 : Hid (Bx w5 r8 q' c' N s') := hide ((hF5.block r8 (heap_lt HXe.out) (not_sd HIe.out HXe.out (by decide) (by decide))).trans HXe.out)
      have HT5 : Hid (w5.heap[r11]? = some (.cells #[.int .u8 (s.kind : Nat), .int .i64 s.sec, .slice a2 l2 k2, .int .i64 s.cnt, .slice a4 l4 k4] 35 (0, 0))) := hide ((hF5.block r11 (heap_lt HTe.out) (not_sd HIe.out HTe.out (by decide) (by decide))).trans HTe.out)
      have HB5 : Hid (Below B w w5) := hide (HBe.out.trans (hF5.toBelow (HZ.out _ HBe.out) HFR.out))
      have HG5 := hide ((HBg.out.below HWe.out).frm HIe.out hF5)
      have HG5r : Hid (∀ G, ag = some (⟨G, 0, none⟩ : Addr) → Row w5 G l2 cg s.dat) := hide (by
        intro G hG
        rcases HC.out with ⟨h1, _⟩ | ⟨G', h1, h2, h3⟩
        · rw [h1] at hG; cases hG
        · rw [h1] at hG; cases hG
          have h4 := h3.below HWe.out h3.lt
          obtain ⟨m1, m2, m3, cur, m4, m5⟩ := h4
          exact ⟨m1, m2, m3, cur, (hF5.block _ (heap_lt m4) (fun e => HIe.out.no5 _ _ _ e m4)).trans m4, m5⟩)
      have HR5 : Hid (IsR w5 q' c' N s') := hide ⟨HR0.out.n0, HR0.out.n1, HQ5.out.offX (Frm.refl _ _), HR0.out.wr, HR0.out.left⟩
      clear DO hI5 hF5
      have HX5' := HX5.out
      unfold Bx at HX5'
      have g0 := cell_blk (j := 0) HX5' rfl
      have g1 := cell_blk (j := 1) HX5' rfl
      have g2 := cell_blk (j := 2) HX5' rfl
      have g3 := cell_blk (j := 3) HX5' rfl
      have g4 := cell_blk (j := 4) HX5' rfl
      simp only [List.getElem_toArray, List.getElem_cons_zero, List.getElem_cons_succ] at g0 g1 g2 g3 g4
      clear HX5'
      go_wp2_with fail
      refine (like_any w5 g gs b N s' HI5.out q' c' HR5.out k).mono ?_
      rintro e w6 ⟨rfl, hb6⟩
      have HX6 : Hid (Bx w6 r8 q' c' N s') := hide ((hb6.block r8 (heap_lt HX5.out)).trans HX5.out)
      have HT6 : Hid (w6.heap[r11]? = some (.cells #[.int .u8 (s.kind : Nat), .int .i64 s.sec, .slice a2 l2 k2, .int .i64 s.cnt, .slice a4 l4 k4] 35 (0, 0))) := hide ((hb6.block r11 (heap_lt HT5.out)).trans HT5.out)
      have HB56 := hide hb6
      clear g0 g1 g2 g3 g4 hb6
      have HX6' := HX6.out
      unfold Bx at HX6'
      have g0 := cell_blk (j := 0) HX6' rfl
      have g1 := cell_blk (j := 1) HX6' rfl
      have g2 := cell_blk (j := 2) HX6' rfl
      have g3 := cell_blk (j := 3) HX6' rfl
      have g4 := cell_blk (j := 4) HX6' rfl
      have s1 := cell_blk (j := 1) HT6.out rfl
      simp only [List.getElem_toArray, List.getElem_cons_zero, List.getElem_cons_succ] at g0 g1 g2 g3 g4 s1
      clear HX6'
      go_wp2_with fail
      refine (like_any w6 g gs b N s' (HI5.out.below HB56.out) q' c' (HR5.out.below HB56.out) s.sec).mono ?_
      rintro e w7 ⟨rfl, hb7⟩
      have HB57 : Hid (Below w5.heap.size w5 w7) := hide (HB56.out.trans (hb7.mono HB56.out.size))
      have HX7 : Hid (Bx w7 r8 q' c' N s') := hide ((HB57.out.block r8 (heap_lt HX5.out)).trans HX5.out)
      have HT7 : Hid (w7.heap[r11]? = some (.cells #[.int .u8 (s.kind : Nat), .int .i64 s.sec, .slice a2 l2 k2, .int .i64 s.cnt, .slice a4 l4 k4] 35 (0, 0))) := hide ((HB57.out.block r11 (heap_lt HT5.out)).trans HT5.out)
      have HB7 : Hid (Below B w w7) := hide (HB5.out.trans (HB57.out.mono (HZ.out _ HB5.out)))
      have HI7 := hide (HI5.out.below HB57.out)
      have HQ7 := hide (HQ5.out.below HB57.out)
      have HG7r : Hid (∀ G, ag = some (⟨G, 0, none⟩ : Addr) → Row w7 G l2 cg s.dat) := hide (fun G hG => (HG5r.out G hG).below HB57.out (HG5r.out G hG).lt)
      have cv1 := conv_str (HG5.out.below HB57.out)
      have cv2 := conv_str (HDT.out w7 HB7.out)
      have s2 := cell_blk (j := 2) HT7.out rfl
      simp only [List.getElem_toArray, List.getElem_cons_zero, List.getElem_cons_succ] at s2
      clear g0 g1 g2 g3 g4 s1 hb7
      generalize str s.dat = SD0 at *
      have HG0 : Hid (∀ G, ag = some (⟨G, 0, none⟩ : Addr) → B ≤ G) := hide (by
        intro G hG
        rcases HC.out with ⟨h1, _⟩ | ⟨G', h1, h2, h3⟩
        · rw [h1] at hG; cases hG
        · rw [h1] at hG; cases hG
          exact Nat.le_trans (HZ.out _ HB0.out) h2)
      have HAG : Hid ((ag = none ∧ l2 = 0) ∨ ∃ G, ag = some (⟨G, 0, none⟩ : Addr)) := hide (by
        rcases HC.out with h1 | ⟨G', h1, _⟩
        · exact .inl h1
        · exact .inr ⟨G', h1⟩)
      have HRX7 : Hid (IsR w7 q' c' N s') := hide (HR5.out.below HB57.out)
      clear HI HRX HR HX HWR HB1 HT1 HI3 HB3 HX3 HT3 HR3 HS' HE' HI0 HR0 HB0 HC HBg HBG HX1 HT1' HW' HWe HGe HBe HXb HIe HQe HSe HXe HTe HI5 HQ5 HX5 HT5 HB5 HG5 HG5r HR5 HX6 HT6 HB56 HB57
      go_wp2_with fail
      clear cv1 cv2 s2
      go_loopw [85] (fun i wt => ∃ t : Nat, t ≤ l2 ∧ i = .int .i64 t ∧ Hid (∀ G, ag = some (⟨G, 0, none⟩ : Addr) → ∃ m, Row wt G l2 cg m ∧ ∀ x ∈ m, x < 256) ∧ Hid (Frm (fun i => ag = some (⟨i, 0, none⟩ : Addr)) w7 wt)) (fun i _ => l2 - (intOf i).toNat)
      case atStart => exact ⟨0, Nat.zero_le _, rfl, hide (fun G hG => ⟨_, HG7r.out G hG, HDX.out⟩), hide (Frm.refl _ _)⟩
      case round =>
        obtain ⟨t, ht, rfl, HGR, HFT⟩ := hrel
        by_cases htl : t < l2
        · obtain ⟨G, rfl⟩ : ∃ G, ag = some (⟨G, 0, none⟩ : Addr) := by
            rcases HAG.out with ⟨_, h0⟩ | h1
            · omega
            · exact h1
          obtain ⟨m, hrw, hm⟩ := HGR.out G rfl
          have hc := hrw.cell htl
          have hfz := row_frozen hrw t
          have hx := getD_lt m t hm
          have hcg := hrw.2.1
          generalize m.getD t 0 = x at *
          have hwx : IntKind.u8.wrap ((x : Int) + 1) = (((x + 1) % 256 : Nat) : Int) := by
            simp [IntKind.wrap, IntKind.bits, IntKind.signed]
          have HNR : Hid (∀ G', some (⟨G, 0, none⟩ : Addr) = some ⟨G', 0, none⟩ → ∃ m', Row (wr.setCell ⟨G, t, none⟩ (.int .u8 (((x + 1) % 256 : Nat) : Int))) G' l2 cg m' ∧ ∀ x ∈ m', x < 256) := hide (fun G' e => by cases e; exact ⟨_, hrw.set t _, mem_set hm (Nat.mod_lt _ (by decide))⟩)
          have HFN : Hid (Frm (fun i => some (⟨G, 0, none⟩ : Addr) = some ⟨i, 0, none⟩) w7 (wr.setCell ⟨G, t, none⟩ (.int .u8 (((x + 1) % 256 : Nat) : Int)))) := hide (HFT.out.set rfl _)
          generalize hy : (((x + 1) % 256 : Nat) : Int) = y at *
          clear hrw hm hx hy
          go_wp2
          go_roundw
          case rel => exact ⟨t + 1, by omega, by simp, HNR, HFN⟩
          case measure => simp [intOf]; omega
        · obtain rfl : t = l2 := by omega
          have HNS : Hid (∀ i, ag = some (⟨i, 0, none⟩ : Addr) → ¬ SD g gs b i) := hide (fun i hi => by
            obtain ⟨_, _, _, cur, hg, _⟩ := HG7r.out i hi
            exact not_sd HI7.out hg (by decide) (by decide))
          have HN8 : Hid (¬ ag = some (⟨r8, 0, none⟩ : Addr)) := hide (fun hi => by
            obtain ⟨_, _, _, cur, hg, _⟩ := HG7r.out r8 hi
            have := HX7.out
            unfold Bx at this
            rw [hg] at this
            cases this)
          have HIn : Hid (IsD NoX wr g gs b N (st0.steps N ls (j + 1))) := hide (by rw [HST1.out, HNX.out]; exact HI7.out.offX HFT.out HNS.out)
          have HRn : Hid (∃ q c, IsR wr q c N (st0.steps N ls (j + 1)) ∧ Bx wr r8 q c N (st0.steps N ls (j + 1))) := hide (by
            rw [HST1.out, HNX.out]
            exact ⟨q', c', ⟨HRX7.out.n0, HRX7.out.n1, HQ7.out.offX HFT.out, HRX7.out.wr, HRX7.out.left⟩, (HFT.out.block r8 (heap_lt HX7.out) HN8.out).trans HX7.out⟩)
          have HBn : Hid (Below B w wr) := hide (HB7.out.trans (HFT.out.toBelow (HZ.out _ HB7.out) HG0.out))
          clear HGR HFT HNS HN8
          go_wp2
          go_roundw
          case rel => exact ⟨j + 1, by omega, by simp, HIn, HRn, HBn⟩
          case measure => simp [intOf]; omega
    · obtain rfl : j = sl := by omega
      generalize st0.steps N ls j = st at *
      obtain ⟨P, hP⟩ : ∃ P : World → Prop, P = fun W => Below wr.heap.size wr W := ⟨_, rfl⟩
      have HP0 : Hid (P wr) := hide (by rw [hP]; exact Below.refl _ _)
      have HPT : Hid (∀ W W', P W → Below W.heap.size W W' → P W') := hide (fun W W' h1 h2 => by rw [hP] at h1 ⊢; exact h1.trans (h2.mono h1.size))
      have HPA : Hid (∀ W, P W → IsD NoX W g gs b N st ∧ IsR W q c N st ∧ Bx W r8 q c N st ∧ Below B w W) := hide (fun W hW => by
        rw [hP] at hW
        exact ⟨HI.out.below hW, HR.out.below hW, (hW.block r8 (heap_lt HX.out)).trans HX.out, HB.out.trans (hW.mono (HZ.out _ HB.out))⟩)
      unfold Bx at hX
      have g0 := cell_blk (j := 0) hX rfl
      simp only [List.getElem_toArray, List.getElem_cons_zero] at g0
      clear hP hR hX HI HRX HR HX HB hlt
      go_wp2_with fail
      go_loopw [99] (fun i wt => ∃ t : Nat, t ≤ N ∧ i = .int .i64 t ∧ Hid (P wt)) (fun i _ => N - (intOf i).toNat)
      case atStart => exact ⟨0, Nat.zero_le _, rfl, HP0⟩
      case round =>
        obtain ⟨t, ht, rfl, HPW⟩ := hrel
        obtain ⟨hIt, hRt, hXt, hBt⟩ := HPA.out wr HPW.out
        have HIt := hide hIt
        have HRt := hide hRt
        have HBt := hide hBt
        unfold Bx at hXt
        have g0 := cell_blk (j := 0) hXt rfl
        have g1 := cell_blk (j := 1) hXt rfl
        have g2 := cell_blk (j := 2) hXt rfl
        have g3 := cell_blk (j := 3) hXt rfl
        have g4 := cell_blk (j := 4) hXt rfl
        simp only [List.getElem_toArray, List.getElem_cons_zero, List.getElem_cons_succ] at g0 g1 g2 g3 g4
        clear hIt hRt hXt hBt
        by_cases htN : t < N
        · by_cases h16 : t < 16
          · have d16 : decide ((t : Int) < 16) = true := decide_eq_true (by omega)
            go_wp2_with fail
            refine (like_any wr g gs b N st HIt.out q c HRt.out t).mono ?_
            rintro e w5 ⟨rfl, hb5⟩
            have HP5 := hide (HPT.out _ _ HPW.out hb5)
            clear hb5 g0 g1 g2 g3 g4
            go_wp2
            go_roundw
            case rel => exact ⟨t + 1, by omega, by simp, HP5⟩
            case measure => simp [intOf]; omega
          · have d16 : decide ((t : Int) < 16) = false := decide_eq_false (by omega)
            clear g0 g1 g2 g3 g4
            go_wp2
            go_roundw
            case rel => exact ⟨t + 1, by omega, by simp, HPW⟩
            case measure => simp [intOf]; omega
        · obtain rfl : t = N := by omega
          go_wp2_with fail
          refine (like_any wr g gs b t st HIt.out q c HRt.out k).mono ?_
          rintro e w5 ⟨rfl, hb5⟩
          have HB5 := hide (HBt.out.trans (hb5.mono (HZ.out _ HBt.out)))
          clear hb5 g0 g1 g2 g3 g4
          go_wp2
          go_ret
          exact ⟨rfl, by rw [HBE.out]; exact HB5.out⟩
/-- the walk of DiskDoes -/
theorem lawWalk (n : Int) (sa : Option Addr) (sl sc : Nat) (ls : List Stp) (k : Int) (w : World) (_hn : (Lit.int .i64 n).wf = true) (hS : IsSS w sa sl sc ls ∧ ∀ i, i < sl → (ls.getD i Stp0).dat.length ≤ reachBytes) (_hk : (Lit.int .i64 k).wf = true) :
    Calls Try.prog 3 #[.int .i64 n, .slice sa sl sc, .int .i64 k] w fun e w' => e = .returned (.bool true) ∧ Below w.heap.size w w' := by
  by_cases h : 1 ≤ n ∧ n ≤ 1024
  · obtain ⟨N, rfl⟩ : ∃ N : Nat, n = N := ⟨n.toNat, by omega⟩
    exact walk_some N k sa sl sc ls w (by omega) (by omega) hS.1 hS.2
  · exact walk_none n k _ w h
end Go.Proofs.Ytdageggojaghmaa.diskDoes
