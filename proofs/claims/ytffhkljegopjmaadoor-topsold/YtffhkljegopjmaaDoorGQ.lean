/- post -/
import Derived.Test.YtffhkljegopjmaaDoorGP
namespace Go.Proofs.YtffhkljegopjmaaDoor.Lg
open Go.RowKit
set_option maxRecDepth 40000
/-- what post answers -/
def PostP (PW : List Py) (GW : List Pg) (n : Nat) (y : Py) (w : World) (e : Ending) (w' : World) : Prop :=
  Below w.heap.size w w' ∧ ((e = .returned (.tuple #[vb none 0 0 none 0 0, .int .i64 3]) ∧ 16384 ≤ n) ∨ (e = .returned (.tuple #[vb none 0 0 none 0 0, .int .i64 5]) ∧ n < 16384 ∧ beyB y = true) ∨
    (∃ a' c' b' d', e = .returned (.tuple #[vb a' PW.length c' b' GW.length d', .int .i64 0]) ∧ n < 16384 ∧ beyB y = false ∧ IsP w' a' PW.length c' PW ∧ IsG w' b' GW.length d' GW ∧ NewA w.heap.size a' ∧ NewA w.heap.size b'))
/-- books are stored whole -/
theorem put2b_blk {w : World} {g : Nat} {v1 v2 : Value} (h : BlkB w g v1 v2) (u1 u2 : Value) : BlkB ((w.setCell ⟨g, 0, none⟩ u1).setCell ⟨g, 1, none⟩ u2) g u1 u2 := by
  unfold BlkB
  rw [blk_set (blk_set h _) _]
  rfl
theorem put2b_below {n : Nat} {a w : World} {g : Nat} (h : Below n a w) (hn : n ≤ g) (u1 u2 : Value) : Below n a ((w.setCell ⟨g, 0, none⟩ u1).setCell ⟨g, 1, none⟩ u2) := (h.setCell hn _).setCell hn _
theorem BlkB.froz {w : World} {g : Nat} {v1 v2 : Value} (h : BlkB w g v1 v2) (j : Nat) : w.frozen? ⟨g, j, none⟩ = false := froz_blk h j
theorem res2b {fn : Func} {p u : Tmp} (h : fn.results = #[.cell p 35, .tmp u]) (tmps : Array Value) (W : World) (B : Nat) (v1 v2 : Value) (hb : BlkB W B v1 v2) (hp : tmps.getD p undef = .pointer (some ⟨B, 0, none⟩)) :
    (results fn tmps).run Tryd.prog W = .ok (.tuple #[.agg #[v1, v2], tmps.getD u undef]) W := by
  rw [results_cell_tmp h, hp]
  have hl := run_loadVar_row (P := Tryd.prog) W B 35 35 _ (0, 0) _ hb Tryd.underlying35 rfl (by kernel_rfl)
  simp [asAddr, Result.andThen, hl]
/-- the three blocks that post keeps -/
def Kept3 (W : World) (g r gp gy : Nat) (c : Cg) (x : Pg) (y : Py) : Prop := BlkC W g c ∧ BlkB W r (.slice none 0 0) (.slice none 0 0) ∧ BlkG W gp x ∧ BlkP W gy y
theorem IsP.off {W : World} {a : Option Addr} {len cap n r j : Nat} {l : List Py} (h : IsP W a len cap l) (hn : NewA n a) (hr : r < n) (u : Value) : IsP (W.setCell ⟨r, j, none⟩ u) a len cap l := by
  refine ⟨h.1, h.2.1, h.2.2.1, h.2.2.2.1, fun i hi => ?_, h.2.2.2.2.2⟩
  obtain ⟨b, off, e, hlt, h0⟩ := h.2.2.2.2.1 i hi
  have := hn b off e
  exact ⟨b, off, e, by simpa [World.setCell] using hlt, h0.block fun _ => World.cell?_of_block (Below.heap_setCell _ _ _ _ (show b ≠ r by omega))⟩
theorem IsG.off {W : World} {a : Option Addr} {len cap n r j : Nat} {l : List Pg} (h : IsG W a len cap l) (hn : NewA n a) (hr : r < n) (u : Value) : IsG (W.setCell ⟨r, j, none⟩ u) a len cap l := by
  refine ⟨h.1, h.2.1, h.2.2.1, h.2.2.2.1, fun i hi => ?_, h.2.2.2.2.2⟩
  obtain ⟨b, off, e, hlt, h0⟩ := h.2.2.2.2.1 i hi
  have := hn b off e
  exact ⟨b, off, e, by simpa [World.setCell] using hlt, h0.block fun _ => World.cell?_of_block (Below.heap_setCell _ _ _ _ (show b ≠ r by omega))⟩
/-- the postings and one more, put together -/
theorem tailG (a2 : Option Addr) (len2 cap2 : Nat) (G : List Pg) (x : Pg) (p q : Nat) (W : World) (h : IsG W a2 len2 cap2 G) (hx : BlkG W p x) (hq : W.heap[q]? = some (.cells #[.slice a2 len2 cap2, .slice (some ⟨p, 0, none⟩) 1 1] 33 (0, 0))) (hok : okG x) (hn : len2 < 16384) :
    Calls Tryd.prog 50 #[.slice (some ⟨q, 0, none⟩) 2 2] W fun e w' => ∃ b' d', e = .returned (.slice b' (len2 + 1) d') ∧ IsG w' b' (len2 + 1) d' (G ++ [x]) ∧ Below W.heap.size W w' ∧ NewA W.heap.size b' := by
  have h1 : IsG W (some ⟨p, 0, none⟩) 1 1 [x] := ⟨rfl, Nat.le_refl _, by decide, by simpa using hok, fun i hi => ⟨p, 0, rfl, heap_lt hx, by
    obtain rfl : i = 0 := by omega
    exact hx.cells⟩, by intro e; cases e⟩
  have hR : RowsG W q 2 (fun k => if k = 0 then a2 else some ⟨p, 0, none⟩) (fun k => if k = 0 then len2 else 1) (fun k => if k = 0 then cap2 else 1) (fun k => if k = 0 then G else [x]) := by
    refine ⟨heap_lt hq, fun k hk => ?_⟩
    rcases (by omega : k = 0 ∨ k = 1) with rfl | rfl
    · exact ⟨cell_blk hq rfl, h⟩
    · exact ⟨cell_blk hq rfl, h1⟩
  refine (concatG_any q 2 _ _ _ _ W hR (by omega) (by simp [preN]; omega)).mono ?_
  rintro e w' ⟨⟨v, rfl, hown⟩, hb⟩
  simp [preN, preL] at hown
  have hl : (G ++ [x]).length = len2 + 1 := by simp [h.1]
  obtain ⟨a', c', rfl, hI, hN⟩ := own_IsG hl (by
    intro z hz
    simp only [List.mem_append, List.mem_singleton] at hz
    rcases hz with hz | rfl
    · exact h.2.2.2.1 z hz
    · exact hok) (by simpa using hown)
  exact ⟨a', c', rfl, hI, hb, hN⟩
/-- what is asked of that call, whatever came first -/
def QG (v w' : World) (len2 : Nat) (GW : List Pg) (e : Ending) (w'' : World) : Prop := ∃ b' d', e = .returned (.slice b' (len2 + 1) d') ∧ Hid (IsG w'' b' (len2 + 1) d' GW) ∧ Hid (Below w'.heap.size w' w'') ∧ Hid (NewA v.heap.size b')
abbrev oX (q1 fr to am : Int) : Obj := .cells #[.int .i64 q1, .int .u8 fr, .int .u8 to, .int .i64 am] 92
abbrev oY (a2 : Option Addr) (len2 cap2 p : Nat) : Obj := .cells #[.slice a2 len2 cap2, .slice (some ⟨p, 0, none⟩) 1 1] 33
theorem tG1 {v w' : World} {a2 : Option Addr} {len2 cap2 : Nat} {G : List Pg} {q1 fr to am : Int} (hv : Below v.heap.size v w') (h : IsG v a2 len2 cap2 G) (hok : okG ⟨q1, fr, to, am⟩) (hn : len2 < 16384) :
    Calls Tryd.prog 50 #[.slice (some ⟨w'.heap.size + 1, 0, none⟩) 2 2] ((w'.alloc (oX q1 fr to am)).alloc (oY a2 len2 cap2 w'.heap.size)) (QG v w' len2 (G ++ [⟨q1, fr, to, am⟩])) := by
  have hb : Below w'.heap.size w' ((w'.alloc (oX q1 fr to am)).alloc (oY a2 len2 cap2 w'.heap.size)) := ((Below.refl _ _).alloc (Nat.le_refl _) _).alloc (by simp) _
  refine (tailG a2 len2 cap2 G ⟨q1, fr, to, am⟩ w'.heap.size (w'.heap.size + 1) _ ((h.below' hv).below' hb) ((Below.heap_alloc _ _ _ (by simp)).trans (heap_alloc_new _ _)) ?_ hok hn).mono ?_
  · have := heap_alloc_new (w'.alloc (oX q1 fr to am)) (oY a2 len2 cap2 w'.heap.size)
    rwa [show (w'.alloc (oX q1 fr to am)).heap.size = w'.heap.size + 1 by simp] at this
  · rintro e w'' ⟨b', d', rfl, h1, h2, h3⟩
    exact ⟨b', d', rfl, hide h1, hide (hb.trans (h2.mono hb.size)), hide (h3.mono (Nat.le_trans hv.size hb.size))⟩
theorem tG2 {v w' : World} {a2 : Option Addr} {len2 cap2 : Nat} {G : List Pg} {q1 fr to am : Int} (hv : Below v.heap.size v w') (hk : w'.heap[v.heap.size]? = some (oX q1 fr to am)) (h : IsG v a2 len2 cap2 G) (hok : okG ⟨q1, fr, to, am⟩) (hn : len2 < 16384) :
    Calls Tryd.prog 50 #[.slice (some ⟨w'.heap.size, 0, none⟩) 2 2] (w'.alloc (oY a2 len2 cap2 v.heap.size)) (QG v w' len2 (G ++ [⟨q1, fr, to, am⟩])) := by
  have hb : Below w'.heap.size w' (w'.alloc (oY a2 len2 cap2 v.heap.size)) := (Below.refl _ _).alloc (Nat.le_refl _) _
  refine (tailG a2 len2 cap2 G ⟨q1, fr, to, am⟩ v.heap.size w'.heap.size _ ((h.below' hv).below' hb) ((Below.heap_alloc _ _ _ (heap_lt hk)).trans hk) (heap_alloc_new _ _) hok hn).mono ?_
  rintro e w'' ⟨b', d', rfl, h1, h2, h3⟩
  exact ⟨b', d', rfl, hide h1, hide (hb.trans (h2.mono hb.size)), hide (h3.mono (Nat.le_trans hv.size hb.size))⟩
theorem tG3 {v w' : World} {a2 : Option Addr} {len2 cap2 : Nat} {G : List Pg} {q1 fr to am : Int} (hv : Below v.heap.size v w') (hk : w'.heap[v.heap.size]? = some (oX q1 fr to am)) (hk' : w'.heap[v.heap.size + 1]? = some (oY a2 len2 cap2 v.heap.size)) (h : IsG v a2 len2 cap2 G) (hok : okG ⟨q1, fr, to, am⟩) (hn : len2 < 16384) :
    Calls Tryd.prog 50 #[.slice (some ⟨v.heap.size + 1, 0, none⟩) 2 2] w' (QG v w' len2 (G ++ [⟨q1, fr, to, am⟩])) := by
  refine (tailG a2 len2 cap2 G ⟨q1, fr, to, am⟩ v.heap.size (v.heap.size + 1) _ (h.below' hv) hk hk' hok hn).mono ?_
  rintro e w'' ⟨b', d', rfl, h1, h2, h3⟩
  exact ⟨b', d', rfl, hide h1, hide h2, hide (h3.mono hv.size)⟩
theorem kX1 (v : World) (q1 fr to am : Int) {w' : World} (h : Below (v.alloc (oX q1 fr to am)).drew.heap.size (v.alloc (oX q1 fr to am)).drew w') : w'.heap[v.heap.size]? = some (oX q1 fr to am) :=
  (h.block _ (by simp)).trans (heap_alloc_new v _)
theorem kX2 (v : World) (q1 fr to am : Int) (a2 : Option Addr) (len2 cap2 : Nat) {w' : World} (h : Below ((v.alloc (oX q1 fr to am)).alloc (oY a2 len2 cap2 v.heap.size)).drew.heap.size ((v.alloc (oX q1 fr to am)).alloc (oY a2 len2 cap2 v.heap.size)).drew w') : w'.heap[v.heap.size]? = some (oX q1 fr to am) ∧ w'.heap[v.heap.size + 1]? = some (oY a2 len2 cap2 v.heap.size) :=
  ⟨(h.block _ (by simp; omega)).trans ((Below.heap_alloc _ _ _ (by simp)).trans (heap_alloc_new v _)), (h.block _ (by simp)).trans (by
    have := heap_alloc_new (v.alloc (oX q1 fr to am)) (oY a2 len2 cap2 v.heap.size)
    rwa [show (v.alloc (oX q1 fr to am)).heap.size = v.heap.size + 1 by simp] at this)⟩
set_option maxHeartbeats 4000000 in
theorem post_any (a : Option Addr) (len cap : Nat) (P : List Py) (a2 : Option Addr) (len2 cap2 : Nat) (G : List Pg) (q : Py) (lo hi : Nat) (fr to am : Int) (w : World) (h : IsP w a len cap P) (h2 : IsG w a2 len2 cap2 G) (hlo : lo ≤ hi) (hhi : hi ≤ len) (hlen : len ≤ 1025) (hq : inB q) (hg : postB ⟨q.o, fr, to, am⟩ = true) :
    Calls Tryd.prog 29 #[vcg ⟨.slice a len cap, .slice a2 len2 cap2, q, (lo : Int), (hi : Int)⟩, .int .u8 fr, .int .u8 to, .int .i64 am] w (PostP (pwL P lo hi (behR q ⟨q.o, fr, to, am⟩)) (G ++ [⟨q.o, fr, to, am⟩]) len2 (behR q ⟨q.o, fr, to, am⟩) w) := by
  have HP := hide h
  have HG := hide h2
  have HBE := hide (fun W => behind_any q ⟨q.o, fr, to, am⟩ W (inB_small hq) (by unfold postB amtB at hg; unfold SmallN; simp at hg; dsimp only; omega))
  have HBY := hide (fun W => beyond_any (behR q ⟨q.o, fr, to, am⟩) W)
  have HPWA := hide (fun (hb : beyB (behR q ⟨q.o, fr, to, am⟩) = false) W (hW : IsP W a len cap P) => paysWith_any a len cap P a2 len2 cap2 q lo hi (behR q ⟨q.o, fr, to, am⟩) W hW hlo hhi hlen (inB_ok (inB_beh hq hg hb)))
  have HOK : Hid (okG ⟨q.o, fr, to, am⟩) := hide (by
    unfold postB ordB amtB accB at hg
    simp at hg
    unfold okG i64B
    dsimp only
    omega)
  have hl2 : (len2 : Int) ≤ 9223372036854775807 := by have := h2.2.1; have := h2.2.2.1; unfold maxLen at this; omega
  clear h h2 hq hg
  obtain ⟨q1, q2, q3, q4⟩ := q
  dsimp only at HBE HBY HPWA HOK ⊢
  generalize pwL P lo hi (behR ⟨q1, q2, q3, q4⟩ ⟨q1, fr, to, am⟩) = PW at *
  generalize behR ⟨q1, q2, q3, q4⟩ ⟨q1, fr, to, am⟩ = y at *
  obtain ⟨y1, y2, y3, y4⟩ := y
  go_enter Tryd.func29, Tryd.ntmps29
  refine wp_seq_k (fun K0 hK0 => ?_)
  have HK0 := hide hK0
  clear hK0
  go_wp2
  generalize hW0 : (w.alloc (.cells #[.slice a len cap, .slice a2 len2 cap2, .int .i64 q1, .int .i64 q2, .int .i64 q3, .int .i64 q4, .int .i64 (lo : Int), .int .i64 (hi : Int)] 66)).alloc (.cells #[.slice none 0 0, .slice none 0 0] 35) = W0
  have HB0 : Hid (Below w.heap.size w W0) := hide (hW0 ▸ ((Below.refl _ w).alloc (Nat.le_refl _) _).alloc (by simp) _)
  have HS0 : Hid (W0.heap.size = w.heap.size + 2) := hide (by rw [← hW0]; simp)
  have HC0 : Hid (BlkC W0 w.heap.size ⟨.slice a len cap, .slice a2 len2 cap2, ⟨q1, q2, q3, q4⟩, (lo : Int), (hi : Int)⟩) := hide (hW0 ▸ (Below.heap_alloc _ _ _ (by simp)).trans (heap_alloc_new _ _))
  have HR0 : Hid (BlkB W0 (w.heap.size + 1) (.slice none 0 0) (.slice none 0 0)) := hide (by
    rw [← hW0]
    have := heap_alloc_new (w.alloc (.cells #[.slice a len cap, .slice a2 len2 cap2, .int .i64 q1, .int .i64 q2, .int .i64 q3, .int .i64 q4, .int .i64 (lo : Int), .int .i64 (hi : Int)] 66)) (.cells #[.slice none 0 0, .slice none 0 0] 35)
    rwa [show (w.alloc (.cells #[.slice a len cap, .slice a2 len2 cap2, .int .i64 q1, .int .i64 q2, .int .i64 q3, .int .i64 q4, .int .i64 (lo : Int), .int .i64 (hi : Int)] 66)).heap.size = w.heap.size + 1 by simp] at this)
  clear hW0
  obtain ⟨c1, c2, c3, c4, c5, c6, c7, c8⟩ := HC0.out.cells
  obtain ⟨r1, r2⟩ := HR0.out.cells
  have fr0 := HR0.out.froz
  dsimp only at c1 c2 c3 c4 c5 c6 c7 c8
  refine HK0.out _ _ ?_
  clear HK0
  by_cases hm : 16384 ≤ len2
  · have hmI : (16384 : Int) ≤ (len2 : Int) := by omega
    go_wp2
    refine bodyPost_ret (res2b rfl _ ((W0.setCell ⟨w.heap.size + 1, 0, none⟩ (.slice none 0 0)).setCell ⟨w.heap.size + 1, 1, none⟩ (.slice none 0 0)) (w.heap.size + 1) (.slice none 0 0) (.slice none 0 0) (put2b_blk HR0.out _ _) rfl) rfl ?_
    exact ⟨put2b_below HB0.out (by omega) _ _, .inl ⟨rfl, hm⟩⟩
  · have hmI : decide ((16384 : Int) ≤ (len2 : Int)) = false := by simp; omega
    have HM : Hid (len2 < 16384) := hide (by omega)
    clear hm
    refine wp_seq_k (fun K1 hK1 => ?_)
    have HK1 := hide hK1
    clear hK1
    go_wp2
    refine HK1.out _ _ ?_
    clear HK1
    refine wp_seq_k (fun K2 hK2 => ?_)
    have HK2 := hide hK2
    clear hK2
    go_wp2
    generalize hW1 : W0.alloc (.cells #[.int .i64 q1, .int .u8 fr, .int .u8 to, .int .i64 am] 92) = W1
    have hsz : W0.heap.size = w.heap.size + 2 := HS0.out
    have HB1 : Hid (Below w.heap.size w W1) := hide (hW1 ▸ HB0.out.alloc (by omega) _)
    have HC1 : Hid (BlkC W1 w.heap.size ⟨.slice a len cap, .slice a2 len2 cap2, ⟨q1, q2, q3, q4⟩, (lo : Int), (hi : Int)⟩) := hide (hW1 ▸ (Below.heap_alloc _ _ _ (by omega)).trans HC0.out)
    have HR1 : Hid (BlkB W1 (w.heap.size + 1) (.slice none 0 0) (.slice none 0 0)) := hide (hW1 ▸ (Below.heap_alloc _ _ _ (by omega)).trans HR0.out)
    have HX1 : Hid (BlkG W1 W0.heap.size ⟨q1, fr, to, am⟩) := hide (hW1 ▸ heap_alloc_new _ _)
    generalize W0.heap.size = gX at *
    have HSX := hide hsz
    clear hW1 HB0 HC0 HR0 c1 c2 c3 c4 c5 c6 c7 c8 r1 r2 fr0 HS0 hsz
    obtain ⟨c1, c2, c3, c4, c5, c6, c7, c8⟩ := HC1.out.cells
    obtain ⟨d1, d2, d3, d4⟩ := HX1.out.cells
    dsimp only at c1 c2 c3 c4 c5 c6 c7 c8
    simp only [Nat.zero_add] at d1 d2 d3 d4
    refine HK2.out _ _ ?_
    clear HK2
    refine wp_seq_k (fun K3 hK3 => ?_)
    have HK3 := hide hK3
    clear hK3
    go_wp2_with fail
    refine (HBE.out W1).mono ?_
    rintro e w2 ⟨rfl, hb2⟩
    have hg2 : gX < w2.heap.size := Nat.lt_of_lt_of_le (heap_lt HX1.out) hb2.size
    have HB2 : Hid (Below w.heap.size w w2) := hide (HB1.out.trans (hb2.mono HB1.out.size))
    have HC2 := hide (HC1.out.below (heap_lt HC1.out) hb2)
    have HR2 := hide (HR1.out.below (heap_lt HR1.out) hb2)
    have HX2 := hide (HX1.out.below (heap_lt HX1.out) hb2)
    clear hb2 HB1 HC1 HR1 HX1 c1 c2 c3 c4 c5 c6 c7 c8 d1 d2 d3 d4 HBE
    go_wp2
    generalize hW3 : w2.alloc (.cells #[.int .i64 y1, .int .i64 y2, .int .i64 y3, .int .i64 y4] 47) = W3
    have HB3 : Hid (Below w.heap.size w W3) := hide (hW3 ▸ HB2.out.alloc HB2.out.size _)
    have HC3 : Hid (BlkC W3 w.heap.size ⟨.slice a len cap, .slice a2 len2 cap2, ⟨q1, q2, q3, q4⟩, (lo : Int), (hi : Int)⟩) := hide (hW3 ▸ (Below.heap_alloc _ _ _ (heap_lt HC2.out)).trans HC2.out)
    have HR3 : Hid (BlkB W3 (w.heap.size + 1) (.slice none 0 0) (.slice none 0 0)) := hide (hW3 ▸ (Below.heap_alloc _ _ _ (heap_lt HR2.out)).trans HR2.out)
    have HX3 : Hid (BlkG W3 gX ⟨q1, fr, to, am⟩) := hide (hW3 ▸ (Below.heap_alloc _ _ _ (heap_lt HX2.out)).trans HX2.out)
    have HY3 : Hid (BlkP W3 w2.heap.size ⟨y1, y2, y3, y4⟩) := hide (hW3 ▸ heap_alloc_new _ _)
    generalize w2.heap.size = gY at *
    clear hW3 HB2 HC2 HR2 HX2
    obtain ⟨d1, d2, d3, d4⟩ := HY3.out.cells
    simp only [Nat.zero_add] at d1 d2 d3 d4
    refine HK3.out _ _ ?_
    clear HK3
    refine wp_seq_k (fun K4 hK4 => ?_)
    have HK4 := hide hK4
    clear hK4
    go_wp2_with fail
    refine (HBY.out W3).mono ?_
    rintro e v ⟨rfl, hb4⟩
    have HB4 : Hid (Below w.heap.size w v) := hide (HB3.out.trans (hb4.mono HB3.out.size))
    have HC4 := hide (HC3.out.below (heap_lt HC3.out) hb4)
    have HR4 := hide (HR3.out.below (heap_lt HR3.out) hb4)
    have HX4 := hide (HX3.out.below (heap_lt HX3.out) hb4)
    have HY4 := hide (HY3.out.below (heap_lt HY3.out) hb4)
    clear hb4 HB3 HC3 HR3 HX3 HY3 d1 d2 d3 d4 HBY
    obtain ⟨r1, r2⟩ := HR4.out.cells
    have fr0 := HR4.out.froz
    cases hE : beyB ⟨y1, y2, y3, y4⟩
    · have HE := hide hE
      clear hE
      go_wp2
      refine HK4.out _ _ ?_
      clear HK4 r1 r2 fr0
      have HKD : Hid (∀ W, Below v.heap.size v W → (W.cell? ⟨w.heap.size, 0, none⟩ = some (.slice a len cap) ∧ W.cell? ⟨w.heap.size, 1, none⟩ = some (.slice a2 len2 cap2) ∧ W.cell? ⟨w.heap.size, 2, none⟩ = some (.int .i64 q1) ∧ W.cell? ⟨w.heap.size, 3, none⟩ = some (.int .i64 q2) ∧ W.cell? ⟨w.heap.size, 4, none⟩ = some (.int .i64 q3) ∧ W.cell? ⟨w.heap.size, 5, none⟩ = some (.int .i64 q4) ∧ W.cell? ⟨w.heap.size, 6, none⟩ = some (.int .i64 (lo : Int)) ∧ W.cell? ⟨w.heap.size, 7, none⟩ = some (.int .i64 (hi : Int)) ∧ W.cell? ⟨gX, 0, none⟩ = some (.int .i64 q1) ∧ W.cell? ⟨gX, 1, none⟩ = some (.int .u8 fr) ∧ W.cell? ⟨gX, 2, none⟩ = some (.int .u8 to) ∧ W.cell? ⟨gX, 3, none⟩ = some (.int .i64 am) ∧ W.cell? ⟨gY, 0, none⟩ = some (.int .i64 y1) ∧ W.cell? ⟨gY, 1, none⟩ = some (.int .i64 y2) ∧ W.cell? ⟨gY, 2, none⟩ = some (.int .i64 y3) ∧ W.cell? ⟨gY, 3, none⟩ = some (.int .i64 y4))) := hide (fun W hW => by
        obtain ⟨c1, c2, c3, c4, c5, c6, c7, c8⟩ := (HC4.out.below (heap_lt HC4.out) hW).cells
        obtain ⟨d1, d2, d3, d4⟩ := (HX4.out.below (heap_lt HX4.out) hW).cells
        obtain ⟨e1, e2, e3, e4⟩ := (HY4.out.below (heap_lt HY4.out) hW).cells
        simp only [Nat.zero_add] at d1 d2 d3 d4 e1 e2 e3 e4
        exact ⟨c1, c2, c3, c4, c5, c6, c7, c8, d1, d2, d3, d4, e1, e2, e3, e4⟩)
      have HKE : Hid (∀ W, Below v.heap.size v W → ∀ u1 u2 : Value, (((W.setCell ⟨w.heap.size + 1, 0, none⟩ u1).setCell ⟨w.heap.size + 1, 1, none⟩ u2).cell? ⟨w.heap.size, 0, none⟩ = some (.slice a len cap) ∧ ((W.setCell ⟨w.heap.size + 1, 0, none⟩ u1).setCell ⟨w.heap.size + 1, 1, none⟩ u2).cell? ⟨w.heap.size, 1, none⟩ = some (.slice a2 len2 cap2) ∧ ((W.setCell ⟨w.heap.size + 1, 0, none⟩ u1).setCell ⟨w.heap.size + 1, 1, none⟩ u2).cell? ⟨w.heap.size, 2, none⟩ = some (.int .i64 q1) ∧ ((W.setCell ⟨w.heap.size + 1, 0, none⟩ u1).setCell ⟨w.heap.size + 1, 1, none⟩ u2).cell? ⟨w.heap.size, 3, none⟩ = some (.int .i64 q2) ∧ ((W.setCell ⟨w.heap.size + 1, 0, none⟩ u1).setCell ⟨w.heap.size + 1, 1, none⟩ u2).cell? ⟨w.heap.size, 4, none⟩ = some (.int .i64 q3) ∧ ((W.setCell ⟨w.heap.size + 1, 0, none⟩ u1).setCell ⟨w.heap.size + 1, 1, none⟩ u2).cell? ⟨w.heap.size, 5, none⟩ = some (.int .i64 q4) ∧ ((W.setCell ⟨w.heap.size + 1, 0, none⟩ u1).setCell ⟨w.heap.size + 1, 1, none⟩ u2).cell? ⟨w.heap.size, 6, none⟩ = some (.int .i64 (lo : Int)) ∧ ((W.setCell ⟨w.heap.size + 1, 0, none⟩ u1).setCell ⟨w.heap.size + 1, 1, none⟩ u2).cell? ⟨w.heap.size, 7, none⟩ = some (.int .i64 (hi : Int)) ∧ ((W.setCell ⟨w.heap.size + 1, 0, none⟩ u1).setCell ⟨w.heap.size + 1, 1, none⟩ u2).cell? ⟨gX, 0, none⟩ = some (.int .i64 q1) ∧ ((W.setCell ⟨w.heap.size + 1, 0, none⟩ u1).setCell ⟨w.heap.size + 1, 1, none⟩ u2).cell? ⟨gX, 1, none⟩ = some (.int .u8 fr) ∧ ((W.setCell ⟨w.heap.size + 1, 0, none⟩ u1).setCell ⟨w.heap.size + 1, 1, none⟩ u2).cell? ⟨gX, 2, none⟩ = some (.int .u8 to) ∧ ((W.setCell ⟨w.heap.size + 1, 0, none⟩ u1).setCell ⟨w.heap.size + 1, 1, none⟩ u2).cell? ⟨gX, 3, none⟩ = some (.int .i64 am) ∧ ((W.setCell ⟨w.heap.size + 1, 0, none⟩ u1).setCell ⟨w.heap.size + 1, 1, none⟩ u2).cell? ⟨gY, 0, none⟩ = some (.int .i64 y1) ∧ ((W.setCell ⟨w.heap.size + 1, 0, none⟩ u1).setCell ⟨w.heap.size + 1, 1, none⟩ u2).cell? ⟨gY, 1, none⟩ = some (.int .i64 y2) ∧ ((W.setCell ⟨w.heap.size + 1, 0, none⟩ u1).setCell ⟨w.heap.size + 1, 1, none⟩ u2).cell? ⟨gY, 2, none⟩ = some (.int .i64 y3) ∧ ((W.setCell ⟨w.heap.size + 1, 0, none⟩ u1).setCell ⟨w.heap.size + 1, 1, none⟩ u2).cell? ⟨gY, 3, none⟩ = some (.int .i64 y4))) := hide (fun W hW u1 u2 => by
        have hx : gX = w.heap.size + 2 := HSX.out
        obtain ⟨c1, c2, c3, c4, c5, c6, c7, c8⟩ := (((HC4.out.below (heap_lt HC4.out) hW).other (g' := w.heap.size + 1) (j := 0) (by omega) u1).other (g' := w.heap.size + 1) (j := 1) (by omega) u2).cells
        obtain ⟨d1, d2, d3, d4⟩ := (((HX4.out.below (heap_lt HX4.out) hW).other (g' := w.heap.size + 1) (j := 0) (by omega) u1).other (g' := w.heap.size + 1) (j := 1) (by omega) u2).cells
        obtain ⟨e1, e2, e3, e4⟩ := (((HY4.out.below (heap_lt HY4.out) hW).other (g' := w.heap.size + 1) (j := 0) (by omega) u1).other (g' := w.heap.size + 1) (j := 1) (by omega) u2).cells
        simp only [Nat.zero_add] at d1 d2 d3 d4 e1 e2 e3 e4
        exact ⟨c1, c2, c3, c4, c5, c6, c7, c8, d1, d2, d3, d4, e1, e2, e3, e4⟩)
      have HKA := hide (HKD.out v.drew (Below.refl _ _).drew)
      have HG4 := hide (HG.out.below' HB4.out)
      have HKB := hide (fun o => HKD.out (v.alloc o).drew ((Below.refl _ _).alloc (Nat.le_refl _) o).drew)
      have HKC := hide (fun o o' => HKD.out ((v.alloc o).alloc o').drew (((Below.refl _ _).alloc (Nat.le_refl _) o).alloc (by simp) o').drew)
      have HFIN : Hid (∀ a' c' b' d' w'', Below v.heap.size v w'' → NewA v.heap.size a' → NewA v.heap.size b' → IsP w'' a' PW.length c' PW → IsG w'' b' (len2 + 1) d' (G ++ [⟨q1, fr, to, am⟩]) → PostP PW (G ++ [⟨q1, fr, to, am⟩]) len2 ⟨y1, y2, y3, y4⟩ w (.returned (.tuple #[.agg #[.slice a' PW.length c', .slice b' (len2 + 1) d'], .int .i64 0])) ((w''.setCell ⟨w.heap.size + 1, 0, none⟩ (.slice a' PW.length c')).setCell ⟨w.heap.size + 1, 1, none⟩ (.slice b' (len2 + 1) d'))) := hide (fun a' c' b' d' w'' hb hna hnb hp hg => by
        have hl : (G ++ [(⟨q1, fr, to, am⟩ : Pg)]).length = len2 + 1 := hg.1
        have hr := heap_lt HR4.out
        refine ⟨put2b_below (HB4.out.trans (hb.mono HB4.out.size)) (by omega) _ _, .inr (.inr ⟨a', c', b', d', by rw [hl], HM.out, HE.out, (hp.off hna hr _).off hna hr _, ?_, hna.mono HB4.out.size, hnb.mono HB4.out.size⟩)⟩
        rw [hl]
        exact (hg.off hnb hr _).off hnb hr _)
      have HW0 : Hid (Below v.heap.size v v.drew) := hide (Below.refl _ _).drew
      have HW1 : Hid (∀ o, Below v.heap.size v (v.alloc o).drew) := hide (fun o => ((Below.refl _ _).alloc (Nat.le_refl _) o).drew)
      have HW2 : Hid (∀ o o', Below v.heap.size v ((v.alloc o).alloc o').drew) := hide (fun o o' => (((Below.refl _ _).alloc (Nat.le_refl _) o).alloc (by simp) o').drew)
      have HPX : Hid (∀ W, Below v.heap.size v W → Calls Tryd.prog 49 #[.agg #[.slice a len cap, .slice a2 len2 cap2, .int .i64 q1, .int .i64 q2, .int .i64 q3, .int .i64 q4, .int .i64 (lo : Int), .int .i64 (hi : Int)], .agg #[.int .i64 y1, .int .i64 y2, .int .i64 y3, .int .i64 y4]] W fun e w' => ∃ a' c', e = .returned (.slice a' PW.length c') ∧ Hid (IsP w' a' PW.length c' PW) ∧ Hid (Below W.heap.size W w') ∧ Hid (Below v.heap.size v w' ∧ NewA v.heap.size a')) := hide (fun W hW => (HPWA.out HE.out W ((HP.out.below' HB4.out).below' hW)).mono (by
        rintro e w' ⟨a', c', rfl, h1, h2, h3⟩
        exact ⟨a', c', rfl, hide h1, hide h2, hide ⟨hW.trans (h2.mono hW.size), h3.out.mono hW.size⟩⟩))
      go_wp2_with fail
      go_region_held (fun W : World => (W.cell? ⟨w.heap.size, 0, none⟩ = some (.slice a len cap) ∧ W.cell? ⟨w.heap.size, 1, none⟩ = some (.slice a2 len2 cap2) ∧ W.cell? ⟨w.heap.size, 2, none⟩ = some (.int .i64 q1) ∧ W.cell? ⟨w.heap.size, 3, none⟩ = some (.int .i64 q2) ∧ W.cell? ⟨w.heap.size, 4, none⟩ = some (.int .i64 q3) ∧ W.cell? ⟨w.heap.size, 5, none⟩ = some (.int .i64 q4) ∧ W.cell? ⟨w.heap.size, 6, none⟩ = some (.int .i64 (lo : Int)) ∧ W.cell? ⟨w.heap.size, 7, none⟩ = some (.int .i64 (hi : Int)) ∧ W.cell? ⟨gX, 0, none⟩ = some (.int .i64 q1) ∧ W.cell? ⟨gX, 1, none⟩ = some (.int .u8 fr) ∧ W.cell? ⟨gX, 2, none⟩ = some (.int .u8 to) ∧ W.cell? ⟨gX, 3, none⟩ = some (.int .i64 am) ∧ W.cell? ⟨gY, 0, none⟩ = some (.int .i64 y1) ∧ W.cell? ⟨gY, 1, none⟩ = some (.int .i64 y2) ∧ W.cell? ⟨gY, 2, none⟩ = some (.int .i64 y3) ∧ W.cell? ⟨gY, 3, none⟩ = some (.int .i64 y4))) (first | with_reducible exact HKA.out | with_reducible exact HKB.out _ | with_reducible exact HKC.out _ _ | with_reducible exact HKD.out _ HFt.out | with_reducible exact HKD.out _ HNt.out.1 | with_reducible exact HKD.out _ (HNt.out.1.alloc HNt.out.1.size _) | with_reducible exact HKD.out _ ((HNt.out.1.alloc HNt.out.1.size _).alloc (Nat.le_trans HNt.out.1.size (by simp)) _) | with_reducible exact HKE.out _ HFt.out _ _) (first | (go_at_call 49; refine (HPX.out _ (by first | exact HW0.out | exact HW1.out _ | exact HW2.out _ _)).mono ?_; rintro e w' ⟨a', c', rfl, HIt, HBt, HNt⟩) | (go_at_call 50; refine (by first | with_reducible exact tG1 HNt.out.1 HG4.out HOK.out HM.out | with_reducible exact tG2 HNt.out.1 (kX1 v _ _ _ _ HBt.out) HG4.out HOK.out HM.out | with_reducible exact tG3 HNt.out.1 (kX2 v _ _ _ _ _ _ _ HBt.out).1 (kX2 v _ _ _ _ _ _ _ HBt.out).2 HG4.out HOK.out HM.out : Calls _ _ _ _ (QG v w' len2 (G ++ [⟨q1, fr, to, am⟩]))).mono ?_; rintro e w'' ⟨b', d', rfl, HJt, HCt, HMt⟩; have HFt := hide (HNt.out.1.trans (HCt.out.mono HNt.out.1.size)); obtain ⟨r1, r2⟩ := (HR4.out.below (heap_lt HR4.out) HFt.out).cells; have fr0 := (HR4.out.below (heap_lt HR4.out) HFt.out).froz))
      all_goals
        clear HKA HKB HKC HKD HKE HW0 HW1 HW2 HPX
        go_wp2
        refine bodyPost_ret (res2b rfl _ ((w''.setCell ⟨w.heap.size + 1, 0, none⟩ (.slice a' PW.length c')).setCell ⟨w.heap.size + 1, 1, none⟩ (.slice b' (len2 + 1) d')) (w.heap.size + 1) (.slice a' PW.length c') (.slice b' (len2 + 1) d') (put2b_blk (HR4.out.below (heap_lt HR4.out) HFt.out) _ _) rfl) rfl ?_
        exact HFIN.out a' c' b' d' w'' HFt.out HNt.out.2 HMt.out (HIt.out.below' HCt.out) HJt.out
    · have HE := hide hE
      clear hE
      go_wp2
      refine bodyPost_ret (res2b rfl _ ((v.setCell ⟨w.heap.size + 1, 0, none⟩ (.slice none 0 0)).setCell ⟨w.heap.size + 1, 1, none⟩ (.slice none 0 0)) (w.heap.size + 1) (.slice none 0 0) (.slice none 0 0) (put2b_blk HR4.out _ _) rfl) rfl ?_
      exact ⟨put2b_below HB4.out (by omega) _ _, .inr (.inl ⟨rfl, HM.out, HE.out⟩)⟩
end Go.Proofs.YtffhkljegopjmaaDoor.Lg
