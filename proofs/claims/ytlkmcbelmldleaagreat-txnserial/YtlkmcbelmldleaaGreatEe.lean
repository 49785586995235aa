/- a transaction's steps done once more on plain entries -/
import Derived.Test.YtlkmcbelmldleaaGreatDx5
namespace Go.Proofs.YtlkmcbelmldleaaGreat
open Go.RowKit
set_option maxRecDepth 40000
set_option linter.unusedVariables false
set_option linter.unusedSimpArgs false
def Ra0 : Ra := ⟨⟨0, 0, ⟨#[]⟩, false, [], [], 0⟩, none, 0, 0, none, 0, 0⟩
theorem zip_drop (ss : List Sx) (ys : List Ra) (k : Nat) (h1 : k < ss.length) (h2 : k < ys.length) : ((ss.zip ys).map (fun p => (p.1, p.2.A))).drop k = (ss.getD k Sx0, (ys.getD k Ra0).A) :: ((ss.zip ys).map (fun p => (p.1, p.2.A))).drop (k + 1) := by
  rw [List.drop_eq_getElem_cons (by simp; omega)]
  congr 1
  simp [List.getD_eq_getElem?_getD, List.getElem?_eq_getElem h1, List.getElem?_eq_getElem h2]
theorem zip_end (ss : List Sx) (ys : List Ra) (n : Nat) (h1 : ss.length ≤ n) : ((ss.zip ys).map (fun p => (p.1, p.2.A))).drop n = [] := List.drop_of_length_le (by simp; omega)
theorem repL_cons {l l' : List Pr} {y : Sx × An} {r : List (Sx × An)} (h : repL l (y :: r) = some l') : ∃ q, rep1 l y = some q ∧ repL q r = some l' := by
  unfold repL at h
  cases hq : rep1 l y with
  | none => rw [hq] at h; cases h
  | some q => rw [hq] at h; exact ⟨q, rfl, h⟩
theorem isW_one {W : World} {g : Nat} {x1 x2 : ByteArray} {x3 : Bool} (h : Blk3 W g x1 x2 x3) : IsW W (some ⟨g, 0, none⟩) 1 1 [⟨x1, x2, x3⟩] := by
  obtain ⟨c0, c1, c2⟩ := h.cells
  refine ⟨rfl, Nat.le_refl _, by unfold maxLen; omega, fun i hi => ?_⟩
  obtain rfl : i = 0 := by omega
  exact ⟨g, 0, rfl, heap_lt h, c0, c1, c2⟩
theorem rep1_inv {l q : List Pr} {x : Sx} {A : An} (h : rep1 l (x, A) = some q) : (¬ A.why = 0 → q = l) ∧ (A.why = 0 → x.k = 2 → q = l ∧ valP (getP l x.key) = (A.val, A.is)) ∧ (A.why = 0 → x.k = 3 → q = l ∧ spanP l x.key x.to = A.pairs) ∧ (A.why = 0 → x.k = 4 → q = withP l ⟨x.key, x.val, false⟩) ∧ (A.why = 0 → x.k = 5 → q = withP l ⟨x.key, ⟨#[]⟩, true⟩) ∧ (A.why = 0 → ¬ x.k = 2 → ¬ x.k = 3 → ¬ x.k = 4 → ¬ x.k = 5 → q = l) := by
  unfold rep1 at h
  dsimp only at h
  refine ⟨fun h0 => ?_, fun h0 h1 => ?_, fun h0 h1 => ?_, fun h0 h1 => ?_, fun h0 h1 => ?_, fun h0 h1 h2 h3 h4 => ?_⟩
  · rw [if_pos h0] at h
    exact (Option.some.inj h).symm
  · rw [if_neg (fun e => e h0), if_pos h1] at h
    split at h
    · rename_i e
      exact ⟨(Option.some.inj h).symm, e⟩
    · cases h
  · rw [if_neg (fun e => e h0), if_neg (by rw [h1]; decide), if_pos h1] at h
    split at h
    · rename_i e
      exact ⟨(Option.some.inj h).symm, e⟩
    · cases h
  · rw [if_neg (fun e => e h0), if_neg (by rw [h1]; decide), if_neg (by rw [h1]; decide), if_pos h1] at h
    exact (Option.some.inj h).symm
  · rw [if_neg (fun e => e h0), if_neg (by rw [h1]; decide), if_neg (by rw [h1]; decide), if_neg (by rw [h1]; decide), if_pos h1] at h
    exact (Option.some.inj h).symm
  · rw [if_neg (fun e => e h0), if_neg h1, if_neg h2, if_neg h3, if_neg h4] at h
    exact (Option.some.inj h).symm
set_option maxHeartbeats 16000000 in
theorem replay_any (a : Option Addr) (len cap : Nat) (l l' : List Pr) (tx : Int) (sv yv : Value) (ss : List Sx) (ys : List Ra) (D : Nat → Prop) (w : World) (hL : IsP w a len cap l) (hnn : a = none → cap = 0) (hS : SrtP l) (hs : Cels w sv ss.length (ss.flatMap sxc)) (hy : Cels w yv ys.length (ys.flatMap rac)) (hone : ss.length = ys.length) (hans : ∀ y ∈ ys, OkA D w y) (hD : ∀ j, D j → j < w.heap.size) (hrep : repL l ((ss.zip ys).map (fun p => (p.1, p.2.A))) = some l') (hlen : len + ss.length ≤ 2000000) :
    Calls Tryz.prog 28 #[.slice a len cap, .agg #[.int .i64 tx, sv, yv]] w fun e w' => ∃ a' c', e = .returned (.tuple #[.slice a' l'.length c', .bool true]) ∧ IsP w' a' l'.length c' l' ∧ (a' = none → c' = 0) ∧ (a' = a ∨ ∀ b, a' = some b → w.heap.size ≤ b.block) ∧ Below w.heap.size w w' := by
  obtain ⟨sb, sc, rfl, s1, s2, s3, s4⟩ := hs
  obtain ⟨yb, yc, rfl, t1, t2, t3, t4⟩ := hy
  have hscm : sc ≤ 9223372036854775807 := s2
  have hycm : yc ≤ 9223372036854775807 := t2
  obtain ⟨n, hn⟩ : ∃ n, ss.length = n := ⟨_, rfl⟩
  have hn2 : ys.length = n := by rw [← hone]; exact hn
  rw [hn] at s1 hlen ⊢
  rw [hn2] at t1 ⊢
  have HNS := hide hn
  have HNY := hide hn2
  have HS4 := hide s4
  have HT4 := hide t4
  have HSB := hide s3
  have HYB := hide t3
  have HANS := hide hans
  have HD := hide hD
  clear s2 t2 s3 t3 s4 t4 hone hn hn2 hans hD
  generalize hst : ((ss.zip ys).map (fun p => (p.1, p.2.A))) = st at *
  have HST : Hid (∀ k, k < n → st.drop k = (ss.getD k Sx0, (ys.getD k Ra0).A) :: st.drop (k + 1)) := hide (fun k hk => by rw [← hst]; exact zip_drop ss ys k (by rw [HNS.out]; exact hk) (by rw [HNY.out]; exact hk))
  have HSE : Hid (st.drop n = []) := hide (by rw [← hst]; exact zip_end ss ys n (Nat.le_of_eq HNS.out))
  clear hst
  have HB0 : Hid (Below w.heap.size w (w.alloc (.cells #[.int .i64 tx, .slice (some ⟨sb, 0, none⟩) n sc, .slice (some ⟨yb, 0, none⟩) n yc] 71))) := hide ((Below.refl _ w).alloc (Nat.le_refl _) _)
  have HX0 : Hid ((w.alloc (.cells #[.int .i64 tx, .slice (some ⟨sb, 0, none⟩) n sc, .slice (some ⟨yb, 0, none⟩) n yc] 71)).heap[w.heap.size]? = some (.cells #[.int .i64 tx, .slice (some ⟨sb, 0, none⟩) n sc, .slice (some ⟨yb, 0, none⟩) n yc] 71 (0, 0))) := hide (heap_alloc_new _ _)
  have HS0 : Hid ((w.alloc (.cells #[.int .i64 tx, .slice (some ⟨sb, 0, none⟩) n sc, .slice (some ⟨yb, 0, none⟩) n yc] 71)).heap.size = w.heap.size + 1) := hide (by simp)
  have HI0 : Hid (IsP (w.alloc (.cells #[.int .i64 tx, .slice (some ⟨sb, 0, none⟩) n sc, .slice (some ⟨yb, 0, none⟩) n yc] 71)) a len cap l ∧ (a = none → cap = 0) ∧ SrtP l ∧ repL l (st.drop 0) = some l') := hide ⟨hL.below HB0.out, hnn, hS, hrep⟩
  clear hL hnn hS hrep
  go_enter Tryz.func28, Tryz.ntmps28
  generalize hV : w.alloc (.cells #[.int .i64 tx, .slice (some ⟨sb, 0, none⟩) n sc, .slice (some ⟨yb, 0, none⟩) n yc] 71) = V at *
  have c1 : V.cell? ⟨w.heap.size, 1, none⟩ = some (.slice (some ⟨sb, 0, none⟩) n sc) := cell_blk HX0.out rfl
  have c2 : V.cell? ⟨w.heap.size, 2, none⟩ = some (.slice (some ⟨yb, 0, none⟩) n yc) := cell_blk HX0.out rfl
  go_wp2
  try rw [hV]
  clear c1 c2
  go_loopw [0, 16] (fun v0 v16 wr => ∃ (k : Nat) (a0 : Option Addr) (n0 c0 : Nat) (cur : List Pr), k ≤ n ∧ v0 = .slice a0 n0 c0 ∧ v16 = .int .i64 (k : Nat) ∧ Hid (IsP wr a0 n0 c0 cur ∧ (a0 = none → c0 = 0) ∧ SrtP cur ∧ repL cur (st.drop k) = some l' ∧ n0 + (n - k) ≤ 2000000 ∧ Below (w.heap.size + 1) V wr ∧ (a0 = a ∨ ∀ b, a0 = some b → w.heap.size ≤ b.block))) (fun _ v16 _ => n - (intOf v16).toNat)
  case atStart => exact ⟨0, a, len, cap, l, Nat.zero_le _, rfl, rfl, hide ⟨HI0.out.1, HI0.out.2.1, HI0.out.2.2.1, HI0.out.2.2.2, by omega, Below.refl _ _, .inl rfl⟩⟩
  case round =>
    obtain ⟨k, a0, n0, c0, cur, hk, rfl, rfl, HI⟩ := hrel
    clear HI0
    have HXr : Hid (wr.heap[w.heap.size]? = some (.cells #[.int .i64 tx, .slice (some ⟨sb, 0, none⟩) n sc, .slice (some ⟨yb, 0, none⟩) n yc] 71 (0, 0))) := hide ((HI.out.2.2.2.2.2.1.block _ (Nat.lt_succ_self _)).trans HX0.out)
    have HBw : Hid (Below w.heap.size w wr) := hide (HB0.out.trans (HI.out.2.2.2.2.2.1.mono (Nat.le_succ _)))
    by_cases hlt : k < n
    · obtain ⟨q, r1, r2⟩ := repL_cons (by have h := HI.out.2.2.2.1; rw [HST.out k hlt] at h; exact h)
      have sAt : ∀ j u, j < 5 → (sxc (ss.getD k Sx0))[j]? = some u → wr.cell? ⟨sb, k * 5 + j, none⟩ = some u := fun j u hj hu => (World.cell?_of_block (HBw.out.block _ HSB.out)).trans (HS4.out _ u (by rw [flat_atM sxc 5 (fun _ => rfl) Sx0 ss k j (by rw [HNS.out]; exact hlt) hj]; exact hu))
      have yAt : ∀ j u, j < 7 → (rac (ys.getD k Ra0))[j]? = some u → wr.cell? ⟨yb, k * 7 + j, none⟩ = some u := fun j u hj hu => (World.cell?_of_block (HBw.out.block _ HYB.out)).trans (HT4.out _ u (by rw [flat_atM rac 7 (fun _ => rfl) Ra0 ys k j (by rw [HNY.out]; exact hlt) hj]; exact hu))
      have HOK : Hid (OkA D w (ys.getD k Ra0)) := hide (HANS.out _ (by rw [List.getD_eq_getElem?_getD, List.getElem?_eq_getElem (by rw [HNY.out]; exact hlt)]; exact List.getElem_mem _))
      generalize ss.getD k Sx0 = x at *
      generalize ys.getD k Ra0 = y at *
      obtain ⟨x1, x2, x3, x4, x5⟩ := x
      obtain ⟨⟨y1, y2, y3, y4, y5, y6, y7⟩, ap, np, cp, ad, nd, cd⟩ := y
      have s0 := sAt 0 _ (by omega) rfl
      have s1' := sAt 1 _ (by omega) rfl
      have s2' := sAt 2 _ (by omega) rfl
      have s3' := sAt 3 _ (by omega) rfl
      have s4' := sAt 4 _ (by omega) rfl
      have u0 := yAt 0 _ (by omega) rfl
      have u1 := yAt 1 _ (by omega) rfl
      have u2 := yAt 2 _ (by omega) rfl
      have u3 := yAt 3 _ (by omega) rfl
      have u4 := yAt 4 _ (by omega) rfl
      have u5 := yAt 5 _ (by omega) rfl
      have u6 := yAt 6 _ (by omega) rfl
      clear sAt yAt
      simp only [Nat.add_zero] at s0 u0
      have HR1 := hide r1
      have HR2 := hide r2
      clear r1 r2
      have hw1 : IntKind.i64.wrap ((k : Int) + 1) = (k : Int) + 1 := wr64' (by omega) (by omega)
      have hi4 : (0 : Int) ≤ (k : Int) := by omega
      have hiI : (k : Int) < (n : Int) := by omega
      have HBa : Hid (Below wr.heap.size wr ((wr.alloc (.cells #[.int .u8 (x1 : Nat), .int .i64 x2, .string x3, .string x4, .string x5] 40)).alloc (.cells #[.int .i64 y1, .int .i64 y2, .string y3, .bool y4, .slice ap np cp, .slice ad nd cd, .int .u64 (y7 : Nat)] 47))) := hide (((Below.refl _ wr).alloc (Nat.le_refl _) _).alloc (by simp) _)
      have HP1 : Hid (((wr.alloc (.cells #[.int .u8 (x1 : Nat), .int .i64 x2, .string x3, .string x4, .string x5] 40)).alloc (.cells #[.int .i64 y1, .int .i64 y2, .string y3, .bool y4, .slice ap np cp, .slice ad nd cd, .int .u64 (y7 : Nat)] 47)).heap[wr.heap.size]? = some (.cells #[.int .u8 (x1 : Nat), .int .i64 x2, .string x3, .string x4, .string x5] 40 (0, 0))) := hide ((Below.heap_alloc _ _ _ (by simp)).trans (heap_alloc_new _ _))
      have HP2 : Hid (((wr.alloc (.cells #[.int .u8 (x1 : Nat), .int .i64 x2, .string x3, .string x4, .string x5] 40)).alloc (.cells #[.int .i64 y1, .int .i64 y2, .string y3, .bool y4, .slice ap np cp, .slice ad nd cd, .int .u64 (y7 : Nat)] 47)).heap[wr.heap.size + 1]? = some (.cells #[.int .i64 y1, .int .i64 y2, .string y3, .bool y4, .slice ap np cp, .slice ad nd cd, .int .u64 (y7 : Nat)] 47 (0, 0))) := hide (by
        have := heap_alloc_new (wr.alloc (.cells #[.int .u8 (x1 : Nat), .int .i64 x2, .string x3, .string x4, .string x5] 40)) (.cells #[.int .i64 y1, .int .i64 y2, .string y3, .bool y4, .slice ap np cp, .slice ad nd cd, .int .u64 (y7 : Nat)] 47)
        rwa [show (wr.alloc (.cells #[.int .u8 (x1 : Nat), .int .i64 x2, .string x3, .string x4, .string x5] 40)).heap.size = wr.heap.size + 1 by simp] at this)
      have HVa : Hid (Below (w.heap.size + 1) V ((wr.alloc (.cells #[.int .u8 (x1 : Nat), .int .i64 x2, .string x3, .string x4, .string x5] 40)).alloc (.cells #[.int .i64 y1, .int .i64 y2, .string y3, .bool y4, .slice ap np cp, .slice ad nd cd, .int .u64 (y7 : Nat)] 47))) := hide (HI.out.2.2.2.2.2.1.trans (HBa.out.mono (by rw [← HS0.out]; exact HI.out.2.2.2.2.2.1.size)))
      have HLa := hide (HI.out.1.below HBa.out)
      have HQ : Hid ((a0 = none → c0 = 0) ∧ SrtP cur ∧ n0 + (n - k) ≤ 2000000 ∧ cur.length = n0) := hide ⟨HI.out.2.1, HI.out.2.2.1, HI.out.2.2.2.2.1, HI.out.1.1⟩
      have HNW := hide HI.out.2.2.2.2.2.2
      have HOA : Hid (∀ W, Below w.heap.size w W → IsP W ap np cp y5) := hide (fun W hW => (HOK.out W (fun j hj => hW.block j (HD.out j hj))).1)
      have c1 : wr.cell? ⟨w.heap.size, 2, none⟩ = some (.slice (some ⟨yb, 0, none⟩) n yc) := cell_blk HXr.out rfl
      have HWV : Hid (w.heap.size + 1 ≤ wr.heap.size) := hide (by rw [← HS0.out]; exact HI.out.2.2.2.2.2.1.size)
      have c1a : (wr.alloc (.cells #[.int .u8 (x1 : Nat), .int .i64 x2, .string x3, .string x4, .string x5] 40)).cell? ⟨w.heap.size, 2, none⟩ = some (.slice (some ⟨yb, 0, none⟩) n yc) := (World.cell?_of_block (Below.heap_alloc _ _ _ (by have := HWV.out; simp; omega))).trans c1
      have HUA : Hid (∀ j u, wr.cell? ⟨yb, j, none⟩ = some u → (wr.alloc (.cells #[.int .u8 (x1 : Nat), .int .i64 x2, .string x3, .string x4, .string x5] 40)).cell? ⟨yb, j, none⟩ = some u) := hide (fun j u hu => (World.cell?_of_block (Below.heap_alloc _ _ _ (by have := HYB.out; have := HWV.out; simp; omega))).trans hu)
      have v0 := HUA.out _ _ u0
      have v1 := HUA.out _ _ u1
      have v2 := HUA.out _ _ u2
      have v3 := HUA.out _ _ u3
      have v4 := HUA.out _ _ u4
      have v5 := HUA.out _ _ u5
      have v6 := HUA.out _ _ u6
      clear HI HXr HOK HBa HUA u0 u1 u2 u3 u4 u5 u6
      generalize hP : (wr.alloc (.cells #[.int .u8 (x1 : Nat), .int .i64 x2, .string x3, .string x4, .string x5] 40)).alloc (.cells #[.int .i64 y1, .int .i64 y2, .string y3, .bool y4, .slice ap np cp, .slice ad nd cd, .int .u64 (y7 : Nat)] 47) = Vp at *
      have p0 : Vp.cell? ⟨wr.heap.size, 0, none⟩ = some (.int .u8 (x1 : Nat)) := cell_blk HP1.out rfl
      have p2 : Vp.cell? ⟨wr.heap.size, 2, none⟩ = some (.string x3) := cell_blk HP1.out rfl
      have p3 : Vp.cell? ⟨wr.heap.size, 3, none⟩ = some (.string x4) := cell_blk HP1.out rfl
      have p4 : Vp.cell? ⟨wr.heap.size, 4, none⟩ = some (.string x5) := cell_blk HP1.out rfl
      have q0 : Vp.cell? ⟨wr.heap.size + 1, 0, none⟩ = some (.int .i64 y1) := cell_blk HP2.out rfl
      have q2 : Vp.cell? ⟨wr.heap.size + 1, 2, none⟩ = some (.string y3) := cell_blk HP2.out rfl
      have q3 : Vp.cell? ⟨wr.heap.size + 1, 3, none⟩ = some (.bool y4) := cell_blk HP2.out rfl
      have q4 : Vp.cell? ⟨wr.heap.size + 1, 4, none⟩ = some (.slice ap np cp) := cell_blk HP2.out rfl
      have HINV := hide (rep1_inv HR1.out)
      dsimp only at HINV
      clear HR1
      by_cases hw : y1 = 0
      · subst hw
        by_cases k2 : x1 = 2
        · have p2b : ((x1 : Int) == 2) = true := by simp; omega
          have p2c : (x1 == 2) = true := by simp; omega
          have p2d : decide ((x1 : Int) = 2) = true := decide_eq_true (by omega)
          have HQE := hide (HINV.out.2.1 rfl k2).1
          have HG := hide (rget54_any a0 n0 c0 cur x3 Vp HLa.out)
          rw [(HINV.out.2.1 rfl k2).2] at HG
          try dsimp only at HG
          clear HINV k2
          go_wp2_with fail
          refine HG.out.mono ?_
          rintro e V2 ⟨rfl, hb⟩
          have HVb := hide (HVa.out.trans (hb.mono (by rw [← HS0.out]; exact HVa.out.size)))
          have HLb := hide (HLa.out.below hb)
          have t2 : V2.cell? ⟨wr.heap.size + 1, 2, none⟩ = some (.string y3) := (World.cell?_of_block (hb.block _ (heap_lt HP2.out))).trans q2
          have t3 : V2.cell? ⟨wr.heap.size + 1, 3, none⟩ = some (.bool y4) := (World.cell?_of_block (hb.block _ (heap_lt HP2.out))).trans q3
          have hyy : (y3.toList == y3.toList) = true := by simp
          have hyb : (y4 == y4) = true := by simp
          clear hb HG q2 q3
          go_wp2
          go_roundw
          case rel => exact ⟨k + 1, a0, n0, c0, cur, by omega, rfl, by simp, hide ⟨HLb.out, HQ.out.1, HQ.out.2.1, by rw [← HQE.out]; exact HR2.out, by have := HQ.out.2.2.1; omega, HVb.out, HNW.out⟩⟩
          case measure => simp [intOf]; omega
        · have n2a : ¬ (x1 : Int) = 2 := by omega
          have n2b : ((x1 : Int) == 2) = false := by simp; omega
          have n2c : (x1 == 2) = false := by simp; omega
          have n2d : decide ((x1 : Int) = 2) = false := decide_eq_false (by omega)
          by_cases k3 : x1 = 3
          · have p3b : ((x1 : Int) == 3) = true := by simp; omega
            have p3c : (x1 == 3) = true := by simp; omega
            have p3d : decide ((x1 : Int) = 3) = true := decide_eq_true (by omega)
            have HQE := hide (HINV.out.2.2.1 rfl k3).1
            have HG := hide (rscan55_any a0 n0 c0 cur x3 x4 Vp HLa.out (by have := HQ.out.2.2.1; omega))
            rw [(HINV.out.2.2.1 rfl k3).2] at HG
            try dsimp only at HG
            clear HINV k3
            go_wp2_with fail
            refine HG.out.mono ?_
            rintro e V2 ⟨v, rfl, hr, hb⟩
            have HVb := hide (HVa.out.trans (hb.mono (by rw [← HS0.out]; exact HVa.out.size)))
            have HLb := hide (HLa.out.below hb)
            obtain ⟨av, cv, rfl⟩ := own_form hr
            have t4 : V2.cell? ⟨wr.heap.size + 1, 4, none⟩ = some (.slice ap np cp) := (World.cell?_of_block (hb.block _ (heap_lt HP2.out))).trans q4
            have HSM := hide (sameP_any av y5.length cv y5 ap np cp y5 V2 (own_isPP rfl hr) (HOA.out V2 (HB0.out.trans (HVb.out.mono (Nat.le_succ _)))))
            clear hb HG q4 hr
            go_wp2_with fail
            refine HSM.out.mono ?_
            rintro e V3 ⟨⟨r, rfl, hr⟩, hb⟩
            obtain rfl : r = true := hr.2 (by first | rfl | trivial)
            have HVc := hide (HVb.out.trans (hb.mono (by rw [← HS0.out]; exact HVb.out.size)))
            have HLc := hide (HLb.out.below hb)
            clear hb HSM hr t4
            go_wp2
            go_roundw
            case rel => exact ⟨k + 1, a0, n0, c0, cur, by omega, rfl, by simp, hide ⟨HLc.out, HQ.out.1, HQ.out.2.1, by rw [← HQE.out]; exact HR2.out, by have := HQ.out.2.2.1; omega, HVc.out, HNW.out⟩⟩
            case measure => simp [intOf]; omega
          · have n3a : ¬ (x1 : Int) = 3 := by omega
            have n3b : ((x1 : Int) == 3) = false := by simp; omega
            have n3c : (x1 == 3) = false := by simp; omega
            have n3d : decide ((x1 : Int) = 3) = false := decide_eq_false (by omega)
            by_cases k4 : x1 = 4
            · have p4b : ((x1 : Int) == 4) = true := by simp; omega
              have p4c : (x1 == 4) = true := by simp; omega
              have p4d : decide ((x1 : Int) = 4) = true := decide_eq_true (by omega)
              have HQE : Hid (q = withP cur ⟨x3, x5, false⟩) := hide (HINV.out.2.2.2.1 rfl k4)
              have HBz : Hid (Below Vp.heap.size Vp (Vp.alloc (.cells #[.string x3, .string x5, .bool false] 64))) := hide ((Below.refl _ Vp).alloc (Nat.le_refl _) _)
              have HNz : Hid (Blk3 (Vp.alloc (.cells #[.string x3, .string x5, .bool false] 64)) Vp.heap.size x3 x5 false) := hide (heap_alloc_new _ _)
              have HG := hide (all_any a0 n0 c0 cur (some ⟨Vp.heap.size, 0, none⟩) 1 1 [⟨x3, x5, false⟩] _ (HLa.out.below HBz.out) HQ.out.1 (isW_one HNz.out) (by have := HQ.out.2.2.1; omega))
              have HDW : Hid (docA cur [⟨x3, x5, false⟩] = q) := hide (by
                rw [HQE.out]
                exact docW_is ⟨x3, x5, false⟩ HQ.out.2.1)
              have HQS : Hid (SrtP q ∧ q.length ≤ n0 + 1) := hide (by
                rw [HQE.out]
                refine ⟨withP_srt HQ.out.2.1 _, ?_⟩
                have := allP_len [⟨x3, x5, false⟩] cur
                rw [← HQ.out.2.2.2]
                exact this)
              rw [HDW.out] at HG
              clear HINV k4
              go_wp2_with fail
              refine HG.out.mono ?_
              rintro e V2 ⟨v, rfl, hr, hb⟩
              have HVb := hide (HVa.out.trans ((HBz.out.trans (hb.mono HBz.out.size)).mono (by rw [← HS0.out]; exact HVa.out.size)))
              obtain ⟨av, cv, rfl⟩ := own_form hr
              have HLb := hide (own_isPP rfl hr)
              have HNN := hide (fun e => own_none hr e)
              have HNN3 : Hid (∀ b, av = some b → w.heap.size ≤ b.block) := hide (fun b hb' => by
                have h1 := (hr.lt b.block (by rw [hb']; rfl)).1
                have h2 := HBz.out.size
                have h3 := HVa.out.size
                have h4 := HS0.out
                omega)
              clear hb HG hr
              go_wp2
              go_roundw
              case rel => exact ⟨k + 1, av, q.length, cv, q, by omega, rfl, by simp, hide ⟨HLb.out, HNN.out, HQS.out.1, HR2.out, by have := HQ.out.2.2.1; have := HQS.out.2; omega, HVb.out, .inr HNN3.out⟩⟩
              case measure => simp [intOf]; omega
            · have n4a : ¬ (x1 : Int) = 4 := by omega
              have n4b : ((x1 : Int) == 4) = false := by simp; omega
              have n4c : (x1 == 4) = false := by simp; omega
              have n4d : decide ((x1 : Int) = 4) = false := decide_eq_false (by omega)
              by_cases k5 : x1 = 5
              · have p5b : ((x1 : Int) == 5) = true := by simp; omega
                have p5c : (x1 == 5) = true := by simp; omega
                have p5d : decide ((x1 : Int) = 5) = true := decide_eq_true (by omega)
                have HQE : Hid (q = withP cur ⟨x3, ⟨#[]⟩, true⟩) := hide (HINV.out.2.2.2.2.1 rfl k5)
                have HBz : Hid (Below Vp.heap.size Vp (Vp.alloc (.cells #[.string x3, .string ⟨#[]⟩, .bool true] 64))) := hide ((Below.refl _ Vp).alloc (Nat.le_refl _) _)
                have HNz : Hid (Blk3 (Vp.alloc (.cells #[.string x3, .string ⟨#[]⟩, .bool true] 64)) Vp.heap.size x3 ⟨#[]⟩ true) := hide (heap_alloc_new _ _)
                have HG := hide (all_any a0 n0 c0 cur (some ⟨Vp.heap.size, 0, none⟩) 1 1 [⟨x3, ⟨#[]⟩, true⟩] _ (HLa.out.below HBz.out) HQ.out.1 (isW_one HNz.out) (by have := HQ.out.2.2.1; omega))
                have HDW : Hid (docA cur [⟨x3, ⟨#[]⟩, true⟩] = q) := hide (by
                  rw [HQE.out]
                  exact docW_is ⟨x3, ⟨#[]⟩, true⟩ HQ.out.2.1)
                have HQS : Hid (SrtP q ∧ q.length ≤ n0 + 1) := hide (by
                  rw [HQE.out]
                  refine ⟨withP_srt HQ.out.2.1 _, ?_⟩
                  have := allP_len [⟨x3, ⟨#[]⟩, true⟩] cur
                  rw [← HQ.out.2.2.2]
                  exact this)
                rw [HDW.out] at HG
                clear HINV k5
                go_wp2_with fail
                refine HG.out.mono ?_
                rintro e V2 ⟨v, rfl, hr, hb⟩
                have HVb := hide (HVa.out.trans ((HBz.out.trans (hb.mono HBz.out.size)).mono (by rw [← HS0.out]; exact HVa.out.size)))
                obtain ⟨av, cv, rfl⟩ := own_form hr
                have HLb := hide (own_isPP rfl hr)
                have HNN := hide (fun e => own_none hr e)
                have HNN3 : Hid (∀ b, av = some b → w.heap.size ≤ b.block) := hide (fun b hb' => by
                  have h1 := (hr.lt b.block (by rw [hb']; rfl)).1
                  have h2 := HBz.out.size
                  have h3 := HVa.out.size
                  have h4 := HS0.out
                  omega)
                clear hb HG hr
                go_wp2
                go_roundw
                case rel => exact ⟨k + 1, av, q.length, cv, q, by omega, rfl, by simp, hide ⟨HLb.out, HNN.out, HQS.out.1, HR2.out, by have := HQ.out.2.2.1; have := HQS.out.2; omega, HVb.out, .inr HNN3.out⟩⟩
                case measure => simp [intOf]; omega
              · have n5a : ¬ (x1 : Int) = 5 := by omega
                have n5b : ((x1 : Int) == 5) = false := by simp; omega
                have n5c : (x1 == 5) = false := by simp; omega
                have n5d : decide ((x1 : Int) = 5) = false := decide_eq_false (by omega)
                have HQE := hide (HINV.out.2.2.2.2.2 rfl k2 k3 k4 k5)
                clear HINV k2 k3 k4 k5
                go_wp2
                go_roundw
                case rel => exact ⟨k + 1, a0, n0, c0, cur, by omega, rfl, by simp, hide ⟨HLa.out, HQ.out.1, HQ.out.2.1, by rw [← HQE.out]; exact HR2.out, by have := HQ.out.2.2.1; omega, HVa.out, HNW.out⟩⟩
                case measure => simp [intOf]; omega
      · have HQE := hide (HINV.out.1 hw)
        have hwb : (y1 == 0) = false := by simpa using hw
        have hwn : (y1 != 0) = true := by simpa using hw
        clear HINV
        go_wp2
        go_roundw
        case rel => exact ⟨k + 1, a0, n0, c0, cur, by omega, rfl, by simp, hide ⟨HLa.out, HQ.out.1, HQ.out.2.1, by rw [← HQE.out]; exact HR2.out, by have := HQ.out.2.2.1; omega, HVa.out, HNW.out⟩⟩
        case measure => simp [intOf]; omega
    · obtain rfl : k = n := by omega
      have hkI : ¬ (k : Int) < (k : Int) := by omega
      have HE : Hid (cur = l') := hide (by have := HI.out.2.2.2.1; rw [HSE.out] at this; exact Option.some.inj this)
      have HF : Hid (l'.length = n0) := hide (by rw [← HE.out]; exact HI.out.1.1)
      go_wp2
      go_ret2
      refine ⟨a0, c0, by rw [HF.out]; rfl, by rw [HF.out, ← HE.out]; exact HI.out.1, HI.out.2.1, HI.out.2.2.2.2.2.2, HBw.out⟩
end Go.Proofs.YtlkmcbelmldleaaGreat
