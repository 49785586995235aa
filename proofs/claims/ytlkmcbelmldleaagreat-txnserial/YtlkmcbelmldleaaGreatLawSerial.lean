/- TxnSerial, walked -/
import Derived.Test.YtlkmcbelmldleaaGreatEe
import Derived.Test.YtlkmcbelmldleaaGreatEg
import Derived.Test.YtlkmcbelmldleaaGreatDx5
import Derived.Test.YtlkmcbelmldleaaGreatCx6
namespace Go.Proofs.YtlkmcbelmldleaaGreat
open Go.RowKit Go.Shelf
set_option maxRecDepth 40000
set_option linter.unusedVariables false
set_option linter.unusedSimpArgs false
/-- what the first loop keeps -/
structure LS (B : Nat) (w0 w : World) (g : Nat) (l : List Pr) (k : Nat) (ms : Mg) (X D : Nat → Prop) (v1 v2 : Value) (os ds : List Tm) : Prop where
  ts : TS B w0 w g ms X D v1 v2 os ds
  ser : Ser l ms (os.map Tm.td) (ds.map Tm.td)
  bnd : BndA l (ds.map Tm.td)
  gd : Gd ms
  lo : Lens os k
  ld : Lens ds k
  no : os.length ≤ k
  nd : ds.length ≤ k
  last : ms.last ≤ k
  now : ms.now ≤ 1 + k
theorem Lens.mono {os : List Tm} {a b : Nat} (h : Lens os a) (hab : a ≤ b) : Lens os b := fun T hT => ⟨(h T hT).1, (h T hT).2.1, Nat.le_trans (h T hT).2.2 hab⟩
theorem take_succ {os : List Tm} {j : Nat} {T : Tm} (h : os[j]? = some T) (t : Int) : ofTx ((os.take (j + 1)).map Tm.td) t = ofTx ((os.take j).map Tm.td) t ++ (if T.tx = t then [T.td] else []) := by
  rw [List.take_add_one, h]
  unfold ofTx
  rw [List.map_append, List.filter_append]
  congr 1
  by_cases e : T.tx = t
  · rw [if_pos e]
    have : decide (T.td.tx = t) = true := decide_eq_true e
    simp [this]
  · rw [if_neg e]
    have : decide (T.td.tx = t) = false := decide_eq_false e
    simp [this]
theorem row_not {w : World} {B e s n b t : Nat} {v : Value} {xs : List Value} {ca : Array Value} {m : Nat × Nat} (h : w.ownsRow B e s v n xs) (hb : w.heap[b]? = some (.cells ca t m)) (ht : ¬ t = e) : ¬ v.ownBlock = some b := by
  intro hv
  rcases h.2 with ⟨rfl, _⟩ | ⟨g, cap, cur, rfl, _, hg, _⟩
  · simp [Value.ownBlock] at hv
  · obtain rfl : g = b := by simpa [Value.ownBlock] using hv
    rw [hb] at hg
    injection hg with hg
    injection hg with _ hg _
    exact ht hg
theorem isP_keep {w w' : World} {a : Option Addr} {n c : Nat} {l : List Pr} (h : IsP w a n c l) (hk : ∀ b, a = some b → b.block < w.heap.size → w'.heap[b.block]? = w.heap[b.block]?) (hs : w.heap.size ≤ w'.heap.size) : IsP w' a n c l := by
  refine ⟨h.1, h.2.1, h.2.2.1, fun i hi => ?_⟩
  obtain ⟨b, off, e, hlt, h1, h2⟩ := h.2.2.2 i hi
  have hb : w'.heap[b]? = w.heap[b]? := hk _ e hlt
  exact ⟨b, off, e, Nat.lt_of_lt_of_le hlt hs, (World.cell?_of_block hb).trans h1, (World.cell?_of_block hb).trans h2⟩
set_option maxHeartbeats 64000000 in
theorem serial_law (a : Option Addr) (len cap : Nat) (l : List Pr) (sa : Option Addr) (sn sc : Nat) (sl : List Sx) (w : World) (hL : IsP w a len cap l) (hnn : a = none → cap = 0) (hbig : len * 40 ≤ 140737488355328) (hS : IsSt w sa sn sc sl) (hsn : sn ≤ 1048576) :
    Calls Tryz.prog 5 #[.slice a len cap, .slice sa sn sc] w fun e w' => e = .returned (.bool true) ∧ Below w.heap.size w w' := by
  have HL := hide hL
  have HLN := hide hL.1
  have HNN := hide hnn
  have HSS := hide hS
  have hscm : sc ≤ 9223372036854775807 := hS.2.2.1
  have hsc := hS.2.1
  have HBIG := hide hbig
  clear hL hS hbig hnn
  go_enter Tryz.func5, Tryz.ntmps5
  go_wp2_with fail
  refine (lives_any _).mono ?_
  rintro e w0 ⟨rfl, hb0⟩
  have HB0 := hide hb0
  have HNW := hide (mn_new a len cap l w0 (HL.out.below hb0) HBIG.out)
  clear hb0
  go_wp2_with fail
  refine HNW.out.mono ?_
  rintro e w1 ⟨ptr, rfl, h1, h2, hb1⟩
  have HB1 := hide (HB0.out.trans (hb1.mono HB0.out.size))
  have HZ1 := hide hb1.size
  clear HNW
  by_cases hE : newE l = 0
  case neg =>
    obtain rfl := h2 hE
    clear h1 h2
    have hE2 : (newE l == 0) = false := by simpa using hE
    have hE3 : decide (newE l = 0) = false := decide_eq_false hE
    have hE4 : (newE l != 0) = true := by simpa using hE
    generalize newE l = E at *
    go_wp2
    go_ret
    exact ⟨by simp, HB1.out⟩
  case pos =>
    obtain ⟨g, rfl, hM⟩ := h1 hE
    rw [hE]
    rw [new_M hE] at hM
    have HLF := hide (new_few hE)
    have HGD0 := hide (gd_start hE)
    have HSR0 := hide (Ser.start hE)
    have HSP0 := hide (riseB_srt (newE_rise hE))
    have HM1 := hide hM
    clear h1 h2 hE hM hb1
    generalize hB : w0.heap.size = B at *
    have HWB : Hid (w.heap.size ≤ B) := hide (by rw [← hB]; exact HB0.out.size)
    clear hB
    have HT0 : Hid (LS B w1 w1 g l 0 ⟨1, vsN l, 1, 0, []⟩ (fun i => i < B) (fun _ => False) (.slice none 0 0) (.slice none 0 0) [] []) := hide ⟨⟨HM1.out, fun i hi => hi, fun i hi => hi.elim, World.ownsRow_nil _ _ _ _, fun j hj => (by simp [Value.ownBlock] at hj), World.ownsRow_nil _ _ _ _, fun j hj => (by simp [Value.ownBlock] at hj), fun j hj => (by simp [Value.ownBlock] at hj), fun T hT => (by cases hT), fun i j T U hi => (by simp at hi), fun T hT => (by cases hT), fun T hT => (by cases hT), Below.refl _ _, HZ1.out⟩, HSR0.out, HLF.out, HGD0.out, fun T hT => (by cases hT), fun T hT => (by cases hT), Nat.le_refl _, Nat.le_refl _, Nat.le_refl _, Nat.le_refl _⟩
    clear HM1 HGD0 HSR0
    go_wp2
    go_loopw [7, 8, 42] (fun v7 v8 v42 wr => ∃ (k : Nat) (ms : Mg) (X D : Nat → Prop) (os ds : List Tm), k ≤ sn ∧ v42 = .int .i64 (k : Nat) ∧ Hid (LS B w1 wr g l k ms X D v7 v8 os ds)) (fun _ _ v42 _ => sn - (intOf v42).toNat)
    case atStart => exact ⟨0, _, _, _, [], [], Nat.zero_le _, rfl, HT0⟩
    case round =>
      clear HT0
      obtain ⟨k, ms, X, D, os, ds, hk, rfl, HI⟩ := hrel
      obtain ⟨a7, c7, rfl⟩ := own_form HI.out.ts.r1
      obtain ⟨a8, c8, rfl⟩ := own_form HI.out.ts.r2
      have HI' : Hid (Below w.heap.size w wr) := hide (HB1.out.trans (HI.out.ts.lo.mono HWB.out))
      by_cases hlt : k < sn
      · obtain ⟨hti, b, off, rfl, hbs, z0', z1', z2', z3', z4'⟩ := (HSS.out.below HI'.out).2.2.2 k hlt
        generalize sl.getD k Sx0 = x at *
        obtain ⟨x1, x2, x3, x4, x5⟩ := x
        dsimp only at hti z0' z1' z2' z3' z4'
        have HTI := hide hti
        have hw1 : IntKind.i64.wrap ((k : Int) + 1) = (k : Int) + 1 := wr64' (by omega) (by omega)
        have hi4 : (0 : Int) ≤ (k : Int) := by omega
        have hiI : (k : Int) < (sn : Int) := by omega
        have HBa : Hid (Below wr.heap.size wr (wr.alloc (.cells #[.int .u8 (x1 : Nat), .int .i64 x2, .string x3, .string x4, .string x5] 40))) := hide ((Below.refl _ wr).alloc (Nat.le_refl _) _)
        have HNa : Hid ((wr.alloc (.cells #[.int .u8 (x1 : Nat), .int .i64 x2, .string x3, .string x4, .string x5] 40)).heap[wr.heap.size]? = some (.cells #[.int .u8 (x1 : Nat), .int .i64 x2, .string x3, .string x4, .string x5] 40 (0, 0))) := hide (heap_alloc_new _ _)
        have HTa := hide (HI.out.ts.below HBa.out)
        have HDO := hide (do_ans _ _ g ms HTa.out.mn x1 x2 hti x3 x4 x5 (by have := HI.out.last; omega) (by have := HI.out.now; omega))
        clear hti
        go_wp2_with fail
        refine HDO.out.mono ?_
        rintro e W2 ⟨v, A, Z, rfl, hA, hH, hZ, hM, hF⟩
        obtain ⟨y, rfl, rfl, hy⟩ := has_ra hH
        have HNb : Hid (W2.heap[wr.heap.size]? = some (.cells #[.int .u8 (x1 : Nat), .int .i64 x2, .string x3, .string x4, .string x5] 40 (0, 0))) := hide ((hF.block _ (by simp) (fun q => q (.inr ⟨Nat.le_refl _, by simp⟩))).trans HNa.out)
        have HTb := hide (HTa.out.did hM hZ hF)
        have HYb : Hid (OkA (fun j => D j ∨ Z j) W2 y) := hide (hy.step (fun j hj => .inr hj) (fun _ _ => rfl))
        have HAN := hide hA
        have HSV := hide HI.out.ser
        have HNM := hide (does_nums ms x1 x2 x3 x4 x5)
        have HGE := hide (HI.out.gd.does (by have := HI.out.now; omega) x1 x2 x3 x4 x5)
        have HWO := hide HI.out.ts.mn.srt
        have HNU := hide HI.out.ts.mn.nums
        have HLS := hide HI.out
        obtain ⟨X2, D2, hT2, hY2⟩ : ∃ X2 D2, Hid (TS B w1 W2 g (mDo ms x1 x2 x3 x4 x5) X2 D2 (.slice a7 os.length c7) (.slice a8 ds.length c8) os ds) ∧ Hid (OkA D2 W2 y) := ⟨_, _, HTb, HYb⟩
        clear hA hH hZ hM hF hy HTa HTb HYb HDO HNa HBa z0' z1' z2' z3' z4'
        obtain ⟨⟨y1, y2, y3, y4, y5, y6, y7⟩, ap, np, cp, ad, nd, cd⟩ := y
        have HBc : Hid (Below W2.heap.size W2 (W2.alloc (.cells #[.int .i64 y1, .int .i64 y2, .string y3, .bool y4, .slice ap np cp, .slice ad nd cd, .int .u64 (y7 : Nat)] 47))) := hide ((Below.refl _ W2).alloc (Nat.le_refl _) _)
        have HNc : Hid ((W2.alloc (.cells #[.int .i64 y1, .int .i64 y2, .string y3, .bool y4, .slice ap np cp, .slice ad nd cd, .int .u64 (y7 : Nat)] 47)).heap[W2.heap.size]? = some (.cells #[.int .i64 y1, .int .i64 y2, .string y3, .bool y4, .slice ap np cp, .slice ad nd cd, .int .u64 (y7 : Nat)] 47 (0, 0))) := hide (heap_alloc_new _ _)
        have HNd : Hid ((W2.alloc (.cells #[.int .i64 y1, .int .i64 y2, .string y3, .bool y4, .slice ap np cp, .slice ad nd cd, .int .u64 (y7 : Nat)] 47)).heap[wr.heap.size]? = some (.cells #[.int .u8 (x1 : Nat), .int .i64 x2, .string x3, .string x4, .string x5] 40 (0, 0))) := hide ((HBc.out.block _ (heap_lt HNb.out)).trans HNb.out)
        have HTc := hide (hT2.out.below HBc.out)
        have HYc : Hid (OkA D2 (W2.alloc (.cells #[.int .i64 y1, .int .i64 y2, .string y3, .bool y4, .slice ap np cp, .slice ad nd cd, .int .u64 (y7 : Nat)] 47)) (⟨⟨y1, y2, y3, y4, y5, y6, y7⟩, ap, np, cp, ad, nd, cd⟩ : Ra)) := hide (hY2.out.step (fun _ hd => hd) (fun j hj => HBc.out.block j (hT2.out.mn.xb j (hT2.out.dx j hj))))
        have HW2 : Hid (wr.heap.size < W2.heap.size) := hide (heap_lt HNb.out)
        generalize hW3 : W2.alloc (.cells #[.int .i64 y1, .int .i64 y2, .string y3, .bool y4, .slice ap np cp, .slice ad nd cd, .int .u64 (y7 : Nat)] 47) = W3 at *
        have p0 : W3.cell? ⟨wr.heap.size, 0, none⟩ = some (.int .u8 (x1 : Nat)) := cell_blk HNd.out rfl
        have p1 : W3.cell? ⟨wr.heap.size, 1, none⟩ = some (.int .i64 x2) := cell_blk HNd.out rfl
        have p2 : W3.cell? ⟨wr.heap.size, 2, none⟩ = some (.string x3) := cell_blk HNd.out rfl
        have p3 : W3.cell? ⟨wr.heap.size, 3, none⟩ = some (.string x4) := cell_blk HNd.out rfl
        have p4 : W3.cell? ⟨wr.heap.size, 4, none⟩ = some (.string x5) := cell_blk HNd.out rfl
        have q0 : W3.cell? ⟨W2.heap.size, 0, none⟩ = some (.int .i64 y1) := cell_blk HNc.out rfl
        have q1 : W3.cell? ⟨W2.heap.size, 1, none⟩ = some (.int .i64 y2) := cell_blk HNc.out rfl
        have q2 : W3.cell? ⟨W2.heap.size, 2, none⟩ = some (.string y3) := cell_blk HNc.out rfl
        have q3 : W3.cell? ⟨W2.heap.size, 3, none⟩ = some (.bool y4) := cell_blk HNc.out rfl
        have q4 : W3.cell? ⟨W2.heap.size, 4, none⟩ = some (.slice ap np cp) := cell_blk HNc.out rfl
        have q5 : W3.cell? ⟨W2.heap.size, 5, none⟩ = some (.slice ad nd cd) := cell_blk HNc.out rfl
        have q6 : W3.cell? ⟨W2.heap.size, 6, none⟩ = some (.int .u64 (y7 : Nat)) := cell_blk HNc.out rfl
        by_cases h6 : x1 = 6
        · have n6b : ((x1 : Int) == 6) = true := by simp; omega
          have n6c : (x1 == 6) = true := by simp; omega
          have n6d : decide ((x1 : Int) = 6) = true := decide_eq_true (by omega)
          have n6e : ((x1 : Int) != 6) = false := by simp; omega
          have H6 := hide h6
          clear h6
          have HAE : Hid (y1 = (mCommit ms x2).2.2.2 ∧ mDo ms x1 x2 x3 x4 x5 = (mCommit ms x2).1) := hide (by
            have h := HAN.out
            have e6 := H6.out
            unfold AnOk at h
            unfold mDo
            rw [if_neg (by omega), if_neg (by omega), if_neg (by omega), if_neg (by omega), if_neg (by omega), if_pos e6] at h ⊢
            exact ⟨congrArg An.why h, rfl⟩)
          have HSC : Hid (Ser l (mDo ms x1 x2 x3 x4 x5) (os.map Tm.td) (if y1 = 0 then ds.map Tm.td ++ ofTx (os.map Tm.td) x2 else ds.map Tm.td)) := hide (by
            rw [HAE.out.1, HAE.out.2]
            exact HSV.out.commit HLS.out.gd HWO.out x2)
          by_cases hy : y1 = 0
          · have y1b : (y1 == 0) = true := by simpa using hy
            have y1d : decide (y1 = 0) = true := decide_eq_true hy
            have HSD := hide (by have h := HSC.out; rw [if_pos hy] at h; exact h)
            have HBD := hide (HSV.out.bnd HLS.out.bnd HLS.out.gd HSD.out HGE.out)
            have HUQ := hide HSV.out.uniq
            clear hy
            have HSL := hide (And.intro HLS.out.no (And.intro HLS.out.nd (And.intro HLS.out.lo HLS.out.ld)))
            have HNX : Hid ((mDo ms x1 x2 x3 x4 x5).last ≤ k + 1 ∧ (mDo ms x1 x2 x3 x4 x5).now ≤ 1 + (k + 1)) := hide ⟨by have := HLS.out.last; have := HNM.out.1; omega, by have := HLS.out.now; have := HNM.out.2; omega⟩
            have HT7 : Hid (TS B w1 W3 g (mDo ms x1 x2 x3 x4 x5) (fun i => X2 i ∨ (W2.heap.size ≤ i ∧ i < W3.heap.size)) D2 (.slice a7 os.length c7) (.slice a8 ds.length c8) os ds ∧ W3.heap[wr.heap.size]? = some (.cells #[.int .u8 (x1 : Nat), .int .i64 x2, .string x3, .string x4, .string x5] 40 (0, 0))) := hide ⟨HTc.out, HNd.out⟩
            have hcm7 : c7 ≤ 9223372036854775807 ∧ os.length ≤ c7 := by
              rcases HTc.out.r1.2 with ⟨e, _⟩ | ⟨g', c', cur, e, _, _, h3, h4, _⟩
              · simp at e
                have h0 := e.2
                omega
              · simp at e
                obtain ⟨_, rfl⟩ := e
                exact ⟨h4, h3⟩
            obtain ⟨hcm7, hcn7⟩ := hcm7
            have hosn : os.length ≤ 1048576 := by have := HSL.out.1; omega
            obtain ⟨on, hon⟩ : ∃ on, os.length = on := ⟨_, rfl⟩
            have HON := hide hon
            rw [hon] at hosn hcn7
            obtain ⟨dn, hdn⟩ : ∃ dn, ds.length = dn := ⟨_, rfl⟩
            have HDN := hide hdn
            rw [hon, hdn]
            clear hon hdn HAE HSC HAN HSV HNM HWO HNU HLS HTc HYc HNc HNd HBc hY2 hT2 HI p2 p3 p4 q1 q2 q3 q4 q5 q6
            generalize mDo ms x1 x2 x3 x4 x5 = m2 at *
            go_wp2
            clear p0 p1 q0
            generalize hwo : wr = wo at *
            go_loopw [8, 61] (fun v8 v61 wr => ∃ (j : Nat) (X3 : Nat → Prop) (ds' : List Tm), j ≤ on ∧ v61 = .int .i64 (j : Nat) ∧ Hid (TS B w1 wr g m2 X3 D2 (.slice a7 os.length c7) v8 os ds' ∧ ds'.map Tm.td = ds.map Tm.td ++ ofTx ((os.take j).map Tm.td) x2 ∧ Lens ds' k ∧ ds'.length ≤ dn + j ∧ wr.heap[wo.heap.size]? = some (.cells #[.int .u8 (x1 : Nat), .int .i64 x2, .string x3, .string x4, .string x5] 40 (0, 0)))) (fun _ v61 _ => on - (intOf v61).toNat)
            case atStart => exact ⟨0, _, ds, Nat.zero_le _, rfl, hide ⟨by have := HT7.out.1; rw [HDN.out] at this; exact this, by simp [ofTx], HSL.out.2.2.2, by have := HDN.out; omega, HT7.out.2⟩⟩
            case round =>
              clear HT7
              obtain ⟨j, X3, ds', hj, rfl, HJ⟩ := hrel
              obtain ⟨a8', c8', rfl⟩ := own_form HJ.out.1.r2
              by_cases hjl : j < on
              · obtain ⟨b7, rfl⟩ := row_form HJ.out.1.r1 (by have := HON.out; omega)
                obtain ⟨T, hT⟩ : ∃ T, os[j]? = some T := ⟨_, List.getElem?_eq_getElem (by have := HON.out; omega)⟩
                have HTK := hide hT
                have hTm := List.mem_of_getElem? hT
                have hcell : ∀ i u, i < 3 → (tmc T)[i]? = some u → wr.cell? ⟨b7, j * 3 + i, none⟩ = some u := fun i u hi hu => by
                  have hd : os.getD j T = T := by rw [List.getD_eq_getElem?_getD, hT]; rfl
                  have h1 := HJ.out.1.r1
                  unfold RowM at h1
                  rw [h1.cellAt (j * 3 + i) (by have := HON.out; omega), flat_atM tmc 3 (fun _ => rfl) T os j i (by have := HON.out; omega) hi, hd]
                  exact hu
                have qT := HJ.out.1.eo T hTm
                obtain ⟨tx, sv, yv, ss, ys⟩ := T
                obtain ⟨aS, cs, e1⟩ := own_form qT.rs
                obtain ⟨ay, cy, e2⟩ := own_form qT.ry
                dsimp only at e1 e2
                subst e1 e2
                have d0 := hcell 0 _ (by omega) rfl
                have d1 := hcell 1 _ (by omega) rfl
                have d2 := hcell 2 _ (by omega) rfl
                simp only [Nat.add_zero] at d0
                clear hcell hT qT
                have HTM := hide hTm
                have HLT := hide (HSL.out.2.2.1 _ hTm)
                clear hTm
                have hw2 : IntKind.i64.wrap ((j : Int) + 1) = (j : Int) + 1 := wr64' (by omega) (by omega)
                have hj4 : (0 : Int) ≤ (j : Int) := by omega
                have hjI : (j : Int) < (on : Int) := by omega
                have HBe : Hid (Below wr.heap.size wr (wr.alloc (.cells #[.int .i64 tx, .slice aS ss.length cs, .slice ay ys.length cy] 71))) := hide ((Below.refl _ wr).alloc (Nat.le_refl _) _)
                have HNe : Hid ((wr.alloc (.cells #[.int .i64 tx, .slice aS ss.length cs, .slice ay ys.length cy] 71)).heap[wr.heap.size]? = some (.cells #[.int .i64 tx, .slice aS ss.length cs, .slice ay ys.length cy] 71 (0, 0))) := hide (heap_alloc_new _ _)
                have HNf : Hid ((wr.alloc (.cells #[.int .i64 tx, .slice aS ss.length cs, .slice ay ys.length cy] 71)).heap[wo.heap.size]? = some (.cells #[.int .u8 (x1 : Nat), .int .i64 x2, .string x3, .string x4, .string x5] 40 (0, 0))) := hide ((HBe.out.block _ (heap_lt HJ.out.2.2.2.2)).trans HJ.out.2.2.2.2)
                have HLq : Hid (wo.heap.size < wr.heap.size) := hide (heap_lt HJ.out.2.2.2.2)
                by_cases he : tx = x2
                · have heb : (tx == x2) = true := by simpa using he
                  have hed : decide (tx = x2) = true := decide_eq_true he
                  have HE := hide he
                  clear he
                  have HTK1 := hide (take_succ HTK.out x2)
                  have HB2 : Hid (Below wr.heap.size wr ((wr.alloc (.cells #[.int .i64 tx, .slice aS ss.length cs, .slice ay ys.length cy] 71)).alloc (.cells #[.int .i64 tx, .slice aS ss.length cs, .slice ay ys.length cy] 71))) := hide (HBe.out.alloc (by simp) _)
                  have HN2 : Hid (((wr.alloc (.cells #[.int .i64 tx, .slice aS ss.length cs, .slice ay ys.length cy] 71)).alloc (.cells #[.int .i64 tx, .slice aS ss.length cs, .slice ay ys.length cy] 71)).heap[wr.heap.size + 1]? = some (.cells #[.int .i64 tx, .slice aS ss.length cs, .slice ay ys.length cy] 71 (0, 0))) := hide (by
                    have := heap_alloc_new (wr.alloc (.cells #[.int .i64 tx, .slice aS ss.length cs, .slice ay ys.length cy] 71)) (.cells #[.int .i64 tx, .slice aS ss.length cs, .slice ay ys.length cy] 71)
                    rwa [show (wr.alloc (.cells #[.int .i64 tx, .slice aS ss.length cs, .slice ay ys.length cy] 71)).heap.size = wr.heap.size + 1 by simp] at this)
                  have HR2 : Hid (((wr.alloc (.cells #[.int .i64 tx, .slice aS ss.length cs, .slice ay ys.length cy] 71)).alloc (.cells #[.int .i64 tx, .slice aS ss.length cs, .slice ay ys.length cy] 71)).ownsRow B 71 3 (.slice a8' ds'.length c8') ds'.length (ds'.flatMap tmc)) := hide (World.ownsRow.alloc (World.ownsRow.alloc HJ.out.1.r2 _) _)
                  have HRN : Hid (¬ (Value.slice a8' ds'.length c8').ownBlock = some wo.heap.size) := hide (row_not HJ.out.1.r2 HJ.out.2.2.2.2 (by decide))
                  have c10 : (wr.alloc (.cells #[.int .i64 tx, .slice aS ss.length cs, .slice ay ys.length cy] 71)).cell? ⟨wo.heap.size, 1, none⟩ = some (.int .i64 x2) := cell_blk HNf.out rfl
                  have c13 : (wr.alloc (.cells #[.int .i64 tx, .slice aS ss.length cs, .slice ay ys.length cy] 71)).cell? ⟨wr.heap.size, 0, none⟩ = some (.int .i64 tx) := cell_blk HNe.out rfl
                  obtain ⟨i7, hi7, hz7, hs7, hy7⟩ := info_parts info71
                  have hdl : ds'.length ≤ 2097152 := by have := HJ.out.2.2.2.1; have := HSL.out.2.1; have := HDN.out; omega
                  go_wp2_with (at_builtin; refine wpList_append_row rfl _ _ 67 71 rfl Tryz.underlying67 hi7 hz7 hs7 hy7 rfl (by decide) B (v := .slice a8' ds'.length c8') (n := ds'.length) rfl HR2.out (wr.heap.size + 1) [.int .i64 tx, .slice aS ss.length cs, .slice ay ys.length cy] rfl rfl HN2.out (by intro u hu; simp at hu; rcases hu with rfl | rfl | rfl <;> rfl) (by omega) (by omega) (Nat.le_trans HJ.out.1.sz HB2.out.size) ?_)
                  intro vn W5 HA
                  obtain ⟨sa8, sc8, rfl⟩ := own_form HA.out.1
                  have HU := hide (HJ.out.1.pushD HB2.out HTK.out HLT.out.2.1 (by have h1 : ss.length = ys.length := HLT.out.1; have h2 : 0 < ss.length := HLT.out.2.1; show 0 < ys.length; omega) (v' := .slice sa8 (ds'.length + 1) sc8) (by unfold RowM; rw [List.length_append, List.flatMap_append]; simpa using HA.out.1) HA.out.2.1 (HA.out.2.2.1.imp id (fun h i hi => by have := h i hi; simp at this ⊢; omega)))
                  have HB10 : Hid (W5.heap[wo.heap.size]? = some (.cells #[.int .u8 (x1 : Nat), .int .i64 x2, .string x3, .string x4, .string x5] 40 (0, 0))) := hide ((HA.out.2.1.block _ (Nat.lt_of_lt_of_le HLq.out HB2.out.size) (fun e => HRN.out e.symm)).trans ((HB2.out.block _ HLq.out).trans HJ.out.2.2.2.2))
                  have HMP : Hid ((ds' ++ [(⟨tx, .slice aS ss.length cs, .slice ay ys.length cy, ss, ys⟩ : Tm)]).map Tm.td = ds.map Tm.td ++ ofTx ((os.take (j + 1)).map Tm.td) x2) := hide (by
                    rw [HTK1.out, if_pos HE.out, List.map_append, HJ.out.2.1, List.append_assoc]
                    rfl)
                  have HLD : Hid (Lens (ds' ++ [(⟨tx, .slice aS ss.length cs, .slice ay ys.length cy, ss, ys⟩ : Tm)]) k) := hide (fun U hU => (List.mem_append.1 hU).elim (fun h => HJ.out.2.2.1 U h) (fun h => by rw [List.mem_singleton.1 h]; exact HLT.out))
                  have HLL : Hid ((ds' ++ [(⟨tx, .slice aS ss.length cs, .slice ay ys.length cy, ss, ys⟩ : Tm)]).length ≤ dn + (j + 1)) := hide (by have := HJ.out.2.2.2.1; simp; omega)
                  clear HA HR2 HN2 HB2 HJ HNe HNf HBe d0 d1 d2 c10 c13
                  go_wp2
                  go_roundw
                  case rel => exact ⟨j + 1, _, _, by omega, by simp, hide ⟨by have h := HU.out; exact h, HMP.out, HLD.out, HLL.out, HB10.out⟩⟩
                  case measure => simp [intOf]; omega
                · have heb : (tx == x2) = false := by simpa using he
                  have hed : decide (tx = x2) = false := decide_eq_false he
                  have HE := hide he
                  clear he
                  have HTK1 := hide (take_succ HTK.out x2)
                  have c10 : (wr.alloc (.cells #[.int .i64 tx, .slice aS ss.length cs, .slice ay ys.length cy] 71)).cell? ⟨wo.heap.size, 1, none⟩ = some (.int .i64 x2) := cell_blk HNf.out rfl
                  have c13 : (wr.alloc (.cells #[.int .i64 tx, .slice aS ss.length cs, .slice ay ys.length cy] 71)).cell? ⟨wr.heap.size, 0, none⟩ = some (.int .i64 tx) := cell_blk HNe.out rfl
                  have HU := hide (HJ.out.1.below HBe.out)
                  have HMP : Hid (ds'.map Tm.td = ds.map Tm.td ++ ofTx ((os.take (j + 1)).map Tm.td) x2) := hide (by
                    rw [HTK1.out, if_neg HE.out, List.append_nil]
                    exact HJ.out.2.1)
                  have HLL : Hid (ds'.length ≤ dn + (j + 1)) := hide (by have := HJ.out.2.2.2.1; omega)
                  go_wp2
                  go_roundw
                  case rel => exact ⟨j + 1, _, ds', by omega, by simp, hide ⟨HU.out, HMP.out, HJ.out.2.2.1, HLL.out, HNf.out⟩⟩
                  case measure => simp [intOf]; omega
              · obtain rfl : j = on := by omega
                have hjI : ¬ (j : Int) < (j : Int) := by omega
                have HMP : Hid (ds'.map Tm.td = ds.map Tm.td ++ ofTx (os.map Tm.td) x2) := hide (by
                  have h := HJ.out.2.1
                  rw [← HON.out, List.take_length] at h
                  exact h)
                have HLL : Hid (ds'.length ≤ k + 1) := hide (by
                  have h1 := congrArg List.length HMP.out
                  have h2 := ofTx_few x2 HUQ.out
                  have h3 := HSL.out.2.1
                  simp at h1
                  omega)
                have HFI : Hid (LS B w1 wr g l (k + 1) m2 X3 D2 (.slice a7 os.length c7) (.slice a8' ds'.length c8') os ds') := hide ⟨HJ.out.1, by rw [HMP.out]; exact HSD.out, by rw [HMP.out]; exact HBD.out, HGE.out, HSL.out.2.2.1.mono (by omega), HJ.out.2.2.1.mono (by omega), by have := HSL.out.1; omega, HLL.out, HNX.out.1, HNX.out.2⟩
                have HFJ := hide (by have h := HFI.out; rw [HON.out] at h; exact h)
                go_wp2
                go_roundw
                case rel => exact ⟨k + 1, m2, X3, D2, os, ds', by omega, by simp, HFJ⟩
                case measure => simp [intOf]; omega
          · have y1b : (y1 == 0) = false := by simpa using hy
            have y1d : decide (y1 = 0) = false := decide_eq_false hy
            have HSD := hide (by have h := HSC.out; rw [if_neg hy] at h; exact h)
            have HLN4 : Hid (LS B w1 W3 g l (k + 1) (mDo ms x1 x2 x3 x4 x5) _ D2 (.slice a7 os.length c7) (.slice a8 ds.length c8) os ds) := hide ⟨HTc.out, HSD.out, HLS.out.bnd, HGE.out, HLS.out.lo.mono (by omega), HLS.out.ld.mono (by omega), by have := HLS.out.no; omega, by have := HLS.out.nd; omega, by have := HLS.out.last; have := HNM.out.1; omega, by have := HLS.out.now; have := HNM.out.2; omega⟩
            go_wp2
            go_roundw
            case rel => exact ⟨k + 1, _, _, D2, os, ds, by omega, by simp, HLN4⟩
            case measure => simp [intOf]; omega
        · have n6a : ¬ (x1 : Int) = 6 := by omega
          have n6b : ((x1 : Int) == 6) = false := by simp; omega
          have n6c : (x1 == 6) = false := by simp; omega
          have n6d : decide ((x1 : Int) = 6) = false := decide_eq_false (by omega)
          have n6e : ((x1 : Int) != 6) = true := by simp; omega
          have H6 := hide h6
          clear h6
          have HNT := hide (note_any HTc.out k HLS.out.lo (by omega) (by have := HLS.out.no; omega) ⟨x1, x2, x3, x4, x5⟩ HTI.out ⟨⟨y1, y2, y3, y4, y5, y6, y7⟩, ap, np, cp, ad, nd, cd⟩ HYc.out)
          go_wp2_with fail
          refine HNT.out.mono ?_
          rintro e W4 ⟨v1', os', X', rfl, hT4, hmap, hlen, hno, hX⟩
          have HSN := hide (HSV.out.note HLS.out.gd HWO.out HNU.out (x := ⟨x1, x2, x3, x4, x5⟩) H6.out HAN.out)
          have HLN4 : Hid (LS B w1 W4 g l (k + 1) (mDo ms x1 x2 x3 x4 x5) X' D2 v1' (.slice a8 ds.length c8) os' ds) := hide ⟨hT4, by rw [hmap]; exact HSN.out, HLS.out.bnd, HGE.out, hlen, HLS.out.ld.mono (by omega), by have := HLS.out.no; omega, by have := HLS.out.nd; omega, by have := HLS.out.last; have := HNM.out.1; omega, by have := HLS.out.now; have := HNM.out.2; omega⟩
          clear hT4 hmap hlen hno hX HNT HTc HYc HNc HNd HBc p0 p1 p2 p3 p4 q0 q1 q2 q3 q4 q5 q6
          go_wp2
          go_roundw
          case rel => exact ⟨k + 1, _, X', D2, os', ds, by omega, by simp, HLN4⟩
          case measure => simp [intOf]; omega
      · obtain rfl : k = sn := by omega
        have hkI : ¬ (k : Int) < (k : Int) := by omega
        clear hlt
        obtain ⟨fin, hf1, hf2⟩ := HI.out.ser.cur
        have HF1 := hide hf1
        have HF2 := hide hf2
        clear hf1 hf2
        have HBa : Hid (Below wr.heap.size wr (wr.alloc (.cells #[] 62))) := hide ((Below.refl _ wr).alloc (Nat.le_refl _) _)
        have HOa : Hid ((wr.alloc (.cells #[] 62)).ownsRow wr.heap.size 62 2 (.slice (some ⟨wr.heap.size, 0, none⟩) 0 0) 0 (([] : List Pr).flatMap prc)) := hide (World.ownsRow_made wr #[] 0 (Nat.le_refl _) (by decide) rfl)
        have HAP := hide (run_pairs a HOa.out (HL.out.below (HI'.out.trans (HBa.out.mono HI'.out.size))) HNN.out (by have := HBIG.out; omega) HBa.out.size)
        obtain ⟨v9, w2, hr2, ho2, hb2⟩ := HAP.out
        obtain ⟨a9, c9, rfl⟩ := own_form ho2
        rw [Nat.zero_add] at hr2 ho2
        have HI9 : Hid (IsP w2 a9 l.length c9 l ∧ (a9 = none → c9 = 0) ∧ SrtP l ∧ repA l ((ds.map Tm.td).drop 0) = some fin ∧ BndA l ((ds.map Tm.td).drop 0) ∧ Below wr.heap.size wr w2 ∧ (∀ b, a9 = some b → wr.heap.size ≤ b.block)) := hide ⟨own_isPP rfl (by rw [HLN.out]; simpa using ho2), fun e => own_none ho2 e, HSP0.out, HF1.out, HI.out.bnd, HBa.out.trans hb2, fun b hb => (ho2.lt b.block (by rw [hb]; rfl)).1⟩
        obtain ⟨dn, hdn⟩ : ∃ dn, ds.length = dn := ⟨_, rfl⟩
        have HDN := hide hdn
        have hdsn : dn ≤ 1048576 := by have := HI.out.nd; omega
        have hcm8 : c8 ≤ 9223372036854775807 ∧ ds.length ≤ c8 := by
          rcases HI.out.ts.r2.2 with ⟨e, _⟩ | ⟨g', c', cur, e, _, _, h3, h4, _⟩
          · simp at e
            have h0 := e.2
            omega
          · simp at e
            obtain ⟨_, rfl⟩ := e
            exact ⟨h4, h3⟩
        obtain ⟨hcm8, hcn8⟩ := hcm8
        rw [hdn] at hcn8 ⊢
        clear hdn ho2 hb2 HAP HOa HBa
        go_wp2_with (at_builtin; refine wpList_append_eq rfl _ _ 22 rfl rfl rfl hr2 ?_)
        go_wp2
        clear hr2
        generalize hwo : wr = wo at *
        go_loopw [14, 81] (fun v14 v81 wr => ∃ (j : Nat) (a9 : Option Addr) (c9 : Nat) (cur : List Pr), j ≤ dn ∧ v14 = .slice a9 cur.length c9 ∧ v81 = .int .i64 (j : Nat) ∧ Hid (IsP wr a9 cur.length c9 cur ∧ (a9 = none → c9 = 0) ∧ SrtP cur ∧ repA cur ((ds.map Tm.td).drop j) = some fin ∧ BndA cur ((ds.map Tm.td).drop j) ∧ Below wo.heap.size wo wr ∧ (∀ b, a9 = some b → wo.heap.size ≤ b.block))) (fun _ v81 _ => dn - (intOf v81).toNat)
        case atStart => exact ⟨0, a9, c9, l, Nat.zero_le _, by rw [HLN.out], rfl, HI9⟩
        case round =>
          clear HI9
          obtain ⟨j, a9, c9, cur, hj, rfl, rfl, HJ⟩ := hrel
          by_cases hjl : j < dn
          · obtain ⟨b8, rfl⟩ := row_form HI.out.ts.r2 (by have := HDN.out; omega)
            obtain ⟨T, hT⟩ : ∃ T, ds[j]? = some T := ⟨_, List.getElem?_eq_getElem (by have := HDN.out; omega)⟩
            have hTm := List.mem_of_getElem? hT
            have HTq := hide (HI.out.ts.below HJ.out.2.2.2.2.2.1)
            have hcell : ∀ i u, i < 3 → (tmc T)[i]? = some u → wr.cell? ⟨b8, j * 3 + i, none⟩ = some u := fun i u hi hu => by
              have hd : ds.getD j T = T := by rw [List.getD_eq_getElem?_getD, hT]; rfl
              have h1 := HTq.out.r2
              unfold RowM at h1
              rw [h1.cellAt (j * 3 + i) (by have := HDN.out; omega), flat_atM tmc 3 (fun _ => rfl) T ds j i (by have := HDN.out; omega) hi, hd]
              exact hu
            have HDR : Hid ((ds.map Tm.td).drop j = T.td :: (ds.map Tm.td).drop (j + 1)) := hide (by
              rw [List.drop_eq_getElem_cons (by have := HDN.out; simp; omega)]
              congr 1
              rw [List.getElem_map]
              congr 1
              have := (List.getElem?_eq_some_iff.1 hT).2
              exact this)
            obtain ⟨cur', r1, r2⟩ := repA_cons (by have h := HJ.out.2.2.2.1; rw [HDR.out] at h; exact h)
            have HR2 := hide r2
            have HBD : Hid (BndA cur' ((ds.map Tm.td).drop (j + 1)) ∧ cur.length ≤ 4096) := hide (by
              have h := HJ.out.2.2.2.2.1
              rw [HDR.out] at h
              exact ⟨h.2 cur' r1, h.1⟩)
            have HSQ := hide (repL_srt HJ.out.2.2.1 r1)
            have HLT := hide (HI.out.ld T hTm)
            obtain ⟨tx, sv, yv, ss, ys⟩ := T
            have hH := (HTq.out.ed _ hTm).1
            obtain ⟨sb, sc', e1, _⟩ := hH.hs
            obtain ⟨yb, yc', e2, _⟩ := hH.hy
            dsimp only at e1 e2
            subst e1 e2
            have d0 := hcell 0 _ (by omega) rfl
            have d1 := hcell 1 _ (by omega) rfl
            have d2 := hcell 2 _ (by omega) rfl
            simp only [Nat.add_zero] at d0
            clear hcell hT r2 hH
            have HTM := hide hTm
            have HR1 := hide r1
            clear hTm r1
            have hw2 : IntKind.i64.wrap ((j : Int) + 1) = (j : Int) + 1 := wr64' (by omega) (by omega)
            have hj4 : (0 : Int) ≤ (j : Int) := by omega
            have hjI : (j : Int) < (dn : Int) := by omega
            have HBe : Hid (Below wr.heap.size wr (wr.alloc (.cells #[.int .i64 tx, .slice (some ⟨sb, 0, none⟩) ss.length sc', .slice (some ⟨yb, 0, none⟩) ys.length yc'] 71))) := hide ((Below.refl _ wr).alloc (Nat.le_refl _) _)
            have HTe := hide (HTq.out.below HBe.out)
            have HBw : Hid (Below wo.heap.size wo (wr.alloc (.cells #[.int .i64 tx, .slice (some ⟨sb, 0, none⟩) ss.length sc', .slice (some ⟨yb, 0, none⟩) ys.length yc'] 71))) := hide (HJ.out.2.2.2.2.2.1.trans (HBe.out.mono HJ.out.2.2.2.2.2.1.size))
            have HRP := hide (replay_any a9 cur.length c9 cur cur' tx (.slice (some ⟨sb, 0, none⟩) ss.length sc') (.slice (some ⟨yb, 0, none⟩) ys.length yc') ss ys D _ (HJ.out.1.below HBe.out) HJ.out.2.1 HJ.out.2.2.1 (HTe.out.ed _ HTM.out).1.hs (HTe.out.ed _ HTM.out).1.hy HLT.out.1 (HTe.out.ed _ HTM.out).1.ans (fun i hi => HTe.out.mn.xb i (HTe.out.dx i hi)) HR1.out (by have h1 := HBD.out.2; have h2 : ss.length ≤ k := HLT.out.2.2; omega))
            have HNW9 := hide HJ.out.2.2.2.2.2.2
            clear HTe HTq HJ
            go_wp2_with fail
            refine HRP.out.mono ?_
            rintro e W3 ⟨a', c', rfl, hP, hn', hnew, hb⟩
            have HFI : Hid (IsP W3 a' cur'.length c' cur' ∧ (a' = none → c' = 0) ∧ SrtP cur' ∧ repA cur' ((ds.map Tm.td).drop (j + 1)) = some fin ∧ BndA cur' ((ds.map Tm.td).drop (j + 1)) ∧ Below wo.heap.size wo W3 ∧ (∀ b, a' = some b → wo.heap.size ≤ b.block)) := hide ⟨hP, hn', HSQ.out, HR2.out, HBD.out.1, HBw.out.trans (hb.mono HBw.out.size), fun b hb' => by
              rcases hnew with h | h
              · exact HNW9.out b (by rw [← h]; exact hb')
              · exact Nat.le_trans HBw.out.size (h b hb')⟩
            clear hP hn' hnew hb HRP HBw HBe d0 d1 d2 HR1 HR2 HBD HSQ HNW9
            go_wp2
            go_roundw
            case rel => exact ⟨j + 1, a', c', cur', by omega, rfl, by simp, HFI⟩
            case measure => simp [intOf]; omega
          · obtain rfl : j = dn := by omega
            have hjI : ¬ (j : Int) < (j : Int) := by omega
            have HFN : Hid (cur = fin) := hide (by
              have h := HJ.out.2.2.2.1
              rw [List.drop_of_length_le (by have := HDN.out; simp; omega)] at h
              exact Option.some.inj h)
            have HTq := hide (HI.out.ts.below HJ.out.2.2.2.2.2.1)
            have HPQ : Hid (IsP wr a9 cur.length c9 cur ∧ ∀ b, a9 = some b → wo.heap.size ≤ b.block) := hide ⟨HJ.out.1, HJ.out.2.2.2.2.2.2⟩
            obtain ⟨X4, hX4, hT4⟩ : ∃ X4, Hid (∀ i, wo.heap.size ≤ i → i < wr.heap.size → X4 i) ∧ Hid (TS B w1 wr g ms X4 D (.slice a7 os.length c7) (.slice a8 ds.length c8) os ds) := ⟨_, hide (fun i h1 h2 => .inr ⟨h1, h2⟩), HTq⟩
            have HGE := hide HI.out.gd
            have HNUM := hide hT4.out.mn.nums
            have HLA : Hid (ms.last ≤ 1048576) := hide (by have := HI.out.last; omega)
            have HBG := hide (mn_begin X4 wr g ms hT4.out.mn (by have := HLA.out; omega))
            have HBF : Hid (Below w.heap.size w wr) := hide (HI'.out.trans (HJ.out.2.2.2.2.2.1.mono HI'.out.size))
            clear HTq HJ HI
            by_cases h16 : ms.opn.length = 16
            · rw [show mBegin ms = (ms, 0, 3) from by unfold mBegin; rw [if_pos h16]] at HBG
              dsimp only at HBG
              clear h16
              go_wp2_with fail
              refine HBG.out.mono ?_
              rintro e W3 ⟨rfl, hM, hF⟩
              have HBH : Hid (Below w.heap.size w W3) := hide (HBF.out.trans ((hF.low hT4.out.xb hT4.out.sz).mono HWB.out))
              clear hM hF HBG
              go_wp2
              go_ret
              exact ⟨rfl, HBH.out⟩
            · rw [show mBegin ms = (ms.begun, (ms.last : Int) + 1, 0) from by unfold mBegin; rw [if_neg h16]] at HBG
              dsimp only at HBG
              clear h16
              go_wp2_with fail
              refine HBG.out.mono ?_
              rintro e W3 ⟨rfl, hM, hF⟩
              have HF3 := hide hF
              have HSC := hide (mn_scan X4 W3 g ms.begun hM ((ms.last : Int) + 1) (by have := HLA.out; omega) ⟨#[]⟩ ⟨#[]⟩)
              have HFS := hide (fresh_scan HF2.out HGE.out HNUM.out.1)
              rw [HFS.out.1] at HSC
              have HX3 : Hid (∀ i, X4 i → i < W3.heap.size) := hide hM.xb
              clear hM hF HBG
              obtain ⟨t1, ht1⟩ : ∃ t1 : Int, (ms.last : Int) + 1 = t1 := ⟨_, rfl⟩
              rw [ht1] at HSC HFS ⊢
              clear ht1
              go_wp2_with fail
              refine HSC.out.mono ?_
              rintro e W4 ⟨v, l', rfl, hr, hSL, hM, hF⟩
              obtain rfl := HFS.out.2 l' hSL
              have HP4 : Hid (IsP W4 a9 cur.length c9 cur) := hide (isP_keep HPQ.out.1 (fun b hb hlt => (hF.block _ (Nat.lt_of_lt_of_le hlt HF3.out.size) (fun q => q (hX4.out _ (HPQ.out.2 b hb) hlt))).trans (HF3.out.block _ hlt (fun q => q (hX4.out _ (HPQ.out.2 b hb) hlt)))) (Nat.le_trans HF3.out.size hF.size))
              obtain ⟨av, cv, rfl⟩ := own_form hr
              have HSM := hide (sameP_any av l'.length cv l' a9 cur.length c9 cur W4 (own_isPP rfl hr) HP4.out)
              have HBH : Hid (Below w.heap.size w W4) := hide ((HBF.out.trans ((HF3.out.low hT4.out.xb hT4.out.sz).mono HWB.out)).trans ((hF.low hT4.out.xb (Nat.le_trans hT4.out.sz HF3.out.size)).mono HWB.out))
              clear hr hSL hM hF HSC HFS
              go_wp2_with fail
              refine HSM.out.mono ?_
              rintro e W5 ⟨⟨r, rfl, hr⟩, hb⟩
              obtain rfl : r = true := hr.2 HFN.out.symm
              have HBI : Hid (Below w.heap.size w W5) := hide (HBH.out.trans (hb.mono HBH.out.size))
              clear hr hb HSM
              go_wp2
              go_ret
              exact ⟨rfl, HBI.out⟩
end Go.Proofs.YtlkmcbelmldleaaGreat
