/- contracts: Restore with fates -/
import Derived.Test.YtecmfpgccmmlpaaYx
import Derived.Test.YtecmfpgccmmlpaaHx
namespace Go.Proofs.Ytecmfpgccmmlpaa
open Go.RowKit
open Go.ChangeMaps (setBlock)
open Go.Maps (Keyed has size)
variable {X : Nat → Prop}
def setSyn (f : Nat → List Nat) (x : Nat) (v : List Nat) : Nat → List Nat := fun i => if i = x then v else f i
/-- what sectors are behind the fates of the first k of those that were unsynced -/
def fated (fr : Nat → Option (List Nat)) (l : List (Nat × Nat)) (us : List Nat) (f : Nat → List Nat) : Nat → Nat → List Nat
  | 0 => f
  | k + 1 => setSyn (fated fr l us f k) (us.getD k 0) (outL (l.getD k (0, 0)).1 (l.getD k (0, 0)).2 (fated fr l us f k (us.getD k 0)) ((fr (us.getD k 0)).getD []))
def St.fates (st : St) (l : List (Nat × Nat)) (us : List Nat) (k : Nat) : St := { st with syn := fated st.fr l us st.syn k }
theorem fates_succ (st : St) (l : List (Nat × Nat)) (us : List Nat) (k x : Nat) (lf : List Nat) (hx : us[k]? = some x) (hf : st.fr x = some lf) :
    st.fates l us (k + 1) = { st.fates l us k with syn := setSyn (st.fates l us k).syn x (outL (l.getD k (0, 0)).1 (l.getD k (0, 0)).2 ((st.fates l us k).syn x) lf) } := by
  have hg : us.getD k 0 = x := by rw [List.getD_eq_getElem?_getD, hx]; rfl
  simp only [St.fates, fated]
  rw [hg, hf]
  rfl
theorem IsD.puts {w : World} {g gs b n : Nat} {st : St} (h : IsD X w g gs b n st) {k : Nat} {v : Value} {l : List Nat} (hk : k < n) (hD : Dat X w v l) : IsD X (w.setCell ⟨gs, k, none⟩ v) g gs b n { st with syn := setSyn st.syn k l } := by
  obtain ⟨n1, n2, n3⟩ := h.ne
  obtain ⟨cur, hc, hsz, hd⟩ := h.syn
  obtain ⟨m, D, hown, hm, hfr⟩ := h.map
  have hK : K5 w (w.setCell ⟨gs, k, none⟩ v) := fun j cur' m' hj => by
    have hne : j ≠ gs := by rintro rfl; rw [hc] at hj; simp at hj
    exact (Below.heap_setCell _ _ _ _ hne).trans hj
  refine ⟨h.n0, h.n1, (Below.heap_setCell _ _ _ _ n1).trans h.blk, ⟨cur.setIfInBounds k v, blk_set hc _, hsz.set hk, fun i hi => ?_⟩, ⟨m, D, ?_, hm, hfr.kept hK⟩, h.wr, h.left, fun i hi => by have := h.xb i hi; simpa [World.setCell] using this⟩
  · by_cases hik : i = k
    · subst hik
      exact ⟨v, by simp [hsz.lt hi], by simp only [setSyn, if_true]; exact hD.kept hK⟩
    · obtain ⟨u, hu, hdu⟩ := hd i hi
      exact ⟨u, by simp [Ne.symm hik, hu], by simp only [setSyn, if_neg hik]; exact hdu.kept hK⟩
  · obtain ⟨es, clock, hb, rest⟩ := hown
    exact ⟨es, clock, (Below.heap_setCell _ _ _ _ (Ne.symm n3)).trans hb, rest⟩
theorem IsF.frm {w w' : World} {g gs b n : Nat} {st : St} {a : Option Addr} {len cap : Nat} {l : List (Nat × Nat)} (h : IsF w a len cap l) (hI : IsD X w g gs b n st) (hf : Frm (SD g gs b) w w') : IsF w' a len cap l := by
  refine ⟨h.1, h.2.1, h.2.2.1, h.2.2.2.1, fun i hi => ?_⟩
  obtain ⟨b', off, e, hlt, h1, h2⟩ := h.2.2.2.2 i hi
  have hne : ¬ SD g gs b b' := fun hi => hI.noU8 hi h1
  exact ⟨b', off, e, Nat.lt_of_lt_of_le hlt hf.size, (World.cell?_of_block (hf.block b' hlt hne)).trans h1, (World.cell?_of_block (hf.block b' hlt hne)).trans h2⟩
set_option maxRecDepth 40000 in
set_option maxHeartbeats 8000000 in
/-- (*Disk).Restore with good fates -/
theorem rest_good (w : World) (g gs b n : Nat) (st : St) (h : IsD X w g gs b n st) (hd : st.down = true) (a : Option Addr) (len cap : Nat) (l : List (Nat × Nat)) (hF : IsF w a len cap l) (hl : len ≤ 1024) (hgood : GoodF l) :
    Calls Try.prog 21 #[.pointer (some ⟨g, 0, none⟩), .slice a len cap] w fun e w' => e = .returned (.int .i64 0) ∧ IsD X w' g gs b n (st.fates l (st.uns n) (st.uns n).length).back ∧ Frm (SD g gs b) w w' := by
  have c5 := h.cells.c5
  rw [hd] at c5
  have UN := hide (fun W (hW : IsD X W g gs b n st) => uns_any W g gs b n st hW)
  have FT : Hid (Calls Try.prog 52 #[.slice a len cap] w fun e w' => e = .returned (.int .i64 0) ∧ Below w.heap.size w w') := hide ((fates_any w a len cap l hF hl).mono (by
    rintro e w' ⟨h1 | h1, h2⟩
    · exact ⟨h1.1, h2⟩
    · exact absurd hgood h1.2))
  have HS := hide h.lts
  have H := hide h
  have hcap := hF.2.1
  have HF0 := hide hF
  have hlen : (st.uns n).length ≤ 1024 := Nat.le_trans (uns_len st n) h.n1
  have HM : Hid (∀ k x, (st.uns n)[k]? = some x → x < n ∧ ∃ l, st.fr x = some l) := hide (fun k x hx => by
    obtain ⟨h1, h2⟩ := uns_mem.1 (List.mem_of_getElem? hx)
    exact ⟨h1, Option.isSome_iff_exists.1 h2⟩)
  clear h hd hF hgood
  go_enter Try.func21, Try.ntmps21
  go_wp2_with fail
  refine FT.out.mono ?_
  rintro e w1 ⟨rfl, hb1⟩
  have H1 := hide (H.out.below hb1)
  have HB1 := hide hb1
  clear hb1
  go_wp2_with fail
  refine (UN.out w1 H1.out).mono ?_
  rintro e w2 ⟨v, rfl, hrow, hb2⟩
  obtain ⟨au, capu, rfl, hcapu, hU⟩ := isU_row hrow
  have H2 := hide (H1.out.below hb2)
  have HB2 := hide (HB1.out.trans (hb2.mono HB1.out.size))
  have HU := hide hU
  have HS1 := hide H1.out.lts
  generalize hll : (st.uns n).length = L at *
  have HLL := hide hll
  clear hrow hb2 hU hll c5 UN
  go_wp2_with fail
  go_loopw [24] (fun i wr => ∃ k : Nat, k ≤ L ∧ i = .int .i64 k ∧ Hid (IsD X wr g gs b n (st.fates l (st.uns n) k)) ∧ Hid (Frm (SD g gs b) w2 wr)) (fun i _ => L - (intOf i).toNat)
  case atStart => exact ⟨0, Nat.zero_le _, rfl, H2, hide (Frm.refl _ _)⟩
  case round =>
    obtain ⟨k, hk, rfl, HI, HF⟩ := hrel
    by_cases hkL : k = L
    · subst hkL
      obtain ⟨w5, hcl, c3, c4, c5, hfz, hI5, hF5⟩ := clears_step HI.out
      have c1 := HI.out.cells.c1
      have HI5 := hide hI5
      have HF5 := hide ((Frm.below HB2.out).trans (HF.out.trans hF5))
      clear hI5 hF5
      go_wp2
      go_ret
      exact ⟨rfl, by rw [HLL.out]; exact HI5.out, HF5.out⟩
    · have hlt : k < L := by omega
      obtain ⟨q, rfl, _, _, x, hx, hcx⟩ := HU.out.frm HF.out HS1.out k (by rw [HLL.out]; exact hlt)
      obtain ⟨hxn, lf, hlf⟩ := HM.out k x hx
      have HSU := hide (fates_succ st l (st.uns n) k x lf hx hlf)
      obtain ⟨vo, vf, hdo, hdf, hRo, hRs⟩ := HI.out.rnd hxn lf hlf
      obtain ⟨ao, lo, co, rfl, _⟩ := id hdo
      obtain ⟨af, lff, cf, rfl, _⟩ := id hdf
      have HDO := hide hdo
      have HDF := hide hdf
      have HX := hide hxn
      have HK := hide hlt
      have HRO := hide hRo
      have HRS := hide hRs
      have HFF := hide ((HF0.out.below HB2.out).frm H2.out HF.out)
      clear hdo hdf hRo hRs hlf
      by_cases hkf : k < len
      · obtain ⟨bf, off, rfl, hbf, cf0, cf1⟩ := HFF.out.2.2.2.2 k hkf
        generalize hp : l.getD k (0, 0) = p at *
        obtain ⟨p1, p2⟩ := p
        have hp2 : p2 < 256 := by
          have hkl : k < l.length := by have := HFF.out.1; omega
          have := (HFF.out.2.2.2.1 (p1, p2) (by rw [← hp, List.getD_eq_getElem?_getD, List.getElem?_eq_getElem hkl]; exact List.getElem_mem hkl)).2
          exact this
        have HP2 := hide hp2
        clear hp hp2
        go_wp2_with fail
        generalize hW : wr.alloc (Obj.cells #[.int .u8 (p1 : Nat), .int .u8 (p2 : Nat)] 89) = W1
        have HBW : Hid (Below wr.heap.size wr W1) := hide (by rw [← hW]; exact (Below.refl _ _).alloc (Nat.le_refl _) _)
        have HZ : Hid (W1.heap[wr.heap.size]? = some (.cells #[.int .u8 (p1 : Nat), .int .u8 (p2 : Nat)] 89 (0, 0))) := hide (by rw [← hW]; exact heap_alloc_new wr _)
        have HL := hide HI.out.lts
        have HNE := hide HI.out.ne
        generalize hrr : wr.heap.size = r at *
        have HRR := hide hrr
        have HST : Hid (∀ W : World, (∀ j, j < W1.heap.size → W.heap[j]? = W1.heap[j]?) → (fun W : World => W.cell? ⟨g, 0, none⟩ = some (.slice (some ⟨gs, 0, none⟩) n (n + st.xs)) ∧ W.cell? ⟨g, 1, none⟩ = some (.map (some b)) ∧ (Instr.lookup 66 (.map (some b)) (.int .i64 (x : Int)) false).run Try.prog W = .ok (.slice af lff cf) W ∧ (W.cell? ⟨r, 0, none⟩ = some (.int .u8 (p1 : Nat)) ∧ W.cell? ⟨r, 1, none⟩ = some (.int .u8 (p2 : Nat))) ∧ W.cell? ⟨gs, x, none⟩ = some (.slice ao lo co)) W ∧ W.frozen? ⟨gs, x, none⟩ = false) := hide (by
          intro W hW'
          have hz1 := HBW.out.size
          rw [HRR.out] at hz1
          obtain ⟨l1, l2, l3⟩ := HL.out
          have hg := (hW' g (by omega)).trans (HBW.out.block g l1)
          have hgs := (hW' gs (by omega)).trans (HBW.out.block gs l2)
          have hb := (hW' b (by omega)).trans (HBW.out.block b l3)
          have hr := (hW' r (heap_lt HZ.out)).trans HZ.out
          obtain ⟨s1, s2, s3⟩ := HRS.out W hg hb
          obtain ⟨o1, o2⟩ := HRO.out W hgs
          exact ⟨⟨s1, s2, s3, ⟨by simp [World.cell?, hr], by simp [World.cell?, hr]⟩, o1⟩, o2⟩)
        have HBD : Hid (Below wr.heap.size wr W1.drew) := hide (HRR.out ▸ (HBW.out.trans (Below.drew (Below.refl _ _))))
        have OC := hide (out_any W1.drew p1 p2 HP2.out (.slice ao lo co) (.slice af lff cf) _ _ (HDO.out.kept (K5.below HBD.out)) (HDF.out.kept (K5.below HBD.out)) (fun i hi => Nat.lt_of_lt_of_le (HI.out.xb i hi) HBD.out.size))
        clear hW hx hcx hrr
        refine wp_region_last 21 (fun W : World => W.cell? ⟨g, 0, none⟩ = some (.slice (some ⟨gs, 0, none⟩) n (n + st.xs)) ∧ W.cell? ⟨g, 1, none⟩ = some (.map (some b)) ∧ (Instr.lookup 66 (.map (some b)) (.int .i64 (x : Int)) false).run Try.prog W = .ok (.slice af lff cf) W ∧ (W.cell? ⟨r, 0, none⟩ = some (.int .u8 (p1 : Nat)) ∧ W.cell? ⟨r, 1, none⟩ = some (.int .u8 (p2 : Nat))) ∧ W.cell? ⟨gs, x, none⟩ = some (.slice ao lo co)) (by kernel_rfl) (HST.out W1.drew (fun j hj => rfl)).1 (fun hHeld => ?_)
        refine wpAnyL_take (i := 0) (v := ?v0a) rfl (by kernel_rfl) (fun _ _ _ h => h) (by assumption) (by rfl) ?hy0a ?hn0a
        case hy0a => (intro w hSw; (try dsimp only at hSw); go_simp; try with_reducible rfl)
        try simp only [Act.put]
        refine wpAnyL_take (i := 1) (v := ?v1a) rfl (by kernel_rfl) (fun _ _ _ h => h) (by assumption) (by rfl) ?hy1a ?hn1a
        case hy1a => (intro w hSw; (try dsimp only at hSw); go_simp; try with_reducible rfl)
        try simp only [Act.put]
        refine wpAnyL_take (i := 2) (v := ?v2a) rfl (by kernel_rfl) (fun _ _ _ h => h) (by assumption) (by rfl) ?hy2a ?hn2a
        case hy2a => (intro w hSw; (try dsimp only at hSw); go_simp; try with_reducible rfl)
        try simp only [Act.put]
        refine wpAnyL_take (i := 3) (v := ?v3a) rfl (by kernel_rfl) (fun _ _ _ h => h) (by assumption) (by rfl) ?hy3a ?hn3a
        case hy3a => (intro w hSw; (try dsimp only at hSw); go_simp; try with_reducible rfl)
        try simp only [Act.put]
        refine wpAnyL_take (i := 4) (v := ?v4a) rfl (by kernel_rfl) (fun _ _ _ h => h) (by assumption) (by rfl) ?hy4a ?hn4a
        case hy4a => (intro w hSw; (try dsimp only at hSw); go_simp; try with_reducible rfl)
        try simp only [Act.put]
        refine wpAnyL_take (i := 5) (v := ?v5a) rfl (by kernel_rfl) (fun _ _ _ h => h) (by assumption) (by rfl) ?hy5a ?hn5a
        case hy5a => (intro w hSw; (try dsimp only at hSw); go_simp; try with_reducible rfl)
        try simp only [Act.put]
        refine wpAnyL_take (i := 6) (v := ?v6a) rfl (by kernel_rfl) (fun _ _ _ h => h) (by assumption) (by rfl) ?hy6a ?hn6a
        case hy6a => (intro w hSw; (try dsimp only at hSw); go_simp; try with_reducible rfl)
        try simp only [Act.put]
        refine wpAnyL_take (i := 7) (v := ?v7a) rfl (by kernel_rfl) (fun _ _ _ h => h) (by assumption) (by rfl) ?hy7a ?hn7a
        case hy7a => (intro w hSw; (try dsimp only at hSw); go_simp; try with_reducible rfl)
        try simp only [Act.put]
        refine wpAnyL_take (i := 8) (v := ?v8a) rfl (by kernel_rfl) (fun _ _ _ h => h) (by assumption) (by rfl) ?hy8a ?hn8a
        case hy8a => (intro w hSw; (try dsimp only at hSw); go_simp; try with_reducible rfl)
        try simp only [Act.put]
        refine wpAnyL_take (i := 9) (v := ?v9a) rfl (by kernel_rfl) (fun _ _ _ h => h) (by assumption) (by rfl) ?hy9a ?hn9a
        case hy9a => (intro w hSw; (try dsimp only at hSw); go_simp; try with_reducible rfl)
        try simp only [Act.put]
        refine wpAnyL_take (i := 10) (v := ?v10a) rfl (by kernel_rfl) (fun _ _ _ h => h) (by assumption) (by rfl) ?hy10a ?hn10a
        case hy10a => (intro w hSw; (try dsimp only at hSw); go_simp; try with_reducible rfl)
        try simp only [Act.put]
        refine wpAnyL_take (i := 11) (v := ?v11a) rfl (by kernel_rfl) (fun _ _ _ h => h) (by assumption) (by rfl) ?hy11a ?hn11a
        case hy11a => (intro w hSw; (try dsimp only at hSw); go_simp; try with_reducible rfl)
        try simp only [Act.put]
        refine wpAnyL_take (i := 12) (v := ?v12a) rfl (by kernel_rfl) (fun _ _ _ h => h) (by assumption) (by rfl) ?hy12a ?hn12a
        case hy12a => (intro w hSw; (try dsimp only at hSw); go_simp; try with_reducible rfl)
        try simp only [Act.put]
        refine wpAnyL_take (i := 13) (v := ?v13a) rfl (by kernel_rfl) (fun _ _ _ h => h) (by assumption) (by rfl) ?hy13a ?hn13a
        case hy13a => (intro w hSw; (try dsimp only at hSw); go_simp; try with_reducible rfl)
        try simp only [Act.put]
        refine wpAnyL_take (i := 14) (v := ?v14a) rfl (by kernel_rfl) (fun _ _ _ h => h) (by assumption) (by rfl) ?hy14a ?hn14a
        case hy14a => (intro w hSw; (try dsimp only at hSw); go_simp; try with_reducible rfl)
        try simp only [Act.put]
        refine wpAnyL_take (i := 15) (v := ?v15a) rfl (by kernel_rfl) (fun _ _ _ h => h) (by assumption) (by rfl) ?hy15a ?hn15a
        case hy15a => (intro w hSw; (try dsimp only at hSw); go_simp; try with_reducible rfl)
        try simp only [Act.put]
        refine wpAnyL_take (i := 16) (v := ?v16a) rfl (by kernel_rfl) (fun _ _ _ h => h) (by assumption) (by rfl) ?hy16a ?hn16a
        case hy16a => (intro w hSw; (try dsimp only at hSw); go_simp; try with_reducible rfl)
        try simp only [Act.put]
        refine wpAnyL_take (i := 17) (v := ?v17a) rfl (by kernel_rfl) (fun _ _ _ h => h) (by assumption) (by rfl) ?hy17a ?hn17a
        case hy17a => (intro w hSw; (try dsimp only at hSw); go_simp; try with_reducible rfl)
        try simp only [Act.put]
        refine wpAnyL_take (i := 18) (v := ?v18a) rfl (by kernel_rfl) (fun _ _ _ h => h) (by assumption) (by rfl) ?hy18a ?hn18a
        case hy18a => (intro w hSw; (try dsimp only at hSw); go_simp; try with_reducible rfl)
        try simp only [Act.put]
        refine wpAnyL_one (i := 19) rfl (by kernel_rfl) (fun K hK => ?_)
        go_simp
        refine OC.out.mono ?_
        rintro e w3 ⟨v3, rfl, hd3, hb3⟩
        obtain ⟨hs3, fz3⟩ := HST.out w3 (fun j hj => hb3.block j hj)
        obtain ⟨a3, l3, k3, rfl, _⟩ := id hd3
        have HB3 := hide hb3
        have HD3 := hide hd3
        clear hd3 hb3
        refine hK.out _ _ hs3 (fun _ => ?_)
        clear hK K hHeld
        try simp only [Act.put]
        refine wpAnyL_take (i := 20) (v := ?v20a) rfl (by kernel_rfl) (fun _ _ _ h => h) (by assumption) (by rfl) ?hy20a ?hn20a
        case hy20a => (intro w hSw; (try dsimp only at hSw); go_simp; try with_reducible rfl)
        try simp only [Act.put]
        refine wpAnyL_last rfl (by kernel_rfl) (by kernel_rfl) (fun K hK => ?_)
        obtain ⟨_, _, _, _, co3⟩ := hs3
        go_simp
        refine hK.out _ _ ?_
        clear hK K fz3 co3
        have hb3' : Below wr.heap.size wr w3 := HBD.out.trans (HB3.out.mono HBD.out.size)
        have HI3 := hide ((HI.out.below hb3').puts HX.out HD3.out)
        rw [← HSU.out] at HI3
        have HF3 := hide (Frm.set (j := x) ((HF.out).trans (Frm.below hb3')) (g := gs) (.inr (.inl rfl)) (.slice a3 l3 k3))
        clear hb3'
        go_wp2
        go_roundw
        case rel => exact ⟨k + 1, by omega, by simp, HI3, HF3⟩
        case measure => simp [intOf]; omega
      · have hpz : l.getD k (0, 0) = (0, 0) := by
          rw [List.getD_eq_getElem?_getD, List.getElem?_eq_none (by have := HFF.out.1; omega)]
          rfl
        rw [hpz] at HSU
        clear hpz
        go_wp2_with fail
        generalize hW : wr.alloc (Obj.cells #[.int .u8 0, .int .u8 0] 89) = W1
        have HBW : Hid (Below wr.heap.size wr W1) := hide (by rw [← hW]; exact (Below.refl _ _).alloc (Nat.le_refl _) _)
        have HZ : Hid (W1.heap[wr.heap.size]? = some (.cells #[.int .u8 0, .int .u8 0] 89 (0, 0))) := hide (by rw [← hW]; exact heap_alloc_new wr _)
        have HL := hide HI.out.lts
        have HNE := hide HI.out.ne
        generalize hrr : wr.heap.size = r at *
        have HRR := hide hrr
        have HST : Hid (∀ W : World, (∀ j, j < W1.heap.size → W.heap[j]? = W1.heap[j]?) → (fun W : World => W.cell? ⟨g, 0, none⟩ = some (.slice (some ⟨gs, 0, none⟩) n (n + st.xs)) ∧ W.cell? ⟨g, 1, none⟩ = some (.map (some b)) ∧ (Instr.lookup 66 (.map (some b)) (.int .i64 (x : Int)) false).run Try.prog W = .ok (.slice af lff cf) W ∧ (W.cell? ⟨r, 0, none⟩ = some (.int .u8 0) ∧ W.cell? ⟨r, 1, none⟩ = some (.int .u8 0)) ∧ W.cell? ⟨gs, x, none⟩ = some (.slice ao lo co)) W ∧ W.frozen? ⟨gs, x, none⟩ = false) := hide (by
          intro W hW'
          have hz1 := HBW.out.size
          rw [HRR.out] at hz1
          obtain ⟨l1, l2, l3⟩ := HL.out
          have hg := (hW' g (by omega)).trans (HBW.out.block g l1)
          have hgs := (hW' gs (by omega)).trans (HBW.out.block gs l2)
          have hb := (hW' b (by omega)).trans (HBW.out.block b l3)
          have hr := (hW' r (heap_lt HZ.out)).trans HZ.out
          obtain ⟨s1, s2, s3⟩ := HRS.out W hg hb
          obtain ⟨o1, o2⟩ := HRO.out W hgs
          exact ⟨⟨s1, s2, s3, ⟨by simp [World.cell?, hr], by simp [World.cell?, hr]⟩, o1⟩, o2⟩)
        have HBD : Hid (Below wr.heap.size wr W1.drew) := hide (HRR.out ▸ (HBW.out.trans (Below.drew (Below.refl _ _))))
        have OC := hide (out_any W1.drew 0 0 (by decide) (.slice ao lo co) (.slice af lff cf) _ _ (HDO.out.kept (K5.below HBD.out)) (HDF.out.kept (K5.below HBD.out)) (fun i hi => Nat.lt_of_lt_of_le (HI.out.xb i hi) HBD.out.size))
        clear hW hx hcx hrr
        refine wp_region_last 21 (fun W : World => W.cell? ⟨g, 0, none⟩ = some (.slice (some ⟨gs, 0, none⟩) n (n + st.xs)) ∧ W.cell? ⟨g, 1, none⟩ = some (.map (some b)) ∧ (Instr.lookup 66 (.map (some b)) (.int .i64 (x : Int)) false).run Try.prog W = .ok (.slice af lff cf) W ∧ (W.cell? ⟨r, 0, none⟩ = some (.int .u8 0) ∧ W.cell? ⟨r, 1, none⟩ = some (.int .u8 0)) ∧ W.cell? ⟨gs, x, none⟩ = some (.slice ao lo co)) (by kernel_rfl) (HST.out W1.drew (fun j hj => rfl)).1 (fun hHeld => ?_)
        refine wpAnyL_take (i := 0) (v := ?v0b) rfl (by kernel_rfl) (fun _ _ _ h => h) (by assumption) (by rfl) ?hy0b ?hn0b
        case hy0b => (intro w hSw; (try dsimp only at hSw); go_simp; try with_reducible rfl)
        try simp only [Act.put]
        refine wpAnyL_take (i := 1) (v := ?v1b) rfl (by kernel_rfl) (fun _ _ _ h => h) (by assumption) (by rfl) ?hy1b ?hn1b
        case hy1b => (intro w hSw; (try dsimp only at hSw); go_simp; try with_reducible rfl)
        try simp only [Act.put]
        refine wpAnyL_take (i := 2) (v := ?v2b) rfl (by kernel_rfl) (fun _ _ _ h => h) (by assumption) (by rfl) ?hy2b ?hn2b
        case hy2b => (intro w hSw; (try dsimp only at hSw); go_simp; try with_reducible rfl)
        try simp only [Act.put]
        refine wpAnyL_take (i := 3) (v := ?v3b) rfl (by kernel_rfl) (fun _ _ _ h => h) (by assumption) (by rfl) ?hy3b ?hn3b
        case hy3b => (intro w hSw; (try dsimp only at hSw); go_simp; try with_reducible rfl)
        try simp only [Act.put]
        refine wpAnyL_take (i := 4) (v := ?v4b) rfl (by kernel_rfl) (fun _ _ _ h => h) (by assumption) (by rfl) ?hy4b ?hn4b
        case hy4b => (intro w hSw; (try dsimp only at hSw); go_simp; try with_reducible rfl)
        try simp only [Act.put]
        refine wpAnyL_take (i := 5) (v := ?v5b) rfl (by kernel_rfl) (fun _ _ _ h => h) (by assumption) (by rfl) ?hy5b ?hn5b
        case hy5b => (intro w hSw; (try dsimp only at hSw); go_simp; try with_reducible rfl)
        try simp only [Act.put]
        refine wpAnyL_take (i := 6) (v := ?v6b) rfl (by kernel_rfl) (fun _ _ _ h => h) (by assumption) (by rfl) ?hy6b ?hn6b
        case hy6b => (intro w hSw; (try dsimp only at hSw); go_simp; try with_reducible rfl)
        try simp only [Act.put]
        refine wpAnyL_take (i := 7) (v := ?v7b) rfl (by kernel_rfl) (fun _ _ _ h => h) (by assumption) (by rfl) ?hy7b ?hn7b
        case hy7b => (intro w hSw; (try dsimp only at hSw); go_simp; try with_reducible rfl)
        try simp only [Act.put]
        refine wpAnyL_take (i := 8) (v := ?v8b) rfl (by kernel_rfl) (fun _ _ _ h => h) (by assumption) (by rfl) ?hy8b ?hn8b
        case hy8b => (intro w hSw; (try dsimp only at hSw); go_simp; try with_reducible rfl)
        try simp only [Act.put]
        refine wpAnyL_take (i := 9) (v := ?v9b) rfl (by kernel_rfl) (fun _ _ _ h => h) (by assumption) (by rfl) ?hy9b ?hn9b
        case hy9b => (intro w hSw; (try dsimp only at hSw); go_simp; try with_reducible rfl)
        try simp only [Act.put]
        refine wpAnyL_take (i := 10) (v := ?v10b) rfl (by kernel_rfl) (fun _ _ _ h => h) (by assumption) (by rfl) ?hy10b ?hn10b
        case hy10b => (intro w hSw; (try dsimp only at hSw); go_simp; try with_reducible rfl)
        try simp only [Act.put]
        refine wpAnyL_take (i := 11) (v := ?v11b) rfl (by kernel_rfl) (fun _ _ _ h => h) (by assumption) (by rfl) ?hy11b ?hn11b
        case hy11b => (intro w hSw; (try dsimp only at hSw); go_simp; try with_reducible rfl)
        try simp only [Act.put]
        refine wpAnyL_take (i := 12) (v := ?v12b) rfl (by kernel_rfl) (fun _ _ _ h => h) (by assumption) (by rfl) ?hy12b ?hn12b
        case hy12b => (intro w hSw; (try dsimp only at hSw); go_simp; try with_reducible rfl)
        try simp only [Act.put]
        refine wpAnyL_take (i := 13) (v := ?v13b) rfl (by kernel_rfl) (fun _ _ _ h => h) (by assumption) (by rfl) ?hy13b ?hn13b
        case hy13b => (intro w hSw; (try dsimp only at hSw); go_simp; try with_reducible rfl)
        try simp only [Act.put]
        refine wpAnyL_take (i := 14) (v := ?v14b) rfl (by kernel_rfl) (fun _ _ _ h => h) (by assumption) (by rfl) ?hy14b ?hn14b
        case hy14b => (intro w hSw; (try dsimp only at hSw); go_simp; try with_reducible rfl)
        try simp only [Act.put]
        refine wpAnyL_take (i := 15) (v := ?v15b) rfl (by kernel_rfl) (fun _ _ _ h => h) (by assumption) (by rfl) ?hy15b ?hn15b
        case hy15b => (intro w hSw; (try dsimp only at hSw); go_simp; try with_reducible rfl)
        try simp only [Act.put]
        refine wpAnyL_take (i := 16) (v := ?v16b) rfl (by kernel_rfl) (fun _ _ _ h => h) (by assumption) (by rfl) ?hy16b ?hn16b
        case hy16b => (intro w hSw; (try dsimp only at hSw); go_simp; try with_reducible rfl)
        try simp only [Act.put]
        refine wpAnyL_take (i := 17) (v := ?v17b) rfl (by kernel_rfl) (fun _ _ _ h => h) (by assumption) (by rfl) ?hy17b ?hn17b
        case hy17b => (intro w hSw; (try dsimp only at hSw); go_simp; try with_reducible rfl)
        try simp only [Act.put]
        refine wpAnyL_take (i := 18) (v := ?v18b) rfl (by kernel_rfl) (fun _ _ _ h => h) (by assumption) (by rfl) ?hy18b ?hn18b
        case hy18b => (intro w hSw; (try dsimp only at hSw); go_simp; try with_reducible rfl)
        try simp only [Act.put]
        refine wpAnyL_one (i := 19) rfl (by kernel_rfl) (fun K hK => ?_)
        go_simp
        refine OC.out.mono ?_
        rintro e w3 ⟨v3, rfl, hd3, hb3⟩
        obtain ⟨hs3, fz3⟩ := HST.out w3 (fun j hj => hb3.block j hj)
        obtain ⟨a3, l3, k3, rfl, _⟩ := id hd3
        have HB3 := hide hb3
        have HD3 := hide hd3
        clear hd3 hb3
        refine hK.out _ _ hs3 (fun _ => ?_)
        clear hK K hHeld
        try simp only [Act.put]
        refine wpAnyL_take (i := 20) (v := ?v20b) rfl (by kernel_rfl) (fun _ _ _ h => h) (by assumption) (by rfl) ?hy20b ?hn20b
        case hy20b => (intro w hSw; (try dsimp only at hSw); go_simp; try with_reducible rfl)
        try simp only [Act.put]
        refine wpAnyL_last rfl (by kernel_rfl) (by kernel_rfl) (fun K hK => ?_)
        obtain ⟨_, _, _, _, co3⟩ := hs3
        go_simp
        refine hK.out _ _ ?_
        clear hK K fz3 co3
        have hb3' : Below wr.heap.size wr w3 := HBD.out.trans (HB3.out.mono HBD.out.size)
        have HI3 := hide ((HI.out.below hb3').puts HX.out HD3.out)
        rw [← HSU.out] at HI3
        have HF3 := hide (Frm.set (j := x) ((HF.out).trans (Frm.below hb3')) (g := gs) (.inr (.inl rfl)) (.slice a3 l3 k3))
        clear hb3'
        go_wp2
        go_roundw
        case rel => exact ⟨k + 1, by omega, by simp, HI3, HF3⟩
        case measure => simp [intOf]; omega
end Go.Proofs.Ytecmfpgccmmlpaa
