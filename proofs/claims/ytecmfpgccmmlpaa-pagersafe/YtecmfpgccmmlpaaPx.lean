/- contracts: New, Sync -/
import Derived.Test.YtecmfpgccmmlpaaOx
import Derived.Maps.RangeWalk
namespace Go.Proofs.Ytecmfpgccmmlpaa
open Go.RowKit
open Go.ChangeMaps (setBlock)
open Go.Maps (Keyed has size)
variable {X : Nat → Prop}
theorem Try.info25 : (Try.prog.info? 25).map (fun i => (i.zero, i.size, i.bytes)) = some (some (.slice none 0 0), 1, 24) := by kernel_rfl
def nils (n : Nat) : List Value := List.replicate n (.slice none 0 0)
theorem nils_made (n : Nat) : madeCells #[Value.slice none 0 0] n = (nils n).toArray := by
  simp [madeCells, nils, Nat.mod_one, Array.ext_iff]
theorem run_mk59 (W : World) (n : Nat) (hb : n ≤ 1024) :
    (Instr.makeSlice 56 (.int .i64 (n : Int)) (.int .i64 (n : Int))).run Try.prog W = .ok (.slice (some ⟨W.heap.size, 0, none⟩) n n) (W.alloc (.cells (nils n).toArray 25)) := by
  obtain ⟨i0, hi, hz0, hz1, hz2⟩ := info_parts Try.info25
  have hr := run_make (P := Try.prog) W 56 25 i0 _ Try.underlying56 hi hz0 .i64 .i64 (n : Int) (n : Int) (by omega) (by omega) (by rw [hz2]; omega) (by omega)
  rw [hr, hz1]
  simp only [Int.toNat_natCast, Nat.mul_one]
  rw [show (Value.slice none 0 0).cells = #[Value.slice none 0 0] from rfl, nils_made]
/-- a disk of n sectors -/
def st0 : St := ⟨fun _ => [], fun _ => none, 0, false, 0, false, 0⟩
theorem new_isD (w : World) (n : Nat) (h0 : 0 < n) (h1 : n ≤ 1024) (hX : ∀ i, X i → i < w.heap.size) :
    IsD X (((w.alloc (.cells (nils n).toArray 25)).alloc (.map #[] 0)).alloc (.cells #[.slice (some ⟨w.heap.size, 0, none⟩) n n, .map (some (w.heap.size + 1)), .int .i64 0, .bool false, .int .i64 0, .bool false] 68)) (w.heap.size + 2) w.heap.size (w.heap.size + 1) n st0 := by
  have e1 := heap_alloc_new w (.cells (nils n).toArray 25)
  have e2 := heap_alloc_new (w.alloc (.cells (nils n).toArray 25)) (.map #[] 0)
  have e3 := heap_alloc_new ((w.alloc (.cells (nils n).toArray 25)).alloc (.map #[] 0)) (.cells #[.slice (some ⟨w.heap.size, 0, none⟩) n n, .map (some (w.heap.size + 1)), .int .i64 0, .bool false, .int .i64 0, .bool false] 68)
  have s1 : (w.alloc (.cells (nils n).toArray 25)).heap.size = w.heap.size + 1 := by simp
  have s2 : ((w.alloc (.cells (nils n).toArray 25)).alloc (.map #[] 0)).heap.size = w.heap.size + 2 := by simp
  have hm := World.ownsMap_made (w.alloc (.cells (nils n).toArray 25)) Try.prog 3 heldR
  rw [s1] at e2 hm
  rw [s2] at e3
  refine ⟨h0, h1, e3, ⟨(nils n).toArray, ?_, ⟨by simp [nils, st0], fun i v hi hv => by rw [List.getElem?_toArray, List.getElem?_eq_none (by simp [nils]; exact hi)] at hv; cases hv⟩, fun i hi => ⟨.slice none 0 0, by simp [nils, hi], dat_nil _⟩⟩, ⟨0, .map [], hm.alloc _, Nat.le_refl _, fun k hk => .inl ⟨rfl, rfl⟩, fun kl hkl => by cases hkl⟩, by decide, by decide, fun i hi => by have := hX i hi; simp; omega⟩
  exact (Below.heap_alloc _ _ _ (by simp; omega)).trans ((Below.heap_alloc _ _ _ (by simp)).trans e1)
theorem new_no (w : World) (n : Int) (h : ¬ (1 ≤ n ∧ n ≤ 1024)) : Calls Try.prog 14 #[.int .i64 n] w fun e w' => e = .returned (.pointer none) ∧ w' = w := by
  by_cases h1 : n < 1
  · have d1 : decide (n < 1) = true := decide_eq_true h1
    clear h
    go_enter Try.func14, Try.ntmps14
    go_wp2
    go_ret
    exact ⟨rfl, rfl⟩
  · have d1 : decide (n < 1) = false := decide_eq_false h1
    have d2 : decide (1024 < n) = true := decide_eq_true (by omega)
    clear h h1
    go_enter Try.func14, Try.ntmps14
    go_wp2
    go_ret
    exact ⟨rfl, rfl⟩
/-- disk.New -/
theorem new_ok (w : World) (n : Nat) (h0 : 0 < n) (h1 : n ≤ 1024) (hX : ∀ i, X i → i < w.heap.size) : Calls Try.prog 14 #[.int .i64 (n : Int)] w fun e w' => ∃ g gs b, e = .returned (.pointer (some ⟨g, 0, none⟩)) ∧ IsD X w' g gs b n st0 ∧ Below w.heap.size w w' ∧ ∀ i, SD g gs b i → w.heap.size ≤ i := by
  have d1 : decide ((n : Int) < 1) = false := decide_eq_false (by omega)
  have d2 : decide ((1024 : Int) < (n : Int)) = false := decide_eq_false (by omega)
  have hmk := fun W => run_mk59 W n h1
  have hmm : ∀ W : World, (Instr.makeMap 66 none).run Try.prog W = .ok (.map (some W.heap.size)) (W.alloc (.map #[] 0)) := fun _ => rfl
  have HI := hide (new_isD (X := X) w n h0 h1 hX)
  clear h0 h1 hX
  go_enter Try.func14, Try.ntmps14
  go_wp2
  go_ret
  refine ⟨_, _, _, rfl, HI.out, (((Below.refl _ _).alloc (Nat.le_refl _) _).alloc (by simp) _).alloc (by simp; omega) _, ?_⟩
  rintro i (rfl | rfl | rfl) <;> omega
theorem run_clear60 (W : World) (ty : TypeId) (b : Nat) (es : Array MapEntry) (clock : Nat) (hb : W.heap[b]? = some (.map es clock)) :
    (Builtin.clear_ #[66] ty #[.map (some b)]).run Try.prog W = .ok (.tuple #[]) (setBlock W b (.map #[] clock)) := by
  have h2 : (setObj b (.map #[] clock)).run Try.prog W = .ok () (setBlock W b (.map #[] clock)) := by
    simp [setObj, Sem.run, hb, setBlock]
  simp [Builtin.clear_, run_underlying Try.underlying66, MapKept.run_getObj_map hb, h2, Result.andThen]
theorem sameKey_self (k : Nat) : (ky k).sameKey (ky k) = true := WideAt.sameKey_self trivial
theorem sameKey_other {j k : Nat} (h : j ≠ k) : (ky j).sameKey (ky k) = false := Go.Maps.sameKey_ne (fun e => h (ky_inj e))
def St.syncs (st : St) : St := { st with syn := st.reads, fr := fun _ => none }
theorem Frm.far {S : Nat → Prop} {a b c : World} {s : Option Nat} (h : Frm S a b) (k : b.grownBy c s) (hs : ∀ j, s = some j → a.heap.size ≤ j) : Frm S a c :=
  ⟨k.os.trans h.os, k.tape.trans h.tape, k.output.trans h.output, Nat.le_trans h.size k.size, fun i hi hn => (k.block i (Nat.lt_of_lt_of_le hi h.size) (fun e => by have := hs i e.symm; omega)).trans (h.block i hi hn)⟩
/-- the disk's record while it is synced -/
structure InSync (X : Nat → Prop) (w wr : World) (g gs b n r : Nat) (st : St) (m : Nat) (D : DataW Value) (left : Lit → Bool) (cnt : Nat) : Prop where
  rg : wr.ranges Try.prog 3 heldR b r m D left cnt
  blk : wr.heap[g]? = w.heap[g]?
  syn : ∃ cur : Array Value, wr.heap[gs]? = some (.cells cur 25 (0, 0)) ∧ Rest0 n st.xs cur ∧ ∀ i, i < n → ∃ v, cur[i]? = some v ∧ Dat X wr v (if left (ky i) then st.syn i else st.reads i)
  fr : FrD X wr D n st.fr
  sub : ∀ kl, left kl = true → has D kl = true
  fm : Frm (SD g gs b) w wr
theorem InSync.step {w wr w2 : World} {g gs b n r : Nat} {st : St} {m : Nat} {D : DataW Value} {left : Lit → Bool} {cnt cnt' k : Nat} {c : Value} {l : List Nat} (h : InSync X w wr g gs b n r st m D left cnt) (hr : w.heap.size ≤ r)
    (hk : k < n) (hf : st.fr k = some l) (hD : Dat X w2 c l) (hgr : wr.grownBy w2 (some r)) (h5 : K5 wr w2) (hgi : g ≠ gs ∧ g ≠ b ∧ gs ≠ b)
    (hrg : w2.ranges Try.prog 3 heldR b r m D (fun z => left z && !z.sameKey (ky k)) cnt') (hgb : g < w.heap.size) (hgsb : gs < w.heap.size) :
    InSync X w (w2.setCell ⟨gs, k, none⟩ c) g gs b n r st m D (fun z => left z && !z.sameKey (ky k)) cnt' := by
  obtain ⟨cur, hc, hsz, hd⟩ := h.syn
  have hsz2 := h.fm.size
  have hc2 : w2.heap[gs]? = some (.cells cur 25 (0, 0)) := (hgr.block gs (heap_lt hc) (by simp; omega)).trans hc
  have hK : K5 w2 (w2.setCell ⟨gs, k, none⟩ c) := fun j cur' m' hj => by
    have hne : j ≠ gs := by rintro rfl; rw [hc2] at hj; simp at hj
    exact (Below.heap_setCell _ _ _ _ hne).trans hj
  refine ⟨hrg.kept (grown_set (World.grownBy.refl _ _) _) (by simp; exact Ne.symm hgi.2.2) (by simp; omega), ?_, ⟨cur.setIfInBounds k c, blk_set hc2 _, hsz.set hk, fun i hi => ?_⟩, (h.fr.kept h5).kept hK, fun kl hkl => h.sub kl (by simp at hkl; exact hkl.1), ?_⟩
  · exact (Below.heap_setCell _ _ _ _ hgi.1).trans ((hgr.block g (by omega) (by simp; omega)).trans h.blk)
  · by_cases hik : i = k
    · subst hik
      refine ⟨c, by simp [hsz.lt hi], ?_⟩
      rw [sameKey_self]
      simp only [Bool.not_true, Bool.and_false, Bool.false_eq_true, if_false]
      have : st.reads i = l := by unfold St.reads; rw [hf]; rfl
      rw [this]
      exact hD.kept hK
    · obtain ⟨v, hv, hdv⟩ := hd i hi
      refine ⟨v, by simp [Ne.symm hik, hv], ?_⟩
      rw [sameKey_other hik]
      simp only [Bool.not_false, Bool.and_true]
      exact (hdv.kept h5).kept hK
  · exact (h.fm.far hgr (fun j hj => by cases hj; exact hr)).set (.inr (.inl rfl)) _
theorem K5.grown {a b : World} {r : Nat} (h : a.grownBy b (some r)) (hr : ∀ cur m, a.heap[r]? ≠ some (.cells cur 5 m)) : K5 a b := fun j cur m hj => (h.block j (heap_lt hj) (by simp; rintro rfl; exact hr cur m hj)).trans hj
theorem ranges_blk {w : World} {b r m : Nat} {D : DataW Value} {left : Lit → Bool} {cnt : Nat} (h : w.ranges Try.prog 3 heldR b r m D left cnt) : (∀ cur m', w.heap[r]? ≠ some (.cells cur 5 m')) ∧ ∃ es clock, w.heap[b]? = some (.map es clock) := by
  obtain ⟨es, clock, since, seen, c0, hb, _, _, _, hr, _⟩ := h
  exact ⟨fun cur m' e => (by rw [hr] at e; cases e), es, clock, hb⟩
/-- (*Disk).Sync -/
theorem sync_dn (w : World) (g gs b n : Nat) (st : St) (h : IsD X w g gs b n st) (hd : st.down = true) :
    Calls Try.prog 44 #[.pointer (some ⟨g, 0, none⟩)] w fun e w' => e = .returned (.int .i64 8) ∧ w' = w := by
  have RD := hide (ready_dn w g gs b n st h hd)
  clear h hd
  go_enter Try.func44, Try.ntmps44
  go_wp2_with fail
  refine RD.out.mono ?_
  rintro e w' ⟨rfl, rfl⟩
  go_wp2
  go_ret
  exact ⟨rfl, rfl⟩
theorem sync_nil (w : World) : Calls Try.prog 44 #[.pointer none] w fun e w' => e = .returned (.int .i64 1) ∧ w' = w := by
  go_enter Try.func44, Try.ntmps44
  go_wp2_with fail
  refine (ready_nil w).mono ?_
  rintro e w' ⟨rfl, rfl⟩
  go_wp2
  go_ret
  exact ⟨rfl, rfl⟩
theorem InSync.cells {w wr : World} {g gs b n r : Nat} {st : St} {m : Nat} {D : DataW Value} {left : Lit → Bool} {cnt : Nat} (h : InSync X w wr g gs b n r st m D left cnt) (hI : IsD X w g gs b n st) : wr.cell? ⟨g, 0, none⟩ = some (.slice (some ⟨gs, 0, none⟩) n (n + st.xs)) ∧ wr.cell? ⟨g, 1, none⟩ = some (.map (some b)) :=
  ⟨(World.cell?_of_block h.blk).trans hI.cells.c0, (World.cell?_of_block h.blk).trans hI.cells.c1⟩
theorem InSync.done {w wr : World} {g gs b n r : Nat} {st : St} {m : Nat} {D : DataW Value} {left : Lit → Bool} {cnt : Nat} (h : InSync X w wr g gs b n r st m D left cnt) (hI : IsD X w g gs b n st) (hl : ∀ kl, left kl = false) (es : Array MapEntry) (clock : Nat) (hb : wr.heap[b]? = some (.map es clock)) :
    IsD X (setBlock wr b (.map #[] clock)) g gs b n st.syncs ∧ Frm (SD g gs b) w (setBlock wr b (.map #[] clock)) := by
  obtain ⟨n1, n2, n3⟩ := hI.ne
  obtain ⟨cur, hc, hsz, hd⟩ := h.syn
  have hoth : ∀ j, j ≠ b → (setBlock wr b (.map #[] clock)).heap[j]? = wr.heap[j]? := fun j hj => by simp [setBlock, Ne.symm hj]
  have hK : K5 wr (setBlock wr b (.map #[] clock)) := fun j cur' m' hj => by
    have hne : j ≠ b := by rintro rfl; rw [hb] at hj; cases hj
    exact (hoth j hne).trans hj
  have hbb : (setBlock wr b (.map #[] clock)).heap[b]? = some (.map #[] clock) := by simp [setBlock, heap_lt hb]
  refine ⟨⟨hI.n0, hI.n1, (hoth g n2).trans (h.blk.trans hI.blk), ⟨cur, (hoth gs n3).trans hc, hsz, fun i hi => ?_⟩, ⟨0, .map [], ⟨#[], clock, hbb, ?_, Nat.le_refl _, rfl⟩, Nat.zero_le _, fun k hk => .inl ⟨rfl, rfl⟩, fun kl hkl => by cases hkl⟩, hI.wr, hI.left, fun i hi => by have := hI.xb i hi; have := h.fm.size; simp [setBlock]; omega⟩, ?_⟩
  · obtain ⟨v, hv, hdv⟩ := hd i hi
    rw [hl] at hdv
    exact ⟨v, hv, hdv.kept hK⟩
  · exact ⟨Nat.zero_le _, by simp [Go.MapKept.Stamped], by simp⟩
  · exact h.fm.trans ⟨rfl, rfl, rfl, by simp [setBlock], fun i hi hn => hoth i (fun e => hn (.inr (.inr e)))⟩
set_option maxRecDepth 20000 in
set_option maxHeartbeats 1000000 in
theorem sync_ok (w : World) (g gs b n : Nat) (st : St) (h : IsD X w g gs b n st) (hd : st.down = false) :
    Calls Try.prog 44 #[.pointer (some ⟨g, 0, none⟩)] w fun e w' => e = .returned (.int .i64 0) ∧ IsD X w' g gs b n st.syncs ∧ Frm (SD g gs b) w w' := by
  have RD := hide (ready_up w g gs b n st h hd)
  have c1 := h.cells.c1
  obtain ⟨m, D, hown, hm, hfr⟩ := h.map
  have hn1 := h.n1
  have H := hide h
  have HFR := hide hfr
  have hgb := heap_lt h.blk
  have hbb := hown.lt
  have hgsb : gs < w.heap.size := by obtain ⟨cur, hc, _⟩ := h.syn; exact heap_lt hc
  have HNE := hide h.ne
  clear h hd hm hfr
  go_enter Try.func44, Try.ntmps44
  go_wp2_with fail
  refine RD.out.mono ?_
  rintro e w' ⟨rfl, rfl⟩
  go_wp2_with (at_range; refine wpList_range_own _ rfl _ 66 rfl 3 25 kint Try.underlying66 heldR b m D rfl hown ?_; intro w0 hrg0 hg0 hs0)
  have h0 : InSync X w' w0 g gs b n w'.heap.size st m D (has D) (Go.Maps.size D) := by
    have hb0 : Below w'.heap.size w' w0 := ⟨hg0.os, hg0.tape, hg0.output, hg0.size, fun k hk => hg0.block k hk (by simp)⟩
    obtain ⟨cur, hc, hsz, hsy⟩ := H.out.syn
    refine ⟨hrg0, hb0.block g hgb, ⟨cur, (hb0.block gs hgsb).trans hc, hsz, fun i hi => ?_⟩, HFR.out.kept (K5.below hb0), fun kl h => h, Frm.below hb0⟩
    obtain ⟨v, hv, hdv⟩ := hsy i hi
    refine ⟨v, hv, ?_⟩
    rcases HFR.out.1 i hi with ⟨h1, h2⟩ | ⟨l, v', h1, h2, _⟩
    · rw [h2]
      have : st.reads i = st.syn i := by unfold St.reads; rw [h1]; rfl
      simp only [Bool.false_eq_true, if_false]
      rw [this]
      exact hdv.kept (K5.below hb0)
    · rw [h2]
      exact hdv.kept (K5.below hb0)
  have H0 := hide h0
  clear hown hrg0 hg0 h0 c1
  go_wp2_with fail
  go_frame
  generalize hr : w'.heap.size = r at *
  have HRR := hide hr
  clear hr
  go_loopw [4, 5] (fun _ _ wr => ∃ left cnt, Hid (InSync X w' wr g gs b n r st m D left cnt)) (fun _ _ wr => wr.rangeLeft b r)
  case atStart => exact ⟨_, _, H0⟩
  case round =>
    obtain ⟨left, cnt, HS⟩ := hrel
    clear H0
    have hrg := HS.out.rg
    have hle := HS.out.rg.left_eq
    go_wp2_with (at_next; refine wpList_next_ranges _ rfl _ rfl 3 kint heldR (Value.int .i64) (fun v : Value => v) (fun key kl hkey => by obtain ⟨x, rfl, _⟩ := Maps.keyOf_int_inv Try.underlying3 hkey; exact ⟨x, rfl⟩) (fun v y _ => ⟨v, rfl⟩) b r m D left cnt rfl hrg ?_ ?_)
    · intro hc0 hl0
      obtain ⟨_, es, clock, hbm⟩ := ranges_blk hrg
      obtain ⟨c0, c1⟩ := HS.out.cells H.out
      have HD := hide (HS.out.done H.out hl0 es clock hbm)
      have hcl := fun ty => run_clear60 wr ty b es clock hbm
      clear hrg hbm hl0
      go_wp2
      go_ret
      exact ⟨rfl, HD.out.1, HD.out.2⟩
    · intro x c kl y1 y2 w1 cnt1 hkey hlk hv hat hrg1 hlt hg1 hs1 hen
      obtain ⟨x', ex, ekl, _⟩ := Maps.keyOf_int_inv Try.underlying3 hkey
      cases ex
      obtain ⟨k, hk, hkk⟩ := HS.out.fr.2 kl (HS.out.sub kl hlk)
      rw [hkk] at ekl hlk hat hrg1
      have hxk : x = k := by unfold ky at ekl; cases ekl; rfl
      subst hxk
      rcases HS.out.fr.1 k hk with ⟨_, h2⟩ | ⟨l, v, hf, h2, hdat, h3⟩
      · have := HS.out.sub _ hlk
        rw [h2] at this; cases this
      have hcv : c = v := by
        have e1 := h3 (.held c)
        rw [hat] at e1
        unfold heldR at hv
        cases hv
        cases e1
        rfl
      subst hcv
      obtain ⟨hR5, _⟩ := ranges_blk hrg
      have h5 : K5 wr w1 := K5.grown hg1 hR5
      obtain ⟨cur, hcu, hsz, _⟩ := HS.out.syn
      have hcu1 : w1.heap[gs]? = some (.cells cur 25 (0, 0)) := (hg1.block gs (heap_lt hcu) (by simp; omega)).trans hcu
      have HN := hide (HS.out.step (Nat.le_of_eq HRR.out) hk hf (hdat.kept h5) hg1 h5 HNE.out hrg1 (by rw [HRR.out]; exact hgb) (by rw [HRR.out]; exact hgsb))
      have c0 : w1.cell? ⟨g, 0, none⟩ = some (.slice (some ⟨gs, 0, none⟩) n (n + st.xs)) := (World.cell?_of_block (hg1.block g (by have := HS.out.fm.size; have := HRR.out; omega) (by simp; omega))).trans (HS.out.cells H.out).1
      have hfz : w1.frozen? ⟨gs, k, none⟩ = false := by simp [World.frozen?, hcu1]
      obtain ⟨v0, hv0⟩ : ∃ v0, cur[k]? = some v0 := ⟨cur[k]'(hsz.lt hk), by simp⟩
      have cs : w1.cell? ⟨gs, k, none⟩ = some v0 := by simp only [World.cell?, hcu1]; exact hv0
      have hle2 := HN.out.rg.left_eq
      have HK := hide hk
      obtain ⟨a0, len0, cap0, rfl, _⟩ := hdat
      clear hrg hrg1 hat h3 h2 hf hlk hkey hv h5 hR5 hcu hsz hcu1 hv0 ekl hkk hg1
      go_wp2
      go_roundw
      case rel => exact ⟨_, _, HN⟩
      case measure => rw [hle, hle2]; exact hlt
end Go.Proofs.Ytecmfpgccmmlpaa
