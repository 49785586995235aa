/- versions and writes, sorted -/
import Derived.Test.YtlkmcbelmldleaaGreatVQ
namespace Go.Proofs.YtlkmcbelmldleaaGreat
open Go.RowKit Go.Shelf Go.Lib Go.Sort
set_option maxRecDepth 40000
/-- a write -/
structure Wt where
  key : ByteArray
  val : ByteArray
  gone : Bool
def Wt0 : Wt := ⟨⟨#[]⟩, ⟨#[]⟩, false⟩
abbrev wtc (x : Wt) : List Value := [.string x.key, .string x.val, .bool x.gone]
/-- writes in memory -/
def IsW (w : World) (a : Option Addr) (len cap : Nat) (l : List Wt) : Prop :=
  l.length = len ∧ len ≤ cap ∧ cap ≤ maxLen ∧ ∀ i, i < len → ∃ b off, a = some ⟨b, off, none⟩ ∧ b < w.heap.size ∧ w.cell? ⟨b, off + i * 3, none⟩ = some (.string (l.getD i Wt0).key) ∧ w.cell? ⟨b, off + i * 3 + 1, none⟩ = some (.string (l.getD i Wt0).val) ∧ w.cell? ⟨b, off + i * 3 + 2, none⟩ = some (.bool (l.getD i Wt0).gone)
theorem IsW.below {w w' : World} {a : Option Addr} {len cap : Nat} {l : List Wt} (h : IsW w a len cap l) (hb : Below w.heap.size w w') : IsW w' a len cap l := by
  refine ⟨h.1, h.2.1, h.2.2.1, fun i hi => ?_⟩
  obtain ⟨b, off, e, hlt, h0, h1, h2⟩ := h.2.2.2 i hi
  have k : ∀ j, w'.cell? ⟨b, j, none⟩ = w.cell? ⟨b, j, none⟩ := fun j => World.cell?_of_block (hb.block b hlt)
  exact ⟨b, off, e, Nat.lt_of_lt_of_le hlt hb.size, (k _).trans h0, (k _).trans h1, (k _).trans h2⟩
theorem ltV_eq (x y : Vr) : ltOf cfV x y = behindB x y := by
  unfold ltOf cfV behindB
  by_cases h : x.key.toList = y.key.toList
  · rw [if_pos ((cmpB_zero _ _).2 h), h, less_irrefl]
    unfold cmpN
    by_cases h1 : x.at_ < y.at_
    · simp [h1]
    · by_cases h2 : y.at_ < x.at_ <;> simp [h1, h2]
  · rw [if_neg (fun h' => h ((cmpB_zero _ _).1 h'))]
    have := cmpB_lt x.key.toList y.key.toList
    cases hb : Op.bytesLess x.key.toList y.key.toList
    · have h2 : ¬ Lib.compareBytes x.key.toList y.key.toList < 0 := fun h' => by have := this.1 h'; rw [hb] at this; cases this
      rw [decide_eq_false h2, decide_eq_false h]; rfl
    · rw [decide_eq_true (this.2 hb)]; rfl
theorem le_trans_key {a b c : List UInt8} (h1 : Op.bytesLess b a = false) (h2 : Op.bytesLess c b = false) : Op.bytesLess c a = false := by
  cases h : Op.bytesLess c a
  · rfl
  · exfalso
    cases h3 : Op.bytesLess b c
    · have e := less_tri _ _ h3 h2
      subst e
      rw [h1] at h; cases h
    · have := less_trans _ _ _ h3 h
      rw [h1] at this; cases this
theorem swoV : SWO (ltOf cfV) where
  irrefl x := by rw [ltV_eq]; unfold behindB; simp [less_irrefl]
  trans x y z h1 h2 := by rw [ltV_eq] at *; exact behind_trans h1 h2
  ntrans x y z h1 h2 := by
    rw [ltV_eq, behind_not] at *
    simp only [Bool.not_eq_false', Bool.or_eq_true, Bool.and_eq_true, decide_eq_true_eq] at *
    rcases h1 with h1 | ⟨e1, h1⟩
    · rcases h2 with h2 | ⟨e2, _⟩
      · exact .inl (less_trans _ _ _ h2 h1)
      · exact .inl (e2 ▸ h1)
    · rcases h2 with h2 | ⟨e2, h2⟩
      · exact .inl (e1 ▸ h2)
      · exact .inr ⟨e1.trans e2, by omega⟩
def cfW (x y : Wt) : Int := Lib.compareBytes x.key.toList y.key.toList
theorem ltW_eq (x y : Wt) : ltOf cfW x y = Op.bytesLess x.key.toList y.key.toList := by
  unfold ltOf cfW
  have := cmpB_lt x.key.toList y.key.toList
  cases hb : Op.bytesLess x.key.toList y.key.toList
  · rw [hb] at this; simp; simp at this; omega
  · exact decide_eq_true (this.2 hb)
theorem swoW : SWO (ltOf cfW) where
  irrefl x := by rw [ltW_eq]; exact less_irrefl _
  trans x y z h1 h2 := by rw [ltW_eq] at *; exact less_trans _ _ _ h1 h2
  ntrans x y z h1 h2 := by rw [ltW_eq] at *; exact le_trans_key h2 h1
set_option maxHeartbeats 1000000 in
theorem twice1_any (x y : Wt) (W : World) : Calls Tryz.prog 122 #[.agg (wtc x).toArray, .agg (wtc y).toArray] W fun e w' => e = .returned (.int .i64 (cfW x y)) ∧ ∃ q os', w' = grow (W.drewN q) os' := by
  obtain ⟨x1, x3, x4⟩ := x
  obtain ⟨y1, y3, y4⟩ := y
  show Calls Tryz.prog 122 #[.agg #[.string x1, .string x3, .bool x4], .agg #[.string y1, .string y3, .bool y4]] W _
  have HC1 := hide (fun W => cmpS_any x1 y1 W)
  have HCF : Hid (cfW ⟨x1, x3, x4⟩ ⟨y1, y3, y4⟩ = Lib.compareBytes x1.toList y1.toList) := hide rfl
  have HGR : Hid (∃ q os', ((W.alloc (.cells #[.string x1, .string x3, .bool x4] 64)).alloc (.cells #[.string y1, .string y3, .bool y4] 64)) = grow (W.drewN q) os') := hide ⟨0, _, by rw [alloc_eq_grow, alloc_eq_grow, grow_grow]; rfl⟩
  generalize Lib.compareBytes x1.toList y1.toList = c1 at *
  go_enter Tryz.func122, Tryz.ntmps122
  go_wp2_with (first | (go_at_call 66; refine (HC1.out _).mono ?_; rintro e w' ⟨rfl, rfl⟩))
  go_ret
  exact ⟨ret_int HCF.out.symm, HGR.out⟩
theorem twice2_any (x y : Wt) (W : World) : Calls Tryz.prog 123 #[.agg #[.string x.key, .string x.val, .bool x.gone], .agg #[.string y.key, .string y.val, .bool y.gone]] W fun e w' => e = .returned (.bool (x.key.toList == y.key.toList)) ∧ Below W.heap.size W w' := by
  obtain ⟨x1, x3, x4⟩ := x
  obtain ⟨y1, y3, y4⟩ := y
  have HB : Hid (Below W.heap.size W ((W.alloc (.cells #[.string x1, .string x3, .bool x4] 64)).alloc (.cells #[.string y1, .string y3, .bool y4] 64))) := hide (((Below.refl _ W).alloc (Nat.le_refl _) _).alloc (by simp) _)
  go_enter Tryz.func123, Tryz.ntmps123
  go_wp2
  go_ret
  exact ⟨rfl, HB.out⟩
/-- slices.SortFunc of versions -/
theorem sortV_any (base g cap n : Nat) (l : List Vr) (w : World) (hl : l.length = n) (hn : n < 4611686018427387904) (hown : w.ownsRow base 66 4 (.slice (some ⟨g, 0, none⟩) n cap) n (l.flatMap vrc)) :
    Calls Tryz.prog 63 #[.slice (some ⟨g, 0, none⟩) n cap, .func (.func 64) #[] #[]] w fun e w' => e = .returned (.tuple #[]) ∧ ∃ l' : List Vr, l'.Perm l ∧ (∀ i j, i < j → j < n → behindB (l'.getD j Vr0) (l'.getD i Vr0) = false) ∧ w'.ownsRow base 66 4 (.slice (some ⟨g, 0, none⟩) n cap) n (l'.flatMap vrc) ∧ w.grownBy w' (some g) := by
  rcases hown.2 with ⟨h, _⟩ | ⟨g', cap', cur, e, hb, hg, h1, h2, h3, h4⟩
  · cases h
  cases e
  letI : Inhabited Vr := ⟨Vr0⟩
  have eg : ∀ args w, (callFunc 64 args).run Tryz.prog w = .ok (.enter 64 args) w := enters_of Tryz.func64 (by kernel_rfl) rfl
  have hH := row_holds vrc 4 (fun _ => rfl) hl hg h3 h4
  have hcon := AnyQ.slices_SortFunc Tryz.sortV 4 Tryz.isAgg66 Tryz.sizeOf66 vrc (fun _ => rfl) (fun x v hv => by simp at hv; rcases hv with rfl | rfl | rfl | rfl <;> rfl) cfV swoV 64 #[] g 0 cap l.toArray w eg (fun m os dk _ x y => put1_any x y _) hH (heap_lt hg) (by rw [List.size_toArray]; omega)
  change Calls Tryz.prog 63 _ _ _ at hcon
  rw [List.size_toArray, hl] at hcon
  refine hcon.mono ?_
  rintro e w' ⟨rfl, d', m, os, hp, hsrt, rfl⟩
  have hsz : d'.toList.length = n := by rw [Array.length_toList, hp.1, List.size_toArray, hl]
  have hd : d' = d'.toList.toArray := by simp
  refine ⟨rfl, d'.toList, ?_, ?_, ?_, sort_grown vrc 4 d'⟩
  · have := hp.2.2
    rw [show d'.extract 0 n = d' by rw [← hsz]; simp, show l.toArray.extract 0 n = l.toArray by rw [← hl]; simp] at this
    exact this
  · intro i j hij hj
    have := hsrt i j (Nat.zero_le _) hij hj
    rw [ltV_eq] at this
    have e : ∀ k, d'[k]! = d'.toList.getD k Vr0 := fun k => by
      rw [List.getD_eq_getElem?_getD, Array.getElem?_toList, getElem!_def]
      cases d'[k]? <;> rfl
    rw [e, e] at this
    exact this
  · obtain ⟨cur', q1, q2, q3⟩ := sort_blk vrc 4 (fun _ => rfl) (by omega) (n := m) (os := os) d'.toList hg h3 (by omega)
    rw [← hd] at q1
    exact ⟨by rw [flat_len, hsz], .inr ⟨g, cap, cur', rfl, hb, q1, h1, h2, q2, by rw [← hsz]; exact q3⟩⟩
end Go.Proofs.YtlkmcbelmldleaaGreat
