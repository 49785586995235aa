/- Tp Tq0 Tq Tu -/
import Derived.Test.YtlkmcbelmldleaaGreatCx2
import Derived.Test.YtlkmcbelmldleaaGreatVT
import Derived.Test.YtlkmcbelmldleaaGreatVO
import Derived.Defers
import Derived.Test.YtlkmcbelmldleaaGreatVXa
import Derived.Test.YtlkmcbelmldleaaGreatCx1
/- done: a transaction's writes by rising keys -/
namespace Go.Proofs.YtlkmcbelmldleaaGreat
open Go.RowKit Go.Shelf Go.Lib Go.Sort
open Go.Maps (has size)
set_option maxRecDepth 40000
set_option maxHeartbeats 1000000 in
theorem done1_any (x y : Wt) (W : World) : Calls Tryz.prog 69 #[.agg (wtc x).toArray, .agg (wtc y).toArray] W fun e w' => e = .returned (.int .i64 (cfW x y)) ∧ ∃ q os', w' = grow (W.drewN q) os' := by
  obtain ⟨x1, x3, x4⟩ := x
  obtain ⟨y1, y3, y4⟩ := y
  show Calls Tryz.prog 69 #[.agg #[.string x1, .string x3, .bool x4], .agg #[.string y1, .string y3, .bool y4]] W _
  have HC1 := hide (fun W => cmpS_any x1 y1 W)
  have HCF : Hid (cfW ⟨x1, x3, x4⟩ ⟨y1, y3, y4⟩ = Lib.compareBytes x1.toList y1.toList) := hide rfl
  have HGR : Hid (∃ q os', ((W.alloc (.cells #[.string x1, .string x3, .bool x4] 64)).alloc (.cells #[.string y1, .string y3, .bool y4] 64)) = grow (W.drewN q) os') := hide ⟨0, _, by rw [alloc_eq_grow, alloc_eq_grow, grow_grow]; rfl⟩
  generalize Lib.compareBytes x1.toList y1.toList = c1 at *
  go_enter Tryz.func69, Tryz.ntmps69
  go_wp2_with (first | (go_at_call 66; refine (HC1.out _).mono ?_; rintro e w' ⟨rfl, rfl⟩))
  go_ret
  exact ⟨ret_int HCF.out.symm, HGR.out⟩
/-- slices.SortFunc of writes -/
theorem sortD_any (base g cap n : Nat) (l : List Wt) (w : World) (hl : l.length = n) (hn : n < 4611686018427387904) (hown : w.ownsRow base 64 3 (.slice (some ⟨g, 0, none⟩) n cap) n (l.flatMap wtc)) :
    Calls Tryz.prog 68 #[.slice (some ⟨g, 0, none⟩) n cap, .func (.func 69) #[] #[]] w fun e w' => e = .returned (.tuple #[]) ∧ ∃ l' : List Wt, l'.Perm l ∧ (∀ i j, i < j → j < n → Op.bytesLess (l'.getD j Wt0).key.toList (l'.getD i Wt0).key.toList = false) ∧ w'.ownsRow base 64 3 (.slice (some ⟨g, 0, none⟩) n cap) n (l'.flatMap wtc) ∧ w.grownBy w' (some g) := by
  rcases hown.2 with ⟨h, _⟩ | ⟨g', cap', cur, e, hb, hg, h1, h2, h3, h4⟩
  · cases h
  cases e
  letI : Inhabited Wt := ⟨Wt0⟩
  have eg : ∀ args w, (callFunc 69 args).run Tryz.prog w = .ok (.enter 69 args) w := enters_of Tryz.func69 (by kernel_rfl) rfl
  have hH := row_holds wtc 3 (fun _ => rfl) hl hg h3 h4
  have hcon := AnyQ.slices_SortFunc Tryz.sortW 3 Tryz.isAgg64 Tryz.sizeOf64 wtc (fun _ => rfl) (fun x v hv => by simp at hv; rcases hv with rfl | rfl | rfl <;> rfl) cfW swoW 69 #[] g 0 cap l.toArray w eg (fun m os dk _ x y => done1_any x y _) hH (heap_lt hg) (by rw [List.size_toArray]; omega)
  change Calls Tryz.prog 68 _ _ _ at hcon
  rw [List.size_toArray, hl] at hcon
  refine hcon.mono ?_
  rintro e w' ⟨rfl, d', m, os, hp, hsrt, rfl⟩
  have hsz : d'.toList.length = n := by rw [Array.length_toList, hp.1, List.size_toArray, hl]
  have hd : d' = d'.toList.toArray := by simp
  refine ⟨rfl, d'.toList, ?_, ?_, ?_, sort_grown wtc 3 d'⟩
  · have := hp.2.2
    rw [show d'.extract 0 n = d' by rw [← hsz]; simp, show l.toArray.extract 0 n = l.toArray by rw [← hl]; simp] at this
    exact this
  · intro i j hij hj
    have := hsrt i j (Nat.zero_le _) hij hj
    rw [ltW_eq] at this
    have e : ∀ k, d'[k]! = d'.toList.getD k Wt0 := fun k => by
      rw [List.getD_eq_getElem?_getD, Array.getElem?_toList, getElem!_def]
      cases d'[k]? <;> rfl
    rw [e, e] at this
    exact this
  · obtain ⟨cur', q1, q2, q3⟩ := sort_blk wtc 3 (fun _ => rfl) (by omega) (n := m) (os := os) d'.toList hg h3 (by omega)
    rw [← hd] at q1
    exact ⟨by rw [flat_lenW, hsz], .inr ⟨g, cap, cur', rfl, hb, q1, h1, h2, q2, by rw [← hsz]; exact q3⟩⟩

theorem less_ne {a b : ByteArray} (h : Op.bytesLess a.toList b.toList = true) : a ≠ b := by
  rintro rfl
  rw [less_irrefl] at h; cases h
theorem key_str_inv {key : Value} {kl : Lit} (h : keyOf Tryz.prog 9 key = some kl) : ∃ s, key = .string s ∧ kl = kS s := by
  cases key <;> simp [keyOf, Tryz.underlying9, mapKey] at h
  exact ⟨_, rfl, h.2.symm⟩
theorem same_self (k : ByteArray) : (kS k).sameKey (kS k) = true := WideAt.sameKey_self trivial
theorem same_other {j k : ByteArray} (h : j ≠ k) : (kS j).sameKey (kS k) = false := Go.Maps.sameKey_ne (fun e => h (kS_inj e))
/-- one more has come -/
theorem perm_strike (left : Lit → Bool) (x : Wt) (hl : left (kS x.key) = true) : ∀ (ws : List Wt), SrtW ws → x ∈ ws → (ws.filter (fun y => !(left (kS y.key) && !(kS y.key).sameKey (kS x.key)))).Perm (x :: ws.filter (fun y => !left (kS y.key)))
  | [], _, h => by cases h
  | y :: r, hs, h => by
    obtain ⟨h1, h2⟩ := List.pairwise_cons.1 hs
    rcases List.mem_cons.1 h with rfl | hx
    · have e : r.filter (fun y => !(left (kS y.key) && !(kS y.key).sameKey (kS x.key))) = r.filter (fun y => !left (kS y.key)) := List.filter_congr (fun z hz => by rw [same_other (fun e => less_ne (h1 z hz) e.symm)]; simp)
      rw [List.filter_cons_of_pos (by simp [same_self]), e, List.filter_cons_of_neg (by simp [hl])]
    · have hne : y.key ≠ x.key := less_ne (h1 x hx)
      have ih := perm_strike left x hl r h2 hx
      cases hy : left (kS y.key)
      · simp only [List.filter_cons, hy, Bool.false_and, Bool.not_false, if_true]
        exact (ih.cons y).trans (List.Perm.swap x y _)
      · simp only [List.filter_cons, hy, same_other hne, Bool.true_and, Bool.not_false, Bool.not_true, Bool.false_eq_true, if_false]
        exact ih
theorem sortedW_one {l' m : List Wt} (hs : ∀ i j, i < j → j < l'.length → Op.bytesLess (l'.getD j Wt0).key.toList (l'.getD i Wt0).key.toList = false) (hm : SrtW m) (hp : l'.Perm m) : l' = m := by
  have tot : ∀ a ∈ m, ∀ b ∈ m, a = b ∨ Op.bytesLess a.key.toList b.key.toList = true ∨ Op.bytesLess b.key.toList a.key.toList = true := by
    clear hp hs
    induction m with
    | nil => intro a ha; cases ha
    | cons x r ih =>
      obtain ⟨h1, h2⟩ := List.pairwise_cons.1 hm
      intro a ha b hb
      rcases List.mem_cons.1 ha with rfl | ha1 <;> rcases List.mem_cons.1 hb with rfl | hb1
      · exact .inl rfl
      · exact .inr (.inl (h1 _ hb1))
      · exact .inr (.inr (h1 _ ha1))
      · exact ih h2 a ha1 b hb1
  refine hp.eq_of_pairwise (le := fun a b => Op.bytesLess b.key.toList a.key.toList = false) (fun a b ha hb h1 h2 => ?_) ?_ ?_
  · rcases tot a (hp.mem_iff.1 ha) b hb with h | h | h
    · exact h
    · rw [h] at h2; cases h2
    · rw [h] at h1; cases h1
  · rw [List.pairwise_iff_getElem]
    intro i j hi hj hij
    have := hs i j hij hj
    rwa [List.getD_eq_getElem?_getD, List.getD_eq_getElem?_getD, List.getElem?_eq_getElem hi, List.getElem?_eq_getElem hj] at this
  · exact hm.imp (fun h => less_asymm _ _ h)
/-- append of one write to an own row -/
theorem wpList_wr {w : World} {ops : Array Oper} {rest : List Oper} {o : Oper} {a : Act} {Q : Exit → Act → World → Prop} (hgd : o.guard = none) (s x : Operand)
    (ho : o.op = .call { callee := .builtin .append, args := #[s, x], argTypes := #[41, 41] }) (base : Nat) (v : Value) (n : Nat) (xs : List Wt) (hs : a.eval s = v) (hown : w.ownsRow base 64 3 v n (xs.flatMap wtc))
    (b : Nat) (y : Wt) (hx : a.eval x = .slice (some ⟨b, 0, none⟩) 1 1) (hB : w.heap[b]? = some (.cells #[.string y.key, .string y.val, .bool y.gone] 64 (0, 0))) (hb : (n + 1) * 40 ≤ 140737488355328) (hbase : base ≤ w.heap.size)
    (h : ∀ v' w', Hid (w'.ownsRow base 64 3 v' (n + 1) ((xs ++ [y]).flatMap wtc) ∧ w.grownBy w' v.ownBlock ∧ Below base w w') → wpList Tryz.prog ops Q rest (a.put o.dst v') w') : wpList Tryz.prog ops Q (o :: rest) a w := by
  obtain ⟨i0, hi, hz0, hz1, hz2⟩ := info_parts info46
  refine wpList_append_own w hgd s x 41 ho base 64 i0 _ 3 40 Tryz.underlying41 hi hz0 hz1 hz2 rfl (by decide) v n _ hs hown _ 1 1 (wtc y) hx rfl (wtc_news y hB) (wtc_one y) (by unfold maxLen; omega) hb hbase ?_
  intro v' w' ho' hg _
  exact h v' w' (hide ⟨by rw [List.flatMap_append]; simpa using ho', hg, (Below.refl _ _).grown hg hbase (fun k hk => (hown.lt k hk).1)⟩)
/-- while the writes are gone through -/
structure Din (w wr : World) (wb r m : Nat) (D : DataW Value) (ws : List Wt) (left : Lit → Bool) (cnt : Nat) (v : Value) (acc : List Wt) : Prop where
  rg : wr.ranges Tryz.prog 9 heldR wb r m D left cnt
  row : wr.ownsRow (r + 1) 64 3 v acc.length (acc.flatMap wtc)
  perm : acc.Perm (ws.filter (fun x => !left (kS x.key)))
  sub : ∀ kl, left kl = true → has D kl = true
  bel : Below r w wr
  big : r + 1 ≤ wr.heap.size
  wbl : wb < r
set_option maxHeartbeats 2000000 in
theorem done_any (w : World) (l : Pl) (tr : Tr) (h : IsX w l.p l.wb l.rv tr) (hn : tr.ws.length ≤ 256) :
    Calls Tryz.prog 41 #[.pointer (some ⟨l.p, 0, none⟩)] w fun e w' => ∃ v, e = .returned v ∧ w'.ownsRow w.heap.size 64 3 v tr.ws.length (tr.ws.flatMap wtc) ∧ Below w.heap.size w w' := by
  have c2 : w.cell? ⟨l.p, 2, none⟩ = some (.map (some l.wb)) := cell_blk h.blk rfl
  obtain ⟨D, hown, hD⟩ := h.map
  have HD := hide hD
  have HWB := hide hown.lt
  have HN := hide hn
  clear h hD hn
  generalize tr.ws = ws at *
  generalize l.wb = wb at *
  generalize hm : ws.length = m at *
  have HM := hide hm
  clear hm
  go_enter Tryz.func41, Tryz.ntmps41
  go_wp2_with (at_range; refine wpList_range_own _ rfl _ 122 rfl 9 64 kstr Tryz.underlying122 heldR wb m D rfl hown ?_; intro w0 hrg0 hg0 hs0)
  generalize hr : w.heap.size = r at *
  have HR := hide hr
  have H0 : Hid (Din w w0 wb r m D ws (has D) (size D) (.slice none 0 0) []) := hide ⟨hrg0, World.ownsRow_nil _ _ _ _, by
      rw [List.filter_eq_nil_iff.2 (fun x hx => by simp [(HD.out.all x hx).1])], fun _ h => h, ⟨hg0.os, hg0.tape, hg0.output, hg0.size, fun k hk => hg0.block k (by omega) (by simp)⟩, by omega, HWB.out⟩
  clear hrg0 hg0 hs0 hown c2 hr
  go_wp2_with fail
  go_frame
  go_loopw [3, 5] (fun v _ wr => ∃ left cnt acc, Hid (Din w wr wb r m D ws left cnt v acc)) (fun _ _ wr => wr.rangeLeft wb r)
  case atStart => exact ⟨_, _, _, H0⟩
  case round =>
    obtain ⟨left, cnt, acc, HS⟩ := hrel
    clear H0
    have hrg := HS.out.rg
    have hle := HS.out.rg.left_eq
    go_wp2_with (at_next; refine wpList_next_ranges _ rfl _ rfl 9 kstr heldR Value.string (fun v : Value => v) (fun key kl hkey => by obtain ⟨x, rfl, _⟩ := key_str_inv hkey; exact ⟨x, rfl⟩) (fun v y _ => ⟨v, rfl⟩) wb r m D left cnt rfl hrg ?_ ?_)
    · intro hc0 hl0
      have HAC : Hid (acc.Perm ws) := hide (by
        have := HS.out.perm
        rwa [List.filter_eq_self.2 (fun x _ => by simp [hl0])] at this)
      have HROW := hide HS.out.row
      have HBE := hide HS.out.bel
      have HAL : Hid (acc.length = m) := hide (by rw [HAC.out.length_eq]; exact HM.out)
      have HRP := hide HS.out.rg.lt
      clear hrg hl0 hle HS
      rw [HAL.out] at HROW
      rcases HROW.out.2 with ⟨rfl, hz⟩ | ⟨g, cp, cur, rfl, hg, _⟩
      · have hm0 : m = 0 := by first | exact hz | omega
        have HW0 : Hid (ws = []) := hide (List.eq_nil_of_length_eq_zero (by rw [HM.out]; exact hm0))
        clear hz
        subst hm0
        go_wp2_with fail
        refine (sortW_none none 0 _ wr).mono ?_
        rintro e w2 ⟨rfl, rfl⟩
        go_wp2
        go_ret
        exact ⟨_, rfl, by rw [HW0.out]; exact World.ownsRow_nil _ _ _ _, by rw [HR.out]; exact HBE.out⟩
      · have HSO := hide (sortD_any (r + 1) g cp m acc wr HAL.out (by have := HN.out; omega) HROW.out)
        have HG := hide hg
        clear hg
        go_wp2_with fail
        refine HSO.out.mono ?_
        rintro e w2 ⟨rfl, l', q1, q2, q3, q4⟩
        have HL' : Hid (l' = ws) := hide (sortedW_one (by rw [(q1.trans HAC.out).length_eq, HM.out]; exact q2) HD.out.srt (q1.trans HAC.out))
        have H9 : Hid (w2.ownsRow r 64 3 (.slice (some ⟨g, 0, none⟩) m cp) m (ws.flatMap wtc) ∧ Below r w w2) := hide ⟨by rw [← HL'.out]; exact row_mono q3 (by omega), HBE.out.trans ((Below.refl _ wr).grown q4 (by have := HRP.out; omega) (fun k e => by cases e; have := HG.out; omega))⟩
        clear q1 q2 q3 q4 HSO
        go_wp2
        go_ret
        exact ⟨_, rfl, by rw [HR.out]; exact H9.out.1, by rw [HR.out]; exact H9.out.2⟩
    · intro x c kl y1 y2 w1 cnt1 hkey hlk hv hat hrg1 hlt hg1 hs1 hen
      obtain ⟨z, hz, rfl⟩ := HD.out.just kl (HS.out.sub kl hlk)
      have hcv : c = wv z := by
        have e1 := (HD.out.all z hz).2 (.held c)
        rw [hat] at e1
        unfold heldR at hv
        cases hv
        cases e1
        rfl
      subst hcv
      obtain ⟨a4, c4, rfl⟩ := own_form HS.out.row
      have HW1 : Hid (Din w w1 wb r m D ws (fun q => left q && !q.sameKey (kS z.key)) cnt1 (.slice a4 acc.length c4) (acc ++ [z]) → True) := hide (fun _ => trivial)
      have HB1 : Hid (Below r w w1 ∧ r + 1 ≤ w1.heap.size) := hide ⟨HS.out.bel.trans ((Below.refl _ wr).grown hg1 (by have := HS.out.big; omega) (fun k e => by cases e; exact Nat.le_refl _)), by rw [hs1]; exact HS.out.big⟩
      have HR1 : Hid (w1.ownsRow (r + 1) 64 3 (.slice a4 acc.length c4) acc.length (acc.flatMap wtc)) := hide (row_kept HS.out.row (fun j hj => hg1.block j ((HS.out.row.lt j hj).2) (fun e => by have := (HS.out.row.lt j hj).1; cases e; omega)))
      have HPM : Hid ((acc ++ [z]).Perm (ws.filter (fun y => !(left (kS y.key) && !(kS y.key).sameKey (kS z.key))))) := hide (((List.perm_append_comm).trans (HS.out.perm.cons z)).trans (perm_strike left z hlk ws HD.out.srt hz).symm)
      have HLN : Hid ((acc.length + 1) * 40 ≤ 140737488355328) := hide (by
        have h1 := HPM.out.length_eq
        have h2 := List.length_filter_le (fun y => !(left (kS y.key) && !(kS y.key).sameKey (kS z.key))) ws
        have := HM.out
        have := HN.out
        simp only [List.length_append, List.length_cons, List.length_nil] at h1
        omega)
      have HSU : Hid (∀ q, (left q && !q.sameKey (kS z.key)) = true → has D q = true) := hide (fun q hq => HS.out.sub q (by simp at hq; exact hq.1))
      have HRG := hide hrg1
      have HWBL := hide HS.out.wbl
      obtain ⟨z1, z2, z3⟩ := z
      have HRr : Hid (((w1.alloc (.cells #[.string z1, .string z2, .bool z3] 64)).alloc (.cells #[.string z1, .string z2, .bool z3] 64)).ownsRow (r + 1) 64 3 (.slice a4 acc.length c4) acc.length (acc.flatMap wtc)) := hide ((HR1.out.alloc _).alloc _)
      have HNr := hide (heap_alloc_new (w1.alloc (.cells #[.string z1, .string z2, .bool z3] 64)) (.cells #[.string z1, .string z2, .bool z3] 64))
      rw [World.size_alloc] at HNr
      have HBr : Hid (r + 1 ≤ ((w1.alloc (.cells #[.string z1, .string z2, .bool z3] 64)).alloc (.cells #[.string z1, .string z2, .bool z3] 64)).heap.size) := hide (by have := HB1.out.2; rw [World.size_alloc, World.size_alloc]; omega)
      have HGr : Hid (w1.grownBy ((w1.alloc (.cells #[.string z1, .string z2, .bool z3] 64)).alloc (.cells #[.string z1, .string z2, .bool z3] 64)) none) := hide ((World.grownBy_alloc w1 _ none).andThen (World.grownBy_alloc _ _ none) (fun j e => by cases e))
      clear hrg hrg1 hat hlk hkey hv hg1 hs1 HS HW1 hz
      go_wp2_with (at_builtin; refine wpList_wr rfl _ _ rfl (r + 1) (.slice a4 acc.length c4) acc.length acc rfl HRr.out (w1.heap.size + 1) ⟨z1, z2, z3⟩ rfl HNr.out HLN.out HBr.out ?_)
      intro v9 w9 HN9
      obtain ⟨a9, c9, rfl⟩ := own_form HN9.out.1
      have HD9 : Hid (Din w w9 wb r m D ws (fun q => left q && !q.sameKey (kS z1)) cnt1 (.slice a9 (acc.length + 1) c9) (acc ++ [⟨z1, z2, z3⟩])) := hide (by
        have hro : ∀ j, (Value.slice a4 acc.length c4).ownBlock = some j → r + 1 ≤ j := fun j hj => (HR1.out.lt j hj).1
        refine ⟨?_, ?_, HPM.out, HSU.out, ?_, ?_, HWBL.out⟩
        · exact (HRG.out.kept HGr.out (by simp) (by simp)).kept HN9.out.2.1 (fun e => by have := hro wb e.symm; have := HWBL.out; omega) (fun e => by have := hro r e.symm; omega)
        · have e : (acc ++ [(⟨z1, z2, z3⟩ : Wt)]).length = acc.length + 1 := by simp
          rw [e]
          have := HN9.out.1
          simpa using this
        · exact (HB1.out.1.trans ((Below.refl r w1).grown HGr.out (by have := HB1.out.2; omega) (fun k e => by cases e))).trans ((Below.refl r _).grown HN9.out.2.1 (by have := HBr.out; omega) (fun k e => by have := hro k e; omega))
        · exact Nat.le_trans HBr.out HN9.out.2.1.size)
      have hle2 := HD9.out.rg.left_eq
      clear HN9 HR1 HRr HNr HGr hen
      go_wp2
      go_roundw
      case rel => exact ⟨_, _, _, HD9⟩
      case measure => rw [hle, hle2]; exact hlt
end Go.Proofs.YtlkmcbelmldleaaGreat
/- a manager without one of its transactions; with other versions -/
namespace Go.Proofs.YtlkmcbelmldleaaGreat
open Go.RowKit
open Go.Maps (Keyed has size)
set_option maxRecDepth 40000
/-- a manager without one of its transactions -/
def Mg.less (ms : Mg) (i : Nat) : Mg := { ms with opn := ms.opn.eraseIdx i }
theorem get_erase {α : Type} {l : List α} {i j : Nat} {x : α} (h : (l.eraseIdx i)[j]? = some x) : l[if j < i then j else j + 1]? = some x := by
  rw [List.getElem?_eraseIdx] at h
  split at h
  · next hj => rw [if_pos hj]; exact h
  · next hj => rw [if_neg hj]; exact h
theorem erase_ne (i j : Nat) : (if j < i then j else j + 1) ≠ i := by split <;> omega
theorem kN_ne {a b : Nat} (h : a ≠ b) : kN a ≠ kN b := fun e => h (by unfold kN at e; injection e with _ e; omega)
theorem srt_ne {os : List (Nat × Tr)} (h : os.Pairwise (fun x y => x.1 < y.1)) {i j : Nat} {x y : Nat × Tr} (hi : os[i]? = some x) (hj : os[j]? = some y) (hne : i ≠ j) : x.1 ≠ y.1 := by
  obtain ⟨a1, rfl⟩ := List.getElem?_eq_some_iff.1 hi
  obtain ⟨b1, rfl⟩ := List.getElem?_eq_some_iff.1 hj
  rcases Nat.lt_or_gt_of_ne hne with h1 | h1
  · have := List.pairwise_iff_getElem.1 h i j a1 b1 h1; omega
  · have := List.pairwise_iff_getElem.1 h j i b1 a1 h1; omega
theorem sm_less {g ob : Nat} {ps : List Pl} {i b : Nat} (h : SM g ob (ps.eraseIdx i) b) : SM g ob ps b := by
  rcases h with h | h | ⟨l, hl, h⟩
  · exact .inl h
  · exact .inr (.inl h)
  · exact .inr (.inr ⟨l, List.mem_of_mem_eraseIdx hl, h⟩)
theorem less_isM {w w' : World} {g ob : Nat} {ps : List Pl} {ms : Mg} {D : DataW Value} (h : IsM w g ob ps ms) {i n : Nat} {tr : Tr} {l : Pl} (h1 : ms.opn[i]? = some (n, tr)) (h2 : ps[i]? = some l)
    (hs : w.heap.size ≤ w'.heap.size) (hk : ∀ j, j < w.heap.size → j ≠ ob → w'.heap[j]? = w.heap[j]?) (hD : OpD D ms.opn ps) (hT : Go.Maps.Tidy D) {m : Nat} (ho : w'.ownsMap Tryz.prog 3 heldR ob m (D.del (kN n))) :
    IsM w' g ob (ps.eraseIdx i) (ms.less i) ∧ OpD (D.del (kN n)) (ms.less i).opn (ps.eraseIdx i) := by
  obtain ⟨a, q, c, v1, v2, v3, v4⟩ := h.ver
  have hgl := h.ltS (.inl rfl)
  have hne := h.ne
  have hi : i < ms.opn.length := (List.getElem?_eq_some_iff.1 h1).1
  have hip : i < ps.length := (List.getElem?_eq_some_iff.1 h2).1
  have hsz : size (D.del (kN n)) = (ms.opn.eraseIdx i).length := by
    have := Go.Maps.size_del (k := kN n) hT
    rw [(hD.all i n tr l h1 h2).1, hD.len] at this
    rw [List.length_eraseIdx_of_lt hi]
    simp at this
    omega
  have hop : OpD (D.del (kN n)) (ms.less i).opn (ps.eraseIdx i) := by
    refine ⟨hD.srt.sublist (List.eraseIdx_sublist _ _), ?_, hsz, fun j n2 t2 l2 q1 q2 => ?_, fun kl hkl => ?_⟩
    · show (ps.eraseIdx i).length = (ms.opn.eraseIdx i).length
      rw [List.length_eraseIdx_of_lt hi, List.length_eraseIdx_of_lt hip, hD.one]
    · have r1 := get_erase (show (ms.opn.eraseIdx i)[j]? = some (n2, t2) from q1)
      have r2 := get_erase q2
      have hn := kN_ne (srt_ne hD.srt r1 h1 (erase_ne i j))
      obtain ⟨s1, s2⟩ := hD.all _ n2 t2 l2 r1 r2
      exact ⟨by rw [Go.Maps.has_del_other hn]; exact s1, fun z => by rw [Go.Maps.atKey_del_other hn]; exact s2 z⟩
    · have hn : kl ≠ kN n := by
        rintro rfl
        rw [Go.Maps.has_del_same] at hkl; cases hkl
      rw [Go.Maps.has_del_other hn] at hkl
      obtain ⟨x, hx, e⟩ := hD.just kl hkl
      obtain ⟨j, hj⟩ := List.mem_iff_getElem?.1 hx
      refine ⟨x, List.mem_eraseIdx_iff_getElem?.2 ⟨j, ?_, hj⟩, e⟩
      rintro rfl
      rw [h1] at hj
      cases hj
      exact hn e
  refine ⟨⟨⟨a, q, c, (hk g hgl hne).trans v1, v2.keptB hs (fun b off h0 e hlt => hk b hlt (fun e' => v4 b off h0 e (.inr (.inl e')))), v3, fun b off h0 e hh => v4 b off h0 e (sm_less hh)⟩, ⟨_, ?_, hop⟩, ?_, ?_, ?_, h.last, ?_, ?_⟩, hop⟩
  · have := owns_exact ho
    rw [hsz] at this
    exact this
  · intro j n2 t2 l2 q1 q2
    have r1 := get_erase (show (ms.opn.eraseIdx i)[j]? = some (n2, t2) from q1)
    have r2 := get_erase q2
    have hl := List.mem_of_getElem? r2
    have hx := h.each _ n2 t2 l2 r1 r2
    exact hx.kept (fun k hkk => hk k (hx.lt hkk) (fun e => (h.far l2 hl).2 (e ▸ hkk)))
  · exact h.apart.sublist (List.eraseIdx_sublist _ _)
  · intro l2 hl
    exact h.far l2 (List.mem_of_mem_eraseIdx hl)
  · intro x hx
    exact h.nums x (List.mem_of_mem_eraseIdx hx)
  · have : (ms.less i).opn.length ≤ ms.opn.length := (List.eraseIdx_sublist _ _).length_le
    exact Nat.le_trans this h.few
/-- a manager with other versions, and another time -/
theorem vers_isM {w w' : World} {g ob : Nat} {ps : List Pl} {ms : Mg} (h : IsM w g ob ps ms) {a : Option Addr} {n c low now : Nat} {vs : List Vr}
    (hg : w'.heap[g]? = some (.cells #[.slice a n c, .int .u64 (low : Nat), .int .u64 (now : Nat), .int .i64 (ms.last : Nat), .map (some ob)] 97 (0, 0))) (hV : IsV w' a n c vs) (hf : ∀ b off, 0 < n → a = some ⟨b, off, none⟩ → ¬ SM g ob ps b)
    (hk : ∀ j, j < w.heap.size → j ≠ g → w'.heap[j]? = w.heap[j]?) : IsM w' g ob ps { ms with low := low, vs := vs, now := now } := by
  obtain ⟨D, hD, hO⟩ := h.map
  refine ⟨⟨a, n, c, hg, hV, ?_, hf⟩, ⟨D, map_kept hD (hk ob (h.ltS (.inr (.inl rfl))) (fun e => h.ne e.symm)), hO⟩, fun j n2 t2 l2 q1 q2 => ?_, h.apart, h.far, h.last, h.nums, h.few⟩
  · rintro rfl
    rcases Nat.eq_zero_or_pos n with h0 | h0
    · exact h0
    · obtain ⟨_, _, e, _⟩ := hV.2.2.2 0 h0
      cases e
  · have hx := h.each j n2 t2 l2 q1 q2
    exact hx.kept (fun k hkk => hk k (hx.lt hkk) (fun e => (h.far l2 (List.mem_of_getElem? q2)).1 (e ▸ hkk)))
/-- the time up to which nobody asks -/
def lowOf (now : Nat) (os : List (Nat × Tr)) : Nat := os.foldl (fun a x => min a x.2.began) now
theorem lowOf_perm {now : Nat} {os os' : List (Nat × Tr)} (h : os.Perm os') : lowOf now os = lowOf now os' := h.foldl_eq' (fun x _ y _ z => by omega) now
theorem lowOf_snoc (now : Nat) (os : List (Nat × Tr)) (x : Nat × Tr) : lowOf now (os ++ [x]) = min (lowOf now os) x.2.began := by simp [lowOf]
/-- a manager one of whose transactions is over -/
def Mg.ended (ms : Mg) (i : Nat) : Mg := if (sweepR ms.low ms.vs (lowOf ms.now (ms.opn.eraseIdx i))).2.2 = 0 then { ms.less i with low := (sweepR ms.low ms.vs (lowOf ms.now (ms.opn.eraseIdx i))).2.1, vs := (sweepR ms.low ms.vs (lowOf ms.now (ms.opn.eraseIdx i))).1 } else ms.less i
/-- one more has come -/
theorem perm_strikeN (left : Lit → Bool) (x : Nat × Tr) (hl : left (kN x.1) = true) : ∀ (os : List (Nat × Tr)), os.Pairwise (fun a b => a.1 < b.1) → x ∈ os → (os.filter (fun y => !(left (kN y.1) && !(kN y.1).sameKey (kN x.1)))).Perm (x :: os.filter (fun y => !left (kN y.1)))
  | [], _, h => by cases h
  | y :: r, hs, h => by
    obtain ⟨h1, h2⟩ := List.pairwise_cons.1 hs
    rcases List.mem_cons.1 h with rfl | hx
    · have e : r.filter (fun y => !(left (kN y.1) && !(kN y.1).sameKey (kN x.1))) = r.filter (fun y => !left (kN y.1)) := List.filter_congr (fun z hz => by rw [Go.Maps.sameKey_ne (kN_ne (by have := h1 z hz; omega))]; simp)
      have e2 : (kN x.1).sameKey (kN x.1) = true := WideAt.sameKey_self trivial
      rw [List.filter_cons_of_pos (by simp [e2]), e, List.filter_cons_of_neg (by simp [hl])]
    · have hne := Go.Maps.sameKey_ne (kN_ne (show y.1 ≠ x.1 by have := h1 x hx; omega))
      have ih := perm_strikeN left x hl r h2 hx
      cases hy : left (kN y.1)
      · simp only [List.filter_cons, hy, Bool.false_and, Bool.not_false, if_true]
        exact (ih.cons y).trans (List.Perm.swap x y _)
      · simp only [List.filter_cons, hy, hne, Bool.true_and, Bool.not_false, Bool.not_true, Bool.false_eq_true, if_false]
        exact ih
end Go.Proofs.YtlkmcbelmldleaaGreat
/- end -/
namespace Go.Proofs.YtlkmcbelmldleaaGreat
open Go.RowKit
open Go.Maps (Keyed has size)
set_option maxRecDepth 40000
/-- while the open ones are gone through -/
structure Ein (w wr : World) (ob r m : Nat) (D : DataW Value) (os : List (Nat × Tr)) (left : Lit → Bool) (cnt : Nat) (acc : List (Nat × Tr)) : Prop where
  rg : wr.ranges Tryz.prog 3 heldR ob r m D left cnt
  perm : acc.Perm (os.filter (fun x => !left (kN x.1)))
  sub : ∀ kl, left kl = true → has D kl = true
  bel : Below r w wr
set_option maxHeartbeats 4000000 in
theorem end_any (w : World) (g ob : Nat) (ps : List Pl) (ms : Mg) (h : IsM w g ob ps ms) (i n : Nat) (tr : Tr) (l : Pl) (h1 : ms.opn[i]? = some (n, tr)) (h2 : ps[i]? = some l) :
    Calls Tryz.prog 59 #[.pointer (some ⟨g, 0, none⟩), .int .i64 (n : Int)] w fun e w' => e = .returned (.tuple #[]) ∧ IsM w' g ob (ps.eraseIdx i) (ms.ended i) ∧ Frm (fun j => j = g ∨ j = ob) w w' ∧ ∀ b, VB w' g b → VB w g b ∨ w.heap.size ≤ b := by
  obtain ⟨a, q, c, hb, hV, _, hfar⟩ := h.ver
  have c4 : w.cell? ⟨g, 4, none⟩ = some (.map (some ob)) := cell_blk hb rfl
  obtain ⟨D, hown, hD⟩ := h.map
  have hle := h.nums (n, tr) (List.mem_of_getElem? h1)
  have hlt := h.last
  have hkey : keyOf Tryz.prog 3 (.int .i64 (n : Int)) = some (kN n) := key_int (t := (n : Int)) (by dsimp only at hle; omega)
  have HH := hide (And.intro h (And.intro h1 h2))
  have HD := hide hD
  have HT := hide (hown.tidy kint)
  have HB := hide hb
  have HFAR := hide hfar
  have hgo := h.ne
  have HSO := hide (And.intro (h.ltS (.inl rfl)) (h.ltS (.inr (.inl rfl))))
  clear h h1 h2 hb hV hD hle hlt hfar
  go_enter Tryz.func59, Tryz.ntmps59
  go_wp2_with (at_delete; refine wpList_delete_own _ rfl _ _ 95 3 rfl 98 kint Tryz.underlying95 heldR ob _ D rfl hown _ _ rfl hkey ?_)
  intro w1 hown1 hturn1
  have HG1 := hide hturn1.grown
  have HLM := hide (less_isM HH.out.1 HH.out.2.1 HH.out.2.2 HG1.out.size (fun j hj hn => HG1.out.block j hj (by simpa using hn)) HD.out HT.out hown1)
  have HB1 : Hid (w1.heap[g]? = some (.cells #[.slice a q c, .int .u64 (ms.low : Nat), .int .u64 (ms.now : Nat), .int .i64 (ms.last : Nat), .map (some ob)] 97 (0, 0))) := hide ((HG1.out.block g HSO.out.1 (by simpa using hgo)).trans HB.out)
  have HF1 : Hid (Frm (fun j => j = g ∨ j = ob) w w1) := hide (Frm.grown HG1.out (fun k e => by cases e; exact .inr rfl))
  have d2 : w1.cell? ⟨g, 2, none⟩ = some (.int .u64 (ms.now : Nat)) := cell_blk HB1.out rfl
  have d4 : w1.cell? ⟨g, 4, none⟩ = some (.map (some ob)) := cell_blk HB1.out rfl
  obtain ⟨D1, hown1, hD1⟩ := HLM.out.1.map
  have HD1 := hide hD1
  generalize hos : (ms.less i).opn = os at *
  have HOS := hide hos
  generalize hm : os.length = m at *
  have HOB : Hid (ob < w1.heap.size) := hide (Nat.lt_of_lt_of_le HSO.out.2 HG1.out.size)
  have HGB : Hid (g < w1.heap.size) := hide (Nat.lt_of_lt_of_le HSO.out.1 HG1.out.size)
  clear hturn1 hown hD1 hos hm c4 HG1 HT HD hkey
  go_wp2_with (at_range; refine wpList_range_own _ rfl _ 95 rfl 3 98 kint Tryz.underlying95 heldR ob m D1 rfl hown1 ?_)
  intro w0 hrg0 hg0 hs0
  generalize hr : w1.heap.size = r at *
  have HR := hide hr
  have H0 : Hid (Ein w1 w0 ob r m D1 os (has D1) (size D1) []) := hide ⟨hrg0, by
      rw [List.filter_eq_nil_iff.2 (fun x hx => by
        obtain ⟨j, hj⟩ := List.mem_iff_getElem?.1 hx
        have hjl : j < (ps.eraseIdx i).length := by rw [HD1.out.one]; exact (List.getElem?_eq_some_iff.1 hj).1
        simp [(HD1.out.all j x.1 x.2 _ hj (List.getElem?_eq_getElem hjl)).1])], fun _ h => h, ⟨hg0.os, hg0.tape, hg0.output, hg0.size, fun k hk => hg0.block k (by omega) (by simp)⟩⟩
  clear hrg0 hg0 hs0 hown1 d2 d4 hr
  go_wp2_with fail
  try go_frame
  go_loopw [4, 6] (fun lv _ wr => ∃ left cnt acc, lv = .int .u64 (lowOf ms.now acc : Nat) ∧ Hid (Ein w1 wr ob r m D1 os left cnt acc)) (fun _ _ wr => wr.rangeLeft ob r)
  case atStart => exact ⟨_, _, [], rfl, H0⟩
  case round =>
    obtain ⟨left, cnt, acc, rfl, HS⟩ := hrel
    clear H0
    have hrg := HS.out.rg
    have hle := HS.out.rg.left_eq
    go_wp2_with (at_next; refine wpList_next_ranges _ rfl _ rfl 3 kint heldR (Value.int .i64) (fun v : Value => v) (fun key kl hkey => by obtain ⟨x, rfl, _⟩ := Maps.keyOf_int_inv Tryz.underlying3 hkey; exact ⟨x, rfl⟩) (fun v y _ => ⟨v, rfl⟩) ob r m D1 left cnt rfl hrg ?_ ?_)
    · intro hc0 hl0
      have HAC : Hid (acc.Perm os) := hide (by
        have := HS.out.perm
        rwa [List.filter_eq_self.2 (fun x _ => by simp [hl0])] at this)
      have HBE : Hid (Below w1.heap.size w1 wr) := hide (by rw [HR.out]; exact HS.out.bel)
      have HLO : Hid (lowOf ms.now acc = lowOf ms.now (ms.opn.eraseIdx i)) := hide (by rw [lowOf_perm HAC.out, ← HOS.out]; rfl)
      clear hrg hl0 hle HS
      rw [HLO.out]
      have HMr := hide (HLM.out.1.below HBE.out)
      obtain ⟨a1, q1, c1, hb2, hV2, _, hf2⟩ := HMr.out.ver
      have hb2 : wr.heap[g]? = some (.cells #[.slice a1 q1 c1, .int .u64 (ms.low : Nat), .int .u64 (ms.now : Nat), .int .i64 (ms.last : Nat), .map (some ob)] 97 (0, 0)) := hb2
      have e0 : wr.cell? ⟨g, 0, none⟩ = some (.slice a1 q1 c1) := cell_blk hb2 rfl
      have e1 : wr.cell? ⟨g, 1, none⟩ = some (.int .u64 (ms.low : Nat)) := cell_blk hb2 rfl
      have HSW := hide (sweep_any a1 q1 c1 ms.low (lowOf ms.now (ms.opn.eraseIdx i)) ms.vs wr hV2)
      have HEN : Hid (ms.ended i = if (sweepR ms.low ms.vs (lowOf ms.now (ms.opn.eraseIdx i))).2.2 = 0 then { ms.less i with low := (sweepR ms.low ms.vs (lowOf ms.now (ms.opn.eraseIdx i))).2.1, vs := (sweepR ms.low ms.vs (lowOf ms.now (ms.opn.eraseIdx i))).1 } else ms.less i) := hide rfl
      have HFr : Hid (Frm (fun j => j = g ∨ j = ob) w wr) := hide (HF1.out.trans (Frm.below HBE.out))
      have HB2 := hide hb2
      have HOLD : Hid (w.heap[g]? = some (.cells #[.slice a1 q1 c1, .int .u64 (ms.low : Nat), .int .u64 (ms.now : Nat), .int .i64 (ms.last : Nat), .map (some ob)] 97 (0, 0))) := hide (by
        have h1 := (HBE.out.block _ (heap_lt HB1.out)).trans HB1.out
        rw [hb2] at h1
        have h2 := HB.out
        simp only [Option.some.injEq, Obj.cells.injEq, Array.mk.injEq, List.cons.injEq, Value.slice.injEq] at h1
        obtain ⟨⟨⟨rfl, rfl, rfl⟩, _⟩, _⟩ := h1
        exact h2)
      generalize sweepR ms.low ms.vs (lowOf ms.now (ms.opn.eraseIdx i)) = R at *
      generalize lowOf ms.now (ms.opn.eraseIdx i) = T at *
      obtain ⟨R1, R2, R3⟩ := R
      dsimp only at HSW HEN
      clear hb2 hV2 hf2 HLO HBE HF1 HLM HAC
      go_wp2_with fail
      refine HSW.out.mono ?_
      rintro e w5 ⟨a5, c5, rfl, hI5, hb5, hn5⟩
      have HI5 := hide (And.intro hI5 (And.intro hb5 hn5))
      have HB5 : Hid (w5.heap[g]? = some (.cells #[.slice a1 q1 c1, .int .u64 (ms.low : Nat), .int .u64 (ms.now : Nat), .int .i64 (ms.last : Nat), .map (some ob)] 97 (0, 0))) := hide ((hb5.block _ (heap_lt HB2.out)).trans HB2.out)
      clear e0 e1 hI5 hb5 hn5 HSW
      generalize hlR : R1.length = nR at *
      have HLR := hide hlR
      clear hlR
      by_cases hz : R3 = 0
      · subst hz
        rw [if_pos rfl] at HEN
        have HB6 : Hid ((w5.alloc (.cells #[.slice a5 nR c5, .int .u64 (R2 : Nat)] 31)).heap[g]? = some (.cells #[.slice a1 q1 c1, .int .u64 (ms.low : Nat), .int .u64 (ms.now : Nat), .int .i64 (ms.last : Nat), .map (some ob)] 97 (0, 0))) := hide ((Below.heap_alloc _ _ _ (heap_lt HB5.out)).trans HB5.out)
        have k0 : (w5.alloc (.cells #[.slice a5 nR c5, .int .u64 (R2 : Nat)] 31)).cell? ⟨g, 0, none⟩ = some (.slice a1 q1 c1) := cell_blk HB6.out rfl
        have k1 : (w5.alloc (.cells #[.slice a5 nR c5, .int .u64 (R2 : Nat)] 31)).cell? ⟨g, 1, none⟩ = some (.int .u64 (ms.low : Nat)) := cell_blk HB6.out rfl
        have f0 : (w5.alloc (.cells #[.slice a5 nR c5, .int .u64 (R2 : Nat)] 31)).frozen? ⟨g, 0, none⟩ = false := frz HB6.out 0
        have f1 : (w5.alloc (.cells #[.slice a5 nR c5, .int .u64 (R2 : Nat)] 31)).frozen? ⟨g, 1, none⟩ = false := frz HB6.out 1
        have HFIN : Hid ((IsM (((w5.alloc (.cells #[.slice a5 nR c5, .int .u64 (R2 : Nat)] 31)).setCell ⟨g, 0, none⟩ (.slice a5 nR c5)).setCell ⟨g, 1, none⟩ (.int .u64 (R2 : Nat))) g ob (ps.eraseIdx i) (ms.ended i) ∧ Frm (fun j => j = g ∨ j = ob) w (((w5.alloc (.cells #[.slice a5 nR c5, .int .u64 (R2 : Nat)] 31)).setCell ⟨g, 0, none⟩ (.slice a5 nR c5)).setCell ⟨g, 1, none⟩ (.int .u64 (R2 : Nat)))) ∧ ∀ b, VB (((w5.alloc (.cells #[.slice a5 nR c5, .int .u64 (R2 : Nat)] 31)).setCell ⟨g, 0, none⟩ (.slice a5 nR c5)).setCell ⟨g, 1, none⟩ (.int .u64 (R2 : Nat))) g b → VB w g b ∨ w.heap.size ≤ b) := hide (by
          have hbA : Below wr.heap.size wr (w5.alloc (.cells #[.slice a5 nR c5, .int .u64 (R2 : Nat)] 31)) := HI5.out.2.1.alloc HI5.out.2.1.size _
          have hM6 := HMr.out.below hbA
          have hIV : IsV (w5.alloc (.cells #[.slice a5 nR c5, .int .u64 (R2 : Nat)] 31)) a5 nR c5 R1 := HI5.out.1.below ((Below.refl _ w5).alloc (Nat.le_refl _) _)
          have hgb : (((w5.alloc (.cells #[.slice a5 nR c5, .int .u64 (R2 : Nat)] 31)).setCell ⟨g, 0, none⟩ (.slice a5 nR c5)).setCell ⟨g, 1, none⟩ (.int .u64 (R2 : Nat))).heap[g]? = some (.cells #[.slice a5 nR c5, .int .u64 (R2 : Nat), .int .u64 (ms.now : Nat), .int .i64 (ms.last : Nat), .map (some ob)] 97 (0, 0)) := by
            have h1 := blk_set2 (j := 0) HB6.out (.slice a5 nR c5)
            have h2 := blk_set2 (j := 1) h1 (.int .u64 (R2 : Nat))
            simpa using h2
          have hoth : ∀ j, j ≠ g → (((w5.alloc (.cells #[.slice a5 nR c5, .int .u64 (R2 : Nat)] 31)).setCell ⟨g, 0, none⟩ (.slice a5 nR c5)).setCell ⟨g, 1, none⟩ (.int .u64 (R2 : Nat))).heap[j]? = (w5.alloc (.cells #[.slice a5 nR c5, .int .u64 (R2 : Nat)] 31)).heap[j]? := fun j hj => (Below.heap_setCell _ _ _ _ hj).trans (Below.heap_setCell _ _ _ _ hj)
          have hsz : (((w5.alloc (.cells #[.slice a5 nR c5, .int .u64 (R2 : Nat)] 31)).setCell ⟨g, 0, none⟩ (.slice a5 nR c5)).setCell ⟨g, 1, none⟩ (.int .u64 (R2 : Nat))).heap.size = (w5.alloc (.cells #[.slice a5 nR c5, .int .u64 (R2 : Nat)] 31)).heap.size := by simp [World.setCell]
          have hnew : ∀ b off, a5 = some ⟨b, off, none⟩ → ¬ SM g ob (ps.eraseIdx i) b := fun b off e hS => by
            have h1 := HI5.out.2.2 b off e
            have h2 := HMr.out.ltS hS
            omega
          refine ⟨⟨?_, ?_⟩, fun b h => .inr ?_⟩
          · rw [HEN.out]
            exact vers_isM (now := ms.now) hM6 hgb (hIV.keptB (Nat.le_of_eq hsz.symm) (fun b off _ e _ => hoth b (fun e2 => hnew b off e (.inl e2)))) (fun b off _ e => hnew b off e) (fun j _ hj => hoth j hj)
          · exact HFr.out.trans ⟨hbA.os, hbA.tape, hbA.output, Nat.le_trans hbA.size (Nat.le_of_eq hsz.symm), fun j hj hn => (hoth j (fun e => hn (.inl e))).trans (hbA.block j hj)⟩
          · obtain ⟨_, off, e⟩ := h.at hgb
            exact Nat.le_trans HFr.out.size (HI5.out.2.2 b off e))
        clear HB6 HI5 HMr HFr HB5
        go_wp2
        go_end0
        exact ⟨rfl, HFIN.out.1.1, HFIN.out.1.2, HFIN.out.2⟩
      · rw [if_neg hz] at HEN
        have hz2 : (R3 == 0) = false := by simpa using hz
        have hz3 : decide (R3 = 0) = false := decide_eq_false hz
        have HFIN : Hid ((IsM (w5.alloc (.cells #[.slice a5 nR c5, .int .u64 (R2 : Nat)] 31)) g ob (ps.eraseIdx i) (ms.ended i) ∧ Frm (fun j => j = g ∨ j = ob) w (w5.alloc (.cells #[.slice a5 nR c5, .int .u64 (R2 : Nat)] 31))) ∧ ∀ b, VB (w5.alloc (.cells #[.slice a5 nR c5, .int .u64 (R2 : Nat)] 31)) g b → VB w g b ∨ w.heap.size ≤ b) := hide (by
          have hbA : Below wr.heap.size wr (w5.alloc (.cells #[.slice a5 nR c5, .int .u64 (R2 : Nat)] 31)) := HI5.out.2.1.alloc HI5.out.2.1.size _
          rw [HEN.out]
          exact ⟨⟨HMr.out.below hbA, HFr.out.trans (Frm.below hbA)⟩, fun b h => .inl ((h.same (hbA.block _ (heap_lt HB2.out))).of HB2.out HOLD.out)⟩)
        clear HI5 HMr HFr HB5
        go_wp2
        go_end0
        exact ⟨rfl, HFIN.out.1.1, HFIN.out.1.2, HFIN.out.2⟩
    · intro x c kl y1 y2 w2 cnt1 hkey hlk hv hat hrg1 hlt hg1 hs1 hen
      obtain ⟨z, hz, rfl⟩ := HD1.out.just kl (HS.out.sub kl hlk)
      obtain ⟨j, hj⟩ := List.mem_iff_getElem?.1 hz
      have hjl : j < (ps.eraseIdx i).length := by rw [HD1.out.one]; exact (List.getElem?_eq_some_iff.1 hj).1
      obtain ⟨l2, hl2⟩ : ∃ l2, (ps.eraseIdx i)[j]? = some l2 := ⟨_, List.getElem?_eq_getElem hjl⟩
      have hcv : c = .pointer (some ⟨l2.p, 0, none⟩) := by
        have e1 := (HD1.out.all j z.1 z.2 l2 hj hl2).2 (.held c)
        rw [hat] at e1
        unfold heldR at hv
        cases hv
        cases e1
        rfl
      subst hcv
      have hX := HLM.out.1.each j z.1 z.2 l2 (by rw [HOS.out]; exact hj) hl2
      have hB2 : Below r w1 w2 := HS.out.bel.trans ((Below.refl _ wr).grown hg1 (by have := HS.out.bel.size; have := HR.out; omega) (fun k e => by cases e; exact Nat.le_refl _))
      have z0 : w2.cell? ⟨l2.p, 0, none⟩ = some (.int .u64 (z.2.began : Nat)) := cell_blk ((hB2.block l2.p (by rw [← HR.out]; exact heap_lt hX.blk)).trans hX.blk) rfl
      have HN : Hid (Ein w1 w2 ob r m D1 os (fun q => left q && !q.sameKey (kN z.1)) cnt1 (acc ++ [z])) := hide ⟨hrg1, ((List.perm_append_comm).trans (HS.out.perm.cons z)).trans (perm_strikeN left z hlk os HD1.out.srt hz).symm, fun q hq => HS.out.sub q (by simp at hq; exact hq.1), hB2⟩
      have HLS := hide (lowOf_snoc ms.now acc z)
      have hle2 := HN.out.rg.left_eq
      clear hrg hrg1 hat hlk hkey hv hg1 hs1 HS hz hj hl2 hX hB2 hjl
      generalize lowOf ms.now acc = T at *
      go_wp2
      go_roundw
      case rel => exact ⟨_, _, _, by rw [HLS.out]; congr 1; omega, HN⟩
      case measure => rw [hle, hle2]; exact hlt
set_option maxHeartbeats 4000000 in
theorem end_d (w : World) (g ob : Nat) (ps : List Pl) (ms : Mg) (h : IsM w g ob ps ms) (i n : Nat) (tr : Tr) (l : Pl) (h1 : ms.opn[i]? = some (n, tr)) (h2 : ps[i]? = some l) :
    CallsD Tryz.prog 59 #[.pointer (some ⟨g, 0, none⟩), .int .i64 (n : Int)] .returning w fun e u' w' => u' = .returning ∧ (e = .returned (.tuple #[]) ∧ IsM w' g ob (ps.eraseIdx i) (ms.ended i) ∧ Frm (fun j => j = g ∨ j = ob) w w' ∧ ∀ b, VB w' g b → VB w g b ∨ w.heap.size ≤ b) := by
  obtain ⟨a, q, c, hb, hV, _, hfar⟩ := h.ver
  have c4 : w.cell? ⟨g, 4, none⟩ = some (.map (some ob)) := cell_blk hb rfl
  obtain ⟨D, hown, hD⟩ := h.map
  have hle := h.nums (n, tr) (List.mem_of_getElem? h1)
  have hlt := h.last
  have hkey : keyOf Tryz.prog 3 (.int .i64 (n : Int)) = some (kN n) := key_int (t := (n : Int)) (by dsimp only at hle; omega)
  have HH := hide (And.intro h (And.intro h1 h2))
  have HD := hide hD
  have HT := hide (hown.tidy kint)
  have HB := hide hb
  have HFAR := hide hfar
  have hgo := h.ne
  have HSO := hide (And.intro (h.ltS (.inl rfl)) (h.ltS (.inr (.inl rfl))))
  clear h h1 h2 hb hV hD hle hlt hfar
  go_enter_d Tryz.func59, Tryz.ntmps59
  go_wp2_with (at_delete; refine wpList_delete_own _ rfl _ _ 95 3 rfl 98 kint Tryz.underlying95 heldR ob _ D rfl hown _ _ rfl hkey ?_)
  intro w1 hown1 hturn1
  have HG1 := hide hturn1.grown
  have HLM := hide (less_isM HH.out.1 HH.out.2.1 HH.out.2.2 HG1.out.size (fun j hj hn => HG1.out.block j hj (by simpa using hn)) HD.out HT.out hown1)
  have HB1 : Hid (w1.heap[g]? = some (.cells #[.slice a q c, .int .u64 (ms.low : Nat), .int .u64 (ms.now : Nat), .int .i64 (ms.last : Nat), .map (some ob)] 97 (0, 0))) := hide ((HG1.out.block g HSO.out.1 (by simpa using hgo)).trans HB.out)
  have HF1 : Hid (Frm (fun j => j = g ∨ j = ob) w w1) := hide (Frm.grown HG1.out (fun k e => by cases e; exact .inr rfl))
  have d2 : w1.cell? ⟨g, 2, none⟩ = some (.int .u64 (ms.now : Nat)) := cell_blk HB1.out rfl
  have d4 : w1.cell? ⟨g, 4, none⟩ = some (.map (some ob)) := cell_blk HB1.out rfl
  obtain ⟨D1, hown1, hD1⟩ := HLM.out.1.map
  have HD1 := hide hD1
  generalize hos : (ms.less i).opn = os at *
  have HOS := hide hos
  generalize hm : os.length = m at *
  have HOB : Hid (ob < w1.heap.size) := hide (Nat.lt_of_lt_of_le HSO.out.2 HG1.out.size)
  have HGB : Hid (g < w1.heap.size) := hide (Nat.lt_of_lt_of_le HSO.out.1 HG1.out.size)
  clear hturn1 hown hD1 hos hm c4 HG1 HT HD hkey
  go_wp2_with (at_range; refine wpList_range_own _ rfl _ 95 rfl 3 98 kint Tryz.underlying95 heldR ob m D1 rfl hown1 ?_)
  intro w0 hrg0 hg0 hs0
  generalize hr : w1.heap.size = r at *
  have HR := hide hr
  have H0 : Hid (Ein w1 w0 ob r m D1 os (has D1) (size D1) []) := hide ⟨hrg0, by
      rw [List.filter_eq_nil_iff.2 (fun x hx => by
        obtain ⟨j, hj⟩ := List.mem_iff_getElem?.1 hx
        have hjl : j < (ps.eraseIdx i).length := by rw [HD1.out.one]; exact (List.getElem?_eq_some_iff.1 hj).1
        simp [(HD1.out.all j x.1 x.2 _ hj (List.getElem?_eq_getElem hjl)).1])], fun _ h => h, ⟨hg0.os, hg0.tape, hg0.output, hg0.size, fun k hk => hg0.block k (by omega) (by simp)⟩⟩
  clear hrg0 hg0 hs0 hown1 d2 d4 hr
  go_wp2_with fail
  try go_frame
  go_loopw [4, 6] (fun lv _ wr => ∃ left cnt acc, lv = .int .u64 (lowOf ms.now acc : Nat) ∧ Hid (Ein w1 wr ob r m D1 os left cnt acc)) (fun _ _ wr => wr.rangeLeft ob r)
  case atStart => exact ⟨_, _, [], rfl, H0⟩
  case round =>
    obtain ⟨left, cnt, acc, rfl, HS⟩ := hrel
    clear H0
    have hrg := HS.out.rg
    have hle := HS.out.rg.left_eq
    go_wp2_with (at_next; refine wpList_next_ranges _ rfl _ rfl 3 kint heldR (Value.int .i64) (fun v : Value => v) (fun key kl hkey => by obtain ⟨x, rfl, _⟩ := Maps.keyOf_int_inv Tryz.underlying3 hkey; exact ⟨x, rfl⟩) (fun v y _ => ⟨v, rfl⟩) ob r m D1 left cnt rfl hrg ?_ ?_)
    · intro hc0 hl0
      have HAC : Hid (acc.Perm os) := hide (by
        have := HS.out.perm
        rwa [List.filter_eq_self.2 (fun x _ => by simp [hl0])] at this)
      have HBE : Hid (Below w1.heap.size w1 wr) := hide (by rw [HR.out]; exact HS.out.bel)
      have HLO : Hid (lowOf ms.now acc = lowOf ms.now (ms.opn.eraseIdx i)) := hide (by rw [lowOf_perm HAC.out, ← HOS.out]; rfl)
      clear hrg hl0 hle HS
      rw [HLO.out]
      have HMr := hide (HLM.out.1.below HBE.out)
      obtain ⟨a1, q1, c1, hb2, hV2, _, hf2⟩ := HMr.out.ver
      have hb2 : wr.heap[g]? = some (.cells #[.slice a1 q1 c1, .int .u64 (ms.low : Nat), .int .u64 (ms.now : Nat), .int .i64 (ms.last : Nat), .map (some ob)] 97 (0, 0)) := hb2
      have e0 : wr.cell? ⟨g, 0, none⟩ = some (.slice a1 q1 c1) := cell_blk hb2 rfl
      have e1 : wr.cell? ⟨g, 1, none⟩ = some (.int .u64 (ms.low : Nat)) := cell_blk hb2 rfl
      have HSW := hide (sweep_any a1 q1 c1 ms.low (lowOf ms.now (ms.opn.eraseIdx i)) ms.vs wr hV2)
      have HEN : Hid (ms.ended i = if (sweepR ms.low ms.vs (lowOf ms.now (ms.opn.eraseIdx i))).2.2 = 0 then { ms.less i with low := (sweepR ms.low ms.vs (lowOf ms.now (ms.opn.eraseIdx i))).2.1, vs := (sweepR ms.low ms.vs (lowOf ms.now (ms.opn.eraseIdx i))).1 } else ms.less i) := hide rfl
      have HFr : Hid (Frm (fun j => j = g ∨ j = ob) w wr) := hide (HF1.out.trans (Frm.below HBE.out))
      have HB2 := hide hb2
      have HOLD : Hid (w.heap[g]? = some (.cells #[.slice a1 q1 c1, .int .u64 (ms.low : Nat), .int .u64 (ms.now : Nat), .int .i64 (ms.last : Nat), .map (some ob)] 97 (0, 0))) := hide (by
        have h1 := (HBE.out.block _ (heap_lt HB1.out)).trans HB1.out
        rw [hb2] at h1
        have h2 := HB.out
        simp only [Option.some.injEq, Obj.cells.injEq, Array.mk.injEq, List.cons.injEq, Value.slice.injEq] at h1
        obtain ⟨⟨⟨rfl, rfl, rfl⟩, _⟩, _⟩ := h1
        exact h2)
      generalize sweepR ms.low ms.vs (lowOf ms.now (ms.opn.eraseIdx i)) = R at *
      generalize lowOf ms.now (ms.opn.eraseIdx i) = T at *
      obtain ⟨R1, R2, R3⟩ := R
      dsimp only at HSW HEN
      clear hb2 hV2 hf2 HLO HBE HF1 HLM HAC
      go_wp2_with fail
      refine HSW.out.mono ?_
      rintro e w5 ⟨a5, c5, rfl, hI5, hb5, hn5⟩
      have HI5 := hide (And.intro hI5 (And.intro hb5 hn5))
      have HB5 : Hid (w5.heap[g]? = some (.cells #[.slice a1 q1 c1, .int .u64 (ms.low : Nat), .int .u64 (ms.now : Nat), .int .i64 (ms.last : Nat), .map (some ob)] 97 (0, 0))) := hide ((hb5.block _ (heap_lt HB2.out)).trans HB2.out)
      clear e0 e1 hI5 hb5 hn5 HSW
      generalize hlR : R1.length = nR at *
      have HLR := hide hlR
      clear hlR
      by_cases hz : R3 = 0
      · subst hz
        rw [if_pos rfl] at HEN
        have HB6 : Hid ((w5.alloc (.cells #[.slice a5 nR c5, .int .u64 (R2 : Nat)] 31)).heap[g]? = some (.cells #[.slice a1 q1 c1, .int .u64 (ms.low : Nat), .int .u64 (ms.now : Nat), .int .i64 (ms.last : Nat), .map (some ob)] 97 (0, 0))) := hide ((Below.heap_alloc _ _ _ (heap_lt HB5.out)).trans HB5.out)
        have k0 : (w5.alloc (.cells #[.slice a5 nR c5, .int .u64 (R2 : Nat)] 31)).cell? ⟨g, 0, none⟩ = some (.slice a1 q1 c1) := cell_blk HB6.out rfl
        have k1 : (w5.alloc (.cells #[.slice a5 nR c5, .int .u64 (R2 : Nat)] 31)).cell? ⟨g, 1, none⟩ = some (.int .u64 (ms.low : Nat)) := cell_blk HB6.out rfl
        have f0 : (w5.alloc (.cells #[.slice a5 nR c5, .int .u64 (R2 : Nat)] 31)).frozen? ⟨g, 0, none⟩ = false := frz HB6.out 0
        have f1 : (w5.alloc (.cells #[.slice a5 nR c5, .int .u64 (R2 : Nat)] 31)).frozen? ⟨g, 1, none⟩ = false := frz HB6.out 1
        have HFIN : Hid ((IsM (((w5.alloc (.cells #[.slice a5 nR c5, .int .u64 (R2 : Nat)] 31)).setCell ⟨g, 0, none⟩ (.slice a5 nR c5)).setCell ⟨g, 1, none⟩ (.int .u64 (R2 : Nat))) g ob (ps.eraseIdx i) (ms.ended i) ∧ Frm (fun j => j = g ∨ j = ob) w (((w5.alloc (.cells #[.slice a5 nR c5, .int .u64 (R2 : Nat)] 31)).setCell ⟨g, 0, none⟩ (.slice a5 nR c5)).setCell ⟨g, 1, none⟩ (.int .u64 (R2 : Nat)))) ∧ ∀ b, VB (((w5.alloc (.cells #[.slice a5 nR c5, .int .u64 (R2 : Nat)] 31)).setCell ⟨g, 0, none⟩ (.slice a5 nR c5)).setCell ⟨g, 1, none⟩ (.int .u64 (R2 : Nat))) g b → VB w g b ∨ w.heap.size ≤ b) := hide (by
          have hbA : Below wr.heap.size wr (w5.alloc (.cells #[.slice a5 nR c5, .int .u64 (R2 : Nat)] 31)) := HI5.out.2.1.alloc HI5.out.2.1.size _
          have hM6 := HMr.out.below hbA
          have hIV : IsV (w5.alloc (.cells #[.slice a5 nR c5, .int .u64 (R2 : Nat)] 31)) a5 nR c5 R1 := HI5.out.1.below ((Below.refl _ w5).alloc (Nat.le_refl _) _)
          have hgb : (((w5.alloc (.cells #[.slice a5 nR c5, .int .u64 (R2 : Nat)] 31)).setCell ⟨g, 0, none⟩ (.slice a5 nR c5)).setCell ⟨g, 1, none⟩ (.int .u64 (R2 : Nat))).heap[g]? = some (.cells #[.slice a5 nR c5, .int .u64 (R2 : Nat), .int .u64 (ms.now : Nat), .int .i64 (ms.last : Nat), .map (some ob)] 97 (0, 0)) := by
            have h1 := blk_set2 (j := 0) HB6.out (.slice a5 nR c5)
            have h2 := blk_set2 (j := 1) h1 (.int .u64 (R2 : Nat))
            simpa using h2
          have hoth : ∀ j, j ≠ g → (((w5.alloc (.cells #[.slice a5 nR c5, .int .u64 (R2 : Nat)] 31)).setCell ⟨g, 0, none⟩ (.slice a5 nR c5)).setCell ⟨g, 1, none⟩ (.int .u64 (R2 : Nat))).heap[j]? = (w5.alloc (.cells #[.slice a5 nR c5, .int .u64 (R2 : Nat)] 31)).heap[j]? := fun j hj => (Below.heap_setCell _ _ _ _ hj).trans (Below.heap_setCell _ _ _ _ hj)
          have hsz : (((w5.alloc (.cells #[.slice a5 nR c5, .int .u64 (R2 : Nat)] 31)).setCell ⟨g, 0, none⟩ (.slice a5 nR c5)).setCell ⟨g, 1, none⟩ (.int .u64 (R2 : Nat))).heap.size = (w5.alloc (.cells #[.slice a5 nR c5, .int .u64 (R2 : Nat)] 31)).heap.size := by simp [World.setCell]
          have hnew : ∀ b off, a5 = some ⟨b, off, none⟩ → ¬ SM g ob (ps.eraseIdx i) b := fun b off e hS => by
            have h1 := HI5.out.2.2 b off e
            have h2 := HMr.out.ltS hS
            omega
          refine ⟨⟨?_, ?_⟩, fun b h => .inr ?_⟩
          · rw [HEN.out]
            exact vers_isM (now := ms.now) hM6 hgb (hIV.keptB (Nat.le_of_eq hsz.symm) (fun b off _ e _ => hoth b (fun e2 => hnew b off e (.inl e2)))) (fun b off _ e => hnew b off e) (fun j _ hj => hoth j hj)
          · exact HFr.out.trans ⟨hbA.os, hbA.tape, hbA.output, Nat.le_trans hbA.size (Nat.le_of_eq hsz.symm), fun j hj hn => (hoth j (fun e => hn (.inl e))).trans (hbA.block j hj)⟩
          · obtain ⟨_, off, e⟩ := h.at hgb
            exact Nat.le_trans HFr.out.size (HI5.out.2.2 b off e))
        clear HB6 HI5 HMr HFr HB5
        go_wp2
        go_end0
        exact ⟨rfl, HFIN.out.1.1, HFIN.out.1.2, HFIN.out.2⟩
      · rw [if_neg hz] at HEN
        have hz2 : (R3 == 0) = false := by simpa using hz
        have hz3 : decide (R3 = 0) = false := decide_eq_false hz
        have HFIN : Hid ((IsM (w5.alloc (.cells #[.slice a5 nR c5, .int .u64 (R2 : Nat)] 31)) g ob (ps.eraseIdx i) (ms.ended i) ∧ Frm (fun j => j = g ∨ j = ob) w (w5.alloc (.cells #[.slice a5 nR c5, .int .u64 (R2 : Nat)] 31))) ∧ ∀ b, VB (w5.alloc (.cells #[.slice a5 nR c5, .int .u64 (R2 : Nat)] 31)) g b → VB w g b ∨ w.heap.size ≤ b) := hide (by
          have hbA : Below wr.heap.size wr (w5.alloc (.cells #[.slice a5 nR c5, .int .u64 (R2 : Nat)] 31)) := HI5.out.2.1.alloc HI5.out.2.1.size _
          rw [HEN.out]
          exact ⟨⟨HMr.out.below hbA, HFr.out.trans (Frm.below hbA)⟩, fun b h => .inl ((h.same (hbA.block _ (heap_lt HB2.out))).of HB2.out HOLD.out)⟩)
        clear HI5 HMr HFr HB5
        go_wp2
        go_end0
        exact ⟨rfl, HFIN.out.1.1, HFIN.out.1.2, HFIN.out.2⟩
    · intro x c kl y1 y2 w2 cnt1 hkey hlk hv hat hrg1 hlt hg1 hs1 hen
      obtain ⟨z, hz, rfl⟩ := HD1.out.just kl (HS.out.sub kl hlk)
      obtain ⟨j, hj⟩ := List.mem_iff_getElem?.1 hz
      have hjl : j < (ps.eraseIdx i).length := by rw [HD1.out.one]; exact (List.getElem?_eq_some_iff.1 hj).1
      obtain ⟨l2, hl2⟩ : ∃ l2, (ps.eraseIdx i)[j]? = some l2 := ⟨_, List.getElem?_eq_getElem hjl⟩
      have hcv : c = .pointer (some ⟨l2.p, 0, none⟩) := by
        have e1 := (HD1.out.all j z.1 z.2 l2 hj hl2).2 (.held c)
        rw [hat] at e1
        unfold heldR at hv
        cases hv
        cases e1
        rfl
      subst hcv
      have hX := HLM.out.1.each j z.1 z.2 l2 (by rw [HOS.out]; exact hj) hl2
      have hB2 : Below r w1 w2 := HS.out.bel.trans ((Below.refl _ wr).grown hg1 (by have := HS.out.bel.size; have := HR.out; omega) (fun k e => by cases e; exact Nat.le_refl _))
      have z0 : w2.cell? ⟨l2.p, 0, none⟩ = some (.int .u64 (z.2.began : Nat)) := cell_blk ((hB2.block l2.p (by rw [← HR.out]; exact heap_lt hX.blk)).trans hX.blk) rfl
      have HN : Hid (Ein w1 w2 ob r m D1 os (fun q => left q && !q.sameKey (kN z.1)) cnt1 (acc ++ [z])) := hide ⟨hrg1, ((List.perm_append_comm).trans (HS.out.perm.cons z)).trans (perm_strikeN left z hlk os HD1.out.srt hz).symm, fun q hq => HS.out.sub q (by simp at hq; exact hq.1), hB2⟩
      have HLS := hide (lowOf_snoc ms.now acc z)
      have hle2 := HN.out.rg.left_eq
      clear hrg hrg1 hat hlk hkey hv hg1 hs1 HS hz hj hl2 hX hB2 hjl
      generalize lowOf ms.now acc = T at *
      go_wp2
      go_roundw
      case rel => exact ⟨_, _, _, by rw [HLS.out]; congr 1; omega, HN⟩
      case measure => rw [hle, hle2]; exact hlt
end Go.Proofs.YtlkmcbelmldleaaGreat
/- Commit -/
namespace Go.Proofs.YtlkmcbelmldleaaGreat
open Go.RowKit
open Go.Maps (Keyed has size)
set_option maxRecDepth 40000
/-- why a commit fails -/
def comE (ms : Mg) (tr : Tr) : Int := if conflB ms.vs tr = true then 10 else if tr.ws = [] then 0 else (putR ms.low ms.vs tr.ws (ms.now + 1)).2.2
/-- the manager when its writes count, the transaction still open -/
def comM (ms : Mg) (tr : Tr) : Mg := if conflB ms.vs tr = true ∨ tr.ws = [] ∨ ¬ (putR ms.low ms.vs tr.ws (ms.now + 1)).2.2 = 0 then ms else { ms with low := (putR ms.low ms.vs tr.ws (ms.now + 1)).2.1, vs := (putR ms.low ms.vs tr.ws (ms.now + 1)).1, now := ms.now + 1 }
/-- the time that is told -/
def comT (ms : Mg) (tr : Tr) : Nat := if comE ms tr = 0 then (comM ms tr).now else 0
/-- the writes that are told -/
def comW (ms : Mg) (tr : Tr) : List Wt := if comE ms tr = 0 then tr.ws else []
theorem results3 {fn : Func} {p q r : Tmp} (h : fn.results = #[.tmp p, .tmp q, .tmp r]) (tmps : Array Value) (P : Program) (w : World) : (results fn tmps).run P w = .ok (.tuple #[tmps.getD p undef, tmps.getD q undef, tmps.getD r undef]) w := by
  simp [results, h, go_sem]
theorem calmW {P : Program} {x : Code} {K : Act → World → Prop} {Q : Exit → Act → World → Prop} {a : Act} {w : World} (h : x.wp P (Exit.then K (fun _ _ _ => False)) a w) : x.wp P (Exit.then K Q) a w :=
  wp_mono h (fun e a w h => by cases e <;> first | exact h | exact h.elim)
set_option maxHeartbeats 2000000 in
theorem commit_no (w : World) (g ob : Nat) (ps : List Pl) (ms : Mg) (h : IsM w g ob ps ms) (t : Int) (ht : -9223372036854775808 ≤ t ∧ t ≤ 9223372036854775807) (hn : ∀ x ∈ ms.opn, ¬ (x.1 : Int) = t) :
    Calls Tryz.prog 33 #[.pointer (some ⟨g, 0, none⟩), .int .i64 t] w fun e w' => e = .returned (.tuple #[.slice none 0 0, .int .u64 0, .int .i64 11]) ∧ w' = w := by
  have HF := hide (find_no _ g ob ps ms h t ht hn)
  clear h ht hn
  go_enter_defers Tryz.func33, Tryz.ntmps33
  go_wp2_with fail
  refine HF.out.mono ?_
  rintro e w' ⟨rfl, rfl⟩
  go_wp2
  exact ⟨_, results3 rfl _ _ _, rfl, rfl⟩
set_option maxHeartbeats 2000000 in
theorem commit_conf (w : World) (g ob : Nat) (ps : List Pl) (ms : Mg) (h : IsM w g ob ps ms) (i n : Nat) (tr : Tr) (l : Pl) (h1 : ms.opn[i]? = some (n, tr)) (h2 : ps[i]? = some l) (hc : conflB ms.vs tr = true) :
    Calls Tryz.prog 33 #[.pointer (some ⟨g, 0, none⟩), .int .i64 (n : Int)] w fun e w' => e = .returned (.tuple #[.slice none 0 0, .int .u64 0, .int .i64 10]) ∧ IsM w' g ob (ps.eraseIdx i) (ms.ended i) ∧ Frm (fun j => j = g ∨ j = ob) w w' ∧ ∀ b, VB w' g b → VB w g b ∨ w.heap.size ≤ b := by
  have HF := hide (find_yes _ g ob ps ms h i n tr l h1 h2)
  obtain ⟨a, q, c, hb, hV, _, hfar⟩ := h.ver
  have e0 : w.cell? ⟨g, 0, none⟩ = some (.slice a q c) := cell_blk hb rfl
  have e1 : w.cell? ⟨g, 1, none⟩ = some (.int .u64 (ms.low : Nat)) := cell_blk hb rfl
  have HC := hide (confl_any w l tr (h.each i n tr l h1 h2) a q c ms.low ms.vs hV)
  rw [hc] at HC
  have HH := hide (And.intro h (And.intro h1 h2))
  have HB := hide hb
  have HV := hide hV
  have HFAR := hide hfar
  clear h h1 h2 hb hV hfar
  go_enter_defers Tryz.func33, Tryz.ntmps33
  go_wp2_with fail
  refine HF.out.mono ?_
  rintro e w' ⟨rfl, rfl⟩
  go_wp2_with fail
  refine HC.out.mono ?_
  rintro e w1 ⟨rfl, hb1⟩
  have HM1 := hide (HH.out.1.below hb1)
  have HF1 : Hid (Frm (fun j => j = g ∨ j = ob) w' w1) := hide (Frm.below hb1)
  have HB1 := hide hb1
  clear HF HC hb1 e0 e1
  go_wp2
  refine leaves_cons (f := 59) (args := #[.pointer (some ⟨g, 0, none⟩), .int .i64 (n : Int)]) (by simp) (by simp [go_sem]) ?_
  refine (end_d w1 g ob ps ms HM1.out i n tr l HH.out.2.1 HH.out.2.2).mono ?_
  rintro e u' w9 ⟨rfl, rfl, hM9, hF9, hV9⟩
  exact ⟨_, results3 rfl _ _ _, rfl, hM9, HF1.out.trans hF9, fun b h => (hV9 b h).elim (fun h => .inl (h.same (HB1.out.block _ (heap_lt HB.out)))) (fun h => .inr (Nat.le_trans HB1.out.size h))⟩
set_option maxHeartbeats 2000000 in
theorem commit_empty (w : World) (g ob : Nat) (ps : List Pl) (ms : Mg) (h : IsM w g ob ps ms) (i n : Nat) (tr : Tr) (l : Pl) (h1 : ms.opn[i]? = some (n, tr)) (h2 : ps[i]? = some l) (hc : conflB ms.vs tr = false) (hw : tr.ws = []) :
    Calls Tryz.prog 33 #[.pointer (some ⟨g, 0, none⟩), .int .i64 (n : Int)] w fun e w' => e = .returned (.tuple #[.slice none 0 0, .int .u64 (ms.now : Nat), .int .i64 0]) ∧ IsM w' g ob (ps.eraseIdx i) (ms.ended i) ∧ Frm (fun j => j = g ∨ j = ob) w w' ∧ ∀ b, VB w' g b → VB w g b ∨ w.heap.size ≤ b := by
  have hle : tr.ws.length ≤ 256 := by rw [hw]; simp
  have HF := hide (find_yes _ g ob ps ms h i n tr l h1 h2)
  obtain ⟨a, q, c, hb, hV, _, hfar⟩ := h.ver
  have e0 : w.cell? ⟨g, 0, none⟩ = some (.slice a q c) := cell_blk hb rfl
  have e1 : w.cell? ⟨g, 1, none⟩ = some (.int .u64 (ms.low : Nat)) := cell_blk hb rfl
  have HC := hide (confl_any w l tr (h.each i n tr l h1 h2) a q c ms.low ms.vs hV)
  rw [hc] at HC
  have HH := hide (And.intro h (And.intro h1 h2))
  have HB := hide hb
  have HV := hide hV
  have HFAR := hide hfar
  clear h h1 h2 hb hV hfar
  go_enter_defers Tryz.func33, Tryz.ntmps33
  go_wp2_with fail
  refine HF.out.mono ?_
  rintro e w' ⟨rfl, rfl⟩
  go_wp2_with fail
  refine HC.out.mono ?_
  rintro e w1 ⟨rfl, hb1⟩
  have HM1 := hide (HH.out.1.below hb1)
  have HF1 : Hid (Frm (fun j => j = g ∨ j = ob) w' w1) := hide (Frm.below hb1)
  have HB1 := hide hb1
  clear HF HC hb1 e0 e1
  have HDN := hide (done_any w1 l tr (HM1.out.each i n tr l HH.out.2.1 HH.out.2.2) hle)
  go_wp2_with fail
  refine HDN.out.mono ?_
  rintro e w2 ⟨v2, rfl, hrow, hb2⟩
  have HM2 := hide (HM1.out.below hb2)
  have HF2 := hide (HF1.out.trans (Frm.below hb2))
  have HROW := hide hrow
  have HB2 : Hid (w2.drew.heap[g]? = some (.cells #[.slice a q c, .int .u64 (ms.low : Nat), .int .u64 (ms.now : Nat), .int .i64 (ms.last : Nat), .map (some ob)] 97 (0, 0))) := hide ((hb2.block _ (Nat.lt_of_lt_of_le (heap_lt HB.out) HB1.out.size)).trans ((HB1.out.block _ (heap_lt HB.out)).trans HB.out))
  have HV2 := hide ((HV.out.below HB1.out).below hb2)
  have HBW := hide (HB1.out.trans (hb2.mono HB1.out.size))
  have HB1S := hide HB1.out.size
  clear hrow hb2 HDN
  rw [hw] at HROW
  obtain ⟨a2, c2, rfl⟩ := own_form HROW.out
  simp only [List.length_nil]
  go_wp2_with fail
  refine calmW ?_
  refine wp_region_held_drew (S := (fun W' : World => W'.cell? ⟨g, 2, none⟩ = some (.int .u64 (ms.now : Nat)))) (by kernel_rfl) ?hSa (fun hHeld => ?_)
  case hSa => exact (cell_blk HB2.out rfl)
  refine hTake (i := 0) (v := ?v0a) (some 33) rfl rfl (by kernel_rfl) (by kernel_rfl) (by kernel_rfl) (fun _ _ _ h => h) (by rfl) (by assumption) ?hy0a ?hn0a
  case hy0a => (intro w hSw; (try dsimp only at hSw); skip; go_simp; try with_reducible rfl)
  try simp only [Act.put, List.setIfInBounds_toArray, List.set_cons_zero, List.set_cons_succ]
  refine hTake (i := 1) (v := ?v1a) (some 34) rfl rfl (by kernel_rfl) (by kernel_rfl) (by kernel_rfl) (fun _ _ _ h => h) (by rfl) (by assumption) ?hy1a ?hn1a
  case hy1a => (intro w hSw; (try dsimp only at hSw); skip; go_simp; try with_reducible rfl)
  try simp only [Act.put, List.setIfInBounds_toArray, List.set_cons_zero, List.set_cons_succ]
  refine hTake (i := 2) (v := ?v2a) (some 35) rfl rfl (by kernel_rfl) (by kernel_rfl) (by kernel_rfl) (fun _ _ _ h => h) (by rfl) (by assumption) ?hy2a ?hn2a
  case hy2a => (intro w hSw; (try dsimp only at hSw); skip; go_simp; try with_reducible rfl)
  try simp only [Act.put, List.setIfInBounds_toArray, List.set_cons_zero, List.set_cons_succ]
  refine hTake (i := 3) (v := ?v3a) (some 36) rfl rfl (by kernel_rfl) (by kernel_rfl) (by kernel_rfl) (fun _ _ _ h => h) (by rfl) (by assumption) ?hy3a ?hn3a
  case hy3a => (intro w hSw; (try dsimp only at hSw); skip; go_simp; try with_reducible rfl)
  try simp only [Act.put, List.setIfInBounds_toArray, List.set_cons_zero, List.set_cons_succ]
  refine hTake (i := 4) (v := ?v4a) (some 4) rfl rfl (by kernel_rfl) (by kernel_rfl) (by kernel_rfl) (fun _ _ _ h => h) (by rfl) (by assumption) ?hy4a ?hn4a
  case hy4a => (intro w hSw; (try dsimp only at hSw); skip; go_simp; try with_reducible rfl)
  try simp only [Act.put, List.setIfInBounds_toArray, List.set_cons_zero, List.set_cons_succ]
  refine hTake (i := 5) (v := ?v5a) (some 5) rfl rfl (by kernel_rfl) (by kernel_rfl) (by kernel_rfl) (fun _ _ _ h => h) (by rfl) (by assumption) ?hy5a ?hn5a
  case hy5a => (intro w hSw; (try dsimp only at hSw); skip; go_simp; try with_reducible rfl)
  try simp only [Act.put, List.setIfInBounds_toArray, List.set_cons_zero, List.set_cons_succ]
  refine hTake (i := 6) (v := ?v6a) (some 6) rfl rfl (by kernel_rfl) (by kernel_rfl) (by kernel_rfl) (fun _ _ _ h => h) (by rfl) (by assumption) ?hy6a ?hn6a
  case hy6a => (intro w hSw; (try dsimp only at hSw); skip; go_simp; try with_reducible rfl)
  try simp only [Act.put, List.setIfInBounds_toArray, List.set_cons_zero, List.set_cons_succ]
  refine wpAnyH_done (by kernel_rfl) ?_ _
  go_wp2
  refine leaves_cons (f := 59) (args := #[.pointer (some ⟨g, 0, none⟩), .int .i64 (n : Int)]) (by simp) (by simp [go_sem]) ?_
  refine (end_d _ g ob ps ms (HM2.out.below ((Below.refl _ w2).drew)) i n tr l HH.out.2.1 HH.out.2.2).mono ?_
  rintro e u' w9 ⟨rfl, rfl, hM9, hF9, hV9⟩
  exact ⟨_, results3 rfl _ _ _, rfl, hM9, (HF2.out.trans (Frm.below ((Below.refl _ w2).drew))).trans hF9, fun b h => (hV9 b h).elim (fun h => .inl (h.same (HBW.out.block _ (heap_lt HB.out)))) (fun h => .inr (Nat.le_trans HBW.out.size h))⟩
end Go.Proofs.YtlkmcbelmldleaaGreat
