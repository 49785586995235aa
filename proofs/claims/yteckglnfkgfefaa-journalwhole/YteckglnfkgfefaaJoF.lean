/- slices.Collect of slices.Chunk: the pieces of a row in a row -/
import Derived.Test.YteckglnfkgfefaaJoE
import Derived.Test.YteckglnfkgfefaaJoC
namespace Go.Proofs.Yteckglnfkgfefaa
open Go.RowKit Go.Shelf
attribute [local go_sem] Oper.semAt_some
set_option maxRecDepth 40000
theorem put_boxed {A : World} {l b : Nat} {o o' : Obj} {t : TypeId} {v : Value} (ho : A.heap[l]? = some o) (hc : o.isCells = false) (hv : Boxed A b t v) : Boxed (A.putObj l o') b t v := by
  refine (World.putObj_heap_other ?_).trans hv
  rintro rfl
  rw [show A.heap[b]? = _ from hv] at ho
  cases ho
  cases hc
theorem put_below {A w : World} {l n : Nat} {o' : Obj} (hn : n ≤ l) (hb : Below n w A) (hl : l < A.heap.size) : Below n w (A.putObj l o') :=
  hb.trans ((Below.refl n A).grown (grownBy_putObj' A l o') (by omega) (fun k e => by cases e; exact hn))
theorem own_form {w : World} {base e size n : Nat} {v : Value} {xs : List Value} (h : w.ownsRow base e size v n xs) : ∃ a c, v = .slice a n c := by
  rcases h.2 with ⟨rfl, rfl⟩ | ⟨g, cap, cur, rfl, _⟩
  · exact ⟨none, 0, rfl⟩
  · exact ⟨_, _, rfl⟩
theorem row_mono {w : World} {B B' e size n : Nat} {v : Value} {l : List Value} (h : w.ownsRow B e size v n l) (hb : B' ≤ B) : w.ownsRow B' e size v n l :=
  ⟨h.1, h.2.imp id (fun ⟨g, cap, cur, h1, h2, h3⟩ => ⟨g, cap, cur, h1, Nat.le_trans hb h2, h3⟩)⟩
/-- an element more in a row that a box holds -/
theorem appendedB {W w1 : World} {n₁ F : Nat} {t e : TypeId} {size : Nat} {v v' : Value} {k m : Nat} {xs ys : List Value} {tmp : Obj} (hv : Boxed W F t v) (hte : t ≠ e) (hF : F < n₁) (hrow : W.ownsRow n₁ e size v k xs) (hn : n₁ ≤ W.heap.size)
    (hown' : w1.ownsRow n₁ e size v' m ys) (hgrow : (W.alloc tmp).grownBy w1 v.ownBlock) :
    Boxed w1 F t v ∧ Boxed (w1.setCell ⟨F, 0, none⟩ v') F t v' ∧ (w1.setCell ⟨F, 0, none⟩ v').ownsRow n₁ e size v' m ys ∧ KeepsOthers W (w1.setCell ⟨F, 0, none⟩ v') ∧ Below F W (w1.setCell ⟨F, 0, none⟩ v') := by
  obtain ⟨h1, h2, h3, h4, h5⟩ := hv.appended hte (row_mono hrow (Nat.le_of_lt hF)) (by omega) (Nat.le_refl F) (row_mono hown' (Nat.le_of_lt hF)) hgrow
  exact ⟨h1, h2, ownsRow_setCell_below hown' hF _, h4, h5⟩
/-- the pieces, as values -/
def chV (b n k : Nat) : List Value := (List.range k).map fun i => .slice (some ⟨b, 4064 * i, none⟩) (mn n i) (mn n i)
theorem chV_succ (b n k : Nat) : chV b n (k + 1) = chV b n k ++ [.slice (some ⟨b, 4064 * k, none⟩) (mn n k) (mn n k)] := by simp [chV, List.range_succ]
set_option maxHeartbeats 2000000 in
theorem appSeq_any (w : World) (Bs Bn b n cap : Nat) (hH : HoldC Bs Bn b n cap w) (hn : n ≤ 1000000000000) (hc : n ≤ cap) (hcm : cap ≤ maxLen) :
    Calls Try.prog 54 #[.slice none 0 0, .func (.func 55) #[] #[.pointer (some ⟨Bs, 0, none⟩), .pointer (some ⟨Bn, 0, none⟩)]] w fun e w' => ∃ v, e = .returned v ∧ w'.ownsRow (w.heap.size + 1) 34 1 v (chN n) (chV b n (chN n)) ∧ Below w.heap.size w w' := by
  obtain ⟨i0, hi, hz0, hz1, hz2⟩ := info_parts info34
  have hB0 : Below w.heap.size w (w.alloc (.cells #[.slice none 0 0] 24)) := (Below.refl _ w).alloc (Nat.le_refl _) _
  have hF0 : Boxed (w.alloc (.cells #[.slice none 0 0] 24)) w.heap.size 24 (.slice none 0 0) := Boxed.new w 24 _
  have HH := hide (holdC_below hH hB0)
  have HLt : Hid (Bs < w.heap.size ∧ Bn < w.heap.size) := hide ⟨hH.1.lt, hH.2.lt⟩
  have HS : Hid ((w.alloc (.cells #[.slice none 0 0] 24)).heap.size = w.heap.size + 1) := hide (by simp)
  clear hH
  refine (callsIn_wide (n := 6)).1 ?_
  refine callsIn_of_wp_marks Try.func54 rfl trivial ?_ rfl
  simp only [Try.ntmps54, List.size_toArray, List.length_cons, List.length_nil, Nat.reduceAdd, Nat.reduceSub, Array.replicate_succ, Array.replicate_zero, List.push_toArray, List.append_toArray, List.nil_append, List.cons_append]
  gi_wp2_with fail
  generalize hV : w.alloc (.cells #[.slice none 0 0] 24) = V at *
  have HB0 := hide hB0
  have HF0 := hide hF0
  clear hB0 hF0 hV
  generalize hN : w.heap.size = N at *
  have HN := hide hN
  clear hN
  refine wp_gives (gf := 55) (lb := #[.pointer (some ⟨Bs, 0, none⟩), .pointer (some ⟨Bn, 0, none⟩)]) (Enc := EncC b n) (xs := List.range (chN n)) (Hold := HoldC Bs Bn b n cap) rfl (enters_of Try.func55 (by kernel_rfl) rfl)
    (chunk_gives 5 (by omega) Bs Bn b n cap (by omega) hc hcm)
    (fun x vals A h => by rw [show vals = _ from h]; rfl)
    (fun A B hb h => holdC_below h hb)
    (fun A l o o' _ ho hc h => ⟨put_boxed ho hc h.1, put_boxed ho hc h.2⟩)
    (fun k W => (∃ v, Boxed W N 24 v ∧ W.ownsRow (N + 1) 34 1 v k (chV b n k)) ∧ Below N w W ∧ N + 1 ≤ W.heap.size)
    (fun _ _ _ => False)
    (fun k A B hb h => by
      obtain ⟨⟨v, h1, h2⟩, h3, h4⟩ := h
      exact ⟨⟨v, (hb.block _ h1.lt).trans h1, own34_below h2 hb⟩, h3.trans (hb.mono (by omega)), Nat.le_trans h4 hb.size⟩)
    (fun c k A B hb h => h)
    (fun k A l o o' hl ho hc h => by
      obtain ⟨⟨v, h1, h2⟩, h3, h4⟩ := h
      exact ⟨⟨v, put_boxed ho hc h1, ownsRow_putObj h2 o' ho hc⟩, put_below (by have := HS.out; omega) h3 (Array.getElem?_eq_some_iff.1 ho).1, by simpa using h4⟩)
    (fun c k A l o o' hl ho hc h => h)
    ⟨⟨_, HF0.out, World.ownsRow_nil _ _ _ _⟩, HB0.out, by rw [HS.out]; exact Nat.le_refl _⟩
    HH.out
    (fun x a' _ => a' = { tmps := #[.slice none 0 0, .func (.func 55) #[] #[.pointer (some ⟨Bs, 0, none⟩), .pointer (some ⟨Bn, 0, none⟩)], .pointer (some ⟨N, 0, none⟩), undef, .slice none 0 0, .slice (some ⟨b, 4064 * x, none⟩) (mn n x) (mn n x), .func (.func 55) #[] #[.pointer (some ⟨Bs, 0, none⟩), .pointer (some ⟨Bn, 0, none⟩)], .slice (some ⟨b, 4064 * x, none⟩) (mn n x) (mn n x), undef, undef, undef, undef, undef], defers := [] })
    (fun x a' A l o o' hl ho hc h => h)
    ?assign ?body ?all ?left
  case assign =>
    rintro lo k x vals W K hx hen hH hI hK
    have HK := hide (fun a' => hK a' W (KeepsOthers.refl _) hH hI)
    obtain rfl : vals = #[.slice (some ⟨b, 4064 * x, none⟩) (mn n x) (mn n x)] := hen
    clear hK hI hx hH
    gi_wp2
    refine HK.out _ ?_
    simp
  case body =>
    rintro lo k x a' W hx hH ⟨⟨v, bF, hrow⟩, hB, hsz⟩ rfl
    have hk : k < chN n := by have := (List.getElem?_eq_some_iff.1 hx).1; simpa using this
    obtain rfl : x = k := by rw [List.getElem?_range hk] at hx; cases hx; rfl
    have hk2 : x < 1000000000 := by unfold chN at hk; omega
    have HHW := hide hH
    have HROW := hide hrow
    have HBF := hide bF
    have HB := hide hB
    have HSZ := hide hsz
    have HSC := hide (chV_succ b n x)
    obtain ⟨av, cv, rfl⟩ := own_form hrow
    have cF := bF.cell
    clear hx hH bF hrow hB hsz hk
    generalize hL : mn n x = L at *
    clear hL
    gi_wp2_with (gi_at_builtin; refine wpListIn_append_own _ rfl _ _ 24 rfl (N + 1) 34 i0 _ 1 24 Try.underlying24 hi hz0 hz1 hz2 rfl (by decide) _ _ _ rfl (HROW.out.alloc _) ⟨W.heap.size, 0, none⟩ 1 1 [.slice (some ⟨b, 4064 * x, none⟩) L L] rfl rfl (cell_one_new _ _ _) (one_slice _ _ _) (by unfold maxLen; omega) (by omega) (by have := HSZ.out; simp; omega) ?_; intro v' w3 hown' hgrow _; obtain ⟨g', cap', rfl⟩ := ownsRow_succ hown'; obtain ⟨hv1, hv2, hr2, hk3, hb2⟩ := appendedB HBF.out (by decide) (by omega) HROW.out HSZ.out hown' hgrow; have hc1 := hv1.cell; have hf1 := hv1.frozen)
    refine ⟨hk3, ⟨(hb2.block _ HLt.out.1).trans HHW.out.1, (hb2.block _ HLt.out.2).trans HHW.out.2⟩, ⟨⟨_, hv2, ?_⟩, HB.out.trans hb2, Nat.le_trans HSZ.out hk3.size⟩⟩
    rw [HSC.out]
    exact hr2
  case all =>
    rintro D W hD hK ⟨⟨v, bF, hrow⟩, hB, hsz⟩
    rw [List.length_range] at hrow
    obtain ⟨av, cv, rfl⟩ := own_form hrow
    have cF := bF.cell
    have HB := hide hB
    have HROW := hide hrow
    have HND : Hid (N ≤ D) := hide (by have := HS.out; omega)
    clear hB hrow bF
    gi_wp2
    refine ⟨by simp, .inl ⟨_, _, rfl, run_takeDeferred hK, ?_⟩⟩
    refine ⟨.slice av (chN n) cv, by simp [results, Try.f54, go_sem], _, rfl, by rw [HN.out]; exact ownsRow_putObj HROW.out (.deferred none) hK rfl, by rw [HN.out]; exact put_below HND.out HB.out (Array.getElem?_eq_some_iff.1 hK).1⟩
  case left =>
    rintro D c k W hD hK hk h
    exact h.elim
/-- slices.Chunk -/
theorem chunk_any (w : World) (a : Option Addr) (n cap : Nat) : Calls Try.prog 34 #[.slice a n cap, .int .i64 4064] w fun e w' => e = .returned (.func (.func 55) #[] #[.pointer (some ⟨w.heap.size, 0, none⟩), .pointer (some ⟨w.heap.size + 1, 0, none⟩)]) ∧ w' = (w.alloc (.cells #[.slice a n cap] 34)).alloc (.cells #[.int .i64 4064] 3) := by
  go_enter Try.func34, Try.ntmps34
  go_wp2
  go_ret
  exact ⟨rfl, rfl⟩
/-- slices.Collect -/
theorem collect_any (w : World) (Bs Bn b n cap : Nat) (hH : HoldC Bs Bn b n cap w) (hn : n ≤ 1000000000000) (hc : n ≤ cap) (hcm : cap ≤ maxLen) :
    Calls Try.prog 33 #[.func (.func 55) #[] #[.pointer (some ⟨Bs, 0, none⟩), .pointer (some ⟨Bn, 0, none⟩)]] w fun e w' => ∃ v, e = .returned v ∧ w'.ownsRow w.heap.size 34 1 v (chN n) (chV b n (chN n)) ∧ Below w.heap.size w w' := by
  have HA := hide (appSeq_any w Bs Bn b n cap hH hn hc hcm)
  clear hH
  go_enter Try.func33, Try.ntmps33
  go_wp2_with fail
  refine HA.out.mono ?_
  rintro e w2 ⟨v, rfl, ho, hb⟩
  have HO := hide (own34_le ho (Nat.le_succ _))
  have HB := hide hb
  clear ho hb
  go_wp2
  go_ret
  exact ⟨_, rfl, HO.out, HB.out⟩
end Go.Proofs.Yteckglnfkgfefaa
