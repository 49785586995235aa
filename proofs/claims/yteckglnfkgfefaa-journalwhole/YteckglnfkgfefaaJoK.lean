/- Open, where a journal is opened -/
import Derived.Test.YteckglnfkgfefaaJoJ
import Derived.Test.YteckglnfkgfefaaJoF
namespace Go.Proofs.Yteckglnfkgfefaa
open Go.RowKit Go.Shelf Cod
attribute [local go_sem] Oper.semAt_some
set_option maxRecDepth 40000
set_option linter.unusedSimpArgs false
set_option linter.unusedVariables false
theorem info22 : (Try.prog.info? 22).map (fun i => (i.zero, i.size, i.bytes)) = some (some (.slice none 0 0), 1, 24) := by kernel_rfl
/-- the number behind k batches -/
def nxAt : Nat → List (List ByteArray) → Nat → Nat
  | s, _, 0 => s
  | s, [], _ + 1 => s
  | s, r :: l, k + 1 => nxAt (s + pcN (batL r).length) l k
theorem nxAt_zero (s : Nat) (l : List (List ByteArray)) : nxAt s l 0 = s := by cases l <;> rfl
theorem nxs_at : ∀ (l : List (List ByteArray)) (s k : Nat) (x : Nat × List ByteArray), (nxs s l)[k]? = some x → nxAt s l (k + 1) = x.1 ∧ l[k]? = some x.2 := by
  intro l
  induction l with
  | nil => intro s k x h; simp [nxs] at h
  | cons r l ih =>
    intro s k x h
    cases k with
    | zero =>
      simp only [nxs, List.getElem?_cons_zero, Option.some.injEq] at h
      subst h
      exact ⟨by rw [nxAt, nxAt_zero], rfl⟩
    | succ k =>
      simp only [nxs, List.getElem?_cons_succ] at h
      obtain ⟨h1, h2⟩ := ih _ k x h
      exact ⟨by rw [nxAt]; exact h1, by simpa using h2⟩
theorem run_nxAt {rd : Nat → List Nat} {e : Nat} : ∀ (l : List (List ByteArray)) (s t : Nat), Run rd e s l t → nxAt s l l.length = t := by
  intro l
  induction l with
  | nil => intro s t h; rw [List.length_nil, nxAt_zero]; exact h.1.symm
  | cons r l ih =>
    intro s t h
    obtain ⟨n, hb, hr⟩ := h
    rw [List.length_cons, nxAt, hb.pc]
    exact ih _ _ hr
/-- a row of batches that is one's own -/
def OwnLL (w : World) (B : Nat) (v : Value) (l : List (List ByteArray)) : Prop :=
  ∃ vs, w.ownsRow B 22 1 v l.length vs ∧ ∀ i, i < l.length → ∃ u, vs[i]? = some u ∧ IsTT w u (l.getD i [])
theorem own22_below {w w' : World} {base : Nat} {v : Value} {n : Nat} {l : List Value} (h : w.ownsRow base 22 1 v n l) (hb : Below w.heap.size w w') : w'.ownsRow base 22 1 v n l :=
  h.kept (row := none) ⟨hb.os, hb.tape, hb.output, hb.size, fun k hk _ => hb.block k hk⟩ (by cases hv : v.ownBlock <;> simp)
theorem OwnLL.below {w w' : World} {B : Nat} {v : Value} {l : List (List ByteArray)} (h : OwnLL w B v l) (hb : Below w.heap.size w w') : OwnLL w' B v l := by
  obtain ⟨vs, h1, h2⟩ := h
  refine ⟨vs, own22_below h1 hb, fun i hi => ?_⟩
  obtain ⟨u, e, hu⟩ := h2 i hi
  exact ⟨u, e, hu.kept (K9.below hb)⟩
theorem OwnLL.nil (w : World) (B : Nat) : OwnLL w B (.slice none 0 0) [] := ⟨[], World.ownsRow_nil _ _ _ _, fun i hi => by simp at hi⟩
theorem OwnLL.push {w w' : World} {B : Nat} {v' u : Value} {l : List (List ByteArray)} {r : List ByteArray} {vs : List Value} (hl : vs.length = l.length) (h2 : ∀ i, i < l.length → ∃ u, vs[i]? = some u ∧ IsTT w u (l.getD i [])) (hu : IsTT w u r) (hk : K9 w w') (ho : w'.ownsRow B 22 1 v' (l.length + 1) (vs ++ [u])) : OwnLL w' B v' (l ++ [r]) := by
  refine ⟨vs ++ [u], by simpa using ho, fun i hi => ?_⟩
  rw [List.length_append, List.length_cons, List.length_nil] at hi
  by_cases h : i < l.length
  · obtain ⟨x, e, hx⟩ := h2 i h
    refine ⟨x, by rw [List.getElem?_append_left (by omega)]; exact e, ?_⟩
    rw [List.getD_eq_getElem?_getD, List.getElem?_append_left h, ← List.getD_eq_getElem?_getD]
    exact hx.kept hk
  · have : i = l.length := by omega
    subst this
    refine ⟨u, by rw [List.getElem?_append_right (by omega), hl, Nat.sub_self]; rfl, ?_⟩
    rw [List.getD_eq_getElem?_getD, List.getElem?_append_right (Nat.le_refl _), Nat.sub_self]
    exact hu.kept hk
theorem K9.set {w : World} {b j : Nat} {v : Value} (h : ∀ cur m, w.heap[b]? ≠ some (.cells cur 9 m)) : K9 w (w.setCell ⟨b, j, none⟩ v) := by
  intro i cur m hi
  have : i ≠ b := fun e => h cur m (by rw [← e]; exact hi)
  rw [Below.heap_setCell _ _ _ _ this]
  exact hi
theorem K9.put {A : World} {l : Nat} {o o' : Obj} (ho : A.heap[l]? = some o) (hc : o.isCells = false) : K9 A (A.putObj l o') := by
  intro i cur m hi
  refine (World.putObj_heap_other ?_).trans hi
  rintro rfl
  rw [hi] at ho
  cases ho
  cases hc
theorem K9.own {w w' : World} {B n : Nat} {v : Value} {vs : List Value} (ho : w.ownsRow B 22 1 v n vs) (hg : w.grownBy w' v.ownBlock) : K9 w w' := by
  intro i cur m hi
  refine (hg.block i (heap_lt hi) (fun e => ?_)).trans hi
  rcases ho.2 with ⟨rfl, _⟩ | ⟨g, c, cu, rfl, _, hh, _⟩
  · cases e
  · have e' : i = g := by simpa [Value.ownBlock] using e
    rw [e', hh] at hi
    cases hi
theorem appendedC {W w1 : World} {n₁ F : Nat} {t e : TypeId} {size : Nat} {v v' : Value} {k m : Nat} {xs ys : List Value} {tmp : Obj} (hv : Boxed W F t v) (hte : t ≠ e) (hF : F < n₁) (hrow : W.ownsRow n₁ e size v k xs) (hn : n₁ ≤ W.heap.size)
    (hown' : w1.ownsRow n₁ e size v' m ys) (hgrow : (W.alloc tmp).grownBy w1 v.ownBlock) :
    Boxed w1 F t v ∧ Boxed (w1.setCell ⟨F, 0, none⟩ v') F t v' ∧ (w1.setCell ⟨F, 0, none⟩ v').ownsRow n₁ e size v' m ys ∧ KeepsOthers W (w1.setCell ⟨F, 0, none⟩ v') ∧ Below F W (w1.setCell ⟨F, 0, none⟩ v') ∧ ∀ b, b < n₁ → b ≠ F → (w1.setCell ⟨F, 0, none⟩ v').heap[b]? = W.heap[b]? := by
  obtain ⟨h1, h2, h3, h4, h5⟩ := appendedB hv hte hF hrow hn hown' hgrow
  refine ⟨h1, h2, h3, h4, h5, fun b hb hne => ?_⟩
  rw [Below.heap_setCell _ _ _ _ hne, hgrow.block b (by simp; omega) (fun e => by have := (hrow.lt b e.symm).1; omega)]
  exact heap_alloc_old W tmp (by omega)
/-- batches -/
theorem batches_any (w : World) (gj : Nat) : Calls Try.prog 44 #[.pointer (some ⟨gj, 0, none⟩)] w fun e w' => e = .returned (.func (.func 68) #[] #[.pointer (some ⟨w.heap.size, 0, none⟩)]) ∧ w' = w.alloc (.cells #[.pointer (some ⟨gj, 0, none⟩)] 40) := by
  go_enter Try.func44, Try.ntmps44
  go_wp2
  go_ret
  exact ⟨rfl, rfl⟩
/-- a journal that is being opened: its four blocks -/
structure Opg (W : World) (N g first count frm nx : Nat) : Prop where
  j : W.heap[N]? = some (.cells #[.pointer (some ⟨g, 0, none⟩), .int .i64 (first : Nat), .int .i64 (count : Nat), .int .u64 (frm : Nat), .int .u64 (nx : Nat), .bool false] 78 (0, 0))
  p : Boxed W (N + 1) 40 (.pointer (some ⟨N, 0, none⟩))
  q : Boxed W (N + 3) 40 (.pointer (some ⟨N, 0, none⟩))
theorem opg_new {w w3 : World} {g first count frm : Nat} (e : w3 = (((w.alloc (.cells #[.pointer (some ⟨g, 0, none⟩), .int .i64 (first : Nat), .int .i64 (count : Nat), .int .u64 (frm : Nat), .int .u64 (frm : Nat), .bool false] 78)).alloc (.cells #[.pointer (some ⟨w.heap.size, 0, none⟩)] 40)).alloc (.cells #[.slice none 0 0] 36)).alloc (.cells #[.pointer (some ⟨w.heap.size, 0, none⟩)] 40)) :
    Opg w3 w.heap.size g first count frm frm ∧ Boxed w3 (w.heap.size + 2) 36 (.slice none 0 0) ∧ Below w.heap.size w w3 ∧ w3.heap.size = w.heap.size + 4 := by
  have h1 := heap_alloc_new w (.cells #[.pointer (some ⟨g, 0, none⟩), .int .i64 (first : Nat), .int .i64 (count : Nat), .int .u64 (frm : Nat), .int .u64 (frm : Nat), .bool false] 78)
  have s1 : (w.alloc (.cells #[.pointer (some ⟨g, 0, none⟩), .int .i64 (first : Nat), .int .i64 (count : Nat), .int .u64 (frm : Nat), .int .u64 (frm : Nat), .bool false] 78)).heap.size = w.heap.size + 1 := by simp
  have b1 : Below w.heap.size w (w.alloc (.cells #[.pointer (some ⟨g, 0, none⟩), .int .i64 (first : Nat), .int .i64 (count : Nat), .int .u64 (frm : Nat), .int .u64 (frm : Nat), .bool false] 78)) := (Below.refl _ w).alloc (Nat.le_refl _) _
  generalize (w.alloc (.cells #[.pointer (some ⟨g, 0, none⟩), .int .i64 (first : Nat), .int .i64 (count : Nat), .int .u64 (frm : Nat), .int .u64 (frm : Nat), .bool false] 78)) = w1 at *
  have p1 := Boxed.new w1 40 (.pointer (some ⟨w.heap.size, 0, none⟩))
  rw [s1] at p1
  have s2 : (w1.alloc (.cells #[.pointer (some ⟨w.heap.size, 0, none⟩)] 40)).heap.size = w.heap.size + 2 := by simp; omega
  have b2 : Below w1.heap.size w1 (w1.alloc (.cells #[.pointer (some ⟨w.heap.size, 0, none⟩)] 40)) := (Below.refl _ w1).alloc (Nat.le_refl _) _
  generalize (w1.alloc (.cells #[.pointer (some ⟨w.heap.size, 0, none⟩)] 40)) = w2 at *
  have f1 := Boxed.new w2 36 (.slice none 0 0)
  rw [s2] at f1
  have s3 : (w2.alloc (.cells #[.slice none 0 0] 36)).heap.size = w.heap.size + 3 := by simp; omega
  have b3 : Below w2.heap.size w2 (w2.alloc (.cells #[.slice none 0 0] 36)) := (Below.refl _ w2).alloc (Nat.le_refl _) _
  generalize (w2.alloc (.cells #[.slice none 0 0] 36)) = w4 at *
  have q1 := Boxed.new w4 40 (.pointer (some ⟨w.heap.size, 0, none⟩))
  rw [s3, ← e] at q1
  have s4 : w3.heap.size = w.heap.size + 4 := by rw [e]; simp; omega
  have b4 : Below w4.heap.size w4 w3 := by rw [e]; exact (Below.refl _ w4).alloc (Nat.le_refl _) _
  have b34 : Below w2.heap.size w2 w3 := b3.trans (b4.mono b3.size)
  have b24 : Below w1.heap.size w1 w3 := b2.trans (b34.mono b2.size)
  exact ⟨⟨(b24.block _ (by omega)).trans h1, (b34.block _ p1.lt).trans p1, q1⟩, (b4.block _ f1.lt).trans f1, b1.trans (b24.mono b1.size), s4⟩
theorem Opg.below {A B : World} {N g first count frm nx : Nat} (h : Opg A N g first count frm nx) (hb : Below A.heap.size A B) : Opg B N g first count frm nx :=
  ⟨(hb.block _ (heap_lt h.j)).trans h.j, (hb.block _ h.p.lt).trans h.p, (hb.block _ h.q.lt).trans h.q⟩
theorem Opg.put {A : World} {N g first count frm nx l : Nat} {o o' : Obj} (h : Opg A N g first count frm nx) (ho : A.heap[l]? = some o) (hc : o.isCells = false) : Opg (A.putObj l o') N g first count frm nx := by
  refine ⟨(World.putObj_heap_other ?_).trans h.j, put_boxed ho hc h.p, put_boxed ho hc h.q⟩
  rintro rfl
  rw [h.j] at ho
  cases ho
  cases hc
theorem OwnLL.put {A : World} {B l : Nat} {v : Value} {bs : List (List ByteArray)} {o o' : Obj} (h : OwnLL A B v bs) (ho : A.heap[l]? = some o) (hc : o.isCells = false) : OwnLL (A.putObj l o') B v bs := by
  obtain ⟨vs, h1, h2⟩ := h
  refine ⟨vs, ownsRow_putObj h1 o' ho hc, fun i hi => ?_⟩
  obtain ⟨u, e, hu⟩ := h2 i hi
  exact ⟨u, e, hu.kept (K9.put ho hc)⟩
theorem IsD.putO {X : Nat → Prop} {A : World} {g gs b n l : Nat} {st : St} {o o' : Obj} (h : IsD X A g gs b n st) (hl : b < l) (ho : A.heap[l]? = some o) (hc : o.isCells = false) : IsD X (A.putObj l o') g gs b n st := by
  have hne : ∀ i cs t m, A.heap[i]? = some (.cells cs t m) → i ≠ l := by
    rintro i cs t m e rfl
    rw [e] at ho
    cases ho
    cases hc
  refine h.kept (S := fun i => i = l) ⟨rfl, rfl, rfl, by simp, fun i _ hi => World.putObj_heap_other hi⟩ ?_ ?_
  · rintro i rfl (rfl | rfl | rfl)
    · exact hne _ _ _ _ h.blk rfl
    · obtain ⟨cur, e, _⟩ := h.syn
      exact hne _ _ _ _ e rfl
    · omega
  · intro i cur m e
    exact (World.putObj_heap_other (hne _ _ _ _ e)).trans e
theorem HoldB.put {X : Nat → Prop} {Bj gj g gs b n : Nat} {j : Jn} {st : St} {A : World} {l : Nat} {o o' : Obj} (h : HoldB X Bj gj g gs b n j st A) (hl : b < l) (ho : A.heap[l]? = some o) (hc : o.isCells = false) : HoldB X Bj gj g gs b n j st (A.putObj l o') := by
  obtain ⟨⟨h1, ⟨nx, h2⟩, h3, h4, h5⟩, h6⟩ := h
  refine ⟨⟨h1.putO hl ho hc, ⟨nx, (World.putObj_heap_other ?_).trans h2⟩, h3, h4, h5⟩, put_boxed ho hc h6⟩
  rintro rfl
  rw [h2] at ho
  cases ho
  cases hc
set_option maxHeartbeats 4000000 in
theorem open_ok {X : Nat → Prop} (w : World) (g gs b n : Nat) (st : St) (h : IsD X w g gs b n st) (hd : st.down = false) (first count frm : Nat) (hc : 0 < count) (hfc : first + count ≤ n) (hf0 : 1 ≤ frm) (hf1 : frm ≤ 2305843009213693952) (l : List (List ByteArray)) (t : Nat)
    (hrun : Run ((Jn.mk first count frm frm false).rd st) (frm + count) frm l t) :
    Calls Try.prog 18 #[.pointer (some ⟨g, 0, none⟩), .int .i64 (first : Nat), .int .i64 (count : Nat), .int .u64 (frm : Nat)] w fun e w' =>
      ∃ gj v, e = .returned (.tuple #[.pointer (some ⟨gj, 0, none⟩), v, .int .i64 0]) ∧ w.heap.size ≤ gj ∧ IsJ w' gj g ⟨first, count, frm, t, false⟩ ∧ OwnLL w' w.heap.size v l ∧ Below w.heap.size w w' := by
  obtain ⟨i0, hi, hz0, hz1, hz2⟩ := info_parts info22
  have hn1 := h.n1
  have HD := hide h
  have HDN := hide (down_any w g gs b n st h)
  rw [hd] at HDN
  have HSE := hide (sectors_any w g gs b n st h)
  have HRUN := hide hrun
  have HUP := hide hd
  have d1 : decide ((count : Int) < 1) = false := decide_eq_false (by omega)
  have d2 : decide ((first : Int) < 0) = false := decide_eq_false (by omega)
  have d3 : decide ((n : Int) - (first : Int) < (count : Int)) = false := decide_eq_false (by omega)
  have d4 : decide ((frm : Int) < 1) = false := decide_eq_false (by omega)
  have d5 : decide ((2305843009213693952 : Int) < (frm : Int)) = false := decide_eq_false (by omega)
  clear h hd hrun
  refine (callsIn_wide (n := 6)).1 ?_
  refine callsIn_of_wp_marks Try.func18 rfl trivial ?_ rfl
  simp only [Try.ntmps18, List.size_toArray, List.length_cons, List.length_nil, Nat.reduceAdd, Nat.reduceSub, Array.replicate_succ, Array.replicate_zero, List.push_toArray, List.append_toArray, List.nil_append, List.cons_append]
  gi_wp2_with fail
  refine ⟨trivial, (callsIn_wide.2 HSE.out).mono ?_⟩
  rintro e w2 ⟨rfl, rfl⟩
  gi_wp2_with fail
  refine ⟨trivial, (callsIn_wide.2 HDN.out).mono ?_⟩
  rintro e w2 ⟨rfl, rfl⟩
  gi_wp2_with fail
  refine ⟨trivial, (callsIn_wide.2 (batches_any _ _)).mono ?_⟩
  rintro e w3 ⟨rfl, hw3⟩
  have HNEW := hide (opg_new hw3)
  simp only [World.size_alloc]
  clear hw3
  generalize hN : w2.heap.size = N at *
  have HN := hide hN
  clear hN
  gi_wp2_with fail
  have HBL : Hid (b < N) := hide (by obtain ⟨es, clock, e⟩ := HD.out.map_blk; have := heap_lt e; rw [← HN.out]; exact this)
  have HRS := hide (run_nxAt _ _ _ HRUN.out)
  have HRL := hide (run_le _ _ _ (Nat.le_add_right _ _) HRUN.out)
  refine wp_gives (gf := 68) (lb := #[.pointer (some ⟨N + 1 + 1 + 1, 0, none⟩)]) (Enc := EncB) (xs := nxs frm l) (Hold := HoldB X (N + 1 + 1 + 1) N g gs b n (Jn.mk first count frm frm false) st) rfl (enters_of Try.func68 (by kernel_rfl) rfl)
    (batches_gives 5 (by omega) (N + 1 + 1 + 1) N g gs b n (Jn.mk first count frm frm false) st l t (by show count ≤ 1024; omega) hf0 (by show frm + count ≤ 4611686018427387904; omega) HRUN.out)
    (fun x vals A h => by obtain ⟨v, rfl, _⟩ := h; rfl)
    (fun A B hb h => h.below hb)
    (fun A r o o' hr ho hc h => h.put (by have h1 := HNEW.out.2.2.2; have h2 := HBL.out; omega) ho hc)
    (fun k W => (∃ v, Boxed W (N + 2) 36 v ∧ OwnLL W (N + 4) v (l.take k)) ∧ Opg W N g first count frm (nxAt frm l k) ∧ Below N w2 W ∧ N + 4 ≤ W.heap.size)
    (fun _ _ _ => False)
    (fun k A B hb h => by
      obtain ⟨⟨v, h1, h2⟩, h3, h4, h5⟩ := h
      exact ⟨⟨v, (hb.block _ h1.lt).trans h1, h2.below hb⟩, h3.below hb, h4.trans (hb.mono (by omega)), Nat.le_trans h5 hb.size⟩)
    (fun c k A B hb h => h)
    (fun k A r o o' hr ho hc h => by
      obtain ⟨⟨v, h1, h2⟩, h3, h4, h5⟩ := h
      exact ⟨⟨v, put_boxed ho hc h1, h2.put ho hc⟩, h3.put ho hc, put_below (by have := HNEW.out.2.2.2; omega) h4 (Array.getElem?_eq_some_iff.1 ho).1, by simpa using h5⟩)
    (fun c k A r o o' hr ho hc h => h)
    ⟨⟨_, HNEW.out.2.1, OwnLL.nil _ _⟩, by rw [nxAt_zero]; exact HNEW.out.1, HNEW.out.2.2.1, by rw [HNEW.out.2.2.2]; exact Nat.le_refl _⟩
    ⟨⟨HD.out.below (by rw [HN.out]; exact HNEW.out.2.2.1), ⟨_, HNEW.out.1.j⟩, hc, hfc, HUP.out⟩, HNEW.out.1.q⟩
    (fun x a' A => ∃ v, a' = { tmps := #[.pointer (some ⟨g, 0, none⟩), .int .i64 (first : Nat), .int .i64 (count : Nat), .int .u64 (frm : Nat), undef, undef, undef, undef, .pointer none, .slice none 0 0, .int .i64 0, .pointer (some ⟨N + 1, 0, none⟩), .pointer (some ⟨N + 1 + 1, 0, none⟩), .int .u64 (x.1 : Nat), v, .pointer (some ⟨g, 0, none⟩), .bool false, .int .i64 (count : Nat), .bool false, .bool false, .int .i64 (first : Nat), .bool false, .bool false, .bool false, .int .i64 (count : Nat), .pointer (some ⟨g, 0, none⟩), .int .i64 (n : Nat), .int .i64 (first : Nat), .int .i64 ((n : Int) - (first : Int)), .bool false, .bool false, .bool false, .int .u64 (frm : Nat), .bool false, .bool false, .bool false, .int .u64 (frm : Nat), .bool false, .bool false, .pointer (some ⟨g, 0, none⟩), .bool false, .pointer (some ⟨g, 0, none⟩), .int .i64 (first : Nat), .int .i64 (count : Nat), .int .u64 (frm : Nat), .int .u64 (frm : Nat), .agg #[.pointer (some ⟨g, 0, none⟩), .int .i64 (first : Nat), .int .i64 (count : Nat), .int .u64 (frm : Nat), .int .u64 (frm : Nat), .bool false], .pointer (some ⟨N, 0, none⟩), .pointer (some ⟨N, 0, none⟩), .func (.func 68) #[] #[.pointer (some ⟨N + 1 + 1 + 1, 0, none⟩)], .int .u64 (x.1 : Nat), v, undef, undef, undef, undef, undef, undef, undef, undef, undef, undef], defers := [] } ∧ IsTT A v x.2)
    (fun x a' A r o o' hr ho hc h => by obtain ⟨v, h1, h2⟩ := h; exact ⟨v, h1, h2.kept (K9.put ho hc)⟩)
    ?assign ?body ?all ?left
  case assign =>
    rintro lo k x vals W K hx ⟨v, rfl, hv⟩ hH hI hK
    have HK := hide (fun a' ha => hK a' W (KeepsOthers.refl _) hH hI ⟨v, ha, hv⟩)
    clear hK hI hx hv hH
    gi_wp2
    refine HK.out _ ?_
    simp
  case body =>
    rintro lo k x a' W hx hH ⟨⟨v, bF, hown⟩, ho, hB, hsz⟩ ⟨u, rfl, hu⟩
    obtain ⟨hxn, hxl⟩ := nxs_at _ _ _ _ hx
    have hk : k < l.length := (List.getElem?_eq_some_iff.1 hxl).1
    have HTK : Hid (l.take (k + 1) = l.take k ++ [x.2]) := hide (by rw [List.take_add_one, hxl]; rfl)
    have HLK : Hid ((l.take k).length = k) := hide (by rw [List.length_take]; omega)
    have hk2 : k < 1024 := by have := HRL.out; omega
    obtain ⟨vs, hvo, hvt⟩ := hown
    obtain ⟨av, cv, rfl⟩ := own_form hvo
    have HU := hide hu
    obtain ⟨ua, uc, rfl, hu1⟩ := hu
    have HVT := hide hvt
    have HVO := hide hvo
    have HOP := hide ho
    have HBF : Hid (Boxed W (N + 1 + 1) 36 (.slice av (l.take k).length cv)) := hide bF
    have HB := hide hB
    have HSZ := hide hsz
    have HXN := hide hxn
    have HHW := hide hH
    have c11 : W.cell? ⟨N + 1, 0, none⟩ = some (.pointer (some ⟨N, 0, none⟩)) := ho.p.cell
    have fN4 := froz_bk ho.j 4
    have gN4 := cell_bk (j := 4) ho.j rfl
    simp only [List.getElem_toArray, List.getElem_cons_zero, List.getElem_cons_succ] at gN4
    have hF1 : Boxed (W.setCell ⟨N, 4, none⟩ (.int .u64 (x.1 : Nat))) (N + 1 + 1) 36 (.slice av (l.take k).length cv) := (Below.heap_setCell W _ _ _ (by show N + 1 + 1 ≠ N; omega)).trans bF
    have cF1 := hF1.cell
    have HF1 := hide hF1
    have HROW := hide (ownsRow_setCell_below hvo (a := ⟨N, 4, none⟩) (by show N < N + 4; omega) (.int .u64 (x.1 : Nat)))
    have HZ1 : Hid ((W.setCell ⟨N, 4, none⟩ (.int .u64 (x.1 : Nat))).heap.size = W.heap.size) := hide (by simp)
    rw [HLK.out] at cF1
    clear hx hH ho hB hsz bF hvo hvt hxn hxl hF1 hu1
    rw [HLK.out] at HROW HF1
    have HSRC : Hid (∀ (z : Value) (o : Nat × Nat), ∀ j u, [z][j]? = some u → ((W.setCell ⟨N, 4, none⟩ (.int .u64 (x.1 : Nat))).alloc (.cells #[z] 22)).cell? ((⟨W.heap.size, 0, none⟩ : Addr).add j) = some u) := hide (fun z _ => by rw [← HZ1.out]; exact cell_one_new _ _ _)
    generalize x.1 = X1 at *
    generalize x.2.length = xl at *
    gi_wp2_with (gi_at_builtin; refine wpListIn_append_own _ rfl _ _ 36 rfl (N + 4) 22 i0 _ 1 24 Try.underlying36 hi hz0 hz1 hz2 rfl (by decide) _ _ _ rfl (HROW.out.alloc _) ⟨W.heap.size, 0, none⟩ 1 1 [.slice ua xl uc] rfl rfl (HSRC.out _ (0, 0)) (one_slice _ _ _) (by unfold maxLen; omega) (by omega) (by have := HSZ.out; simp; omega) ?_; intro v' w5 hown' hgrow _; obtain ⟨g', cap', rfl⟩ := ownsRow_succ hown'; obtain ⟨hv1, hv2, hr2, hk3, hb2, hot⟩ := appendedC HF1.out (by decide) (by omega) HROW.out (by rw [HZ1.out]; exact HSZ.out) hown' hgrow; have hc1 := hv1.cell; have hf1 := hv1.frozen)
    have bW : Below N W (W.setCell ⟨N, 4, none⟩ (.int .u64 (X1 : Nat))) := (Below.refl N W).setCell (p := ⟨N, 4, none⟩) (Nat.le_refl _) _
    have bWB := bW.trans (hb2.mono (show N ≤ N + 1 + 1 by omega))
    have bwB := HB.out.trans bWB
    have hjB := (hot N (by omega) (by omega)).trans (blk_set HOP.out.j (j := 4) (.int .u64 (X1 : Nat)))
    have hpB : Boxed _ (N + 1) 40 _ := (hot (N + 1) (by omega) (by omega)).trans ((Below.heap_setCell W _ _ _ (by show N + 1 ≠ N; omega)).trans HOP.out.p)
    have hqB : Boxed _ (N + 3) 40 _ := (hot (N + 3) (by omega) (by omega)).trans ((Below.heap_setCell W _ _ _ (by show N + 3 ≠ N; omega)).trans HOP.out.q)
    have k1 : K9 W (W.setCell ⟨N, 4, none⟩ (.int .u64 (X1 : Nat))) := K9.set (fun cur m e => by rw [HOP.out.j] at e; simp at e)
    have k2 := K9.below ((Below.refl _ (W.setCell ⟨N, 4, none⟩ (.int .u64 (X1 : Nat)))).alloc (Nat.le_refl _) (.cells #[.slice ua xl uc] 22))
    have k3 := K9.own (HROW.out.alloc (.cells #[.slice ua xl uc] 22)) hgrow
    have k4 : K9 w5 (w5.setCell ⟨N + 1 + 1, 0, none⟩ (.slice (some ⟨g', 0, none⟩) (k + 1) cap')) := K9.set (fun cur m e => by rw [show w5.heap[N + 1 + 1]? = _ from hv1] at e; simp at e)
    refine ⟨(KeepsOthers.setCell W _ _).trans hk3, ⟨⟨HD.out.below (by rw [HN.out]; exact bwB), ⟨X1, hjB⟩, hc, hfc, HUP.out⟩, hqB⟩, ⟨_, hv2, ?_⟩, ⟨by rw [HXN.out]; exact hjB, hpB, hqB⟩, bwB, Nat.le_trans HSZ.out (by have := hk3.size; rw [HZ1.out] at this; exact this)⟩
    rw [HTK.out]
    exact OwnLL.push (by have := HVO.out.1; omega) HVT.out HU.out (((k1.trans k2).trans k3).trans k4) (by rw [HLK.out]; exact hr2)
  case all =>
    rintro D W hD hK ⟨⟨v, bF, hown⟩, ho, hB, hsz⟩
    rw [nxs_length, List.take_length] at hown
    rw [nxs_length, HRS.out] at ho
    obtain ⟨vs, hvo, hvt⟩ := id hown
    obtain ⟨av, cv, rfl⟩ := own_form hvo
    have c11 : W.cell? ⟨N + 1, 0, none⟩ = some (.pointer (some ⟨N, 0, none⟩)) := ho.p.cell
    have bF' : Boxed W (N + 1 + 1) 36 (.slice av l.length cv) := bF
    have c12 := bF'.cell
    have HOW := hide hown
    have HOP := hide ho
    have HB := hide hB
    have HND : Hid (N ≤ D) := hide (by have := HNEW.out.2.2.2; omega)
    have HKD := hide hK
    have hbd : Below W.heap.size W W.drew := (Below.refl _ _).drew
    have HOW2 := hide (hown.below hbd)
    have HOP2 := hide (ho.below hbd)
    have HB2 : Hid (Below N w2 W.drew) := hide (hB.trans (hbd.mono (by omega)))
    have hKD : W.drew.heap[D]? = some (.deferred (some [])) := hK
    clear hown ho hB hvo hvt bF bF' hK hbd
    gi_wp2_with fail
    gi_region
    all_goals
      gi_wp2_with fail
      refine ⟨by simp, .inl ⟨_, _, rfl, run_takeDeferred hKD, ?_⟩⟩
      have hJ := (HOP2.out.put hKD rfl (o' := .deferred none)).j
      refine ⟨.tuple #[.pointer (some ⟨N, 0, none⟩), .slice av l.length cv, .int .i64 0], by simp [results, Try.f18, go_sem], N, _, rfl, by rw [HN.out]; exact Nat.le_refl _, ⟨hJ, hc, by show first + count ≤ 1024; omega, hf0, ?_, ?_, ?_⟩, ?_, ?_⟩
      · have := HRL.out; show frm ≤ t; omega
      · exact HRL.out.2
      · have := HRL.out.2; show t ≤ 4611686018427388928; omega
      · obtain ⟨vs, h1, h2⟩ := HOW2.out.put hKD rfl (o' := .deferred none)
        exact ⟨vs, row_mono h1 (by rw [HN.out]; omega), h2⟩
      · rw [HN.out]; exact put_below HND.out HB2.out (Array.getElem?_eq_some_iff.1 hKD).1
  case left =>
    rintro D c k W hD hK hk h
    exact h.elim
end Go.Proofs.Yteckglnfkgfefaa
