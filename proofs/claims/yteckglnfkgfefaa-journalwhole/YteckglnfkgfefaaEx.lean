/- contracts: Fork -/
import Derived.Test.YteckglnfkgfefaaRx
import Derived.Shelf.SlMaps.Clone
namespace Go.Proofs.Yteckglnfkgfefaa
open Go.RowKit
open Go.Maps (Keyed has size)
set_option maxRecDepth 40000
set_option linter.unusedSimpArgs false
variable {X : Nat → Prop}
/-- append([][]byte{}, s...) -/
theorem run_fresh59 (W : World) (ty : TypeId) (ad : Addr) (q n cap : Nat) (cur : Array Value) (hq : W.heap[q]? = some (.cells cur 34 (0, 0))) (h0 : 0 < n) (hn : n ≤ 1024) (hsz : n ≤ cur.size) :
    ∃ Y W' cur', (Builtin.append_ #[24, 24] ty #[.slice (some ad) 0 0, .slice (some ⟨q, 0, none⟩) n cap]).run Try.prog W = .ok (.slice (some ⟨W.heap.size, 0, none⟩) n (n + Y)) W' ∧ W'.heap[W.heap.size]? = some (.cells cur' 34 (0, 0)) ∧ Rest0 n Y cur' ∧ (∀ i, i < n → cur'[i]? = cur[i]?) ∧ Below W.heap.size W W' := by
  obtain ⟨i0, hi, hz0, hz1, hz2⟩ := info_parts Try.info34
  have hlen : (cur.toList.take n).length = n := by simp; omega
  have hsrc : ∀ j u, (cur.toList.take n)[j]? = some u → W.cell? ((⟨q, 0, none⟩ : Addr).add j) = some u := by
    intro j u hu
    rw [addr_add]
    simp only [World.cell?, hq, Nat.zero_add]
    have hj : j < n := by
      have := (List.getElem?_eq_some_iff.1 hu).1
      omega
    rw [List.getElem?_take_of_lt hj] at hu
    simpa using hu
  have hr := run_append_grow (P := Try.prog) (w := W) 24 ty 34 i0 _ Try.underlying24 hi hz0 ad 0 0 [] (by simp) (by simp) ⟨q, 0, none⟩ n cap (cur.toList.take n) (by rw [hlen, hz1]; omega) hsrc (by omega) (by omega) (by rw [Nat.zero_add, hz2, nextslicecap_zero (by omega)]; omega)
  rw [Nat.zero_add] at hr
  have hge := grownCap_ge W n 0 34
  generalize grownCap W n 0 34 = c at *
  refine ⟨c - n, W.drew.alloc (.cells ((([] : List Value).toArray ++ (cur.toList.take n).toArray) ++ Builtin.zeroCells (Value.slice none 0 0).cells (c - n)) 34), ((([] : List Value).toArray ++ (cur.toList.take n).toArray) ++ Builtin.zeroCells (Value.slice none 0 0).cells (c - n)), ?_, ?_, ⟨?_, ?_⟩, ?_, ?_⟩
  · rw [hr, Nat.add_sub_cancel' hge]
  · exact heap_alloc_new W.drew _
  · simp [Builtin.zeroCells, show (Value.slice none 0 0).cells = #[Value.slice none 0 0] from rfl]; omega
  · intro i v hiv hv
    rw [Array.getElem?_append_right (by simp; omega)] at hv
    simp [Builtin.zeroCells, show (Value.slice none 0 0).cells = #[Value.slice none 0 0] from rfl] at hv
    obtain ⟨_, _, rfl⟩ := hv
    first | rfl | simp [Nat.mod_one]
  · intro i hin
    rw [Array.getElem?_append_left (by simp; omega)]
    simp [hin]
  · exact (Below.drew (Below.refl _ _)).alloc (Nat.le_refl _) _
theorem wpList_fresh59 {w : World} {ops : Array Oper} {rest : List Oper} {o : Oper} {a : Act} {Q : Exit → Act → World → Prop} (hgd : o.guard = none) (s x : Operand)
    (ho : o.op = .call { callee := .builtin .append, args := #[s, x], argTypes := #[24, 24] }) (ad : Addr) (hs : a.eval s = .slice (some ad) 0 0) (q n cap : Nat) (hx : a.eval x = .slice (some ⟨q, 0, none⟩) n cap)
    (cur : Array Value) (hq : w.heap[q]? = some (.cells cur 34 (0, 0))) (h0 : 0 < n) (hn : n ≤ 1024) (hsz : n ≤ cur.size)
    (h : ∀ Y w' cur', w'.heap[w.heap.size]? = some (.cells cur' 34 (0, 0)) → Rest0 n Y cur' → (∀ i, i < n → cur'[i]? = cur[i]?) → Below w.heap.size w w' → wpList Try.prog ops Q rest (a.put o.dst (.slice (some ⟨w.heap.size, 0, none⟩) n (n + Y))) w') : wpList Try.prog ops Q (o :: rest) a w := by
  refine wpList_plain hgd fun _ hK => ?_
  obtain ⟨Y, w', cur', hr, h1, h2, h3, h4⟩ := run_fresh59 w o.type ad q n cap cur hq h0 hn hsz
  unfold Oper.wp execOp
  simp only [ho, resolve, invoke, builtin, Sem.run_bind, Sem.run_pure, Result.andThen_ok, List.map_toArray, List.map_cons, List.map_nil, hs, hx, hr]
  exact hK _ _ (h Y w' cur' h1 h2 h3 h4)
set_option maxRecDepth 20000 in
/-- slices.Clone -/
theorem sclone_any (q n cap : Nat) (cur : Array Value) (w : World) (hq : w.heap[q]? = some (.cells cur 34 (0, 0))) (h0 : 0 < n) (hn : n ≤ 1024) (hsz : n ≤ cur.size) :
    Calls Try.prog 46 #[.slice (some ⟨q, 0, none⟩) n cap] w fun e w' => ∃ q' Y cur', e = .returned (.slice (some ⟨q', 0, none⟩) n (n + Y)) ∧ w.heap.size ≤ q' ∧ w'.heap[q']? = some (.cells cur' 34 (0, 0)) ∧ Rest0 n Y cur' ∧ (∀ i, i < n → cur'[i]? = cur[i]?) ∧ Below w.heap.size w w' := by
  have hb0 : Below w.heap.size w (w.alloc (.cells #[] 34)) := (Below.refl _ w).alloc (Nat.le_refl _) _
  have hq0 := (hb0.block q (heap_lt hq)).trans hq
  have he := fun W => Go.Lib.run_eql_slice_nil (P := Try.prog) W 24 34 (some ⟨q, 0, none⟩) n cap 0 0 Try.underlying24
  have HN := hide (And.intro h0 (And.intro hn hsz))
  have HB0 := hide hb0
  clear hq h0 hn hsz hb0
  go_enter Try.func46, Try.ntmps46
  go_wp2_with (at_builtin; refine wpList_fresh59 rfl _ _ rfl ⟨w.heap.size, 0, none⟩ rfl q n cap rfl cur hq0 HN.out.1 HN.out.2.1 HN.out.2.2 ?_)
  intro Y W' cur' h1 h2 h3 h4
  have H1 := hide h1
  have H2 := hide h2
  have H3 := hide h3
  have H4 := hide (HB0.out.trans (h4.mono (Nat.le_succ _)))
  clear h1 h2 h3 h4 hq0
  go_wp2
  go_ret
  exact ⟨_, Y, cur', rfl, Nat.le_succ _, H1.out, H2.out, H3.out, H4.out⟩
set_option maxRecDepth 40000 in
/-- maps.Clone -/
theorem mclone_any (b : Nat) (es : Array MapEntry) (clock : Nat) (w : World) (hb : w.heap[b]? = some (.map es clock)) :
    Calls Try.prog 47 #[.map (some b)] w fun e w' => e = .returned (.map (some w.heap.size)) ∧ w' = w.alloc (.map es clock) := by
  have hq := fun w => run_eql_map_nil_sl (P := Try.prog) w 74 _ _ (some b) Try.underlying74
  go_enter Try.func47, Try.ntmps47
  go_wp2
  rw [run_callFunc_extern Try.func73 (by kernel_rfl) (by kernel_rfl) (by kernel_rfl) (e := Extern.MapsClone.clone) (by kernel_rfl), run_maps_clone_sl w 74 hb]
  simp only [Result.andThen]
  rw [Oper.upon_value]
  go_wp2
  rw [run_typeAssert_map_sl _ 74 20 _ _ _ Try.underlying74]
  simp only [Result.andThen]
  rw [Oper.upon_value]
  go_wp2
  go_ret
  exact ⟨rfl, rfl⟩
theorem fork_isD {w w' : World} {g gs b n : Nat} {st : St} (h : IsD X w g gs b n st) (hb : Below w.heap.size w w') {g' gs' b' Y : Nat} {cur cur' : Array Value} {es : Array MapEntry} {clock : Nat} (hc : w.heap[gs]? = some (.cells cur 34 (0, 0))) (hes : w.heap[b]? = some (.map es clock))
    (hg' : w'.heap[g']? = some (.cells #[.slice (some ⟨gs', 0, none⟩) n (n + Y), .map (some b'), .int .i64 (st.wr : Nat), .bool st.arm, .int .i64 (st.left : Nat), .bool st.down] 76 (0, 0))) (hgs' : w'.heap[gs']? = some (.cells cur' 34 (0, 0))) (hX : Rest0 n Y cur') (hcc : ∀ i, i < n → cur'[i]? = cur[i]?) (hb' : w'.heap[b']? = some (.map es clock)) :
    IsD X w' g' gs' b' n { st with xs := Y } := by
  obtain ⟨cur0, hc0, hsz, hd⟩ := h.syn
  rw [hc] at hc0
  cases hc0
  obtain ⟨m, D, ⟨es0, clock0, hes0, rest⟩, hm, hfr⟩ := h.map
  rw [hes] at hes0
  cases hes0
  refine ⟨h.n0, h.n1, hg', ⟨cur', hgs', hX, fun i hi => ?_⟩, ⟨m, D, ⟨es, clock, hb', rest⟩, hm, hfr.kept (K5.below hb)⟩, h.wr, h.left, fun i hi => Nat.lt_of_lt_of_le (h.xb i hi) hb.size⟩
  obtain ⟨v, hv, hdv⟩ := hd i hi
  exact ⟨v, (hcc i hi).trans hv, hdv.kept (K5.below hb)⟩
set_option maxRecDepth 40000 in
set_option maxHeartbeats 2000000 in
/-- (*Disk).Fork -/
theorem fork_any (w : World) (g gs b n : Nat) (st : St) (h : IsD X w g gs b n st) :
    Calls Try.prog 20 #[.pointer (some ⟨g, 0, none⟩)] w fun e w' => ∃ g' gs' b' Y, e = .returned (.pointer (some ⟨g', 0, none⟩)) ∧ IsD X w' g' gs' b' n { st with xs := Y } ∧ Below w.heap.size w w' ∧ ∀ i, SD g' gs' b' i → w.heap.size ≤ i := by
  obtain ⟨c0, c1, c2, c3, c4, c5, _⟩ := h.cells
  obtain ⟨cur, hc, hsz, _⟩ := h.syn
  obtain ⟨es, clock, hes⟩ := h.map_blk
  have H := hide h
  have HC := hide hc
  have HE := hide hes
  have HSZ : Hid (n ≤ cur.size) := hide (by rw [hsz.1]; omega)
  have HAL := hide (fun o : Obj => (Below.refl w.heap.size w).alloc (Nat.le_refl _) o)
  have ca0 : ∀ o : Obj, (w.alloc o).cell? ⟨g, 0, none⟩ = some (.slice (some ⟨gs, 0, none⟩) n (n + st.xs)) := fun o => (World.cell?_of_block ((HAL.out o).block g h.lts.1)).trans c0
  have HL := hide h.lts
  clear h hc hsz hes
  go_enter Try.func20, Try.ntmps20
  go_wp2_with fail
  generalize hW : w.alloc (Obj.cells #[.slice (some ⟨gs, 0, none⟩) n (n + st.xs), .map (some b), .int .i64 (st.wr : Nat), .bool st.arm, .int .i64 (st.left : Nat), .bool st.down] 76) = W1
  have HB1 : Hid (Below w.heap.size w W1) := hide (by rw [← hW]; exact HAL.out _)
  have HZ : Hid (W1.heap[w.heap.size]? = some (.cells #[.slice (some ⟨gs, 0, none⟩) n (n + st.xs), .map (some b), .int .i64 (st.wr : Nat), .bool st.arm, .int .i64 (st.left : Nat), .bool st.down] 76 (0, 0))) := hide (by rw [← hW]; exact heap_alloc_new w _)
  have HN := hide (And.intro H.out.n0 H.out.n1)
  have HW1 := hide (heap_lt HZ.out)
  generalize hr : w.heap.size = r at *
  have HR := hide hr
  clear hW HAL hr ca0
  refine (sclone_any gs n _ cur W1 ((HB1.out.block gs (by have := HL.out.2.1; omega)).trans HC.out) HN.out.1 HN.out.2 HSZ.out).mono ?_
  rintro e w2 ⟨q, Y, cur', rfl, hq, hqb, hX, hcc, hb2⟩
  have hrb : w2.heap[r]? = some (.cells #[.slice (some ⟨gs, 0, none⟩) n (n + st.xs), .map (some b), .int .i64 (st.wr : Nat), .bool st.arm, .int .i64 (st.left : Nat), .bool st.down] 76 (0, 0)) := (hb2.block r HW1.out).trans HZ.out
  have HB2 := hide (HB1.out.trans (hb2.mono (by have := HW1.out; omega)))
  have HQ := hide (And.intro hq hqb)
  have HX := hide hX
  have HCC := hide hcc
  have z0 : w2.cell? ⟨r, 0, none⟩ = some (.slice (some ⟨gs, 0, none⟩) n (n + st.xs)) := by simp [World.cell?, hrb]
  have fz : ∀ j, w2.frozen? ⟨r, j, none⟩ = false := fun j => by simp [World.frozen?, hrb]
  have hb3 := blk_set (j := 0) hrb (.slice (some ⟨q, 0, none⟩) n (n + Y))
  have zg1 : (w2.setCell ⟨r, 0, none⟩ (.slice (some ⟨q, 0, none⟩) n (n + Y))).cell? ⟨g, 1, none⟩ = some (.map (some b)) := by
    have hne : g ≠ r := by have := HL.out.1; omega
    have hbk := (Below.heap_setCell w2 ⟨r, 0, none⟩ (.slice (some ⟨q, 0, none⟩) n (n + Y)) g hne).trans (HB2.out.block g HL.out.1)
    exact (World.cell?_of_block hbk).trans c1
  have HB3 := hide hb3
  clear hq hqb hX hcc hb2 hrb hb3 c0 c1 c2 c3 c4 c5
  go_wp2_with fail
  generalize hW3 : w2.setCell ⟨r, 0, none⟩ (.slice (some ⟨q, 0, none⟩) n (n + Y)) = W3 at *
  have HF3 : Hid (Below r w W3) := hide (by rw [← hW3]; exact HB2.out.trans (Frm.toBelow (S := fun i => i = r) (Frm.set (S := fun i => i = r) (Frm.refl _ _) rfl _) (by have := HB2.out.size; have := HR.out; omega) (fun i hi => by omega)))
  have HQ3 : Hid (W3.heap[q]? = some (.cells cur' 34 (0, 0))) := hide (by
    rw [← hW3]
    have hne : q ≠ r := by have := HQ.out.1; have := HW1.out; omega
    exact (Below.heap_setCell w2 ⟨r, 0, none⟩ (.slice (some ⟨q, 0, none⟩) n (n + Y)) q hne).trans HQ.out.2)
  have HS3 : Hid (q < W3.heap.size ∧ r < W3.heap.size) := hide ⟨heap_lt HQ3.out, heap_lt HB3.out⟩
  have HE3 : Hid (W3.heap[b]? = some (.map es clock)) := hide ((HF3.out.block b HL.out.2.2).trans HE.out)
  clear hW3 z0 fz
  refine (mclone_any b es clock W3 HE3.out).mono ?_
  rintro e w4 ⟨rfl, hw4⟩
  have hb4 : Below W3.heap.size W3 w4 := by rw [hw4]; exact (Below.refl _ _).alloc (Nat.le_refl _) _
  have hm4 : w4.heap[W3.heap.size]? = some (.map es clock) := by rw [hw4]; exact heap_alloc_new W3 _
  have hr4 := (hb4.block r HS3.out.2).trans HB3.out
  have z1 : w4.cell? ⟨r, 1, none⟩ = some (.map (some b)) := by simp [World.cell?, hr4]
  have fz : ∀ j, w4.frozen? ⟨r, j, none⟩ = false := fun j => by simp [World.frozen?, hr4]
  have hg5 := blk_set (j := 1) hr4 (.map (some W3.heap.size))
  have hB5 : Below r w (w4.setCell ⟨r, 1, none⟩ (.map (some W3.heap.size))) := (HF3.out.trans (hb4.mono (by have := HF3.out.size; have := HR.out; omega))).trans (Frm.toBelow (S := fun i => i = r) (Frm.set (S := fun i => i = r) (Frm.refl _ _) rfl _) (by have := hb4.size; have := HF3.out.size; have := HR.out; omega) (fun i hi => by omega))
  have hq5 : (w4.setCell ⟨r, 1, none⟩ (.map (some W3.heap.size))).heap[q]? = some (.cells cur' 34 (0, 0)) := by
    have hne : q ≠ r := by have := HQ.out.1; have := HW1.out; omega
    exact (Below.heap_setCell w4 ⟨r, 1, none⟩ _ q hne).trans ((hb4.block q HS3.out.1).trans HQ3.out)
  have hm5 : (w4.setCell ⟨r, 1, none⟩ (.map (some W3.heap.size))).heap[W3.heap.size]? = some (.map es clock) := by
    have hne : W3.heap.size ≠ r := by have := HS3.out.2; omega
    exact (Below.heap_setCell w4 ⟨r, 1, none⟩ _ W3.heap.size hne).trans hm4
  have HI5 := hide (fork_isD H.out (HR.out ▸ hB5) HC.out HE.out hg5 hq5 HX.out HCC.out hm5)
  have HB5 := hide hB5
  have HFR : Hid (∀ i, SD r q W3.heap.size i → r ≤ i) := hide (by rintro i (rfl | rfl | rfl) <;> (have := HQ.out.1; have := HW1.out; have := HS3.out.2; omega))
  generalize W3.heap.size = bm at *
  clear hw4 hb4 hm4 hr4 hg5 hB5 hq5 hm5
  go_wp2
  go_ret
  exact ⟨_, _, _, Y, rfl, HI5.out, by rw [HR.out]; exact HB5.out, by rw [HR.out]; exact HFR.out⟩
end Go.Proofs.Yteckglnfkgfefaa
