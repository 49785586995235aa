/- events.Streams -/
import Derived.Test.YtggbaanoagbmdaaZk
import Derived.Test.YtggbaanoagbmdaaG
namespace Go.Proofs.Ytggbaanoagbmdaa
open Go.RowKit Go.Maps Go.Sort
/-- the names of the streams, in rising order -/
def NamesOf (l : List Ev) (r : List (List UInt8)) : Prop := r.Pairwise (fun x y => x < y) ∧ ∀ x, x ∈ r ↔ ∃ e ∈ l, e.st.data.toList = x
def Nm (l : List Ev) (r : List (List UInt8)) : Prop := if goodB l = true then NamesOf l r else r = []
def HasN (D : DataW Unit) (l : List Ev) (k : Nat) : Prop := ∀ x : List UInt8, has D (.string x) = true ↔ ∃ e ∈ l.take k, e.st.data.toList = x
theorem HasN.start (l : List Ev) : HasN (.map []) l 0 := fun x => by simp [has_eq]
theorem HasN.step {D : DataW Unit} {l : List Ev} {k : Nat} (h : HasN D l k) (hm : IsMap D) (hk : k < l.length) (d : DataW Unit) : HasN (D.put (.string (l.getD k Ev0).st.data.toList) d) l (k + 1) := by
  intro x
  have ht : l.take (k + 1) = l.take k ++ [l.getD k Ev0] := by
    rw [List.take_add_one, List.getD_eq_getElem?_getD, List.getElem?_eq_getElem hk]; rfl
  rw [ht]
  by_cases e : x = (l.getD k Ev0).st.data.toList
  · subst e
    rw [has_put_same hm (show WideAt.IsKeyLit (.string _) from trivial)]
    simp
  · rw [has_put_other (fun e' => e (by simpa using e')), h x]
    simp only [List.mem_append, List.mem_singleton]
    constructor
    · rintro ⟨y, hy, he⟩; exact ⟨y, .inl hy, he⟩
    · rintro ⟨y, hy | rfl, he⟩
      · exact ⟨y, hy, he⟩
      · exact absurd he.symm e
theorem names_of {P : Program} {w : World} {R : Value → Option (DataW Unit × List MemPlace)} {b n : Nat} {D : DataW Unit} {l : List Ev} {ss : List (List UInt8)} (hown : w.ownsMap P 9 R b n D) (K : Keyed P 9) (hk9 : P.underlying 9 = some .string) (hh : HasN D l l.length) (hp : ss.Perm (strKeys D)) :
    NamesOf l (ss.mergeSort (fun x y => decide (x ≤ y))) := by
  obtain ⟨es, hD, hpw, _⟩ := hown.entries K
  obtain ⟨es', hD', hko⟩ := hown.keysOf
  obtain rfl : es = es' := by rw [hD] at hD'; simpa using hD'
  subst hD
  have hks : ∀ p ∈ es, ∃ x, p.1 = .string x := fun p hp => by obtain ⟨v, hv⟩ := hko p hp; obtain ⟨x, _, hx, _⟩ := Maps.keyOf_str hk9 hv; exact ⟨x, hx⟩
  have hmem : ∀ x, x ∈ strKeys (DataW.map es) ↔ has (.map es) (.string x) = true := by
    intro x
    show x ∈ (es.map fun p => strOf p.1) ↔ es.any (fun p => p.1.sameKey (.string x)) = true
    rw [List.mem_map, List.any_eq_true]
    constructor
    · rintro ⟨p, hp', rfl⟩
      obtain ⟨a, ha⟩ := hks p hp'
      exact ⟨p, hp', by rw [ha]; simp [Lit.sameKey, strOf]⟩
    · rintro ⟨p, hp', hs⟩
      obtain ⟨a, ha⟩ := hks p hp'
      rw [ha] at hs
      exact ⟨p, hp', by rw [ha]; simpa [Lit.sameKey, strOf] using hs⟩
  have hnd : (strKeys (DataW.map es)).Nodup := by
    show (es.map fun p => strOf p.1).Nodup
    rw [List.Nodup, List.pairwise_map]
    refine hpw.imp_of_mem ?_
    intro p q hp' hq' hne he
    obtain ⟨a, ha⟩ := hks p hp'
    obtain ⟨c, hc⟩ := hks q hq'
    rw [ha, hc] at he hne
    exact hne (by simp only [strOf] at he; rw [he])
  have tr : ∀ a b c : List UInt8, decide (a ≤ b) = true → decide (b ≤ c) = true → decide (a ≤ c) = true := fun a b c h1 h2 => by simp only [decide_eq_true_eq] at *; exact List.le_trans h1 h2
  have to : ∀ a b : List UInt8, (decide (a ≤ b) || decide (b ≤ a)) = true := fun a b => by simp only [Bool.or_eq_true, decide_eq_true_eq]; exact List.le_total a b
  have hsrt := List.pairwise_mergeSort tr to ss
  have hnd2 : (ss.mergeSort (fun x y => decide (x ≤ y))).Nodup := ((List.mergeSort_perm ss _).trans hp).nodup_iff.2 hnd
  refine ⟨?_, fun x => ?_⟩
  · refine (hsrt.and hnd2).imp ?_
    rintro x y ⟨h1, h2⟩
    simp only [decide_eq_true_eq] at h1
    exact Decidable.byContradiction (fun hc => h2 (List.le_antisymm h1 (List.not_lt.1 hc)))
  · rw [((List.mergeSort_perm ss _).trans hp).mem_iff, hmem x, hh x, List.take_length]
set_option maxRecDepth 40000 in
set_option maxHeartbeats 1000000 in
/-- events.Streams -/
theorem streams_any (a : Option Addr) (len cap : Nat) (l : List Ev) (w : World) (h : IsE w a len cap l) :
    Calls Try.prog 22 #[.slice a len cap] w fun e w' => ∃ v r, e = .returned (.tuple #[v, .int .i64 (checkE l)]) ∧ Nm l r ∧ w'.ownsRow w.heap.size 9 1 v r.length (r.map encStr) ∧ Below w.heap.size w w' := by
  have HV := hide h
  have HLN := hide h.1
  have hcap := h.2.1
  have hcm : cap ≤ 9223372036854775807 := h.2.2.1
  have hmm := @run_makeMap Try.prog
  have CK := hide (check_any a len cap l w h)
  clear h
  cases hg : goodB l
  case false =>
    have HE : Hid (checkE l = 2) := hide (by unfold checkE; rw [hg]; rfl)
    have HN : Hid (Nm l []) := hide (by unfold Nm; rw [hg]; rfl)
    rw [HE.out] at CK ⊢
    clear hg
    go_enter Try.func22, Try.ntmps22
    go_wp2_with fail
    refine CK.out.mono ?_
    rintro e w1 ⟨rfl, hb1⟩
    have HB1 := hide hb1
    clear hb1 CK
    go_wp2
    go_ret2
    exact ⟨_, [], rfl, HN.out, ⟨rfl, .inl ⟨rfl, rfl⟩⟩, HB1.out⟩
  case true =>
    have HE : Hid (checkE l = 0) := hide (by unfold checkE; rw [hg]; rfl)
    have HLS : Hid (len ≤ 16384) := hide (by rw [← HLN.out]; exact (goodB_iff.1 hg).1)
    have HN : Hid (∀ r, NamesOf l r → Nm l r) := hide (fun r hr => by unfold Nm; rw [if_pos hg]; exact hr)
    rw [HE.out] at CK ⊢
    clear hg
    go_enter Try.func22, Try.ntmps22
    go_wp2_with fail
    refine CK.out.mono ?_
    rintro e w1 ⟨rfl, hb1⟩
    have HB1 := hide hb1
    clear hb1 CK
    have HM1 := hide (World.ownsMap_made w1 Try.prog 9 (plainElem (H := Unit) Try.prog 3))
    have HB2 : Hid (Below w.heap.size w (w1.alloc (.map #[] 0))) := hide (HB1.out.alloc HB1.out.size _)
    have HS1 : Hid (w.heap.size ≤ w1.heap.size) := hide HB1.out.size
    go_wp2
    generalize hW1 : w1.alloc (.map #[] 0) = W1 at *
    generalize hB : w1.heap.size = B at *
    have HS2 : Hid (B + 1 ≤ W1.heap.size) := hide (by rw [← hW1, ← hB]; simp)
    clear hW1 hB hmm
    go_loopw [16] (fun i wr => ∃ (k : Nat) (D1 : DataW Unit), k ≤ len ∧ i = .int .i64 k ∧ Hid (wr.ownsMap Try.prog 9 (plainElem (H := Unit) Try.prog 3) B k D1 ∧ Cnt9 D1 l k ∧ HasN D1 l k) ∧ Hid (Below w.heap.size w wr ∧ B + 1 ≤ wr.heap.size)) (fun i _ => len - (intOf i).toNat)
    case atStart => exact ⟨0, _, Nat.zero_le _, rfl, hide ⟨HM1.out, Cnt9.start l, HasN.start l⟩, hide ⟨HB2.out, HS2.out⟩⟩
    case round =>
      obtain ⟨k, D1, hk, rfl, HD1, HB⟩ := hrel
      by_cases hlt : k < len
      case neg =>
        obtain rfl : k = len := by omega
        have C2 := hide (keys_call (some B) wr)
        have HSZ : Hid (size D1 ≤ k) := hide HD1.out.1.size_le
        have C3 := hide (sorted_call B k D1 _ wr HD1.out.1 (by have := HSZ.out; have := HLS.out; show _ ≤ 9223372036854775807; omega) (by have := HSZ.out; have := HLS.out; omega))
        go_wp2_with fail
        refine C2.out.mono ?_
        rintro e w2 ⟨rfl, rfl⟩
        go_wp2_with fail
        refine C3.out.mono ?_
        rintro e w3 ⟨v, ss, rfl, hS, hrow, hb⟩
        have HRW : Hid (∃ r, Nm l r ∧ w3.ownsRow w.heap.size 9 1 v r.length (r.map encStr)) := hide (by
          refine ⟨_, HN.out _ (names_of HD1.out.1 keyed9 Try.underlying9 (by rw [HLN.out]; exact HD1.out.2.2) hS), ?_⟩
          rw [List.length_mergeSort]
          exact ownsRow_base_a hrow (by have := HB.out.1.size; omega))
        have HB3 : Hid (Below w.heap.size w w3) := hide ((HB.out.1.alloc HB.out.1.size _).trans (hb.mono (by have := HB.out.1.size; omega)))
        clear hS hrow hb C2 C3
        go_wp2
        go_ret2
        obtain ⟨r, h1, h2⟩ := HRW.out
        exact ⟨v, r, rfl, h1, h2, HB3.out⟩
      case pos =>
        have HLL : Hid (k < l.length) := hide (by rw [HLN.out]; exact hlt)
        have HVW : Hid (IsE wr a len cap l) := hide (HV.out.below' HB.out.1)
        obtain ⟨bs, off, rfl, hbs, z0, z1, z2, z3, z4⟩ := HVW.out.2.2.2.2 k hlt
        have HOK : Hid (okE (l.getD k Ev0)) := hide (HV.out.2.2.2.1 _ (by rw [List.getD_eq_getElem?_getD, List.getElem?_eq_getElem HLL.out]; simp))
        have HT1 := hide (Cnt9.step HD1.out.2.1 HD1.out.1.isMap HLL.out)
        have HT2 := hide (HasN.step HD1.out.2.2 HD1.out.1.isMap HLL.out)
        generalize hx : l.getD k Ev0 = x at *
        clear hx
        have hks := WideMaps.keyOf_string_mk (P := Try.prog) (k := 9) Try.underlying9 HOK.out.1
        have HCL : Hid (cntS l k x.st ≤ 16384) := hide (Nat.le_trans cnt_le (by have := HLS.out; omega))
        have HQ1 := hide (HD1.out.2.1 x.st)
        generalize cntS l k x.st = c at *
        have hwr1 : IntKind.i64.wrap ((c : Int) + 1) = (c : Int) + 1 := wrap_nat _ (by have := HCL.out; omega)
        have hwr3 : IntKind.i64.wrap ((k : Int) + 1) = (k : Int) + 1 := wrap_nat _ (by omega)
        have hown1 := HD1.out.1.alloc (.cells #[.string x.st, .int .i64 x.num, .int .i64 x.glob, .string x.ma, .string x.dt] 41)
        obtain ⟨c', hrun1, hat1, hwc1⟩ := hown1.lookup_int keyed9 Try.underlying51 Try.underlying3 (zero3 _) hks
        rw [HQ1.out] at hat1
        simp only [DataW.lit.injEq, Lit.int.injEq, true_and] at hat1
        subst hat1
        obtain ⟨W2, hrun2, hown2, hg2⟩ := hown1.update keyed9 Try.underlying51 (by show k < 9223372036854775807; omega) hks (val := .int .i64 ((c : Int) + 1)) (plainElem_int Try.underlying3 (wf_nat c (by have := HCL.out; omega)))
        have HO2 := hide hown2
        have HB2' : Hid (Below w.heap.size w W2 ∧ B + 1 ≤ W2.heap.size) := hide (by
          have b1 := HB.out.2
          have s1 := hg2.size
          have s0 := HS1.out
          simp only [World.size_alloc] at s1
          refine ⟨(HB.out.1.alloc HB.out.1.size _).grown hg2 (by have := HB.out.1.size; simp; omega) (fun q hq => by cases hq; omega), by omega⟩)
        clear hown1 hown2 hg2 hks hwc1
        go_wp2
        go_roundw
        case rel => exact ⟨k + 1, _, by omega, by simp, hide ⟨HO2.out, HT1.out, HT2.out _⟩, HB2'⟩
        case measure => simp [intOf]; omega
end Go.Proofs.Ytggbaanoagbmdaa
