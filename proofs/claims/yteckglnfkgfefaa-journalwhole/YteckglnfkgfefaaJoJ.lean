/- the batches that are found, one by one: what the iterator gives -/
import Derived.Test.YteckglnfkgfefaaJoI
import Derived.Test.YteckglnfkgfefaaJoB
namespace Go.Proofs.Yteckglnfkgfefaa
open Go.RowKit Go.Shelf Cod
attribute [local go_sem] Oper.semAt_some
set_option maxRecDepth 40000
set_option linter.unusedSimpArgs false
set_option linter.unusedVariables false
/-- rows of strings are as they were -/
def K9 (w w' : World) : Prop := ∀ (b : Nat) (cur : Array Value) (m : Nat × Nat), w.heap[b]? = some (.cells cur 9 m) → w'.heap[b]? = some (.cells cur 9 m)
theorem K9.below {w w' : World} (h : Below w.heap.size w w') : K9 w w' := fun b _ _ hb => (h.block b (heap_lt hb)).trans hb
theorem K9.of_frm {S : Nat → Prop} {w w' : World} (h : Frm S w w') (hs : ∀ i cur m, S i → w.heap[i]? ≠ some (.cells cur 9 m)) : K9 w w' := fun b cur m hb => (h.block b (heap_lt hb) (fun e => hs b cur m e hb)).trans hb
theorem K9.trans {a b c : World} (h : K9 a b) (k : K9 b c) : K9 a c := fun i cur m hi => k i cur m (h i cur m hi)
/-- a value is a slice of the strings rs, which nobody writes any more -/
def IsTT (w : World) (v : Value) (rs : List ByteArray) : Prop :=
  ∃ a cap, v = .slice a rs.length cap ∧ IsT w a rs.length cap rs ∧ ∀ b off, a = some ⟨b, off, none⟩ → ∃ cur m, w.heap[b]? = some (.cells cur 9 m)
theorem IsTT.kept {w w' : World} {v : Value} {rs : List ByteArray} (h : IsTT w v rs) (hk : K9 w w') : IsTT w' v rs := by
  obtain ⟨a, cap, rfl, ⟨h1, h2, h3, h5⟩, h6⟩ := h
  refine ⟨a, cap, rfl, ⟨h1, h2, h3, ?_⟩, fun b off e => ?_⟩
  · rcases h5 with h5 | ⟨b, off, rfl, hlt, hc⟩
    · exact .inl h5
    · obtain ⟨cur, m, hb⟩ := h6 b off rfl
      have hb' := hk b cur m hb
      exact .inr ⟨b, off, rfl, heap_lt hb', fun i hi => (World.cell?_of_block (hb'.trans hb.symm)).trans (hc i hi)⟩
  · obtain ⟨cur, m, hb⟩ := h6 b off e
    exact ⟨cur, m, hk b cur m hb⟩
theorem isTT_own {w : World} {B : Nat} {v : Value} {rs : List ByteArray} (h : w.ownsRow B 9 1 v rs.length (rs.map Value.string)) : IsTT w v rs := by
  rcases h.2 with ⟨rfl, h0⟩ | ⟨g, cap, cur, rfl, hb, hg, hn, hc, hs, ht⟩
  · exact ⟨none, 0, by rw [h0], ⟨rfl, by omega, Nat.zero_le _, .inl h0⟩, by simp⟩
  · refine ⟨some ⟨g, 0, none⟩, cap, rfl, ⟨rfl, hn, hc, .inr ⟨g, 0, rfl, heap_lt hg, fun i hi => ?_⟩⟩, fun b off e => by cases e; exact ⟨cur, _, hg⟩⟩
    have := h.cells (g := g) rfl i (.string (rs.getD i ByteArray.empty)) (by simp [List.getElem?_eq_getElem hi, List.getD_eq_getElem?_getD])
    rw [Addr.add_lit] at this
    exact this
/-- batches, each with the number behind it -/
def nxs : Nat → List (List ByteArray) → List (Nat × List ByteArray)
  | _, [] => []
  | s, r :: l => (s + pcN (batL r).length, r) :: nxs (s + pcN (batL r).length) l
theorem nxs_length (l : List (List ByteArray)) : ∀ s, (nxs s l).length = l.length := by
  induction l with
  | nil => intro s; rfl
  | cons r l ih => intro s; simp [nxs, ih]
theorem Bat.pc {rd : Nat → List Nat} {s m n : Nat} {rs : List ByteArray} (h : Bat rd s m rs n) : pcN (batL rs).length = n := by rw [← frL_length rs s, h.len]
/-- what a round of the iterator is handed -/
def EncB (x : Nat × List ByteArray) (vals : Array Value) (A : World) : Prop := ∃ v, vals = #[.int .u64 (x.1 : Nat), v] ∧ IsTT A v x.2
/-- what the iterator wants to hold -/
def HoldB (X : Nat → Prop) (Bj gj g gs b n : Nat) (j : Jn) (st : St) (A : World) : Prop := OnD X A gj g gs b n j st ∧ Boxed A Bj 40 (.pointer (some ⟨gj, 0, none⟩))
theorem HoldB.below {X : Nat → Prop} {Bj gj g gs b n : Nat} {j : Jn} {st : St} {A B : World} (h : HoldB X Bj gj g gs b n j st A) (hb : Below A.heap.size A B) : HoldB X Bj gj g gs b n j st B := ⟨h.1.below hb, (hb.block _ h.2.lt).trans h.2⟩
/-- between two rounds: k batches were given -/
def RunAt (rd : Nat → List Nat) (e s0 : Nat) (l : List (List ByteArray)) (t k s : Nat) : Prop := s0 ≤ s ∧ s ≤ e ∧ k ≤ l.length ∧ Run rd e s (l.drop k) t ∧ (nxs s0 l).drop k = nxs s (l.drop k)
theorem RunAt.start {rd : Nat → List Nat} {e s0 : Nat} {l : List (List ByteArray)} {t : Nat} (h : Run rd e s0 l t) (hs : s0 ≤ e) : RunAt rd e s0 l t 0 s0 := ⟨Nat.le_refl _, hs, Nat.zero_le _, h, rfl⟩
theorem RunAt.none {rd : Nat → List Nat} {e s0 : Nat} {l : List (List ByteArray)} {t k s : Nat} (h : RunAt rd e s0 l t k s) (hn : ∀ rs n, ¬ Bat rd s (e - s) rs n) : k = l.length := by
  have h1 := (run_none h.2.2.2.1 hn).1
  have h2 := congrArg List.length h1
  rw [List.length_drop, List.length_nil] at h2
  have := h.2.2.1
  omega
theorem RunAt.some {rd : Nat → List Nat} {e s0 : Nat} {l : List (List ByteArray)} {t k s n : Nat} {rs : List ByteArray} (h : RunAt rd e s0 l t k s) (he : e - s ≤ 1048576) (hb : Bat rd s (e - s) rs n) : k < l.length ∧ (nxs s0 l)[k]? = some (s + n, rs) ∧ RunAt rd e s0 l t (k + 1) (s + n) := by
  obtain ⟨h1, h2, h3, h4, h5⟩ := h
  obtain ⟨l', e1, e2⟩ := run_some h4 he hb
  have hk : k < l.length := by
    have := congrArg List.length e1
    rw [List.length_drop, List.length_cons] at this
    omega
  have e3 : l.drop (k + 1) = l' := by
    have := congrArg List.tail e1
    simpa using this
  have hb2 := hb.2.2
  have e4 : (nxs s0 l).drop k = (s + n, rs) :: nxs (s + n) l' := by rw [h5, e1, nxs, hb.pc]
  refine ⟨hk, ?_, by omega, by omega, hk, by rw [e3]; exact e2, ?_⟩
  · have := congrArg (fun q => q[0]?) e4
    simpa using this
  · have := congrArg List.tail e4
    rw [e3]
    simpa using this
theorem no_bat_cnt {rd : Nat → List Nat} {s m : Nat} (hm : m ≤ 1048576) (h : ¬ (1 ≤ cntL (rd s) ∧ cntL (rd s) ≤ m)) : ∀ rs n, ¬ Bat rd s m rs n := by
  intro rs n hb
  rw [hb.cnt hm] at h
  exact h hb.2.2
theorem no_bat_un {rd : Nat → List Nat} {s m c : Nat} (hm : m ≤ 1048576) (hc : cntL (rd s) = c) (h : UnR (rds rd s c) s [] 6) : ∀ rs n, ¬ Bat rd s m rs n := by
  intro rs n hb
  have e := hb.cnt hm
  rw [hc] at e
  subst e
  rcases h with ⟨h0, _⟩ | ⟨_, h1⟩
  · cases h0
  · exact h1 rs hb.1 hb.2.1
theorem bat_un {rd : Nat → List Nat} {s m c : Nat} {rs : List ByteArray} (h1 : 1 ≤ c) (h2 : c ≤ m) (h : UnR (rds rd s c) s rs 0) : Bat rd s m rs c := by
  rcases h with ⟨_, h3, h4⟩ | ⟨h0, _⟩
  · exact ⟨h3, h4, h1, h2⟩
  · exact absurd rfl h0
set_option maxHeartbeats 2000000 in
theorem batches_gives {X : Nat → Prop} (m : Nat) (hm : 1 ≤ m) (Bj gj g gs b n : Nat) (j : Jn) (st : St) (l : List (List ByteArray)) (t : Nat) (hc : j.count ≤ 1024) (hf0 : 1 ≤ j.frm) (hf1 : j.frm + j.count ≤ 4611686018427387904)
    (hrun : Run (j.rd st) (j.frm + j.count) j.frm l t) :
    Gives m Try.prog 68 #[.pointer (some ⟨Bj, 0, none⟩)] EncB (nxs j.frm l) (HoldB X Bj gj g gs b n j st) := by
  intro lo J E W sJ sE hY hH h0
  have HY := hide hY
  have HH := hide hH
  have HSJ := hide sJ
  have HRA := hide (RunAt.start hrun (Nat.le_add_right _ _))
  have HLn := hide (nxs_length l j.frm)
  obtain ⟨nx, eb⟩ := hH.1.blk
  have cj := hH.2.cell
  have g2 := cell_bk (j := 2) eb rfl
  have g3 := cell_bk (j := 3) eb rfl
  simp only [List.getElem_toArray, List.getElem_cons_zero, List.getElem_cons_succ] at g2 g3
  have hwc : IntKind.u64.wrap (j.count : Int) = (j.count : Int) := by rw [IntKind.wrap_u64]; omega
  have hwe : IntKind.u64.wrap ((j.frm : Int) + (j.count : Int)) = ((j.frm + j.count : Nat) : Int) := by rw [IntKind.wrap_u64]; omega
  have hb1 : Below W.heap.size W W.drew := (Below.refl _ _).drew
  have HH1 := hide (hH.below hb1)
  have HJ1 := hide (sJ 0 _ _ hb1 h0)
  clear hY hH sJ sE hrun eb h0 hb1
  obtain ⟨e, he⟩ : ∃ e, e = j.frm + j.count := ⟨_, rfl⟩
  rw [← he] at HRA hf1 hwe
  have HE := hide he
  generalize hS0 : j.frm = s0 at *
  refine callsIn_of_wp Try.func68 rfl trivial ?_ rfl
  simp only [Try.ntmps68, List.size_toArray, List.length_cons, List.length_nil, Nat.reduceAdd, Nat.reduceSub, Array.replicate_succ, Array.replicate_zero, List.push_toArray, List.append_toArray, List.nil_append, List.cons_append]
  gi_wp2_with fail
  gi_region
  all_goals
    have hee : ((s0 : Int) + (j.count : Int)) = (e : Int) := by omega
    clear he cj g2 g3
    gi_wp2_with fail
    rw [hee]
    clear hee hwe
    gi_loopw [3] (fun s wr => ∃ k sn : Nat, s = .int .u64 (sn : Nat) ∧ Hid (RunAt (j.rd st) e s0 l t k sn) ∧ HoldB X Bj gj g gs b n j st wr ∧ J k wr) (fun s _ => e - (intOf s).toNat)
    case atStart => exact ⟨0, s0, rfl, HRA, HH1.out, HJ1.out⟩
    case round =>
      obtain ⟨k, s, rfl, HR, hH, hJ⟩ := hrel
      have HHk := hide hH
      have HJk := hide hJ
      have cj := hH.2.cell
      have hse := HR.out.2.1
      have hs0 := HR.out.1
      clear hH hJ HH HH1 HJ1 HRA
      by_cases hlt : s < e
      · have d1 : decide ((s : Int) < (e : Int)) = true := decide_eq_true (by omega)
        have hle : e - s ≤ 1024 := by have := HE.out; omega
        have hwd : IntKind.u64.wrap ((e : Int) - (s : Int)) = ((e - s : Nat) : Int) := by rw [IntKind.wrap_u64]; omega
        have HSF := hide (sectorsFrom_any wr gj g gs b n j st HHk.out.1 s (e - s) (by omega) (by omega) hle)
        have hsub : ((e - s : Nat) : Int) = (e : Int) - (s : Int) := by omega
        rw [hsub] at HSF
        clear hsub hwd
        gi_wp2_with fail
        refine ⟨trivial, (callsIn_wide.2 HSF.out).mono ?_⟩
        rintro ee w2 ⟨⟨rfl, hno⟩ | ⟨v, rfl, hc1, hc2, hown⟩, hb2⟩
        · have HK : Hid (k = l.length) := hide (HR.out.none (no_bat_cnt (by omega) hno))
          have HJ2 := hide (HSJ.out k _ _ hb2 HJk.out)
          clear hno hb2 HSF
          gi_wp2_with fail
          refine bodyPost_ret (results_none rfl _ _ _) rfl ?_
          exact ⟨⟨_, rfl⟩, .inl (by rw [HLn.out, ← HK.out]; exact HJ2.out)⟩
        · have HJ2 := hide (HSJ.out k _ _ hb2 HJk.out)
          have HH2 := hide (HHk.out.below hb2)
          obtain ⟨c, hcc⟩ : ∃ c, cntL (j.rd st s) = c := ⟨_, rfl⟩
          rw [hcc] at hc1 hc2 hown
          have HCC := hide hcc
          obtain ⟨a3, p3, rfl, hI3⟩ := hown.isBB (fun q hq x hx => by
            obtain ⟨i, hi, rfl⟩ := List.mem_map.1 hq
            exact rd_lt HH2.out.1 (s + i) x hx)
          rw [rds_length] at hI3
          have hlen : (rds (j.rd st) s c).length = c := rds_length _ _ _
          have HUF := hide (unframe_any w2 a3 c p3 _ hI3 (by omega) s)
          have hst : startB s = true := decide_eq_true ⟨by omega, by omega⟩
          have HST := hide hst
          have HC1 := hide hc1
          have HC2 := hide hc2
          have hcm : c ≤ 1024 := by omega
          rw [hlen]
          clear hown hb2 hcc hI3 hst HSF HJk HHk hc1 hc2 hlen
          gi_wp2_with fail
          refine ⟨trivial, (callsIn_wide.2 HUF.out).mono ?_⟩
          rintro ee w3 ⟨⟨v, rs, rfl, _, hun, hown⟩ | ⟨hf, _⟩ | ⟨_, hun, rfl⟩, hb3⟩
          · have HB := hide (bat_un HC1.out HC2.out hun)
            have HS3 := hide (HR.out.some (by omega) HB.out)
            have HJ3 := hide (HSJ.out k _ _ hb3 HJ2.out)
            have HH3 := hide (HH2.out.below hb3)
            have hY := HY.out k _ #[.int .u64 ((s + c : Nat) : Int), v] w3 HS3.out.2.1 ⟨v, rfl, isTT_own hown⟩ HH3.out HJ3.out
            rw [Int.natCast_add] at hY
            obtain ⟨fn, tmps, assign, body, hy, hR⟩ := hY
            have HRR := hide hR
            have hwc2 : IntKind.u64.wrap (c : Int) = (c : Int) := by rw [IntKind.wrap_u64]; omega
            clear hR hun hown hb3 HUF HJ2 HH2 cj
            gi_wp2
            refine HRR.out.mono ?_
            rintro e5 W5 (⟨rfl, hJ5, hH5⟩ | ⟨rfl, hE5⟩)
            · have HJ5 := hide hJ5
              have HH5 := hide hH5
              clear hJ5 hH5 hy
              gi_wp2
              exact ⟨⟨k + 1, s + c, by simp, hide HS3.out.2.2, HH5.out, HJ5.out⟩, by simp [intOf]; have := HC1.out; omega⟩
            · have HE5 := hide hE5
              clear hE5 hy
              gi_wp2
              refine bodyPost_ret (results_none rfl _ _ _) rfl ?_
              exact ⟨⟨_, rfl⟩, .inr ⟨k, by rw [HLn.out]; exact HS3.out.1, HE5.out⟩⟩
          · rw [HST.out] at hf; cases hf
          · have HK : Hid (k = l.length) := hide (HR.out.none (no_bat_un (by omega) HCC.out hun))
            have HJ3 := hide (HSJ.out k _ _ hb3 HJ2.out)
            clear hun hb3 HUF
            gi_wp2_with fail
            refine bodyPost_ret (results_none rfl _ _ _) rfl ?_
            exact ⟨⟨_, rfl⟩, .inl (by rw [HLn.out, ← HK.out]; exact HJ3.out)⟩
      · have : s = e := by omega
        subst this
        have d1 : decide ((s : Int) < (s : Int)) = false := decide_eq_false (by omega)
        have HK : Hid (k = l.length) := hide (HR.out.none (fun rs n hb => by have := hb.2.2; omega))
        gi_wp2_with fail
        go_end0
        exact ⟨⟨_, rfl⟩, .inl (by rw [HLn.out, ← HK.out]; exact HJk.out)⟩
end Go.Proofs.Yteckglnfkgfefaa
