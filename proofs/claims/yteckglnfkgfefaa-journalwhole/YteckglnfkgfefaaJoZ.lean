/- a power cut within an append: what is found behind it (pure) -/
import Derived.Test.YteckglnfkgfefaaJoV
namespace Go.Proofs.Yteckglnfkgfefaa
open Go.RowKit Cod
set_option maxRecDepth 40000
set_option linter.unusedVariables false
theorem goes_reads (st : St) (i : Nat) (l : List Nat) (k : Nat) : (st.goes i l).reads k = if k = i then l else st.reads k := by
  unfold St.goes
  rw [reads_puts]
  by_cases h : k = i
  · rw [if_pos h, if_pos h]
  · rw [if_neg h, if_neg h]
    cases st.arm <;> rfl
theorem goes_down (st : St) (i : Nat) (l : List Nat) : (st.goes i l).down = st.down := by
  unfold St.goes; cases st.arm <;> rfl
theorem goes_syn (st : St) (i : Nat) (l : List Nat) : (st.goes i l).syn = st.syn := by
  unfold St.goes; cases st.arm <;> rfl
theorem goes_wr1 (st : St) (i : Nat) (l : List Nat) : (st.goes i l).wr = st.wr + 1 := by
  unfold St.goes; cases st.arm <;> rfl
theorem goes_fr (st : St) (i : Nat) (l : List Nat) (k : Nat) : (st.goes i l).fr k = if k = i then some l else st.fr k := by
  unfold St.goes; cases st.arm <;> rfl
theorem write_go {st : St} {n i : Nat} {l : List Nat} (hd : st.down = false) (ha : ¬ (st.arm = true ∧ st.left = 0)) (hi : i < n) (hl : l.length ≤ 4096) : st.write n (i : Nat) l = (st.goes i l, 0) := by
  unfold St.write
  rw [if_neg (by simp [hd]), if_neg (by omega), if_neg (by omega), if_neg ha, Int.toNat_natCast]
theorem write_gone {st : St} {n i : Nat} {l : List Nat} (hd : st.down = false) (ha : st.arm = true ∧ st.left = 0) (hi : i < n) (hl : l.length ≤ 4096) : st.write n (i : Nat) l = (st.cuts, 8) := by
  unfold St.write
  rw [if_neg (by simp [hd]), if_neg (by omega), if_neg (by omega), if_pos ha]
/-- where the power may go -/
theorem wrs_any (n : Nat) (sec : Nat → Nat) : ∀ (bs : List (List Nat)) (s : Nat) (st : St), st.down = false → (∀ i, i < bs.length → sec (s + i) < n) → (∀ b ∈ bs, b.length ≤ 4096) → (∀ i k, i < k → k < bs.length → sec (s + i) ≠ sec (s + k)) →
    (∃ st', St.wrs n sec s bs st = (st', 0) ∧ st'.down = false ∧ (∀ i, i < bs.length → st'.reads (sec (s + i)) = bs.getD i []) ∧ (∀ k, (∀ i, i < bs.length → k ≠ sec (s + i)) → st'.reads k = st.reads k) ∧ (∀ k, st'.fr k = none) ∧ st'.wr = st.wr + bs.length) ∨
    (∃ st' k, k < bs.length ∧ St.wrs n sec s bs st = (st', 8) ∧ st'.down = true ∧ st'.syn = st.syn ∧ (∀ i, i < k → st'.fr (sec (s + i)) = some (bs.getD i [])) ∧ (∀ x, (∀ i, i < k → x ≠ sec (s + i)) → st'.fr x = st.fr x) ∧ st'.wr ≤ st.wr + bs.length) := by
  intro bs
  induction bs with
  | nil =>
    intro s st hd _ _ _
    exact .inl ⟨st.syncs, sync_up hd, hd, fun i hi => by simp at hi, fun k _ => rfl, fun k => rfl, rfl⟩
  | cons b bs ih =>
    intro s st hd hn hl hne
    have hi0 : sec s < n := by simpa using hn 0 (by simp)
    have hb0 := hl b (List.mem_cons_self ..)
    have e1 : ∀ i, s + 1 + i = s + (i + 1) := fun i => by omega
    by_cases ha : st.arm = true ∧ st.left = 0
    · right
      refine ⟨st.cuts, 0, by simp, ?_, rfl, rfl, fun i hi => by omega, fun x _ => rfl, ?_⟩
      · rw [St.wrs, write_gone hd ha hi0 hb0, if_neg (by simp)]
      · show st.wr ≤ _; omega
    · have h0 := write_go hd ha hi0 hb0
      have hs : St.wrs n sec s (b :: bs) st = St.wrs n sec (s + 1) bs (st.goes (sec s) b) := by
        rw [St.wrs, h0, if_pos rfl]
      rcases ih (s + 1) (st.goes (sec s) b) (by rw [goes_down]; exact hd) (fun i hi => by rw [e1]; exact hn (i + 1) (by simpa using hi)) (fun x hx => hl x (List.mem_cons_of_mem _ hx)) (fun i k hi hk => by rw [e1, e1]; exact hne (i + 1) (k + 1) (by omega) (by simpa using hk)) with ⟨st', g1, g2, g4, g5, g6, g7⟩ | ⟨st', k, hk, g1, g2, g3, g4, g5, g6⟩
      · left
        refine ⟨st', hs.trans g1, g2, ?_, ?_, g6, by rw [g7, goes_wr1, List.length_cons]; omega⟩
        · intro i hi
          cases i with
          | zero =>
            have := g5 (sec s) (fun i hi => by rw [e1]; have := hne 0 (i + 1) (by omega) (by simpa using hi); simpa using this)
            rw [goes_reads, if_pos rfl] at this
            simpa using this
          | succ i =>
            have := g4 i (by simpa using hi)
            rw [e1] at this
            simpa using this
        · intro k hk
          have := g5 k (fun i hi => by rw [e1]; exact hk (i + 1) (by simpa using hi))
          rw [this, goes_reads, if_neg (by simpa using hk 0 (by simp))]
      · right
        refine ⟨st', k + 1, by simpa using hk, hs.trans g1, g2, by rw [g3, goes_syn], ?_, ?_, by rw [goes_wr1] at g6; rw [List.length_cons]; omega⟩
        · intro i hi
          cases i with
          | zero =>
            have := g5 (sec s) (fun i hi => by rw [e1]; have := hne 0 (i + 1) (by omega) (by simp only [List.length_cons]; omega); simpa using this)
            rw [goes_fr, if_pos rfl] at this
            simpa using this
          | succ i =>
            have := g4 i (by omega)
            rw [e1] at this
            simpa using this
        · intro x hx
          have := g5 x (fun i hi => by rw [e1]; exact hx (i + 1) (by omega))
          rw [this, goes_fr, if_neg (by simpa using hx 0 (by omega))]
/-- a sector that was not under way stays as it was synced -/
theorem fated_far (fr : Nat → Option (List Nat)) (l : List (Nat × Nat)) (us : List Nat) (f : Nat → List Nat) (x : Nat) (hx : x ∉ us) : ∀ k, k ≤ us.length → fated fr l us f k x = f x := by
  intro k
  induction k with
  | zero => intro _; rfl
  | succ k ih =>
    intro hk
    have hm : us.getD k 0 ∈ us := by
      rw [List.getD_eq_getElem?_getD, List.getElem?_eq_getElem (by omega)]
      exact List.getElem_mem _
    show setSyn _ _ _ x = f x
    unfold setSyn
    rw [if_neg (fun e => hx (by rw [e]; exact hm))]
    exact ih (by omega)
/-- behind Restore -/
def St.over (n : Nat) (F : List (Nat × Nat)) (st : St) : St := (st.fates F (st.uns n) (st.uns n).length).back
theorem over_far {n : Nat} {F : List (Nat × Nat)} {st : St} {x : Nat} (h : st.fr x = none) : (st.over n F).reads x = st.syn x := by
  show fated st.fr F (st.uns n) st.syn (st.uns n).length x = st.syn x
  refine fated_far _ _ _ _ _ ?_ _ (Nat.le_refl _)
  rw [uns_mem]
  simp [h]
/-- neither what was there nor what was written, and a right checksum all the same -/
def Fgd (was all is : List Nat) : Prop := is ≠ was ∧ is ≠ all ∧ is.length = 4096 ∧ is.take 4 = markL ∧ leB (Crc.update 0 (markL ++ [0, 0, 0, 0] ++ is.drop 8)) 4 = (is.drop 4).take 4
theorem full_nil_first : (full []).getD 0 0 ≠ 76 := by decide
theorem Bat.sealed {rd : Nat → List Nat} {s m n i : Nat} {rs : List ByteArray} (h : Bat rd s m rs n) (hi : i < n) : ∃ b, rd (s + i) = sealS b ∧ (rd (s + i)).length = 4096 := by
  have hl := h.len
  have e := rds_get (rd := rd) (s := s) hi
  rw [← h.2.1] at e
  have h2 : (rd (s + i)).length = 4096 := by rw [← e]; exact frL_getlen (by omega)
  rw [frL_length] at hl
  rw [frL_get (by omega), secL_eq _ (pcAt_len (by omega)).2.1, rsecL_seal] at e
  exact ⟨_, e.symm, h2⟩
theorem seal_first (b : List Nat) : (sealS b).getD 0 0 = 76 := by
  unfold sealS
  rfl
theorem seal_fgd {was all b : List Nat} (h1 : sealS b ≠ was) (h2 : sealS b ≠ all) (h3 : (sealS b).length = 4096) : Fgd was all (sealS b) :=
  ⟨h1, h2, h3, seal_head b, by rw [seal_drop, seal_mid]⟩
theorem cut_syn (st : St) : st.cut.1.syn = st.syn := by unfold St.cut; split <;> rfl
theorem cut_fr (st : St) : st.cut.1.fr = st.fr := by unfold St.cut; split <;> rfl
theorem cut_reads (st : St) : st.cut.1.reads = st.reads := by funext k; unfold St.reads; rw [cut_syn, cut_fr]
/-- behind a power cut within an append, with any fates: what was answered is found, and nothing behind it -/
theorem crash_run {N : Nat} {j j' : Jn} {st st2 : St} {l : List (List ByteArray)} {rs : List ByteArray} {c e : Int} {F : List (Nat × Nat)} (h : Lv N j st l) (hz : ∀ s, j.nxt ≤ s → s < 1 + N → j.rd st s = full []) (hfr : ∀ k, st.fr k = none)
    (hN : N ≤ 1024) (j0 : j.first = 0) (j1 : j.count = N) (j2 : j.frm = 1) (he : Jn.append N rs j (st.arms c) = (j', st2, e))
    (NF : ∀ x, x < N → ¬ Fgd (full (st.reads x)) (full (st2.cut.1.reads x)) (full ((st2.cut.1.over N F).reads x))) :
    ∃ t, Run (j.rd (st2.cut.1.over N F)) (1 + N) 1 (if e = 0 then l ++ [rs] else l) t := by
  have hc0 := h.c0
  have hf1 := h.f1
  have hf2 := h.f2
  rw [j1, j2] at hf2
  rw [j1] at hc0
  have hall : Run (j.rd st) (1 + N) 1 l j.nxt := by
    have := h.all (by omega)
    rw [j1, j2] at this
    exact this
  have hrun : Run (j.rd st) j.nxt 1 l j.nxt := by have := h.run; rw [j2] at this; exact this
  have same : (∀ k, st2.fr k = none) → (∀ k, st2.syn k = st.syn k) → j.rd (st2.cut.1.over N F) = j.rd st := by
    intro h1 h2
    funext s
    unfold Jn.rd
    rw [over_far (by rw [cut_fr]; exact h1 _), cut_syn, h2]
    unfold St.reads
    rw [hfr]
    rfl
  unfold Jn.append at he
  rw [if_neg (by simp [h.nf])] at he
  by_cases hE : frE rs j.nxt ≠ 0
  · rw [if_pos hE] at he
    cases he
    rw [if_neg hE, same hfr (fun _ => rfl)]
    exact ⟨_, hall⟩
  rw [if_neg hE] at he
  have hok := (frE_ok (Decidable.not_not.1 hE)).1
  by_cases hR : j.room < (frL rs j.nxt).length
  · rw [if_pos hR] at he
    cases he
    rw [if_neg (by decide), same hfr (fun _ => rfl)]
    exact ⟨_, hall⟩
  rw [if_neg hR] at he
  have hp := fr_pos rs j.nxt
  have hro : j.nxt + (frL rs j.nxt).length ≤ 1 + N := by unfold Jn.room at hR; rw [j1, j2] at hR; omega
  have hsec : ∀ x, j.sec x < N := fun x => by have := sec_lt (j := j) (by omega) x; omega
  have apart : ∀ x y, 1 ≤ x → x < y → y < 1 + N → j.sec x ≠ j.sec y := fun x y h1 h2 h3 => sec_apart h1 h2 (by rw [j1]; omega)
  rcases wrs_any N j.sec (frL rs j.nxt) j.nxt (st.arms c) h.up (fun i _ => hsec _) (fun b hb => by rw [frL_len b hb]; exact Nat.le_refl _) (fun i k hik hk => apart _ _ (by omega) (by omega) (by omega)) with ⟨st', g1, g2, g4, g5, g6, _⟩ | ⟨st', k, hk, g1, g2, g3, g4, g5, _⟩
  · rw [g1, if_neg (by simp)] at he
    cases he
    rw [if_pos rfl]
    have rd4 : ∀ s, j.rd (st'.cut.1.over N F) s = full (st'.reads (j.sec s)) := by
      intro s
      unfold Jn.rd
      rw [over_far (by rw [cut_fr]; exact g6 _), cut_syn]
      have : st'.reads (j.sec s) = st'.syn (j.sec s) := by unfold St.reads; rw [g6]; rfl
      rw [this]
    have far : ∀ s, 1 ≤ s → s < 1 + N → ¬ (j.nxt ≤ s ∧ s < j.nxt + (frL rs j.nxt).length) → j.rd (st'.cut.1.over N F) s = j.rd st s := by
      intro s h1 h2 h3
      rw [rd4, g5]
      · rfl
      · intro i hi e
        by_cases hlt : s < j.nxt + i
        · exact apart _ _ h1 hlt (by omega) e
        · exact apart (j.nxt + i) s (by omega) (by omega) h2 e.symm
    have hr1 : Run (j.rd (st'.cut.1.over N F)) j.nxt 1 l j.nxt := run_congr l 1 j.nxt (fun x hx1 hx2 => (far x hx1 (by omega) (by omega)).symm) hrun
    have hb := bat_of (rd := j.rd (st'.cut.1.over N F)) (rs := rs) (s := j.nxt) (m := 1 + N - j.nxt) hok (fun i hi => by rw [rd4, g4 i hi, full_of (frL_getlen hi)]) (by omega)
    refine ⟨_, run_snoc l 1 j.nxt (j.nxt + (frL rs j.nxt).length) ⟨_, hr1, rfl⟩ hb ⟨rfl, ?_⟩ (by omega)⟩
    intro q m hq
    have hm := hq.2.2
    have h76 := hq.first
    rw [far _ (by omega) (by omega) (by omega), hz _ (by omega) (by omega)] at h76
    exact full_nil_first h76
  · rw [g1, if_pos (show (8 : Int) ≠ 0 by decide)] at he
    obtain ⟨rfl, he2⟩ := Prod.mk.inj he
    obtain ⟨rfl, rfl⟩ := Prod.mk.inj he2
    rw [if_neg (show ¬ (8 : Int) = 0 by decide)]
    have sy : ∀ x, st'.fr x = none → (st'.cut.1.over N F).reads x = st.reads x := by
      intro x hx
      rw [over_far (by rw [cut_fr]; exact hx), cut_syn, g3]
      show st.syn x = st.reads x
      unfold St.reads
      rw [hfr]
      rfl
    have far : ∀ s, 1 ≤ s → s < 1 + N → ¬ (j.nxt ≤ s ∧ s < j.nxt + k) → j.rd (st'.cut.1.over N F) s = j.rd st s := by
      intro s h1 h2 h3
      unfold Jn.rd
      rw [sy]
      rw [g5]
      · exact hfr _
      · intro i hi e
        by_cases hlt : s < j.nxt + i
        · exact apart _ _ h1 hlt (by omega) e
        · exact apart (j.nxt + i) s (by omega) (by omega) h2 e.symm
    have hr1 : Run (j.rd (st'.cut.1.over N F)) j.nxt 1 l j.nxt := run_congr l 1 j.nxt (fun x hx1 hx2 => (far x hx1 (by omega) (by omega)).symm) hrun
    refine ⟨_, run_widen l 1 hr1 (by omega) ?_⟩
    intro q m hq
    have hm := hq.2.2
    by_cases hk0 : k = 0
    · have h76 := hq.first
      rw [far _ (by omega) (by omega) (by omega), hz _ (by omega) (by omega)] at h76
      exact full_nil_first h76
    · obtain ⟨b, hb1, hb2⟩ := hq.sealed (i := 0) (by omega)
      rw [Nat.add_zero] at hb1 hb2
      have hnf := NF (j.sec j.nxt) (hsec _)
      have hall0 : full (st'.cut.1.reads (j.sec j.nxt)) = (frL rs j.nxt).getD 0 [] := by
        rw [cut_reads]
        have := g4 0 (by omega)
        rw [Nat.add_zero] at this
        unfold St.reads
        rw [this]
        exact full_of (frL_getlen (by omega))
      have hwas : full (st.reads (j.sec j.nxt)) = full [] := hz j.nxt (Nat.le_refl _) (by omega)
      have hrd : full ((st'.cut.1.over N F).reads (j.sec j.nxt)) = sealS b := hb1
      rw [hrd, hall0, hwas] at hnf
      have hne1 : sealS b ≠ full [] := fun e => full_nil_first (by rw [← e]; exact seal_first b)
      by_cases hne2 : sealS b = (frL rs j.nxt).getD 0 []
      · have hcn := hq.cnt (by omega)
        rw [hb1, hne2, cnt_fr (by rw [← frL_length rs j.nxt]; omega)] at hcn
        obtain ⟨b', hb1', _⟩ := hq.sealed (i := (frL rs j.nxt).length - 1) (by omega)
        rw [far _ (by omega) (by omega) (by omega), hz _ (by omega) (by omega)] at hb1'
        exact full_nil_first (by rw [hb1']; exact seal_first b')
      · rw [hb1] at hb2
        exact hnf (seal_fgd hne1 hne2 hb2)
end Go.Proofs.Yteckglnfkgfefaa
