/- a transaction that is alone -/
import Derived.Test.YtlkmcbelmldleaaGreatTz
import Derived.Test.YtlkmcbelmldleaaGreatCx6
import Derived.Test.YtlkmcbelmldleaaGreatVYb
namespace Go.Proofs.YtlkmcbelmldleaaGreat
open Go.RowKit
set_option maxRecDepth 40000
/-- the versions that New makes -/
def vsN (l : List Pr) : List Vr := putL 1 [] (l.map wtOf)
theorem rise_srt {l : List Pr} (h : riseB l = true) : SrtW (l.map wtOf) := by
  unfold SrtW
  rw [List.pairwise_map, List.pairwise_iff_getElem]
  have hadj : ∀ i (hi : i + 1 < l.length), Op.bytesLess (l[i]'(by omega)).key.toList (l[i + 1]).key.toList = true := by
    intro i hi
    have := List.all_eq_true.1 h (i + 1) (List.mem_range.2 hi)
    unfold riseAt at this
    rw [List.getD_eq_getElem?_getD, List.getD_eq_getElem?_getD, Nat.add_sub_cancel, List.getElem?_eq_getElem (by omega), List.getElem?_eq_getElem hi] at this
    simpa using this
  intro i j hi hj hij
  obtain ⟨d, rfl⟩ : ∃ d, j = i + d + 1 := ⟨j - i - 1, by omega⟩
  clear hij
  induction d with
  | zero => exact hadj i hj
  | succ d ih => exact less_trans _ _ _ (ih (by omega)) (hadj (i + d + 1) (by omega))
theorem srt_twice {ws : List Wt} (h : SrtW ws) : twiceB ws = false := by
  unfold twiceB
  have : (ws.map (fun x => x.key.toList)).Nodup := by
    rw [List.Nodup, List.pairwise_map]
    exact h.imp (fun hlt e => by rw [e, less_irrefl] at hlt; cases hlt)
  simp [this]
theorem new_ref {l : List Pr} (h : newE l = 0) : refE 1 [] (l.map wtOf) 1 = 0 := by
  unfold newE at h
  split at h
  · next h1 =>
    rcases h1 with h1 | h1 <;> rw [h1] at h <;> cases h
  · next h1 =>
    split at h
    · next hr =>
      have e : ∀ r, refE 1 [] (l.map wtOf) 1 = r → ¬ r = 0 → (putR 1 [] (l.map wtOf) 1).2.2 = r := fun r hr h0 => by
        unfold putR; rw [if_neg (by rw [hr]; exact h0)]; exact hr
      have ht := srt_twice (rise_srt hr)
      by_cases h2 : 4096 < (l.map wtOf).length
      · exact absurd (.inl (e 3 (by unfold refE; rw [if_pos (by simp [goodB]), if_pos h2]) (by decide))) h1
      · cases h3 : (l.map wtOf).any longB
        · unfold refE
          rw [if_pos (by simp [goodB]), if_neg h2, h3, ht]
          simp [timeB]
          simpa using h2
        · exact absurd (.inr (e 4 (by unfold refE; rw [if_pos (by simp [goodB]), if_neg h2, h3]; simp) (by decide))) h1
    · cases h
theorem new_M {l : List Pr} (h : newE l = 0) : newM l = ⟨1, vsN l, 1, 0, []⟩ := by
  unfold newM putR
  rw [if_pos (new_ref h)]
  rfl
theorem vsN_perm {l : List Pr} (h : newE l = 0) : (vsN l).Perm ((l.map wtOf).map (vOf 1)) := by
  obtain ⟨h1, _, _, h4, _, _, h7, _⟩ := ref_zero (new_ref h)
  have := (putL_good 1 (l.map wtOf) [] List.Pairwise.nil (fun y hy => by cases hy) (by unfold twiceB at h4; simpa using h4)).2
  rw [List.nil_append] at this
  exact this
theorem vsN_at {l : List Pr} (h : newE l = 0) : ∀ x ∈ vsN l, x.at_ = 1 := by
  intro x hx
  obtain ⟨y, _, rfl⟩ := List.mem_map.1 ((vsN_perm h).mem_iff.1 hx)
  rfl
theorem vsN_len {l : List Pr} (h : newE l = 0) : (vsN l).length = l.length := by
  rw [(vsN_perm h).length_eq]; simp
theorem vsN_good {l : List Pr} (h : newE l = 0) : goodB 1 (vsN l) = true := put_good (new_ref h)
/-- the manager of one that is alone -/
def aM (vs : List Vr) (tr : Tr) : Mg := ⟨1, vs, 1, 1, [(1, tr)]⟩
theorem begin_alone (vs : List Vr) : mBegin ⟨1, vs, 1, 0, []⟩ = (aM vs ⟨1, [], []⟩, 1, 0) := rfl
def rdT (tr : Tr) (k : ByteArray) : Tr := if gotE tr k = 0 then tr.read (k, k ++ ⟨#[0]⟩) else tr
def rdV (vs : List Vr) (tr : Tr) (k : ByteArray) : ByteArray × Bool × Int := if gotE tr k = 0 then gotV (aM vs tr) tr k else (⟨#[]⟩, false, gotE tr k)
theorem get_alone (vs : List Vr) (tr : Tr) (k : ByteArray) : mGet (aM vs tr) 1 k = (aM vs (rdT tr k), rdV vs tr k) := rfl
theorem write_alone (vs : List Vr) (tr : Tr) (x : Wt) : mWrite (aM vs tr) 1 x = (aM vs (wroteTr tr x), wrote tr x) := rfl
theorem rdT_ws (tr : Tr) (k : ByteArray) : (rdT tr k).ws = tr.ws ∧ (rdT tr k).began = tr.began ∧ tr.reads.length ≤ (rdT tr k).reads.length ∧ (rdT tr k).reads.length ≤ tr.reads.length + 1 := by
  unfold rdT
  split <;> simp [Tr.read]
theorem gotE_lt {tr : Tr} {k : ByteArray} (h : tr.reads.length < 256) : gotE tr k = if 256 < k.size then 4 else 0 := by
  unfold gotE
  split
  · rfl
  · rw [if_neg (by omega)]
/-- what is got is got again -/
theorem rdV_again (vs : List Vr) {tr tr' : Tr} (k : ByteArray) (hw : tr'.ws = tr.ws) (hb : tr'.began = tr.began) (h : tr.reads.length < 256) (h' : tr'.reads.length < 256) : rdV vs tr' k = rdV vs tr k := by
  unfold rdV
  rw [gotE_lt h, gotE_lt h']
  have : gotV (aM vs tr') tr' k = gotV (aM vs tr) tr k := by
    unfold gotV
    rw [hw, hb]
    rfl
  rw [this]
theorem find_putW (l : List Wt) (x : Wt) : (putW l x).find? (fun y => y.key.toList == x.key.toList) = some x := by
  cases hq : (putW l x).find? (fun y => y.key.toList == x.key.toList) with
  | none =>
    have := List.find?_eq_none.1 hq x (mem_putW.2 (.inl rfl))
    simp at this
  | some y =>
    have h1 := List.find?_some hq
    have h2 := mem_putW.1 (List.mem_of_find?_eq_some hq)
    rcases h2 with h2 | ⟨_, h2⟩
    · rw [h2]
    · exact absurd (by simpa using h1) h2
/-- what was written is got -/
theorem rdV_wrote (vs : List Vr) {tr : Tr} {x : Wt} (h0 : wrote tr x = 0) (hr : tr.reads.length < 256) : rdV vs (wroteTr tr x) x.key = (x.val, !x.gone, 0) := by
  have e : wroteTr tr x = { tr with ws := putW tr.ws x } := if_pos h0
  have hk : ¬ 256 < x.key.size := fun hk => by
    unfold wrote at h0
    rw [if_pos (.inl hk)] at h0
    cases h0
  have hg : gotE (wroteTr tr x) x.key = 0 := by rw [e, gotE_lt (by exact hr), if_neg hk]
  unfold rdV
  rw [if_pos hg, e]
  unfold gotV
  simp only [find_putW]
theorem wroteTr_same (tr : Tr) (x : Wt) : (wroteTr tr x).began = tr.began ∧ (wroteTr tr x).reads = tr.reads := by
  unfold wroteTr
  split <;> exact ⟨rfl, rfl⟩
/-- one that is alone commits, or there are too many versions -/
theorem commit_alone {l : List Pr} (h : newE l = 0) {tr : Tr} (hb : tr.began = 1) (hs : SrtW tr.ws) (hl : tr.ws.length ≤ 256) (hlong : tr.ws.any longB = false) : (mCommit (aM (vsN l) tr) 1).2.2.2 = 0 ∨ ((mCommit (aM (vsN l) tr) 1).2.2.2 = 3 ∧ 3840 < l.length) := by
  have e : (mCommit (aM (vsN l) tr) 1).2.2.2 = comE (aM (vsN l) tr) tr := rfl
  have hc : conflB (vsN l) tr = false := by
    unfold conflB
    rw [List.any_eq_false]
    intro x hx
    unfold hitB
    rw [vsN_at h x hx, hb]
    simp
  rw [e]
  unfold comE
  have hc' : conflB (aM (vsN l) tr).vs tr = false := hc
  rw [hc']
  simp only [Bool.false_eq_true, if_false]
  by_cases hw : tr.ws = []
  · rw [if_pos hw]; exact .inl rfl
  · rw [if_neg hw]
    have hlate : (vsN l).any (lateB 2) = false := by
      rw [List.any_eq_false]
      intro x hx
      unfold lateB
      rw [vsN_at h x hx]
      simp
    have hr : refE 1 (vsN l) tr.ws 2 = if 4096 < (vsN l).length + tr.ws.length then 3 else 0 := by
      unfold refE
      rw [if_pos (vsN_good h), if_neg (by omega), hlong, srt_twice hs]
      simp [timeB, hlate]
    show (putR 1 (vsN l) tr.ws 2).2.2 = 0 ∨ ((putR 1 (vsN l) tr.ws 2).2.2 = 3 ∧ 3840 < l.length)
    rw [vsN_len h] at hr
    by_cases hq : 4096 < l.length + tr.ws.length
    · rw [if_pos hq] at hr
      refine .inr ⟨?_, by omega⟩
      unfold putR
      rw [if_neg (by rw [hr]; decide), hr]
    · rw [if_neg hq] at hr
      refine .inl ?_
      unfold putR
      rw [if_pos hr]
theorem wrote_long {tr : Tr} {x : Wt} (h : tr.ws.any longB = false) : (wroteTr tr x).ws.any longB = false := by
  unfold wroteTr
  split
  · next h0 =>
    show (putW tr.ws x).any longB = false
    rw [List.any_eq_false]
    intro y hy
    rcases mem_putW.1 hy with rfl | ⟨hy, _⟩
    · unfold wrote at h0
      split at h0
      · cases h0
      · next hn =>
        unfold longB
        simp at hn ⊢
        omega
    · exact List.any_eq_false.1 h y hy
  · exact h
theorem wrote_srt {tr : Tr} {x : Wt} (h : SrtW tr.ws) : SrtW (wroteTr tr x).ws := by
  unfold wroteTr
  split
  · exact putW_srt h x
  · exact h
end Go.Proofs.YtlkmcbelmldleaaGreat
