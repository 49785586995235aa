/- what stays behind Append -/
import Derived.Test.YtggbaanoagbmdaaP
namespace Go.Proofs.Ytggbaanoagbmdaa
theorem app_err {l : List Ev} {s : ByteArray} {ex : Int} {m : ByteArray} {data : List ByteArray} (h : ¬ (appR l s ex m data).2.2 = 0) : (appR l s ex m data).1 = [] ∧ (appR l s ex m data).2.1 = 0 := by
  unfold appR at h ⊢
  by_cases h1 : goodB l = false
  · rw [if_pos h1]; exact ⟨rfl, rfl⟩
  rw [if_neg h1] at h ⊢
  by_cases h2 : badT s m data = true
  · rw [if_pos h2]; exact ⟨rfl, rfl⟩
  rw [if_neg h2] at h ⊢
  by_cases h3 : 0 < markAt l s m
  · rw [if_pos h3] at h; exact absurd rfl h
  rw [if_neg h3] at h ⊢
  by_cases h4 : 0 ≤ ex ∧ ex ≠ (cntL l s : Nat)
  · rw [if_pos h4]; exact ⟨rfl, rfl⟩
  rw [if_neg h4] at h ⊢
  by_cases h5 : 16384 < l.length + data.length
  · rw [if_pos h5]; exact ⟨rfl, rfl⟩
  rw [if_neg h5] at h
  exact absurd rfl h
/-- the two ways of an Append that is not refused -/
theorem app_ok {l : List Ev} {s : ByteArray} {ex : Int} {m : ByteArray} {data : List ByteArray} (h : (appR l s ex m data).2.2 = 0) : goodB l = true ∧ badT s m data = false ∧ ((0 < markAt l s m ∧ appR l s ex m data = (l, ((cntL l s : Nat) : Int), 0)) ∨
    (¬ 0 < markAt l s m ∧ (ex < 0 ∨ ex = (cntL l s : Nat)) ∧ l.length + data.length ≤ 16384 ∧ appR l s ex m data = (l ++ news l.length (cntL l s) s m data data.length, ((cntL l s + data.length : Nat) : Int), 0))) := by
  unfold appR at h ⊢
  by_cases h1 : goodB l = false
  · rw [if_pos h1] at h; exact absurd h (by decide)
  rw [if_neg h1] at h ⊢
  by_cases h2 : badT s m data = true
  · rw [if_pos h2] at h; exact absurd h (by decide)
  rw [if_neg h2] at h ⊢
  refine ⟨by simpa using h1, by simpa using h2, ?_⟩
  by_cases h3 : 0 < markAt l s m
  · rw [if_pos h3]; exact .inl ⟨h3, rfl⟩
  rw [if_neg h3] at h ⊢
  by_cases h4 : 0 ≤ ex ∧ ex ≠ (cntL l s : Nat)
  · rw [if_pos h4] at h; exact absurd h (by decide)
  rw [if_neg h4] at h ⊢
  by_cases h5 : 16384 < l.length + data.length
  · rw [if_pos h5] at h; exact absurd h (by decide)
  rw [if_neg h5]
  refine .inr ⟨h3, ?_, by omega, rfl⟩
  by_cases h6 : 0 ≤ ex
  · by_cases h7 : ex = (cntL l s : Nat)
    · exact .inr h7
    · exact absurd ⟨h6, h7⟩ h4
  · exact .inl (by omega)
theorem app_good {l : List Ev} {s : ByteArray} {ex : Int} {m : ByteArray} {data : List ByteArray} (h : (appR l s ex m data).2.2 = 0) : goodB (appR l s ex m data).1 = true := by
  obtain ⟨hg, hb, (⟨_, e⟩ | ⟨hm, _, hl, e⟩)⟩ := app_ok h
  · rw [e]; exact hg
  · rw [e]; exact good_app hg hb hm (Nat.le_refl _) hl
/-- done once more with its mark it changes nothing -/
theorem app_again {l : List Ev} {s : ByteArray} {ex : Int} {m : ByteArray} {data : List ByteArray} (h : (appR l s ex m data).2.2 = 0) (hm : m.toList.isEmpty = false) (hd : 0 < data.length) : appR (appR l s ex m data).1 s ex m data = appR l s ex m data := by
  have hg2 := app_good h
  obtain ⟨hg, hb, (⟨hk, e⟩ | ⟨hk, _, hl, e⟩)⟩ := app_ok h
  · rw [e]; exact e
  · rw [e] at hg2 ⊢
    have hpos : 0 < markAt (l ++ news l.length (cntL l s) s m data data.length) s m := by
      refine Classical.byContradiction (fun hc => ?_)
      have h0 := mark_none (s := s) hg2 hm hc
      have hin : newAt l.length (cntL l s) s m data 0 ∈ l ++ news l.length (cntL l s) s m data data.length := List.mem_append_right _ (List.mem_map.2 ⟨0, List.mem_range.2 hd, rfl⟩)
      refine List.filter_eq_nil_iff.1 h0 _ hin ?_
      simp [isM, isOf, hasM, newAt]
    show appR _ s ex m data = _
    unfold appR
    rw [if_neg (by rw [hg2]; simp), if_neg (by rw [hb]; simp), if_pos hpos, cntL_app]
/-- who expects what no more is so is refused -/
theorem app_late {l : List Ev} {s : ByteArray} {ex : Int} {m : ByteArray} {data : List ByteArray} (h : (appR l s ex m data).2.2 = 0) (hx : 0 ≤ ex) (hn : ¬ (appR l s ex m data).1.length = l.length) (d : ByteArray) (hd : longB d = false) : appR (appR l s ex m data).1 s ex b0 [d] = ([], 0, 10) := by
  have hg2 := app_good h
  obtain ⟨hg, hb, (⟨hk, e⟩ | ⟨hk, hex, hl, e⟩)⟩ := app_ok h
  · rw [e] at hn; exact absurd rfl hn
  · rw [e] at hg2 hn ⊢
    simp only [List.length_append, news_len] at hn
    have hb2 : badT s b0 [d] = false := by
      simp only [badT, Bool.or_eq_false_iff] at hb ⊢
      refine ⟨hb.1, ?_, ?_⟩
      · simp only [List.any_cons, List.any_nil, Bool.or_false, any_false_mem hb.2.1 (show s ∈ [s, m] by simp)]
        rfl
      · simp [hd]
    show appR _ s ex b0 [d] = _
    unfold appR
    rw [if_neg (by rw [hg2]; simp), if_neg (by rw [hb2]; simp), if_neg (by rw [mark0]; omega), if_pos ?_]
    rw [cntL_app]
    refine ⟨hx, ?_⟩
    rcases hex with h | h
    · omega
    · rw [h]; omega
/-- what was there, and what stands behind it -/
theorem app_parts {l : List Ev} {s : ByteArray} {ex : Int} {m : ByteArray} {data : List ByteArray} (h : (appR l s ex m data).2.2 = 0) : ∃ n, (n = 0 ∨ n = data.length) ∧ (appR l s ex m data).1 = l ++ news l.length (cntL l s) s m data n ∧ (appR l s ex m data).1.length = l.length + n ∧ l.length ≤ 16384 := by
  obtain ⟨hg, hb, (⟨hk, e⟩ | ⟨hk, hex, hl, e⟩)⟩ := app_ok h
  · exact ⟨0, .inl rfl, by rw [e]; simp [news], by rw [e]; rfl, good_len hg⟩
  · exact ⟨data.length, .inr rfl, by rw [e], by rw [e]; simp [news_len], good_len hg⟩
end Go.Proofs.Ytggbaanoagbmdaa
