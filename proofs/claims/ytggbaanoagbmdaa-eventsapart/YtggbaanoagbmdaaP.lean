/- EventsParts -/
import Derived.Test.YtggbaanoagbmdaaN
import Derived.Test.YtggbaanoagbmdaaM
import Derived.Test.YtggbaanoagbmdaaL
namespace Go.Proofs.Ytggbaanoagbmdaa
open Go.RowKit
theorem b0_nil : b0.toList = [] := by rw [ByteArray.toList_eq]
theorem mark0 (l : List Ev) (s : ByteArray) : markAt l s b0 = 0 := by unfold markAt; rw [if_pos b0_nil]
theorem app0 (l : List Ev) (s : ByteArray) (data : List ByteArray) : appR l s (-1) b0 data = if goodB l = false then ([], 0, 2) else if badT s b0 data = true then ([], 0, 4) else if 16384 < l.length + data.length then ([], 0, 3) else (l ++ news l.length (cntL l s) s b0 data data.length, ((cntL l s + data.length : Nat) : Int), 0) := by
  unfold appR
  rw [mark0]
  simp
theorem bad_take {s m : ByteArray} {data d' : List ByteArray} (hsub : ∀ x ∈ d', x ∈ data) (h : badT s m data = false) : badT s m d' = false := by
  simp only [badT, Bool.or_eq_false_iff] at h ⊢
  exact ⟨h.1, h.2.1, List.any_eq_false.2 (fun x hx => by rw [any_false_mem h.2.2 (hsub x hx)]; simp)⟩
theorem parts1 {l : List Ev} {s : ByteArray} {data : List ByteArray} (k : Nat) (h : ¬ (appR l s (-1) b0 (data.take k)).2.2 = 0) : ¬ (appR l s (-1) b0 data).2.2 = 0 := by
  rw [app0] at h ⊢
  by_cases h1 : goodB l = false
  · rw [if_pos h1]; decide
  · rw [if_neg h1] at h ⊢
    by_cases h2 : badT s b0 data = true
    · rw [if_pos h2]; decide
    · rw [if_neg h2]
      rw [if_neg (by rw [bad_take (fun x hx => List.mem_of_mem_take hx) (by simpa using h2)]; simp)] at h
      by_cases h3 : 16384 < l.length + data.length
      · rw [if_pos h3]; decide
      · rw [if_neg (by rw [List.length_take]; omega)] at h
        exact absurd rfl h
theorem news_parts (g n : Nat) (s : ByteArray) (data : List ByteArray) (k : Nat) (hk : k ≤ data.length) : news g n s b0 data data.length = news g n s b0 (data.take k) k ++ news (g + k) (n + k) s b0 (data.drop k) (data.length - k) := by
  have e : data.length = k + (data.length - k) := by omega
  unfold news
  rw [e, List.range_add, List.map_append, ← e, List.map_map]
  congr 1
  · apply List.map_congr_left
    intro i hi
    have := List.mem_range.1 hi
    simp only [newAt, List.getD_eq_getElem?_getD, List.getElem?_take, if_pos this]
  · apply List.map_congr_left
    intro i _
    simp only [newAt, Function.comp, List.getD_eq_getElem?_getD, List.getElem?_drop, ite_self]
    congr 1 <;> omega
theorem parts2 {l : List Ev} {s : ByteArray} {data : List ByteArray} {k : Nat} (hk : k ≤ data.length) (h : (appR l s (-1) b0 data).2.2 = 0) : appR (appR l s (-1) b0 (data.take k)).1 s (-1) b0 (data.drop k) = appR l s (-1) b0 data := by
  rw [app0 l s data] at h ⊢
  by_cases h1 : goodB l = false
  · rw [if_pos h1] at h; exact absurd h (by decide)
  rw [if_neg h1] at h ⊢
  by_cases h2 : badT s b0 data = true
  · rw [if_pos h2] at h; exact absurd h (by decide)
  rw [if_neg h2] at h ⊢
  by_cases h3 : 16384 < l.length + data.length
  · rw [if_pos h3] at h; exact absurd h (by decide)
  rw [if_neg h3]
  have hg : goodB l = true := by simpa using h1
  have hb : badT s b0 data = false := by simpa using h2
  have hb1 := bad_take (d' := data.take k) (fun x hx => List.mem_of_mem_take hx) hb
  have hb2 := bad_take (d' := data.drop k) (fun x hx => List.mem_of_mem_drop hx) hb
  have hlt : (data.take k).length = k := by rw [List.length_take]; omega
  rw [app0 l s (data.take k), if_neg h1, if_neg (by rw [hb1]; simp), if_neg (by rw [hlt]; omega), hlt]
  have hgood := good_app (k := k) hg hb1 (by rw [mark0]; omega) (by rw [hlt]; exact Nat.le_refl _) (by omega)
  rw [app0, if_neg (by rw [hgood]; simp), if_neg (by rw [hb2]; simp), if_neg (by simp only [List.length_append, news_len, List.length_drop]; omega)]
  have hl2 : (l ++ news l.length (cntL l s) s b0 (data.take k) k).length = l.length + k := by rw [List.length_append, news_len]
  rw [hl2, cntL_app, List.length_drop, List.append_assoc, ← news_parts _ _ _ _ _ hk]
  congr 2
  omega
end Go.Proofs.Ytggbaanoagbmdaa
