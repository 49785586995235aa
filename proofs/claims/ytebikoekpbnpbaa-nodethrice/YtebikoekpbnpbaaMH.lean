/- three pages put together (pure) -/
import Derived.Test.YtebikoekpbnpbaaMG
namespace Go.Proofs.Ytebikoekpbnpbaa
open Go.RowKit Cod
set_option linter.unusedVariables false
set_option linter.unusedSimpArgs false
structure Thirds (p a b c : Pg) (k l : List Nat) (x : Pg) : Prop where
  ca : checkE a = 0
  cb : checkE b = 0
  cc : checkE c = 0
  cx : checkE x = 0
  la : a.leaf = p.leaf
  lb : b.leaf = p.leaf
  lc : c.leaf = p.leaf
  lx : x.leaf = p.leaf
  kl : k.length ≤ 256
  ll : l.length ≤ 256
  m1 : mergeP a k b = x
  m2 : mergeP x l c = p
  has : p.leaf = true → ∀ key, hasK p.keys key = (hasK a.keys key || hasK b.keys key || hasK c.keys key)
theorem rest_part {p : Pg} (hp : checkE p = 0) {f g t : Nat} (h1 : f + t ≤ p.keys.length) : partP (partP p f p.keys.length) g t = partP p (f + g) (f + t) := part_part hp h1
theorem thirds {p : Pg} {m m2 : Nat} (hp : checkE p = 0) (hs : SplitAt p m) (hs2 : SplitAt (partP p (m + offP p) p.keys.length) m2) :
    Thirds p (partP p 0 m) (partP (partP p (m + offP p) p.keys.length) 0 m2) (partP (partP p (m + offP p) p.keys.length) (m2 + offP (partP p (m + offP p) p.keys.length)) (partP p (m + offP p) p.keys.length).keys.length) (p.keys.getD m []) ((partP p (m + offP p) p.keys.length).keys.getD m2 []) (partP p 0 (m + offP p + m2)) := by
  obtain ⟨h1, h2⟩ := hs
  obtain ⟨h3, h4⟩ := hs2
  rw [part_off] at h4 ⊢
  have hl : (partP p (m + offP p) p.keys.length).keys.length = p.keys.length - (m + offP p) := part_len (Nat.le_refl _)
  rw [hl] at h4 ⊢
  have e1 : partP (partP p (m + offP p) p.keys.length) 0 m2 = partP p (m + offP p) (m + offP p + m2) := by rw [part_part hp (by omega), Nat.add_zero]
  have e2 : partP (partP p (m + offP p) p.keys.length) (m2 + offP p) (p.keys.length - (m + offP p)) = partP p (m + offP p + m2 + offP p) p.keys.length := by
    rw [part_part hp (by omega)]
    congr 1
    all_goals omega
  have e3 : (partP p (m + offP p) p.keys.length).keys.getD m2 [] = p.keys.getD (m + offP p + m2) [] := part_key (by omega)
  rw [e1, e2, e3]
  have hsr := check_srt hp
  have i1 := part_check hp (f := 0) (t := m) (by omega) (by omega)
  have i2 := part_check hp (f := m + offP p) (t := m + offP p + m2) (by omega) (by omega)
  have i3 := part_check hp (f := m + offP p + m2 + offP p) (t := p.keys.length) (by omega) (by omega)
  refine ⟨i1, i2, i3, part_check hp (by omega) (by omega), part_leaf .., part_leaf .., part_leaf .., part_leaf .., key_short hp (by omega), key_short hp (by omega), ?_, ?_, fun hlf key => ?_⟩
  · exact part_merge hp (by omega) (by omega) (by omega)
  · rw [part_merge hp (by omega) (by omega) (Nat.le_refl _), part_all hp]
  · have e0 : offP p = 0 := by unfold offP; rw [if_pos hlf]
    rw [Bool.eq_iff_iff, Bool.or_eq_true, Bool.or_eq_true, has_iff hsr, has_iff (check_srt i1), has_iff (check_srt i2), has_iff (check_srt i3), part_keys, part_keys, part_keys, e0]
    simp only [Nat.add_zero] at h2 h4 ⊢
    rw [e0] at h2 h4
    rw [← List.mem_append, ← List.mem_append, subL_app _ _ _ _ (by omega) (by omega) (by omega), subL_app _ _ _ _ (by omega) (by omega) (Nat.le_refl _), subL_all]
end Go.Proofs.Ytebikoekpbnpbaa
