/- a number read off ten bytes, a record read off a text (pure) -/
import Derived.Test.YteckglnfkgfefaaCdC
namespace Go.Proofs.Yteckglnfkgfefaa
open Go.RowKit Cod
set_option maxRecDepth 40000
/-- a number, read off ten bytes at most -/
theorem rd_take : ∀ (l : List Nat) (i acc m : Nat) (r : List Nat), i ≤ 10 → rd i acc (l.take (10 - i)) = some (m, r) → rd i acc l = some (m, r ++ l.drop (10 - i)) := by
  intro l
  induction l with
  | nil => intro i acc m r _ h; rw [List.take_nil, rd_nil] at h; cases h
  | cons x t ih =>
    intro i acc m r hi h
    by_cases h10 : i = 10
    · subst h10
      rw [Nat.sub_self, List.take_zero, rd_nil] at h
      cases h
    · rw [show 10 - i = (10 - (i + 1)) + 1 by omega, List.take_succ_cons] at h
      rw [show 10 - i = (10 - (i + 1)) + 1 by omega, List.drop_succ_cons]
      rw [rd] at h ⊢
      by_cases g1 : 10 ≤ i
      · omega
      · rw [if_neg g1] at h ⊢
        by_cases g2 : i = 9 ∧ 1 < x % 128
        · rw [if_pos g2] at h; cases h
        · rw [if_neg g2] at h ⊢
          by_cases g3 : x < 128
          · rw [if_pos g3] at h ⊢
            by_cases g4 : x = 0 ∧ 0 < i
            · rw [if_pos g4] at h; cases h
            · rw [if_neg g4] at h ⊢
              cases h
              rw [List.take_append_drop]
          · rw [if_neg g3] at h ⊢
            exact ih _ _ _ _ (by omega) h
theorem rdNum_take {l r : List Nat} {m : Nat} (h : rdNum (l.take 10) = some (m, r)) : rdNum l = some (m, r ++ l.drop 10) := rd_take l 0 0 m r (by omega) h
/-- ten bytes tell of a number all that there is to tell -/
theorem rdNum_ahead {l : List Nat} {n p : Nat} (hp : p ≤ (l.take 10).length) (h : rdNum (l.take 10) = some (n, (l.take 10).drop p)) : rdNum l = some (n, l.drop p) := by
  rw [rdNum_take h, ← List.drop_append_of_le_length hp, List.take_append_drop]
theorem rdNum_none {l : List Nat} (hx : ∀ x ∈ l, x < 256) (h : rdNum (l.take 10) = none) : rdNum l = none := by
  cases e : rdNum l with
  | none => rfl
  | some nr =>
    obtain ⟨n, r⟩ := nr
    obtain ⟨e1, e2⟩ := rdNum_some hx e
    have h10 := num_len10 e2
    rw [e1, List.take_append, List.take_of_length_le h10, rdNum_num e2] at h
    cases h
/-- one record, read -/
def rdR (l : List Nat) : Option (ByteArray × List Nat) :=
  match rdNum l with
  | some (n, r) => if n ≤ 4096 ∧ n ≤ r.length then some (str (r.take n), r.drop n) else none
  | none => none
theorem rdR_num {l r : List Nat} {n : Nat} (h : rdNum l = some (n, r)) : rdR l = if n ≤ 4096 ∧ n ≤ r.length then some (str (r.take n), r.drop n) else none := by
  rw [rdR, h]
theorem rdR_none {l : List Nat} (h : rdNum l = none) : rdR l = none := by rw [rdR, h]
theorem rdR_ok {l r : List Nat} {x : ByteArray} (hx : ∀ y ∈ l, y < 256) (h : rdR l = some (x, r)) : l = num x.size ++ bl x ++ r ∧ x.size ≤ 4096 := by
  cases e : rdNum l with
  | none => rw [rdR_none e] at h; cases h
  | some nr =>
    obtain ⟨n, t⟩ := nr
    obtain ⟨e1, _⟩ := rdNum_some hx e
    rw [rdR_num e] at h
    by_cases g : n ≤ 4096 ∧ n ≤ t.length
    · rw [if_pos g] at h
      obtain ⟨rfl, rfl⟩ := Prod.mk.inj (Option.some.inj h)
      have hb : bl (str (t.take n)) = t.take n := bl_str (fun y hy => hx y (by rw [e1]; exact List.mem_append_right _ (List.mem_of_mem_take hy)))
      have hs : (str (t.take n)).size = n := by rw [← bl_length, hb, List.length_take]; omega
      rw [hs, hb, List.append_assoc, List.take_append_drop]
      exact ⟨e1, g.1⟩
    · rw [if_neg g] at h; cases h
theorem rdR_rec {x : ByteArray} (hx : x.size ≤ 4096) (r : List Nat) : rdR (num x.size ++ bl x ++ r) = some (x, r) := by
  rw [List.append_assoc, rdR_num (rdNum_num (by omega) _), if_pos ⟨hx, by rw [List.length_append, bl_length]; omega⟩, List.take_left' (bl_length x), List.drop_left' (bl_length x), str_bl]
end Go.Proofs.Yteckglnfkgfefaa
