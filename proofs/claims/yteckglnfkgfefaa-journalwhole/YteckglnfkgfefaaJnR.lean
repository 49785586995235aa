/- reader.record: a record off the front of a reader -/
import Derived.Test.YteckglnfkgfefaaJnQ
namespace Go.Proofs.Yteckglnfkgfefaa
open Go.RowKit Cod
set_option maxRecDepth 40000
theorem Rd.front {w : World} {g : Nat} {a : Option Addr} {len cap : Nat} {l : List Nat} (h : Rd w g a len cap l) (n : Nat) (hn : n ≤ len) : IsB w a n cap (l.take n) := by
  rcases h.pos with ⟨rfl, rfl, rfl⟩ | ⟨b, off, rfl, _⟩
  · obtain rfl : n = 0 := by omega
    have h0 : l = [] := List.length_eq_zero_iff.1 h.isb.1
    subst h0
    exact h.isb
  · exact h.isb.front n hn
theorem Rd.cutNil {w : World} {g : Nat} {l : List Nat} (h : Rd w g none 0 0 l) : Rd (w.setCell ⟨g, 0, none⟩ (.slice none 0 0)) g none 0 0 l := by
  have hb : w.grownBy (w.setCell ⟨g, 0, none⟩ (.slice none 0 0)) (some g) := grown_set (World.grownBy.refl _ _) _
  refine ⟨World.cell?_setCell_same w ⟨g, 0, none⟩ _ h.c0, ?_, h.isb.kept hb h.ne, h.pos⟩
  have := h.fr; simpa using this
/-- what reader.record answers -/
def RrecPost (w : World) (g len : Nat) (l : List Nat) (e : Ending) (w' : World) : Prop :=
  ((∃ x r a' len' cap', rdR l = some (x, r) ∧ len' ≤ len ∧ e = .returned (.tuple #[.string x, .bool true]) ∧ Rd w' g a' len' cap' r) ∨ (rdR l = none ∧ e = .returned (.tuple #[.string { data := #[] }, .bool false]))) ∧ w.grownBy w' (some g)
theorem RrecPost.ok {w w' : World} {g len : Nat} {l : List Nat} {n : Nat} {r1 r : List Nat} {a' : Option Addr} {len' cap' : Nat} (h1 : rdNum l = some (n, r1)) (h2 : n ≤ 4096 ∧ n ≤ r1.length) (hr : r = r1.drop n) (h3 : len' ≤ len) (h4 : Rd w' g a' len' cap' r) (h5 : w.grownBy w' (some g)) : RrecPost w g len l (.returned (.tuple #[.string (str (r1.take n)), .bool true])) w' :=
  ⟨.inl ⟨_, r, a', len', cap', by rw [rdR_num h1, if_pos h2, hr], h3, rfl, h4⟩, h5⟩
theorem RrecPost.no {w w' : World} {g len : Nat} {l : List Nat} (h1 : rdR l = none) (h5 : w.grownBy w' (some g)) : RrecPost w g len l (.returned (.tuple #[.string { data := #[] }, .bool false])) w' :=
  ⟨.inr ⟨h1, rfl⟩, h5⟩
theorem rrec_any (w : World) (g : Nat) (a : Option Addr) (len cap : Nat) (l : List Nat) (h : Rd w g a len cap l) (hr : len ≤ 140737488355328) :
    Calls Try.prog 67 #[.pointer (some ⟨g, 0, none⟩)] w (RrecPost w g len l) := by
  have HR := hide (rnum_any w g a len cap 4096 l h hr)
  have HXs := hide h.isb.2.2.2.1
  clear h
  go_enter Try.func67, Try.ntmps67
  go_wp2_with fail
  refine HR.out.mono ?_
  clear HR
  rintro e w2 ⟨⟨n, p, a', ⟨hn, hpl⟩, hn4, hp, rfl, hx⟩ | ⟨hno, rfl, hx⟩, hg⟩
  · have HN : Hid (rdNum l = some (n, l.drop p)) := hide (rdNum_ahead hpl hn)
    clear hn hpl
    have hl1 := hx.isb.1
    have hmax := hx.isb.2.2.1
    unfold maxLen at hmax
    have hc2 := hx.c0
    have hf2 := hx.fr
    have hw : IntKind.u64.wrap ((len - p : Nat) : Int) = (len - p : Nat) := by rw [IntKind.wrap_u64]; omega
    have HL : Hid (len - p ≤ len) := hide (by omega)
    have HG := hide hg
    generalize len - p = L at *
    generalize cap - p = C at *
    have HX := hide hx
    clear hx hg
    by_cases hnL : L < n
    · have d1 : decide ((L : Int) < (n : Int)) = true := by simpa using hnL
      go_wp2_with fail
      go_ret2
      exact RrecPost.no (by rw [rdR_num HN.out, if_neg (by omega)]) HG.out
    · have d1 : decide ((L : Int) < (n : Int)) = false := by simpa using hnL
      have hcv := conv_str (HX.out.front n (by omega))
      rcases HX.out.pos with ⟨rfl, rfl, rfl⟩ | ⟨b, off, rfl, hne⟩
      · obtain rfl : n = 0 := by omega
        go_wp2_with fail
        go_ret2
        exact RrecPost.ok HN.out ⟨by omega, by omega⟩ rfl HL.out (by rw [List.drop_zero]; exact HX.out.cutNil) (grown_set HG.out _)
      · have HC := hide (HX.out.cut n (by omega))
        have HE : Hid (C = n → Rd (w2.setCell ⟨g, 0, none⟩ (.slice (some ⟨b, off, none⟩) (L - n) (C - n))) g (some ⟨b, off, none⟩) (L - n) (C - n) ((l.drop p).drop n)) := hide (fun e => HX.out.cutEnd n (by omega) e)
        have hnC : n ≤ C := by have := HX.out.isb.2.1; omega
        go_wp2_with fail
        · go_ret2
          exact RrecPost.ok (len' := L - n) HN.out ⟨by omega, by omega⟩ rfl (by have := HL.out; omega) (by have hc : C = n := (by omega); have := HE.out hc; simp only [hc, Nat.sub_self] at this; exact this) (grown_set HG.out _)
        · go_ret2
          exact RrecPost.ok (len' := L - n) HN.out ⟨by omega, by omega⟩ rfl (by have := HL.out; omega) HC.out (grown_set HG.out _)
  · have HG := hide hg
    have HN : Hid (rdR l = none) := hide (by
      rcases hno with hno | ⟨n, p, ⟨hn, hpl⟩, h4⟩
      · exact rdR_none (rdNum_none HXs.out hno)
      · rw [rdR_num (rdNum_ahead hpl hn), if_neg (by omega)])
    clear hx hg hno
    go_wp2_with fail
    go_ret2
    exact RrecPost.no HN.out HG.out
end Go.Proofs.Yteckglnfkgfefaa
