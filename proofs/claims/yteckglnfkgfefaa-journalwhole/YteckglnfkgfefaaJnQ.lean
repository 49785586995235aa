/- reader.num: a number off the front of a reader -/
import Derived.Test.YteckglnfkgfefaaJnL
namespace Go.Proofs.Yteckglnfkgfefaa
open Go.RowKit Cod
set_option maxRecDepth 40000
/-- a reader at block g, with l ahead -/
structure Rd (w : World) (g : Nat) (a : Option Addr) (len cap : Nat) (l : List Nat) : Prop where
  c0 : w.cell? ⟨g, 0, none⟩ = some (.slice a len cap)
  fr : w.frozen? ⟨g, 0, none⟩ = false
  isb : IsB w a len cap l
  pos : (a = none ∧ len = 0 ∧ cap = 0) ∨ ∃ b off, a = some ⟨b, off, none⟩ ∧ b < g
theorem Rd.lt {w : World} {g : Nat} {a : Option Addr} {len cap : Nat} {l : List Nat} (h : Rd w g a len cap l) : g < w.heap.size := block_lt_of_cell h.c0
theorem Rd.ne {w : World} {g : Nat} {a : Option Addr} {len cap : Nat} {l : List Nat} (h : Rd w g a len cap l) : ∀ b off, a = some ⟨b, off, none⟩ → 0 < len → b ≠ g := by
  intro b off hb hl
  rcases h.pos with ⟨h1, h2, _⟩ | ⟨b', off', h1, h2⟩
  · omega
  · rw [h1] at hb; cases hb; omega
theorem Rd.kept {w w' : World} {g : Nat} {a : Option Addr} {len cap : Nat} {l : List Nat} (h : Rd w g a len cap l) (hb : Below w.heap.size w w') : Rd w' g a len cap l :=
  ⟨(hb.cell (p := ⟨g, 0, none⟩) h.lt).trans h.c0, (World.frozen?_of_block (hb.block g h.lt)).trans h.fr, h.isb.below hb, h.pos⟩
theorem Rd.grown {w w' : World} {g : Nat} {a : Option Addr} {len cap : Nat} {l : List Nat} {r : Option Nat} (h : Rd w g a len cap l) (hg : w.grownBy w' r) (hr : ∀ k, r = some k → g < k) : Rd w' g a len cap l := by
  have hne : r ≠ some g := fun e => by have := hr g e; omega
  refine ⟨hg.cell h.c0 (fun e => hne e.symm), (World.frozen?_of_block (hg.block g h.lt (fun e => hne e.symm))).trans h.fr, h.isb.keptBy hg (fun k hk b off hb _ => ?_), h.pos⟩
  rcases h.pos with ⟨h1, _⟩ | ⟨b', off', h1, h2⟩
  · rw [h1] at hb; cases hb
  · rw [h1] at hb; cases hb
    have := hr k hk
    omega
theorem Rd.cut {w : World} {g b off len cap : Nat} {l : List Nat} (h : Rd w g (some ⟨b, off, none⟩) len cap l) (n : Nat) (hn : n ≤ len) : Rd (w.setCell ⟨g, 0, none⟩ (.slice (some ⟨b, off + n, none⟩) (len - n) (cap - n))) g (some ⟨b, off + n, none⟩) (len - n) (cap - n) (l.drop n) := by
  have hb : w.grownBy (w.setCell ⟨g, 0, none⟩ (.slice (some ⟨b, off + n, none⟩) (len - n) (cap - n))) (some g) := grown_set (World.grownBy.refl _ _) _
  have hne : b < g := by
    rcases h.pos with ⟨h1, _⟩ | ⟨b', off', h1, h2⟩
    · cases h1
    · cases h1; exact h2
  refine ⟨World.cell?_setCell_same w ⟨g, 0, none⟩ _ h.c0, ?_, (h.isb.back n hn).kept hb ?_, .inr ⟨b, off + n, rfl, hne⟩⟩
  · have := h.fr; simpa using this
  · intro b2 off2 e _; cases e; omega
theorem Rd.cutEnd {w : World} {g b off len cap : Nat} {l : List Nat} (h : Rd w g (some ⟨b, off, none⟩) len cap l) (n : Nat) (hn : n ≤ len) (hc : cap = n) : Rd (w.setCell ⟨g, 0, none⟩ (.slice (some ⟨b, off, none⟩) (len - n) (cap - n))) g (some ⟨b, off, none⟩) (len - n) (cap - n) (l.drop n) := by
  obtain ⟨h1, h2, h3, h4, _⟩ := h.isb
  refine ⟨World.cell?_setCell_same w ⟨g, 0, none⟩ _ h.c0, ?_, ⟨by rw [List.length_drop, h1], by omega, by omega, fun x hx => h4 x (List.mem_of_mem_drop hx), .inl ⟨by omega, by simp⟩⟩, h.pos.imp (fun h => by cases h.1) id⟩
  have := h.fr; simpa using this
theorem Rd.drewN {w : World} {g : Nat} {a : Option Addr} {len cap : Nat} {l : List Nat} (h : Rd w g a len cap l) (n : Nat) : Rd (w.drewN n) g a len cap l :=
  ⟨h.c0, h.fr, h.isb.kept (g := g) (grown_drewN (World.grownBy.refl _ _) n) h.ne, h.pos⟩
/-- what reader.num answers -/
def RnumPost (w : World) (g : Nat) (a : Option Addr) (len cap most : Nat) (l : List Nat) (e : Ending) (w' : World) : Prop :=
  ((∃ n p a', (rdNum (l.take 10) = some (n, (l.take 10).drop p) ∧ p ≤ (l.take 10).length) ∧ n ≤ most ∧ p ≤ len ∧ e = .returned (.tuple #[.int .u64 (n : Nat), .bool true]) ∧ Rd w' g a' (len - p) (cap - p) (l.drop p)) ∨
    ((rdNum (l.take 10) = none ∨ ∃ n p, (rdNum (l.take 10) = some (n, (l.take 10).drop p) ∧ p ≤ (l.take 10).length) ∧ most < n) ∧ e = .returned (.tuple #[.int .u64 0, .bool false]) ∧ Rd w' g a len cap l)) ∧ w.grownBy w' (some g)
theorem RnumPost.ok {w w' : World} {g : Nat} {a a' : Option Addr} {len cap most : Nat} {l : List Nat} {n p : Nat} (h1 : rdNum (l.take 10) = some (n, (l.take 10).drop p)) (h2 : p ≤ (l.take 10).length) (h3 : ¬ most < n) (h4 : p ≤ len) (h5 : Rd w' g a' (len - p) (cap - p) (l.drop p)) (h6 : w.grownBy w' (some g)) : RnumPost w g a len cap most l (.returned (.tuple #[.int .u64 (n : Nat), .bool true])) w' :=
  ⟨.inl ⟨n, p, a', ⟨h1, h2⟩, by omega, h4, rfl, h5⟩, h6⟩
theorem RnumPost.many {w w' : World} {g : Nat} {a : Option Addr} {len cap most : Nat} {l : List Nat} {n p : Nat} (h1 : rdNum (l.take 10) = some (n, (l.take 10).drop p)) (h2 : p ≤ (l.take 10).length) (h3 : most < n) (h5 : Rd w' g a len cap l) (h6 : w.grownBy w' (some g)) : RnumPost w g a len cap most l (.returned (.tuple #[.int .u64 0, .bool false])) w' :=
  ⟨.inr ⟨.inr ⟨n, p, ⟨h1, h2⟩, h3⟩, rfl, h5⟩, h6⟩
theorem RnumPost.none {w w' : World} {g : Nat} {a : Option Addr} {len cap most : Nat} {l : List Nat} (h1 : rdNum (l.take 10) = Option.none) (h5 : Rd w' g a len cap l) (h6 : w.grownBy w' (some g)) : RnumPost w g a len cap most l (.returned (.tuple #[.int .u64 0, .bool false])) w' :=
  ⟨.inr ⟨.inl h1, rfl, h5⟩, h6⟩
theorem rnum_any (w : World) (g : Nat) (a : Option Addr) (len cap most : Nat) (l : List Nat) (h : Rd w g a len cap l) (hr : len ≤ 140737488355328) :
    Calls Try.prog 66 #[.pointer (some ⟨g, 0, none⟩), .int .u64 (most : Nat)] w (RnumPost w g a len cap most l) := by
  rcases h.pos with ⟨rfl, rfl, rfl⟩ | ⟨b, off, rfl, hne⟩
  · have hl0 : l = [] := List.length_eq_zero_iff.1 h.isb.1
    subst hl0
    have HR : Hid (∀ k, _) := hide (fun k => readNum_any none 0 0 [] (w.drewN k) (h.drewN k).isb (by omega))
    have c0 := h.c0
    have H := hide h
    clear h
    go_enter Try.func66, Try.ntmps66
    go_wp2
    go_quiet (fail)
    go_wp2_with fail
    refine (HR.out _).mono ?_
    rintro e w2 ⟨⟨n, p', q, hn, _⟩ | ⟨hn, rfl⟩, hb⟩
    · cases hn
    · have hx := (H.out.drewN _).kept hb
      have HG := hide (grown_trans (grown_drewN (World.grownBy.refl w (some g)) _) (below_grown hb (some g)))
      have HX := hide hx
      clear hx hb hn
      go_wp2_with fail
      go_ret2
      exact RnumPost.none rfl HX.out HG.out
  · have hlen := h.isb.1
    have HI : Hid (∀ k, IsB (w.drewN k) (some ⟨b, off, none⟩) (min 10 len) cap (l.take 10)) := hide (by
      intro k
      have := (h.drewN k).isb.front (min 10 len) (by omega)
      have e : l.take (min 10 len) = l.take 10 := by rw [← hlen, List.take_eq_take_iff]; omega
      rwa [e] at this)
    have hcap := h.isb.2.1
    have hmax := h.isb.2.2.1
    unfold maxLen at hmax
    have HR : Hid (∀ k, _) := hide (fun k => readNum_any (some ⟨b, off, none⟩) (min 10 len) cap (l.take 10) (w.drewN k) (HI.out k) (by omega))
    have c0 := h.c0
    have H := hide h
    clear h HI
    by_cases h10 : 10 ≤ len
    · have e10 : min 10 len = 10 := by omega
      rw [e10] at HR
      have HLt : Hid ((l.take 10).length = 10) := hide (by rw [List.length_take, hlen]; omega)
      have h0 : 10 ≤ len := by omega
      clear hlen e10
      go_enter Try.func66, Try.ntmps66
      go_wp2
      go_quiet (fail)
      go_wp2_with fail
      refine (HR.out _).mono ?_
      rintro e w2 ⟨⟨n, p, q, hn, hn2, hp, rfl, _, _⟩ | ⟨hn, rfl⟩, hb⟩
      · have hx := (H.out.drewN _).kept hb
        have HG := hide (grown_trans (grown_drewN (World.grownBy.refl w (some g)) _) (below_grown hb (some g)))
        have c2 := hx.c0
        have f2 := hx.fr
        have HC := hide (hx.cut p (by omega))
        have HX := hide hx
        have HN := hide hn
        clear hx hb hn
        have hw : IntKind.i64.wrap ((10 : Int) - ((10 - p : Nat) : Int)) = (p : Nat) := by rw [IntKind.wrap_i64]; omega
        have HD : Hid (∃ d, 10 - p = d) := hide ⟨_, rfl⟩
        obtain ⟨d, hd⟩ := HD.out
        rw [hd] at hw ⊢
        clear HD
        by_cases hnm : most < n
        · have d1 : decide ((most : Int) < (n : Int)) = true := by simpa using hnm
          go_wp2_with fail
          go_ret2
          exact RnumPost.many HN.out (by rw [HLt.out]; omega) hnm HX.out HG.out
        · have d1 : decide ((most : Int) < (n : Int)) = false := by simpa using hnm
          have HE : Hid (cap = p → Rd (w2.setCell ⟨g, 0, none⟩ (.slice (some ⟨b, off, none⟩) (len - p) (cap - p))) g (some ⟨b, off, none⟩) (len - p) (cap - p) (l.drop p)) := hide (fun e => HX.out.cutEnd p (by omega) e)
          go_wp2_with fail
          · go_ret2
            exact RnumPost.ok HN.out (by rw [HLt.out]; omega) hnm (by omega) (by have hc : cap = p := (by omega); have := HE.out hc; simp only [hc, Nat.sub_self] at this ⊢; exact this) (grown_set HG.out _)
          · go_ret2
            exact RnumPost.ok HN.out (by rw [HLt.out]; omega) hnm (by omega) HC.out (grown_set HG.out _)
      · have hx := (H.out.drewN _).kept hb
        have HG := hide (grown_trans (grown_drewN (World.grownBy.refl w (some g)) _) (below_grown hb (some g)))
        have HX := hide hx
        have HN := hide hn
        clear hx hb hn
        go_wp2_with fail
        go_ret2
        exact RnumPost.none HN.out HX.out HG.out
    · have e10 : min 10 len = len := by omega
      rw [e10] at HR
      have HLt : Hid ((l.take 10).length = len) := hide (by rw [List.length_take, hlen]; omega)
      have h0 : len ≤ len := by omega
      clear hlen e10
      go_enter Try.func66, Try.ntmps66
      go_wp2
      go_quiet (fail)
      go_wp2_with fail
      refine (HR.out _).mono ?_
      rintro e w2 ⟨⟨n, p, q, hn, hn2, hp, rfl, _, _⟩ | ⟨hn, rfl⟩, hb⟩
      · have hx := (H.out.drewN _).kept hb
        have HG := hide (grown_trans (grown_drewN (World.grownBy.refl w (some g)) _) (below_grown hb (some g)))
        have c2 := hx.c0
        have f2 := hx.fr
        have HC := hide (hx.cut p (by omega))
        have HX := hide hx
        have HN := hide hn
        clear hx hb hn
        have hw : IntKind.i64.wrap (((len : Nat) : Int) - ((len - p : Nat) : Int)) = (p : Nat) := by rw [IntKind.wrap_i64]; omega
        have HD : Hid (∃ d, len - p = d) := hide ⟨_, rfl⟩
        obtain ⟨d, hd⟩ := HD.out
        rw [hd] at hw ⊢
        clear HD
        by_cases hnm : most < n
        · have d1 : decide ((most : Int) < (n : Int)) = true := by simpa using hnm
          go_wp2_with fail
          go_ret2
          exact RnumPost.many HN.out (by rw [HLt.out]; omega) hnm HX.out HG.out
        · have d1 : decide ((most : Int) < (n : Int)) = false := by simpa using hnm
          have HE : Hid (cap = p → Rd (w2.setCell ⟨g, 0, none⟩ (.slice (some ⟨b, off, none⟩) (len - p) (cap - p))) g (some ⟨b, off, none⟩) (len - p) (cap - p) (l.drop p)) := hide (fun e => HX.out.cutEnd p (by omega) e)
          go_wp2_with fail
          · go_ret2
            exact RnumPost.ok HN.out (by rw [HLt.out]; omega) hnm (by omega) (by have hc : cap = p := (by omega); have := HE.out hc; simp only [hc, hd, Nat.sub_self] at this ⊢; exact this) (grown_set HG.out _)
          · go_ret2
            exact RnumPost.ok HN.out (by rw [HLt.out]; omega) hnm (by omega) (by have := HC.out; simp only [hd] at this ⊢; exact this) (grown_set HG.out _)
      · have hx := (H.out.drewN _).kept hb
        have HG := hide (grown_trans (grown_drewN (World.grownBy.refl w (some g)) _) (below_grown hb (some g)))
        have HX := hide hx
        have HN := hide hn
        clear hx hb hn
        go_wp2_with fail
        go_ret2
        exact RnumPost.none HN.out HX.out HG.out
end Go.Proofs.Yteckglnfkgfefaa
