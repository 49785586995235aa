/- readBatch: the records of a text -/
import Derived.Test.YteckglnfkgfefaaJnR
import Derived.Test.YteckglnfkgfefaaJnO
namespace Go.Proofs.Yteckglnfkgfefaa
open Go.RowKit Cod
set_option maxRecDepth 40000
theorem info9 : (Try.prog.info? 9).map (fun i => (i.zero, i.size, i.bytes)) = some (some (.string ⟨#[]⟩), 1, 16) := by kernel_rfl
theorem own_le {w : World} {B B' n : Nat} {v : Value} {l : List Value} (h : w.ownsRow B 9 1 v n l) (hb : B' ≤ B) : w.ownsRow B' 9 1 v n l :=
  ⟨h.1, h.2.imp id (fun ⟨g, cap, cur, h1, h2, h3⟩ => ⟨g, cap, cur, h1, Nat.le_trans hb h2, h3⟩)⟩
theorem own_far {w w' : World} {B n g : Nat} {v : Value} {l : List Value} (h : w.ownsRow B 9 1 v n l) (hg : w.grownBy w' (some g)) (hB : g < B) : w'.ownsRow B 9 1 v n l :=
  h.kept hg (by
    cases hv : v.ownBlock with
    | none => exact .inl rfl
    | some k => right; have := (h.lt k hv).1; intro e; cases e; omega)
theorem one_string (x : ByteArray) : ∀ u ∈ [Value.string x], u.oneCell' = true := by
  intro u hu
  rw [List.mem_singleton.1 hu]
  rfl
/-- a reader that has just been made -/
theorem Rd.new {w : World} {a : Option Addr} {len cap : Nat} {l : List Nat} (h : IsB w a len cap l) (hp : (a = none ∧ len = 0 ∧ cap = 0) ∨ ∃ b off, a = some ⟨b, off, none⟩ ∧ b < w.heap.size) : Rd (w.alloc (.cells #[.slice a len cap] 105)) w.heap.size a len cap l := by
  have hn := heap_alloc_new w (.cells #[.slice a len cap] 105)
  refine ⟨?_, ?_, h.below ((Below.refl _ _).alloc (Nat.le_refl _) _), ?_⟩
  · rw [World.cell?_alloc_new]; rfl
  · unfold World.frozen?; rw [hn]; rfl
  · rcases hp with hp | ⟨b, off, e, hlt⟩
    · exact .inl hp
    · exact .inr ⟨b, off, e, hlt⟩
/-- what readBatch answers -/
def RbPost (w : World) (l : List Nat) (e : Ending) (w' : World) : Prop :=
  (∃ v rs ok, e = .returned (.tuple #[v, .bool ok]) ∧ RdB l rs ok ∧ (ok = true → w'.ownsRow w.heap.size 9 1 v rs.length (rs.map Value.string))) ∧ Below w.heap.size w w'
theorem RbPost.no {w w' : World} {l : List Nat} {v : Value} (h : ∀ rs, RdB l rs false) (hb : Below w.heap.size w w') : RbPost w l (.returned (.tuple #[v, .bool false])) w' :=
  ⟨⟨v, [], false, rfl, h _, by simp⟩, hb⟩
theorem RbPost.ok {w w' : World} {l : List Nat} {v : Value} {rs : List ByteArray} (h : RdB l rs true) (ho : w'.ownsRow (w.heap.size + 1) 9 1 v rs.length (rs.map Value.string)) (hb : Below w.heap.size w w') : RbPost w l (.returned (.tuple #[v, .bool true])) w' :=
  ⟨⟨v, rs, true, rfl, h, fun _ => own_le ho (by omega)⟩, hb⟩
/-- the loop's state -/
def RbInv (w : World) (R : List Nat) (len j : Nat) (x : Value) (wr : World) : Prop :=
  ∃ out a' len' cap' rest, out.length = j ∧ Red R out rest ∧ len' ≤ len ∧ Rd wr w.heap.size a' len' cap' rest ∧ wr.ownsRow (w.heap.size + 1) 9 1 x j (out.map Value.string) ∧ Below w.heap.size w wr
theorem readBatch_any (w : World) (a : Option Addr) (len cap : Nat) (l : List Nat) (h : IsB w a len cap l) (hp : (a = none ∧ len = 0 ∧ cap = 0) ∨ ∃ b off, a = some ⟨b, off, none⟩ ∧ b < w.heap.size) (hr : len ≤ 140737488355328) :
    Calls Try.prog 40 #[.slice a len cap] w (RbPost w l) := by
  obtain ⟨i0, hi, hz0, hz1, hz2⟩ := info_parts info9
  have HX := hide (Rd.new h hp)
  have HR := hide (rnum_any _ w.heap.size a len cap 4096 l HX.out hr)
  have HXs := hide h.2.2.2.1
  clear h
  go_enter Try.func40, Try.ntmps40
  go_wp2_with fail
  refine HR.out.mono ?_
  clear HR
  rintro e w2 ⟨⟨n, p, a', ⟨hn, hpl⟩, hn4, hp, rfl, hx⟩ | ⟨hno, rfl, hx⟩, hg⟩
  · have HN : Hid (rdNum l = some (n, l.drop p)) := hide (rdNum_ahead hpl hn)
    have HB : Hid (Below w.heap.size w w2) := hide (below_of_grown hg)
    have HI : Hid (RbInv w (l.drop p) len 0 (.slice none 0 0) w2) := hide ⟨[], a', _, _, _, rfl, Red.start _, by omega, hx, ⟨rfl, .inl ⟨rfl, rfl⟩⟩, HB.out⟩
    clear hx hg hn hpl
    go_wp2_with fail
    go_loopw [19, 7] (fun i x wr => ∃ j : Nat, j ≤ n ∧ i = .int .u64 (j : Nat) ∧ RbInv w (l.drop p) len j x wr) (fun i _ _ => n - (intOf i).toNat)
    case atStart => exact ⟨0, Nat.zero_le _, rfl, HI.out⟩
    case round =>
      obtain ⟨j, hj, rfl, out, a2, len2, cap2, rest, hol, hred, hl2, hx, hown, hb⟩ := hrel
      clear HI HB
      have HRed := hide hred
      have HOl := hide hol
      have HX2 := hide hx
      have HO := hide hown
      have HB := hide hb
      have c2 := hx.c0
      clear hred hol hx hown hb
      by_cases hjn : j < n
      · have d1 : decide ((j : Int) < (n : Int)) = true := by simpa using hjn
        have HC := hide (rrec_any _ w.heap.size a2 len2 cap2 rest HX2.out (by omega))
        go_wp2_with fail
        refine HC.out.mono ?_
        clear HC
        rintro e w3 ⟨⟨y, r, a3, len3, cap3, hrd, hl3, rfl, hx3⟩ | ⟨hrd, rfl⟩, hg3⟩
        · have HRed3 := hide (HRed.out.step HX2.out.isb.2.2.2.1 hrd)
          have HO3 := hide (own_far HO.out hg3 (Nat.lt_succ_self _))
          have HB3 : Hid (Below w.heap.size w w3) := hide (HB.out.grown hg3 HB.out.size (fun k hk => by cases hk; exact Nat.le_refl _))
          have HX3 := hide hx3
          have hj3 : j + 1 ≤ 4096 := by omega
          have hs3 := HX3.out.lt
          have HS := hide HB3.out.size
          clear hx3 hg3 hrd HRed HX2 HO HB c2
          go_wp2_with (at_builtin; refine wpList_append_own _ rfl _ _ 22 rfl (w.heap.size + 1) 9 i0 (.string ⟨#[]⟩) 1 16 Try.underlying22 hi hz0 hz1 hz2 rfl (by decide) _ j (out.map Value.string) rfl (HO3.out.alloc _) ⟨w3.heap.size, 0, none⟩ 1 1 [.string y] rfl rfl (cell_one_new _ _ _) (one_string _) ?c3 ?c4 ?c5 ?_)
          case c3 => unfold maxLen; omega
          case c4 => omega
          case c5 => simp; omega
          intro v2 w4 hown2 hg4 _
          have hlt : ∀ k, _ = some k → w.heap.size + 1 ≤ k := fun k hk => (HO3.out.lt k hk).1
          have hb2 : Below w.heap.size w w4 := (HB3.out.alloc HS.out _).grown hg4 (by have := HS.out; simp; omega) (fun k hk => Nat.le_of_succ_le (hlt k hk))
          have hx4 : Rd w4 w.heap.size a3 len3 cap3 r := (HX3.out.kept ((Below.refl _ _).alloc (Nat.le_refl _) _)).grown hg4 (fun k hk => hlt k hk)
          have hown3 : w4.ownsRow (w.heap.size + 1) 9 1 v2 (j + 1) ((out ++ [y]).map Value.string) := by rw [List.map_append]; exact hown2
          clear hown2 hg4
          go_wp2
          go_roundw
          case rel => exact ⟨j + 1, by omega, by go_num, out ++ [y], a3, len3, cap3, r, by rw [List.length_append, HOl.out]; rfl, HRed3.out, by omega, hx4, hown3, hb2⟩
          case measure => simp [intOf]; omega
        · have HB3 : Hid (Below w.heap.size w w3) := hide (HB.out.grown hg3 HB.out.size (fun k hk => by cases hk; exact Nat.le_refl _))
          have HF : Hid (∀ rs, RdB l rs false) := hide (fun rs => RdB.stuck HN.out HRed.out (by rw [HOl.out]; exact hjn) hrd rs)
          clear hg3 hrd HRed HX2 HO HB c2
          go_wp2_with fail
          go_ret2
          exact RbPost.no HF.out HB3.out
      · have : j = n := by omega
        subst this
        by_cases h0 : len2 = 0
        · have e0 : ((len2 : Int) == 0) = true := by simp [h0]
          have HF : Hid (RdB l out true) := hide (by
            have hr0 : rest = [] := List.length_eq_zero_iff.1 (HX2.out.isb.1.trans h0)
            have hd := HRed.out
            rw [hr0] at hd
            exact RdB.done HXs.out HN.out hd HOl.out hn4)
          clear h0
          go_wp2
          go_quiet (fail)
          go_wp2_with fail
          go_ret2
          exact RbPost.ok HF.out (by rw [HOl.out]; exact HO.out) (HB.out.grown (row := none) (grown_drewN (World.grownBy.refl _ _) _) HB.out.size (by simp))
        · have e0 : ((len2 : Int) == 0) = false := by simp; omega
          have HF : Hid (∀ rs, RdB l rs false) := hide (fun rs => RdB.left HN.out HRed.out HOl.out (fun e => h0 (by rw [← HX2.out.isb.1, e]; rfl)) rs)
          clear h0
          go_wp2
          go_quiet (fail)
          go_wp2_with fail
          go_ret2
          exact RbPost.no HF.out (HB.out.grown (row := none) (grown_drewN (World.grownBy.refl _ _) _) HB.out.size (by simp))
  · have HB : Hid (Below w.heap.size w w2) := hide (below_of_grown hg)
    have HN : Hid (∀ rs, RdB l rs false) := hide (by
      intro rs
      rcases hno with hno | ⟨n, p, ⟨hn, hpl⟩, h4⟩
      · exact RdB.noNum (rdNum_none HXs.out hno) rs
      · exact RdB.many (rdNum_ahead hpl hn) h4 rs)
    clear hx hg hno
    go_wp2_with fail
    go_ret2
    exact RbPost.no HN.out HB.out
end Go.Proofs.Yteckglnfkgfefaa
