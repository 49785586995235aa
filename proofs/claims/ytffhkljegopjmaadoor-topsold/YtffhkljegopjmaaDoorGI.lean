/- Check -/
import Derived.Test.YtffhkljegopjmaaDoorGH
namespace Go.Proofs.YtffhkljegopjmaaDoor.Lg
open Go.RowKit
set_option maxRecDepth 40000
/-- whether books are right -/
def checkR (P : List Py) (G : List Pg) : Prop := paysR G = some P
abbrev vb (a : Option Addr) (len cap : Nat) (a2 : Option Addr) (len2 cap2 : Nat) : Value := .agg #[.slice a len cap, .slice a2 len2 cap2]
set_option maxHeartbeats 4000000 in
theorem check_any (a : Option Addr) (len cap : Nat) (P : List Py) (a2 : Option Addr) (len2 cap2 : Nat) (G : List Pg) (w : World) (h : IsP w a len cap P) (h2 : IsG w a2 len2 cap2 G) :
    Calls Tryd.prog 35 #[vb a len cap a2 len2 cap2] w fun e w' => (∃ r : Int, e = .returned (.int .i64 r) ∧ ((r = 0 ∧ checkR P G) ∨ (r = 9 ∧ ¬ checkR P G))) ∧ Below w.heap.size w w' := by
  have HB0 : Hid (Below w.heap.size w (w.alloc (.cells #[.slice a len cap, .slice a2 len2 cap2] 35))) := hide ((Below.refl _ _).alloc (Nat.le_refl _) _)
  have HX : Hid ((w.alloc (.cells #[.slice a len cap, .slice a2 len2 cap2] 35)).heap[w.heap.size]? = some (.cells #[.slice a len cap, .slice a2 len2 cap2] 35 (0, 0))) := hide (heap_alloc_new _ _)
  have HPO := hide (paysOf_any a2 len2 cap2 G _ (h2.below' HB0.out))
  have HP := hide h
  clear h h2
  go_enter Tryd.func35, Tryd.ntmps35
  go_wp2_with fail
  refine HPO.out.mono ?_
  rintro e w1 (⟨b, m, c, Q, rfl, hq, hI, hb⟩ | ⟨rfl, hq, hb⟩)
  · have HQ := hide hq
    have HI := hide hI
    have HB1 := hide (HB0.out.trans (hb.mono HB0.out.size))
    have HX1 : Hid (w1.heap[w.heap.size]? = _) := hide ((hb.block _ (by simp)).trans HX.out)
    have c1 : w1.cell? ⟨w.heap.size, 0, none⟩ = some (.slice a len cap) := cell_blk HX1.out rfl
    have HE := hide (equal_any b m c Q a len cap P w1 HI.out (HP.out.below' HB1.out))
    clear hq hI hb HPO HX HX1
    go_wp2_with fail
    refine HE.out.mono ?_
    rintro e w2 ⟨⟨r, rfl, hr⟩, hb2⟩
    have HR : Hid (∀ b : Bool, r = b → (b = true ↔ Q = P)) := hide (fun b e => e ▸ hr)
    have HB2 := hide (HB1.out.trans (hb2.mono HB1.out.size))
    clear hr hb2 HE c1
    cases r
    · go_wp2
      go_ret
      exact ⟨⟨9, rfl, .inr ⟨rfl, fun hc => by have := (HR.out false rfl).2 (Option.some.inj (HQ.out.symm.trans hc)); cases this⟩⟩, HB2.out⟩
    · go_wp2
      go_ret
      exact ⟨⟨0, rfl, .inl ⟨rfl, HQ.out.trans (congrArg some ((HR.out true rfl).1 rfl))⟩⟩, HB2.out⟩
  · have HQ := hide hq
    have HB1 := hide (HB0.out.trans (hb.mono HB0.out.size))
    clear hq hb HPO HX
    go_wp2
    go_ret
    exact ⟨⟨9, rfl, .inr ⟨rfl, fun hc => by have := HQ.out.symm.trans hc; cases this⟩⟩, HB1.out⟩
end Go.Proofs.YtffhkljegopjmaaDoor.Lg
