/- the document's text: one record read -/
import Derived.Test.YteckglnfkgfefaaJnU
import Derived.Test.YteckglnfkgfefaaCdE
namespace Go.Proofs.Yteckglnfkgfefaa
open Go.RowKit Cod
set_option maxRecDepth 40000
set_option linter.unusedSimpArgs false
set_option linter.unusedVariables false
/-- what text answers -/
def TxPost (w : World) (l : List Nat) (e : Ending) (w' : World) : Prop :=
  ((∃ x r a n c, rdR l = some (x, r) ∧ e = .returned (.tuple #[.string x, .slice a n c, .bool true]) ∧ IsB w' a n c r ∧ n ≤ l.length ∧ ∀ ad, a = some ad → w.heap.size ≤ ad.block) ∨ (rdR l = none ∧ e = .returned (.tuple #[.string ⟨#[]⟩, .slice none 0 0, .bool false]))) ∧ Below w.heap.size w w'
theorem TxPost.no {w w' : World} {l : List Nat} (h : rdR l = none) (hb : Below w.heap.size w w') : TxPost w l (.returned (.tuple #[.string ⟨#[]⟩, .slice none 0 0, .bool false])) w' := ⟨.inr ⟨h, rfl⟩, hb⟩
theorem isB_backAny {w : World} {a : Option Addr} {len cap : Nat} {l : List Nat} (h : IsB w a len cap l) (k : Nat) (hk : k ≤ len) : IsB w (if cap = k then a else a.map (·.add k)) (len - k) (cap - k) (l.drop k) := by
  obtain ⟨h1, h2, h3, h4, h5⟩ := h
  refine ⟨by rw [List.length_drop, h1], by omega, by omega, fun x hx => h4 x (List.mem_of_mem_drop hx), ?_⟩
  by_cases h0 : len - k = 0
  · refine .inl ⟨h0, ?_⟩
    intro e
    by_cases hc : cap = k
    · omega
    · rw [if_neg hc] at e
      rcases h5 with ⟨g1, g2⟩ | ⟨b, off, rfl, _⟩
      · have : a = none := by cases a with
          | none => rfl
          | some _ => cases e
        have := g2 this
        omega
      · cases e
  · rcases h5 with ⟨g1, _⟩ | ⟨b, off, rfl, hlt, hc⟩
    · omega
    · rw [if_neg (by omega)]
      refine .inr ⟨b, off + k, by simp [addr_add], hlt, fun i hi => ?_⟩
      have := hc (k + i) (by omega)
      rw [← Nat.add_assoc] at this
      rw [this]
      congr 2
      simp [List.getD_eq_getElem?_getD]
theorem isB_frontAny {w : World} {a : Option Addr} {len cap : Nat} {l : List Nat} (h : IsB w a len cap l) (k : Nat) (hk : k ≤ len) : IsB w a k cap (l.take k) := by
  obtain ⟨h1, h2, h3, h4, h5⟩ := h
  refine ⟨by rw [List.length_take, h1]; omega, by omega, h3, fun x hx => h4 x (List.mem_of_mem_take hx), ?_⟩
  by_cases h0 : k = 0
  · refine .inl ⟨h0, ?_⟩
    intro e
    rcases h5 with ⟨_, g2⟩ | ⟨b, off, e2, _⟩
    · exact g2 e
    · rw [e] at e2; cases e2
  · rcases h5 with ⟨g1, _⟩ | ⟨b, off, rfl, hlt, hc⟩
    · omega
    · refine .inr ⟨b, off, rfl, hlt, fun i hi => ?_⟩
      have := hc i (by omega)
      rw [this]
      congr 2
      simp [List.getD_eq_getElem?_getD, List.getElem?_take, hi]
theorem TxPost.yes {w w' : World} {l : List Nat} {x : ByteArray} {r : List Nat} {a : Option Addr} {n c : Nat} (h : rdR l = some (x, r)) (hI : IsB w' a n c r) (hn : n ≤ l.length) (ha : ∀ ad, a = some ad → w.heap.size ≤ ad.block) (hb : Below w.heap.size w w') : TxPost w l (.returned (.tuple #[.string x, .slice a n c, .bool true])) w' := ⟨.inl ⟨x, r, a, n, c, h, rfl, hI, hn, ha⟩, hb⟩
theorem owns_isB_at {w : World} {base : Nat} {v : Value} {n : Nat} {l : List Nat} (h : w.ownsRow base 5 1 v n (bv l)) (hl : ∀ x ∈ l, x < 256) : ∃ a cap, v = .slice a n cap ∧ IsB w a n cap l ∧ ∀ ad, a = some ad → base ≤ ad.block := by
  obtain ⟨a, cap, rfl, hI⟩ := owns_isB h hl
  refine ⟨a, cap, rfl, hI, ?_⟩
  rintro ad rfl
  rcases h.2 with ⟨e, _⟩ | ⟨g, c2, cur, e, hb, _⟩
  · cases e
  · cases e; exact hb
set_option maxHeartbeats 2000000 in
theorem rtext_any (w : World) (a : Option Addr) (len cap : Nat) (l : List Nat) (h : IsB w a len cap l) (hr : len ≤ 140737488355328) : Calls Try.prog 42 #[.slice a len cap] w (TxPost w l) := by
  have HR := hide (refReadNum_any a len cap l w h hr)
  have HX := hide h.2.2.2.1
  have HL := hide h.1
  clear h
  go_enter Try.func42, Try.ntmps42
  go_wp2_with fail
  refine HR.out.mono ?_
  clear HR
  rintro e w2 ⟨⟨n, p, v, hn, hn64, hpl, rfl, hown⟩ | ⟨hno, rfl⟩, hb⟩
  · have HB := hide hb
    have HN := hide (rdR_num hn)
    obtain ⟨a2, c2, rfl, hI, hat⟩ := owns_isB_at hown (fun x hx => HX.out x (List.mem_of_mem_drop hx))
    have HA := hide hat
    have hmax := hI.2.2.1
    unfold maxLen at hmax
    have hcap := hI.2.1
    have HLD : Hid ((l.drop p).length = len - p) := hide (by rw [List.length_drop, HL.out])
    obtain ⟨N, hN⟩ : ∃ N, N = len - p := ⟨_, rfl⟩
    rw [← hN] at hI hcap HLD ⊢
    have hNl : N ≤ len := by omega
    have hwN : IntKind.u64.wrap (N : Int) = (N : Int) := by rw [IntKind.wrap_u64]; omega
    have HI := hide hI
    clear hown hb hI hn hN hpl hat
    by_cases h1 : 4096 < n
    · have d1 : decide ((4096 : Int) < (n : Int)) = true := decide_eq_true (by omega)
      have HF : Hid (rdR l = none) := hide (by rw [HN.out, if_neg (by omega)])
      go_wp2_with fail
      refine bodyPost_ret (v := .tuple #[.string ⟨#[]⟩, .slice none 0 0, .bool false]) (by simp [results, Try.f42, go_sem]) rfl ?_
      exact TxPost.no HF.out HB.out
    · have d1 : decide ((4096 : Int) < (n : Int)) = false := decide_eq_false (by omega)
      by_cases h2 : N < n
      · have d2 : decide ((N : Int) < (n : Int)) = true := decide_eq_true (by omega)
        have HF : Hid (rdR l = none) := hide (by rw [HN.out, if_neg (by rw [HLD.out]; omega)])
        go_wp2_with fail
        refine bodyPost_ret (v := .tuple #[.string ⟨#[]⟩, .slice none 0 0, .bool false]) (by simp [results, Try.f42, go_sem]) rfl ?_
        exact TxPost.no HF.out HB.out
      · have d2 : decide ((N : Int) < (n : Int)) = false := decide_eq_false (by omega)
        have HF : Hid (rdR l = some (str ((l.drop p).take n), (l.drop p).drop n)) := hide (by rw [HN.out, if_pos ⟨by omega, by rw [HLD.out]; omega⟩])
        have hnN : n ≤ N := by omega
        have hnc : n ≤ c2 := by omega
        have cv1 := conv_str ((isB_frontAny HI.out n hnN).below (Below.drew (Below.refl _ _)))
        have HNL : Hid (N - n ≤ l.length) := hide (by have := HL.out; omega)
        by_cases hc : c2 = n
        · have HT := hide (isB_backAny HI.out n hnN)
          rw [if_pos hc] at HT
          subst hc
          obtain rfl : N = c2 := by omega
          go_wp2_with fail
          go_region
          all_goals
            go_wp2_with fail
            refine bodyPost_ret (v := .tuple #[.string (str ((l.drop p).take N)), .slice a2 (N - N) (N - N), .bool true]) (by simp [results, Try.f42, go_sem]) rfl ?_
            exact TxPost.yes HF.out (HT.out.below (Below.drew (Below.refl _ _))) HNL.out HA.out (Below.drew HB.out)
        · have HT := hide (isB_backAny HI.out n hnN)
          rw [if_neg hc] at HT
          cases a2 with
          | none =>
            exfalso
            rcases HI.out.2.2.2.2 with ⟨g1, g2⟩ | ⟨_, _, e, _⟩
            · have := g2 rfl
              omega
            · cases e
          | some ad =>
            go_wp2_with fail
            go_region
            all_goals
              go_wp2_with fail
              refine bodyPost_ret (v := .tuple #[.string (str ((l.drop p).take n)), .slice (some (ad.add n)) (N - n) (c2 - n), .bool true]) (by simp [results, Try.f42, go_sem]) rfl ?_
              exact TxPost.yes HF.out (HT.out.below (Below.drew (Below.refl _ _))) HNL.out (fun ad' e => by cases e; have h9 := HA.out ad rfl; unfold Addr.add; split <;> exact h9) (Below.drew HB.out)
  · have HB := hide hb
    have HF : Hid (rdR l = none) := hide (rdR_none hno)
    clear hb hno
    go_wp2_with fail
    refine bodyPost_ret (v := .tuple #[.string ⟨#[]⟩, .slice none 0 0, .bool false]) (by simp [results, Try.f42, go_sem]) rfl ?_
    exact TxPost.no HF.out HB.out
end Go.Proofs.Yteckglnfkgfefaa
