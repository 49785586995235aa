/- Frame, whatever the batch -/
import Derived.Test.YteckglnfkgfefaaJoG
namespace Go.Proofs.Yteckglnfkgfefaa
open Go.RowKit Cod
set_option maxRecDepth 40000
theorem all_of_get {rs : List ByteArray} (h : ∀ k, k < rs.length → (rs.getD k ByteArray.empty).size ≤ 4096) : ∀ r ∈ rs, r.size ≤ 4096 := by
  intro r hr
  obtain ⟨i, hi, rfl⟩ := List.mem_iff_getElem.1 hr
  have := h i hi
  rw [List.getD_eq_getElem?_getD, List.getElem?_eq_getElem hi] at this
  exact this
theorem get_of_all {rs : List ByteArray} (h : ∀ r ∈ rs, r.size ≤ 4096) (k : Nat) (hk : k < rs.length) : (rs.getD k ByteArray.empty).size ≤ 4096 := by
  rw [List.getD_eq_getElem?_getD, List.getElem?_eq_getElem hk]
  exact h _ (List.getElem_mem _)
theorem frame_no (w : World) (a : Option Addr) (len cap : Nat) (rs : List ByteArray) (h : IsT w a len cap rs) (s : Nat) (hne : ¬ (okB rs ∧ startB s = true)) :
    Calls Try.prog 10 #[.slice a len cap, .int .u64 (s : Nat)] w (FrPost w rs s) := by
  by_cases h1 : 4096 < len
  · have d0 : decide ((4096 : Int) < (len : Int)) = true := decide_eq_true (by omega)
    have HE : Hid (frE rs s = 3) := hide (by unfold frE; rw [if_pos (by rw [h.1]; exact h1)])
    clear h hne h1
    go_enter Try.func10, Try.ntmps10
    go_wp2_with fail
    go_ret2
    exact FrPost.no HE.out (by decide) (Below.refl _ _)
  · have d0 : decide ((4096 : Int) < (len : Int)) = false := decide_eq_false (by omega)
    have hl : rs.length ≤ 4096 := by rw [h.1]; omega
    have hmax : len ≤ 4096 := by omega
    have H := hide h
    have HNE := hide hne
    have HS := hide (isStart_any s w)
    clear h hne h1
    go_enter Try.func10, Try.ntmps10
    go_wp2_with fail
    go_loopw [17] (fun i wr => ∃ j : Nat, j ≤ len ∧ i = .int .i64 (j : Nat) ∧ wr = w ∧ Hid (∀ k, k < j → (rs.getD k ByteArray.empty).size ≤ 4096)) (fun i _ => len - (intOf i).toNat)
    case atStart => exact ⟨0, Nat.zero_le _, rfl, rfl, hide (fun k hk => by omega)⟩
    case round =>
      obtain ⟨j, hj, rfl, rfl, HA⟩ := hrel
      by_cases hjn : j < len
      · obtain ⟨h1, h2, h3, h5⟩ := H.out
        rcases h5 with h0 | ⟨b, off, rfl, hlt, hc⟩
        · omega
        have hcj := hc j hjn
        by_cases hsz : (rs.getD j ByteArray.empty).size ≤ 4096
        · have HA1 : Hid (∀ k, k < j + 1 → (rs.getD k ByteArray.empty).size ≤ 4096) := hide (fun k hk => by
            by_cases e : k = j
            · rw [e]; exact hsz
            · exact HA.out k (by omega))
          have d1 : decide ((4096 : Int) < ((rs.getD j ByteArray.empty).size : Int)) = false := decide_eq_false (by omega)
          clear hc h1 h2 h3 hsz HA
          generalize rs.getD j ByteArray.empty = r at *
          go_wp2_with fail
          exact ⟨⟨j + 1, by omega, by simp, trivial, HA1⟩, by simp [intOf]; omega⟩
        · have d1 : decide ((4096 : Int) < ((rs.getD j ByteArray.empty).size : Int)) = true := decide_eq_true (by omega)
          have HE : Hid (frE rs s = 4) := hide (by
            unfold frE
            rw [if_neg (by omega), if_pos (fun e => hsz (get_of_all e j (by omega)))])
          clear hc h1 h2 h3 hsz HA
          generalize rs.getD j ByteArray.empty = r at *
          go_wp2_with fail
          go_ret2
          exact FrPost.no HE.out (by decide) (Below.refl _ _)
      · have : j = len := by omega
        subst this
        have HALL : Hid (∀ r ∈ rs, r.size ≤ 4096) := hide (all_of_get (fun k hk => HA.out k (by rw [← H.out.1]; exact hk)))
        have hst : startB s = false := by
          by_cases e : startB s = true
          · exact absurd ⟨⟨hl, HALL.out⟩, e⟩ HNE.out
          · simpa using e
        have HE : Hid (frE rs s = 2) := hide (by
          unfold frE
          rw [if_neg (by omega), if_neg (fun e => e HALL.out), if_neg (by simp [hst])])
        rw [hst] at HS
        clear hst HA
        go_wp2_with fail
        refine HS.out.mono ?_
        rintro e w2 ⟨rfl, rfl⟩
        go_wp2_with fail
        go_ret2
        exact FrPost.no HE.out (by decide) (Below.refl _ _)
theorem frame_any (w : World) (a : Option Addr) (len cap : Nat) (rs : List ByteArray) (h : IsT w a len cap rs) (s : Nat) :
    Calls Try.prog 10 #[.slice a len cap, .int .u64 (s : Nat)] w (FrPost w rs s) := by
  by_cases hk : okB rs ∧ startB s = true
  · exact frame_ok w a len cap rs h s hk.1 hk.2
  · exact frame_no w a len cap rs h s hk
end Go.Proofs.Yteckglnfkgfefaa
