/- contracts: Entries -/
import Derived.Test.YtnimlpbalfamcaaQ0
import Derived.Deep.RegionWith
namespace Go.Proofs.Ytnimlpbalfamcaa
open Go.RowKit Cod
/-- entries in memory -/
def IsE (w : World) (a : Option Addr) (len cap : Nat) (es : List Ent) : Prop :=
  es.length = len ∧ len ≤ cap ∧ cap ≤ maxLen ∧ (len = 0 ∧ (a = none → cap = 0) ∨ ∃ b off, a = some ⟨b, off, none⟩ ∧ b < w.heap.size ∧ ∀ i e, es[i]? = some e →
    ∃ ka kc va vc, w.cell? ⟨b, off + i * 2, none⟩ = some (.slice ka e.1.length kc) ∧ w.cell? ⟨b, off + i * 2 + 1, none⟩ = some (.slice va e.2.length vc) ∧ IsB w ka e.1.length kc e.1 ∧ IsB w va e.2.length vc e.2)
theorem IsE.below {w w1 : World} {a : Option Addr} {len cap : Nat} {es : List Ent} (h : IsE w a len cap es) (hb : Below w.heap.size w w1) : IsE w1 a len cap es := by
  obtain ⟨h1, h2, h3, h5⟩ := h
  refine ⟨h1, h2, h3, ?_⟩
  rcases h5 with h5 | ⟨b, off, rfl, hlt, hc⟩
  · exact .inl h5
  · refine .inr ⟨b, off, rfl, Nat.lt_of_lt_of_le hlt hb.size, fun i e he => ?_⟩
    obtain ⟨ka, kc, va, vc, c1, c2, b1, b2⟩ := hc i e he
    exact ⟨ka, kc, va, vc, (hb.cell (p := ⟨b, _, none⟩) hlt).trans c1, (hb.cell (p := ⟨b, _, none⟩) hlt).trans c2, b1.below hb, b2.below hb⟩
theorem any_take_succ {es : List Ent} {k : Nat} {e : Ent} (h : es[k]? = some e) (ha : (es.take k).any (fun e => decide (256 < e.1.length ∨ 512 < e.2.length)) = false) (h1 : e.1.length ≤ 256) (h2 : e.2.length ≤ 512) : (es.take (k + 1)).any (fun e => decide (256 < e.1.length ∨ 512 < e.2.length)) = false := by
  rw [List.take_add_one, h, List.any_append, ha]; simp; omega
theorem any_hit {es : List Ent} {k : Nat} {e : Ent} (h : es[k]? = some e) (h1 : 256 < e.1.length ∨ 512 < e.2.length) : es.any (fun e => decide (256 < e.1.length ∨ 512 < e.2.length)) = true := by
  rw [List.any_eq_true]
  exact ⟨e, List.mem_of_getElem? h, by simpa using h1⟩
theorem entsB_take_succ {es : List Ent} {k : Nat} {e : Ent} (h : es[k]? = some e) : entsB (es.take (k + 1)) = entsB (es.take k) ++ text e.1 ++ text e.2 := by
  rw [List.take_add_one, h]; simp [entsB, entB]
theorem text_len {s : List Nat} (h : s.length ≤ 512) : (text s).length ≤ 522 := by
  rw [text, List.length_append]
  have := num_len10 (n := s.length) (by omega)
  omega
set_option maxHeartbeats 2000000 in
theorem entries_some (b off len cap : Nat) (es : List Ent) (w : World) (h : IsE w (some ⟨b, off, none⟩) len cap es) (h0 : 0 < len) :
    Calls Try.prog 32 #[.slice (some ⟨b, off, none⟩) len cap] w fun e w' =>
      ((∃ v l, entries es = .ok l ∧ e = .returned (.tuple #[v, .int .i64 0]) ∧ w'.ownsRow w.heap.size 5 1 v l.length (bv l)) ∨
       (∃ k : Nat, entries es = .error k ∧ k ≠ 0 ∧ e = .returned (.tuple #[.slice none 0 0, .int .i64 k]))) ∧ Below w.heap.size w w' := by
  have hcl : len ≤ cap := h.2.1
  have hcm : cap ≤ 9223372036854775807 := h.2.2.1
  have Hlen := hide h.1
  have H := hide h
  by_cases h16 : 4096 < len
  · have HN : Hid (entries es = .error 3) := hide (by unfold entries; rw [if_pos (by have := Hlen.out; omega)])
    clear h
    go_enter Try.func32, Try.ntmps32
    go_wp2
    go_ret2
    exact ⟨.inr ⟨3, HN.out, by decide, rfl⟩, Below.refl _ _⟩
  clear h
  go_enter Try.func32, Try.ntmps32
  go_wp2_with fail
  go_loopw [5, 14] (fun _ i wr => ∃ k : Nat, k ≤ len ∧ i = .int .i64 k ∧ Hid ((es.take k).any (fun e => decide (256 < e.1.length ∨ 512 < e.2.length)) = false) ∧ Below w.heap.size w wr) (fun _ i _ => len - (intOf i).toNat)
  case atStart => exact ⟨0, by omega, rfl, hide (by simp), Below.refl _ _⟩
  case round =>
    obtain ⟨k, hk, rfl, HA, hbel⟩ := hrel
    by_cases hlt : k < len
    · obtain ⟨⟨ek, ev⟩, hp⟩ : ∃ p, es[k]? = some p := ⟨es[k]'(by have := Hlen.out; omega), List.getElem?_eq_getElem _⟩
      obtain ⟨b', off', hbe, hblt, hc⟩ := (H.out.below hbel).2.2.2.resolve_left (fun h => by omega)
      cases hbe
      obtain ⟨ka, kc, va, vc, c1, c2, b1, b2⟩ := hc k _ hp
      have HP := hide hp
      have hz1 : ek.length ≤ 9223372036854775807 := Nat.le_trans b1.2.1 b1.2.2.1
      have hz2 : ev.length ≤ 9223372036854775807 := Nat.le_trans b2.2.1 b2.2.2.1
      clear hc hp b1 b2
      have d1 : decide ((k : Int) < (len : Int)) = true := by simp; omega
      have HB1 : Hid (∀ o : Obj, Below w.heap.size w (wr.alloc o)) := hide (fun o => hbel.alloc hbel.size o)
      dsimp only at c1 c2
      by_cases hkl : 256 < ek.length
      · have HN : Hid (entries es = .error 4) := hide (by
          unfold entries; rw [if_neg (by have := Hlen.out; omega), any_hit HP.out (.inl hkl)]; rfl)
        have d2 : decide ((256 : Int) < (ek.length : Int)) = true := by simp; omega
        have d3 : decide (256 < ek.length) = true := by simp; omega
        go_wp2
        go_ret2
        exact ⟨.inr ⟨4, HN.out, by decide, rfl⟩, HB1.out _⟩
      have d2 : decide ((256 : Int) < (ek.length : Int)) = false := by simp; omega
      have d3 : decide (256 < ek.length) = false := by simp; omega
      by_cases hvl : 512 < ev.length
      · have HN : Hid (entries es = .error 4) := hide (by
          unfold entries; rw [if_neg (by have := Hlen.out; omega), any_hit HP.out (.inr hvl)]; rfl)
        have d4 : decide ((512 : Int) < (ev.length : Int)) = true := by simp; omega
        have d5 : decide (512 < ev.length) = true := by simp; omega
        go_wp2
        go_ret2
        exact ⟨.inr ⟨4, HN.out, by decide, rfl⟩, HB1.out _⟩
      · have d4 : decide ((512 : Int) < (ev.length : Int)) = false := by simp; omega
        have d5 : decide (512 < ev.length) = false := by simp; omega
        have HA2 := hide (any_take_succ HP.out HA.out (by simp only; omega) (by simp only; omega))
        go_wp2
        go_roundw
        case rel => exact ⟨k + 1, by omega, by go_num, HA2, HB1.out _⟩
        case measure => simp [intOf]; omega
    · obtain rfl : k = len := by omega
      have HALL : Hid (es.any (fun e => decide (256 < e.1.length ∨ 512 < e.2.length)) = false) := hide (by have := HA.out; rwa [List.take_of_length_le (by rw [Hlen.out]; exact Nat.le_refl _)] at this)
      have HFIT : Hid (∀ e ∈ es, fits e) := hide ((any_fits es).1 HALL.out)
      clear HA
      have hbw := hbel.size
      have HN : Hid (entries es = .ok (num k ++ entsB es)) := hide (by
        unfold entries; rw [if_neg (by have := Hlen.out; omega), HALL.out, if_neg (by decide), Hlen.out])
      have hnl := num_len10 (n := k) (by omega)
      go_wp2_with fail
      refine (putNum_any w.heap.size (.slice none 0 0) 0 k [] _ (World.ownsRow_nil _ _ _ _) (by omega) hbw (by omega)).mono ?_
      rintro e w2 ⟨v2, rfl, hown2, hb2⟩
      rw [Nat.zero_add, List.nil_append] at hown2
      have h2 := hbel.trans hb2
      clear hb2 hbel hbw
      go_wp2_with fail
      go_loopw [6, 8, 35] (fun x _ i wr => ∃ (j q : Nat), j ≤ k ∧ i = .int .i64 j ∧ wr.ownsRow w.heap.size 5 1 x q (bv (num k ++ entsB (es.take j))) ∧ q ≤ 10 + j * 1044 ∧ Below w.heap.size w wr) (fun _ _ i _ => k - (intOf i).toNat)
      case atStart => exact ⟨0, (num k).length, by omega, rfl, by simpa [entsB] using hown2, by omega, h2⟩
      case round =>
        obtain ⟨j, q, hj, rfl, hown, hq, hbel⟩ := hrel
        clear hown2 h2
        have hbw := hbel.size
        by_cases hlt2 : j < k
        · obtain ⟨⟨ek, ev⟩, hp⟩ : ∃ p, es[j]? = some p := ⟨es[j]'(by have := Hlen.out; omega), List.getElem?_eq_getElem _⟩
          obtain ⟨b', off', hbe, hblt, hc⟩ := (H.out.below hbel).2.2.2.resolve_left (fun h => by omega)
          cases hbe
          obtain ⟨ka, kc, va, vc, c1, c2, b1, b2⟩ := hc j _ hp
          obtain ⟨b0, off0, hbe0, hblt0, hc0⟩ := H.out.2.2.2.resolve_left (fun h => by omega)
          cases hbe0
          obtain ⟨ka', kc', va', vc', c1', c2', b1', b2'⟩ := hc0 j _ hp
          have e1 := (hbel.cell (p := ⟨b, off + j * 2, none⟩) hblt0).trans c1'
          have e2 := (hbel.cell (p := ⟨b, off + j * 2 + 1, none⟩) hblt0).trans c2'
          rw [c1] at e1
          rw [c2] at e2
          cases e1
          cases e2
          dsimp only at c1 c2 b1 b2 b1' b2'
          have hfit := HFIT.out _ (List.mem_of_getElem? hp)
          have hf1 : ek.length ≤ 256 := hfit.1
          have hf2 : ev.length ≤ 512 := hfit.2
          have HB : Hid (bv (num k ++ entsB (es.take (j + 1))) = bv (num k ++ entsB (es.take j) ++ text ek ++ text ev)) := hide (by rw [entsB_take_succ hp]; simp)
          have ht1 := text_len (s := ek) (by omega)
          have ht2 := text_len (s := ev) hf2
          have HK1 : Hid (∀ W, Below w.heap.size w W → IsB W ka ek.length kc ek) := hide (fun W hW => b1'.below hW)
          have HV1 : Hid (∀ W, Below w.heap.size w W → IsB W va ev.length vc ev) := hide (fun W hW => b2'.below hW)
          have hW1 : Below w.heap.size w (wr.alloc (.cells #[.slice ka ek.length kc, .slice va ev.length vc] 78)).drew := Below.drew (hbel.alloc hbel.size _)
          have hE : (wr.alloc (.cells #[.slice ka ek.length kc, .slice va ev.length vc] 78)).drew.heap[wr.heap.size]? = some (.cells #[.slice ka ek.length kc, .slice va ev.length vc] 78 (0, 0)) := heap_alloc_new wr _
          have hEs : wr.heap.size < (wr.alloc (.cells #[.slice ka ek.length kc, .slice va ev.length vc] 78)).drew.heap.size := by simp
          have hub : u6.ownBlock ≠ some wr.heap.size := fun h => by have := (hown.lt _ h).2; omega
          have C1 := hide (putText_keep w.heap.size u6 q (num k ++ entsB (es.take j)) ka ek.length kc ek (wr.alloc (.cells #[.slice ka ek.length kc, .slice va ev.length vc] 78)).drew (hown.alloc _) (HK1.out _ hW1) (fun W hW => HK1.out W (hW1.trans hW)) hW1.size (by omega))
          have HOL : Hid (∀ g, u6.ownBlock = some g → w.heap.size ≤ g) := hide (fun g hg => (hown.lt g hg).1)
          have d1 : decide ((j : Int) < (k : Int)) = true := by simp; omega
          have HW1 := hide hW1
          have HE := hide hE
          have HEs := hide hEs
          have Hub := hide hub
          clear hc hc0 hp b1 b2 b1' b2' c1' c2' hfit hown hW1 hE hEs hub
          go_wp2
          go_region_with (first | (go_at_call_of 51 u6; refine C1.out.mono ?_; rintro e w2 ⟨v2, rfl, hown2, hk2⟩; have hcell2 : w2.cell? ⟨wr.heap.size, 1, none⟩ = some (.slice va ev.length vc) := (by unfold World.cell?; rw [hk2.block HEs.out Hub.out, HE.out]; rfl); have hb2 : Below w.heap.size w w2 := HW1.out.trans (hk2.below HOL.out HW1.out.size)) | (go_at_call_of 51 v2; refine (putText_keep w.heap.size v2 (q + (text ek).length) _ va ev.length vc ev w2 hown2 (HV1.out _ hb2) (fun W hW => HV1.out W (hb2.trans hW)) hb2.size (by omega)).mono ?_; rintro e w3 ⟨v3, rfl, hown3, hk3⟩; have hb3 : Below w.heap.size w w3 := hb2.trans (hk3.below (fun g hg => (hown2.lt g hg).1) hb2.size)))
          all_goals
            rw [← HB.out] at hown3
            clear hown2 hk2 hk3 hcell2 hb2
            go_wp2
            go_roundw
            case rel => exact ⟨j + 1, q + (text ek).length + (text ev).length, by omega, by go_num, hown3, by omega, hb3⟩
            case measure => simp [intOf]; omega
        · obtain rfl : j = k := by omega
          have et : es.take j = es := List.take_of_length_le (by rw [Hlen.out]; exact Nat.le_refl _)
          rw [et] at hown
          have hql : q = (num j ++ entsB es).length := by have := hown.1; rw [bv_length] at this; omega
          clear et
          go_wp2
          go_ret2
          exact ⟨.inl ⟨_, _, HN.out, rfl, by rw [← hql]; exact hown⟩, hbel⟩
theorem entries_none (a : Option Addr) (cap : Nat) (w : World) : Calls Try.prog 32 #[.slice a 0 cap] w fun e w' => (∃ v, e = .returned (.tuple #[v, .int .i64 0]) ∧ w'.ownsRow w.heap.size 5 1 v 1 (bv [0])) ∧ Below w.heap.size w w' := by
  go_enter Try.func32, Try.ntmps32
  go_wp2_with fail
  go_loop [14] (fun i => i = .int .i64 0) (fun _ => 0)
  case atStart => exact rfl
  case round =>
    obtain rfl := hrel
    go_wp2_with fail
    refine (putNum_any w.heap.size (.slice none 0 0) 0 0 [] w (World.ownsRow_nil _ _ _ _) (by decide) (Nat.le_refl _) (by decide)).mono ?_
    rintro e w2 ⟨v2, rfl, hown2, hb2⟩
    rw [num_small (by decide)] at hown2
    have hown3 : w2.ownsRow w.heap.size 5 1 v2 1 (bv [0]) := hown2
    clear hown2
    go_wp2_with fail
    go_loop [6, 35] (fun x i => x = v2 ∧ i = .int .i64 0) (fun _ _ => 0)
    case atStart => exact ⟨rfl, rfl⟩
    case round =>
      obtain ⟨rfl, rfl⟩ := hrel
      go_wp2
      go_ret2
      exact ⟨⟨_, rfl, hown3⟩, hb2⟩
/-- codec.Entries -/
theorem entries_any (a : Option Addr) (len cap : Nat) (es : List Ent) (w : World) (h : IsE w a len cap es) :
    Calls Try.prog 32 #[.slice a len cap] w fun e w' =>
      ((∃ v l, entries es = .ok l ∧ e = .returned (.tuple #[v, .int .i64 0]) ∧ w'.ownsRow w.heap.size 5 1 v l.length (bv l)) ∨
       (∃ k : Nat, entries es = .error k ∧ k ≠ 0 ∧ e = .returned (.tuple #[.slice none 0 0, .int .i64 k]))) ∧ Below w.heap.size w w' := by
  by_cases h0 : len = 0
  · subst h0
    obtain rfl : es = [] := List.length_eq_zero_iff.1 h.1
    refine (entries_none a cap w).mono ?_
    rintro e w' ⟨⟨v, rfl, hown⟩, hb⟩
    have he : entries [] = .ok [0] := by
      unfold entries; simp [entsB, num_small]
    exact ⟨.inl ⟨_, _, he, rfl, hown⟩, hb⟩
  · obtain ⟨b, off, rfl, _, _⟩ := h.2.2.2.resolve_left (fun h => h0 h.1)
    exact entries_some b off len cap es w h (by omega)
end Go.Proofs.Ytnimlpbalfamcaa
