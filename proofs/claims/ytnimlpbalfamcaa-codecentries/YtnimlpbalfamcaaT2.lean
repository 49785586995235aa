/- contracts: the document's Entries; none of all -/
import Derived.Test.YtnimlpbalfamcaaT
namespace Go.Proofs.Ytnimlpbalfamcaa
open Go.RowKit Cod
theorem IsE.lts' {w : World} {a : Option Addr} {len cap : Nat} {es : List Ent} (h : IsE w a len cap es) : ∀ e ∈ es, (∀ x ∈ e.1, x < 256) ∧ (∀ x ∈ e.2, x < 256) := by
  intro e he
  obtain ⟨i, hi⟩ := List.getElem?_of_mem he
  rcases h.2.2.2 with ⟨h0, _⟩ | ⟨b, off, _, _, hc⟩
  · have := h.1
    have hl : es = [] := List.length_eq_zero_iff.1 (by omega)
    rw [hl] at he; cases he
  · obtain ⟨_, _, _, _, _, _, b1, b2⟩ := hc i e hi
    exact ⟨b1.2.2.2.1, b2.2.2.2.1⟩
theorem entsB_lt {es : List Ent} (hx : ∀ e ∈ es, (∀ x ∈ e.1, x < 256) ∧ (∀ x ∈ e.2, x < 256)) : ∀ x ∈ entsB es, x < 256 := by
  intro x h1
  simp only [entsB, List.mem_flatMap, entB] at h1
  obtain ⟨e, he, h1⟩ := h1
  rcases List.mem_append.1 h1 with h1 | h1
  · exact text_lt (hx e he).1 x h1
  · exact text_lt (hx e he).2 x h1
theorem ents_lt' {es : List Ent} (n : Nat) (hx : ∀ e ∈ es, (∀ x ∈ e.1, x < 256) ∧ (∀ x ∈ e.2, x < 256)) : ∀ x ∈ num n ++ entsB es, x < 256 := by
  intro x h
  rcases List.mem_append.1 h with h | h
  · exact num_lt _ x h
  · exact entsB_lt hx x h
set_option maxHeartbeats 2000000 in
theorem refEntries_some (b off len cap : Nat) (es : List Ent) (w : World) (h : IsE w (some ⟨b, off, none⟩) len cap es) (h0 : 0 < len) :
    Calls Try.prog 33 #[.slice (some ⟨b, off, none⟩) len cap] w fun e w' =>
      ((∃ a' c' l, entries es = .ok l ∧ e = .returned (.tuple #[.slice a' l.length c', .int .i64 0]) ∧ IsB w' a' l.length c' l) ∨
       (∃ k : Nat, entries es = .error k ∧ k ≠ 0 ∧ e = .returned (.tuple #[.slice none 0 0, .int .i64 k]))) ∧ Below w.heap.size w w' := by
  have hcl : len ≤ cap := h.2.1
  have hcm : cap ≤ 9223372036854775807 := h.2.2.1
  have Hlen := hide h.1
  have HLT := hide h.lts'
  have H := hide h
  by_cases h16 : 4096 < len
  · have HN : Hid (entries es = .error 3) := hide (by unfold entries; rw [if_pos (by have := Hlen.out; omega)])
    clear h
    go_enter Try.func33, Try.ntmps33
    go_wp2
    go_ret2
    exact ⟨.inr ⟨3, HN.out, by decide, rfl⟩, Below.refl _ _⟩
  clear h
  go_enter Try.func33, Try.ntmps33
  go_wp2_with fail
  go_loopw [5, 14] (fun _ i wr => ∃ k : Nat, k ≤ len ∧ i = .int .i64 k ∧ Hid ((es.take k).any (fun e => decide (256 < e.1.length ∨ 512 < e.2.length)) = false) ∧ Below w.heap.size w wr) (fun _ i _ => len - (intOf i).toNat)
  case atStart => exact ⟨0, by omega, rfl, hide (by simp), Below.refl _ _⟩
  case round =>
    obtain ⟨k, hk, rfl, HA, hbel⟩ := hrel
    by_cases hlt : k < len
    · obtain ⟨⟨ek, ev⟩, hp⟩ : ∃ p, es[k]? = some p := ⟨es[k]'(by have := Hlen.out; omega), List.getElem?_eq_getElem _⟩
      obtain ⟨b', off', hbe, hblt, hc⟩ := (H.out.below hbel).2.2.2.resolve_left (fun h => by omega)
      cases hbe
      obtain ⟨ka, kc, va, vc, c1, c2, b1, b2⟩ := hc k _ hp
      have HP := hide hp
      have hz1 : ek.length ≤ 9223372036854775807 := Nat.le_trans b1.2.1 b1.2.2.1
      have hz2 : ev.length ≤ 9223372036854775807 := Nat.le_trans b2.2.1 b2.2.2.1
      clear hc hp b1 b2
      have d1 : decide ((k : Int) < (len : Int)) = true := by simp; omega
      have HB1 : Hid (∀ o : Obj, Below w.heap.size w (wr.alloc o)) := hide (fun o => hbel.alloc hbel.size o)
      dsimp only at c1 c2
      by_cases hkl : 256 < ek.length
      · have HN : Hid (entries es = .error 4) := hide (by
          unfold entries; rw [if_neg (by have := Hlen.out; omega), any_hit HP.out (.inl hkl)]; rfl)
        have d2 : decide ((256 : Int) < (ek.length : Int)) = true := by simp; omega
        have d3 : decide (256 < ek.length) = true := by simp; omega
        go_wp2
        go_ret2
        exact ⟨.inr ⟨4, HN.out, by decide, rfl⟩, HB1.out _⟩
      have d2 : decide ((256 : Int) < (ek.length : Int)) = false := by simp; omega
      have d3 : decide (256 < ek.length) = false := by simp; omega
      by_cases hvl : 512 < ev.length
      · have HN : Hid (entries es = .error 4) := hide (by
          unfold entries; rw [if_neg (by have := Hlen.out; omega), any_hit HP.out (.inr hvl)]; rfl)
        have d4 : decide ((512 : Int) < (ev.length : Int)) = true := by simp; omega
        have d5 : decide (512 < ev.length) = true := by simp; omega
        go_wp2
        go_ret2
        exact ⟨.inr ⟨4, HN.out, by decide, rfl⟩, HB1.out _⟩
      · have d4 : decide ((512 : Int) < (ev.length : Int)) = false := by simp; omega
        have d5 : decide (512 < ev.length) = false := by simp; omega
        have HA2 := hide (any_take_succ HP.out HA.out (by simp only; omega) (by simp only; omega))
        go_wp2
        go_roundw
        case rel => exact ⟨k + 1, by omega, by go_num, HA2, HB1.out _⟩
        case measure => simp [intOf]; omega
    · obtain rfl : k = len := by omega
      have HALL : Hid (es.any (fun e => decide (256 < e.1.length ∨ 512 < e.2.length)) = false) := hide (by have := HA.out; rwa [List.take_of_length_le (by rw [Hlen.out]; exact Nat.le_refl _)] at this)
      have HFIT : Hid (∀ e ∈ es, fits e) := hide ((any_fits es).1 HALL.out)
      clear HA
      have hbw := hbel.size
      have HN : Hid (entries es = .ok (num k ++ entsB es)) := hide (by
        unfold entries; rw [if_neg (by have := Hlen.out; omega), HALL.out, if_neg (by decide), Hlen.out])
      have hnl := num_len10 (n := k) (by omega)
      go_wp2_with fail
      refine (refNum_any none 0 0 k [] _ (isB_nil _) (by omega) (by omega)).mono ?_
      rintro e w2 ⟨v2, rfl, hown2, hb2⟩
      rw [Nat.zero_add, List.nil_append] at hown2
      obtain ⟨a2, c2, rfl, hB2⟩ := owns_isB hown2 (num_lt k)
      have h2 := hbel.trans (hb2.mono hbw)
      clear hb2 hbel hbw hown2
      go_wp2_with fail
      go_loopw [6, 8, 35] (fun x _ i wr => ∃ (j q : Nat) (ax : Option Addr) (cx : Nat), j ≤ k ∧ i = .int .i64 j ∧ x = .slice ax q cx ∧ Hid (IsB wr ax q cx (num k ++ entsB (es.take j))) ∧ q ≤ 10 + j * 1044 ∧ Below w.heap.size w wr) (fun _ _ i _ => k - (intOf i).toNat)
      case atStart => exact ⟨0, (num k).length, a2, c2, by omega, rfl, rfl, hide (by simpa [entsB] using hB2), by omega, h2⟩
      case round =>
        obtain ⟨j, q, ax, cx, hj, rfl, rfl, HX, hq, hbel⟩ := hrel
        clear hB2 h2
        have hbw := hbel.size
        by_cases hlt2 : j < k
        · obtain ⟨⟨ek, ev⟩, hp⟩ : ∃ p, es[j]? = some p := ⟨es[j]'(by have := Hlen.out; omega), List.getElem?_eq_getElem _⟩
          obtain ⟨b', off', hbe, hblt, hc⟩ := (H.out.below hbel).2.2.2.resolve_left (fun h => by omega)
          cases hbe
          obtain ⟨ka, kc, va, vc, c1, c2, b1, b2⟩ := hc j _ hp
          dsimp only at c1 c2 b1 b2
          have hfit := HFIT.out _ (List.mem_of_getElem? hp)
          have hf1 : ek.length ≤ 256 := hfit.1
          have hf2 : ev.length ≤ 512 := hfit.2
          have hx12 := HLT.out _ (List.mem_of_getElem? hp)
          have HB : Hid (num k ++ entsB (es.take (j + 1)) = (num k ++ entsB (es.take j)) ++ text ek ++ text ev) := hide (by rw [entsB_take_succ hp]; simp)
          have ht1 := text_len (s := ek) (by omega)
          have ht2 := text_len (s := ev) hf2
          have HTK : Hid (num (str ek).size ++ bl (str ek) = text ek ∧ (num (str ek).size).length + (str ek).size = (text ek).length) := hide (by rw [str_size, bl_str hx12.1, text]; simp)
          have HTV : Hid (num (str ev).size ++ bl (str ev) = text ev ∧ (num (str ev).size).length + (str ev).size = (text ev).length) := hide (by rw [str_size, bl_str hx12.2, text]; simp)
          have HXL : Hid (∀ x ∈ num k ++ entsB (es.take j) ++ text ek, x < 256) := hide (by
            intro x hx
            rcases List.mem_append.1 hx with hx | hx
            · exact HX.out.2.2.2.1 x hx
            · exact text_lt hx12.1 x hx)
          have HXL2 : Hid (∀ x ∈ num k ++ entsB (es.take (j + 1)), x < 256) := hide (ents_lt' k (fun e he => HLT.out e (List.mem_of_mem_take he)))
          have hw0 : Below wr.heap.size wr (wr.alloc (.cells #[.slice ka ek.length kc, .slice va ev.length vc] 78)).drew := Below.drew ((Below.refl _ _).alloc (Nat.le_refl _) _)
          have hcvk := conv_str (b1.below hw0)
          have hcvv := conv_str (b2.below hw0)
          have hE : (wr.alloc (.cells #[.slice ka ek.length kc, .slice va ev.length vc] 78)).drew.heap[wr.heap.size]? = some (.cells #[.slice ka ek.length kc, .slice va ev.length vc] 78 (0, 0)) := heap_alloc_new wr _
          have hEs : wr.heap.size < (wr.alloc (.cells #[.slice ka ek.length kc, .slice va ev.length vc] 78)).drew.heap.size := by simp
          have C1 := hide (refText_any ax q cx (str ek) (num k ++ entsB (es.take j)) _ (HX.out.below hw0) (by rw [str_size]; omega))
          have HV1 : Hid (∀ W, Below wr.heap.size wr W → IsB W va ev.length vc ev) := hide (fun W hW => b2.below hW)
          have HSV : Hid ((str ev).size ≤ 512) := hide (by rw [str_size]; exact hf2)
          have d1 : decide ((j : Int) < (k : Int)) = true := by simp; omega
          have HW0 := hide hw0
          have HE := hide hE
          have HEs := hide hEs
          have HBEL := hide hbel
          clear hc hp b1 b2 hfit hw0 hE hEs hx12 HX hbel
          go_wp2
          go_region_with (first | (go_at_call_of 19 (Value.slice ax q cx); refine C1.out.mono ?_; rintro e w2 ⟨v2, rfl, hown2, hb2⟩; rw [List.append_assoc, HTK.out.1, Nat.add_assoc, HTK.out.2] at hown2; obtain ⟨a2, c3, rfl, hB2⟩ := owns_isB hown2 HXL.out; have hw2 : Below wr.heap.size wr w2 := HW0.out.trans (hb2.mono HW0.out.size); have hcell2 : w2.cell? ⟨wr.heap.size, 1, none⟩ = some (.slice va ev.length vc) := (by unfold World.cell?; rw [hb2.block _ HEs.out, HE.out]; rfl); have hcv2 := conv_str (HV1.out _ hw2); clear hown2 hb2) | (go_at_call_of 19 (Value.slice a2 (q + (text ek).length) c3); refine (refText_any a2 _ c3 (str ev) _ w2 hB2 (by have := HSV.out; omega)).mono ?_; rintro e w3 ⟨v3, rfl, hown3, hb3⟩; rw [List.append_assoc, HTV.out.1, Nat.add_assoc, HTV.out.2, ← HB.out] at hown3; obtain ⟨a4, c4, rfl, hB4⟩ := owns_isB hown3 HXL2.out; have hw3 : Below wr.heap.size wr w3 := hw2.trans (hb3.mono hw2.size); clear hown3 hb3))
          all_goals
            have hb3 : Below w.heap.size w w3 := HBEL.out.trans (hw3.mono HBEL.out.size)
            clear hcell2 hw2 hB2 hcv2 hw3
            go_wp2
            go_roundw
            case rel => exact ⟨j + 1, q + (text ek).length + (text ev).length, a4, c4, by omega, by go_num, rfl, hide hB4, by omega, hb3⟩
            case measure => simp [intOf]; omega
        · obtain rfl : j = k := by omega
          have et : es.take j = es := List.take_of_length_le (by rw [Hlen.out]; exact Nat.le_refl _)
          rw [et] at HX
          have hql : Hid ((num j ++ entsB es).length = q) := hide HX.out.1
          clear et
          go_wp2
          go_ret2
          exact ⟨.inl ⟨_, _, _, HN.out, by rw [hql.out]; rfl, by rw [hql.out]; exact HX.out⟩, hbel⟩
theorem copy_none (a : Option Addr) (cap : Nat) (w : World) : Calls Try.prog 31 #[.slice a 0 cap] w fun e w' => e = .returned (.slice none 0 0) ∧ w' = w := by
  go_enter Try.func31, Try.ntmps31
  go_wp2_with fail
  go_loop [3, 8] (fun x i => x = .slice none 0 0 ∧ i = .int .i64 0) (fun _ _ => 0)
  case atStart => exact ⟨rfl, rfl⟩
  case round =>
    obtain ⟨rfl, rfl⟩ := hrel
    go_wp2
    go_ret
    exact ⟨rfl, rfl⟩
/-- ladingref03.Copy -/
theorem copy_any (a : Option Addr) (len cap : Nat) (es : List Ent) (w : World) (h : IsE w a len cap es) (hr : len * 48 ≤ 140737488355328) (hrs : ∀ e ∈ es, e.1.length ≤ 140737488355328 ∧ e.2.length ≤ 140737488355328) :
    Calls Try.prog 31 #[.slice a len cap] w fun e w' => (∃ a' c', e = .returned (.slice a' len c') ∧ IsE w' a' len c' es) ∧ Below w.heap.size w w' := by
  by_cases h0 : len = 0
  · subst h0
    obtain rfl : es = [] := List.length_eq_zero_iff.1 h.1
    refine (copy_none a cap w).mono ?_
    rintro e w' ⟨rfl, rfl⟩
    exact ⟨⟨none, 0, rfl, rfl, Nat.le_refl _, Nat.zero_le _, .inl ⟨rfl, fun _ => rfl⟩⟩, Below.refl _ _⟩
  · obtain ⟨b, off, rfl, _, _⟩ := h.2.2.2.resolve_left (fun h => h0 h.1)
    exact copy_some b off len cap es w h (by omega) hr hrs
theorem refEntries_none (a : Option Addr) (cap : Nat) (w : World) : Calls Try.prog 33 #[.slice a 0 cap] w fun e w' => (∃ a' c', e = .returned (.tuple #[.slice a' 1 c', .int .i64 0]) ∧ IsB w' a' 1 c' [0]) ∧ Below w.heap.size w w' := by
  go_enter Try.func33, Try.ntmps33
  go_wp2_with fail
  go_loop [14] (fun i => i = .int .i64 0) (fun _ => 0)
  case atStart => exact rfl
  case round =>
    obtain rfl := hrel
    go_wp2_with fail
    refine (refNum_any none 0 0 0 [] w (isB_nil _) (by decide) (by decide)).mono ?_
    rintro e w2 ⟨v2, rfl, hown2, hb2⟩
    rw [num_small (by decide)] at hown2
    have hown3 : w2.ownsRow w.heap.size 5 1 v2 1 (bv [0]) := hown2
    obtain ⟨a3, c3, rfl, hB3⟩ := owns_isB hown3 (by decide)
    clear hown2 hown3
    go_wp2_with fail
    go_loop [6, 35] (fun x i => x = .slice a3 1 c3 ∧ i = .int .i64 0) (fun _ _ => 0)
    case atStart => exact ⟨rfl, rfl⟩
    case round =>
      obtain ⟨rfl, rfl⟩ := hrel
      go_wp2
      go_ret2
      exact ⟨⟨_, _, rfl, hB3⟩, hb2⟩
/-- ladingref03.Entries -/
theorem refEntries_any (a : Option Addr) (len cap : Nat) (es : List Ent) (w : World) (h : IsE w a len cap es) :
    Calls Try.prog 33 #[.slice a len cap] w fun e w' =>
      ((∃ a' c' l, entries es = .ok l ∧ e = .returned (.tuple #[.slice a' l.length c', .int .i64 0]) ∧ IsB w' a' l.length c' l) ∨
       (∃ k : Nat, entries es = .error k ∧ k ≠ 0 ∧ e = .returned (.tuple #[.slice none 0 0, .int .i64 k]))) ∧ Below w.heap.size w w' := by
  by_cases h0 : len = 0
  · subst h0
    obtain rfl : es = [] := List.length_eq_zero_iff.1 h.1
    refine (refEntries_none a cap w).mono ?_
    rintro e w' ⟨⟨a', c', rfl, hB⟩, hb⟩
    have he : entries [] = .ok [0] := by
      unfold entries; simp [entsB, num_small]
    exact ⟨.inl ⟨a', c', _, he, rfl, hB⟩, hb⟩
  · obtain ⟨b, off, rfl, _, _⟩ := h.2.2.2.resolve_left (fun h => h0 h.1)
    exact refEntries_some b off len cap es w h (by omega)
end Go.Proofs.Ytnimlpbalfamcaa
