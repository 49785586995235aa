/- contracts: the document's Parse, of a text with a sign -/
import Derived.Test.YtjhlilamnbbkbaaDoorR4
namespace Go.Proofs.YtjhlilamnbbkbaaDoor
open Go.RowKit Go.Shelf Go.Sort Go.Lib
set_option maxRecDepth 20000 in
set_option maxHeartbeats 8000000 in
theorem refParse_down (T : List UInt8) (hT : T.length ≤ 140737488355328) (w : World) (h4 : 4 ≤ T.length) (s : ByteArray) (hsL : s.size = T.length + 1) (iL0 : ∀ h, (s[0]'h).toNat = 45) (eL : s.extract 1 (T.length + 1) = ⟨T.toArray⟩) :
    Calls Tryd.prog 27 #[.string s] w fun e w' => e = .returned (.tuple #[.int .i64 (parB T true).1, .int .i64 (parB T true).2]) ∧ Below w.heap.size w w' := by
  have iL : (s[0]'(by rw [hsL]; omega)).toNat = 45 := iL0 _
  clear iL0
  have hsz : (⟨T.toArray⟩ : ByteArray).size = T.length := by simp [ByteArray.size]
  obtain ⟨x0, hx0⟩ : ∃ x, x = (T.getD 0 0).toNat := ⟨_, rfl⟩
  obtain ⟨xd, hxd⟩ : ∃ x, x = (T.getD (T.length - 3) 0).toNat := ⟨_, rfl⟩
  have i0 : ((⟨T.toArray⟩ : ByteArray)[0]'(by rw [hsz]; omega)).toNat = x0 := by rw [at_str, hx0]
  have i3 : ((⟨T.toArray⟩ : ByteArray)[T.length - 3]'(by rw [hsz]; omega)).toNat = xd := by rw [at_str, hxd]
  by_cases hB : Bad T
  · have HB := hide (parB_bad T true (.inl hB))
    by_cases hd : xd = 46
    · by_cases hz : x0 = 48
      · have h5 : 4 < T.length := by
          rcases hB with h | h | h
          · omega
          · exact absurd ((u8_eq _ 46 (by decide)).2 (by omega)) h
          · exact h.2
        have t1 : ((xd : Int) != 46) = false := by simp; omega
        have t2 : ((x0 : Int) == 48) = true := by simp; omega
        clear hx0 hxd hd hz hB
        go_enter Tryd.func27, Tryd.ntmps27
        go_wp2
        go_ret2
        exact ⟨by rw [HB.out]; rfl, Below.refl _ _⟩
      · rcases hB with h | h | h
        · omega
        · exact absurd ((u8_eq _ 46 (by decide)).2 (by omega)) h
        · exact absurd ((u8_eq _ 48 (by decide)).1 h.1) (by omega)
    · have t1 : ((xd : Int) != 46) = true := by simp; omega
      clear hx0 hxd hd hB
      go_enter Tryd.func27, Tryd.ntmps27
      go_wp2
      go_ret2
      exact ⟨by rw [HB.out]; rfl, Below.refl _ _⟩
  · have t1 : ((xd : Int) != 46) = false := by
      have : T.getD (T.length - 3) 0 = 46 := by
        by_cases h : T.getD (T.length - 3) 0 = 46
        · exact h
        · exact absurd (.inr (.inl h)) hB
      have := (u8_eq _ 46 (by decide)).1 this
      simp; omega
    have t2 : ((x0 : Int) == 48) = false ∨ (((x0 : Int) == 48) = true ∧ T.length = 4) := by
      by_cases h : x0 = 48
      · right
        have := (u8_eq (T.getD 0 0) 48 (by decide)).2 (by omega)
        by_cases h5 : 4 < T.length
        · exact absurd (.inr (.inr ⟨this, h5⟩)) hB
        · exact ⟨by simp; omega, by omega⟩
      · left; simp; omega
    have HE := ext_two T
    have PB : Hid (dig (dropDot T) = false → parB T true = (0, 14)) := hide (fun h => parB_bad T true (.inr h))
    have PG : Hid (dig (dropDot T) = true → parB T true = parV (val (dropDot T)) true) := hide (fun h => parB_good T true hB h)
    have hDl : (dropDot T).length ≤ 140737488355328 := by
      unfold dropDot
      simp only [List.length_append, List.length_take, List.length_drop]
      omega
    clear hx0 hxd hB
    obtain ⟨D, hD⟩ : ∃ D, D = dropDot T := ⟨_, rfl⟩
    rw [← hD] at HE PB PG hDl
    clear hD
    rcases t2 with t2 | ⟨t2, t3⟩
    · go_enter Tryd.func27, Tryd.ntmps27
      go_wp2_with fail
      go_quiet (fail)
      go_wp2_with fail
      have hsD : (⟨D.toArray⟩ : ByteArray).size = D.length := by simp [ByteArray.size]
      go_loop [6, 7, 8, 9, 10] (fun s o u i _ => Rel D 9223372036854775808 s o u i) (fun _ _ _ i _ => D.length - (RowKit.intOf i).toNat)
      case atStart => exact rel_start D _
      case round =>
        obtain ⟨k, v, V, sB, oB, hk, rfl, rfl, rfl, rfl, hv, HG⟩ := hrel
        by_cases hlt : k < D.length
        · obtain ⟨x, hx⟩ : ∃ x, (D.getD k 0).toNat = x := ⟨_, rfl⟩
          have hxk : ((⟨D.toArray⟩ : ByteArray)[k]'(by rw [hsD]; exact hlt)).toNat = x := by rw [at_str, hx]
          have HX := hide hx
          clear hx
          by_cases hlo : x < 48
          · have HP := hide (PB.out (got_not hlt HX.out (.inl hlo)))
            go_wp2
            go_ret2
            exact ⟨by rw [HP.out]; rfl, below_drewN (Below.refl _ _) _⟩
          · by_cases hhi : 57 < x
            · have HP := hide (PB.out (got_not hlt HX.out (.inr hhi)))
              go_wp2
              go_ret2
              exact ⟨by rw [HP.out]; rfl, below_drewN (Below.refl _ _) _⟩
            · have HS : Hid ((sB || ((x : Int) != 48)) = true ↔ 0 < V * 10 + (x - 48)) := hide (by
                have h := HG.out.2.2.1
                rw [Bool.or_eq_true, h, bne_iff_ne]
                constructor <;> intro h' <;> omega)
              have HO := hide HG.out.2.2.2.1
              have HV := hide HG.out.2.2.2.2
              have fin : ∀ (sC oC : Bool) (u' i' : Int) (v' : Nat), sC = (sB || ((x : Int) != 48)) → (oC = true ↔ 9223372036854775808 < V * 10 + (x - 48)) → v' ≤ 9223372036854775808 → (V * 10 + (x - 48) ≤ 9223372036854775808 → v' = V * 10 + (x - 48)) → u' = v' → i' = k + 1 → Rel D 9223372036854775808 (.bool sC) (.bool oC) (.int .u64 u') (.int .i64 i') := fun sC oC u' i' v' q1 q2 q3 q4 q5 q6 => rel_next HG.out hlt HX.out (by omega) (by omega) (by rw [q1]; exact HS.out) q2 q3 q4 q5 q6
              have FIN := hide fin
              clear fin
              have ss : (sB = true) ∨ (sB = false ∧ ((x : Int) != 48) = true) ∨ (sB = false ∧ ((x : Int) != 48) = false) := by
                cases sB <;> cases ((x : Int) != 48) <;> simp
              cases oB
              · have hVM : V ≤ 9223372036854775808 := by
                  have h := HO.out
                  simp only [Bool.false_eq_true, false_iff] at h
                  omega
                obtain rfl := HV.out hVM
                rcases Nat.lt_trichotomy v 922337203685477580 with hc | hc | hc
                · have c1 : ¬ (922337203685477580 : Int) < v := by omega
                  have c2 : ((v : Int) == 922337203685477580) = false := by simp; omega
                  rcases ss with rfl | ⟨rfl, t48⟩ | ⟨rfl, t48⟩
                  all_goals go_wp2
                  · exact ⟨FIN.out _ _ _ _ (v * 10 + (x - 48)) rfl ⟨fun h => Bool.noConfusion h, fun h => by omega⟩ (by omega) (by omega) (by omega) (by omega), by simp [RowKit.intOf]; omega⟩
                  · exact ⟨FIN.out _ _ _ _ (v * 10 + (x - 48)) (by first | (rw [t48]; rfl) | (exfalso; simp at t48; omega)) ⟨fun h => Bool.noConfusion h, fun h => by omega⟩ (by omega) (by omega) (by omega) (by omega), by simp [RowKit.intOf]; omega⟩
                  · exact ⟨FIN.out _ _ _ _ (v * 10 + (x - 48)) (by first | (rw [t48]; rfl) | (exfalso; simp at t48; omega)) ⟨fun h => Bool.noConfusion h, fun h => by omega⟩ (by omega) (by omega) (by omega) (by omega), by simp [RowKit.intOf]; omega⟩
                · have c1 : ¬ (922337203685477580 : Int) < v := by omega
                  have c2 : ((v : Int) == 922337203685477580) = true := by simp; omega
                  rcases Nat.lt_trichotomy x 56 with hd | hd | hd
                  · have c3 : ¬ (56 : Int) < x := by omega
                    have c4 : ((x : Int) == 56) = false := by simp; omega
                    rcases ss with rfl | ⟨rfl, t48⟩ | ⟨rfl, t48⟩
                    all_goals go_wp2
                    · exact ⟨FIN.out _ _ _ _ (v * 10 + (x - 48)) rfl ⟨fun h => Bool.noConfusion h, fun h => by omega⟩ (by omega) (by omega) (by omega) (by omega), by simp [RowKit.intOf]; omega⟩
                    · exact ⟨FIN.out _ _ _ _ (v * 10 + (x - 48)) (by first | (rw [t48]; rfl) | (exfalso; simp at t48; omega)) ⟨fun h => Bool.noConfusion h, fun h => by omega⟩ (by omega) (by omega) (by omega) (by omega), by simp [RowKit.intOf]; omega⟩
                    · exact ⟨FIN.out _ _ _ _ (v * 10 + (x - 48)) (by first | (rw [t48]; rfl) | (exfalso; simp at t48; omega)) ⟨fun h => Bool.noConfusion h, fun h => by omega⟩ (by omega) (by omega) (by omega) (by omega), by simp [RowKit.intOf]; omega⟩
                  · have c3 : ¬ (56 : Int) < x := by omega
                    have c4 : ((x : Int) == 56) = true := by simp; omega
                    rcases ss with rfl | ⟨rfl, t48⟩ | ⟨rfl, t48⟩
                    all_goals go_wp2
                    · exact ⟨FIN.out _ _ _ _ (v * 10 + (x - 48)) rfl ⟨fun h => Bool.noConfusion h, fun h => by omega⟩ (by omega) (by omega) (by omega) (by omega), by simp [RowKit.intOf]; omega⟩
                    · exact ⟨FIN.out _ _ _ _ (v * 10 + (x - 48)) (by first | (rw [t48]; rfl) | (exfalso; simp at t48; omega)) ⟨fun h => Bool.noConfusion h, fun h => by omega⟩ (by omega) (by omega) (by omega) (by omega), by simp [RowKit.intOf]; omega⟩
                    · exact ⟨FIN.out _ _ _ _ (v * 10 + (x - 48)) (by first | (rw [t48]; rfl) | (exfalso; simp at t48; omega)) ⟨fun h => Bool.noConfusion h, fun h => by omega⟩ (by omega) (by omega) (by omega) (by omega), by simp [RowKit.intOf]; omega⟩
                  · have c3 : (56 : Int) < x := by omega
                    rcases ss with rfl | ⟨rfl, t48⟩ | ⟨rfl, t48⟩
                    all_goals go_wp2
                    · exact ⟨FIN.out _ _ _ _ (v) rfl ⟨fun _ => by omega, fun _ => rfl⟩ (by omega) (by omega) (by omega) (by omega), by simp [RowKit.intOf]; omega⟩
                    · exact ⟨FIN.out _ _ _ _ (v) (by first | (rw [t48]; rfl) | (exfalso; simp at t48; omega)) ⟨fun _ => by omega, fun _ => rfl⟩ (by omega) (by omega) (by omega) (by omega), by simp [RowKit.intOf]; omega⟩
                    · exact ⟨FIN.out _ _ _ _ (v) (by first | (rw [t48]; rfl) | (exfalso; simp at t48; omega)) ⟨fun _ => by omega, fun _ => rfl⟩ (by omega) (by omega) (by omega) (by omega), by simp [RowKit.intOf]; omega⟩
                · have c1 : (922337203685477580 : Int) < v := by omega
                  rcases ss with rfl | ⟨rfl, t48⟩ | ⟨rfl, t48⟩
                  all_goals go_wp2
                  · exact ⟨FIN.out _ _ _ _ (v) rfl ⟨fun _ => by omega, fun _ => rfl⟩ (by omega) (by omega) (by omega) (by omega), by simp [RowKit.intOf]; omega⟩
                  · exact ⟨FIN.out _ _ _ _ (v) (by first | (rw [t48]; rfl) | (exfalso; simp at t48; omega)) ⟨fun _ => by omega, fun _ => rfl⟩ (by omega) (by omega) (by omega) (by omega), by simp [RowKit.intOf]; omega⟩
                  · exact ⟨FIN.out _ _ _ _ (v) (by first | (rw [t48]; rfl) | (exfalso; simp at t48; omega)) ⟨fun _ => by omega, fun _ => rfl⟩ (by omega) (by omega) (by omega) (by omega), by simp [RowKit.intOf]; omega⟩
              · have hVM : 9223372036854775808 < V := HO.out.1 rfl
                rcases ss with rfl | ⟨rfl, t48⟩ | ⟨rfl, t48⟩
                all_goals go_wp2
                · exact ⟨FIN.out _ _ _ _ (v) rfl ⟨fun _ => by omega, fun _ => rfl⟩ (by omega) (by omega) (by omega) (by omega), by simp [RowKit.intOf]; omega⟩
                · exact ⟨FIN.out _ _ _ _ (v) (by first | (rw [t48]; rfl) | (exfalso; simp at t48; omega)) ⟨fun _ => by omega, fun _ => rfl⟩ (by omega) (by omega) (by omega) (by omega), by simp [RowKit.intOf]; omega⟩
                · exact ⟨FIN.out _ _ _ _ (v) (by first | (rw [t48]; rfl) | (exfalso; simp at t48; omega)) ⟨fun _ => by omega, fun _ => rfl⟩ (by omega) (by omega) (by omega) (by omega), by simp [RowKit.intOf]; omega⟩
        · obtain ⟨hdig, hval⟩ := got_end HG.out hlt
          have HP := hide (PG.out hdig)
          rw [hval] at HP
          have HS := hide HG.out.2.2.1
          have HO := hide HG.out.2.2.2.1
          have HV := hide HG.out.2.2.2.2
          clear hdig hval HG
          have e3 : Hid (wrap64 (IntKind.u64.wrap (bits .xor .u64 IntKind.u64.max (v : Int) + 1)) = -(v : Int)) := hide (by
            rw [show IntKind.u64.max = 18446744073709551615 from rfl, notU _ (by omega) (by omega), wrapU]; unfold wrap64; omega)
          cases sB
          · have hV0 : V = 0 := by
              have h := HS.out
              simp only [Bool.false_eq_true, false_iff] at h
              omega
            subst hV0
            obtain rfl := HV.out (by omega)
            have hO : oB = false := by
              cases oB
              · rfl
              · exact absurd (HO.out.1 rfl) (by omega)
            subst hO
            go_wp2
            go_ret2
            exact ⟨by rw [HP.out]; rfl, below_drewN (Below.refl _ _) _⟩
          · have hV0 := HS.out.1 rfl
            cases oB
            · have hVM : V ≤ 9223372036854775808 := by
                have h := HO.out
                simp only [Bool.false_eq_true, false_iff] at h
                omega
              obtain rfl := HV.out hVM
              go_wp2
              go_ret2
              exact ⟨by rw [HP.out]; unfold parV; rw [if_pos rfl, if_neg (by omega), if_neg (by omega)]; exact ret_two e3.out rfl, below_drewN (Below.refl _ _) _⟩
            · have hVM : 9223372036854775808 < V := HO.out.1 rfl
              go_wp2
              go_ret2
              exact ⟨by rw [HP.out]; unfold parV; rw [if_pos rfl, if_neg (by omega), if_pos hVM]; rfl, below_drewN (Below.refl _ _) _⟩
    · have t4 : ¬ (4 : Int) < T.length := by omega
      clear t3
      go_enter Tryd.func27, Tryd.ntmps27
      go_wp2_with fail
      go_quiet (fail)
      go_wp2_with fail
      have hsD : (⟨D.toArray⟩ : ByteArray).size = D.length := by simp [ByteArray.size]
      go_loop [6, 7, 8, 9, 10] (fun s o u i _ => Rel D 9223372036854775808 s o u i) (fun _ _ _ i _ => D.length - (RowKit.intOf i).toNat)
      case atStart => exact rel_start D _
      case round =>
        obtain ⟨k, v, V, sB, oB, hk, rfl, rfl, rfl, rfl, hv, HG⟩ := hrel
        by_cases hlt : k < D.length
        · obtain ⟨x, hx⟩ : ∃ x, (D.getD k 0).toNat = x := ⟨_, rfl⟩
          have hxk : ((⟨D.toArray⟩ : ByteArray)[k]'(by rw [hsD]; exact hlt)).toNat = x := by rw [at_str, hx]
          have HX := hide hx
          clear hx
          by_cases hlo : x < 48
          · have HP := hide (PB.out (got_not hlt HX.out (.inl hlo)))
            go_wp2
            go_ret2
            exact ⟨by rw [HP.out]; rfl, below_drewN (Below.refl _ _) _⟩
          · by_cases hhi : 57 < x
            · have HP := hide (PB.out (got_not hlt HX.out (.inr hhi)))
              go_wp2
              go_ret2
              exact ⟨by rw [HP.out]; rfl, below_drewN (Below.refl _ _) _⟩
            · have HS : Hid ((sB || ((x : Int) != 48)) = true ↔ 0 < V * 10 + (x - 48)) := hide (by
                have h := HG.out.2.2.1
                rw [Bool.or_eq_true, h, bne_iff_ne]
                constructor <;> intro h' <;> omega)
              have HO := hide HG.out.2.2.2.1
              have HV := hide HG.out.2.2.2.2
              have fin : ∀ (sC oC : Bool) (u' i' : Int) (v' : Nat), sC = (sB || ((x : Int) != 48)) → (oC = true ↔ 9223372036854775808 < V * 10 + (x - 48)) → v' ≤ 9223372036854775808 → (V * 10 + (x - 48) ≤ 9223372036854775808 → v' = V * 10 + (x - 48)) → u' = v' → i' = k + 1 → Rel D 9223372036854775808 (.bool sC) (.bool oC) (.int .u64 u') (.int .i64 i') := fun sC oC u' i' v' q1 q2 q3 q4 q5 q6 => rel_next HG.out hlt HX.out (by omega) (by omega) (by rw [q1]; exact HS.out) q2 q3 q4 q5 q6
              have FIN := hide fin
              clear fin
              have ss : (sB = true) ∨ (sB = false ∧ ((x : Int) != 48) = true) ∨ (sB = false ∧ ((x : Int) != 48) = false) := by
                cases sB <;> cases ((x : Int) != 48) <;> simp
              cases oB
              · have hVM : V ≤ 9223372036854775808 := by
                  have h := HO.out
                  simp only [Bool.false_eq_true, false_iff] at h
                  omega
                obtain rfl := HV.out hVM
                rcases Nat.lt_trichotomy v 922337203685477580 with hc | hc | hc
                · have c1 : ¬ (922337203685477580 : Int) < v := by omega
                  have c2 : ((v : Int) == 922337203685477580) = false := by simp; omega
                  rcases ss with rfl | ⟨rfl, t48⟩ | ⟨rfl, t48⟩
                  all_goals go_wp2
                  · exact ⟨FIN.out _ _ _ _ (v * 10 + (x - 48)) rfl ⟨fun h => Bool.noConfusion h, fun h => by omega⟩ (by omega) (by omega) (by omega) (by omega), by simp [RowKit.intOf]; omega⟩
                  · exact ⟨FIN.out _ _ _ _ (v * 10 + (x - 48)) (by first | (rw [t48]; rfl) | (exfalso; simp at t48; omega)) ⟨fun h => Bool.noConfusion h, fun h => by omega⟩ (by omega) (by omega) (by omega) (by omega), by simp [RowKit.intOf]; omega⟩
                  · exact ⟨FIN.out _ _ _ _ (v * 10 + (x - 48)) (by first | (rw [t48]; rfl) | (exfalso; simp at t48; omega)) ⟨fun h => Bool.noConfusion h, fun h => by omega⟩ (by omega) (by omega) (by omega) (by omega), by simp [RowKit.intOf]; omega⟩
                · have c1 : ¬ (922337203685477580 : Int) < v := by omega
                  have c2 : ((v : Int) == 922337203685477580) = true := by simp; omega
                  rcases Nat.lt_trichotomy x 56 with hd | hd | hd
                  · have c3 : ¬ (56 : Int) < x := by omega
                    have c4 : ((x : Int) == 56) = false := by simp; omega
                    rcases ss with rfl | ⟨rfl, t48⟩ | ⟨rfl, t48⟩
                    all_goals go_wp2
                    · exact ⟨FIN.out _ _ _ _ (v * 10 + (x - 48)) rfl ⟨fun h => Bool.noConfusion h, fun h => by omega⟩ (by omega) (by omega) (by omega) (by omega), by simp [RowKit.intOf]; omega⟩
                    · exact ⟨FIN.out _ _ _ _ (v * 10 + (x - 48)) (by first | (rw [t48]; rfl) | (exfalso; simp at t48; omega)) ⟨fun h => Bool.noConfusion h, fun h => by omega⟩ (by omega) (by omega) (by omega) (by omega), by simp [RowKit.intOf]; omega⟩
                    · exact ⟨FIN.out _ _ _ _ (v * 10 + (x - 48)) (by first | (rw [t48]; rfl) | (exfalso; simp at t48; omega)) ⟨fun h => Bool.noConfusion h, fun h => by omega⟩ (by omega) (by omega) (by omega) (by omega), by simp [RowKit.intOf]; omega⟩
                  · have c3 : ¬ (56 : Int) < x := by omega
                    have c4 : ((x : Int) == 56) = true := by simp; omega
                    rcases ss with rfl | ⟨rfl, t48⟩ | ⟨rfl, t48⟩
                    all_goals go_wp2
                    · exact ⟨FIN.out _ _ _ _ (v * 10 + (x - 48)) rfl ⟨fun h => Bool.noConfusion h, fun h => by omega⟩ (by omega) (by omega) (by omega) (by omega), by simp [RowKit.intOf]; omega⟩
                    · exact ⟨FIN.out _ _ _ _ (v * 10 + (x - 48)) (by first | (rw [t48]; rfl) | (exfalso; simp at t48; omega)) ⟨fun h => Bool.noConfusion h, fun h => by omega⟩ (by omega) (by omega) (by omega) (by omega), by simp [RowKit.intOf]; omega⟩
                    · exact ⟨FIN.out _ _ _ _ (v * 10 + (x - 48)) (by first | (rw [t48]; rfl) | (exfalso; simp at t48; omega)) ⟨fun h => Bool.noConfusion h, fun h => by omega⟩ (by omega) (by omega) (by omega) (by omega), by simp [RowKit.intOf]; omega⟩
                  · have c3 : (56 : Int) < x := by omega
                    rcases ss with rfl | ⟨rfl, t48⟩ | ⟨rfl, t48⟩
                    all_goals go_wp2
                    · exact ⟨FIN.out _ _ _ _ (v) rfl ⟨fun _ => by omega, fun _ => rfl⟩ (by omega) (by omega) (by omega) (by omega), by simp [RowKit.intOf]; omega⟩
                    · exact ⟨FIN.out _ _ _ _ (v) (by first | (rw [t48]; rfl) | (exfalso; simp at t48; omega)) ⟨fun _ => by omega, fun _ => rfl⟩ (by omega) (by omega) (by omega) (by omega), by simp [RowKit.intOf]; omega⟩
                    · exact ⟨FIN.out _ _ _ _ (v) (by first | (rw [t48]; rfl) | (exfalso; simp at t48; omega)) ⟨fun _ => by omega, fun _ => rfl⟩ (by omega) (by omega) (by omega) (by omega), by simp [RowKit.intOf]; omega⟩
                · have c1 : (922337203685477580 : Int) < v := by omega
                  rcases ss with rfl | ⟨rfl, t48⟩ | ⟨rfl, t48⟩
                  all_goals go_wp2
                  · exact ⟨FIN.out _ _ _ _ (v) rfl ⟨fun _ => by omega, fun _ => rfl⟩ (by omega) (by omega) (by omega) (by omega), by simp [RowKit.intOf]; omega⟩
                  · exact ⟨FIN.out _ _ _ _ (v) (by first | (rw [t48]; rfl) | (exfalso; simp at t48; omega)) ⟨fun _ => by omega, fun _ => rfl⟩ (by omega) (by omega) (by omega) (by omega), by simp [RowKit.intOf]; omega⟩
                  · exact ⟨FIN.out _ _ _ _ (v) (by first | (rw [t48]; rfl) | (exfalso; simp at t48; omega)) ⟨fun _ => by omega, fun _ => rfl⟩ (by omega) (by omega) (by omega) (by omega), by simp [RowKit.intOf]; omega⟩
              · have hVM : 9223372036854775808 < V := HO.out.1 rfl
                rcases ss with rfl | ⟨rfl, t48⟩ | ⟨rfl, t48⟩
                all_goals go_wp2
                · exact ⟨FIN.out _ _ _ _ (v) rfl ⟨fun _ => by omega, fun _ => rfl⟩ (by omega) (by omega) (by omega) (by omega), by simp [RowKit.intOf]; omega⟩
                · exact ⟨FIN.out _ _ _ _ (v) (by first | (rw [t48]; rfl) | (exfalso; simp at t48; omega)) ⟨fun _ => by omega, fun _ => rfl⟩ (by omega) (by omega) (by omega) (by omega), by simp [RowKit.intOf]; omega⟩
                · exact ⟨FIN.out _ _ _ _ (v) (by first | (rw [t48]; rfl) | (exfalso; simp at t48; omega)) ⟨fun _ => by omega, fun _ => rfl⟩ (by omega) (by omega) (by omega) (by omega), by simp [RowKit.intOf]; omega⟩
        · obtain ⟨hdig, hval⟩ := got_end HG.out hlt
          have HP := hide (PG.out hdig)
          rw [hval] at HP
          have HS := hide HG.out.2.2.1
          have HO := hide HG.out.2.2.2.1
          have HV := hide HG.out.2.2.2.2
          clear hdig hval HG
          have e3 : Hid (wrap64 (IntKind.u64.wrap (bits .xor .u64 IntKind.u64.max (v : Int) + 1)) = -(v : Int)) := hide (by
            rw [show IntKind.u64.max = 18446744073709551615 from rfl, notU _ (by omega) (by omega), wrapU]; unfold wrap64; omega)
          cases sB
          · have hV0 : V = 0 := by
              have h := HS.out
              simp only [Bool.false_eq_true, false_iff] at h
              omega
            subst hV0
            obtain rfl := HV.out (by omega)
            have hO : oB = false := by
              cases oB
              · rfl
              · exact absurd (HO.out.1 rfl) (by omega)
            subst hO
            go_wp2
            go_ret2
            exact ⟨by rw [HP.out]; rfl, below_drewN (Below.refl _ _) _⟩
          · have hV0 := HS.out.1 rfl
            cases oB
            · have hVM : V ≤ 9223372036854775808 := by
                have h := HO.out
                simp only [Bool.false_eq_true, false_iff] at h
                omega
              obtain rfl := HV.out hVM
              go_wp2
              go_ret2
              exact ⟨by rw [HP.out]; unfold parV; rw [if_pos rfl, if_neg (by omega), if_neg (by omega)]; exact ret_two e3.out rfl, below_drewN (Below.refl _ _) _⟩
            · have hVM : 9223372036854775808 < V := HO.out.1 rfl
              go_wp2
              go_ret2
              exact ⟨by rw [HP.out]; unfold parV; rw [if_pos rfl, if_neg (by omega), if_pos hVM]; rfl, below_drewN (Below.refl _ _) _⟩
end Go.Proofs.YtjhlilamnbbkbaaDoor
