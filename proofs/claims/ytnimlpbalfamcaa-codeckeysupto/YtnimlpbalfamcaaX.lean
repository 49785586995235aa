/- contracts: the document's Key, part, ReadKey -/
import Derived.Test.YtnimlpbalfamcaaV
namespace Go.Proofs.Ytnimlpbalfamcaa
open Go.RowKit Cod
/-- a block that holds no bytes is no row of bytes -/
theorem own_ne5 {w : World} {base size n N : Nat} {v : Value} {xs : List Value} {cs : Array Value} {t : TypeId} {m : Nat × Nat} (h : w.ownsRow base 5 size v n xs) (hN : w.heap[N]? = some (.cells cs t m)) (ht : t ≠ 5) : v.ownBlock ≠ some N := by
  intro e
  rcases h.2 with ⟨rfl, _⟩ | ⟨g, c, cur, rfl, _, hg, _⟩
  · cases e
  · cases e
    simp only at hN
    rw [hg] at hN
    simp at hN
    exact ht hN.2.1.symm
/-- bytes behind bytes of one's own; a block of another kind is as it was -/
theorem wpList_byte_k {w : World} {ops : Array Oper} {rest : List Oper} {o : Oper} {a : Act} {Q : Exit → Act → World → Prop} (hgd : o.guard = none) (s x : Operand)
    (ho : o.op = .call { callee := .builtin .append, args := #[s, x], argTypes := #[22, 22] }) (base : Nat) (v : Value) (n : Nat) (l : List Nat) (hs : a.eval s = v) (hown : w.ownsRow base 5 1 v n (bv l))
    (q : Int) (u : Nat) (hq : q = (u : Int)) (Hs : Nat) (hHs : w.heap.size = Hs) (hx : a.eval x = .slice (some ⟨Hs, 0, none⟩) 1 1) (hb : n + 1 ≤ 140737488355328) (hbase : base ≤ w.heap.size) (w0 : World) (hbel : Below base w0 w)
    (N : Nat) (cs : Array Value) (t : TypeId) (ht : t ≠ 5) (hN : w.heap[N]? = some (.cells cs t (0, 0)))
    (h : ∀ v' w', w'.ownsRow base 5 1 v' (n + 1) (bv (l ++ [u])) → Below base w0 w' → w'.heap[N]? = some (.cells cs t (0, 0)) → wpList Try.prog ops Q rest (a.put o.dst v') w') : wpList Try.prog ops Q (o :: rest) a (w.alloc (.cells #[.int .u8 q] 5)) := by
  subst hHs
  refine wpList_byte_g hgd s x ho base v n l hs hown q u hq hx hb hbase ?_
  intro v' w' ho' hg
  have hlt : N < w.heap.size := by
    by_cases h : N < w.heap.size
    · exact h
    · rw [Array.getElem?_eq_none (by omega)] at hN; cases hN
  exact h v' w' ho' ((hbel.alloc hbase _).grown hg (by simp; omega) (fun k hk => (hown.lt k hk).1)) ((hg.block N (by simp; omega) (fun e => own_ne5 hown hN ht e.symm)).trans ((Below.heap_alloc _ _ _ hlt).trans hN))
theorem str_ne {s : List Nat} (h : s ≠ []) : (str s).toList.isEmpty = false := by
  rw [ByteArray.toList_eq]; cases s with
  | nil => exact absurd rfl h
  | cons x t => rfl
set_option maxRecDepth 10000 in
set_option maxHeartbeats 4000000 in
theorem refKey_some (b off len cap : Nat) (ps : List Part) (w : World) (h : IsP w (some ⟨b, off, none⟩) len cap ps) (h0 : 0 < len) (hmax : ∀ p ∈ ps, p.s.length ≤ 1048576) :
    Calls Try.prog 27 #[.slice (some ⟨b, off, none⟩) len cap] w fun e w' =>
      ((∃ v, key ps = .ok (keyB ps) ∧ e = .returned (.tuple #[v, .int .i64 0]) ∧ w'.ownsRow w.heap.size 5 1 v (keyB ps).length (bv (keyB ps))) ∨
       (∃ k : Nat, key ps = .error k ∧ k ≠ 0 ∧ e = .returned (.tuple #[.slice none 0 0, .int .i64 k]))) ∧ Below w.heap.size w w' := by
  have hlen := h.1
  have hcl := h.2.1
  have hcm : cap ≤ 9223372036854775807 := h.2.2.1
  have hok := h.2.2.2.1
  by_cases h16 : 16 < len
  · have HN : Hid (key ps = .error 3) := hide (by unfold key; rw [if_pos (by omega)])
    go_enter Try.func27, Try.ntmps27
    go_wp2
    go_ret2
    exact ⟨.inr ⟨3, HN.out, by decide, rfl⟩, Below.refl _ _⟩
  have Hok := hide hok
  have Hmax := hide hmax
  have H := hide h
  have Hlen := hide hlen
  clear h hok hmax hlen
  go_enter Try.func27, Try.ntmps27
  go_wp2_with fail
  go_loopw [5, 16] (fun _ i wr => ∃ k : Nat, k ≤ len ∧ i = .int .i64 k ∧ Hid ((ps.take k).all isPart = true) ∧ Below w.heap.size w wr) (fun _ i _ => len - (intOf i).toNat)
  case atStart => exact ⟨0, by omega, rfl, hide (by simp), Below.refl _ _⟩
  case round =>
    obtain ⟨k, hk, rfl, HA, hbel⟩ := hrel
    by_cases hlt : k < len
    · obtain ⟨⟨pk, pn, pS⟩, hp⟩ : ∃ p, ps[k]? = some p := ⟨ps[k]'(by have := Hlen.out; omega), List.getElem?_eq_getElem _⟩
      obtain ⟨b', off', hbe, hblt, hc⟩ := (H.out.below hbel).2.2.2.2.resolve_left (fun h => by omega)
      cases hbe
      obtain ⟨c1, c2, c3⟩ := hc k _ hp
      dsimp only at c1 c2 c3
      have HP := hide hp
      clear hc hp
      have d1 : decide ((k : Int) < (len : Int)) = true := by simp; omega
      have HB1 : Hid (∀ o : Obj, Below w.heap.size w (wr.alloc o)) := hide (fun o => hbel.alloc hbel.size o)
      have NOT : Hid (isPart ⟨pk, pn, pS⟩ = false → key ps = .error 15) := hide (fun hf => by
        unfold key; rw [if_neg (by have := Hlen.out; omega), all_not HP.out hf]; rfl)
      have YES : Hid (isPart ⟨pk, pn, pS⟩ = true → (ps.take (k + 1)).all isPart = true) := hide (fun hf => all_take_succ HP.out HA.out hf)
      clear HA hbel
      by_cases hk1 : pk = 1
      · have e1 : ((pk : Int) != 1) = false := by simp; omega
        have e2 : ((pk : Int) == 1) = true := by simp; omega
        have e3 : ((pk : Int) == 2) = false := by simp; omega
        by_cases hs0 : pS = []
        · subst hs0
          have YS := hide (YES.out (by simp [isPart, hk1]))
          have e4 : (str ([] : List Nat)).toList.isEmpty = true := by rw [ByteArray.toList_eq]; rfl
          clear hk1
          go_wp2
          go_roundw
          case rel => exact ⟨k + 1, by omega, by go_num, YS, HB1.out _⟩
          case measure => simp [intOf]; omega
        · have NS := hide (NOT.out (by simp [isPart, hk1, hs0]))
          have e4 := str_ne hs0
          clear hk1 hs0
          generalize str pS = sS at *
          go_wp2
          go_ret2
          exact ⟨.inr ⟨15, NS.out, by decide, rfl⟩, HB1.out _⟩
      have e1 : ((pk : Int) != 1) = true := by simp; omega
      have e2 : ((pk : Int) == 1) = false := by simp; omega
      by_cases hk2 : pk = 2
      · have e3 : ((pk : Int) != 2) = false := by simp; omega
        have e4 : ((pk : Int) == 2) = true := by simp; omega
        by_cases hn0 : pn = 0
        · have YS := hide (YES.out (by simp [isPart, hk2, hn0]))
          have e5 : ((pn : Int) != 0) = false := by simp; omega
          clear hk1 hk2 hn0
          generalize str pS = sS at *
          go_wp2
          go_roundw
          case rel => exact ⟨k + 1, by omega, by go_num, YS, HB1.out _⟩
          case measure => simp [intOf]; omega
        · have NS := hide (NOT.out (by simp [isPart, hk2, hn0]))
          have e5 : ((pn : Int) != 0) = true := by simp; omega
          clear hk1 hk2 hn0
          generalize str pS = sS at *
          go_wp2
          go_ret2
          exact ⟨.inr ⟨15, NS.out, by decide, rfl⟩, HB1.out _⟩
      · have NS := hide (NOT.out (by simp [isPart, hk1, hk2]))
        have e3 : ((pk : Int) != 2) = true := by simp; omega
        clear hk1 hk2
        generalize str pS = sS at *
        go_wp2
        go_ret2
        exact ⟨.inr ⟨15, NS.out, by decide, rfl⟩, HB1.out _⟩
    · obtain rfl : k = len := by omega
      have HALL : Hid (ps.all isPart = true) := hide (by have := HA.out; rwa [List.take_of_length_le (by rw [Hlen.out]; exact Nat.le_refl _)] at this)
      clear HA
      go_wp2_with fail
      go_loopw [6, 8, 9, 10, 51] (fun x _ _ _ i wr => ∃ j q : Nat, j ≤ k ∧ i = .int .i64 j ∧ q ≤ 256 + j * 9 ∧ wr.ownsRow w.heap.size 5 1 x q (bv (keyB (ps.take j))) ∧ Hid (q = (keyB (ps.take j)).length) ∧ Below w.heap.size w wr) (fun _ _ _ _ i _ => k - (intOf i).toNat)
      case atStart => exact ⟨0, 0, by omega, rfl, by omega, World.ownsRow_nil _ _ _ _, hide rfl, hbel⟩
      case round =>
        obtain ⟨j, q, hj, rfl, hq, hown, HQ, hbel2⟩ := hrel
        clear hbel
        have hbw := hbel2.size
        by_cases hlt2 : j < k
        · obtain ⟨⟨pk, pn, pS⟩, hp⟩ : ∃ p, ps[j]? = some p := ⟨ps[j]'(by have := Hlen.out; omega), List.getElem?_eq_getElem _⟩
          obtain ⟨b', off', hbe, hblt, hc⟩ := (H.out.below hbel2).2.2.2.2.resolve_left (fun h => by omega)
          cases hbe
          obtain ⟨c1, c2, c3⟩ := hc j _ hp
          dsimp only at c1 c2 c3
          have hmem := List.mem_of_getElem? hp
          have hokp := Hok.out _ hmem
          have hpk : pk < 256 := hokp.1
          have hpn : pn < 18446744073709551616 := hokp.2.1
          have HPS : Hid (∀ x ∈ pS, x < 256) := hide hokp.2.2
          have hmx : pS.length ≤ 1048576 := Hmax.out _ hmem
          have hip : isPart ⟨pk, pn, pS⟩ = true := List.all_eq_true.1 HALL.out _ hmem
          have d1 : decide ((j : Int) < (k : Int)) = true := by simp; omega
          have hN0 : (wr.alloc (.cells #[.int .u8 (pk : Nat), .int .u64 (pn : Nat), .string (str pS)] 60)).heap[wr.heap.size]? = some (.cells #[.int .u8 (pk : Nat), .int .u64 (pn : Nat), .string (str pS)] 60 (0, 0)) := heap_alloc_new wr _
          have hown0 := hown.alloc (.cells #[.int .u8 (pk : Nat), .int .u64 (pn : Nat), .string (str pS)] 60)
          have hb0 : Below w.heap.size w (wr.alloc (.cells #[.int .u8 (pk : Nat), .int .u64 (pn : Nat), .string (str pS)] 60)) := hbel2.alloc hbel2.size _
          have hw0 : w.heap.size ≤ (wr.alloc (.cells #[.int .u8 (pk : Nat), .int .u64 (pn : Nat), .string (str pS)] 60)).heap.size := by simp; omega
          have HK : Hid (keyB (ps.take (j + 1)) = keyB (ps.take j) ++ partB ⟨pk, pn, pS⟩) := hide (by rw [List.take_add_one, hp, keyB_append]; simp [keyB])
          have HX := hide (keyB_lt (ps := ps.take (j + 1)) (fun p hp => Hok.out p (List.mem_of_mem_take hp)))
          clear hc hp hmem hokp hown hbel2
          go_wp2_with (at_builtin; refine wpList_byte_k (w := wr.alloc (.cells #[.int .u8 (pk : Nat), .int .u64 (pn : Nat), .string (str pS)] 60)) rfl _ _ rfl w.heap.size u6 q _ rfl hown0 (pk : Int) pk rfl (wr.heap.size + 1) (by simp) rfl (by omega) hw0 w hb0 wr.heap.size _ 60 (by decide) hN0 ?_)
          intro v1 w1 hown1 hb1 hN1
          have g0 : w1.cell? ⟨wr.heap.size, 0, none⟩ = some (.int .u8 (pk : Nat)) := by simp [World.cell?, hN1]
          clear hown0 hb0 hw0 hN0 c1 c2 c3
          generalize wr.heap.size = N at *
          by_cases hk1 : pk = 1
          · have e1 : ((pk : Int) == 1) = true := by simp; omega
            have HPB : Hid (partB ⟨pk, pn, pS⟩ = [pk] ++ be8 pn) := hide (by simp [partB, hk1])
            have HL9 : Hid ((keyB (ps.take (j + 1))).length = q + 9) := hide (by rw [HK.out, HPB.out, HQ.out]; simp [be8])
            clear hk1
            go_wp2_with fail
            go_loopw [6, 9] (fun x i wr => ∃ t s : Nat, t + s = 8 ∧ i = .int .i64 ((s : Int) - 1) ∧ wr.ownsRow w.heap.size 5 1 x (q + 1 + t) (bv (keyB (ps.take j) ++ [pk] ++ (be8 pn).take t)) ∧ Below w.heap.size w wr ∧ wr.heap[N]? = some (.cells #[.int .u8 (pk : Nat), .int .u64 (pn : Nat), .string (str pS)] 60 (0, 0))) (fun _ i _ => (intOf i + 1).toNat)
            case atStart => exact ⟨0, 8, by omega, rfl, by simpa using hown1, hb1, hN1⟩
            case round =>
              obtain ⟨t, s, hts, rfl, howni, hbi, hNi⟩ := hrel
              clear hown1 hb1 hN1 g0
              have hbis := hbi.size
              have g1 : wr.cell? ⟨N, 1, none⟩ = some (.int .u64 (pn : Nat)) := by simp [World.cell?, hNi]
              cases s with
              | zero => 
                obtain rfl : t = 8 := by omega
                have e8 : (be8 pn).take 8 = be8 pn := by simp [be8]
                rw [e8, List.append_assoc, ← HPB.out, ← HK.out] at howni
                go_wp2
                go_roundw
                case rel => exact ⟨j + 1, q + 9, by omega, by go_num, by omega, howni, hide HL9.out.symm, hbi⟩
                case measure => simp [intOf]; omega
              | succ r =>
                have er : (((r + 1 : Nat) : Int) - 1) = (r : Int) := by omega
                rw [er]
                have HG : Hid ((be8 pn).getD t 0 = pn / 2 ^ (8 * r) % 256) := hide (by rw [be8_get pn t (by omega)]; congr 3; omega)
                have HT : Hid ((be8 pn).take (t + 1) = (be8 pn).take t ++ [(be8 pn).getD t 0]) := hide (take_succ_getD _ _ (by simp [be8]; omega))
                have hr8 : r < 8 := by omega
                go_wp2_with (at_builtin; refine wpList_byte_k rfl _ _ rfl w.heap.size u6 (q + 1 + t) _ rfl howni ((pn : Int) / 2 ^ (8 * r) % 256) (pn / 2 ^ (8 * r) % 256) (by simp) wr.heap.size rfl rfl (by omega) hbis w hbi N _ 60 (by decide) hNi ?_)
                intro v2 w2 hown2 hb2 hN2
                have hown3 : w2.ownsRow w.heap.size 5 1 v2 (q + 1 + (t + 1)) (bv (keyB (ps.take j) ++ [pk] ++ (be8 pn).take (t + 1))) := by
                  rw [HT.out, HG.out]; simpa [Nat.add_assoc] using hown2
                clear hown2 howni hbi hNi g1
                go_wp2
                go_roundw
                case rel => exact ⟨t + 1, r, by omega, by go_num, hown3, hb2, hN2⟩
                case measure => simp [intOf]
          · have e1 : ((pk : Int) == 1) = false := by simp; omega
            have hk2 : pk = 2 := by
              rcases isPart_cases hip with ⟨h1, _⟩ | ⟨h1, _⟩
              · exact absurd h1 hk1
              · exact h1
            have HPB : Hid (partB ⟨pk, pn, pS⟩ = [pk] ++ (esc pS ++ [0, 1])) := hide (by simp [partB, hk2])
            have HL9 : Hid ((keyB (ps.take (j + 1))).length = q + (esc pS).length + 3) := hide (by rw [HK.out, HPB.out, HQ.out]; simp; omega)
            have HBL : Hid (bl (str pS) = pS) := hide (bl_str HPS.out)
            have hSz : (str pS).size ≤ 1048576 := by rw [str_size]; exact hmx
            clear hk1 hk2
            generalize str pS = S at *
            go_wp2_with fail
            go_loopw [6, 10] (fun x i wr => ∃ t q' : Nat, t ≤ S.size ∧ i = .int .i64 t ∧ Hid (q' = q + 1 + (esc ((bl S).take t)).length) ∧ q' ≤ q + 1 + 2 * t ∧ wr.ownsRow w.heap.size 5 1 x q' (bv (keyB (ps.take j) ++ [pk] ++ esc ((bl S).take t))) ∧ Below w.heap.size w wr ∧ wr.heap[N]? = some (.cells #[.int .u8 (pk : Nat), .int .u64 (pn : Nat), .string S] 60 (0, 0))) (fun _ i _ => S.size - (intOf i).toNat)
            case atStart => exact ⟨0, q + 1, by omega, rfl, hide (by simp [esc]), by omega, by simpa [esc] using hown1, hb1, hN1⟩
            case round =>
              obtain ⟨t, q', ht, rfl, HQ', hq', howni, hbi, hNi⟩ := hrel
              clear hown1 hb1 hN1 g0
              have hbis := hbi.size
              have g2 : wr.cell? ⟨N, 2, none⟩ = some (.string S) := by simp [World.cell?, hNi]
              by_cases hlt3 : t < S.size
              · have HX3 : Hid ((bl S).getD t 0 = S[t].toNat) := hide (bl_get S t hlt3)
                have HT : Hid ((bl S).take (t + 1) = (bl S).take t ++ [(bl S).getD t 0]) := hide (take_succ_getD _ _ (by rw [bl_length]; exact hlt3))
                go_wp2_with (at_builtin; refine wpList_byte_k rfl _ _ rfl w.heap.size u6 q' _ rfl howni _ S[t].toNat rfl wr.heap.size rfl rfl (by omega) hbis w hbi N _ 60 (by decide) hNi ?_)
                intro v2 w2 hown2 hb2 hN2
                have hb2s := hb2.size
                have g2' : w2.cell? ⟨N, 2, none⟩ = some (.string S) := by simp [World.cell?, hN2]
                clear howni hbi hNi g2
                by_cases hz : S[t].toNat = 0
                · have d0 : (((S[t].toNat : Nat) : Int) == 0) = true := by simpa using hz
                  have HE : Hid (keyB (ps.take j) ++ [pk] ++ esc ((bl S).take (t + 1)) = keyB (ps.take j) ++ [pk] ++ esc ((bl S).take t) ++ [S[t].toNat] ++ [255]) := hide (by
                    rw [HT.out, HX3.out, esc_append, hz]; simp [esc])
                  have HQ2 : Hid (q' + 1 + 1 = q + 1 + (esc ((bl S).take (t + 1))).length) := hide (by rw [HT.out, HX3.out, esc_append, hz, HQ'.out]; simp [esc]; omega)
                  clear hz
                  go_wp2_with (at_builtin; refine wpList_byte_k rfl _ _ rfl w.heap.size v2 (q' + 1) _ rfl hown2 255 255 rfl w2.heap.size rfl rfl (by omega) hb2s w hb2 N _ 60 (by decide) hN2 ?_)
                  intro v3 w3 hown3 hb3 hN3
                  have hown4 : w3.ownsRow w.heap.size 5 1 v3 (q' + 1 + 1) (bv (keyB (ps.take j) ++ [pk] ++ esc ((bl S).take (t + 1)))) := by rw [HE.out]; simpa using hown3
                  clear hown2 hown3 hb2 hN2 g2'
                  go_wp2
                  go_roundw
                  case rel => exact ⟨t + 1, q' + 1 + 1, by omega, by go_num, HQ2, by omega, hown4, hb3, hN3⟩
                  case measure => simp [intOf]; omega
                · have d0 : (((S[t].toNat : Nat) : Int) == 0) = false := by simpa using hz
                  have HE : Hid (keyB (ps.take j) ++ [pk] ++ esc ((bl S).take (t + 1)) = keyB (ps.take j) ++ [pk] ++ esc ((bl S).take t) ++ [S[t].toNat]) := hide (by
                    rw [HT.out, HX3.out, esc_append]; simp [esc, hz])
                  have HQ2 : Hid (q' + 1 = q + 1 + (esc ((bl S).take (t + 1))).length) := hide (by rw [HT.out, HX3.out, esc_append, HQ'.out]; simp [esc, hz]; omega)
                  have hown4 : w2.ownsRow w.heap.size 5 1 v2 (q' + 1) (bv (keyB (ps.take j) ++ [pk] ++ esc ((bl S).take (t + 1)))) := by rw [HE.out]; simpa using hown2
                  clear hz hown2
                  go_wp2
                  go_roundw
                  case rel => exact ⟨t + 1, q' + 1, by omega, by go_num, HQ2, by omega, hown4, hb2, hN2⟩
                  case measure => simp [intOf]; omega
              · obtain rfl : t = S.size := by omega
                have et : (bl S).take S.size = pS := by rw [List.take_of_length_le (by rw [bl_length]; exact Nat.le_refl _)]; exact HBL.out
                rw [et] at howni HQ'
                clear et
                obtain ⟨i0, hi, hz0, hz1, hz2⟩ := info_parts Try.info5
                go_wp2_with (at_builtin; refine wpList_append_own _ rfl _ _ 22 rfl w.heap.size 5 i0 (.int .u8 0) 1 1 Try.underlying22 hi hz0 hz1 hz2 rfl (by decide) u6 q' _ rfl (howni.alloc _) ⟨wr.heap.size, 0, none⟩ 2 2 [.int .u8 0, .int .u8 1] rfl rfl (src_lit wr _) ?c2 ?c3 ?c4 ?c5 ?_)
                case c2 => intro u hu; simp at hu; rcases hu with rfl | rfl <;> rfl
                case c3 => unfold maxLen; omega
                case c4 => omega
                case c5 => simp; omega
                intro v2 w2 hown2 hg2 _
                have hb2 : Below w.heap.size w w2 := (hbi.alloc (by omega) _).grown hg2 (by simp; omega) (fun k hk => (howni.lt k hk).1)
                have hown3 : w2.ownsRow w.heap.size 5 1 v2 (q' + 2) (bv (keyB (ps.take (j + 1)))) := by
                  have e2 : bv (keyB (ps.take (j + 1))) = bv (keyB (ps.take j) ++ [pk] ++ esc pS) ++ [.int .u8 0, .int .u8 1] := by
                    rw [HK.out, HPB.out, ← List.append_assoc, ← List.append_assoc, bv_append (keyB (ps.take j) ++ [pk] ++ esc pS)]; rfl
                  rw [e2]; simpa using hown2
                have hl2 : (keyB (ps.take (j + 1))).length = q' + 2 := by have := HL9.out; have := HQ'.out; omega
                obtain ⟨a2, c2, rfl, hB2⟩ := owns_isB hown3 HX.out
                have HL2 := hide hl2
                clear hown2 hg2 howni hbi hNi g2 hB2 hl2
                generalize q' + 2 = q2 at *
                by_cases hlong : 256 < q2
                · have HN : Hid (key ps = .error 4) := hide (by
                    unfold key; rw [if_neg (by have := Hlen.out; omega), HALL.out]
                    have := keyB_take_le ps (j + 1)
                    rw [if_neg (by decide), if_pos (by have := HL2.out; omega)])
                  go_wp2
                  go_ret2
                  exact ⟨.inr ⟨4, HN.out, by decide, rfl⟩, hb2⟩
                · go_wp2
                  go_roundw
                  case rel => exact ⟨j + 1, q2, by omega, by go_num, by omega, hown3, hide HL2.out.symm, hb2⟩
                  case measure => simp [intOf]; omega
        · obtain rfl : j = k := by omega
          have et : ps.take j = ps := List.take_of_length_le (by rw [Hlen.out]; exact Nat.le_refl _)
          rw [et] at hown HQ
          clear et
          have HXA := hide (keyB_lt (ps := ps) (fun p hp => Hok.out p hp))
          obtain ⟨a2, c2, rfl, hB2⟩ := owns_isB hown HXA.out
          clear hB2
          by_cases hlong : 256 < q
          · have HN : Hid (key ps = .error 4) := hide (by
              unfold key; rw [if_neg (by have := Hlen.out; omega), HALL.out]
              rw [if_neg (by decide), if_pos (by have := HQ.out; omega)])
            go_wp2
            go_ret2
            exact ⟨.inr ⟨4, HN.out, by decide, rfl⟩, hbel2⟩
          · have HN : Hid (key ps = .ok (keyB ps)) := hide (by
              unfold key; rw [if_neg (by have := Hlen.out; omega), HALL.out]
              rw [if_neg (by decide), if_neg (by have := HQ.out; omega)])
            go_wp2
            go_ret2
            exact ⟨.inl ⟨_, HN.out, rfl, by rw [← HQ.out]; exact hown⟩, hbel2⟩
theorem refKey_none (a : Option Addr) (cap : Nat) (w : World) : Calls Try.prog 27 #[.slice a 0 cap] w fun e w' => e = .returned (.tuple #[.slice none 0 0, .int .i64 0]) ∧ w' = w := by
  go_enter Try.func27, Try.ntmps27
  go_wp2_with fail
  go_loop [16] (fun i => i = .int .i64 0) (fun _ => 0)
  case atStart => exact rfl
  case round =>
    obtain rfl := hrel
    go_wp2_with fail
    go_loop [6, 51] (fun x i => x = .slice none 0 0 ∧ i = .int .i64 0) (fun _ _ => 0)
    case atStart => exact ⟨rfl, rfl⟩
    case round =>
      obtain ⟨rfl, rfl⟩ := hrel
      go_wp2
      go_ret2
      exact ⟨rfl, rfl⟩
/-- ladingref03.Key -/
theorem refKey_any (a : Option Addr) (len cap : Nat) (ps : List Part) (w : World) (h : IsP w a len cap ps) (hmax : ∀ p ∈ ps, p.s.length ≤ 1048576) :
    Calls Try.prog 27 #[.slice a len cap] w fun e w' =>
      ((∃ v, key ps = .ok (keyB ps) ∧ e = .returned (.tuple #[v, .int .i64 0]) ∧ w'.ownsRow w.heap.size 5 1 v (keyB ps).length (bv (keyB ps))) ∨
       (∃ k : Nat, key ps = .error k ∧ k ≠ 0 ∧ e = .returned (.tuple #[.slice none 0 0, .int .i64 k]))) ∧ Below w.heap.size w w' := by
  by_cases h0 : len = 0
  · subst h0
    obtain rfl : ps = [] := List.length_eq_zero_iff.1 h.1
    refine (refKey_none a cap w).mono ?_
    rintro e w' ⟨rfl, rfl⟩
    exact ⟨.inl ⟨_, rfl, rfl, World.ownsRow_nil _ _ _ _⟩, Below.refl _ _⟩
  · obtain ⟨b, off, rfl, _, _⟩ := h.2.2.2.2.resolve_left (fun h => h0 h.1)
    exact refKey_some b off len cap ps w h (by omega) hmax
end Go.Proofs.Ytnimlpbalfamcaa
