/- contracts: the writers of keys -/
import Derived.Test.YtnimlpbalfamcaaE
import Derived.Test.YtnimlpbalfamcaaMath3
namespace Go.Proofs.Ytnimlpbalfamcaa
open Go.RowKit Cod
theorem take_succ_getD (l : List Nat) (k : Nat) (h : k < l.length) : l.take (k + 1) = l.take k ++ [l.getD k 0] := by
  rw [List.take_succ_eq_append_getElem h, List.getD_eq_getElem?_getD, List.getElem?_eq_getElem h]; rfl
theorem bl_get (s : ByteArray) (k : Nat) (h : k < s.size) : (bl s).getD k 0 = s[k].toNat := by
  have h' : k < s.data.toList.length := by simpa using h
  rw [List.getD_eq_getElem?_getD, bl, List.getElem?_map, List.getElem?_eq_getElem h']
  simp
  rfl
/-- one byte behind bytes of one's own -/
theorem wpList_byte {w : World} {ops : Array Oper} {rest : List Oper} {o : Oper} {a : Act} {Q : Exit → Act → World → Prop} (hgd : o.guard = none) (s x : Operand)
    (ho : o.op = .call { callee := .builtin .append, args := #[s, x], argTypes := #[22, 22] }) (base : Nat) (v : Value) (n : Nat) (l : List Nat) (hs : a.eval s = v) (hown : w.ownsRow base 5 1 v n (bv l))
    (q : Int) (u : Nat) (hq : q = (u : Int)) (hx : a.eval x = .slice (some ⟨w.heap.size, 0, none⟩) 1 1) (hb : n + 1 ≤ 140737488355328) (hbase : base ≤ w.heap.size) (w0 : World) (hbel : Below base w0 w)
    (h : ∀ v' w', w'.ownsRow base 5 1 v' (n + 1) (bv (l ++ [u])) → Below base w0 w' → wpList Try.prog ops Q rest (a.put o.dst v') w') : wpList Try.prog ops Q (o :: rest) a (w.alloc (.cells #[.int .u8 q] 5)) := by
  obtain ⟨i0, hi, hz0, hz1, hz2⟩ := info_parts Try.info5
  subst hq
  refine wpList_append_own _ hgd s x 22 ho base 5 i0 (.int .u8 0) 1 1 Try.underlying22 hi hz0 hz1 hz2 rfl (by decide) v n (bv l) hs (hown.alloc _) ⟨w.heap.size, 0, none⟩ 1 1 [.int .u8 (u : Int)] hx rfl (cell_one_new _ _ _) (u8_one _) (by unfold maxLen; omega) (by omega) (by simp; omega) ?_
  intro v' w' ho' hg _
  refine h v' w' (by rw [bv_append]; exact ho') ((hbel.alloc hbase _).grown hg (by simp; omega) (fun k hk => (hown.lt k hk).1))
set_option maxHeartbeats 1000000 in
theorem putNumPart_any (base : Nat) (v : Value) (m n : Nat) (l : List Nat) (w : World) (hown : w.ownsRow base 5 1 v m (bv l)) (_hn : n < 18446744073709551616) (hb : base ≤ w.heap.size) (hm : m + 10 ≤ 140737488355328) :
    Calls Try.prog 56 #[v, .int .u64 n] w fun e w' => ∃ v', e = .returned v' ∧ w'.ownsRow base 5 1 v' (m + 9) (bv (l ++ 1 :: be8 n)) ∧ Below base w w' := by
  go_enter Try.func56, Try.ntmps56
  go_wp2_with (at_builtin; refine wpList_byte rfl _ _ rfl base _ m l rfl hown 1 1 rfl rfl (by omega) hb w (Below.refl _ _) ?_)
  intro v1 w1 hown1 hb1
  clear hown
  go_wp2_with fail
  go_loopw [0, 5, 9] (fun x _ i wr => ∃ k : Nat, k ≤ 8 ∧ i = .int .i64 k ∧ wr.ownsRow base 5 1 x (m + 1 + k) (bv (l ++ 1 :: (be8 n).take k)) ∧ Below base w wr) (fun _ _ i _ => 8 - (intOf i).toNat)
  case atStart => exact ⟨0, by omega, rfl, by simpa using hown1, hb1⟩
  case round =>
    obtain ⟨k, hk, rfl, hown', hbel⟩ := hrel
    have hbw := hbel.size
    clear hown1 hb1
    by_cases hlt : k < 8
    · have HG : Hid ((be8 n).getD k 0 = n / 2 ^ (8 * (7 - k)) % 256) := hide (be8_get n k hlt)
      have HT : Hid ((be8 n).take (k + 1) = (be8 n).take k ++ [(be8 n).getD k 0]) := hide (take_succ_getD _ _ (by simp [be8]; omega))
      go_wp2_with (at_builtin; refine wpList_byte rfl _ _ rfl base _ (m + 1 + k) _ rfl hown' _ (n / 2 ^ (8 * (7 - k)) % 256) (by simp) rfl (by omega) (by omega) w hbel ?_)
      intro v2 w2 hown2 hb2
      have hown3 : w2.ownsRow base 5 1 v2 (m + 1 + (k + 1)) (bv (l ++ 1 :: (be8 n).take (k + 1))) := by
        rw [HT.out, HG.out]
        exact hown2
      clear hown2 hown'
      go_wp2
      go_roundw
      case rel => exact ⟨k + 1, by omega, by go_num, hown3, hb2⟩
      case measure => simp [intOf]; omega
    · obtain rfl : k = 8 := by omega
      have e8 : (be8 n).take 8 = be8 n := by simp [be8]
      rw [e8] at hown'
      go_wp2
      go_ret
      exact ⟨_, rfl, hown', hbel⟩
set_option maxHeartbeats 1000000 in
theorem putTextPart_any (base : Nat) (v : Value) (m : Nat) (s : ByteArray) (l : List Nat) (w : World) (hown : w.ownsRow base 5 1 v m (bv l)) (hb : base ≤ w.heap.size) (hm : m + 2 * s.size + 4 ≤ 140737488355328) :
    Calls Try.prog 57 #[v, .string s] w fun e w' => ∃ v', e = .returned v' ∧ w'.ownsRow base 5 1 v' (m + (esc (bl s)).length + 3) (bv (l ++ 2 :: (esc (bl s) ++ [0, 1]))) ∧ Below base w w' := by
  go_enter Try.func57, Try.ntmps57
  go_wp2_with (at_builtin; refine wpList_byte rfl _ _ rfl base _ m l rfl hown 2 2 rfl rfl (by omega) hb w (Below.refl _ _) ?_)
  intro v1 w1 hown1 hb1
  clear hown
  go_wp2_with fail
  go_loopw [0, 5, 11] (fun x _ i wr => ∃ k q : Nat, k ≤ s.size ∧ i = .int .i64 k ∧ Hid (q = m + 1 + (esc ((bl s).take k)).length) ∧ q ≤ m + 1 + 2 * k ∧ wr.ownsRow base 5 1 x q (bv (l ++ 2 :: esc ((bl s).take k))) ∧ Below base w wr) (fun _ _ i _ => s.size - (intOf i).toNat)
  case atStart => exact ⟨0, m + 1, by omega, rfl, hide (by simp [esc]), by omega, by simpa [esc] using hown1, hb1⟩
  case round =>
    obtain ⟨k, q, hk, rfl, HQ, hq, hown', hbel⟩ := hrel
    have hbw := hbel.size
    clear hown1 hb1
    by_cases hlt : k < s.size
    · have HX : Hid ((bl s).getD k 0 = s[k].toNat) := hide (bl_get s k hlt)
      have HT : Hid ((bl s).take (k + 1) = (bl s).take k ++ [(bl s).getD k 0]) := hide (take_succ_getD _ _ (by rw [bl_length]; exact hlt))
      go_wp2_with (at_builtin; refine wpList_byte rfl _ _ rfl base _ q _ rfl hown' _ s[k].toNat rfl rfl (by omega) (by omega) w hbel ?_)
      intro v2 w2 hown2 hb2
      have hb2s := hb2.size
      by_cases hz : s[k].toNat = 0
      · have d0 : (((s[k].toNat : Nat) : Int) == 0) = true := by simpa using hz
        have e : l ++ 2 :: esc ((bl s).take (k + 1)) = l ++ 2 :: (esc ((bl s).take k) ++ [s[k].toNat, 255]) := by
          rw [HT.out, HX.out, esc_append, hz]; simp [esc]
        have HE := hide e
        have HQ2 : Hid (q + 1 + 1 = m + 1 + (esc ((bl s).take (k + 1))).length) := hide (by rw [HT.out, HX.out, esc_append, hz, HQ.out]; simp [esc]; omega)
        clear hz hown' e
        go_wp2_with (at_builtin; refine wpList_byte rfl _ _ rfl base _ (q + 1) _ rfl hown2 255 255 rfl rfl (by omega) (by omega) w hb2 ?_)
        intro v3 w3 hown3 hb3
        rw [← HE.out] at hown3
        clear hown2
        go_wp2
        go_roundw
        case rel => exact ⟨k + 1, q + 1 + 1, by omega, by go_num, HQ2, by omega, hown3, hb3⟩
        case measure => simp [intOf]; omega
      · have d0 : (((s[k].toNat : Nat) : Int) == 0) = false := by simpa using hz
        have e : l ++ 2 :: esc ((bl s).take (k + 1)) = l ++ 2 :: (esc ((bl s).take k) ++ [s[k].toNat]) := by
          rw [HT.out, HX.out, esc_append]; simp [esc, hz]
        have HQ2 : Hid (q + 1 = m + 1 + (esc ((bl s).take (k + 1))).length) := hide (by rw [HT.out, HX.out, esc_append, HQ.out]; simp [esc, hz]; omega)
        rw [← e] at hown2
        clear hz hown' e
        go_wp2
        go_roundw
        case rel => exact ⟨k + 1, q + 1, by omega, by go_num, HQ2, by omega, hown2, hb2⟩
        case measure => simp [intOf]; omega
    · obtain rfl : k = s.size := by omega
      have et : (bl s).take s.size = bl s := List.take_of_length_le (by rw [bl_length]; exact Nat.le_refl _)
      rw [et] at hown' HQ
      clear et
      obtain ⟨i0, hi, hz0, hz1, hz2⟩ := info_parts Try.info5
      go_wp2_with (at_builtin; refine wpList_append_own _ rfl _ _ 22 rfl base 5 i0 (.int .u8 0) 1 1 Try.underlying22 hi hz0 hz1 hz2 rfl (by decide) _ q _ rfl (hown'.alloc _) ⟨wr.heap.size, 0, none⟩ 2 2 [.int .u8 0, .int .u8 1] rfl rfl (src_lit wr _) ?c2 ?c3 ?c4 ?c5 ?_)
      case c2 => intro u hu; simp at hu; rcases hu with rfl | rfl <;> rfl
      case c3 => unfold maxLen; omega
      case c4 => omega
      case c5 => simp; omega
      intro v2 w2 hown2 hg2 _
      have hb2 : Below base w w2 := (hbel.alloc (by omega) _).grown hg2 (by simp; omega) (fun k hk => (hown'.lt k hk).1)
      have hown3 : w2.ownsRow base 5 1 v2 (m + (esc (bl s)).length + 3) (bv (l ++ 2 :: (esc (bl s) ++ [0, 1]))) := by
        have e1 : m + (esc (bl s)).length + 3 = q + 2 := by have := HQ.out; omega
        have e2 : bv (l ++ 2 :: (esc (bl s) ++ [0, 1])) = bv (l ++ 2 :: esc (bl s)) ++ [.int .u8 0, .int .u8 1] := by
          have : l ++ 2 :: (esc (bl s) ++ [0, 1]) = (l ++ 2 :: esc (bl s)) ++ [0, 1] := by simp
          rw [this, bv_append]; rfl
        rw [e1, e2]; exact hown2
      clear hown2 hg2 hown'
      go_wp2
      go_ret
      exact ⟨_, rfl, hown3, hb2⟩
theorem isPart_any (p : Part) (hp : okP p) (w : World) : Calls Try.prog 47 #[.agg #[.int .u8 p.k, .int .u64 p.n, .string (str p.s)]] w fun e w' => e = .returned (.bool (isPart p)) ∧ Below w.heap.size w w' := by
  obtain ⟨k, n, s⟩ := p
  have hbb : Below w.heap.size w (w.alloc (.cells #[.int .u8 k, .int .u64 n, .string (str s)] 60)) := (Below.refl _ _).alloc (Nat.le_refl _) _
  have HBB := hide hbb
  clear hbb
  have he : (str s).toList.isEmpty = s.isEmpty := by
    rw [ByteArray.toList_eq]; cases s <;> rfl
  by_cases h1 : k = 1
  · have d1 : ((k : Int) == 1) = true := by simp; omega
    have d2 : ((k : Int) == 2) = false := by simp; omega
    have HK : Hid (isPart ⟨k, n, s⟩ = s.isEmpty) := hide (by simp [isPart, h1])
    clear h1
    go_enter Try.func47, Try.ntmps47
    go_wp2
    go_ret
    exact ⟨by rw [HK.out]; rfl, HBB.out⟩
  have d1 : ((k : Int) == 1) = false := by simp; omega
  by_cases h2 : k = 2
  · have d2 : ((k : Int) == 2) = true := by simp; omega
    have d3 : ((n : Int) == 0) = (n == 0) := by rw [Bool.eq_iff_iff]; simp
    have HK : Hid (isPart ⟨k, n, s⟩ = (n == 0)) := hide (by simp [isPart, h2])
    clear h1 h2
    go_enter Try.func47, Try.ntmps47
    go_wp2
    go_ret
    exact ⟨by rw [HK.out]; rfl, HBB.out⟩
  · have d2 : ((k : Int) == 2) = false := by simp; omega
    have HK : Hid (isPart ⟨k, n, s⟩ = false) := hide (by simp [isPart, h1, h2])
    clear h1 h2
    go_enter Try.func47, Try.ntmps47
    go_wp2
    go_ret
    exact ⟨by rw [HK.out]; rfl, HBB.out⟩
/-- codec.putPart -/
theorem putPart_any (base : Nat) (v : Value) (m : Nat) (p : Part) (hp : okP p) (l : List Nat) (w : World) (hown : w.ownsRow base 5 1 v m (bv l)) (hb : base ≤ w.heap.size) (hm : m + 2 * p.s.length + 10 ≤ 140737488355328) :
    Calls Try.prog 48 #[v, .agg #[.int .u8 p.k, .int .u64 p.n, .string (str p.s)]] w fun e w' => ∃ v', e = .returned v' ∧ w'.ownsRow base 5 1 v' (m + (partB p).length) (bv (l ++ partB p)) ∧ Below base w w' := by
  obtain ⟨k, n, s⟩ := p
  have hb1 : Below base w (w.alloc (.cells #[.int .u8 k, .int .u64 n, .string (str s)] 60)) := (Below.refl _ _).alloc hb _
  by_cases h1 : k = 1
  · have d1 : ((k : Int) == 1) = true := by simp; omega
    have HP : Hid (partB ⟨k, n, s⟩ = 1 :: be8 n) := hide (by simp [partB, h1])
    have HC := hide (putNumPart_any base v m n l (w.alloc (.cells #[.int .u8 k, .int .u64 n, .string (str s)] 60)) (hown.alloc _) hp.2.1 (by simp; omega) (by simp at hm; omega))
    clear h1
    go_enter Try.func48, Try.ntmps48
    go_wp2_with fail
    refine HC.out.mono ?_
    rintro e w2 ⟨v2, rfl, hown2, hb2⟩
    go_wp2
    go_ret
    refine ⟨_, rfl, ?_, hb1.trans hb2⟩
    rw [HP.out]
    exact hown2
  · have d1 : ((k : Int) == 1) = false := by simp; omega
    have HP : Hid (partB ⟨k, n, s⟩ = 2 :: (esc s ++ [0, 1])) := hide (by simp [partB, h1])
    have HC := hide (putTextPart_any base v m (str s) l (w.alloc (.cells #[.int .u8 k, .int .u64 n, .string (str s)] 60)) (hown.alloc _) (by simp; omega) (by rw [str_size]; simp at hm; omega))
    rw [bl_str hp.2.2] at HC
    clear h1
    go_enter Try.func48, Try.ntmps48
    go_wp2_with fail
    refine HC.out.mono ?_
    rintro e w2 ⟨v2, rfl, hown2, hb2⟩
    go_wp2
    go_ret
    refine ⟨_, rfl, ?_, hb1.trans hb2⟩
    rw [HP.out]
    have e1 : (2 :: (esc s ++ [0, 1])).length = (esc s).length + 3 := by simp
    rw [e1, ← Nat.add_assoc]
    exact hown2
/-- parts in memory -/
def IsP (w : World) (a : Option Addr) (len cap : Nat) (ps : List Part) : Prop :=
  ps.length = len ∧ len ≤ cap ∧ cap ≤ maxLen ∧ (∀ p ∈ ps, okP p) ∧ (len = 0 ∧ (a = none → cap = 0) ∨ ∃ b off, a = some ⟨b, off, none⟩ ∧ b < w.heap.size ∧ ∀ i p, ps[i]? = some p → w.cell? ⟨b, off + i * 3, none⟩ = some (.int .u8 (p.k : Nat)) ∧ w.cell? ⟨b, off + i * 3 + 1, none⟩ = some (.int .u64 (p.n : Nat)) ∧ w.cell? ⟨b, off + i * 3 + 2, none⟩ = some (.string (str p.s)))
theorem IsP.below {w w1 : World} {a : Option Addr} {len cap : Nat} {ps : List Part} (h : IsP w a len cap ps) (hb : Below w.heap.size w w1) : IsP w1 a len cap ps := by
  obtain ⟨h1, h2, h3, h4, h5⟩ := h
  refine ⟨h1, h2, h3, h4, ?_⟩
  rcases h5 with h5 | ⟨b, off, rfl, hlt, hc⟩
  · exact .inl h5
  · refine .inr ⟨b, off, rfl, Nat.lt_of_lt_of_le hlt hb.size, fun i p hp => ?_⟩
    obtain ⟨c1, c2, c3⟩ := hc i p hp
    exact ⟨(hb.cell (p := ⟨b, _, none⟩) hlt).trans c1, (hb.cell (p := ⟨b, _, none⟩) hlt).trans c2, (hb.cell (p := ⟨b, _, none⟩) hlt).trans c3⟩
end Go.Proofs.Ytnimlpbalfamcaa
