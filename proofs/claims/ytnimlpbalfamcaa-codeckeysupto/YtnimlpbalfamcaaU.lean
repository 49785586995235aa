/- contracts: the cursor of a reader of keys -/
import Derived.Test.YtnimlpbalfamcaaS
import Derived.Test.YtnimlpbalfamcaaMath5
import Derived.Test.YtnimlpbalfamcaaG
namespace Go.Proofs.Ytnimlpbalfamcaa
open Go.RowKit Cod
/-- the cell behind the cursor's is as it was -/
def Keep2 (w w' : World) (g : Nat) : Prop := w'.cell? ⟨g, 2, none⟩ = w.cell? ⟨g, 2, none⟩ ∧ w'.frozen? ⟨g, 2, none⟩ = w.frozen? ⟨g, 2, none⟩
theorem Keep2.trans {a b c : World} {g : Nat} (h : Keep2 a b g) (k : Keep2 b c g) : Keep2 a c g := ⟨k.1.trans h.1, k.2.trans h.2⟩
theorem keep2_block {w w' : World} {g : Nat} (h : w'.heap[g]? = w.heap[g]?) : Keep2 w w' g := ⟨World.cell?_of_block h, World.frozen?_of_block h⟩
theorem keep2_set {w : World} {g : Nat} (v : Value) : Keep2 w (w.setCell ⟨g, 1, none⟩ v) g := ⟨by rw [World.cell?_setCell_other (h := by simp)], by simp⟩
theorem keep2_far {w : World} {g q j : Nat} (h : q ≠ g) (v : Value) : Keep2 w (w.setCell ⟨q, j, none⟩ v) g := keep2_block (Below.heap_setCell _ _ _ _ (Ne.symm h))
theorem next_none2 (w : World) (g : Nat) (a : Option Addr) (len cap : Nat) (l : List Nat) (h : Cur w g a len cap l len) :
    Calls Try.prog 54 #[.pointer (some ⟨g, 0, none⟩)] w fun e w' => e = .returned (.tuple #[.int .u8 0, .bool false]) ∧ Cur w' g a len cap l len ∧ w.grownBy w' (some g) ∧ Keep2 w w' g := by
  have hc := isEnd_any w g a len cap l len h
  rw [decide_eq_true rfl] at hc
  go_enter Try.func54, Try.ntmps54
  go_wp2_with fail
  refine hc.mono ?_
  rintro e w' ⟨rfl, m, rfl⟩
  go_wp2
  go_ret2
  exact ⟨rfl, h.drewN m, grown_drewN (World.grownBy.refl _ _) m, ⟨rfl, rfl⟩⟩
set_option maxHeartbeats 400000 in
theorem next_some2 (w : World) (g : Nat) (a : Option Addr) (len cap : Nat) (l : List Nat) (p : Nat) (h : Cur w g a len cap l p) (hp : p < len) :
    Calls Try.prog 54 #[.pointer (some ⟨g, 0, none⟩)] w fun e w' => e = .returned (.tuple #[.int .u8 (l.getD p 0 : Nat), .bool true]) ∧ Cur w' g a len cap l (p + 1) ∧ w.grownBy w' (some g) ∧ Keep2 w w' g := by
  have hc := isEnd_any w g a len cap l p h
  rw [decide_eq_false (by omega)] at hc
  have hlc : len ≤ cap := h.isb.2.1
  have hcm : cap ≤ 9223372036854775807 := h.isb.2.2.1
  have c1 := h.c1
  have fr := h.fr
  go_enter Try.func54, Try.ntmps54
  go_wp2_with fail
  refine hc.mono ?_
  rintro e w' ⟨rfl, m, rfl⟩
  clear hc
  go_wp2_with fail
  have h2 := (h.drewN m).set (p + 1) (by omega)
  have hg : w.grownBy ((w.drewN m).setCell ⟨g, 1, none⟩ (.int .i64 ((p + 1 : Nat) : Int))) (some g) := grown_set (grown_drewN (World.grownBy.refl _ _) m) _
  have hk2 : Keep2 w ((w.drewN m).setCell ⟨g, 1, none⟩ (.int .i64 ((p + 1 : Nat) : Int))) g := keep2_set (w := w.drewN m) _
  rw [show ((p + 1 : Nat) : Int) = (p : Int) + 1 from rfl] at h2 hg hk2
  generalize (w.drewN m).setCell ⟨g, 1, none⟩ (.int .i64 ((p : Int) + 1)) = w2 at *
  have d0 := h2.c0
  have d1 := h2.c1
  obtain ⟨b, off, hab, hx⟩ : ∃ b off, a = some ⟨b, off, none⟩ ∧ w2.cell? ⟨b, off + p, none⟩ = some (.int .u8 (l.getD p 0 : Nat)) := by
    obtain ⟨h1, _, _, _, h5⟩ := h2.isb
    rcases h5 with ⟨h5, _⟩ | ⟨b, off, hab, hlt, hc⟩
    · omega
    · exact ⟨b, off, hab, hc p hp⟩
  have H2 := hide h2
  have HG := hide hg
  have HK2 := hide hk2
  clear c1 fr h h2 hg hk2
  subst hab
  generalize hX : l.getD p 0 = x at *
  have HX := hide hX
  clear hX
  go_quiet (fail)
  go_wp2
  go_ret2
  exact ⟨by rw [HX.out]; rfl, H2.out.drewN nq, grown_drewN HG.out nq, HK2.out⟩
theorem take_none2 (w : World) (g : Nat) (a : Option Addr) (len cap : Nat) (l : List Nat) (p n : Nat) (h : Cur w g a len cap l p) (hn : len < p + n) (_hn2 : n ≤ 9223372036854775807) :
    Calls Try.prog 55 #[.pointer (some ⟨g, 0, none⟩), .int .i64 n] w fun e w' => e = .returned (.tuple #[.slice none 0 0, .bool false]) ∧ Cur w' g a len cap l p ∧ w.grownBy w' (some g) ∧ Keep2 w w' g := by
  have hlc : len ≤ cap := h.isb.2.1
  have hcm : cap ≤ 9223372036854775807 := h.isb.2.2.1
  have hle := h.le
  have c0 := h.c0
  have c1 := h.c1
  have hd : decide ((len : Int) - (p : Int) < (n : Int)) = true := by simp; omega
  have H := hide h
  clear h
  go_enter Try.func55, Try.ntmps55
  go_wp2
  go_quiet (fail)
  go_wp2
  go_ret2
  exact ⟨rfl, H.out.drewN nq, grown_drewN (World.grownBy.refl _ _) nq, ⟨rfl, rfl⟩⟩
set_option maxHeartbeats 400000 in
theorem take_some2 (w : World) (g : Nat) (a : Option Addr) (len cap : Nat) (l : List Nat) (p n : Nat) (h : Cur w g a len cap l p) (hn : p + n ≤ len) (hn2 : n ≤ 140737488355328) (h0 : 0 < n) :
    Calls Try.prog 55 #[.pointer (some ⟨g, 0, none⟩), .int .i64 n] w fun e w' => ∃ q, e = .returned (.tuple #[.slice (some ⟨q, 0, none⟩) n n, .bool true]) ∧ w.heap.size ≤ q ∧ Row w' q n n ((l.drop p).take n) ∧ Cur w' g a len cap l (p + n) ∧ w.grownBy w' (some g) ∧ Keep2 w w' g := by
  have hlc : len ≤ cap := h.isb.2.1
  have hcm : cap ≤ 9223372036854775807 := h.isb.2.2.1
  have hle := h.le
  have c0 := h.c0
  have c1 := h.c1
  have hd : decide ((len : Int) - (p : Int) < (n : Int)) = false := by simp; omega
  have hmk := fun W => run_mk W n n (Nat.le_refl _) (by omega)
  have H := hide h
  clear h
  go_enter Try.func55, Try.ntmps55
  go_wp2
  go_quiet (fail)
  go_wp2
  have hq : ((w.drewN nq).alloc (.cells (zeros n).toArray 5)).heap[w.heap.size]? = some (.cells (zeros n).toArray 5 (0, 0)) := heap_alloc_new (w.drewN nq) _
  have hcur : Cur ((w.drewN nq).alloc (.cells (zeros n).toArray 5)) g a len cap l p := (H.out.drewN nq).kept (World.grownBy_alloc _ _ _)
  have hgr : w.grownBy ((w.drewN nq).alloc (.cells (zeros n).toArray 5)) none := ⟨rfl, rfl, rfl, by simp, fun k hk _ => Below.heap_alloc _ _ _ hk⟩
  have hgs : g < w.heap.size := H.out.lt
  generalize (w.drewN nq).alloc (.cells (zeros n).toArray 5) = W0 at *
  have e0 := hcur.c0
  have e1 := hcur.c1
  obtain ⟨b, off, rfl, _⟩ := hcur.byte (show p < len by omega)
  have hcp := cp_fact hq hcur.isb hn h0 W0.drew rfl
  have hrow : Row (W0.drew.setRow w.heap.size (bv ((l.drop p).take n)).toArray) w.heap.size n n ((l.drop p).take n) := row_setRow hq (by have := H.out.isb.1; simp; omega) (by unfold maxLen; omega)
  have hgr1 : w.grownBy (W0.drew.setRow w.heap.size (bv ((l.drop p).take n)).toArray) none := grown_setRow (grown_drew hgr) _ (Nat.le_refl _) _
  have hcur1 := H.out.kept hgr1
  have hk2 : Keep2 w (W0.drew.setRow w.heap.size (bv ((l.drop p).take n)).toArray) g := keep2_block (hgr1.block g hgs (by simp))
  clear hcur hgr H c0 c1 hmk
  have hrow := hide hrow
  go_region
  clear e0 e1 hcp hq
  generalize W0.drew.setRow w.heap.size (bv ((l.drop p).take n)).toArray = W1 at *
  have c1 := hcur1.c1
  have fr := hcur1.fr
  have H1 := hide hcur1
  have HG := hide hgr1
  have HK2 := hide hk2
  clear hcur1 hgr1 hk2
  go_wp2
  go_ret2
  refine ⟨_, rfl, Nat.le_refl _, ?_, H1.out.set (p + n) hn, grown_set (grown_any HG.out) _, HK2.out.trans (keep2_set _)⟩
  exact hrow.out.set_far (by omega)
/-- one byte behind bytes of one's own, all else as it was -/
theorem wpList_byte_g {w : World} {ops : Array Oper} {rest : List Oper} {o : Oper} {a : Act} {Q : Exit → Act → World → Prop} (hgd : o.guard = none) (s x : Operand)
    (ho : o.op = .call { callee := .builtin .append, args := #[s, x], argTypes := #[22, 22] }) (base : Nat) (v : Value) (n : Nat) (l : List Nat) (hs : a.eval s = v) (hown : w.ownsRow base 5 1 v n (bv l))
    (q : Int) (u : Nat) (hq : q = (u : Int)) (hx : a.eval x = .slice (some ⟨w.heap.size, 0, none⟩) 1 1) (hb : n + 1 ≤ 140737488355328) (hbase : base ≤ w.heap.size)
    (h : ∀ v' w', w'.ownsRow base 5 1 v' (n + 1) (bv (l ++ [u])) → (w.alloc (.cells #[.int .u8 q] 5)).grownBy w' v.ownBlock → wpList Try.prog ops Q rest (a.put o.dst v') w') : wpList Try.prog ops Q (o :: rest) a (w.alloc (.cells #[.int .u8 q] 5)) := by
  obtain ⟨i0, hi, hz0, hz1, hz2⟩ := info_parts Try.info5
  subst hq
  refine wpList_append_own _ hgd s x 22 ho base 5 i0 (.int .u8 0) 1 1 Try.underlying22 hi hz0 hz1 hz2 rfl (by decide) v n (bv l) hs (hown.alloc _) ⟨w.heap.size, 0, none⟩ 1 1 [.int .u8 (u : Int)] hx rfl (cell_one_new _ _ _) (u8_one _) (by unfold maxLen; omega) (by omega) (by simp; omega) ?_
  intro v' w' ho' hg _
  exact h v' w' (by rw [bv_append]; exact ho') hg
theorem be_snoc (n : Nat) (l : List Nat) (x : Nat) : be n (l ++ [x]) = be n l * 256 + x := by simp [be]
theorem pow256_le (k : Nat) (h : k < 8) : 256 ^ k ≤ 72057594037927936 := by
  have : 256 ^ k ≤ 256 ^ 7 := Nat.pow_le_pow_right (by decide) (by omega)
  exact this
set_option maxRecDepth 10000 in
set_option maxHeartbeats 1000000 in
theorem numPart_ok (w : World) (g : Nat) (a : Option Addr) (len cap : Nat) (l : List Nat) (p : Nat) (h : Cur w g a len cap l p) (hp : p + 8 ≤ len) :
    Calls Try.prog 59 #[.pointer (some ⟨g, 0, none⟩)] w fun e w' => e = .returned (.tuple #[.int .u64 (be 0 ((l.drop p).take 8) : Nat), .bool true]) ∧ Cur w' g a len cap l (p + 8) ∧ w.grownBy w' (some g) ∧ Keep2 w w' g := by
  have hxs := h.isb.2.2.2.1
  have hlen := h.isb.1
  have HM : Hid (∀ x ∈ (l.drop p).take 8, x < 256) := hide (mem_take (mem_drop hxs))
  have HL : Hid (((l.drop p).take 8).length = 8) := hide (by simp; omega)
  have HT := hide (take_some2 w g a len cap l p 8 h hp (by decide) (by decide))
  clear h hxs hlen
  go_enter Try.func59, Try.ntmps59
  go_wp2_with fail
  refine HT.out.mono ?_
  rintro e w2 ⟨q, rfl, hq, hrow, hcur, hg, hk2⟩
  generalize hmm : (l.drop p).take 8 = m at *
  have HMM := hide hmm
  clear hmm
  have HC := hide hcur
  have HG := hide hg
  have HK := hide hk2
  have HR : Hid (∀ j, j < 8 → w2.cell? ⟨q, j, none⟩ = some (.int .u8 (m.getD j 0 : Nat))) := hide (fun j hj => hrow.cell hj)
  clear hcur hg hk2 hrow HT
  go_wp2_with fail
  go_loop [6, 8, 18] (fun n _ i => ∃ k N : Nat, k ≤ 8 ∧ i = .int .i64 k ∧ n = .int .u64 N ∧ Hid (N = be 0 (m.take k)) ∧ Hid (N < 256 ^ k)) (fun _ _ i => 8 - (intOf i).toNat)
  case atStart => exact ⟨0, 0, by omega, rfl, rfl, hide rfl, hide (by decide)⟩
  case round =>
    obtain ⟨k, N, hk, rfl, rfl, HN, HB⟩ := hrel
    by_cases hlt : k < 8
    · have hc := HR.out k hlt
      have hx : m.getD k 0 < 256 := getD_lt m k HM.out
      have HT : Hid (be 0 (m.take (k + 1)) = N * 256 + m.getD k 0) := hide (by rw [take_succ_getD _ _ (by rw [HL.out]; exact hlt), be_snoc, HN.out])
      have hb : N < 72057594037927936 := Nat.lt_of_lt_of_le HB.out (pow256_le k hlt)
      have HB2 : Hid (N * 256 + m.getD k 0 < 256 ^ (k + 1)) := hide (by have := HB.out; rw [Nat.pow_succ]; omega)
      generalize m.getD k 0 = x at *
      have hor : bits .or .u64 ((N : Int) * 256) (x : Int) = ((N * 256 + x : Nat) : Int) := by
        have hj := nat_join 8 (N * 256) x (Nat.mul_mod_left _ _) hx
        have hu := u64_or_nat (N * 256) x (by omega) (by omega)
        rw [hj] at hu
        rw [← hu]; rfl
      go_wp2
      go_round
      case rel => exact ⟨k + 1, N * 256 + x, by omega, by go_num, rfl, hide HT.out.symm, HB2⟩
      case measure => simp [intOf]; omega
    · obtain rfl : k = 8 := by omega
      have HE : Hid (N = be 0 m) := hide (by have := HN.out; rwa [List.take_of_length_le (by rw [HL.out]; exact Nat.le_refl _)] at this)
      go_wp2
      go_ret2
      exact ⟨by rw [HE.out, ← HMM.out]; rfl, HC.out, HG.out, HK.out⟩
theorem numPart_no (w : World) (g : Nat) (a : Option Addr) (len cap : Nat) (l : List Nat) (p : Nat) (h : Cur w g a len cap l p) (hp : len < p + 8) :
    Calls Try.prog 59 #[.pointer (some ⟨g, 0, none⟩)] w fun e w' => e = .returned (.tuple #[.int .u64 0, .bool false]) ∧ Cur w' g a len cap l p ∧ w.grownBy w' (some g) ∧ Keep2 w w' g := by
  have HT := hide (take_none2 w g a len cap l p 8 h hp (by decide))
  clear h
  go_enter Try.func59, Try.ntmps59
  go_wp2_with fail
  refine HT.out.mono ?_
  rintro e w2 ⟨rfl, hcur, hg, hk2⟩
  go_wp2_with fail
  go_loop [6, 18] (fun n i => n = .int .u64 0 ∧ i = .int .i64 0) (fun _ _ => 0)
  case atStart => exact ⟨rfl, rfl⟩
  case round =>
    obtain ⟨rfl, rfl⟩ := hrel
    go_wp2
    go_ret2
    exact ⟨rfl, hcur, hg, hk2⟩
/-- where the cursor stands -/
def cpos (w : World) (g : Nat) : Nat := match w.cell? ⟨g, 1, none⟩ with | some v => (intOf v).toNat | none => 0
theorem Cur.cpos {w : World} {g : Nat} {a : Option Addr} {len cap : Nat} {l : List Nat} {p : Nat} (h : Cur w g a len cap l p) : cpos w g = p := by
  unfold Ytnimlpbalfamcaa.cpos; rw [h.c1]; simp [intOf]
theorem rdEsc_at {l : List Nat} {q x : Nat} (h : l.drop q = x :: l.drop (q + 1)) (hx : x ≠ 0) (acc : List Nat) : rdEsc (l.drop q) acc = rdEsc (l.drop (q + 1)) (acc ++ [x]) := by rw [h, rdEsc_cons hx]
set_option maxRecDepth 10000 in
set_option maxHeartbeats 2000000 in
/-- a text part's bytes -/
theorem textPart_any (w : World) (g : Nat) (a : Option Addr) (len cap : Nat) (l : List Nat) (p : Nat) (h : Cur w g a len cap l p) (hsm : len ≤ 1048576) :
    Calls Try.prog 60 #[.pointer (some ⟨g, 0, none⟩)] w fun e w' =>
      ((∃ s p', rdEsc (l.drop p) [] = some (s, l.drop p') ∧ p' ≤ len ∧ (∀ x ∈ s, x < 256) ∧ e = .returned (.tuple #[.string (str s), .bool true]) ∧ Cur w' g a len cap l p') ∨
       (rdEsc (l.drop p) [] = none ∧ ∃ p', e = .returned (.tuple #[.string (str []), .bool false]) ∧ Cur w' g a len cap l p')) ∧ w.grownBy w' (some g) ∧ Keep2 w w' g := by
  have hlen := hide h.isb.1
  have Hxs := hide h.isb.2.2.2.1
  have HA := hide h.arg
  have hgs := h.lt
  have H := hide h
  clear h
  go_enter Try.func60, Try.ntmps60
  go_wp2_with fail
  go_loopw [4, 5, 6, 7, 8] (fun x _ _ _ _ wr => ∃ (q n : Nat) (acc : List Nat), wr.ownsRow w.heap.size 5 1 x n (bv acc) ∧ n ≤ q ∧ q ≤ len ∧ Hid (∀ x ∈ acc, x < 256) ∧ Hid (Cur wr g a len cap l q) ∧ Hid (rdEsc (l.drop p) [] = rdEsc (l.drop q) acc) ∧ Hid (w.grownBy wr (some g)) ∧ Hid (Keep2 w wr g)) (fun _ _ _ _ _ wr => len - cpos wr g)
  case atStart => exact ⟨p, 0, [], World.ownsRow_nil _ _ _ _, by omega, H.out.le, hide (by simp), H, hide rfl, hide (World.grownBy.refl _ _), hide ⟨rfl, rfl⟩⟩
  case round =>
    obtain ⟨q, n, acc, hown, hnq, hq, HX, HC, HR, HG, HK⟩ := hrel
    have hwz : w.heap.size ≤ wr.heap.size := HG.out.size
    have hcp := HC.out.cpos
    by_cases hend : q = len
    · have HN : Hid (rdEsc (l.drop p) [] = none) := hide (by rw [HR.out, hend, List.drop_eq_nil_of_le (by have := hlen.out; omega), rdEsc_nil])
      have HNX := hide (next_none2 wr g a len cap l (hend ▸ HC.out))
      clear hend
      go_wp2_with fail
      refine HNX.out.mono ?_
      rintro e w2 ⟨rfl, hcur2, hg2, hk2⟩
      go_wp2
      go_ret2
      exact ⟨.inr ⟨HN.out, _, rfl, hcur2⟩, grown_trans HG.out hg2, HK.out.trans hk2⟩
    have HNX := hide (next_some2 wr g a len cap l q HC.out (by omega))
    have hx := getD_lt l q Hxs.out
    have HD : Hid (l.drop q = l.getD q 0 :: l.drop (q + 1)) := hide (drop_cons l q (by have := hlen.out; omega))
    generalize l.getD q 0 = x at *
    by_cases hx0 : x = 0
    case neg =>
      have d1 : ((x : Int) == 0) = false := by simp; omega
      have HR2 : Hid (rdEsc (l.drop p) [] = rdEsc (l.drop (q + 1)) (acc ++ [x])) := hide (by rw [HR.out, rdEsc_at HD.out hx0])
      go_wp2_with fail
      refine HNX.out.mono ?_
      rintro e w2 ⟨rfl, hcur2, hg2, hk2⟩
      have hown2 : w2.ownsRow w.heap.size 5 1 u4 n (bv acc) := hown.kept hg2 (.inr (fun e => by have := (hown.lt _ e).1; omega))
      have hz2 : w.heap.size ≤ w2.heap.size := by have := hg2.size; omega
      have HC2 := hide hcur2
      have HG2 := hide (grown_trans HG.out hg2)
      have HK2 := hide (HK.out.trans hk2)
      have HLO : Hid (∀ j, u4.ownBlock = some j → w.heap.size ≤ j) := hide (fun j hj => (hown.lt j hj).1)
      clear hcur2 hg2 hk2 hown HNX HC HG HK
      go_wp2_with (at_builtin; refine wpList_byte_g rfl _ _ rfl w.heap.size _ n acc rfl hown2 _ x rfl rfl (by omega) hz2 ?_)
      intro v3 w3 hown3 hg3
      have HC3 : Hid (Cur w3 g a len cap l (q + 1)) := hide ((HC2.out.kept (World.grownBy_alloc _ _ _)).keptBy hg3 (fun j hj => ⟨by have := HLO.out j hj; omega, fun b off h1 h2 => by have := HLO.out j hj; have := HA.out b off h1 h2; omega⟩))
      have HG3 := hide (grown_far (grown_alloc HG2.out _) hg3 (fun j hj => HLO.out j hj))
      have HK3 : Hid (Keep2 w w3 g) := hide (HK2.out.trans (keep2_block ((hg3.block g (by simp; omega) (fun e => by have := HLO.out g e.symm; omega)).trans (Below.heap_alloc _ _ _ (by omega)))))
      have HX3 : Hid (∀ y ∈ acc ++ [x], y < 256) := hide (by
        intro y hy
        rcases List.mem_append.1 hy with hy | hy
        · exact HX.out y hy
        · simp at hy; omega)
      have hcp3 := HC3.out.cpos
      have hcl3 := HC3.out.le
      clear hg3 hown2 HC2 HG2 HK2 HLO
      go_wp2
      go_roundw
      case rel => exact ⟨(q + 1), n + 1, acc ++ [x], hown3, by omega, by omega, HX3, HC3, HR2, HG3, HK3⟩
      case measure => rw [hcp3, hcp]; omega
    subst hx0
    have d0 : ((0 : Int) == 0) = true := by decide
    by_cases hend2 : q + 1 = len
    · have HN : Hid (rdEsc (l.drop p) [] = none) := hide (by rw [HR.out, HD.out, hend2, List.drop_eq_nil_of_le (by have := hlen.out; omega), rdEsc_one])
      go_wp2_with fail
      refine HNX.out.mono ?_
      rintro e w2 ⟨rfl, hcur2, hg2, hk2⟩
      have HNY := hide (next_none2 w2 g a len cap l (hend2 ▸ hcur2))
      have HG2 := hide (grown_trans HG.out hg2)
      have HK2 := hide (HK.out.trans hk2)
      clear hend2 hcur2 hg2 hk2 HNX
      go_wp2_with fail
      refine HNY.out.mono ?_
      rintro e w3 ⟨rfl, hcur3, hg3, hk3⟩
      go_wp2
      go_ret2
      exact ⟨.inr ⟨HN.out, _, rfl, hcur3⟩, grown_trans HG2.out hg3, HK2.out.trans hk3⟩
    have hy := getD_lt l (q + 1) Hxs.out
    have HD2 : Hid (l.drop (q + 1) = l.getD (q + 1) 0 :: l.drop (q + 2)) := hide (drop_cons l (q + 1) (by have := hlen.out; omega))
    have HNS : Hid (∀ W, Cur W g a len cap l (q + 1) → Calls Try.prog 54 #[.pointer (some ⟨g, 0, none⟩)] W fun e w' => e = .returned (.tuple #[.int .u8 (l.getD (q + 1) 0 : Nat), .bool true]) ∧ Cur w' g a len cap l (q + 2) ∧ W.grownBy w' (some g) ∧ Keep2 W w' g) := hide (fun W hW => next_some2 W g a len cap l (q + 1) hW (by omega))
    generalize l.getD (q + 1) 0 = y at *
    have HRZ : Hid (rdEsc (l.drop p) [] = if y = 1 then some (acc, l.drop (q + 2)) else if y = 255 then rdEsc (l.drop (q + 2)) (acc ++ [0]) else none) := hide (by rw [HR.out, HD.out, HD2.out, rdEsc_zero])
    clear HR HD HD2
    go_wp2_with fail
    refine HNX.out.mono ?_
    rintro e w1 ⟨rfl, hcur1, hg1, hk1⟩
    have HNY := hide (HNS.out w1 hcur1)
    have hown1 : w1.ownsRow w.heap.size 5 1 u4 n (bv acc) := hown.kept hg1 (.inr (fun e => by have := (hown.lt _ e).1; omega))
    have HG1 := hide (grown_trans HG.out hg1)
    have HK1 := hide (HK.out.trans hk1)
    have hz1 : w.heap.size ≤ w1.heap.size := by have := hg1.size; omega
    clear hcur1 hg1 hk1 HNX HNS hown HG HK HC
    by_cases hy1 : y = 1
    · have HN : Hid (rdEsc (l.drop p) [] = some (acc, l.drop (q + 2))) := hide (by rw [HRZ.out, if_pos hy1])
      subst hy1
      go_wp2_with fail
      refine HNY.out.mono ?_
      rintro e w2 ⟨rfl, hcur2, hg2, hk2⟩
      have hown2 : w2.ownsRow w.heap.size 5 1 u4 n (bv acc) := hown1.kept hg2 (.inr (fun e => by have := (hown1.lt _ e).1; omega))
      obtain ⟨a4, c4, rfl, hB4⟩ := owns_isB hown2 HX.out
      have cv := conv_str hB4
      have HC2 := hide hcur2
      have HG2 := hide (grown_trans HG1.out hg2)
      have HK2 := hide (HK1.out.trans hk2)
      clear hown1 hown2 hB4 hcur2 hg2 hk2 HNY HG1 HK1
      go_wp2
      go_ret2
      exact ⟨.inl ⟨acc, q + 2, HN.out, HC2.out.le, HX.out, rfl, HC2.out⟩, HG2.out, HK2.out⟩
    have d1 : ((y : Int) == 1) = false := by simp; omega
    by_cases hy2 : y = 255
    case neg =>
      have HN : Hid (rdEsc (l.drop p) [] = none) := hide (by rw [HRZ.out, if_neg hy1, if_neg hy2])
      have d2 : ((y : Int) != 255) = true := by simp; omega
      go_wp2_with fail
      refine HNY.out.mono ?_
      rintro e w2 ⟨rfl, hcur2, hg2, hk2⟩
      go_wp2
      go_ret2
      exact ⟨.inr ⟨HN.out, _, rfl, hcur2⟩, grown_trans HG1.out hg2, HK1.out.trans hk2⟩
    have HR2 : Hid (rdEsc (l.drop p) [] = rdEsc (l.drop (q + 2)) (acc ++ [0])) := hide (by rw [HRZ.out, if_neg hy1, if_pos hy2])
    subst hy2
    go_wp2_with fail
    refine HNY.out.mono ?_
    rintro e w2 ⟨rfl, hcur2, hg2, hk2⟩
    have hown2 : w2.ownsRow w.heap.size 5 1 u4 n (bv acc) := hown1.kept hg2 (.inr (fun e => by have := (hown1.lt _ e).1; omega))
    have hz2 : w.heap.size ≤ w2.heap.size := by have := hg2.size; omega
    have HC2 := hide hcur2
    have HG2 := hide (grown_trans HG1.out hg2)
    have HK2 := hide (HK1.out.trans hk2)
    have HLO : Hid (∀ j, u4.ownBlock = some j → w.heap.size ≤ j) := hide (fun j hj => (hown2.lt j hj).1)
    clear hcur2 hg2 hk2 hown1 HNY HG1 HK1
    go_wp2_with (at_builtin; refine wpList_byte_g rfl _ _ rfl w.heap.size _ n acc rfl hown2 _ 0 rfl rfl (by omega) hz2 ?_)
    intro v3 w3 hown3 hg3
    have HC3 : Hid (Cur w3 g a len cap l (q + 2)) := hide ((HC2.out.kept (World.grownBy_alloc _ _ _)).keptBy hg3 (fun j hj => ⟨by have := HLO.out j hj; omega, fun b off h1 h2 => by have := HLO.out j hj; have := HA.out b off h1 h2; omega⟩))
    have HG3 := hide (grown_far (grown_alloc HG2.out _) hg3 (fun j hj => HLO.out j hj))
    have HK3 : Hid (Keep2 w w3 g) := hide (HK2.out.trans (keep2_block ((hg3.block g (by simp; omega) (fun e => by have := HLO.out g e.symm; omega)).trans (Below.heap_alloc _ _ _ (by omega)))))
    have HX3 : Hid (∀ y ∈ acc ++ [0], y < 256) := hide (by
      intro y hy
      rcases List.mem_append.1 hy with hy | hy
      · exact HX.out y hy
      · simp at hy; omega)
    have hcp3 := HC3.out.cpos
    have hcl3 := HC3.out.le
    clear hg3 hown2 HC2 HG2 HK2 HLO
    go_wp2
    go_roundw
    case rel => exact ⟨(q + 2), n + 1, acc ++ [0], hown3, by omega, by omega, HX3, HC3, HR2, HG3, HK3⟩
    case measure => rw [hcp3, hcp]; omega
end Go.Proofs.Ytnimlpbalfamcaa
