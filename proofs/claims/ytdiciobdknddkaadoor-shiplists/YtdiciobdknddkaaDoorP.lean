/- the document's Of; lists of the document's Move -/
import Derived.Test.YtdiciobdknddkaaDoorL
namespace Go.Proofs.YtdiciobdknddkaaDoor
open Go.RowKit
set_option linter.unusedVariables false
set_option maxRecDepth 8000 in
set_option maxHeartbeats 1000000 in
/-- the document's Of -/
theorem rof_any (a : Option Addr) (len cap : Nat) (l : List Sh) (n : Int) (w : World) (h : IsH w a len cap l) : Calls Tryd.prog 18 #[.slice a len cap, .int .i64 n] w fun e w' => e = .returned (.tuple #[.int .u8 (ofR l n).1, .int .i64 (ofR l n).2]) ∧ Below w.heap.size w w' := by
  have HV := hide h
  have HLN := hide h.1
  have hcap := h.2.1
  have hcm : cap ≤ 9223372036854775807 := h.2.2.1
  have HCK := hide (fun W (hW : IsH W a len cap l) => rcheck_any a len cap l W hW)
  clear h
  rcases checkE_cases l with ⟨hg, h0⟩ | ⟨hg, h0⟩
  · rw [h0] at HCK
    by_cases ho : orB n = true
    · have HR : Hid (ofR l n = (stL l n, 0)) := hide (ofR_good hg ho)
      generalize ofR l n = R at *
      have hn := orB_iff.1 ho
      have hn1 : ¬ n < 1 := by omega
      have hn2 : ¬ 1024 < n := by omega
      clear hn ho h0 hg
      go_enter Tryd.func18, Tryd.ntmps18
      go_wp2_with fail
      refine (HCK.out w HV.out).mono ?_
      rintro e w1 ⟨rfl, hb1⟩
      have HB1 := hide hb1
      clear hb1
      go_wp2
      go_loopw [23] (fun i wr => ∃ k : Nat, k ≤ len ∧ i = .int .i64 k ∧ Hid (stL l n = stL (l.drop k) n) ∧ Hid (Below w.heap.size w wr)) (fun i _ => len - (intOf i).toNat)
      case atStart => exact ⟨0, by omega, rfl, hide (by simp), HB1⟩
      case round =>
        obtain ⟨k, hk, rfl, HA, HW⟩ := hrel
        by_cases hlt : k < len
        · have HD := hide (drop_getD l k (by rw [HLN.out]; exact hlt))
          obtain ⟨bs, off, rfl, hbs, z0⟩ := (HV.out.below' HW.out).2.2.2.2.1 k hlt
          generalize l.getD k Sh0 = x at *
          obtain ⟨x1, x2⟩ := x
          obtain ⟨z1, z2⟩ := z0
          simp only at z1 z2
          have HG : Hid (stL l n = if x1 = n then x2 else stL (l.drop (k + 1)) n) := hide (by rw [HA.out, HD.out]; rfl)
          have HW1 : Hid (Below w.heap.size w (wr.alloc (.cells #[.int .i64 x1, .int .u8 x2] 42))) := hide (HW.out.alloc HW.out.size _)
          clear HA HD
          by_cases h1 : x1 = n
          · rw [if_pos h1] at HG
            obtain rfl : n = x1 := h1.symm
            go_wp2
            go_ret2
            exact ⟨ret_nx (by rw [HR.out, HG.out]) (by rw [HR.out]), HW1.out⟩
          · rw [if_neg h1] at HG
            go_wp2
            go_roundw
            case rel => exact ⟨k + 1, by omega, by simp, HG, HW1⟩
            case measure => simp [intOf]; omega
        · obtain rfl : k = len := by omega
          have HE : Hid (stL l n = 0) := hide (by rw [HA.out, List.drop_of_length_le (by rw [HLN.out]; omega)]; rfl)
          go_wp2
          go_ret2
          exact ⟨ret_nx (by rw [HR.out, HE.out]) (by rw [HR.out]), HW.out⟩
    · have HR : Hid (ofR l n = (0, 2)) := hide (ofR_bad (fun h => ho h.2))
      generalize ofR l n = R at *
      have hn : n < 1 ∨ 1024 < n := by
        have : ¬ (1 ≤ n ∧ n ≤ 1024) := fun h => ho (orB_iff.2 h)
        omega
      clear ho h0 hg
      by_cases hn1 : n < 1
      · clear hn
        go_enter Tryd.func18, Tryd.ntmps18
        go_wp2_with fail
        refine (HCK.out w HV.out).mono ?_
        rintro e w1 ⟨rfl, hb1⟩
        go_wp2
        go_ret2
        exact ⟨ret_nx (by rw [HR.out]) (by rw [HR.out]), hb1⟩
      · have hn2 : 1024 < n := by omega
        clear hn
        go_enter Tryd.func18, Tryd.ntmps18
        go_wp2_with fail
        refine (HCK.out w HV.out).mono ?_
        rintro e w1 ⟨rfl, hb1⟩
        go_wp2
        go_ret2
        exact ⟨ret_nx (by rw [HR.out]) (by rw [HR.out]), hb1⟩
  · have HR : Hid (ofR l n = (0, 2)) := hide (ofR_bad (fun h => hg h.1))
    generalize ofR l n = R at *
    rw [h0] at HCK
    clear h0 hg
    go_enter Tryd.func18, Tryd.ntmps18
    go_wp2_with fail
    refine (HCK.out w HV.out).mono ?_
    rintro e w1 ⟨rfl, hb1⟩
    go_wp2
    go_ret2
    exact ⟨ret_nx (by rw [HR.out]) (by rw [HR.out]), hb1⟩
/-- what the document's loop makes -/
def gl (c : Sh) : Bool → List Sh → List Sh
  | true, [] => []
  | false, [] => [c]
  | true, x :: r => if x.od = c.od then gl c true r else x :: gl c true r
  | false, x :: r => if x.od < c.od then x :: gl c false r else if x.od = c.od then c :: gl c true r else c :: x :: gl c true r
theorem gl_true (c : Sh) : ∀ {r : List Sh} {a : Int}, Good a r → c.od ≤ a → gl c true r = r
  | [], _, _, _ => rfl
  | x :: r, a, h, ha => by
    have h1 := h.1
    unfold gl
    rw [if_neg (by omega), gl_true c h.2.2.2.2.2 (by omega)]
theorem gl_ins (c : Sh) : ∀ {l : List Sh} {a : Int}, Good a l → gl c false l = insL l c
  | [], _, _ => rfl
  | x :: r, a, h => by
    unfold gl insL
    by_cases h1 : x.od < c.od
    · rw [if_pos h1, if_pos h1, gl_ins c h.2.2.2.2.2]
    · rw [if_neg h1, if_neg h1]
      by_cases h2 : x.od = c.od
      · rw [if_pos h2, if_pos h2, gl_true c h.2.2.2.2.2 (by omega)]
      · rw [if_neg h2, if_neg h2, gl_true c h.2.2.2.2.2 (by omega)]
theorem st_ok : ∀ {l : List Sh} {a : Int}, Good a l → ∀ n, stB (stL l n) = true
  | [], _, _, n => by simp [stL, stB]
  | x :: r, a, h, n => by
    unfold stL
    split
    · simp only [stB, decide_eq_true_eq]; exact h.2.2.2.1
    · exact st_ok h.2.2.2.2.2 n
/-- a row of the call's own -/
def OwnS (w : World) (base : Nat) (v : Value) (xs : List Sh) : Prop := w.ownsRow base 42 2 v xs.length (xs.flatMap shc)
theorem OwnS.alloc {w : World} {base : Nat} {v : Value} {xs : List Sh} (h : OwnS w base v xs) (o : Obj) : OwnS (w.alloc o) base v xs := World.ownsRow.alloc h o
theorem OwnS.lt {w : World} {base : Nat} {v : Value} {xs : List Sh} (h : OwnS w base v xs) : ∀ k, v.ownBlock = some k → base ≤ k ∧ k < w.heap.size := World.ownsRow.lt h
/-- append(own, one shipment) -/
theorem wpList_one {w : World} {ops : Array Oper} {rest : List Oper} {o : Oper} {a : Act} {Q : Exit → Act → World → Prop} (hgd : o.guard = none) (s x : Operand)
    (ho : o.op = .call { callee := .builtin .append, args := #[s, x], argTypes := #[31, 31] }) (base : Nat) (v : Value) (xs : List Sh) (hs : a.eval s = v) (hown : OwnS w base v xs)
    (q : Nat) (y : Sh) (hx : a.eval x = .slice (some ⟨q, 0, none⟩) 1 1) (hq : ShAt w q 0 y) (hn : xs.length ≤ 100000) (hbase : base ≤ w.heap.size)
    (h : ∀ v' w', Hid (OwnS w' base v' (xs ++ [y]) ∧ w.grownBy w' v.ownBlock ∧ (v'.ownBlock = v.ownBlock ∨ v'.ownBlock = some w.heap.size)) → wpList Tryd.prog ops Q rest (a.put o.dst v') w') : wpList Tryd.prog ops Q (o :: rest) a w := by
  obtain ⟨i0, hi, hz0, hz1, hz2⟩ := info_partsC info42
  refine wpList_append_own_at w hgd s x 31 ho base 42 i0 (vs Sh0) 2 16 Tryd.underlying31 hi hz0 hz1 hz2 rfl (by decide) _ _ _ hs hown ⟨q, 0, none⟩ 1 1 (shc y) hx rfl ?_ (fun u hu => flat_one [y] u (by simpa using hu)) (by unfold maxLen; omega) (by omega) hbase ?_
  · intro j u hj
    have hj2 : j < 2 := (List.getElem?_eq_some_iff.1 hj).1
    rw [addr_add, hq.get j hj2, hj]
  · intro v' w' hown' hg _ hloc
    refine h v' w' (hide ⟨?_, hg, hloc⟩)
    unfold OwnS
    rw [List.length_append, List.flatMap_append]
    simpa using hown'
/-- a row and a block beside it -/
theorem Blk.grown {w w' : World} {g : Nat} {x : Sh} {row : Option Nat} (h : Blk w g x) (hg : w.grownBy w' row) (hne : some g ≠ row) : Blk w' g x := (hg.block g (heap_lt h) hne).trans h
end Go.Proofs.YtdiciobdknddkaaDoor
