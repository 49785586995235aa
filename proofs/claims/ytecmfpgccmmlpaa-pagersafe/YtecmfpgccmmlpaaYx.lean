/- contracts: torn -/
import Derived.Test.YtecmfpgccmmlpaaXx
namespace Go.Proofs.Ytecmfpgccmmlpaa
open Go.RowKit
variable {X : Nat → Prop}
/-- bytes of a row put over another's -/
def patch (m m2 : List Nat) (f G : Nat) : List Nat := m.take f ++ (m2.drop f).take G ++ m.drop (f + G)
theorem cp_mid {N G f : Nat} {W : World} {q q2 : Nat} {m m2 : List Nat} (hq : Row W q N N m) (h2 : Row W q2 N N m2) (hf : f + G ≤ N) (hG : 0 < G) (hx : ∀ x ∈ m2, x < 256) (c1 c2 : Nat) :
    ∃ W', (Builtin.copy_ #[25, 25] 3 #[.slice (some ⟨q, f, none⟩) G c1, .slice (some ⟨q2, f, none⟩) (N - f) c2]).run Try.prog W = .ok (.int .i64 (G : Int)) W' ∧ Row W' q N N (patch m m2 f G) ∧ (∀ k, k ≠ q → W'.heap[k]? = W.heap[k]?) ∧ W'.os = W.os ∧ W'.tape = W.tape ∧ W'.output = W.output ∧ W'.heap.size = W.heap.size := by
  obtain ⟨hm, _, hmax, cur, hb, hs, ht⟩ := id hq
  have hl2 : ((m2.drop f).take G).length = G := by have := h2.1; simp; omega
  have hB : IsB W (some ⟨q2, f, none⟩) G G ((m2.drop f).take G) := by
    refine ⟨hl2, Nat.le_refl _, by omega, fun x hx' => hx x (List.mem_of_mem_drop (List.mem_of_mem_take hx')), .inr ⟨q2, f, rfl, h2.lt, fun i hi => ?_⟩⟩
    rw [h2.cell (j := f + i) (by omega)]
    simp [List.getD_eq_getElem?_getD, hi]
  have hr := run_copy_row (P := Try.prog) W 25 25 3 5 q f G c1 ⟨q2, f, none⟩ (N - f) c2 cur 5 (bv ((m2.drop f).take G)) Try.underlying25 hsz5 hb (by rw [bv_length, hl2]; first | exact (Nat.min_eq_left (by omega)).symm | exact (Nat.min_eq_right (by omega)).symm) hB.src (by rw [bv_length, hl2]; omega) (bv_one _)
  have hcur : cur.toList = bv m := by
    rw [← ht, List.take_of_length_le (by simp [hs])]
  have e : (cur.toList.take f ++ bv ((m2.drop f).take G) ++ cur.toList.drop (f + (bv ((m2.drop f).take G)).length)) = bv (patch m m2 f G) := by
    rw [hcur, bv_length, hl2, patch, bv_append, bv_append]
    simp [bv, List.map_take, List.map_drop]
  rw [e, bv_length, hl2] at hr
  exact ⟨_, hr, row_setRow hb (by simp [patch, hm, h2.1]; omega) hmax, fun k hk => setRow_other W q k _ hk, rfl, rfl, rfl, by simp [World.setRow]⟩
/-- copy, as one step of a region -/
theorem step_cp {ops : Array Oper} {o : Oper} {a : Act} {w : World} {K : Act → World → Prop} {Q : Exit → Act → World → Prop} {E : Prop} (hgd : o.guard = none) (d s : Operand)
    (ho : o.op = .call { callee := .builtin .copy, args := #[d, s], argTypes := #[25, 25] }) (ht : o.type = 3) (v1 v2 : Value) (hd : a.eval d = v1) (hs : a.eval s = v2) (r : Value) (W' : World)
    (hrun : (Builtin.copy_ #[25, 25] 3 #[v1, v2]).run Try.prog w = .ok r W') (h : K (a.put o.dst r) W') : if Region.wanted o (yielded ops a.tmps) = true then Oper.wp Try.prog o a w K Q else E := by
  have hw : Region.wanted o (yielded ops a.tmps) = true := by simp [Region.wanted, hgd]
  rw [if_pos hw]
  unfold Oper.wp
  simp [execOp, ho, ht, resolve, invoke, builtin, hd, hs, hrun, Result.andThen]
  exact h
/-- whether grain k is torn anew -/
def bitB (mask k : Nat) : Bool := bits BinOp.and IntKind.u8 ((mask : Int) / 2 ^ k) 1 == 1
def tornK (mask : Nat) (m m2 : List Nat) : Nat → List Nat
  | 0 => m
  | k + 1 => if bitB mask k = true then patch (tornK mask m m2 k) m2 (k * 512) 512 else tornK mask m m2 k
set_option maxRecDepth 40000 in
set_option maxHeartbeats 2000000 in
/-- disk.torn -/
theorem torn_any (mask : Nat) (_hmask : mask < 256) (a a' : Option Addr) (len cap len' cap' : Nat) (l l' : List Nat) (w : World) (h : IsB w a len cap l) (hn : len ≤ 4096) (h' : IsB w a' len' cap' l') (hn' : len' ≤ 4096) :
    Calls Try.prog 68 #[.int .u8 (mask : Nat), .slice a len cap, .slice a' len' cap'] w fun e w' => ∃ q, e = .returned (.slice (some ⟨q, 0, none⟩) 4096 4096) ∧ w.heap.size ≤ q ∧ Row w' q 4096 4096 (tornK mask (full l) (full l') 8) ∧ Below w.heap.size w w' := by
  have W1 := hide (whole_any a len cap l w h hn)
  have HB' := hide h'
  have HX : Hid (∀ x ∈ full l', x < 256) := hide (full_lt h'.2.2.2.1)
  generalize full l = m at *
  generalize hm' : full l' = m' at *
  have HM' := hide hm'
  clear h h' hn hm'
  go_enter Try.func68, Try.ntmps68
  go_wp2_with fail
  refine W1.out.mono ?_
  rintro e w1 ⟨q, rfl, hq, hrow, hb1⟩
  have HQ := hide hq
  have HR1 := hide hrow
  have HB1 := hide hb1
  clear hq hrow hb1 W1
  go_wp2_with fail
  refine (whole_any a' len' cap' l' w1 (HB'.out.below HB1.out) hn').mono ?_
  rintro e w2 ⟨q2, rfl, hq2, hrow2, hb2⟩
  rw [HM'.out] at hrow2
  have HQ2 := hide hq2
  have HR2 := hide hrow2
  have HQL := hide HR1.out.lt
  have HR1' := hide (HR1.out.below hb2 HR1.out.lt)
  have HB2 := hide (HB1.out.trans (hb2.mono HB1.out.size))
  clear hq2 hrow2 hb2 HR1
  go_wp2_with fail
  go_loopw [15] (fun i wr => ∃ k : Nat, k ≤ 8 ∧ i = .int .i64 k ∧ Hid (Row wr q 4096 4096 (tornK mask m m' k)) ∧ Hid (Row wr q2 4096 4096 m') ∧ Hid (Below w.heap.size w wr)) (fun i _ => 8 - (intOf i).toNat)
  case atStart => exact ⟨0, by omega, rfl, HR1', HR2, HB2⟩
  case round =>
    obtain ⟨k, hk, rfl, HA, HC, HD⟩ := hrel
    by_cases hk8 : k = 8
    · subst hk8
      go_wp2
      go_ret
      exact ⟨q, rfl, HQ.out, HA.out, HD.out⟩
    · have hlt : k < 8 := by omega
      by_cases hbit : bitB mask k = true
      · have hbb : (bits BinOp.and IntKind.u8 ((mask : Int) / 2 ^ k) 1 == 1) = true := hbit
        have HT : Hid (tornK mask m m' (k + 1) = patch (tornK mask m m' k) m' (k * 512) 512) := hide (by rw [tornK, if_pos hbit])
        obtain ⟨F, hFe⟩ : ∃ F : Nat, F = k * 512 := ⟨_, rfl⟩
        have hF : (k : Int) * 512 = (F : Int) := by omega
        have hF1 : F + 512 ≤ 4096 := by omega
        rw [← hFe] at HT
        clear hFe
        obtain ⟨E, hE⟩ : ∃ E : Nat, E = F + 512 := ⟨_, rfl⟩
        have e1 : IntKind.i64.wrap ((F : Int) + 512) = (E : Int) := by
          have hw : (F : Int) + 512 = (E : Int) := by omega
          rw [hw]
          simp [IntKind.wrap, IntKind.bits, IntKind.signed]
          omega
        have t2 : E - F = 512 := by omega
        have t4 : E ≤ 4096 := by omega
        have t5 : F ≤ E := by omega
        have t6 : (E : Int) ≤ 4096 := by omega
        have t7 : (F : Int) ≤ 4096 := by omega
        have t8 : F ≤ 4096 := by omega
        clear hE
        have t3 : ¬ 4096 = F := by omega
        obtain ⟨W3, hcp, hR3, hoth, h1, h2, h3, h4⟩ := cp_mid (W := wr.drew) (f := F) (G := 512) HA.out HC.out (by omega) (by omega) HX.out (4096 - F) (4096 - F)
        rw [← HT.out] at hR3
        have HR3 := hide hR3
        have HOT := hide hoth
        have HH := hide (And.intro h1 (And.intro h2 (And.intro h3 h4)))
        clear hR3 hoth h1 h2 h3 h4
        go_wp2_with fail
        go_region_law (refine step_cp rfl (.tmp 29) (.tmp 32) rfl rfl (.slice (some ⟨q, F, none⟩) 512 (4096 - F)) (.slice (some ⟨q2, F, none⟩) (4096 - F) (4096 - F)) (by simp [Act.eval, Act.put]) (by simp [Act.eval, Act.put]) _ _ hcp ?_)
        all_goals
          have hne : q2 ≠ q := by have := HQL.out; have := HQ2.out; omega
          obtain ⟨cm, cl, cx, cur, cb, cs, ct⟩ := HC.out
          have HC3 : Hid (Row W3 q2 4096 4096 m') := hide ⟨cm, cl, cx, cur, (HOT.out q2 hne).trans cb, cs, ct⟩
          have HD3 : Hid (Below w.heap.size w W3) := hide (HD.out.trans ⟨HH.out.1, HH.out.2.1, HH.out.2.2.1, Nat.le_of_eq HH.out.2.2.2.symm, fun j hj => HOT.out j (by have := HQ.out; omega)⟩)
          clear cm cl cx cb cs ct hne
          go_wp2
          go_roundw
          case rel => exact ⟨k + 1, by omega, by simp, HR3, HC3, HD3⟩
          case measure => simp [intOf]; omega
      · have hbb : (bits BinOp.and IntKind.u8 ((mask : Int) / 2 ^ k) 1 == 1) = false := by simpa [bitB] using hbit
        have HT : Hid (tornK mask m m' (k + 1) = tornK mask m m' k) := hide (by rw [tornK, if_neg hbit])
        go_wp2
        go_roundw
        case rel => exact ⟨k + 1, by omega, by simp, hide (by rw [HT.out]; exact HA.out), HC, HD⟩
        case measure => simp [intOf]; omega
/-- what a sector is that is torn -/
theorem out_tear (w : World) (m : Nat) (hm : m < 256) (a a' : Option Addr) (len cap len' cap' : Nat) (l l' : List Nat) (h : IsB w a len cap l) (hn : len ≤ 4096) (h' : IsB w a' len' cap' l') (hn' : len' ≤ 4096) :
    Calls Try.prog 54 #[.agg #[.int .u8 2, .int .u8 (m : Nat)], .slice a len cap, .slice a' len' cap'] w fun e w' => ∃ q, e = .returned (.slice (some ⟨q, 0, none⟩) 4096 4096) ∧ w.heap.size ≤ q ∧ Row w' q 4096 4096 (tornK m (full l) (full l') 8) ∧ Below w.heap.size w w' := by
  have HB := hide (fun o : Obj => (Below.refl w.heap.size w).alloc (Nat.le_refl _) o)
  have TN := hide (fun W (hW : Below w.heap.size w W) => torn_any m hm a a' len cap len' cap' l l' W (h.below hW) hn (h'.below hW) hn')
  generalize tornK m (full l) (full l') 8 = t at *
  clear h hn h' hn'
  go_enter Try.func54, Try.ntmps54
  go_wp2_with fail
  refine (TN.out _ (HB.out _)).mono ?_
  rintro e w2 ⟨q, rfl, hq, hrow, hb⟩
  have HR := hide hrow
  have HQ : Hid (w.heap.size ≤ q) := hide (by simp at hq; omega)
  have HB2 := hide ((HB.out _).trans (hb.mono (by simp)))
  clear hq hrow hb
  go_wp2
  go_ret
  exact ⟨q, rfl, HQ.out, HR.out, HB2.out⟩
def outL (k m : Nat) (lo lf : List Nat) : List Nat := if k = 1 then lf else if k = 2 then tornK m (full lo) (full lf) 8 else lo
theorem patch_lt {m m2 : List Nat} {f G : Nat} (h : ∀ x ∈ m, x < 256) (h2 : ∀ x ∈ m2, x < 256) : ∀ x ∈ patch m m2 f G, x < 256 := by
  intro x hx
  simp only [patch, List.mem_append] at hx
  rcases hx with (hx | hx) | hx
  · exact h x (List.mem_of_mem_take hx)
  · exact h2 x (List.mem_of_mem_drop (List.mem_of_mem_take hx))
  · exact h x (List.mem_of_mem_drop hx)
theorem tornK_lt {mask : Nat} {m m2 : List Nat} (h : ∀ x ∈ m, x < 256) (h2 : ∀ x ∈ m2, x < 256) : ∀ k, ∀ x ∈ tornK mask m m2 k, x < 256
  | 0 => h
  | k + 1 => by
    rw [tornK]
    split
    · exact patch_lt (tornK_lt h h2 k) h2
    · exact tornK_lt h h2 k
/-- disk.outcome -/
theorem out_any (w : World) (k m : Nat) (hm : m < 256) (vo vf : Value) (lo lf : List Nat) (ho : Dat X w vo lo) (hf : Dat X w vf lf) (hX : ∀ i, X i → i < w.heap.size) :
    Calls Try.prog 54 #[.agg #[.int .u8 (k : Nat), .int .u8 (m : Nat)], vo, vf] w fun e w' => ∃ v, e = .returned v ∧ Dat X w' v (outL k m lo lf) ∧ Below w.heap.size w w' := by
  obtain ⟨a, len, cap, rfl, hB, hn, h5⟩ := id ho
  obtain ⟨a', len', cap', rfl, hB', hn', h5'⟩ := id hf
  by_cases h1 : k = 1
  · subst h1
    refine (out_keep w m a a' len cap len' cap').mono ?_
    rintro e w' ⟨rfl, hb⟩
    exact ⟨_, rfl, by rw [outL, if_pos rfl]; exact hf.kept (K5.below hb), hb⟩
  · by_cases h2 : k = 2
    · subst h2
      refine (out_tear w m hm a a' len cap len' cap' lo lf hB hn hB' hn').mono ?_
      rintro e w' ⟨q, rfl, hq, hrow, hb⟩
      refine ⟨_, rfl, ?_, hb⟩
      rw [outL, if_neg (by omega), if_pos rfl]
      refine ⟨_, 4096, 4096, rfl, hrow.isB (tornK_lt (full_lt hB.2.2.2.1) (full_lt hB'.2.2.2.1) 8), Nat.le_refl _, fun _ b off e => ?_⟩
      cases e
      obtain ⟨_, _, _, cur, hg, _⟩ := hrow
      exact ⟨⟨cur, _, hg⟩, fun hx => by have := hX _ hx; omega⟩
    · refine (out_lose w k m h1 h2 a a' len cap len' cap').mono ?_
      rintro e w' ⟨rfl, hb⟩
      exact ⟨_, rfl, by rw [outL, if_neg h1, if_neg h2]; exact ho.kept (K5.below hb), hb⟩
end Go.Proofs.Ytecmfpgccmmlpaa
