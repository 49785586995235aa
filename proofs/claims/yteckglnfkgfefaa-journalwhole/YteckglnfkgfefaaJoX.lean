/- JoX JpA -/
import Derived.Test.YteckglnfkgfefaaJoS
import Derived.Test.YteckglnfkgfefaaJoJ
import Derived.Test.YteckglnfkgfefaaJoZ
import Derived.Test.YteckglnfkgfefaaJnF
import Derived.ArgAppend
import Derived.Deep.RegionHeldLaw
/- the document's Unframe -/
namespace Go.Proofs.Yteckglnfkgfefaa
open Go.RowKit Cod
set_option maxRecDepth 40000
set_option linter.unusedSimpArgs false
set_option linter.unusedVariables false
/-- the first loop's state -/
def FuInv (w : World) (bs : List (List Nat)) (j : Nat) (x : Value) (wr : World) : Prop :=
  ∃ q, q ≤ j * 4064 ∧ wr.ownsRow w.heap.size 5 1 x q (bv (unL (bs.take j))) ∧ (∀ y ∈ unL (bs.take j), y < 256) ∧ Below w.heap.size w wr
/-- the second loop's state -/
def FuTwo (w : World) (R : List Nat) (len j : Nat) (x y : Value) (wr : World) : Prop :=
  ∃ out a' len' cap' rest, out.length = j ∧ Red R out rest ∧ len' ≤ len ∧ y = .slice a' len' cap' ∧ IsB wr a' len' cap' rest ∧ wr.ownsRow w.heap.size 9 1 x j (out.map Value.string) ∧ Below w.heap.size w wr
theorem FuTwo.start {w wr : World} {R : List Nat} {v : Value} {len N : Nat} (ho : ∃ a c, v = .slice a N c ∧ IsB wr a N c R) (hn : N ≤ len) (hb : Below w.heap.size w wr) : FuTwo w R len 0 (.slice none 0 0) v wr := by
  obtain ⟨a, c, rfl, hI⟩ := ho
  exact ⟨[], a, N, c, R, rfl, Red.start _, hn, rfl, hI, ⟨rfl, .inl ⟨rfl, rfl⟩⟩, hb⟩
end Go.Proofs.Yteckglnfkgfefaa
/- the document's Forged -/
namespace Go.Proofs.Yteckglnfkgfefaa
open Go.RowKit Cod
set_option maxRecDepth 40000
set_option linter.unusedSimpArgs false
set_option linter.unusedVariables false
/-- append(own, b...), as a step of a region that draws its order -/
theorem step_clone {ops : Array Oper} {o : Oper} {a : Act} {w : World} {K : Act → World → Prop} {Q : Exit → Act → World → Prop} {E : Prop} (hw : Region.wanted o (yielded ops a.tmps) = true) (s x : Operand)
    (ho : o.op = .call { callee := .builtin .append, args := #[s, x], argTypes := #[34, 34] }) (base : Nat) (v : Value) (n : Nat) (xs : List Value) (hs : a.eval s = v) (hown : w.ownsRow base 5 1 v n xs)
    (src : Option Addr) (len cap : Nat) (l : List Nat) (hx : a.eval x = .slice src len cap) (hB : IsB w src len cap l) (hb : n + len ≤ 140737488355328) (hbase : base ≤ w.heap.size)
    (B : Nat) (w0 : World) (hbel : Below B w0 w) (hB0 : B ≤ base)
    (h : ∀ v' w', w'.ownsRow base 5 1 v' (n + len) (xs ++ bv l) → Below B w0 w' → K (a.put o.dst v') w') : if Region.wanted o (yielded ops a.tmps) = true then Oper.wp Try.prog o a w K Q else E := by
  rw [if_pos hw]
  obtain ⟨i0, hi, hz0, hz1, hz2⟩ := info_parts Try.info5
  obtain ⟨h1, h2, h3, h4, h5⟩ := id hB
  have key : ∀ ad : Addr, src = some ad → (∀ j u, (bv l)[j]? = some u → w.cell? (ad.add j) = some u) → Oper.wp Try.prog o a w K Q := by
    intro ad had hsrc
    refine wp_append_own w s x 34 ho base 5 i0 (.int .u8 0) 1 1 Try.underlying34 hi hz0 hz1 hz2 rfl (by decide) v n xs hs hown ad len cap (bv l) (by rw [hx, had]) (by rw [bv_length, h1]; omega) hsrc (bv_one l) (by unfold maxLen; omega) (by omega) hbase ?_
    intro v' w' ho' hg _
    refine h v' w' ho' (hbel.grown hg (by omega) ?_)
    intro k hk
    have := (hown.lt k hk).1
    omega
  rcases h5 with ⟨h5, h6⟩ | ⟨b, off, rfl, hlt, hc⟩
  · subst h5
    obtain rfl : l = [] := List.length_eq_zero_iff.1 h1
    cases src with
    | none =>
      obtain rfl := h6 rfl
      have hrun := run_append_owned_none (P := Try.prog) (w := w) base 34 o.type 5 i0 1 Try.underlying34 hi v n xs hown
      have hk := h v w (by simpa [bv] using hown) hbel
      unfold Oper.wp
      simp [execOp, ho, resolve, invoke, builtin, hs, hx, hrun, Result.andThen]
      exact hk
    | some ad => exact key ad rfl (by simp [bv])
  · refine key _ rfl ?_
    intro j u hj
    have hjl : j < l.length := by
      rw [← bv_length]
      exact (List.getElem?_eq_some_iff.1 hj).1
    rw [bv_get l j hjl] at hj
    cases hj
    rw [addr_add]
    exact hc j (by omega)
/-- what Forged answers: false, where the sector isn't forged -/
def FgPost (w : World) (was all is : List Nat) (e : Ending) (w' : World) : Prop := (∃ t, e = .returned (.bool t) ∧ (t = false → ¬ Fgd was all is)) ∧ Below w.heap.size w w'
theorem FgPost.no {w w' : World} {was all is : List Nat} (h : ¬ Fgd was all is) (hb : Below w.heap.size w w') : FgPost w was all is (.returned (.bool false)) w' := ⟨⟨false, rfl, fun _ => h⟩, hb⟩
theorem FgPost.of {w w' : World} {was all is : List Nat} {t : Bool} (h : t = false → ¬ Fgd was all is) (hb : Below w.heap.size w w') : FgPost w was all is (.returned (.bool t)) w' := ⟨⟨t, rfl, h⟩, hb⟩
theorem str_mark : str markL = { data := #[76, 68, 78, 71] } := by rfl
set_option maxHeartbeats 4000000 in
theorem forged_any (w : World) (a b c : Option Addr) (la lb ca cb cc : Nat) (was all is : List Nat) (ha : IsB w a la ca was) (hb : IsB w b lb cb all) (hc : IsB w c 4096 cc is) :
    Calls Try.prog 53 #[.slice a la ca, .slice b lb cb, .slice c 4096 cc] w (FgPost w was all is) := by
  rcases hc.2.2.2.2 with ⟨h0, _⟩ | ⟨g, off, rfl, hlt, hcell⟩
  · omega
  have hcc := hc.2.1
  have hcm := hc.2.2.1
  unfold maxLen at hcm
  have cva := conv_str ha
  have cvb := conv_str hb
  have cvc := conv_str hc
  have hF := isB_frontAny hc 4 (by omega)
  have cvf := conv_str hF
  have m1 := str_eq hc.2.2.2.1 ha.2.2.2.1
  have m2 := str_eq hc.2.2.2.1 hb.2.2.2.1
  have m3 := str_eq hF.2.2.2.1 (show ∀ x ∈ markL, x < 256 by decide)
  rw [str_mark, show ({ data := #[76, 68, 78, 71] } : ByteArray).toList = [76, 68, 78, 71] from by first | rfl | decide | simp] at m3
  have HF := hide hF
  have H := hide hc
  clear ha hb hc hF hcell
  generalize str was = S1 at cva m1
  generalize str all = S2 at cvb m2
  generalize str is = S3 at cvc m1 m2
  generalize str (is.take 4) = S4 at cvf m3
  by_cases e1 : is = was
  · rw [decide_eq_true e1] at m1
    go_enter Try.func53, Try.ntmps53
    go_wp2_with fail
    go_ret
    exact FgPost.no (fun h => h.1 e1) (Below.refl _ _)
  rw [decide_eq_false e1] at m1
  by_cases e2 : is = all
  · rw [decide_eq_true e2] at m2
    go_enter Try.func53, Try.ntmps53
    go_wp2_with fail
    go_ret
    exact FgPost.no (fun h => h.2.1 e2) (Below.refl _ _)
  rw [decide_eq_false e2] at m2
  by_cases e3 : is.take 4 = markL
  case neg =>
    rw [decide_eq_false e3] at m3
    have m4 : (!(S4.toList == [76, 68, 78, 71])) = true := by rw [m3]; rfl
    go_enter Try.func53, Try.ntmps53
    go_wp2_with fail
    go_ret
    exact FgPost.no (fun h => e3 h.2.2.2.1) (Below.refl _ _)
  rw [decide_eq_true e3] at m3
  have m4 : (!(S4.toList == [76, 68, 78, 71])) = false := by rw [m3]; rfl
  have hBk := isB_backAny H.out 8 (by omega)
  have hMd := isB_frontAny (isB_backAny H.out 4 (by omega)) 4 (by omega)
  rw [if_neg (by omega)] at hBk hMd
  simp only [Option.map_some, addr_add] at hBk hMd
  obtain ⟨C, hC⟩ : ∃ C, C = Crc.update 0 (markL ++ [0, 0, 0, 0] ++ is.drop 8) := ⟨_, rfl⟩
  have HXX : Hid (∀ x ∈ markL ++ [0, 0, 0, 0] ++ is.drop 8, x < 256) := hide (by
    intro x hx
    rcases List.mem_append.1 hx with h | h
    · exact (show ∀ x ∈ markL ++ [0, 0, 0, 0], x < 256 by decide) x h
    · exact hBk.2.2.2.1 x h)
  have hcl := update_lt 0 (markL ++ [0, 0, 0, 0] ++ is.drop 8) (by decide) HXX.out
  rw [← hC] at hcl
  have hwc : IntKind.u64.wrap (C : Int) = (C : Int) := by rw [IntKind.wrap_u64]; omega
  have HC := hide hC
  have m5 := str_eq (leB_lt C 4) hMd.2.2.2.1
  have HDD : Hid (decide (leB C 4 = (is.drop 4).take 4) = false → ¬ Fgd was all is) := hide (fun h1 h2 => by
    have h3 := h2.2.2.2.2
    rw [← HC.out] at h3
    exact absurd h3 (of_decide_eq_false h1))
  generalize decide (leB C 4 = (is.drop 4).take 4) = dd at *
  have HSb : ∀ W, Below w.heap.size w W → ((convert 34 9 (.slice (some ⟨g, off + 4, none⟩) 4 (cc - 4))).run Try.prog W = .ok (.string (str ((is.drop 4).take 4))) W ∧ Hid (IsB W (some ⟨g, off + 8, none⟩) 4088 (cc - 8) (is.drop 8))) := fun W hW => ⟨conv_str (hMd.below hW), hide (hBk.below hW)⟩
  have HSB := hide HSb
  clear HSb hBk hMd hC hcl e1 e2
  have hc4 : ¬ cc = 4 := by omega
  have hc8 : ¬ cc = 8 := by omega
  generalize str ((is.drop 4).take 4) = S5 at *
  generalize is.drop 8 = D8 at *
  have hbA : Below w.heap.size w (w.alloc (.cells #[] 5)) := (Below.refl _ w).alloc (Nat.le_refl _) _
  have hownA := owns_empty w w.heap.size (Nat.le_refl _)
  have hIA := HF.out.below hbA
  go_enter Try.func53, Try.ntmps53
  go_wp2_with (at_builtin; refine wpList_clone rfl _ _ rfl w.heap.size _ 0 [] rfl hownA _ 4 cc (is.take 4) rfl hIA (by omega) hbA.size w.heap.size w hbA (Nat.le_refl _) ?_)
  intro v10 w10 ho10 hb10
  clear hbA hownA hIA
  have hbB : Below w.heap.size w (w10.alloc (.cells #[.int .u8 0, .int .u8 0, .int .u8 0, .int .u8 0] 5)) := hb10.alloc hb10.size _
  have hownB : (w10.alloc (.cells #[.int .u8 0, .int .u8 0, .int .u8 0, .int .u8 0] 5)).ownsRow w.heap.size 5 1 v10 4 (bv markL) := ho10.alloc _
  have hIB : IsB (w10.alloc (.cells #[.int .u8 0, .int .u8 0, .int .u8 0, .int .u8 0] 5)) (some ⟨w10.heap.size, 0, none⟩) 4 4 [0, 0, 0, 0] := isB_lit w10 [0, 0, 0, 0] (by decide) (by decide) (0, 0)
  clear ho10 hb10
  go_wp2_with (at_builtin; refine wpList_clone rfl _ _ rfl w.heap.size v10 4 _ rfl hownB _ 4 4 [0, 0, 0, 0] rfl hIB (by omega) hbB.size w.heap.size w hbB (Nat.le_refl _) ?_)
  intro v11 w11 ho11 hb11
  rw [← bv_append] at ho11
  have hqd : Below w.heap.size w w11.drew := Below.drew hb11
  have ho11d := own_below ho11 (Below.drew (Below.refl w11.heap.size w11))
  have hqs := hqd.size
  clear hbB hownB hIB ho11 hb11
  go_wp2_with fail
  go_region_held_law (fun w' => (convert 34 9 (.slice (some ⟨g, off + 4, none⟩) 4 (cc - 4))).run Try.prog w' = .ok (.string S5) w' ∧ Hid (IsB w' (some ⟨g, off + 8, none⟩) 4088 (cc - 8) D8)) (first | exact HSB.out _ hqd | exact HSB.out _ hb12 | exact HSB.out _ hq13) (first | (refine step_clone rfl _ _ rfl w.heap.size v11 8 (bv (markL ++ [0, 0, 0, 0])) rfl ho11d (some ⟨g, off + 8, none⟩) 4088 (cc - 8) D8 rfl (HSB.out _ hqd).2.out (by omega) hqs w.heap.size w hqd (Nat.le_refl _) ?_; intro v12 w12 ho12 hb12; rw [← bv_append] at ho12; obtain ⟨g12, c12, rfl, _, hI12⟩ := own_isB ho12 HXX.out (by omega); have C63 := refOf_any _ _ _ _ w12 hI12; rw [← HC.out] at C63) | (go_at_call 63; refine C63.mono ?_; rintro e w' ⟨rfl, hw'⟩; subst hw') | (go_at_call 62; refine (little_any C 4 (by omega) _).mono ?_; rintro e w13 ⟨v13, rfl, ho13, hb13⟩; obtain ⟨g13, c13, rfl, _, hI13⟩ := own_isB ho13 (leB_lt _ _) (by omega); have cv13 := conv_str hI13; have hq13 : Below w.heap.size w w13 := hb12.trans (hb13.mono hb12.size)))
  all_goals
    go_wp2
    go_ret
    exact FgPost.of HDD.out hq13
end Go.Proofs.Yteckglnfkgfefaa
