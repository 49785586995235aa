/- contracts: part, readAll, ReadKey -/
import Derived.Test.YtnimlpbalfamcaaU
import Derived.Deep.RegionLaw
namespace Go.Proofs.Ytnimlpbalfamcaa
open Go.RowKit Cod
set_option maxRecDepth 10000 in
set_option maxHeartbeats 2000000 in
theorem part_any (w : World) (g : Nat) (a : Option Addr) (len cap : Nat) (l : List Nat) (p : Nat) (h : Cur w g a len cap l p) (hp : p < len) (hsm : len ≤ 1048576) :
    Calls Try.prog 58 #[.pointer (some ⟨g, 0, none⟩)] w fun e w' =>
      ((∃ pt p', rdPart (l.drop p) = some (pt, l.drop p') ∧ p < p' ∧ p' ≤ len ∧ e = .returned (.tuple #[.agg #[.int .u8 (pt.k : Nat), .int .u64 (pt.n : Nat), .string (str pt.s)], .bool true]) ∧ Cur w' g a len cap l p') ∨
       (rdPart (l.drop p) = none ∧ ∃ (p' k n : Nat) (s : ByteArray), e = .returned (.tuple #[.agg #[.int .u8 (k : Nat), .int .u64 (n : Nat), .string s], .bool false]) ∧ Cur w' g a len cap l p')) ∧ w.grownBy w' (some g) ∧ Keep2 w w' g := by
  have hgs := h.lt
  have HA := hide h.arg
  have hlen := hide h.isb.1
  have Hxs := hide h.isb.2.2.2.1
  have hc0 : Cur (w.alloc (.cells #[.int .u8 0, .int .u64 0, .string ⟨#[]⟩] 60)) g a len cap l p := h.kept (World.grownBy_alloc _ _ _)
  have hg0 : w.grownBy (w.alloc (.cells #[.int .u8 0, .int .u64 0, .string ⟨#[]⟩] 60)) (some g) := World.grownBy_alloc _ _ _
  have hk0 : Keep2 w (w.alloc (.cells #[.int .u8 0, .int .u64 0, .string ⟨#[]⟩] 60)) g := keep2_block (Below.heap_alloc _ _ _ hgs)
  have hn0 : (w.alloc (.cells #[.int .u8 0, .int .u64 0, .string ⟨#[]⟩] 60)).heap[w.heap.size]? = some (.cells #[.int .u8 0, .int .u64 0, .string ⟨#[]⟩] 60 (0, 0)) := heap_alloc_new w _
  have hs0 : w.heap.size < (w.alloc (.cells #[.int .u8 0, .int .u64 0, .string ⟨#[]⟩] 60)).heap.size := by simp
  have NX := hide (next_some2 _ g a len cap l p hc0 hp)
  have HD : Hid (l.drop p = l.getD p 0 :: l.drop (p + 1)) := hide (drop_cons l p (by have := hlen.out; omega))
  have hx := getD_lt l p Hxs.out
  generalize l.getD p 0 = x at *
  have HG0 := hide hg0
  have HK0 := hide hk0
  clear hc0 hg0 hk0 h
  /- what is left where the answer is stored -/
  have FIN : Hid (∀ (W : World) (pe : Nat), W.heap[w.heap.size]? = some (.cells #[.int .u8 0, .int .u64 0, .string ⟨#[]⟩] 60 (0, 0)) → Cur W g a len cap l pe → w.grownBy W (some g) → Keep2 w W g →
      ∀ v0 v1 v2, Cur (((W.setCell ⟨w.heap.size, 0, none⟩ v0).setCell ⟨w.heap.size, 1, none⟩ v1).setCell ⟨w.heap.size, 2, none⟩ v2) g a len cap l pe ∧ w.grownBy (((W.setCell ⟨w.heap.size, 0, none⟩ v0).setCell ⟨w.heap.size, 1, none⟩ v1).setCell ⟨w.heap.size, 2, none⟩ v2) (some g) ∧ Keep2 w (((W.setCell ⟨w.heap.size, 0, none⟩ v0).setCell ⟨w.heap.size, 1, none⟩ v1).setCell ⟨w.heap.size, 2, none⟩ v2) g) := hide (by
    intro W pe _ hC hG hK v0 v1 v2
    have hne : w.heap.size ≠ g := by omega
    have har : ∀ b off, a = some ⟨b, off, none⟩ → 0 < len → b ≠ w.heap.size := fun b off h1 h2 => by have := HA.out b off h1 h2; omega
    exact ⟨((hC.setFar hne har).setFar hne har).setFar hne har, grown_setFar (grown_setFar (grown_setFar hG (Nat.le_refl _) _) (Nat.le_refl _) _) (Nat.le_refl _) _, ((hK.trans (keep2_far hne _)).trans (keep2_far hne _)).trans (keep2_far hne _)⟩)
  go_enter Try.func58, Try.ntmps58
  go_wp2_with fail
  refine NX.out.mono ?_
  rintro e w2 ⟨rfl, hcur2, hg2, hk2⟩
  have hb2 : w2.heap[w.heap.size]? = some (.cells #[.int .u8 0, .int .u64 0, .string ⟨#[]⟩] 60 (0, 0)) := (hg2.block _ hs0 (by simp; omega)).trans hn0
  have hs2 : w.heap.size < w2.heap.size := by have := hg2.size; omega
  have HG2 := hide (grown_trans HG0.out hg2)
  have HK2 := hide (HK0.out.trans hk2)
  clear hn0 hs0 hg2 hk2 NX HG0 HK0
  by_cases hx1 : x = 1
  · have d1 : ((x : Int) == 1) = true := by simp; omega
    by_cases h8 : p + 1 + 8 ≤ len
    · have HN : Hid (rdPart (l.drop p) = some (⟨1, be 0 ((l.drop (p + 1)).take 8), []⟩, l.drop (p + 1 + 8))) := hide (by
        rw [HD.out, rdPart, if_pos hx1, if_neg (by have := hlen.out; simp; omega), List.drop_drop])
      have NP := hide (numPart_ok w2 g a len cap l (p + 1) hcur2 h8)
      generalize hbe : be 0 ((l.drop (p + 1)).take 8) = nn at *
      clear hcur2 hbe
      go_wp2_with fail
      refine NP.out.mono ?_
      rintro e w3 ⟨rfl, hcur3, hg3, hk3⟩
      have hb3 : w3.heap[w.heap.size]? = some (.cells #[.int .u8 0, .int .u64 0, .string ⟨#[]⟩] 60 (0, 0)) := (hg3.block _ hs2 (by simp; omega)).trans hb2
      have HF := hide (FIN.out w3 _ hb3 hcur3 (grown_trans HG2.out hg3) (HK2.out.trans hk3))
      have e0 : w3.cell? ⟨w.heap.size, 0, none⟩ = some (.int .u8 0) := by simp [World.cell?, hb3]
      have e1 : w3.cell? ⟨w.heap.size, 1, none⟩ = some (.int .u64 0) := by simp [World.cell?, hb3]
      have e2 : w3.cell? ⟨w.heap.size, 2, none⟩ = some (.string ⟨#[]⟩) := by simp [World.cell?, hb3]
      have f0 : w3.frozen? ⟨w.heap.size, 0, none⟩ = false := by simp [World.frozen?, hb3]
      have f1 : w3.frozen? ⟨w.heap.size, 1, none⟩ = false := by simp [World.frozen?, hb3]
      have f2 : w3.frozen? ⟨w.heap.size, 2, none⟩ = false := by simp [World.frozen?, hb3]
      clear hcur3 hg3 hk3 hb3 hb2 NP FIN HG2 HK2
      go_wp2
      exact bodyPost_ret (v := .tuple #[.agg #[.int .u8 1, .int .u64 nn, .string ⟨#[]⟩], .bool true]) (by simp [results, Try.results58, go_sem, e0, e1, e2]) rfl ⟨.inl ⟨_, _, HN.out, by omega, by omega, rfl, (HF.out _ _ _).1⟩, (HF.out _ _ _).2⟩
    · have HN : Hid (rdPart (l.drop p) = none) := hide (by
        rw [HD.out, rdPart, if_pos hx1, if_pos (by have := hlen.out; simp; omega)])
      have NP := hide (numPart_no w2 g a len cap l (p + 1) hcur2 (by omega))
      clear hcur2
      go_wp2_with fail
      refine NP.out.mono ?_
      rintro e w3 ⟨rfl, hcur3, hg3, hk3⟩
      have hb3 : w3.heap[w.heap.size]? = some (.cells #[.int .u8 0, .int .u64 0, .string ⟨#[]⟩] 60 (0, 0)) := (hg3.block _ hs2 (by simp; omega)).trans hb2
      have HF := hide (FIN.out w3 _ hb3 hcur3 (grown_trans HG2.out hg3) (HK2.out.trans hk3))
      have e0 : w3.cell? ⟨w.heap.size, 0, none⟩ = some (.int .u8 0) := by simp [World.cell?, hb3]
      have e1 : w3.cell? ⟨w.heap.size, 1, none⟩ = some (.int .u64 0) := by simp [World.cell?, hb3]
      have e2 : w3.cell? ⟨w.heap.size, 2, none⟩ = some (.string ⟨#[]⟩) := by simp [World.cell?, hb3]
      have f0 : w3.frozen? ⟨w.heap.size, 0, none⟩ = false := by simp [World.frozen?, hb3]
      have f1 : w3.frozen? ⟨w.heap.size, 1, none⟩ = false := by simp [World.frozen?, hb3]
      have f2 : w3.frozen? ⟨w.heap.size, 2, none⟩ = false := by simp [World.frozen?, hb3]
      clear hcur3 hg3 hk3 hb3 hb2 NP FIN HG2 HK2
      go_wp2
      exact bodyPost_ret (v := .tuple #[.agg #[.int .u8 1, .int .u64 0, .string ⟨#[]⟩], .bool false]) (by simp [results, Try.results58, go_sem, e0, e1, e2]) rfl ⟨.inr ⟨HN.out, _, 1, 0, _, rfl, (HF.out _ _ _).1⟩, (HF.out _ _ _).2⟩
  have d1 : ((x : Int) == 1) = false := by simp; omega
  by_cases hx2 : x = 2
  · have d2 : ((x : Int) == 2) = true := by simp; omega
    have TP := hide (textPart_any w2 g a len cap l (p + 1) hcur2 hsm)
    have HRD : Hid (rdPart (l.drop p) = (rdEsc (l.drop (p + 1)) []).map (fun y => (⟨2, 0, y.1⟩, y.2))) := hide (by rw [HD.out, rdPart, if_neg hx1, if_pos hx2])
    clear hcur2
    go_wp2_with fail
    refine TP.out.mono ?_
    rintro e w3 ⟨(⟨s, p3, hr3, hp3, hs3, rfl, hcur3⟩ | ⟨hr3, p3, rfl, hcur3⟩), hg3, hk3⟩
    · have hshort := rdEsc_ok _ _ _ _ _ (Nat.le_refl _) hr3
      have hlt : p < p3 := by
        obtain ⟨t, _, ht⟩ := hshort
        have h1 := congrArg List.length ht
        have h2 := hlen.out
        simp at h1
        omega
      have HN : Hid (rdPart (l.drop p) = some (⟨2, 0, s⟩, l.drop p3)) := hide (by rw [HRD.out, hr3]; rfl)
      have hb3 : w3.heap[w.heap.size]? = some (.cells #[.int .u8 0, .int .u64 0, .string ⟨#[]⟩] 60 (0, 0)) := (hg3.block _ hs2 (by simp; omega)).trans hb2
      have HF := hide (FIN.out w3 _ hb3 hcur3 (grown_trans HG2.out hg3) (HK2.out.trans hk3))
      have e0 : w3.cell? ⟨w.heap.size, 0, none⟩ = some (.int .u8 0) := by simp [World.cell?, hb3]
      have e1 : w3.cell? ⟨w.heap.size, 1, none⟩ = some (.int .u64 0) := by simp [World.cell?, hb3]
      have e2 : w3.cell? ⟨w.heap.size, 2, none⟩ = some (.string ⟨#[]⟩) := by simp [World.cell?, hb3]
      have f0 : w3.frozen? ⟨w.heap.size, 0, none⟩ = false := by simp [World.frozen?, hb3]
      have f1 : w3.frozen? ⟨w.heap.size, 1, none⟩ = false := by simp [World.frozen?, hb3]
      have f2 : w3.frozen? ⟨w.heap.size, 2, none⟩ = false := by simp [World.frozen?, hb3]
      clear hcur3 hg3 hk3 hb3 hb2 TP FIN HG2 HK2 hr3 HRD hshort
      go_wp2
      exact bodyPost_ret (v := .tuple #[.agg #[.int .u8 2, .int .u64 0, .string (str s)], .bool true]) (by simp [results, Try.results58, go_sem, e0, e1, e2]) rfl ⟨.inl ⟨_, _, HN.out, hlt, hp3, rfl, (HF.out _ _ _).1⟩, (HF.out _ _ _).2⟩
    · have HN : Hid (rdPart (l.drop p) = none) := hide (by rw [HRD.out, hr3]; rfl)
      have hb3 : w3.heap[w.heap.size]? = some (.cells #[.int .u8 0, .int .u64 0, .string ⟨#[]⟩] 60 (0, 0)) := (hg3.block _ hs2 (by simp; omega)).trans hb2
      have HF := hide (FIN.out w3 _ hb3 hcur3 (grown_trans HG2.out hg3) (HK2.out.trans hk3))
      have e0 : w3.cell? ⟨w.heap.size, 0, none⟩ = some (.int .u8 0) := by simp [World.cell?, hb3]
      have e1 : w3.cell? ⟨w.heap.size, 1, none⟩ = some (.int .u64 0) := by simp [World.cell?, hb3]
      have e2 : w3.cell? ⟨w.heap.size, 2, none⟩ = some (.string ⟨#[]⟩) := by simp [World.cell?, hb3]
      have f0 : w3.frozen? ⟨w.heap.size, 0, none⟩ = false := by simp [World.frozen?, hb3]
      have f1 : w3.frozen? ⟨w.heap.size, 1, none⟩ = false := by simp [World.frozen?, hb3]
      have f2 : w3.frozen? ⟨w.heap.size, 2, none⟩ = false := by simp [World.frozen?, hb3]
      clear hcur3 hg3 hk3 hb3 hb2 TP FIN HG2 HK2 hr3 HRD
      go_wp2
      exact bodyPost_ret (v := .tuple #[.agg #[.int .u8 2, .int .u64 0, .string (str [])], .bool false]) (by simp [results, Try.results58, go_sem, e0, e1, e2]) rfl ⟨.inr ⟨HN.out, _, 2, 0, _, rfl, (HF.out _ _ _).1⟩, (HF.out _ _ _).2⟩
  · have d2 : ((x : Int) == 2) = false := by simp; omega
    have HN : Hid (rdPart (l.drop p) = none) := hide (by rw [HD.out, rdPart, if_neg hx1, if_neg hx2])
    have HF := hide (FIN.out w2 _ hb2 hcur2 HG2.out HK2.out)
    have e0 : w2.cell? ⟨w.heap.size, 0, none⟩ = some (.int .u8 0) := by simp [World.cell?, hb2]
    have e1 : w2.cell? ⟨w.heap.size, 1, none⟩ = some (.int .u64 0) := by simp [World.cell?, hb2]
    have e2 : w2.cell? ⟨w.heap.size, 2, none⟩ = some (.string ⟨#[]⟩) := by simp [World.cell?, hb2]
    have f0 : w2.frozen? ⟨w.heap.size, 0, none⟩ = false := by simp [World.frozen?, hb2]
    have f1 : w2.frozen? ⟨w.heap.size, 1, none⟩ = false := by simp [World.frozen?, hb2]
    have f2 : w2.frozen? ⟨w.heap.size, 2, none⟩ = false := by simp [World.frozen?, hb2]
    clear hcur2 hb2 FIN HG2 HK2
    go_wp2
    exact bodyPost_ret (v := .tuple #[.agg #[.int .u8 0, .int .u64 0, .string ⟨#[]⟩], .bool false]) (by simp [results, Try.results58, go_sem, e0, e1, e2]) rfl ⟨.inr ⟨HN.out, _, 0, 0, _, rfl, (HF.out _ _ _).1⟩, (HF.out _ _ _).2⟩
def pv1 (p : Part) : List Value := [.int .u8 (p.k : Nat), .int .u64 (p.n : Nat), .string (str p.s)]
def pvs (l : List Part) : List Value := l.flatMap pv1
theorem pvs_snoc (l : List Part) (y : Part) : pvs (l ++ [y]) = pvs l ++ pv1 y := by simp [pvs]
theorem pvs_length (l : List Part) : (pvs l).length = l.length * 3 := by
  induction l with
  | nil => rfl
  | cons y t ih =>
    have : pvs (y :: t) = pv1 y ++ pvs t := by simp [pvs]
    rw [this, List.length_append, ih, List.length_cons]; simp [pv1]; omega
theorem pvs_get (l : List Part) : ∀ i y, l[i]? = some y → (pvs l)[i * 3]? = some (.int .u8 (y.k : Nat)) ∧ (pvs l)[i * 3 + 1]? = some (.int .u64 (y.n : Nat)) ∧ (pvs l)[i * 3 + 2]? = some (.string (str y.s)) := by
  induction l with
  | nil => intro i y h; simp at h
  | cons z t ih =>
    intro i y h
    have e : pvs (z :: t) = pv1 z ++ pvs t := by simp [pvs]
    cases i with
    | zero => simp at h; subst h; rw [e]; exact ⟨rfl, rfl, rfl⟩
    | succ i =>
      simp at h
      have := ih i y h
      rw [e, show (i + 1) * 3 = i * 3 + 3 by omega, List.getElem?_append_right (by simp [pv1]), List.getElem?_append_right (by simp [pv1]), List.getElem?_append_right (by simp [pv1])]
      have e1 : i * 3 + 3 + 1 - (pv1 z).length = i * 3 + 1 := by simp [pv1]
      have e2 : i * 3 + 3 + 2 - (pv1 z).length = i * 3 + 2 := by simp [pv1]
      rw [e1, e2]
      simpa [pv1] using this
theorem Try.info60 : (Try.prog.info? 60).map (fun i => (i.zero, i.size, i.bytes)) = some (some (.agg #[.int .u8 0, .int .u64 0, .string ⟨#[]⟩]), 3, 32) := by kernel_rfl
theorem pv1_one (y : Part) : ∀ u ∈ pv1 y, u.oneCell' = true := by
  intro u hu; simp [pv1] at hu; rcases hu with rfl | rfl | rfl <;> rfl
theorem pv1_new (w : World) (y : Part) : ∀ j u, (pv1 y)[j]? = some u → (w.alloc (.cells (pv1 y).toArray 60)).cell? ((⟨w.heap.size, 0, none⟩ : Addr).add j) = some u := by
  intro j u hj
  rw [addr_add]
  have hn := heap_alloc_new w (.cells (pv1 y).toArray 60)
  simp only [World.cell?, hn]
  simpa using hj
theorem isP_of_owns {w : World} {base : Nat} {v : Value} {n : Nat} {l : List Part} (h : w.ownsRow base 60 3 v n (pvs l)) (hl : ∀ y ∈ l, okP y) : ∃ a cap, v = .slice a n cap ∧ IsP w a n cap l := by
  obtain ⟨h1, h2⟩ := h
  rw [pvs_length] at h1
  have hn : l.length = n := by omega
  rcases h2 with ⟨rfl, rfl⟩ | ⟨g, cap, cur, rfl, hb, hg, hc, hm, hs, ht⟩
  · exact ⟨none, 0, rfl, by simpa using hn, Nat.le_refl _, Nat.zero_le _, hl, .inl ⟨rfl, fun _ => rfl⟩⟩
  · refine ⟨_, cap, rfl, by simpa using hn, hc, hm, hl, .inr ⟨g, 0, rfl, ?_, ?_⟩⟩
    · by_cases h : g < w.heap.size
      · exact h
      · rw [Array.getElem?_eq_none (by omega)] at hg; cases hg
    · intro i y hy
      have hil : i < l.length := (List.getElem?_eq_some_iff.1 hy).1
      obtain ⟨g1, g2, g3⟩ := pvs_get l i y hy
      rw [← ht, List.getElem?_take, if_pos (by omega)] at g1 g2 g3
      simp only [World.cell?, hg, Nat.zero_add]
      exact ⟨by simpa using g1, by simpa using g2, by simpa using g3⟩
theorem owns_slice {w : World} {base e size n : Nat} {v : Value} {xs : List Value} (h : w.ownsRow base e size v n xs) : ∃ a c, v = .slice a n c := by
  rcases h.2 with ⟨rfl, rfl⟩ | ⟨g, cap, cur, rfl, _⟩
  · exact ⟨none, 0, rfl⟩
  · exact ⟨_, cap, rfl⟩
theorem Cur.set2 {w : World} {g : Nat} {a : Option Addr} {len cap : Nat} {l : List Nat} {p : Nat} (h : Cur w g a len cap l p) (v : Value) : Cur (w.setCell ⟨g, 2, none⟩ v) g a len cap l p := by
  have hb : w.grownBy (w.setCell ⟨g, 2, none⟩ v) (some g) := grown_set (World.grownBy.refl _ _) _
  refine ⟨?_, ?_, ?_, h.isb.kept hb h.ne, h.ne, h.le⟩
  · rw [World.cell?_setCell_other (h := by simp)]; exact h.c0
  · rw [World.cell?_setCell_other (h := by simp)]; exact h.c1
  · have := h.fr; simpa using this
theorem step_parts {ops : Array Oper} {o : Oper} {a : Act} {w : World} {K : Act → World → Prop} {Q : Exit → Act → World → Prop} {E : Prop} (hw : Region.wanted o (yielded ops a.tmps) = true) (s x : Operand)
    (ho : o.op = .call { callee := .builtin .append, args := #[s, x], argTypes := #[38, 38] }) (base : Nat) (v : Value) (n : Nat) (xs : List Value) (hs : a.eval s = v) (hown : w.ownsRow base 60 3 v n xs)
    (y : Part) (hx : a.eval x = .slice (some ⟨w.heap.size, 0, none⟩) 1 1) (hn : (n + 1) * 32 ≤ 140737488355328) (hbase : base ≤ w.heap.size)
    (h : ∀ v' w', w'.ownsRow base 60 3 v' (n + 1) (xs ++ pv1 y) → (w.alloc (.cells (pv1 y).toArray 60)).grownBy w' v.ownBlock → K (a.put o.dst v') w') : if Region.wanted o (yielded ops a.tmps) = true then Oper.wp Try.prog o a (w.alloc (.cells (pv1 y).toArray 60)) K Q else E := by
  rw [if_pos hw]
  obtain ⟨i0, hi, hz0, hz1, hz2⟩ := info_parts Try.info60
  refine wp_append_own (P := Try.prog) _ s x 38 ho base 60 i0 (.agg #[.int .u8 0, .int .u64 0, .string ⟨#[]⟩]) 3 32 Try.underlying38 hi hz0 hz1 hz2 rfl (by decide) v n xs hs (hown.alloc _) ⟨w.heap.size, 0, none⟩ 1 1 (pv1 y) hx rfl (pv1_new _ _) (pv1_one _) (by unfold maxLen; omega) hn (by simp; omega) ?_
  intro v' w' ho' hg _
  exact h v' w' ho' hg
set_option maxRecDepth 10000 in
set_option maxHeartbeats 2000000 in
theorem readAll_any (w : World) (g : Nat) (a : Option Addr) (len cap : Nat) (l : List Nat) (h : Cur w g a len cap l 0) (hc2 : w.cell? ⟨g, 2, none⟩ = some (.slice none 0 0)) (hf2 : w.frozen? ⟨g, 2, none⟩ = false) (hsm : len ≤ 1048576) :
    Calls Try.prog 49 #[.pointer (some ⟨g, 0, none⟩)] w fun e w' =>
      ((∃ ps v, rdAll l [] = some ps ∧ e = .returned (.bool true) ∧ w'.cell? ⟨g, 2, none⟩ = some v ∧ w'.ownsRow w.heap.size 60 3 v ps.length (pvs ps)) ∨
       (rdAll l [] = none ∧ e = .returned (.bool false))) ∧ w.grownBy w' (some g) := by
  have hlen := hide h.isb.1
  have HA := hide h.arg
  have hgs := h.lt
  have H := hide h
  have H2 := hide hc2
  have F2 := hide hf2
  clear h hc2 hf2
  go_enter Try.func49, Try.ntmps49
  go_wp2_with fail
  go_loopw [3, 4] (fun _ _ wr => ∃ (q k : Nat) (acc : List Part) (v : Value), k ≤ q ∧ q ≤ len ∧ Hid (Cur wr g a len cap l q) ∧ Hid (wr.cell? ⟨g, 2, none⟩ = some v) ∧ Hid (wr.frozen? ⟨g, 2, none⟩ = false) ∧ Hid (wr.ownsRow w.heap.size 60 3 v k (pvs acc)) ∧ Hid (rdAll l [] = rdAll (l.drop q) acc) ∧ Hid (w.grownBy wr (some g))) (fun _ _ wr => len - cpos wr g)
  case atStart => exact ⟨0, 0, [], .slice none 0 0, by omega, by omega, H, H2, F2, hide (World.ownsRow_nil _ _ _ _), hide rfl, hide (World.grownBy.refl _ _)⟩
  case round =>
    obtain ⟨q, k, acc, v, hkq, hq, HC, HV, HF, HO, HR, HG⟩ := hrel
    clear H H2 F2
    have hwz : w.heap.size ≤ wr.heap.size := HG.out.size
    have hcp := HC.out.cpos
    have IE := hide (isEnd_any wr g a len cap l q HC.out)
    by_cases hend : q = len
    · have HN : Hid (rdAll l [] = some acc) := hide (by rw [HR.out, hend, List.drop_eq_nil_of_le (by have := hlen.out; omega), rdAll_nil])
      have HL : Hid (acc.length = k) := hide (by have := HO.out.1; rw [pvs_length] at this; omega)
      rw [decide_eq_true hend] at IE
      clear hend
      go_wp2_with fail
      refine IE.out.mono ?_
      rintro e w2 ⟨rfl, m, rfl⟩
      go_wp2
      go_ret
      refine ⟨.inl ⟨acc, v, HN.out, rfl, HV.out, ?_⟩, grown_drewN HG.out m⟩
      rw [HL.out]
      exact HO.out.kept (grown_drewN (World.grownBy.refl _ none) m) (by cases v.ownBlock <;> simp)
    have PA := fun m => hide (part_any (wr.drewN m) g a len cap l q (HC.out.drewN m) (by omega) hsm)
    have HNE : Hid (l.drop q ≠ []) := hide (by intro e; have h1 := congrArg List.length e; have h2 := hlen.out; simp at h1; omega)
    rw [decide_eq_false hend] at IE
    go_wp2_with fail
    refine IE.out.mono ?_
    rintro e w2 ⟨rfl, m, rfl⟩
    clear IE
    go_wp2_with fail
    refine (PA m).out.mono ?_
    rintro e w3 ⟨(⟨pt, p3, hr3, hlt3, hp3, rfl, hcur3⟩ | ⟨hr3, p3, k3, n3, s3, rfl, hcur3⟩), hg3, hk3⟩
    case inr =>
      have HN : Hid (rdAll l [] = none) := hide (by rw [HR.out, rdAll_no HNE.out hr3])
      have HG3 := hide (grown_trans (grown_drewN HG.out m) hg3)
      clear hr3 hcur3 hg3 hk3 PA
      go_wp2
      go_ret
      exact ⟨.inr ⟨HN.out, rfl⟩, grown_alloc HG3.out _⟩
    have HR2 : Hid (rdAll l [] = rdAll (l.drop p3) (acc ++ [pt])) := hide (by rw [HR.out, rdAll_step hr3])
    have hg3' : wr.grownBy w3 (some g) := grown_trans (grown_drewN (World.grownBy.refl _ _) m) hg3
    have HG3 := hide (grown_trans HG.out hg3')
    have hv3 : w3.cell? ⟨g, 2, none⟩ = some v := hk3.1.trans HV.out
    have hf3 : w3.frozen? ⟨g, 2, none⟩ = false := hk3.2.trans HF.out
    have ho3 : w3.ownsRow w.heap.size 60 3 v k (pvs acc) := HO.out.kept hg3' (.inr (fun e => by have := (HO.out.lt _ e).1; omega))
    have hg3z : g < w3.heap.size := hcur3.lt
    have HC3 := hide hcur3
    have HLO : Hid (∀ j, v.ownBlock = some j → w.heap.size ≤ j ∧ j < w3.heap.size) := hide (fun j hj => ho3.lt j hj)
    have hz3 : w.heap.size ≤ w3.heap.size := by have := hg3'.size; omega
    clear hr3 hcur3 hg3 hk3 hg3' PA HC HV HF HO HR HG
    go_wp2_with fail
    have hW : (w3.alloc (.cells #[.int .u8 (pt.k : Nat), .int .u64 (pt.n : Nat), .string (str pt.s)] 60)).heap[w3.heap.size]? = some (.cells #[.int .u8 (pt.k : Nat), .int .u64 (pt.n : Nat), .string (str pt.s)] 60 (0, 0)) := heap_alloc_new w3 _
    have ho4 := ho3.alloc (.cells #[.int .u8 (pt.k : Nat), .int .u64 (pt.n : Nat), .string (str pt.s)] 60)
    have hv4 : (w3.alloc (.cells #[.int .u8 (pt.k : Nat), .int .u64 (pt.n : Nat), .string (str pt.s)] 60)).cell? ⟨g, 2, none⟩ = some v := (World.cell?_of_block (Below.heap_alloc _ _ _ hg3z)).trans hv3
    have hf4 : (w3.alloc (.cells #[.int .u8 (pt.k : Nat), .int .u64 (pt.n : Nat), .string (str pt.s)] 60)).frozen? ⟨g, 2, none⟩ = false := (World.frozen?_of_block (Below.heap_alloc _ _ _ hg3z)).trans hf3
    have HC4 : Hid (Cur (w3.alloc (.cells #[.int .u8 (pt.k : Nat), .int .u64 (pt.n : Nat), .string (str pt.s)] 60)) g a len cap l p3) := hide (HC3.out.kept (World.grownBy_alloc _ _ _))
    have HG4 : Hid (w.grownBy (w3.alloc (.cells #[.int .u8 (pt.k : Nat), .int .u64 (pt.n : Nat), .string (str pt.s)] 60)) (some g)) := hide (grown_alloc HG3.out _)
    have hz4 : w3.heap.size < (w3.alloc (.cells #[.int .u8 (pt.k : Nat), .int .u64 (pt.n : Nat), .string (str pt.s)] 60)).heap.size := by simp
    generalize w3.alloc (.cells #[.int .u8 (pt.k : Nat), .int .u64 (pt.n : Nat), .string (str pt.s)] 60) = W4 at *
    have hp0 : W4.cell? ⟨w3.heap.size, 0, none⟩ = some (.int .u8 (pt.k : Nat)) := by simp [World.cell?, hW]
    have hp1 : W4.cell? ⟨w3.heap.size, 1, none⟩ = some (.int .u64 (pt.n : Nat)) := by simp [World.cell?, hW]
    have hp2 : W4.cell? ⟨w3.heap.size, 2, none⟩ = some (.string (str pt.s)) := by simp [World.cell?, hW]
    have HS : Hid (∀ W' : World, (∀ k, k < W4.heap.size → v.ownBlock ≠ some k → W'.heap[k]? = W4.heap[k]?) → W'.cell? ⟨g, 2, none⟩ = some v ∧ W'.frozen? ⟨g, 2, none⟩ = false ∧ W'.cell? ⟨w3.heap.size, 0, none⟩ = some (.int .u8 (pt.k : Nat)) ∧ W'.cell? ⟨w3.heap.size, 1, none⟩ = some (.int .u64 (pt.n : Nat)) ∧ W'.cell? ⟨w3.heap.size, 2, none⟩ = some (.string (str pt.s))) := hide (by
      intro W' hW'
      have hg' := hW' g (by omega) (fun e => by have := (HLO.out g e).1; omega)
      have hn' := hW' w3.heap.size hz4 (fun e => by have := (HLO.out _ e).2; omega)
      exact ⟨(World.cell?_of_block hg').trans hv4, (World.frozen?_of_block hg').trans hf4, (World.cell?_of_block hn').trans hp0, (World.cell?_of_block hn').trans hp1, (World.cell?_of_block hn').trans hp2⟩)
    have ho4d : W4.drew.ownsRow w.heap.size 60 3 v k (pvs acc) := ho4
    have hz4w : w.heap.size ≤ W4.heap.size := by omega
    have hvd : W4.cell? ⟨g, 2, none⟩ = some v := hv4
    have hva : ∀ o : Obj, (W4.alloc o).cell? ⟨g, 2, none⟩ = some v := fun o => (HS.out (W4.alloc o) (fun k hk _ => Below.heap_alloc _ _ _ hk)).1
    have hpd0 : W4.cell? ⟨w3.heap.size, 0, none⟩ = some (.int .u8 (pt.k : Nat)) := hp0
    have hpd1 : W4.cell? ⟨w3.heap.size, 1, none⟩ = some (.int .u64 (pt.n : Nat)) := hp1
    have hpd2 : W4.cell? ⟨w3.heap.size, 2, none⟩ = some (.string (str pt.s)) := hp2
    clear hv3 hf3 ho3 HC3 HG3 hW hf4 ho4 hv4 hp0 hp1 hp2
    go_region_law (refine step_parts (w := W4.drew) rfl _ _ rfl w.heap.size v k (pvs acc) rfl ho4d pt rfl (by omega) hz4w ?_; intro v5 w5 ho5 hg5; obtain ⟨a5, c5, rfl⟩ := owns_slice ho5; obtain ⟨s5, t5, _, _, _⟩ := HS.out w5 (fun k hk hne => (hg5.block k (by simp; omega) (fun e => hne e.symm)).trans (Below.heap_alloc _ _ _ hk)))
    all_goals
      rw [← pvs_snoc] at ho5
      have hlo5 : ∀ j, v.ownBlock = some j → w.heap.size ≤ j := fun j hj => (HLO.out j hj).1
      have hC5 : Cur w5 g a len cap l p3 := ((HC4.out.drewN 1).kept (World.grownBy_alloc W4.drew _ none)).keptBy hg5 (fun j hj => ⟨by have := hlo5 j hj; omega, fun b off h1 h2 => by have := hlo5 j hj; have := HA.out b off h1 h2; omega⟩)
      have hG5 : w.grownBy w5 (some g) := grown_far (grown_alloc (grown_drew HG4.out) _) hg5 hlo5
      have hne5 : (Value.slice a5 (k + 1) c5).ownBlock ≠ some g := fun e => by have := (ho5.lt _ e).1; omega
      have HC6 : Hid (Cur (w5.setCell ⟨g, 2, none⟩ (.slice a5 (k + 1) c5)) g a len cap l p3) := hide (hC5.set2 _)
      have HO6 : Hid ((w5.setCell ⟨g, 2, none⟩ (.slice a5 (k + 1) c5)).ownsRow w.heap.size 60 3 (.slice a5 (k + 1) c5) (k + 1) (pvs (acc ++ [pt]))) := hide (ho5.kept (grown_set (World.grownBy.refl _ _) _) (.inr hne5))
      have HG6 : Hid (w.grownBy (w5.setCell ⟨g, 2, none⟩ (.slice a5 (k + 1) c5)) (some g)) := hide (grown_set hG5 _)
      have HV6 : Hid ((w5.setCell ⟨g, 2, none⟩ (.slice a5 (k + 1) c5)).cell? ⟨g, 2, none⟩ = some (.slice a5 (k + 1) c5)) := hide (World.cell?_setCell_same w5 ⟨g, 2, none⟩ _ s5)
      have HF6 : Hid ((w5.setCell ⟨g, 2, none⟩ (.slice a5 (k + 1) c5)).frozen? ⟨g, 2, none⟩ = false) := hide (by simpa using t5)
      have hcp6 := HC6.out.cpos
      clear hg5 ho5 s5 t5 hC5 hG5 hne5 hlo5 ho4d hvd hva hpd0 hpd1 hpd2
      go_wp2
      go_roundw
      case rel => exact ⟨p3, k + 1, acc ++ [pt], _, by omega, hp3, HC6, HV6, HF6, HO6, HR2, HG6⟩
      case measure => rw [hcp6, hcp]; omega
theorem rdAll_okP {l : List Nat} {ps : List Part} (hx : ∀ x ∈ l, x < 256) (h : rdAll l [] = some ps) : ∀ p ∈ ps, okP p := by
  obtain ⟨t, h1, _, h3⟩ := rdAll_ok _ l [] ps (Nat.le_refl _) hx h
  simp only [List.nil_append] at h1
  subst h1
  exact fun p hp => (h3 p hp).1
/-- a fresh reader over an argument -/
theorem Cur.new3 {w : World} {a : Option Addr} {len cap : Nat} {l : List Nat} (h : IsB w a len cap l) : Cur (w.alloc (.cells #[.slice a len cap, .int .i64 0, .slice none 0 0] 74)) w.heap.size a len cap l 0 := by
  have hn := heap_alloc_new w (.cells #[.slice a len cap, .int .i64 0, .slice none 0 0] 74)
  refine ⟨?_, ?_, ?_, h.below ((Below.refl _ _).alloc (Nat.le_refl _) _), ?_, Nat.zero_le _⟩
  · rw [World.cell?_alloc_new]; rfl
  · rw [World.cell?_alloc_new]; rfl
  · unfold World.frozen?; rw [hn]; rfl
  · intro b off hb hlen
    rcases h.2.2.2.2 with ⟨h0, _⟩ | ⟨b', off', hb', hlt, _⟩
    · omega
    · rw [hb] at hb'; cases hb'; omega
set_option maxHeartbeats 1000000 in
/-- codec.ReadKey -/
theorem readKey_any (a : Option Addr) (len cap : Nat) (l : List Nat) (w : World) (h : IsB w a len cap l) :
    Calls Try.prog 28 #[.slice a len cap] w fun e w' =>
      ((∃ ps a' c', rdKey l = .ok ps ∧ e = .returned (.tuple #[.slice a' ps.length c', .int .i64 0]) ∧ IsP w' a' ps.length c' ps) ∨
       (∃ k : Nat, rdKey l = .error k ∧ k ≠ 0 ∧ e = .returned (.tuple #[.slice none 0 0, .int .i64 k]))) ∧ Below w.heap.size w w' := by
  have hlen := hide h.1
  have Hxs := hide h.2.2.2.1
  have hcl : len ≤ cap := h.2.1
  have hcm : cap ≤ 9223372036854775807 := h.2.2.1
  by_cases h256 : 256 < len
  · have HN : Hid (rdKey l = .error 4) := hide (by unfold rdKey; rw [if_pos (by have := hlen.out; omega)])
    clear h
    go_enter Try.func28, Try.ntmps28
    go_wp2
    go_ret2
    exact ⟨.inr ⟨4, HN.out, by decide, rfl⟩, Below.refl _ _⟩
  have hn := heap_alloc_new w (.cells #[.slice a len cap, .int .i64 0, .slice none 0 0] 74)
  have RA := hide (readAll_any _ _ a len cap l (Cur.new3 h) (by rw [World.cell?_alloc_new]; rfl) (by unfold World.frozen?; rw [hn]; rfl) (by omega))
  have HL : Hid (¬ 256 < l.length) := hide (by have := hlen.out; omega)
  clear h hn
  go_enter Try.func28, Try.ntmps28
  go_wp2_with fail
  refine RA.out.mono ?_
  rintro e w2 ⟨(⟨ps, v, hr, rfl, hv, hown⟩ | ⟨hr, rfl⟩), hg⟩
  case inr =>
    have HN : Hid (rdKey l = .error 6) := hide (by unfold rdKey; rw [if_neg HL.out, hr])
    clear hr
    go_wp2
    go_ret2
    exact ⟨.inr ⟨6, HN.out, by decide, rfl⟩, below_of_grown hg⟩
  obtain ⟨a2, c2, rfl, hP⟩ := isP_of_owns hown (rdAll_okP Hxs.out hr)
  have hpl : ps.length ≤ 9223372036854775807 := Nat.le_trans hP.2.1 hP.2.2.1
  by_cases h16 : 16 < ps.length
  · have HN : Hid (rdKey l = .error 3) := hide (by unfold rdKey; rw [if_neg HL.out, hr]; simp only; rw [if_pos h16])
    have d1 : decide ((16 : Int) < (ps.length : Int)) = true := decide_eq_true (by omega)
    have d2 : decide (16 < ps.length) = true := decide_eq_true h16
    clear hr hown hP h16
    generalize ps.length = pl at *
    go_wp2
    go_ret2
    exact ⟨.inr ⟨3, HN.out, by decide, rfl⟩, below_of_grown hg⟩
  · have HN : Hid (rdKey l = .ok ps) := hide (by unfold rdKey; rw [if_neg HL.out, hr]; simp only; rw [if_neg h16])
    have d1 : decide ((16 : Int) < (ps.length : Int)) = false := decide_eq_false (by omega)
    have d2 : decide (16 < ps.length) = false := decide_eq_false h16
    have HP := hide hP
    clear hr hown hP h16
    generalize hpp : ps.length = pl at *
    have HPL := hide hpp
    clear hpp
    go_wp2
    go_ret2
    exact ⟨.inl ⟨ps, a2, c2, HN.out, by rw [HPL.out]; rfl, by rw [HPL.out]; exact HP.out⟩, below_of_grown hg⟩
end Go.Proofs.Ytnimlpbalfamcaa
