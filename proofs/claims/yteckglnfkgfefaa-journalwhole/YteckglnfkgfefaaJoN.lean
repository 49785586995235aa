/- JoN JoL -/
import Derived.Test.YteckglnfkgfefaaJoJ
import Derived.Test.YteckglnfkgfefaaJoC
import Derived.Test.YteckglnfkgfefaaJoD
/- the document's Same, SameBytes, SameAll, at like lists -/
namespace Go.Proofs.Yteckglnfkgfefaa
open Go.RowKit Cod
set_option maxRecDepth 40000
set_option linter.unusedSimpArgs false
set_option linter.unusedVariables false
set_option maxHeartbeats 1000000 in
theorem sameT_any (a : Option Addr) (len cap : Nat) (T : List ByteArray) (a' : Option Addr) (cap' : Nat) (w : World) (h : IsT w a len cap T) (h' : IsT w a' len cap' T) :
    Calls Try.prog 16 #[.slice a len cap, .slice a' len cap'] w fun e w' => e = .returned (.bool true) ∧ Below w.heap.size w w' := by
  have HV := hide h
  have HV' := hide h'
  have hcap := h.2.1
  have hcm : cap ≤ 9223372036854775807 := h.2.2.1
  have hcap' := h'.2.1
  have hcm' : cap' ≤ 9223372036854775807 := h'.2.2.1
  clear h h'
  go_enter Try.func16, Try.ntmps16
  go_wp2
  go_loopw [13] (fun i wr => ∃ k : Nat, k ≤ len ∧ i = .int .i64 k ∧ Hid (Below w.heap.size w wr)) (fun i _ => len - (intOf i).toNat)
  case atStart => exact ⟨0, Nat.zero_le _, rfl, hide (Below.refl _ _)⟩
  case round =>
    obtain ⟨k, hk, rfl, HB⟩ := hrel
    by_cases hlt : k < len
    case neg =>
      obtain rfl : k = len := by omega
      go_wp2
      go_ret
      exact ⟨rfl, HB.out⟩
    case pos =>
      rcases (HV.out.below HB.out).2.2.2 with h0 | ⟨b, off, rfl, hbs, z0⟩
      · omega
      rcases (HV'.out.below HB.out).2.2.2 with h0 | ⟨b', off', rfl, hbs', y0⟩
      · omega
      have z0 := z0 k hlt
      have y0 := y0 k hlt
      generalize T.getD k ByteArray.empty = x at *
      have HBD : Hid (Below w.heap.size w wr.drew) := hide HB.out.drew
      have HS : Hid (wr.drew.cell? ⟨b, off + k, none⟩ = some (.string x) ∧ wr.drew.cell? ⟨b', off' + k, none⟩ = some (.string x)) := hide ⟨z0, y0⟩
      have hkc : (k : Int) < len := by omega
      have hk0 : (0 : Int) ≤ (k : Int) := by omega
      go_wp2_with fail
      go_region_held (fun W : World => W.cell? ⟨b, off + k, none⟩ = some (.string x) ∧ W.cell? ⟨b', off' + k, none⟩ = some (.string x)) (exact HS.out) (fail)
      go_wp2
      go_roundw
      case rel => exact ⟨k + 1, by omega, by simp, HBD⟩
      case measure => simp [intOf]; omega
/-- a slice of batches reads as l -/
def IsLL (w : World) (a : Option Addr) (len cap : Nat) (l : List (List ByteArray)) : Prop :=
  l.length = len ∧ len ≤ cap ∧ cap ≤ maxLen ∧ (len = 0 ∨ ∃ b off, a = some ⟨b, off, none⟩ ∧ b < w.heap.size ∧ ∀ i, i < len → ∃ u, w.cell? ⟨b, off + i, none⟩ = some u ∧ IsTT w u (l.getD i []))
theorem IsLL.below {w w1 : World} {a : Option Addr} {len cap : Nat} {l : List (List ByteArray)} (h : IsLL w a len cap l) (hb : Below w.heap.size w w1) : IsLL w1 a len cap l := by
  obtain ⟨h1, h2, h3, h5⟩ := h
  refine ⟨h1, h2, h3, h5.imp id ?_⟩
  rintro ⟨b, off, rfl, hlt, hc⟩
  refine ⟨b, off, rfl, Nat.lt_of_lt_of_le hlt hb.size, fun i hi => ?_⟩
  obtain ⟨u, e, hu⟩ := hc i hi
  exact ⟨u, (hb.cell (p := ⟨b, off + i, none⟩) hlt).trans e, hu.kept (K9.below hb)⟩
set_option maxHeartbeats 1000000 in
theorem sameLL_any (a : Option Addr) (len cap : Nat) (T : List (List ByteArray)) (a' : Option Addr) (cap' : Nat) (w : World) (h : IsLL w a len cap T) (h' : IsLL w a' len cap' T) :
    Calls Try.prog 27 #[.slice a len cap, .slice a' len cap'] w fun e w' => e = .returned (.bool true) ∧ Below w.heap.size w w' := by
  have HV := hide h
  have HV' := hide h'
  have hcap := h.2.1
  have hcm : cap ≤ 9223372036854775807 := h.2.2.1
  have hcap' := h'.2.1
  have hcm' : cap' ≤ 9223372036854775807 := h'.2.2.1
  clear h h'
  go_enter Try.func27, Try.ntmps27
  go_wp2
  go_loopw [13] (fun i wr => ∃ k : Nat, k ≤ len ∧ i = .int .i64 k ∧ Hid (Below w.heap.size w wr)) (fun i _ => len - (intOf i).toNat)
  case atStart => exact ⟨0, Nat.zero_le _, rfl, hide (Below.refl _ _)⟩
  case round =>
    obtain ⟨k, hk, rfl, HB⟩ := hrel
    by_cases hlt : k < len
    case neg =>
      obtain rfl : k = len := by omega
      go_wp2
      go_ret
      exact ⟨rfl, HB.out⟩
    case pos =>
      have HBD : Hid (Below w.heap.size w wr.drew) := hide HB.out.drew
      rcases (HV.out.below HBD.out).2.2.2 with h0 | ⟨b, off, rfl, hbs, z0⟩
      · omega
      rcases (HV'.out.below HBD.out).2.2.2 with h0 | ⟨b', off', rfl, hbs', y0⟩
      · omega
      obtain ⟨u1, z0, a1, c1, rfl, i0, _⟩ := z0 k hlt
      obtain ⟨u2, y0, a2, c2, rfl, i1, _⟩ := y0 k hlt
      have HC := hide (sameT_any a1 _ c1 _ a2 c2 wr.drew i0 i1)
      generalize (T.getD k []).length = n at *
      have HS : Hid (wr.drew.cell? ⟨b, off + k, none⟩ = some (.slice a1 n c1) ∧ wr.drew.cell? ⟨b', off' + k, none⟩ = some (.slice a2 n c2)) := hide ⟨z0, y0⟩
      have HSS : Hid (∀ W, Below wr.drew.heap.size wr.drew W → W.cell? ⟨b, off + k, none⟩ = some (.slice a1 n c1) ∧ W.cell? ⟨b', off' + k, none⟩ = some (.slice a2 n c2)) := hide (fun W hW => ⟨(hW.cell (p := ⟨b, off + k, none⟩) hbs).trans z0, (hW.cell (p := ⟨b', off' + k, none⟩) hbs').trans y0⟩)
      have hkc : (k : Int) < len := by omega
      have hk0 : (0 : Int) ≤ (k : Int) := by omega
      clear z0 y0 i0 i1
      go_wp2_with fail
      go_region_held (fun W : World => W.cell? ⟨b, off + k, none⟩ = some (.slice a1 n c1) ∧ W.cell? ⟨b', off' + k, none⟩ = some (.slice a2 n c2)) (first | with_reducible exact HS.out | with_reducible exact HSS.out _ HQ.out) (first | (go_at_call 16; with_reducible refine HC.out.mono ?_; rintro e w2 ⟨rfl, hb2⟩; have HQ := hide hb2; have HB2 : Hid (Below w.heap.size w w2) := hide (HBD.out.trans (hb2.mono HBD.out.size)); clear hb2))
      go_wp2
      go_roundw
      case rel => exact ⟨k + 1, by omega, by simp, HB2⟩
      case measure => simp [intOf]; omega
end Go.Proofs.Yteckglnfkgfefaa
/- a journal's write: sectors onto the disk -/
namespace Go.Proofs.Yteckglnfkgfefaa
open Go.RowKit Cod
variable {X : Nat → Prop}
set_option maxRecDepth 40000
set_option linter.unusedSimpArgs false
set_option linter.unusedVariables false
theorem IsJ.ne {w : World} {gj g gs b n : Nat} {j : Jn} {st : St} (h : IsJ w gj g j) (hd : IsD X w g gs b n st) : ¬ SD g gs b gj := by
  have h0 := h.blk
  obtain ⟨c, hc, _⟩ := hd.syn
  obtain ⟨es, clock, hb⟩ := hd.map_blk
  rintro (rfl | rfl | rfl)
  · rw [hd.blk] at h0; simp at h0
  · rw [hc] at h0; simp at h0
  · rw [hb] at h0; cases h0
theorem IsJ.kept {w w' : World} {gj g : Nat} {j : Jn} {S : Nat → Prop} (h : IsJ w gj g j) (hf : Frm S w w') (hs : ¬ S gj) : IsJ w' gj g j :=
  ⟨(hf.block gj (heap_lt h.blk) hs).trans h.blk, h.c0, h.c1, h.f0, h.f1, h.f2, h.f3⟩
theorem IsJ.below {w w' : World} {gj g : Nat} {j : Jn} (h : IsJ w gj g j) (hb : Below w.heap.size w w') : IsJ w' gj g j :=
  ⟨(hb.block gj (heap_lt h.blk)).trans h.blk, h.c0, h.c1, h.f0, h.f1, h.f2, h.f3⟩
/-- rows that lie elsewhere are as they were -/
theorem LieBB.frm {w w' : World} {B : Nat} {vs : List Value} {qs : Nat → Nat} {bs : List (List Nat)} {S : Nat → Prop} (h : LieBB w B vs qs bs) (hf : Frm S w w') (hs : ∀ i, S i → i < B) : LieBB w' B vs qs bs := by
  intro i hi
  obtain ⟨h1, h2, ⟨r1, r2, r3, cur, r4, r5, r6⟩, h4⟩ := h i hi
  exact ⟨h1, h2, ⟨r1, r2, r3, cur, (hf.block _ (heap_lt r4) (fun e => by have := hs _ e; omega)).trans r4, r5, r6⟩, h4⟩
theorem own34_frm {w w' : World} {B : Nat} {v : Value} {n : Nat} {l : List Value} {S : Nat → Prop} (h : w.ownsRow B 34 1 v n l) (hf : Frm S w w') (hs : ∀ i, S i → i < B) : w'.ownsRow B 34 1 v n l := by
  refine ⟨h.1, ?_⟩
  rcases h.2 with h1 | ⟨g, cap, cur, e, hb, hg, r⟩
  · exact .inl h1
  · exact .inr ⟨g, cap, cur, e, hb, (hf.block g (heap_lt hg) (fun e => by have := hs _ e; omega)).trans hg, r⟩
theorem OwnBB.frm {w w' : World} {B : Nat} {v : Value} {bs : List (List Nat)} {S : Nat → Prop} (h : OwnBB w B v bs) (hf : Frm S w w') (hs : ∀ i, S i → i < B) : OwnBB w' B v bs := by
  obtain ⟨vs, qs, h1, h2⟩ := h
  exact ⟨vs, qs, own34_frm h1 hf hs, h2.frm hf hs⟩
/-- what write leaves -/
def JwPost (X : Nat → Prop) (w : World) (gj g gs b n : Nat) (j : Jn) (r : St × Int) (e : Ending) (w' : World) : Prop :=
  e = .returned (.int .i64 r.2) ∧ IsD X w' g gs b n r.1 ∧ IsJ w' gj g j ∧ Frm (SD g gs b) w w'
/-- write, at the sector i -/
def JwInv (X : Nat → Prop) (w : World) (gj g gs b n : Nat) (j : Jn) (st : St) (bs : List (List Nat)) (i : Nat) (wr : World) : Prop :=
  ∃ st1, IsD X wr g gs b n st1 ∧ Frm (SD g gs b) w wr ∧ St.wrs n j.sec (j.nxt + i) (bs.drop i) st1 = St.wrs n j.sec j.nxt bs st ∧ st1.wr ≤ st.wr + i
theorem write_wr (st : St) (n : Nat) (i : Int) (l : List Nat) : (st.write n i l).1.wr ≤ st.wr + 1 := by
  unfold St.write
  repeat' split
  all_goals first | (show st.wr ≤ st.wr + 1; omega) | (rw [goes_wr]; omega)
theorem wrs_step (j : Jn) (n : Nat) (bs : List (List Nat)) (st st1 : St) (k : Nat) (hk : k < bs.length) (h : St.wrs n j.sec (j.nxt + k) (bs.drop k) st1 = St.wrs n j.sec j.nxt bs st) :
    ((st1.write n (j.sec (j.nxt + k) : Nat) (bs.getD k [])).2 = 0 → St.wrs n j.sec (j.nxt + (k + 1)) (bs.drop (k + 1)) (st1.write n (j.sec (j.nxt + k) : Nat) (bs.getD k [])).1 = St.wrs n j.sec j.nxt bs st) ∧
    (¬ (st1.write n (j.sec (j.nxt + k) : Nat) (bs.getD k [])).2 = 0 → St.wrs n j.sec j.nxt bs st = st1.write n (j.sec (j.nxt + k) : Nat) (bs.getD k [])) := by
  have e : bs.drop k = bs.getD k [] :: bs.drop (k + 1) := by
    rw [List.drop_eq_getElem_cons hk, List.getD_eq_getElem?_getD, List.getElem?_eq_getElem hk]; rfl
  rw [e, St.wrs] at h
  constructor
  · intro hz
    rw [if_pos hz] at h
    exact h
  · intro hz
    rw [if_neg hz] at h
    exact h.symm
set_option maxHeartbeats 2000000 in
theorem jwrite_any (w : World) (gj g gs b n B : Nat) (j : Jn) (st : St) (v : Value) (bs : List (List Nat)) (hj : IsJ w gj g j) (hd : IsD X w g gs b n st) (ho : OwnBB w B v bs) (hB : ∀ i, SD g gs b i → i < B) (hx : ∀ q ∈ bs, ∀ x ∈ q, x < 256) (hl : bs.length ≤ 1024) (hw : st.wr + bs.length < 4611686018427387904) :
    Calls Try.prog 45 #[.pointer (some ⟨gj, 0, none⟩), v] w (JwPost X w gj g gs b n j (St.wrs n j.sec j.nxt bs st)) := by
  obtain ⟨a, cap, hv, hI⟩ := ho.isBB hx
  have HJ := hide hj
  have HD := hide hd
  have HNE := hide (hj.ne hd)
  have HO := hide ho
  have HBB := hide hB
  have HX := hide hx
  have hf2 := hj.f2
  have hf3 := hj.f3
  have hf0 := hj.f0
  have hf1 := hj.f1
  have g0 := cell_bk (j := 0) hj.blk rfl
  have g4 := cell_bk (j := 4) hj.blk rfl
  simp only [List.getElem_toArray, List.getElem_cons_zero, List.getElem_cons_succ] at g0 g4
  have HS : Hid (∀ W, Frm (SD g gs b) w W → W.cell? ⟨gj, 0, none⟩ = some (.pointer (some ⟨g, 0, none⟩)) ∧ W.cell? ⟨gj, 4, none⟩ = some (.int .u64 (j.nxt : Nat))) := hide (fun W hW => by
    have e := hW.block gj (heap_lt HJ.out.blk) HNE.out
    exact ⟨(World.cell?_of_block e).trans g0, (World.cell?_of_block e).trans g4⟩)
  generalize hlen : bs.length = len at *
  have HLEN := hide hlen
  subst hv
  obtain ⟨⟨R1, R2⟩, hR⟩ : ∃ R, R = St.wrs n j.sec j.nxt bs st := ⟨_, rfl⟩
  have HR := hide hR
  rw [← hR]
  clear hj hd ho hB hx hI g0 g4 hlen hR
  go_enter Try.func45, Try.ntmps45
  go_wp2_with fail
  go_loopw [10] (fun i wr => ∃ k : Nat, k ≤ len ∧ i = .int .i64 (k : Nat) ∧ JwInv X w gj g gs b n j st bs k wr) (fun i _ => len - (intOf i).toNat)
  case atStart => exact ⟨0, Nat.zero_le _, rfl, st, HD.out, Frm.refl _ _, rfl, Nat.le_refl _⟩
  case round =>
    obtain ⟨k, hk, rfl, st1, hd1, hf, he, hwr⟩ := hrel
    have HD1 := hide hd1
    have HF := hide hf
    have HE := hide he
    have HWR := hide hwr
    clear hd1 hf he hwr
    by_cases hkl : k < len
    · obtain ⟨a', c', hv2, hI⟩ := (HO.out.frm HF.out HBB.out).isBB HX.out
      rw [HLEN.out] at hv2 hI
      cases hv2
      rcases hI.2.2.2 with h0 | ⟨b1, off, rfl, hlt, hcell⟩
      · omega
      obtain ⟨a2, l2, c2, hck, hIk⟩ := hcell k hkl
      have hcl := (HS.out wr HF.out).1
      have hc4 := (HS.out wr HF.out).2
      have hb0 : Below wr.heap.size wr wr.drew := (Below.refl _ _).drew
      have HF0 : Hid (Frm (SD g gs b) w wr.drew) := hide (HF.out.trans (Frm.below hb0))
      have hT1 := sector_any wr.drew gj g j ((HJ.out.kept HF.out HNE.out).below hb0) (j.nxt + k) (by omega) (by omega)
      rw [Int.natCast_add] at hT1
      have HT1 := hide hT1
      have HWI := hide (fun W (hW : Below wr.heap.size wr W) => write_any W g gs b n st1 (HD1.out.below hW) (j.sec (j.nxt + k) : Nat) a2 l2 c2 _ (hIk.below hW) (by have := HWR.out; omega))
      have HB0 := hide hb0
      have HSW := hide (wrs_step j n bs st st1 k (by rw [HLEN.out]; exact hkl) HE.out)
      have HWW := hide (write_wr st1 n (j.sec (j.nxt + k) : Nat) (bs.getD k []))
      have HJK := hide (HJ.out.kept HF.out HNE.out)
      have HKK := hide (fun W (hW : Frm (SD g gs b) wr W) => HF.out.trans hW)
      obtain ⟨r, hr⟩ : ∃ r, r = st1.write n (j.sec (j.nxt + k) : Nat) (bs.getD k []) := ⟨_, rfl⟩
      rw [← hr] at HWI HSW HWW
      clear hr hb0 hT1 hIk hcell hlt
      have hwk : IntKind.u64.wrap (k : Int) = (k : Int) := by rw [IntKind.wrap_u64]; omega
      have hwn : IntKind.u64.wrap ((j.nxt : Int) + (k : Int)) = (j.nxt : Int) + (k : Int) := by rw [IntKind.wrap_u64]; omega
      go_wp2_with fail
      go_region_held (fun W : World => W.cell? ⟨gj, 0, none⟩ = some (.pointer (some ⟨g, 0, none⟩)) ∧ W.cell? ⟨gj, 4, none⟩ = some (.int .u64 (j.nxt : Nat))) (first | with_reducible exact HS.out _ HF0.out | with_reducible exact HS.out _ HQ1.out | with_reducible exact HS.out _ HQ2.out) (first | (go_at_call 71; refine HT1.out.mono ?_; rintro e w2 ⟨rfl, hb2⟩; have HQ1 : Hid (Frm (SD g gs b) w w2) := hide (HF0.out.trans (Frm.below hb2)); have HD1 : Hid (Below wr.heap.size wr w2) := hide (HB0.out.trans (hb2.mono HB0.out.size))) | (go_at_call 70; with_reducible refine (HWI.out w2 HD1.out).mono ?_; rintro e w3 ⟨rfl, hd3, hf3⟩; have HQ2 : Hid (Frm (SD g gs b) w w3) := hide (HQ1.out.trans hf3); have HD3 := hide hd3; clear hd3 hf3))
      all_goals
        obtain ⟨r1, r2⟩ := r
        dsimp only at HSW HD3 HWW ⊢
        by_cases hz : r2 = 0
        · subst hz
          have HW1 := hide (HSW.out.1 rfl)
          go_wp2_with fail
          exact ⟨⟨k + 1, by omega, by simp, r1, HD3.out, HQ2.out, HW1.out, by have := HWW.out; have := HWR.out; omega⟩, by simp [intOf]; omega⟩
        · have e0 : (r2 == 0) = false := by simpa using hz
          have HW1 := hide (HSW.out.2 hz)
          go_wp2_with fail
          go_ret
          have hRW := HR.out.trans HW1.out
          cases hRW
          exact ⟨rfl, HD3.out, HJ.out.kept HQ2.out HNE.out, HQ2.out⟩
    · have : k = len := by omega
      subst this
      have HEnd : Hid (st1.sync = St.wrs n j.sec j.nxt bs st) := hide (by rw [← HE.out, List.drop_of_length_le (by rw [HLEN.out]; exact Nat.le_refl _)]; rfl)
      have hcl := (HS.out wr HF.out).1
      have HSY := hide (sync_any wr g gs b n st1 HD1.out)
      go_wp2_with fail
      refine HSY.out.mono ?_
      rintro e w3 ⟨rfl, hd3, hf3⟩
      have HD3 := hide hd3
      have HF3 := hide (HF.out.trans hf3)
      rw [HEnd.out, ← HR.out] at HD3 ⊢
      clear hd3 hf3 HSY
      dsimp only at HD3 ⊢
      go_wp2_with fail
      go_ret
      exact ⟨rfl, HD3.out, HJ.out.kept HF3.out HNE.out, HF3.out⟩
end Go.Proofs.Yteckglnfkgfefaa
