/- Dc Dh Da Db De Df Dg Di -/
import Derived.Test.YtlkmcbelmldleaaGreatVL
import Derived.Test.YtlkmcbelmldleaaGreatVM
import Derived.Laws.OwnMore
import Derived.Test.YtlkmcbelmldleaaGreatVR
import Derived.Test.YtlkmcbelmldleaaGreatVBr
import Derived.Test.YtlkmcbelmldleaaGreatDx3
import Derived.Test.YtlkmcbelmldleaaGreatOb
/- the document's with: entries with a write done -/
namespace Go.Proofs.YtlkmcbelmldleaaGreat
open Go.RowKit Go.Shelf
set_option maxRecDepth 40000
set_option linter.unusedVariables false
/-- what the document's with does, from a place on -/
def docK (k v : ByteArray) : Bool → List Pr → List Pr
  | put, [] => if put = true then [] else [⟨k, v⟩]
  | put, p :: r => (if put = false ∧ Op.bytesLess p.key.toList k.toList = false then [⟨k, v⟩] else []) ++ ((if p.key.toList = k.toList then [] else [p]) ++ docK k v (put || !Op.bytesLess p.key.toList k.toList) r)
theorem docK_len (k v : ByteArray) : ∀ (put : Bool) (l : List Pr), (docK k v put l).length ≤ l.length + (if put = true then 0 else 1)
  | put, [] => by unfold docK; cases put <;> simp
  | put, p :: r => by
    have h1 := docK_len k v true r
    have h2 := docK_len k v false r
    unfold docK
    cases put <;> cases hb : Op.bytesLess p.key.toList k.toList <;> by_cases e : p.key.toList = k.toList <;> simp [e] at * <;> omega
theorem prs_len (l : List Pr) : (l.flatMap prc).length = l.length * 2 := by
  induction l with
  | nil => rfl
  | cons x r ih => simp [List.flatMap_cons, ih]; omega
theorem prs_one (l : List Pr) : ∀ u ∈ l.flatMap prc, u.oneCell' = true := by
  intro u hu
  obtain ⟨x, _, h⟩ := List.mem_flatMap.1 hu
  exact prc_one x u h
theorem IsP.news {w : World} {b off len cap : Nat} {l : List Pr} (h : IsP w (some ⟨b, off, none⟩) len cap l) : ∀ j u, (l.flatMap prc)[j]? = some u → w.cell? ((⟨b, off, none⟩ : Addr).add j) = some u := by
  intro j u hj
  have hl : j < (l.flatMap prc).length := (List.getElem?_eq_some_iff.1 hj).1
  rw [prs_len, h.1] at hl
  have e : j = (j / 2) * 2 + j % 2 := by omega
  have hi : j / 2 < l.length := by rw [h.1]; omega
  rw [e, flat_at prc Pr0 2 (fun _ => rfl) l (j / 2) (j % 2) hi (by omega)] at hj
  obtain ⟨b', off', e', _, z0, z1⟩ := h.2.2.2 (j / 2) (by rw [← h.1]; exact hi)
  cases e'
  have ha : (⟨b, off, none⟩ : Addr).add j = ⟨b, off + j, none⟩ := by
    by_cases h0 : j = 0 <;> simp [Addr.add, h0]
  rw [ha]
  rcases (by omega : j % 2 = 0 ∨ j % 2 = 1) with h0 | h0
  · rw [h0] at hj
    rw [show off + j = off + j / 2 * 2 by omega, z0]
    exact hj
  · rw [h0] at hj
    rw [show off + j = off + j / 2 * 2 + 1 by omega, z1]
    exact hj
/-- pairs put behind those of an own row -/
theorem run_pairs {W : World} {base n len cap : Nat} {v : Value} {xs l : List Pr} (a : Option Addr) (hown : W.ownsRow base 62 2 v n (xs.flatMap prc)) (hB : IsP W a len cap l) (hn : a = none → cap = 0) (hb : (n + len) * 32 ≤ 140737488355328) (hbase : base ≤ W.heap.size) :
    ∃ v' w3, (Builtin.append_ #[22, 22] 22 #[v, .slice a len cap]).run Tryz.prog W = .ok v' w3 ∧ w3.ownsRow base 62 2 v' (n + len) ((xs ++ l).flatMap prc) ∧ Below base W w3 := by
  obtain ⟨i0, hi, hz0, hz1, hz2⟩ := info_parts info54
  cases a with
  | none =>
    obtain rfl := hn rfl
    obtain rfl : len = 0 := Nat.le_zero.1 hB.2.1
    obtain rfl : l = [] := List.length_eq_zero_iff.1 hB.1
    exact ⟨v, W, run_append_owned_none (P := Tryz.prog) (w := W) base 22 22 62 i0 2 Tryz.underlying22 hi v n _ hown, by simpa using hown, Below.refl _ _⟩
  | some ad =>
    by_cases h0 : len = 0
    · subst h0
      obtain rfl : l = [] := List.length_eq_zero_iff.1 hB.1
      obtain ⟨v', w3, hr, ho, hg, _⟩ := run_append_own (P := Tryz.prog) (w := W) base 22 22 62 i0 _ 2 32 Tryz.underlying22 hi hz0 hz1 hz2 rfl (by decide) _ n _ hown ad 0 cap [] rfl (by simp) (by simp) (by unfold maxLen; omega) (by omega) hbase
      exact ⟨v', w3, hr, by simpa using ho, (Below.refl _ _).grown hg hbase (fun k hk => (hown.lt k hk).1)⟩
    · obtain ⟨b, off, e, _⟩ := hB.2.2.2 0 (by omega)
      cases e
      obtain ⟨v', w3, hr, ho, hg, _⟩ := run_append_own (P := Tryz.prog) (w := W) base 22 22 62 i0 _ 2 32 Tryz.underlying22 hi hz0 hz1 hz2 rfl (by decide) _ n _ hown _ len cap (l.flatMap prc) (by rw [prs_len, hB.1]) hB.news (prs_one l) (by unfold maxLen; omega) (by omega) hbase
      exact ⟨v', w3, hr, by rw [List.flatMap_append]; exact ho, (Below.refl _ _).grown hg hbase (fun k hk => (hown.lt k hk).1)⟩
theorem wpList_prs {w : World} {ops : Array Oper} {rest : List Oper} {o : Oper} {a : Act} {Q : Exit → Act → World → Prop} (hgd : o.guard = none) (s x : Operand)
    (ho : o.op = .call { callee := .builtin .append, args := #[s, x], argTypes := #[22, 22] }) (base : Nat) (v : Value) (n : Nat) (xs : List Pr) (hs : a.eval s = v) (hown : w.ownsRow base 62 2 v n (xs.flatMap prc))
    (b : Nat) (p : Pr) (hx : a.eval x = .slice (some ⟨b, 0, none⟩) 1 1) (hB : w.heap[b]? = some (.cells #[.string p.key, .string p.val] 62 (0, 0))) (hb : (n + 1) * 32 ≤ 140737488355328) (hbase : base ≤ w.heap.size)
    (h : ∀ v' w', Hid (w'.ownsRow base 62 2 v' (n + 1) ((xs ++ [p]).flatMap prc) ∧ Below base w w' ∧ w.grownBy w' v.ownBlock) → wpList Tryz.prog ops Q rest (a.put o.dst v') w') : wpList Tryz.prog ops Q (o :: rest) a w := by
  obtain ⟨i0, hi, hz0, hz1, hz2⟩ := info_parts info54
  refine wpList_append_own w hgd s x 22 ho base 62 i0 _ 2 32 Tryz.underlying22 hi hz0 hz1 hz2 rfl (by decide) v n _ hs hown _ 1 1 (prc p) hx rfl (prc_news p hB) (prc_one p) (by unfold maxLen; omega) hb hbase ?_
  intro v' w' ho' hg _
  exact h v' w' (hide ⟨by rw [List.flatMap_append]; simpa using ho', (Below.refl _ _).grown hg hbase (fun k hk => (hown.lt k hk).1), hg⟩)
abbrev Blk3 (w : World) (g : Nat) (x1 x2 : ByteArray) (x3 : Bool) : Prop := w.heap[g]? = some (.cells #[.string x1, .string x2, .bool x3] 64 (0, 0))
theorem Blk3.cells {w : World} {g : Nat} {x1 x2 : ByteArray} {x3 : Bool} (h : Blk3 w g x1 x2 x3) : w.cell? ⟨g, 0, none⟩ = some (.string x1) ∧ w.cell? ⟨g, 1, none⟩ = some (.string x2) ∧ w.cell? ⟨g, 2, none⟩ = some (.bool x3) := ⟨cell_blk h rfl, cell_blk h rfl, cell_blk h rfl⟩
abbrev Blk2 (w : World) (g : Nat) (x1 x2 : ByteArray) : Prop := w.heap[g]? = some (.cells #[.string x1, .string x2] 62 (0, 0))
theorem Blk2.cells {w : World} {g : Nat} {x1 x2 : ByteArray} (h : Blk2 w g x1 x2) : w.cell? ⟨g, 0, none⟩ = some (.string x1) ∧ w.cell? ⟨g, 1, none⟩ = some (.string x2) := ⟨cell_blk h rfl, cell_blk h rfl⟩
theorem less_irrefl' : ∀ a : List UInt8, Op.bytesLess a a = false := by
  intro a
  induction a with
  | nil => rfl
  | cons x r ih => simp [Op.bytesLess, ih]
theorem drop_getD' (l : List Pr) (k : Nat) (h : k < l.length) : l.drop k = l.getD k Pr0 :: l.drop (k + 1) := by
  rw [List.drop_eq_getElem_cons h]
  congr 1
  simp [List.getD_eq_getElem?_getD, List.getElem?_eq_getElem h]
set_option maxHeartbeats 4000000 in
theorem with_any (a : Option Addr) (len cap : Nat) (l : List Pr) (x1 x2 : ByteArray) (x3 : Bool) (w : World) (hL : IsP w a len cap l) (hlen : len ≤ 4000000) :
    Calls Tryz.prog 61 #[.slice a len cap, .agg #[.string x1, .string x2, .bool x3]] w fun e w' => ∃ v, e = .returned v ∧ w'.ownsRow w.heap.size 62 2 v (docK x1 x2 x3 l).length ((docK x1 x2 x3 l).flatMap prc) ∧ Below w.heap.size w w' := by
  have HB0 : Hid (Below w.heap.size w (w.alloc (.cells #[.string x1, .string x2, .bool x3] 64))) := hide ((Below.refl _ w).alloc (Nat.le_refl _) _)
  have HX0 : Hid (Blk3 (w.alloc (.cells #[.string x1, .string x2, .bool x3] 64)) w.heap.size x1 x2 x3) := hide (heap_alloc_new _ _)
  have HS0 : Hid ((w.alloc (.cells #[.string x1, .string x2, .bool x3] 64)).heap.size = w.heap.size + 1) := hide (by simp)
  have HL0 := hide (hL.below HB0.out)
  have HLN := hide hL.1
  have hcm : cap ≤ 9223372036854775807 := hL.2.2.1
  have hcap := hL.2.1
  have HLE := hide hlen
  have HR : Hid (docK x1 x2 x3 l = [] ++ docK x1 x2 x3 (l.drop 0)) := hide rfl
  generalize docK x1 x2 x3 l = R at *
  clear hL hlen
  go_enter Tryz.func61, Tryz.ntmps61
  generalize hV : w.alloc (.cells #[.string x1, .string x2, .bool x3] 64) = V at *
  obtain ⟨c0, c1, c2⟩ := HX0.out.cells
  go_wp2
  try rw [hV]
  clear c0 c1 c2
  go_loopw [5, 6, 13] (fun v5 v6 v13 wr => ∃ (k : Nat) (put : Bool) (out : List Pr), k ≤ len ∧ v6 = .bool put ∧ v13 = .int .i64 (k : Nat) ∧ Hid (wr.ownsRow (w.heap.size + 1) 62 2 v5 out.length (out.flatMap prc) ∧ R = out ++ docK x1 x2 put (l.drop k) ∧ Below (w.heap.size + 1) V wr ∧ out.length ≤ 2 * k ∧ w.heap.size + 1 ≤ wr.heap.size)) (fun _ _ v13 _ => len - (intOf v13).toNat)
  case atStart => exact ⟨0, x3, [], Nat.zero_le _, rfl, rfl, hide ⟨World.ownsRow_nil _ _ _ _, HR.out, Below.refl _ _, Nat.le_refl _, by rw [HS0.out]; exact Nat.le_refl _⟩⟩
  case round =>
    obtain ⟨k, put, out, hk, rfl, rfl, HI⟩ := hrel
    obtain ⟨a5, c5, rfl⟩ := own_form HI.out.1
    have HXr : Hid (Blk3 wr w.heap.size x1 x2 x3) := hide ((HI.out.2.2.1.block _ (Nat.lt_succ_self _)).trans HX0.out)
    by_cases hlt : k < len
    · have HLr : Hid (IsP wr a len cap l) := hide (HL0.out.below (by rw [HS0.out]; exact HI.out.2.2.1))
      obtain ⟨b, off, rfl, hbs, z0, z1⟩ := HLr.out.2.2.2 k hlt
      have HDR : Hid (l.drop k = l.getD k Pr0 :: l.drop (k + 1)) := hide (drop_getD' l k (by rw [HLN.out]; exact hlt))
      generalize l.getD k Pr0 = p at *
      obtain ⟨y1, y2⟩ := p
      dsimp only at z0 z1
      have hw1 : IntKind.i64.wrap ((k : Int) + 1) = (k : Int) + 1 := wr64' (by omega) (by omega)
      have hi4 : (0 : Int) ≤ (k : Int) := by omega
      have hiI : (k : Int) < (len : Int) := by omega
      have HBp : Hid (Below wr.heap.size wr (wr.alloc (.cells #[.string y1, .string y2] 62))) := hide ((Below.refl _ wr).alloc (Nat.le_refl _) _)
      have HPp : Hid (Blk2 (wr.alloc (.cells #[.string y1, .string y2] 62)) wr.heap.size y1 y2) := hide (heap_alloc_new _ _)
      have HXp : Hid (Blk3 (wr.alloc (.cells #[.string y1, .string y2] 62)) w.heap.size x1 x2 x3) := hide ((HBp.out.block _ (heap_lt HXr.out)).trans HXr.out)
      have HOp : Hid ((wr.alloc (.cells #[.string y1, .string y2] 62)).ownsRow (w.heap.size + 1) 62 2 (.slice a5 out.length c5) out.length (out.flatMap prc)) := hide (World.ownsRow.alloc HI.out.1 _)
      have HVp : Hid (Below (w.heap.size + 1) V (wr.alloc (.cells #[.string y1, .string y2] 62)) ∧ w.heap.size + 1 ≤ (wr.alloc (.cells #[.string y1, .string y2] 62)).heap.size) := hide ⟨HI.out.2.2.1.trans (HBp.out.mono HI.out.2.2.2.2), Nat.le_trans HI.out.2.2.2.2 HBp.out.size⟩
      have HSP : Hid ((wr.alloc (.cells #[.string y1, .string y2] 62)).heap.size = wr.heap.size + 1) := hide (by simp)
      have HLK : Hid (out.length ≤ 2 * k ∧ k < len) := hide ⟨HI.out.2.2.2.1, hlt⟩
      have HRD : Hid (R = out ++ ((if put = false ∧ Op.bytesLess y1.toList x1.toList = false then [(⟨x1, x2⟩ : Pr)] else []) ++ ((if y1.toList = x1.toList then [] else [(⟨y1, y2⟩ : Pr)]) ++ docK x1 x2 (put || !Op.bytesLess y1.toList x1.toList) (l.drop (k + 1))))) := hide (by
        have h := HI.out.2.1
        rw [HDR.out] at h
        exact h)
      generalize hP : wr.alloc (.cells #[.string y1, .string y2] 62) = Vp at *
      obtain ⟨N, hN⟩ : ∃ N, wr.heap.size = N := ⟨_, rfl⟩
      have HLT5 : Hid (∀ j, (Value.slice a5 out.length c5).ownBlock = some j → j < N) := hide (fun j hj => by rw [← hN]; exact (HI.out.1.lt j hj).2)
      rw [hN] at HPp HSP
      clear HI HXr HDR
      obtain ⟨q0, q1, q2⟩ := HXp.out.cells
      obtain ⟨p0, p1⟩ := HPp.out.cells
      by_cases hb : Op.bytesLess y1.toList x1.toList = true
      · have hne : ¬ y1.toList = x1.toList := fun e => by rw [e, less_irrefl'] at hb; cases hb
        have hne2 : (y1.toList == x1.toList) = false := by simpa using hne
        have hne3 : (y1.toList != x1.toList) = true := by simpa using hne
        have HZp := hide HVp.out.2
        have HBIGn : Hid ((out.length + 1) * 32 ≤ 140737488355328) := hide (by have := HLK.out; have := HLE.out; simp at *; omega)
        have HBan : Hid (Below Vp.heap.size Vp (Vp.alloc (.cells #[.string y1, .string y2] 62))) := hide ((Below.refl _ Vp).alloc (Nat.le_refl _) _)
        have HNan : Hid ((Vp.alloc (.cells #[.string y1, .string y2] 62)).heap[Vp.heap.size]? = some (.cells #[.string y1, .string y2] 62 (0, 0))) := hide (heap_alloc_new _ _)
        have HOan : Hid ((Vp.alloc (.cells #[.string y1, .string y2] 62)).ownsRow (w.heap.size + 1) 62 2 (.slice a5 out.length c5) out.length ((out).flatMap prc)) := hide (World.ownsRow.alloc HOp.out _)
        have HZan : Hid (w.heap.size + 1 ≤ (Vp.alloc (.cells #[.string y1, .string y2] 62)).heap.size) := hide (Nat.le_trans HZp.out HBan.out.size)
        go_wp2_with (at_builtin; refine wpList_prs rfl _ _ rfl (w.heap.size + 1) (.slice a5 out.length c5) out.length (out) rfl HOan.out Vp.heap.size ⟨y1, y2⟩ rfl HNan.out HBIGn.out HZan.out ?_)
        intro vn wn HNn
        have HVn : Hid (Below (w.heap.size + 1) V wn) := hide (HVp.out.1.trans ((HBan.out.mono HZp.out).trans HNn.out.2.1))
        have HRn : Hid (R = (out ++ [(⟨y1, y2⟩ : Pr)]) ++ docK x1 x2 put (l.drop (k + 1))) := hide (by
          have h := HRD.out
          rw [if_neg (by rw [hb]; simp), if_neg hne, hb] at h
          rw [h]
          cases put <;> simp)
        clear q0 q1 q2 p0 p1
        go_wp2
        go_roundw
        case rel => exact ⟨k + 1, put, out ++ [(⟨y1, y2⟩ : Pr)], by omega, rfl, by simp, hide ⟨by simpa using HNn.out.1, HRn.out, HVn.out, by rw [List.length_append]; have := HLK.out; simp; omega, by rw [← HS0.out]; exact HVn.out.size⟩⟩
        case measure => simp [intOf]; omega
      · have hb' : Op.bytesLess y1.toList x1.toList = false := by simpa using hb
        cases put with
        | true =>
          by_cases he : y1.toList = x1.toList
          · have he2 : (y1.toList == x1.toList) = true := by simpa using he
            have he3 : (y1.toList != x1.toList) = false := by simpa using he
            have HRn : Hid (R = out ++ docK x1 x2 true (l.drop (k + 1))) := hide (by
              have h := HRD.out
              rw [if_neg (by simp), if_pos he] at h
              simpa using h)
            clear he
            go_wp2
            go_roundw
            case rel => exact ⟨k + 1, true, out, by omega, rfl, by simp, hide ⟨HOp.out, HRn.out, HVp.out.1, by have := HLK.out; omega, HVp.out.2⟩⟩
            case measure => simp [intOf]; omega
          · have hne2 : (y1.toList == x1.toList) = false := by simpa using he
            have hne3 : (y1.toList != x1.toList) = true := by simpa using he
            have HZp := hide HVp.out.2
            have HBIGn : Hid ((out.length + 1) * 32 ≤ 140737488355328) := hide (by have := HLK.out; have := HLE.out; simp at *; omega)
            have HBan : Hid (Below Vp.heap.size Vp (Vp.alloc (.cells #[.string y1, .string y2] 62))) := hide ((Below.refl _ Vp).alloc (Nat.le_refl _) _)
            have HNan : Hid ((Vp.alloc (.cells #[.string y1, .string y2] 62)).heap[Vp.heap.size]? = some (.cells #[.string y1, .string y2] 62 (0, 0))) := hide (heap_alloc_new _ _)
            have HOan : Hid ((Vp.alloc (.cells #[.string y1, .string y2] 62)).ownsRow (w.heap.size + 1) 62 2 (.slice a5 out.length c5) out.length ((out).flatMap prc)) := hide (World.ownsRow.alloc HOp.out _)
            have HZan : Hid (w.heap.size + 1 ≤ (Vp.alloc (.cells #[.string y1, .string y2] 62)).heap.size) := hide (Nat.le_trans HZp.out HBan.out.size)
            go_wp2_with (at_builtin; refine wpList_prs rfl _ _ rfl (w.heap.size + 1) (.slice a5 out.length c5) out.length (out) rfl HOan.out Vp.heap.size ⟨y1, y2⟩ rfl HNan.out HBIGn.out HZan.out ?_)
            intro vn wn HNn
            have HVn : Hid (Below (w.heap.size + 1) V wn) := hide (HVp.out.1.trans ((HBan.out.mono HZp.out).trans HNn.out.2.1))
            have HRn : Hid (R = (out ++ [(⟨y1, y2⟩ : Pr)]) ++ docK x1 x2 true (l.drop (k + 1))) := hide (by
              have h := HRD.out
              rw [if_neg (by simp), if_neg he] at h
              simpa using h)
            clear q0 q1 q2 p0 p1
            go_wp2
            go_roundw
            case rel => exact ⟨k + 1, true, out ++ [(⟨y1, y2⟩ : Pr)], by omega, rfl, by simp, hide ⟨by simpa using HNn.out.1, HRn.out, HVn.out, by rw [List.length_append]; have := HLK.out; simp; omega, by rw [← HS0.out]; exact HVn.out.size⟩⟩
            case measure => simp [intOf]; omega
        | false =>
          by_cases he : y1.toList = x1.toList
          · have he2 : (y1.toList == x1.toList) = true := by simpa using he
            have he3 : (y1.toList != x1.toList) = false := by simpa using he
            have HRn : Hid (R = (out ++ [(⟨x1, x2⟩ : Pr)]) ++ docK x1 x2 true (l.drop (k + 1))) := hide (by
              have h := HRD.out
              rw [if_pos ⟨rfl, hb'⟩, if_pos he, hb'] at h
              simpa using h)
            clear he
            have HZp := hide HVp.out.2
            have HBIGm : Hid ((out.length + 1) * 32 ≤ 140737488355328) := hide (by have := HLK.out; have := HLE.out; simp at *; omega)
            have HBam : Hid (Below Vp.heap.size Vp (Vp.alloc (.cells #[.string x1, .string x2] 62))) := hide ((Below.refl _ Vp).alloc (Nat.le_refl _) _)
            have HNam : Hid ((Vp.alloc (.cells #[.string x1, .string x2] 62)).heap[Vp.heap.size]? = some (.cells #[.string x1, .string x2] 62 (0, 0))) := hide (heap_alloc_new _ _)
            have HOam : Hid ((Vp.alloc (.cells #[.string x1, .string x2] 62)).ownsRow (w.heap.size + 1) 62 2 (.slice a5 out.length c5) out.length ((out).flatMap prc)) := hide (World.ownsRow.alloc HOp.out _)
            have HZam : Hid (w.heap.size + 1 ≤ (Vp.alloc (.cells #[.string x1, .string x2] 62)).heap.size) := hide (Nat.le_trans HZp.out HBam.out.size)
            go_wp2_with (at_builtin; refine wpList_prs rfl _ _ rfl (w.heap.size + 1) (.slice a5 out.length c5) out.length (out) rfl HOam.out Vp.heap.size ⟨x1, x2⟩ rfl HNam.out HBIGm.out HZam.out ?_)
            intro vm wm HNm
            have HVm : Hid (Below (w.heap.size + 1) V wm) := hide (HVp.out.1.trans ((HBam.out.mono HZp.out).trans HNm.out.2.1))
            have HZm : Hid (w.heap.size + 1 ≤ wm.heap.size) := hide (by rw [← HS0.out]; exact HVm.out.size)
            have HOm : Hid (wm.ownsRow (w.heap.size + 1) 62 2 vm (out.length + 1) ((out ++ [(⟨x1, x2⟩ : Pr)]).flatMap prc)) := hide (by simpa using HNm.out.1)
            have HXm : Hid (Blk3 wm w.heap.size x1 x2 x3) := hide ((HVm.out.block _ (Nat.lt_succ_self _)).trans HX0.out)
            have HPm : Hid (Blk2 wm N y1 y2) := hide (by
              have hw : wm.heap[N]? = Vp.heap[N]? := (HNm.out.2.2.block N (Nat.lt_of_lt_of_le (heap_lt HPp.out) HBam.out.size) (fun e => Nat.lt_irrefl _ (HLT5.out N e.symm))).trans (HBam.out.block N (heap_lt HPp.out))
              exact hw.trans HPp.out)
            obtain ⟨am, cm, rfl⟩ := own_form HOm.out
            clear q0 q1 q2 p0 p1
            obtain ⟨q0, q1, q2⟩ := HXm.out.cells
            obtain ⟨p0, p1⟩ := HPm.out.cells
            go_wp2
            go_roundw
            case rel => exact ⟨k + 1, true, out ++ [(⟨x1, x2⟩ : Pr)], by omega, rfl, by simp, hide ⟨by simpa using HOm.out, HRn.out, HVm.out, by rw [List.length_append]; have := HLK.out; simp; omega, HZm.out⟩⟩
            case measure => simp [intOf]; omega
          · have hne2 : (y1.toList == x1.toList) = false := by simpa using he
            have hne3 : (y1.toList != x1.toList) = true := by simpa using he
            have HRn : Hid (R = (out ++ [(⟨x1, x2⟩ : Pr)] ++ [(⟨y1, y2⟩ : Pr)]) ++ docK x1 x2 true (l.drop (k + 1))) := hide (by
              have h := HRD.out
              rw [if_pos ⟨rfl, hb'⟩, if_neg he, hb'] at h
              simpa using h)
            have HZp := hide HVp.out.2
            have HBIGm : Hid ((out.length + 1) * 32 ≤ 140737488355328) := hide (by have := HLK.out; have := HLE.out; simp at *; omega)
            have HBam : Hid (Below Vp.heap.size Vp (Vp.alloc (.cells #[.string x1, .string x2] 62))) := hide ((Below.refl _ Vp).alloc (Nat.le_refl _) _)
            have HNam : Hid ((Vp.alloc (.cells #[.string x1, .string x2] 62)).heap[Vp.heap.size]? = some (.cells #[.string x1, .string x2] 62 (0, 0))) := hide (heap_alloc_new _ _)
            have HOam : Hid ((Vp.alloc (.cells #[.string x1, .string x2] 62)).ownsRow (w.heap.size + 1) 62 2 (.slice a5 out.length c5) out.length ((out).flatMap prc)) := hide (World.ownsRow.alloc HOp.out _)
            have HZam : Hid (w.heap.size + 1 ≤ (Vp.alloc (.cells #[.string x1, .string x2] 62)).heap.size) := hide (Nat.le_trans HZp.out HBam.out.size)
            go_wp2_with (at_builtin; refine wpList_prs rfl _ _ rfl (w.heap.size + 1) (.slice a5 out.length c5) out.length (out) rfl HOam.out Vp.heap.size ⟨x1, x2⟩ rfl HNam.out HBIGm.out HZam.out ?_)
            intro vm wm HNm
            have HVm : Hid (Below (w.heap.size + 1) V wm) := hide (HVp.out.1.trans ((HBam.out.mono HZp.out).trans HNm.out.2.1))
            have HZm : Hid (w.heap.size + 1 ≤ wm.heap.size) := hide (by rw [← HS0.out]; exact HVm.out.size)
            have HOm : Hid (wm.ownsRow (w.heap.size + 1) 62 2 vm (out.length + 1) ((out ++ [(⟨x1, x2⟩ : Pr)]).flatMap prc)) := hide (by simpa using HNm.out.1)
            have HXm : Hid (Blk3 wm w.heap.size x1 x2 x3) := hide ((HVm.out.block _ (Nat.lt_succ_self _)).trans HX0.out)
            have HPm : Hid (Blk2 wm N y1 y2) := hide (by
              have hw : wm.heap[N]? = Vp.heap[N]? := (HNm.out.2.2.block N (Nat.lt_of_lt_of_le (heap_lt HPp.out) HBam.out.size) (fun e => Nat.lt_irrefl _ (HLT5.out N e.symm))).trans (HBam.out.block N (heap_lt HPp.out))
              exact hw.trans HPp.out)
            obtain ⟨am, cm, rfl⟩ := own_form HOm.out
            clear q0 q1 q2 p0 p1
            obtain ⟨q0, q1, q2⟩ := HXm.out.cells
            obtain ⟨p0, p1⟩ := HPm.out.cells
            have HBIGn : Hid (((out.length + 1) + 1) * 32 ≤ 140737488355328) := hide (by have := HLK.out; have := HLE.out; simp at *; omega)
            have HBan : Hid (Below wm.heap.size wm (wm.alloc (.cells #[.string y1, .string y2] 62))) := hide ((Below.refl _ wm).alloc (Nat.le_refl _) _)
            have HNan : Hid ((wm.alloc (.cells #[.string y1, .string y2] 62)).heap[wm.heap.size]? = some (.cells #[.string y1, .string y2] 62 (0, 0))) := hide (heap_alloc_new _ _)
            have HOan : Hid ((wm.alloc (.cells #[.string y1, .string y2] 62)).ownsRow (w.heap.size + 1) 62 2 (.slice am (out.length + 1) cm) (out.length + 1) ((out ++ [(⟨x1, x2⟩ : Pr)]).flatMap prc)) := hide (World.ownsRow.alloc HOm.out _)
            have HZan : Hid (w.heap.size + 1 ≤ (wm.alloc (.cells #[.string y1, .string y2] 62)).heap.size) := hide (Nat.le_trans HZm.out HBan.out.size)
            go_wp2_with (at_builtin; refine wpList_prs rfl _ _ rfl (w.heap.size + 1) (.slice am (out.length + 1) cm) (out.length + 1) (out ++ [(⟨x1, x2⟩ : Pr)]) rfl HOan.out wm.heap.size ⟨y1, y2⟩ rfl HNan.out HBIGn.out HZan.out ?_)
            intro vn wn HNn
            have HVn : Hid (Below (w.heap.size + 1) V wn) := hide (HVm.out.trans ((HBan.out.mono HZm.out).trans HNn.out.2.1))
            clear q0 q1 q2 p0 p1
            go_wp2
            go_roundw
            case rel => exact ⟨k + 1, true, out ++ [(⟨x1, x2⟩ : Pr)] ++ [(⟨y1, y2⟩ : Pr)], by omega, rfl, by simp, hide ⟨by simpa [Nat.add_assoc] using HNn.out.1, HRn.out, HVn.out, by rw [List.length_append, List.length_append]; have := HLK.out; simp; omega, by rw [← HS0.out]; exact HVn.out.size⟩⟩
            case measure => simp [intOf]; omega
    · obtain rfl : k = len := by omega
      have hkk : ¬ (k : Int) < (k : Int) := by omega
      have HRE : Hid (R = out ++ (if put = true then [] else [(⟨x1, x2⟩ : Pr)])) := hide (by
        have h := HI.out.2.1
        rw [← HLN.out, List.drop_length] at h
        exact h)
      have HLK := hide HI.out.2.2.2.1
      have HO := hide HI.out.1
      have HZ := hide HI.out.2.2.2.2
      have HB4 : Hid (Below w.heap.size w wr) := hide (HB0.out.trans (HI.out.2.2.1.mono (Nat.le_succ _)))
      clear HI
      cases put with
      | true =>
        have HRE2 : Hid (R = out) := hide (by simpa using HRE.out)
        clear HRE
        go_wp2
        go_ret
        refine ⟨_, rfl, ?_, HB4.out⟩
        rw [HRE2.out]
        exact row_mono HO.out (Nat.le_succ _)
      | false =>
        have HRE2 : Hid (R = out ++ [(⟨x1, x2⟩ : Pr)]) := hide (by simpa using HRE.out)
        clear HRE
        have HBIGs : Hid ((out.length + 1) * 32 ≤ 140737488355328) := hide (by have := HLK.out; have := HLE.out; omega)
        have HBas : Hid (Below wr.heap.size wr (wr.alloc (.cells #[.string x1, .string x2] 62))) := hide ((Below.refl _ wr).alloc (Nat.le_refl _) _)
        have HNas : Hid ((wr.alloc (.cells #[.string x1, .string x2] 62)).heap[wr.heap.size]? = some (.cells #[.string x1, .string x2] 62 (0, 0))) := hide (heap_alloc_new _ _)
        have HOas : Hid ((wr.alloc (.cells #[.string x1, .string x2] 62)).ownsRow (w.heap.size + 1) 62 2 (.slice a5 out.length c5) out.length ((out).flatMap prc)) := hide (World.ownsRow.alloc HO.out _)
        have HZas : Hid (w.heap.size + 1 ≤ (wr.alloc (.cells #[.string x1, .string x2] 62)).heap.size) := hide (Nat.le_trans HZ.out HBas.out.size)
        obtain ⟨q0, q1, q2⟩ := HXr.out.cells
        go_wp2_with (at_builtin; refine wpList_prs rfl _ _ rfl (w.heap.size + 1) (.slice a5 out.length c5) out.length (out) rfl HOas.out wr.heap.size ⟨x1, x2⟩ rfl HNas.out HBIGs.out HZas.out ?_)
        intro vs ws HNs
        have HF : Hid (Below w.heap.size w ws) := hide (HB4.out.trans ((HBas.out.mono HB4.out.size).trans (HNs.out.2.1.mono (Nat.le_succ _))))
        obtain ⟨aS, cS, rfl⟩ := own_form HNs.out.1
        go_wp2
        go_ret
        refine ⟨_, rfl, ?_, HF.out⟩
        rw [HRE2.out]
        have h := row_mono HNs.out.1 (Nat.le_succ w.heap.size)
        simpa using h
end Go.Proofs.YtlkmcbelmldleaaGreat
/- the document's All: entries with writes done -/
namespace Go.Proofs.YtlkmcbelmldleaaGreat
open Go.RowKit Go.Shelf
set_option maxRecDepth 40000
set_option linter.unusedVariables false
theorem wpList_append_eq {w w' : World} {ops : Array Oper} {rest : List Oper} {o : Oper} {a : Act} {Q : Exit → Act → World → Prop} {v u v' : Value} (hgd : o.guard = none) (s x : Operand) (t : TypeId) (ho : o.op = .call { callee := .builtin .append, args := #[s, x], argTypes := #[t, t] }) (hs : a.eval s = v) (hx : a.eval x = u) (hr : (Builtin.append_ #[t, t] o.type #[v, u]).run Tryz.prog w = .ok v' w') (h : wpList Tryz.prog ops Q rest (a.put o.dst v') w') : wpList Tryz.prog ops Q (o :: rest) a w :=
  wpList_plain hgd fun _ hK => wp_append_eq s x t ho hs hx hr (hK _ _ h)
/-- entries with writes done, as the document does them -/
def docA (l : List Pr) (ws : List Wt) : List Pr := ws.foldl (fun q x => docK x.key x.val x.gone q) l
theorem drop_getDW (l : List Wt) (k : Nat) (h : k < l.length) : l.drop k = l.getD k Wt0 :: l.drop (k + 1) := by
  rw [List.drop_eq_getElem_cons h]
  congr 1
  simp [List.getD_eq_getElem?_getD, List.getElem?_eq_getElem h]
set_option maxHeartbeats 4000000 in
theorem all_any (a : Option Addr) (len cap : Nat) (l : List Pr) (b : Option Addr) (n c : Nat) (ws : List Wt) (w : World) (hL : IsP w a len cap l) (hn : a = none → cap = 0) (hW : IsW w b n c ws) (hlen : len + n ≤ 4000000) :
    Calls Tryz.prog 38 #[.slice a len cap, .slice b n c] w fun e w' => ∃ v, e = .returned v ∧ w'.ownsRow w.heap.size 62 2 v (docA l ws).length ((docA l ws).flatMap prc) ∧ Below w.heap.size w w' := by
  have HBa : Hid (Below w.heap.size w (w.alloc (.cells #[] 62))) := hide ((Below.refl _ w).alloc (Nat.le_refl _) _)
  have HOa : Hid ((w.alloc (.cells #[] 62)).ownsRow w.heap.size 62 2 (.slice (some ⟨w.heap.size, 0, none⟩) 0 0) 0 (([] : List Pr).flatMap prc)) := hide (World.ownsRow_made w #[] 0 (Nat.le_refl _) (by decide) rfl)
  have HAP := hide (run_pairs a HOa.out (hL.below HBa.out) hn (by omega) HBa.out.size)
  have HW := hide hW
  have HLN := hide hL.1
  have hcm : c ≤ 9223372036854775807 := hW.2.2.1
  have hcap := hW.2.1
  have HLE := hide hlen
  have HR : Hid (docA l ws = docA l (ws.drop 0)) := hide rfl
  generalize docA l ws = R at *
  clear hL hW hlen hn
  go_enter Tryz.func38, Tryz.ntmps38
  obtain ⟨v1, w1, hr1, ho1, hb1⟩ := HAP.out
  obtain ⟨a1, c1, rfl⟩ := own_form ho1
  have HO1 : Hid (w1.ownsRow w.heap.size 62 2 (.slice a1 len c1) len (l.flatMap prc)) := hide (by simpa using ho1)
  have HB1 : Hid (Below w.heap.size w w1) := hide (HBa.out.trans hb1)
  rw [Nat.zero_add] at hr1
  clear ho1 hb1 HAP HOa
  go_wp2_with (at_builtin; refine wpList_append_eq rfl _ _ 22 rfl rfl rfl hr1 ?_)
  go_wp2
  clear hr1
  go_loopw [5, 13] (fun v5 v13 wr => ∃ (k : Nat) (q : List Pr), k ≤ n ∧ v13 = .int .i64 (k : Nat) ∧ Hid (wr.ownsRow w.heap.size 62 2 v5 q.length (q.flatMap prc) ∧ R = docA q (ws.drop k) ∧ Below w.heap.size w wr ∧ q.length ≤ len + k)) (fun _ v13 _ => n - (intOf v13).toNat)
  case atStart => exact ⟨0, l, Nat.zero_le _, rfl, hide ⟨by rw [HLN.out]; exact HO1.out, HR.out, HB1.out, by rw [HLN.out]; exact Nat.le_refl _⟩⟩
  case round =>
    obtain ⟨k, q, hk, rfl, HI⟩ := hrel
    obtain ⟨a5, c5, rfl⟩ := own_form HI.out.1
    by_cases hlt : k < n
    · have HWr : Hid (IsW wr b n c ws) := hide (HW.out.below HI.out.2.2.1)
      obtain ⟨b', off, rfl, hbs, z0, z1, z2⟩ := HWr.out.2.2.2 k hlt
      have HDR : Hid (ws.drop k = ws.getD k Wt0 :: ws.drop (k + 1)) := hide (drop_getDW ws k (by rw [HWr.out.1]; exact hlt))
      generalize ws.getD k Wt0 = x at *
      obtain ⟨x1, x2, x3⟩ := x
      dsimp only at z0 z1 z2
      have hw1 : IntKind.i64.wrap ((k : Int) + 1) = (k : Int) + 1 := wr64' (by omega) (by omega)
      have hi4 : (0 : Int) ≤ (k : Int) := by omega
      have hiI : (k : Int) < (n : Int) := by omega
      have HBp : Hid (Below wr.heap.size wr (wr.alloc (.cells #[.string x1, .string x2, .bool x3] 64))) := hide ((Below.refl _ wr).alloc (Nat.le_refl _) _)
      have HPp : Hid (Blk3 (wr.alloc (.cells #[.string x1, .string x2, .bool x3] 64)) wr.heap.size x1 x2 x3) := hide (heap_alloc_new _ _)
      have HOp : Hid ((wr.alloc (.cells #[.string x1, .string x2, .bool x3] 64)).ownsRow w.heap.size 62 2 (.slice a5 q.length c5) q.length (q.flatMap prc)) := hide (World.ownsRow.alloc HI.out.1 _)
      have HQ : Hid (∃ a' c', Value.slice a5 q.length c5 = .slice a' q.length c' ∧ IsP (wr.alloc (.cells #[.string x1, .string x2, .bool x3] 64)) a' q.length c' q ∧ ∀ b off, a' = some ⟨b, off, none⟩ → w.heap.size ≤ b) := hide (own_isP rfl HOp.out)
      have HIP : Hid (IsP (wr.alloc (.cells #[.string x1, .string x2, .bool x3] 64)) a5 q.length c5 q) := hide (by
        obtain ⟨a', c', e, h, _⟩ := HQ.out
        cases e
        exact h)
      have HWI := hide (with_any a5 q.length c5 q x1 x2 x3 _ HIP.out (by have := HLE.out; have := HI.out.2.2.2; omega))
      have HRD : Hid (R = docA (docK x1 x2 x3 q) (ws.drop (k + 1))) := hide (by
        have h := HI.out.2.1
        rw [HDR.out] at h
        exact h)
      have HLK : Hid ((docK x1 x2 x3 q).length ≤ len + (k + 1)) := hide (by
        have h1 := docK_len x1 x2 x3 q
        have h2 := HI.out.2.2.2
        split at h1 <;> omega)
      have HBw : Hid (Below w.heap.size w (wr.alloc (.cells #[.string x1, .string x2, .bool x3] 64))) := hide (HI.out.2.2.1.trans (HBp.out.mono HI.out.2.2.1.size))
      obtain ⟨q0, q1, q2⟩ := HPp.out.cells
      clear HI HDR HQ HIP HOp
      generalize docK x1 x2 x3 q = q' at *
      go_wp2_with fail
      refine HWI.out.mono ?_
      rintro e w2 ⟨v2, rfl, hrow, hb2⟩
      have HO2 : Hid (w2.ownsRow w.heap.size 62 2 v2 q'.length (q'.flatMap prc)) := hide (row_mono hrow HBw.out.size)
      have HB2 : Hid (Below w.heap.size w w2) := hide (HBw.out.trans (hb2.mono HBw.out.size))
      clear hrow hb2 HWI q0 q1 q2
      go_wp2
      go_roundw
      case rel => exact ⟨k + 1, q', by omega, by simp, hide ⟨HO2.out, HRD.out, HB2.out, HLK.out⟩⟩
      case measure => simp [intOf]; omega
    · obtain rfl : k = n := by omega
      have hkk : ¬ (k : Int) < (k : Int) := by omega
      have HRE : Hid (R = q) := hide (by
        have h := HI.out.2.1
        rw [← HW.out.1, List.drop_length] at h
        exact h)
      have HF := hide (And.intro HI.out.1 HI.out.2.2.1)
      clear HI
      go_wp2
      go_ret
      refine ⟨_, rfl, ?_, HF.out.2⟩
      rw [HRE.out]
      exact HF.out.1
end Go.Proofs.YtlkmcbelmldleaaGreat
/- entries by rising keys; what there is now -/
namespace Go.Proofs.YtlkmcbelmldleaaGreat
open Go.RowKit
set_option maxRecDepth 40000
set_option linter.unusedVariables false
set_option linter.unusedSimpArgs false
/-- entries rise by their keys -/
def SrtP (l : List Pr) : Prop := l.Pairwise (fun x y => Op.bytesLess x.key.toList y.key.toList = true)
/-- what a key has -/
def getP (l : List Pr) (k : ByteArray) : Option ByteArray := (l.find? (fun p => p.key.toList == k.toList)).map Pr.val
theorem getP_cons (x : Pr) (r : List Pr) (k : ByteArray) : getP (x :: r) k = if x.key.toList = k.toList then some x.val else getP r k := by
  unfold getP
  rw [List.find?_cons]
  by_cases h : x.key.toList = k.toList
  · rw [if_pos h]; simp [h]
  · rw [if_neg h]
    have : (x.key.toList == k.toList) = false := by simpa using h
    rw [this]
theorem getP_none {l : List Pr} {k : ByteArray} (h : ∀ p ∈ l, ¬ p.key.toList = k.toList) : getP l k = none := by
  unfold getP
  rw [List.find?_eq_none.2 (fun p hp => by simpa using h p hp)]
  rfl
theorem less_neq {a b : List UInt8} (h : Op.bytesLess a b = true) : ¬ a = b := fun e => by
  rw [e, less_irrefl] at h; cases h
theorem getP_mem {l : List Pr} (h : SrtP l) (k v : ByteArray) : getP l k = some v ↔ (⟨k, v⟩ : Pr) ∈ l := by
  induction l with
  | nil => simp [getP]
  | cons x r ih =>
    obtain ⟨h1, h2⟩ := List.pairwise_cons.1 h
    rw [getP_cons]
    by_cases e : x.key.toList = k.toList
    · rw [if_pos e]
      have ek := str_inj e
      constructor
      · intro hv
        cases hv
        rw [← ek]
        exact List.mem_cons_self
      · intro hm
        rcases List.mem_cons.1 hm with hm | hm
        · rw [← hm]
        · exact absurd e (less_neq (h1 _ hm))
    · rw [if_neg e, ih h2]
      constructor
      · exact fun hm => List.mem_cons_of_mem _ hm
      · intro hm
        rcases List.mem_cons.1 hm with hm | hm
        · exact absurd (by rw [← hm]) e
        · exact hm
theorem opt_ext {α : Type} {a b : Option α} (h : ∀ v, a = some v ↔ b = some v) : a = b := by
  cases a with
  | none =>
    cases b with
    | none => rfl
    | some v => exact absurd ((h v).2 rfl) (by simp)
  | some v => exact ((h v).1 rfl).symm
theorem srtP_ext : ∀ {l l' : List Pr}, SrtP l → SrtP l' → (∀ k, getP l k = getP l' k) → l = l'
  | [], [], _, _, _ => rfl
  | [], y :: r', _, _, e => by
    have := e y.key
    rw [getP_cons, if_pos rfl] at this
    simp [getP] at this
  | x :: r, [], _, _, e => by
    have := e x.key
    rw [getP_cons, if_pos rfl] at this
    simp [getP] at this
  | x :: r, y :: r', h, h', e => by
    obtain ⟨h1, h2⟩ := List.pairwise_cons.1 h
    obtain ⟨h1', h2'⟩ := List.pairwise_cons.1 h'
    have key : x.key.toList = y.key.toList := by
      refine less_tri _ _ ?_ ?_
      · cases hb : Op.bytesLess x.key.toList y.key.toList with
        | false => rfl
        | true =>
          have e1 := e x.key
          rw [getP_cons, if_pos rfl, getP_cons, if_neg (fun q => less_neq hb q.symm), getP_none (fun p hp q => less_neq (less_trans _ _ _ hb (h1' p hp)) q.symm)] at e1
          cases e1
      · cases hb : Op.bytesLess y.key.toList x.key.toList with
        | false => rfl
        | true =>
          have e1 := e y.key
          rw [getP_cons, if_neg (fun q => less_neq hb q.symm), getP_none (fun p hp q => less_neq (less_trans _ _ _ hb (h1 p hp)) q.symm), getP_cons, if_pos rfl] at e1
          cases e1
    have hv := e x.key
    rw [getP_cons, if_pos rfl, getP_cons, if_pos key.symm] at hv
    have hx : x = y := by
      obtain ⟨xk, xv⟩ := x
      obtain ⟨yk, yv⟩ := y
      have k1 : xk = yk := str_inj key
      have k2 : xv = yv := Option.some.inj hv
      rw [k1, k2]
    subst hx
    have : r = r' := srtP_ext h2 h2' (fun k => by
      by_cases hk : x.key.toList = k.toList
      · rw [getP_none (fun p hp q => less_neq (h1 p hp) (hk.trans q.symm)), getP_none (fun p hp q => less_neq (h1' p hp) (hk.trans q.symm))]
      · have := e k
        rwa [getP_cons, if_neg hk, getP_cons, if_neg hk] at this)
    rw [this]
/-- entries with a write done -/
def withP (l : List Pr) (x : Wt) : List Pr := l.filter (fun p => Op.bytesLess p.key.toList x.key.toList) ++ ((if x.gone = true then [] else [⟨x.key, x.val⟩]) ++ l.filter (fun p => Op.bytesLess x.key.toList p.key.toList))
theorem docW_put (x : Wt) : ∀ l : List Pr, docK x.key x.val true l = l.filter (fun p => decide (¬ p.key.toList = x.key.toList))
  | [] => rfl
  | p :: r => by
    rw [docK, if_neg (by simp), List.nil_append, Bool.true_or, docW_put x r, List.filter_cons]
    by_cases h : p.key.toList = x.key.toList <;> simp [h]
theorem filter_up {x : Wt} {l : List Pr} (h : ∀ p ∈ l, Op.bytesLess p.key.toList x.key.toList = false) : l.filter (fun p => decide (¬ p.key.toList = x.key.toList)) = l.filter (fun p => Op.bytesLess x.key.toList p.key.toList) := by
  apply List.filter_congr
  intro p hp
  cases hb : Op.bytesLess x.key.toList p.key.toList with
  | true => exact decide_eq_true (fun e => less_neq hb e.symm)
  | false => exact decide_eq_false (fun e => e (less_tri _ _ (h p hp) hb))
theorem docW_is (x : Wt) : ∀ {l : List Pr}, SrtP l → docK x.key x.val x.gone l = withP l x := by
  cases hg : x.gone with
  | true =>
    intro l h
    rw [docW_put]
    unfold withP
    rw [hg, if_pos rfl, List.nil_append]
    induction l with
    | nil => rfl
    | cons p r ih =>
      obtain ⟨h1, h2⟩ := List.pairwise_cons.1 h
      by_cases hl : Op.bytesLess p.key.toList x.key.toList = true
      · rw [List.filter_cons_of_pos (by exact decide_eq_true (less_neq hl)), List.filter_cons_of_pos (p := fun q : Pr => Op.bytesLess q.key.toList x.key.toList) hl, List.filter_cons_of_neg (p := fun q : Pr => Op.bytesLess x.key.toList q.key.toList) (by rw [less_asymm _ _ hl]; simp), ih h2]
        rfl
      · have hf : ∀ q ∈ p :: r, Op.bytesLess q.key.toList x.key.toList = false := fun q hq => by
          cases hb : Op.bytesLess q.key.toList x.key.toList with
          | false => rfl
          | true =>
            rcases List.mem_cons.1 hq with rfl | hq
            · exact absurd hb hl
            · exact absurd (less_trans _ _ _ (h1 q hq) hb) hl
        rw [filter_up hf, (List.filter_eq_nil_iff (p := fun q : Pr => Op.bytesLess q.key.toList x.key.toList)).2 (fun q hq hb => by rw [hf q hq] at hb; cases hb)]
        rfl
  | false =>
    intro l h
    unfold withP
    rw [hg, if_neg (by simp)]
    induction l with
    | nil => rfl
    | cons p r ih =>
      obtain ⟨h1, h2⟩ := List.pairwise_cons.1 h
      by_cases hl : Op.bytesLess p.key.toList x.key.toList = true
      · rw [docK, if_neg (by rw [hl]; simp), if_neg (less_neq hl), hl, Bool.not_true, Bool.or_false, ih h2, List.filter_cons_of_pos (p := fun q : Pr => Op.bytesLess q.key.toList x.key.toList) hl, List.filter_cons_of_neg (p := fun q : Pr => Op.bytesLess x.key.toList q.key.toList) (by rw [less_asymm _ _ hl]; simp)]
        rfl
      · have hl' : Op.bytesLess p.key.toList x.key.toList = false := by simpa using hl
        have hf : ∀ q ∈ p :: r, Op.bytesLess q.key.toList x.key.toList = false := fun q hq => by
          cases hb : Op.bytesLess q.key.toList x.key.toList with
          | false => rfl
          | true =>
            rcases List.mem_cons.1 hq with rfl | hq
            · exact absurd hb hl
            · exact absurd (less_trans _ _ _ (h1 q hq) hb) hl
        rw [docK, if_pos ⟨rfl, hl'⟩, hl', Bool.not_false, Bool.or_true, docW_put, ← filter_up hf, (List.filter_eq_nil_iff (p := fun q : Pr => Op.bytesLess q.key.toList x.key.toList)).2 (fun q hq hb => by rw [hf q hq] at hb; cases hb), List.filter_cons]
        by_cases e : p.key.toList = x.key.toList <;> simp [e]
theorem withP_srt {l : List Pr} (h : SrtP l) (x : Wt) : SrtP (withP l x) := by
  unfold withP SrtP
  have f1 : ∀ p ∈ l.filter (fun p => Op.bytesLess p.key.toList x.key.toList), Op.bytesLess p.key.toList x.key.toList = true := fun p hp => (List.mem_filter.1 hp).2
  have f2 : ∀ p ∈ l.filter (fun p => Op.bytesLess x.key.toList p.key.toList), Op.bytesLess x.key.toList p.key.toList = true := fun p hp => (List.mem_filter.1 hp).2
  rw [List.pairwise_append, List.pairwise_append]
  refine ⟨List.Pairwise.filter _ h, ⟨by split <;> simp, List.Pairwise.filter _ h, fun a ha b hb => ?_⟩, fun a ha b hb => ?_⟩
  · split at ha
    · cases ha
    · rw [List.mem_singleton.1 ha]; exact f2 b hb
  · rcases List.mem_append.1 hb with hb | hb
    · split at hb
      · cases hb
      · rw [List.mem_singleton.1 hb]; exact f1 a ha
    · exact less_trans _ _ _ (f1 a ha) (f2 b hb)
theorem withP_mem {l : List Pr} {x : Wt} {p : Pr} : p ∈ withP l x ↔ (p ∈ l ∧ ¬ p.key.toList = x.key.toList) ∨ (x.gone = false ∧ p = ⟨x.key, x.val⟩) := by
  unfold withP
  rw [List.mem_append, List.mem_append, List.mem_filter, List.mem_filter]
  have hm : p ∈ (if x.gone = true then [] else [(⟨x.key, x.val⟩ : Pr)]) ↔ x.gone = false ∧ p = ⟨x.key, x.val⟩ := by
    cases x.gone <;> simp
  rw [hm]
  constructor
  · rintro (⟨h1, h2⟩ | h | ⟨h1, h2⟩)
    · exact .inl ⟨h1, less_neq h2⟩
    · exact .inr h
    · exact .inl ⟨h1, fun e => less_neq h2 e.symm⟩
  · rintro (⟨h1, h2⟩ | h)
    · cases hb : Op.bytesLess p.key.toList x.key.toList with
      | true => exact .inl ⟨h1, rfl⟩
      | false =>
        cases hc : Op.bytesLess x.key.toList p.key.toList with
        | true => exact .inr (.inr ⟨h1, rfl⟩)
        | false => exact absurd (less_tri _ _ hb hc) h2
    · exact .inr (.inl h)
theorem withP_get {l : List Pr} (h : SrtP l) (x : Wt) (k : ByteArray) : getP (withP l x) k = if x.key.toList = k.toList then (if x.gone = true then none else some x.val) else getP l k := by
  apply opt_ext
  intro v
  rw [getP_mem (withP_srt h x), withP_mem]
  by_cases e : x.key.toList = k.toList
  · rw [if_pos e]
    have ek := str_inj e
    subst ek
    constructor
    · rintro (⟨_, h2⟩ | ⟨h1, h2⟩)
      · exact absurd rfl h2
      · injection h2 with _ h3
        rw [h1, if_neg (by simp), h3]
    · intro hv
      cases hg : x.gone with
      | true => rw [hg, if_pos rfl] at hv; cases hv
      | false => rw [hg, if_neg (by simp)] at hv; cases hv; exact .inr ⟨rfl, rfl⟩
  · rw [if_neg e, getP_mem h]
    constructor
    · rintro (⟨h1, _⟩ | ⟨_, h2⟩)
      · exact h1
      · injection h2 with h3 _
        exact absurd (by rw [h3]) e
    · exact fun h1 => .inl ⟨h1, fun q => e q.symm⟩
/-- entries with writes done -/
def allP (l : List Pr) (ws : List Wt) : List Pr := ws.foldl withP l
theorem allP_srt : ∀ (ws : List Wt) {l : List Pr}, SrtP l → SrtP (allP l ws)
  | [], _, h => h
  | x :: ws, _, h => allP_srt ws (withP_srt h x)
/-- what writes say of a key -/
def saysW (ws : List Wt) (k : ByteArray) (z : Option ByteArray) : Option ByteArray := match writ ws k with
  | some y => if y.gone = true then none else some y.val
  | none => z
theorem writ_cons (x : Wt) (ws : List Wt) (k : ByteArray) : writ (x :: ws) k = if x.key.toList = k.toList then some x else writ ws k := by
  unfold writ
  rw [List.find?_cons]
  by_cases h : x.key.toList = k.toList
  · rw [if_pos h, show keyW k x = true from by unfold keyW; simp [h]]
  · rw [if_neg h, show keyW k x = false from by unfold keyW; simpa using h]
theorem allP_get : ∀ (ws : List Wt), SrtW ws → ∀ {l : List Pr}, SrtP l → ∀ k, getP (allP l ws) k = saysW ws k (getP l k)
  | [], _, _, _, _ => rfl
  | x :: ws, hs, l, h, k => by
    obtain ⟨h1, h2⟩ := List.pairwise_cons.1 hs
    show getP (allP (withP l x) ws) k = _
    rw [allP_get ws h2 (withP_srt h x) k, withP_get h]
    unfold saysW
    rw [writ_cons]
    by_cases e : x.key.toList = k.toList
    · rw [if_pos e, if_pos e]
      have hn : writ ws k = none := List.find?_eq_none.2 (fun y hy hk => by
        have : y.key.toList = k.toList := by unfold keyW at hk; simpa using hk
        exact less_neq (h1 y hy) (e.trans this.symm))
      rw [hn]
    · rw [if_neg e, if_neg e]
theorem allP_len (ws : List Wt) : ∀ (l : List Pr), (allP l ws).length ≤ l.length + ws.length := by
  induction ws with
  | nil => intro l; simp [allP]
  | cons x ws ih =>
    intro l
    have h1 := ih (withP l x)
    have h2 : (withP l x).length ≤ l.length + 1 := by
      have h3 : ∀ l : List Pr, (l.filter (fun p => Op.bytesLess p.key.toList x.key.toList)).length + (l.filter (fun p => Op.bytesLess x.key.toList p.key.toList)).length ≤ l.length := by
        intro l
        induction l with
        | nil => simp
        | cons p r ih =>
          rw [List.filter_cons, List.filter_cons]
          cases hb : Op.bytesLess p.key.toList x.key.toList with
          | true => rw [less_asymm _ _ hb]; simp; omega
          | false => cases hc : Op.bytesLess x.key.toList p.key.toList <;> simp <;> omega
      have h4 := h3 l
      unfold withP
      rw [List.length_append, List.length_append]
      split <;> simp <;> omega
    show (allP (withP l x) ws).length ≤ _
    simp
    omega
/-- what a key is as of a time -/
def seenO (vs : List Vr) (t : Nat) (k : ByteArray) : Option ByteArray := if (seenR (lastTo (vs.filter (sameK k)) t)).2 = true then some (seenR (lastTo (vs.filter (sameK k)) t)).1 else none
theorem item_some {L : List Vr} {fr to : ByteArray} {t : Nat} {x : Vr} {p : Pr} : item L fr to t x = some p ↔ inSpan fr to x.key = true ∧ p.key = x.key ∧ seenO L t x.key = some p.val := by
  unfold item seenO
  obtain ⟨pk, pv⟩ := p
  by_cases h1 : (seenR (lastTo (L.filter (sameK x.key)) t)).2 = true
  · by_cases h2 : inSpan fr to x.key = true
    · rw [if_pos ⟨h1, h2⟩, if_pos h1]
      simp [h2, eq_comm]
    · rw [if_neg (fun h => h2 h.2)]
      simp [h2]
  · rw [if_neg (fun h => h1 h.1), if_neg h1]
    simp
theorem item_key {L : List Vr} {fr to : ByteArray} {t : Nat} {x y : Vr} (h : y.key.toList = x.key.toList) : item L fr to t y = item L fr to t x := by
  unfold item
  rw [str_inj h]
theorem behind_le {x y : Vr} (h : behindB x y = true) : Op.bytesLess y.key.toList x.key.toList = false := by
  unfold behindB at h
  simp only [Bool.or_eq_true, Bool.and_eq_true, decide_eq_true_eq] at h
  rcases h with h | ⟨h, _⟩
  · exact less_asymm _ _ h
  · rw [h]; exact less_irrefl _
/-- nothing stands below a key -/
def NotBelow (q : Option (List UInt8)) (l : List Vr) : Prop := ∀ K, q = some K → ∀ x ∈ l, Op.bytesLess x.key.toList K = false
theorem scanF_mem {L : List Vr} {fr to : ByteArray} {t : Nat} {p : Pr} : ∀ (l : List Vr) (q : Option (List UInt8)), Srt l → NotBelow q l → (p ∈ scanF L fr to t q l ↔ ∃ x ∈ l, ¬ q = some x.key.toList ∧ item L fr to t x = some p)
  | [], q, _, _ => by simp [scanF]
  | x :: r, q, hs, hq => by
    obtain ⟨s1, s2⟩ := List.pairwise_cons.1 hs
    have hn : NotBelow (some x.key.toList) r := fun K e y hy => by cases e; exact behind_le (s1 y hy)
    rw [scanF]
    by_cases h : q = some x.key.toList
    · rw [if_pos h, scanF_mem r _ s2 hn]
      constructor
      · rintro ⟨y, hy, h1, h2⟩
        exact ⟨y, List.mem_cons_of_mem _ hy, by rw [h]; exact h1, h2⟩
      · rintro ⟨y, hy, h1, h2⟩
        rcases List.mem_cons.1 hy with rfl | hy
        · exact absurd h h1
        · exact ⟨y, hy, by rw [← h]; exact h1, h2⟩
    · rw [if_neg h, List.mem_append, scanF_mem r _ s2 hn, Option.mem_toList]
      constructor
      · rintro (h1 | ⟨y, hy, h1, h2⟩)
        · exact ⟨x, List.mem_cons_self, h, h1⟩
        · refine ⟨y, List.mem_cons_of_mem _ hy, fun e => ?_, h2⟩
          have g1 := hq _ e x List.mem_cons_self
          have g2 := behind_le (s1 y hy)
          exact h1 (by rw [less_tri _ _ g1 g2])
      · rintro ⟨y, hy, h1, h2⟩
        rcases List.mem_cons.1 hy with rfl | hy
        · exact .inl h2
        · by_cases e : x.key.toList = y.key.toList
          · exact .inl (by rw [← item_key e.symm]; exact h2)
          · exact .inr ⟨y, hy, fun q => e (Option.some.inj q), h2⟩
theorem scanF_srt {L : List Vr} {fr to : ByteArray} {t : Nat} : ∀ (l : List Vr) (q : Option (List UInt8)), Srt l → SrtP (scanF L fr to t q l)
  | [], q, _ => List.Pairwise.nil
  | x :: r, q, hs => by
    obtain ⟨s1, s2⟩ := List.pairwise_cons.1 hs
    have hn : NotBelow (some x.key.toList) r := fun K e y hy => by cases e; exact behind_le (s1 y hy)
    have ih := scanF_srt (L := L) (fr := fr) (to := to) (t := t) r (some x.key.toList) s2
    rw [scanF]
    split
    · exact ih
    · unfold SrtP
      rw [List.pairwise_append]
      refine ⟨by cases item L fr to t x <;> simp, ih, fun a ha b hb => ?_⟩
      rw [Option.mem_toList] at ha
      obtain ⟨y, hy, h1, h2⟩ := (scanF_mem r _ s2 hn).1 hb
      rw [(item_some.1 ha).2.1, (item_some.1 h2).2.1]
      cases hb : Op.bytesLess x.key.toList y.key.toList with
      | true => rfl
      | false => exact absurd (by rw [less_tri _ _ hb (behind_le (s1 y hy))]) h1
theorem seenO_has {vs : List Vr} {t : Nat} {k v : ByteArray} (h : seenO vs t k = some v) : ∃ x ∈ vs, x.key = k := by
  unfold seenO at h
  cases hl : lastTo (vs.filter (sameK k)) t with
  | none => rw [hl] at h; simp [seenR] at h
  | some z =>
    have hz : z ∈ vs.filter (sameK k) := by
      unfold lastTo at hl
      exact List.mem_reverse.1 (List.mem_of_find?_eq_some hl)
    obtain ⟨h1, h2⟩ := List.mem_filter.1 hz
    exact ⟨z, h1, str_inj (sameK_iff.1 h2)⟩
theorem scanF_get {vs : List Vr} (hs : Srt vs) (fr to : ByteArray) (t : Nat) (k : ByteArray) : getP (scanF vs fr to t none vs) k = if inSpan fr to k = true then seenO vs t k else none := by
  apply opt_ext
  intro v
  rw [getP_mem (scanF_srt vs none hs), scanF_mem vs none hs (fun K e => by cases e)]
  constructor
  · rintro ⟨x, _, _, h⟩
    obtain ⟨h1, h2, h3⟩ := item_some.1 h
    have h2' : k = x.key := h2
    subst h2'
    rw [if_pos h1]; exact h3
  · intro h
    by_cases hi : inSpan fr to k = true
    · rw [if_pos hi] at h
      obtain ⟨x, hx, rfl⟩ := seenO_has h
      exact ⟨x, hx, by simp, item_some.2 ⟨hi, rfl, h⟩⟩
    · rw [if_neg hi] at h; cases h
/-- entries are what there is now -/
def NowIs (ms : Mg) (now : List Pr) : Prop := SrtP now ∧ ∀ k, getP now k = seenO ms.vs ms.now k
theorem NowIs.same {ms ms' : Mg} {now : List Pr} (h : NowIs ms now) (h1 : ms'.vs = ms.vs) (h2 : ms'.now = ms.now) : NowIs ms' now := ⟨h.1, fun k => by rw [h1, h2]; exact h.2 k⟩
theorem seenO_swept {low : Nat} {l : List Vr} (hg : goodB low l = true) {t ask : Nat} (ha : ¬ ask < t) (k : ByteArray) : seenO (l.filter (keepB t l)) ask k = seenO l ask k := by
  unfold seenO
  rw [swept_seen hg ha k]
theorem ended_now (ms : Mg) (i : Nat) : (ms.ended i).now = ms.now := by
  unfold Mg.ended Mg.less; split <;> rfl
theorem seenO_ended {ms : Mg} (hg : goodB ms.low ms.vs = true) (i : Nat) {ask : Nat} (ha : lowOf ms.now (ms.opn.eraseIdx i) ≤ ask) (k : ByteArray) : seenO (ms.ended i).vs ask k = seenO ms.vs ask k := by
  unfold Mg.ended
  by_cases hs : sweepE ms.low ms.vs (lowOf ms.now (ms.opn.eraseIdx i)) = 0
  · rw [sweepR_yes hs, if_pos rfl]
    exact seenO_swept hg (by omega) k
  · have hz : ¬ (sweepR ms.low ms.vs (lowOf ms.now (ms.opn.eraseIdx i))).2.2 = 0 := by
      unfold sweepR
      rw [if_neg hs]; exact hs
    rw [if_neg hz]
    rfl
theorem NowIs.ended {ms : Mg} {now : List Pr} (h : NowIs ms now) (hg : goodB ms.low ms.vs = true) (i : Nat) : NowIs (ms.ended i) now :=
  ⟨h.1, fun k => by rw [ended_now, seenO_ended hg i (lowOf_le _ _).1]; exact h.2 k⟩
theorem seenO_put {low : Nat} {l : List Vr} {ws : List Wt} {t : Nat} (h : refE low l ws (t + 1) = 0) (hv : ∀ x ∈ l, x.at_ ≤ t) (k : ByteArray) : seenO (putL (t + 1) l ws) (t + 1) k = saysW ws k (seenO l t k) := by
  unfold seenO saysW
  rw [put_filter h k]
  cases hw : writ ws k with
  | none =>
    rw [Option.toList_none, List.map_nil, List.append_nil, lastTo_all (t := t + 1) (t' := t) (fun x hx => Nat.le_succ_of_le (hv x (List.mem_filter.1 hx).1)) (fun x hx => hv x (List.mem_filter.1 hx).1)]
  | some z =>
    have e : lastTo (l.filter (sameK k) ++ [vOf (t + 1) z]) (t + 1) = some (vOf (t + 1) z) := by
      unfold lastTo
      rw [List.reverse_append, List.reverse_singleton, List.singleton_append, List.find?_cons]
      simp [vOf]
    rw [Option.toList_some, List.map_singleton, e]
    cases hg : z.gone <;> simp [seenR, vOf, hg]
theorem com_ref {ms : Mg} {tr : Tr} (hn : ¬ tr.ws = []) (h : comE ms tr = 0) : refE ms.low ms.vs tr.ws (ms.now + 1) = 0 ∧ comM ms tr = { ms with vs := putL (ms.now + 1) ms.vs tr.ws, now := ms.now + 1 } := by
  unfold comE at h
  by_cases hc : conflB ms.vs tr = true
  · rw [if_pos hc] at h; cases h
  · rw [if_neg hc, if_neg hn] at h
    have hr : refE ms.low ms.vs tr.ws (ms.now + 1) = 0 := by
      by_cases hq : refE ms.low ms.vs tr.ws (ms.now + 1) = 0
      · exact hq
      · unfold putR at h
        rw [if_neg hq] at h
        exact absurd h hq
    have e : putR ms.low ms.vs tr.ws (ms.now + 1) = (putL (ms.now + 1) ms.vs tr.ws, ms.low, 0) := by unfold putR; rw [if_pos hr]
    refine ⟨hr, ?_⟩
    unfold comM
    rw [e, if_neg (by rintro (h | h | h); exact hc h; exact hn h; exact h rfl)]
theorem NowIs.com {ms : Mg} {now : List Pr} (h : NowIs ms now) (hg : Gd ms) {tr : Tr} (hs : SrtW tr.ws) (hc : comE ms tr = 0) : NowIs (comM ms tr) (allP now tr.ws) := by
  by_cases hn : tr.ws = []
  · have : comM ms tr = ms := by unfold comM; rw [if_pos (.inr (.inl hn))]
    rw [this, hn]
    exact h
  · obtain ⟨h1, h2⟩ := com_ref hn hc
    rw [h2]
    refine ⟨allP_srt _ h.1, fun k => ?_⟩
    rw [allP_get _ hs h.1 k, h.2 k]
    exact (seenO_put h1 hg.vat k).symm
/-- a commit that is done -/
theorem NowIs.commit {ms : Mg} {now : List Pr} (h : NowIs ms now) (hg : Gd ms) (hW : WsOk ms) {t : Int} (hc : (mCommit ms t).2.2.2 = 0) : NowIs (mCommit ms t).1 (allP now (mCommit ms t).2.1) := by
  unfold mCommit at hc ⊢
  cases ha : ms.at t with
  | none => rw [ha] at hc; cases hc
  | some y =>
    obtain ⟨i, n, tr⟩ := y
    rw [ha] at hc
    dsimp only at hc ⊢
    have hm := List.mem_of_getElem? (at_some ha).1
    have e : comW ms tr = tr.ws := by unfold comW; rw [if_pos hc]
    rw [e]
    exact (h.com hg (hW _ hm) hc).ended (hg.com tr).good i
theorem comM_no {ms : Mg} {tr : Tr} (h : ¬ comE ms tr = 0) : comM ms tr = ms := by
  unfold comE at h
  unfold comM
  by_cases hc : conflB ms.vs tr = true
  · rw [if_pos (.inl hc)]
  · by_cases hn : tr.ws = []
    · rw [if_pos (.inr (.inl hn))]
    · rw [if_neg hc, if_neg hn] at h
      rw [if_pos (.inr (.inr h))]
/-- a commit that is not -/
theorem NowIs.commit_no {ms : Mg} {now : List Pr} (h : NowIs ms now) (hg : Gd ms) {t : Int} (hc : ¬ (mCommit ms t).2.2.2 = 0) : NowIs (mCommit ms t).1 now := by
  unfold mCommit at hc ⊢
  cases ha : ms.at t with
  | none => exact h
  | some y =>
    obtain ⟨i, n, tr⟩ := y
    rw [ha] at hc
    dsimp only at hc ⊢
    rw [comM_no hc]
    exact h.ended hg.good i
theorem riseB_srt {l : List Pr} (h : riseB l = true) : SrtP l := by
  unfold riseB at h
  rw [List.all_eq_true] at h
  have hstep : ∀ i, i + 1 < l.length → Op.bytesLess (l.getD i Pr0).key.toList (l.getD (i + 1) Pr0).key.toList = true := fun i hi => by
    have := h (i + 1) (List.mem_range.2 hi)
    unfold riseAt at this
    simpa using this
  clear h
  induction l with
  | nil => exact List.Pairwise.nil
  | cons x r ih =>
    have hr : SrtP r := ih (fun i hi => by have := hstep (i + 1) (by simpa using hi); simpa using this)
    refine List.pairwise_cons.2 ⟨fun y hy => ?_, hr⟩
    cases r with
    | nil => cases hy
    | cons z q =>
      have h0 := hstep 0 (by simp)
      have h0' : Op.bytesLess x.key.toList z.key.toList = true := by simpa using h0
      rcases List.mem_cons.1 hy with rfl | hy
      · exact h0'
      · exact less_trans _ _ _ h0' ((List.pairwise_cons.1 hr).1 y hy)
theorem writ_map (l : List Pr) (k : ByteArray) : saysW (l.map wtOf) k none = getP l k := by
  unfold saysW
  induction l with
  | nil => rfl
  | cons x r ih =>
    rw [List.map_cons, writ_cons, getP_cons]
    by_cases e : x.key.toList = k.toList
    · rw [if_pos (show (wtOf x).key.toList = k.toList from e), if_pos e]
      rfl
    · rw [if_neg (show ¬ (wtOf x).key.toList = k.toList from e), if_neg e]
      exact ih
theorem newE_rise {l : List Pr} (h : newE l = 0) : riseB l = true := by
  unfold newE at h
  split at h
  · rename_i hq
    rcases hq with hq | hq <;> rw [hq] at h <;> cases h
  · split at h
    · assumption
    · cases h
theorem NowIs.start {l : List Pr} (h : newE l = 0) : NowIs ⟨1, vsN l, 1, 0, []⟩ l := by
  have hs := riseB_srt (newE_rise h)
  refine ⟨hs, fun k => ?_⟩
  have := seenO_put (t := 0) (new_ref h) (fun x hx => by cases hx) k
  show getP l k = seenO (putL (0 + 1) [] (l.map wtOf)) (0 + 1) k
  rw [this]
  have e : seenO [] 0 k = none := rfl
  rw [e, writ_map]
end Go.Proofs.YtlkmcbelmldleaaGreat
/- what a scan answers, key by key -/
namespace Go.Proofs.YtlkmcbelmldleaaGreat
open Go.RowKit
set_option maxRecDepth 40000
set_option linter.unusedVariables false
set_option linter.unusedSimpArgs false
theorem writ_mem {ws : List Wt} (h : SrtW ws) (k : ByteArray) (x : Wt) : writ ws k = some x ↔ x ∈ ws ∧ x.key = k := by
  induction ws with
  | nil => simp [writ]
  | cons y r ih =>
    obtain ⟨h1, h2⟩ := List.pairwise_cons.1 h
    rw [writ_cons]
    by_cases e : y.key.toList = k.toList
    · rw [if_pos e]
      constructor
      · intro hv
        cases hv
        exact ⟨List.mem_cons_self, str_inj e⟩
      · rintro ⟨hm, rfl⟩
        rcases List.mem_cons.1 hm with rfl | hm
        · rfl
        · exact absurd e (less_neq (h1 _ hm))
    · rw [if_neg e, ih h2]
      constructor
      · exact fun ⟨h3, h4⟩ => ⟨List.mem_cons_of_mem _ h3, h4⟩
      · rintro ⟨hm, rfl⟩
        rcases List.mem_cons.1 hm with rfl | hm
        · exact absurd rfl e
        · exact ⟨hm, rfl⟩
theorem hasW_writ (ws : List Wt) (k : ByteArray) : hasW ws k = false ↔ writ ws k = none := by
  unfold hasW writ keyW
  rw [List.any_eq_false, List.find?_eq_none]
/-- what a scan answers, key by key -/
theorem scanL_get {ms : Mg} {t : Int} {fr to : ByteArray} {l : List Pr} {i n : Nat} {tr : Tr} (h : ScanL ms t fr to l) (ha : ms.at t = some (i, n, tr)) (hr : ¬ tr.reads.length = 256) (hg : goodB ms.low ms.vs = true) (hb : ms.low ≤ tr.began) (hs : SrtW tr.ws) :
    SrtP l ∧ ∀ k, getP l k = if inSp (fr, to) k = true then saysW tr.ws k (seenO ms.vs tr.began k) else none := by
  unfold ScanL at h
  rw [ha] at h
  dsimp only at h
  rw [if_neg hr] at h
  obtain ⟨hp, ho⟩ := h
  have hd := seen_dif hs _ (scanR_dif ms.low ms.vs fr to tr.began) (fr, to)
  have hdl : Dif l := (hp.pairwise_iff (fun {x y} hxy e => hxy e.symm)).2 hd
  have hl : SrtP l := by
    unfold SrtP
    unfold Dif at hdl
    rw [List.pairwise_iff_getElem] at hdl ⊢
    intro i j hi hj hij
    have h1 := ho i j hij hj
    rw [List.getD_eq_getElem?_getD, List.getD_eq_getElem?_getD, List.getElem?_eq_getElem hi, List.getElem?_eq_getElem hj] at h1
    have h2 := hdl i j hi hj hij
    cases hb : Op.bytesLess l[i].key.toList l[j].key.toList with
    | true => rfl
    | false => exact absurd (less_tri _ _ hb h1) h2
  refine ⟨hl, fun k => opt_ext (fun v => ?_)⟩
  rw [scanR_good hg (by omega)] at hp
  dsimp only at hp
  have hsv := good_srt hg
  rw [getP_mem hl, hp.mem_iff, List.mem_append]
  have m1 : (⟨k, v⟩ : Pr) ∈ oldP tr.ws (scanF ms.vs fr to tr.began none ms.vs) ↔ (inSp (fr, to) k = true ∧ seenO ms.vs tr.began k = some v) ∧ writ tr.ws k = none := by
    unfold oldP
    rw [List.mem_filter, ← getP_mem (scanF_srt ms.vs none hsv), scanF_get hsv, ← hasW_writ]
    have e : inSpan fr to k = inSp (fr, to) k := rfl
    rw [e]
    by_cases hi : inSp (fr, to) k = true
    · rw [if_pos hi]; simp [hi]
    · rw [if_neg hi]; simp [hi]
  have m2 : (⟨k, v⟩ : Pr) ∈ (tr.ws.filter (seenW (fr, to))).map prOf ↔ inSp (fr, to) k = true ∧ ∃ x, writ tr.ws k = some x ∧ x.gone = false ∧ x.val = v := by
    rw [List.mem_map]
    constructor
    · rintro ⟨x, hx, e⟩
      obtain ⟨h1, h2⟩ := List.mem_filter.1 hx
      unfold prOf at e
      injection e with e1 e2
      unfold seenW at h2
      rw [Bool.and_eq_true] at h2
      refine ⟨by rw [← e1]; exact h2.1, x, (writ_mem hs k x).2 ⟨h1, e1⟩, by simpa using h2.2, e2⟩
    · rintro ⟨h1, x, h2, h3, h4⟩
      obtain ⟨h5, h6⟩ := (writ_mem hs k x).1 h2
      refine ⟨x, List.mem_filter.2 ⟨h5, ?_⟩, ?_⟩
      · unfold seenW
        rw [h6, h1, h3]; rfl
      · unfold prOf
        rw [h6, h4]
  rw [m1, m2]
  unfold saysW
  by_cases hi : inSp (fr, to) k = true
  · rw [if_pos hi]
    cases hw : writ tr.ws k with
    | none => simp [hi]
    | some x => cases hx : x.gone <;> simp [hi, hx]
  · rw [if_neg hi]; simp [hi]
theorem inSp_all (k : ByteArray) : inSp (⟨#[]⟩, ⟨#[]⟩) k = true := by
  unfold inSp
  have e : (⟨#[]⟩ : ByteArray).toList = [] := by rw [ByteArray.toList_eq]
  rw [e]
  cases k.toList <;> simp [Op.bytesLess]
theorem at_begun {ms : Mg} (hn : ∀ x ∈ ms.opn, x.1 ≤ ms.last) : ms.begun.at ((ms.last : Int) + 1) = some (ms.opn.length, ms.last + 1, ⟨ms.now, [], []⟩) := by
  unfold Mg.at Mg.begun
  dsimp only
  have e : (ms.opn ++ [(ms.last + 1, (⟨ms.now, [], []⟩ : Tr))]).findIdx? (fun x => decide ((x.1 : Int) = (ms.last : Int) + 1)) = some ms.opn.length := by
    rw [List.findIdx?_append]
    have h0 : ms.opn.findIdx? (fun x => decide ((x.1 : Int) = (ms.last : Int) + 1)) = none := List.findIdx?_eq_none_iff.2 (fun x hx => decide_eq_false (by have := hn x hx; omega))
    rw [h0]
    simp [List.findIdx?_cons]
  rw [e]
  simp
/-- what a transaction that begins now scans -/
theorem fresh_scan {ms : Mg} {now : List Pr} (hN : NowIs ms now) (hg : Gd ms) (hn : ∀ x ∈ ms.opn, x.1 ≤ ms.last) : (mScan ms.begun ((ms.last : Int) + 1) ⟨#[]⟩ ⟨#[]⟩).2 = 0 ∧ ∀ l, ScanL ms.begun ((ms.last : Int) + 1) ⟨#[]⟩ ⟨#[]⟩ l → l = now := by
  have ha := at_begun hn
  refine ⟨?_, fun l hl => ?_⟩
  · unfold mScan
    rw [ha]
    dsimp only
    rw [if_neg (by simp)]
    show (scanR ms.low ms.vs ⟨#[]⟩ ⟨#[]⟩ ms.now).2 = 0
    rw [scanR_good hg.good (by have := hg.low; omega)]
  · obtain ⟨h1, h2⟩ := scanL_get hl ha (by simp) hg.good hg.low List.Pairwise.nil
    refine srtP_ext h1 hN.1 (fun k => ?_)
    rw [h2 k, inSp_all, if_pos rfl]
    exact (hN.2 k).symm
theorem NowIs.scan {ms : Mg} {now : List Pr} (hN : NowIs ms now) (hg : Gd ms) : scanR ms.low ms.vs ⟨#[]⟩ ⟨#[]⟩ ms.now = (now, 0) := by
  have hs := good_srt hg.good
  rw [scanR_good hg.good (by have := hg.low; omega)]
  have e : scanF ms.vs ⟨#[]⟩ ⟨#[]⟩ ms.now none ms.vs = now := srtP_ext (scanF_srt ms.vs none hs) hN.1 (fun k => by
    rw [scanF_get hs, show inSpan ⟨#[]⟩ ⟨#[]⟩ k = true from inSp_all k, if_pos rfl]
    exact (hN.2 k).symm)
  rw [e]
end Go.Proofs.YtlkmcbelmldleaaGreat
/- lists of writes and numbers that are handed in -/
namespace Go.Proofs.YtlkmcbelmldleaaGreat
open Go.RowKit Go.ChangeShapes Go.WideShapes Go.Deep
set_option maxRecDepth 40000
set_option linter.unusedVariables false
set_option linter.unusedSimpArgs false
/-- lists of writes in memory -/
def IsWW (w : World) (a : Option Addr) (len cap : Nat) (l : List (List Wt)) : Prop :=
  l.length = len ∧ len ≤ cap ∧ cap ≤ maxLen ∧ ∀ i, i < len → ∃ b off a' n' c', a = some ⟨b, off, none⟩ ∧ b < w.heap.size ∧ w.cell? ⟨b, off + i, none⟩ = some (.slice a' n' c') ∧ IsW w a' n' c' (l.getD i [])
theorem IsWW.below {w w' : World} {a : Option Addr} {len cap : Nat} {l : List (List Wt)} (h : IsWW w a len cap l) (hb : Below w.heap.size w w') : IsWW w' a len cap l := by
  refine ⟨h.1, h.2.1, h.2.2.1, fun i hi => ?_⟩
  obtain ⟨b, off, a', n', c', e, hlt, h0, h1⟩ := h.2.2.2 i hi
  exact ⟨b, off, a', n', c', e, Nat.lt_of_lt_of_le hlt hb.size, (World.cell?_of_block (hb.block b hlt)).trans h0, h1.below hb⟩
/-- numbers in memory -/
def IsN (w : World) (a : Option Addr) (len cap : Nat) (l : List Int) : Prop :=
  l.length = len ∧ len ≤ cap ∧ cap ≤ maxLen ∧ ∀ i, i < len → i64B (l.getD i 0) ∧ ∃ b off, a = some ⟨b, off, none⟩ ∧ b < w.heap.size ∧ w.cell? ⟨b, off + i, none⟩ = some (.int .i64 (l.getD i 0))
theorem IsN.below {w w' : World} {a : Option Addr} {len cap : Nat} {l : List Int} (h : IsN w a len cap l) (hb : Below w.heap.size w w') : IsN w' a len cap l := by
  refine ⟨h.1, h.2.1, h.2.2.1, fun i hi => ?_⟩
  obtain ⟨ht, b, off, e, hlt, h0⟩ := h.2.2.2 i hi
  exact ⟨ht, b, off, e, Nat.lt_of_lt_of_le hlt hb.size, (World.cell?_of_block (hb.block b hlt)).trans h0⟩
section
variable {H : Type} {enc : TypeId × Value → H} {W : World} {base : Nat} {spare : Nat → Bool} {held : Bool}
theorem open_prs_n {fuel : Nat} {cs : List Value} {x : DataW H × List MemPlace} (h : DataW.trod enc Tryz.prog W base spare held fuel 22 cs = some x) (hlt : ∀ p ∈ x.2, p.block < W.heap.size) :
    ∃ a len cap l, cs = [.slice a len cap] ∧ (IsP W a len cap l ∧ (a = none → cap = 0)) ∧ len ≤ Rows.uptoBulk x.1 := by
  obtain ⟨a, len, cap, l, rfl, h1, h2⟩ := open_prs_u h hlt
  refine ⟨a, len, cap, l, rfl, ⟨h1, ?_⟩, h2⟩
  rcases open_slice Tryz.underlying22 h with ⟨e, _⟩ | ⟨a', len', cap', m, n, D, Pl, e, _⟩
  · intro _
    injection e with e _
    injection e with _ _ e
  · injection e with e _
    injection e with e _ _
    rintro rfl
    cases e
end
end Go.Proofs.YtlkmcbelmldleaaGreat
/- transactions that have read nothing -/
namespace Go.Proofs.YtlkmcbelmldleaaGreat
open Go.RowKit
set_option maxRecDepth 40000
set_option linter.unusedVariables false
set_option linter.unusedSimpArgs false
theorem Mn.turned {X : Nat → Prop} {w w' : World} {g : Nat} {ms : Mg} (h : Mn X w g ms) (hF : Frm X w w') : Mn X w' g ms := by
  obtain ⟨ob, ps, h1, h2⟩ := h.ex
  have k1 : ∀ i, SM g ob ps i → w'.heap[i]? = w.heap[i]? := fun i hi => hF.block i (h1.ltS hi) (h2 i hi)
  have k2 : ∀ i, VB w g i → w'.heap[i]? = w.heap[i]? := fun i hi => hF.block i (vb_lt h1 hi) (h.ver i hi)
  exact ⟨⟨ob, ps, h1.keptX hF.size k1 (fun i hi _ => k2 i hi), h2⟩, fun b hb => h.ver b (hb.same (k1 g (.inl rfl))), h.few, fun i hi => Nat.lt_of_lt_of_le (h.xb i hi) hF.size⟩
theorem Mn.nums {X : Nat → Prop} {w : World} {g : Nat} {ms : Mg} (h : Mn X w g ms) : (∀ x ∈ ms.opn, x.1 ≤ ms.last) ∧ ms.opn.Pairwise (fun x y => x.1 < y.1) := by
  obtain ⟨ob, ps, h1, _⟩ := h.ex
  obtain ⟨D, _, hD⟩ := h1.map
  exact ⟨h1.nums, hD.srt⟩
theorem set_at {α : Type} {l : List α} {i : Nat} {x : α} (h : l[i]? = some x) : l.set i x = l := by
  obtain ⟨hi, rfl⟩ := List.getElem?_eq_some_iff.1 h
  exact List.set_getElem_self hi
theorem map_erase {α β : Type} (f : α → β) : ∀ (l : List α) (k : Nat), (l.map f).eraseIdx k = (l.eraseIdx k).map f
  | [], _ => rfl
  | _ :: _, 0 => rfl
  | x :: r, k + 1 => by simp [map_erase f r k]
/-- the open ones' numbers; none has read -/
structure Bl (ms : Mg) (ids : List Int) : Prop where
  num : ids = ms.opn.map (fun x => (x.1 : Int))
  blind : ∀ x ∈ ms.opn, x.2.reads = []
section
variable {ms : Mg} {ids : List Int}
theorem Bl.len (h : Bl ms ids) : ids.length = ms.opn.length := by rw [h.num]; simp
theorem Bl.begin (h : Bl ms ids) (hn : ¬ ms.opn.length = 16) : mBegin ms = (ms.begun, (ms.last : Int) + 1, 0) ∧ Bl ms.begun (ids ++ [(ms.last : Int) + 1]) := by
  refine ⟨by unfold mBegin; rw [if_neg hn], ⟨?_, fun x hx => ?_⟩⟩
  · unfold Mg.begun
    rw [h.num]
    simp
  · have hx' : x ∈ ms.opn ++ [(ms.last + 1, (⟨ms.now, [], []⟩ : Tr))] := hx
    rcases List.mem_append.1 hx' with hx' | hx'
    · exact h.blind x hx'
    · rw [List.mem_singleton.1 hx']
theorem Bl.write (h : Bl ms ids) (t : Int) (x : Wt) : Bl (mWrite ms t x).1 ids ∧ (mWrite ms t x).1.vs = ms.vs ∧ (mWrite ms t x).1.now = ms.now ∧ (mWrite ms t x).1.last = ms.last := by
  unfold mWrite
  cases ha : ms.at t with
  | none => exact ⟨h, rfl, rfl, rfl⟩
  | some y =>
    obtain ⟨i, n, tr⟩ := y
    have hq := (at_some ha).1
    refine ⟨⟨?_, fun z hz => ?_⟩, rfl, rfl, rfl⟩
    · show ids = (ms.opn.set i (n, wroteTr tr x)).map (fun x => (x.1 : Int))
      rw [h.num, List.map_set]
      refine (set_at ?_).symm
      rw [List.getElem?_map, hq]
      rfl
    · obtain ⟨j, hj⟩ := List.mem_iff_getElem?.1 hz
      rcases get_set (show (ms.opn.set i (n, wroteTr tr x))[j]? = some z from hj) with ⟨_, e, _⟩ | ⟨_, e⟩
      · rw [e]
        show (wroteTr tr x).reads = []
        rw [(wroteTr_same tr x).2]
        exact h.blind (n, tr) (List.mem_of_getElem? hq)
      · exact h.blind z (List.mem_of_getElem? e)
theorem at_idx (hs : ms.opn.Pairwise (fun x y => x.1 < y.1)) {k n : Nat} {tr : Tr} (h : ms.opn[k]? = some (n, tr)) : ms.at (n : Int) = some (k, n, tr) := by
  obtain ⟨hk, he⟩ := List.getElem?_eq_some_iff.1 h
  have e : ms.opn.findIdx? (fun x => decide ((x.1 : Int) = (n : Int))) = some k := by
    rw [List.findIdx?_eq_some_iff_getElem]
    refine ⟨hk, by rw [he]; simp, fun j hj => ?_⟩
    have := (List.pairwise_iff_getElem.1 hs) j k (by omega) hk hj
    rw [he] at this
    simp at this ⊢
    omega
  unfold Mg.at
  rw [e]
  dsimp only
  rw [h]
theorem Bl.commit (h : Bl ms ids) (hg : Gd ms) (hn : ms.now + 1 ≤ 2305843009213693952) (hs : ms.opn.Pairwise (fun x y => x.1 < y.1)) (hW : WsOk ms) (hf : ∀ x ∈ ms.opn, x.2.reads.length ≤ 256 ∧ x.2.ws.length ≤ 256) {k : Nat} (hk : k < ids.length) :
    Bl (mCommit ms (ids.getD k 0)).1 (ids.eraseIdx k) ∧ ((mCommit ms (ids.getD k 0)).2.2.2 = 0 ∨ (mCommit ms (ids.getD k 0)).2.2.2 = 3) ∧ Gd (mCommit ms (ids.getD k 0)).1 ∧ (mCommit ms (ids.getD k 0)).1.now ≤ ms.now + 1 ∧ (mCommit ms (ids.getD k 0)).1.last = ms.last ∧ (mCommit ms (ids.getD k 0)).2.1.length ≤ 256 ∧ SrtW (mCommit ms (ids.getD k 0)).2.1 := by
  have hk' : k < ms.opn.length := by rw [← h.len]; exact hk
  obtain ⟨y, hy⟩ : ∃ y, ms.opn[k]? = some y := ⟨_, List.getElem?_eq_getElem hk'⟩
  obtain ⟨n, tr⟩ := y
  have hm := List.mem_of_getElem? hy
  have e : ids.getD k 0 = (n : Int) := by
    rw [h.num, List.getD_eq_getElem?_getD, List.getElem?_map, hy]
    rfl
  rw [e]
  unfold mCommit
  rw [at_idx hs hy]
  dsimp only
  have hc : conflB ms.vs tr = false := by
    unfold conflB
    rw [List.any_eq_false]
    intro v _
    unfold hitB
    rw [h.blind _ hm]
    simp
  have hwl : (comW ms tr).length ≤ 256 ∧ SrtW (comW ms tr) := by
    unfold comW
    split
    · exact ⟨(hf _ hm).2, hW _ hm⟩
    · exact ⟨by simp, List.Pairwise.nil⟩
  refine ⟨⟨?_, fun x hx => ?_⟩, hg.commit hn hy (hW _ hm) (hf _ hm).2 hc, (hg.com tr).ended (Nat.le_trans (comM_nums ms tr).2 hn) k, ?_, ?_, hwl⟩
  · rw [ended_opn, comM_opn, h.num, map_erase]
  · rw [ended_opn, comM_opn] at hx
    exact h.blind x (List.mem_of_mem_eraseIdx hx)
  · rw [ended_now]
    exact (comM_nums ms tr).2
  · have e1 : ((comM ms tr).ended k).last = (comM ms tr).last := by unfold Mg.ended Mg.less; split <;> rfl
    rw [e1]
    unfold comM
    split <;> rfl
end
end Go.Proofs.YtlkmcbelmldleaaGreat
/- what there is now, step by step -/
namespace Go.Proofs.YtlkmcbelmldleaaGreat
open Go.RowKit
set_option maxRecDepth 40000
set_option linter.unusedVariables false
set_option linter.unusedSimpArgs false
theorem NowIs.does {ms : Mg} {now : List Pr} (hN : NowIs ms now) (hg : Gd ms) (hW : WsOk ms) {k : Nat} {t : Int} {key to val : ByteArray} {A : An} (hA : AnOk ms k t key to val A) : NowIs (mDo ms k t key to val) (if A.why = 0 then allP now A.done else now) := by
  have keep : ∀ ms' : Mg, A.done = [] → NowIs ms' now → NowIs ms' (if A.why = 0 then allP now A.done else now) := fun ms' h3 h => by
    rw [h3]
    have e : (if A.why = 0 then allP now [] else now) = now := by split <;> rfl
    rw [e]; exact h
  have hw : ∀ x, NowIs (mWrite ms t x).1 now := fun x => by
    unfold mWrite
    cases ms.at t with
    | none => exact hN
    | some y => exact hN.same rfl rfl
  unfold AnOk at hA
  unfold mDo
  by_cases h1 : k = 1
  · rw [if_pos h1] at hA ⊢
    refine keep _ (by rw [hA]) ?_
    unfold mBegin
    split
    · exact hN
    · exact hN.same rfl rfl
  rw [if_neg h1] at hA ⊢
  by_cases h2 : k = 2
  · rw [if_pos h2] at hA ⊢
    refine keep _ (by rw [hA]) ?_
    unfold mGet
    cases ms.at t with
    | none => exact hN
    | some y => exact hN.same rfl rfl
  rw [if_neg h2] at hA ⊢
  by_cases h3 : k = 3
  · rw [if_pos h3] at hA ⊢
    obtain ⟨l, _, hA⟩ := hA
    refine keep _ (by rw [hA]) ?_
    unfold mScan
    cases ms.at t with
    | none => exact hN
    | some y =>
      dsimp only
      split
      · exact hN
      · exact hN.same rfl rfl
  rw [if_neg h3] at hA ⊢
  by_cases h4 : k = 4
  · rw [if_pos h4] at hA ⊢
    exact keep _ (by rw [hA]) (hw _)
  rw [if_neg h4] at hA ⊢
  by_cases h5 : k = 5
  · rw [if_pos h5] at hA ⊢
    exact keep _ (by rw [hA]) (hw _)
  rw [if_neg h5] at hA ⊢
  by_cases h6 : k = 6
  · rw [if_pos h6] at hA ⊢
    rw [hA]
    dsimp only
    by_cases hc : (mCommit ms t).2.2.2 = 0
    · rw [if_pos hc]; exact hN.commit hg hW hc
    · rw [if_neg hc]; exact hN.commit_no hg hc
  rw [if_neg h6] at hA ⊢
  by_cases h7 : k = 7
  · rw [if_pos h7] at hA ⊢
    refine keep _ (by rw [hA]) ?_
    unfold mAbort
    cases ms.at t with
    | none => exact hN
    | some y => exact hN.ended hg.good _
  rw [if_neg h7] at hA ⊢
  exact keep _ (by rw [hA]) hN
end Go.Proofs.YtlkmcbelmldleaaGreat
/- what TxnBlind keeps: a manager, the entries there are, the numbers of those that are open -/
namespace Go.Proofs.YtlkmcbelmldleaaGreat
open Go.RowKit Go.Shelf
set_option maxRecDepth 40000
set_option linter.unusedVariables false
set_option linter.unusedSimpArgs false
abbrev ivc (t : Int) : List Value := [.int .i64 t]
/-- numbers in an own row -/
abbrev RowI (w : World) (base : Nat) (v : Value) (l : List Int) : Prop := w.ownsRow base 3 1 v l.length (l.flatMap ivc)
theorem own_apart {w : World} {b b' e e' s s' n n' : Nat} {v v' : Value} {xs xs' : List Value} (h : w.ownsRow b e s v n xs) (h' : w.ownsRow b' e' s' v' n' xs') (hne : ¬ e = e') : ∀ j, v.ownBlock = some j → ¬ v'.ownBlock = some j := by
  intro j hj hj'
  rcases h.2 with ⟨rfl, _⟩ | ⟨g, cap, cur, rfl, _, hg, _⟩
  · simp [Value.ownBlock] at hj
  · rcases h'.2 with ⟨rfl, _⟩ | ⟨g', cap', cur', rfl, _, hg', _⟩
    · simp [Value.ownBlock] at hj'
    · have e1 : g = j := by simpa [Value.ownBlock] using hj
      have e2 : g' = j := by simpa [Value.ownBlock] using hj'
      rw [e1] at hg
      rw [e2, hg] at hg'
      injection hg' with hg'
      injection hg' with _ hg' _
      exact hne hg'
theorem Mn.turnedN {X : Nat → Prop} {w w' : World} {g : Nat} {ms : Mg} (h : Mn X w g ms) (hF : Frm X w w') : Mn (fun i => X i ∨ (w.heap.size ≤ i ∧ i < w'.heap.size)) w' g ms := by
  obtain ⟨ob, ps, h1, h2⟩ := h.ex
  have k1 : ∀ i, SM g ob ps i → w'.heap[i]? = w.heap[i]? := fun i hi => hF.block i (h1.ltS hi) (h2 i hi)
  have k2 : ∀ i, VB w g i → w'.heap[i]? = w.heap[i]? := fun i hi => hF.block i (vb_lt h1 hi) (h.ver i hi)
  refine ⟨⟨ob, ps, h1.keptX hF.size k1 (fun i hi _ => k2 i hi), fun i hi hx => hx.elim (h2 i hi) (fun q => by have := h1.ltS hi; omega)⟩, fun b hb hx => ?_, h.few, fun i hi => hi.elim (fun q => Nat.lt_of_lt_of_le (h.xb i q) hF.size) (fun q => q.2)⟩
  have hb' := hb.same (k1 g (.inl rfl))
  exact hx.elim (h.ver b hb') (fun q => by have := vb_lt h1 hb'; omega)
/-- a manager, the entries there are (v9), the numbers of those that are open (v10) -/
structure BS (B : Nat) (w0 w : World) (g : Nat) (ms : Mg) (X : Nat → Prop) (v9 v10 : Value) (now : List Pr) (ids : List Int) : Prop where
  mn : Mn X w g ms
  xb : ∀ i, i < B → X i
  r9 : w.ownsRow B 62 2 v9 now.length (now.flatMap prc)
  x9 : ∀ j, v9.ownBlock = some j → X j
  r10 : RowI w B v10 ids
  x10 : ∀ j, v10.ownBlock = some j → X j
  lo : Below B w0 w
  sz : B ≤ w.heap.size
section
variable {B g : Nat} {w0 w w' : World} {ms ms' : Mg} {X : Nat → Prop} {v9 v10 v' : Value} {now now' : List Pr} {ids ids' : List Int}
theorem BS.below (h : BS B w0 w g ms X v9 v10 now ids) (hb : Below w.heap.size w w') : BS B w0 w' g ms X v9 v10 now ids :=
  ⟨h.mn.below hb, h.xb, row_kept h.r9 (fun j hj => hb.block j (h.r9.lt j hj).2), h.x9, row_kept h.r10 (fun j hj => hb.block j (h.r10.lt j hj).2), h.x10, h.lo.trans (hb.mono h.sz), Nat.le_trans h.sz hb.size⟩
/-- something was done with the manager -/
theorem BS.step (h : BS B w0 w g ms X v9 v10 now ids) (hM : Mn X w' g ms') (hF : Frm (fun i => ¬ X i) w w') : BS B w0 w' g ms' X v9 v10 now ids :=
  ⟨hM, h.xb, row_kept h.r9 (fun j hj => hF.block j (h.r9.lt j hj).2 (fun e => e (h.x9 j hj))), h.x9, row_kept h.r10 (fun j hj => hF.block j (h.r10.lt j hj).2 (fun e => e (h.x10 j hj))), h.x10, h.lo.trans (hF.low h.xb h.sz), Nat.le_trans h.sz hF.size⟩
theorem BS.start (hM : Mn (fun i => i < B) w g ms) (hz : B ≤ w.heap.size) (hb : Below w.heap.size w w') (hr : w'.ownsRow w.heap.size 62 2 v9 now.length (now.flatMap prc)) : ∃ X', BS B w w' g ms X' v9 (.slice none 0 0) now [] :=
  ⟨_, hM.news hb, fun i hi => .inl hi, row_mono hr hz, fun j hj => .inr (hr.lt j hj), World.ownsRow_nil _ _ _ _, fun j hj => by simp [Value.ownBlock] at hj, hb.mono hz, Nat.le_trans hz hb.size⟩
end
theorem own_none {w : World} {base e s n c : Nat} {a : Option Addr} {xs : List Value} (h : w.ownsRow base e s (.slice a n c) n xs) (ha : a = none) : c = 0 := by
  rcases h.2 with ⟨h, _⟩ | ⟨g, cap, cur, h, _⟩
  · injection h
  · injection h with h _ _
    rw [ha] at h; cases h
def slLen : Value → Nat
  | .slice _ n _ => n
  | _ => 0
theorem new_few {l : List Pr} (h : newE l = 0) : l.length ≤ 4096 := by
  have := (ref_zero (new_ref h)).2.1
  simpa using this
theorem Gd.write {ms : Mg} (h : Gd ms) (hn : ms.now + 1 ≤ 2305843009213693952) (t : Int) (x : Wt) (hx : x.gone = true → x.val = ⟨#[]⟩) : Gd (mWrite ms t x).1 := by
  obtain ⟨k, v, g⟩ := x
  cases g with
  | false => exact h.does hn 4 t k k v
  | true =>
    obtain rfl : v = ⟨#[]⟩ := hx rfl
    exact h.does hn 5 t k k k
end Go.Proofs.YtlkmcbelmldleaaGreat
