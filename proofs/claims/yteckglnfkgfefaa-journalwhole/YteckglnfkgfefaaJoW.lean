/- JoW JpB -/
import Derived.Test.YteckglnfkgfefaaJoV
import Derived.Test.YteckglnfkgfefaaJoP
import Derived.Test.YteckglnfkgfefaaJoQ
import Derived.Test.YteckglnfkgfefaaJoX
/- a journal on a new disk, beside what was handed in -/
namespace Go.Proofs.Yteckglnfkgfefaa
open Go.RowKit Go.ChangeShapes Go.WideShapes Go.Deep Cod
set_option maxRecDepth 40000
set_option linter.unusedSimpArgs false
set_option linter.unusedVariables false
/-- batches that are handed in -/
def IsSS (w : World) (a : Option Addr) (len cap : Nat) (l : List (List ByteArray)) : Prop :=
  l.length = len ∧ len ≤ cap ∧ cap ≤ maxLen ∧ (len = 0 ∨ ∃ b off, a = some ⟨b, off, none⟩ ∧ b < w.heap.size ∧ ∀ i, i < len → ∃ a' c', w.cell? ⟨b, off + i, none⟩ = some (.slice a' (l.getD i []).length c') ∧ IsT w a' (l.getD i []).length c' (l.getD i []))
theorem IsSS.below {w w1 : World} {a : Option Addr} {len cap : Nat} {l : List (List ByteArray)} (h : IsSS w a len cap l) (hb : Below w.heap.size w w1) : IsSS w1 a len cap l := by
  obtain ⟨h1, h2, h3, h5⟩ := h
  refine ⟨h1, h2, h3, h5.imp id ?_⟩
  rintro ⟨b, off, rfl, hlt, hc⟩
  refine ⟨b, off, rfl, Nat.lt_of_lt_of_le hlt hb.size, fun i hi => ?_⟩
  obtain ⟨a', c', e, hu⟩ := hc i hi
  exact ⟨a', c', (hb.cell (p := ⟨b, off + i, none⟩) hlt).trans e, hu.below hb⟩
theorem obytes22 : Try.prog.bytesOf 22 = 24 := by kernel_rfl
/-- how many batches can be handed in -/
theorem ss_weight {H : Type} {enc : TypeId × Value → H} {W : World} {base : Nat} {held : Bool} {fuel : Nat} {cs : List Value} {x : DataW H × List MemPlace} (h : DataW.trod enc Try.prog W base (fun _ => true) held fuel 36 cs = some x) (hw : ∀ n ∈ x.1.weights Try.prog 36, n ≤ reachBytes) {a : Option Addr} {len cap : Nat} (hcs : cs = [.slice a len cap]) : len ≤ 140737488355328 := by
  rcases open_slice Try.underlying36 h with ⟨rfl, _⟩ | ⟨a', len', cap', m, n, D, Pl, rfl, hb, hl, hm, hmm, rfl, hx⟩
  · cases hcs
    exact Nat.zero_le _
  · cases hcs
    have hlm : len ≤ m := by rw [hmm]; split <;> omega
    simp only [DataW.weights, Try.underlying36] at hw
    have hw1 := hw _ (List.mem_cons_self ..)
    rw [obytes22] at hw1
    simp only [List.length_map, List.length_range, reachBytes] at hw1
    omega
/-- a disk and a journal on it, in blocks that are new -/
structure Jd (w W : World) (gj g gs b n : Nat) (j : Jn) (st : St) : Prop where
  d : IsD NoX W g gs b n st
  j : IsJ W gj g j
  lo : w.heap.size ≤ gj ∧ ∀ i, SD g gs b i → w.heap.size ≤ i
  b : Below w.heap.size w W
theorem Jd.below {w W W' : World} {gj g gs b n : Nat} {j : Jn} {st : St} (h : Jd w W gj g gs b n j st) (hb : Below W.heap.size W W') : Jd w W' gj g gs b n j st :=
  ⟨h.d.below hb, h.j.below hb, h.lo, h.b.trans (hb.mono h.b.size)⟩
theorem Jd.append {w W : World} {gj g gs b n : Nat} {j j' : Jn} {st st' : St} {e : Int} {rs : List ByteArray} {a : Option Addr} {len cap : Nat} (h : Jd w W gj g gs b n j st) (hT : IsT W a len cap rs) (hw : st.wr < 4611686018427380000) (he : Jn.append n rs j st = (j', st', e)) :
    Calls Try.prog 19 #[.pointer (some ⟨gj, 0, none⟩), .slice a len cap] W fun en W' => en = .returned (.int .i64 e) ∧ Jd w W' gj g gs b n j' st' := by
  refine (append_any W gj g gs b n j st a len cap rs h.j h.d hT hw).mono ?_
  rintro en W' ⟨h1, h2, h3, h4⟩
  rw [he] at h1 h2 h3
  exact ⟨h1, h2, h3, h.lo, h.b.trans (h4.toBelow h.b.size (fun i hi => hi.elim (fun e => by rw [e]; exact h.lo.1) (h.lo.2 i)))⟩
theorem Jd.drop {w W : World} {gj g gs b n : Nat} {j : Jn} {st : St} (h : Jd w W gj g gs b n j st) (to : Nat) (h1 : j.frm ≤ to) (h2 : to ≤ j.nxt) :
    Calls Try.prog 31 #[.pointer (some ⟨gj, 0, none⟩), .int .u64 (to : Nat)] W fun en W' => en = .returned (.int .i64 0) ∧ Jd w W' gj g gs b n (j.drop to) st := by
  refine (drop_ok W gj g j h.j to h1 h2).mono ?_
  rintro en W' ⟨e1, e2, e3⟩
  refine ⟨e1, ?_, e2, h.lo, h.b.trans (e3.toBelow h.b.size (fun i hi => by rw [hi]; exact h.lo.1))⟩
  refine h.d.kept (S := fun i => i = gj) e3 (by rintro i rfl e; exact h.j.ne h.d e) (K5.of_frm e3 (fun i cur m hi => ?_))
  rw [hi, h.j.blk]
  simp
/-- what Open answers -/
def OpQ (w W : World) (gj g gs b n : Nat) (j : Jn) (st : St) (l : List (List ByteArray)) (t frm : Nat) (e : Ending) (W' : World) : Prop :=
  ∃ gk v, e = .returned (.tuple #[.pointer (some ⟨gk, 0, none⟩), v, .int .i64 0]) ∧ IsJ W' gk g ⟨j.first, j.count, frm, t, false⟩ ∧ OwnLL W' W.heap.size v l ∧ Jd w W' gj g gs b n j st
theorem Jd.open {w W : World} {gj g gs b n : Nat} {j : Jn} {st : St} (h : Jd w W gj g gs b n j st) (hd : st.down = false) (hc0 : 0 < j.count) (hfc : j.first + j.count ≤ n) (frm : Nat) (hf0 : 1 ≤ frm) (hf1 : frm ≤ 2305843009213693952) (l : List (List ByteArray)) (t : Nat) (hr : Run (j.rd st) (frm + j.count) frm l t) :
    Calls Try.prog 18 #[.pointer (some ⟨g, 0, none⟩), .int .i64 (j.first : Nat), .int .i64 (j.count : Nat), .int .u64 (frm : Nat)] W (OpQ w W gj g gs b n j st l t frm) := by
  refine (open_ok W g gs b n st h.d hd j.first j.count frm hc0 hfc hf0 hf1 l t hr).mono ?_
  rintro e W' ⟨gk, v, rfl, h1, h2, h3, h4⟩
  exact ⟨gk, v, rfl, h2, h3, h.below h4⟩
/-- a new disk of count sectors, and a journal in all of them -/
theorem new_jd (w : World) (count : Nat) (h0 : 0 < count) (h1 : count ≤ 1024) : Calls Try.prog 17 #[.int .i64 (count : Int)] w fun e w' => ∃ g gs b, e = .returned (.pointer (some ⟨g, 0, none⟩)) ∧ IsD NoX w' g gs b count st0 ∧ (∀ i, SD g gs b i → w.heap.size ≤ i) ∧ Below w.heap.size w w' := by
  refine (new_ok (X := NoX) w count h0 h1 (fun i h => h.elim)).mono ?_
  rintro e w' ⟨g, gs, b, rfl, hd, hb, hs⟩
  exact ⟨g, gs, b, rfl, hd, hs, hb⟩
theorem open_first (w W : World) (g gs b count : Nat) (hd : IsD NoX W g gs b count st0) (hs : ∀ i, SD g gs b i → w.heap.size ≤ i) (hb : Below w.heap.size w W) (h0 : 0 < count) (h1 : count ≤ 1024) :
    Calls Try.prog 18 #[.pointer (some ⟨g, 0, none⟩), .int .i64 0, .int .i64 (count : Nat), .int .u64 1] W fun e W' => ∃ gj v, e = .returned (.tuple #[.pointer (some ⟨gj, 0, none⟩), v, .int .i64 0]) ∧ Jd w W' gj g gs b count ⟨0, count, 1, 1, false⟩ st0 := by
  have hL := (Lv.new (n := count) h0 (Nat.le_refl _) h1).all (by show (1 : Nat) ≤ _; omega)
  refine (open_ok W g gs b count st0 hd rfl 0 count 1 h0 (by omega) (by omega) (by omega) [] 1 hL).mono ?_
  rintro e W' ⟨gj, v, rfl, h2, h3, h4, h5⟩
  exact ⟨gj, v, rfl, hd.below h5, h3, ⟨Nat.le_trans hb.size h2, hs⟩, hb.trans (h5.mono hb.size)⟩
theorem open_nil0 (w : World) (c : Int) : Calls Try.prog 18 #[.pointer none, .int .i64 0, .int .i64 c, .int .u64 1] w fun e w' => e = .returned (.tuple #[.pointer none, .slice none 0 0, .int .i64 1]) ∧ w' = w := by
  go_enter Try.func18, Try.ntmps18
  go_wp2_with fail
  refine bodyPost_ret (v := .tuple #[.pointer none, .slice none 0 0, .int .i64 1]) (by simp [results, Try.f18, go_sem]) rfl ?_
  exact ⟨rfl, rfl⟩
end Go.Proofs.Yteckglnfkgfefaa
/- forged: three disks, sector by sector -/
namespace Go.Proofs.Yteckglnfkgfefaa
open Go.RowKit Cod
set_option maxRecDepth 40000
set_option linter.unusedSimpArgs false
set_option linter.unusedVariables false
/-- no sector below k is forged -/
def NoF (k : Nat) (s1 s2 s3 : St) : Prop := ∀ x, x < k → ¬ Fgd (full (s1.reads x)) (full (s2.reads x)) (full (s3.reads x))
/-- what forged answers -/
def FaPost (w : World) (n : Nat) (s1 s2 s3 : St) (e : Ending) (w' : World) : Prop := (∃ t, e = .returned (.bool t) ∧ (t = false → NoF n s1 s2 s3)) ∧ Below w.heap.size w w'
theorem FaPost.yes {w w' : World} {n : Nat} {s1 s2 s3 : St} (hb : Below w.heap.size w w') : FaPost w n s1 s2 s3 (.returned (.bool true)) w' := ⟨⟨true, rfl, fun h => by cases h⟩, hb⟩
theorem FaPost.no {w w' : World} {n : Nat} {s1 s2 s3 : St} (h : NoF n s1 s2 s3) (hb : Below w.heap.size w w') : FaPost w n s1 s2 s3 (.returned (.bool false)) w' := ⟨⟨false, rfl, fun _ => h⟩, hb⟩
set_option maxHeartbeats 4000000 in
theorem forgedAll {X1 X2 X3 : Nat → Prop} (w : World) (g1 gs1 b1 g2 gs2 b2 g3 gs3 b3 n : Nat) (s1 s2 s3 : St) (h1 : IsD X1 w g1 gs1 b1 n s1) (h2 : IsD X2 w g2 gs2 b2 n s2) (h3 : IsD X3 w g3 gs3 b3 n s3) (u1 : s1.down = false) (u2 : s2.down = false) (u3 : s3.down = false) :
    Calls Try.prog 26 #[.pointer (some ⟨g1, 0, none⟩), .pointer (some ⟨g2, 0, none⟩), .pointer (some ⟨g3, 0, none⟩)] w (FaPost w n s1 s2 s3) := by
  have H1 := hide h1
  have H2 := hide h2
  have H3 := hide h3
  have hn := h1.n1
  clear h1 h2 h3
  go_enter Try.func26, Try.ntmps26
  go_wp2_with fail
  go_loopw [7] (fun i wr => ∃ j : Nat, j ≤ n ∧ i = .int .i64 (j : Nat) ∧ NoF j s1 s2 s3 ∧ Below w.heap.size w wr) (fun i _ => n - (intOf i).toNat)
  case atStart => exact ⟨0, Nat.zero_le _, rfl, fun x hx => by omega, Below.refl _ _⟩
  case round =>
    obtain ⟨j, hj, rfl, hnf, hb⟩ := hrel
    have HN := hide hnf
    have HB := hide hb
    have HS := hide (sectors_any wr g3 gs3 b3 n s3 (H3.out.below hb))
    clear hnf hb
    go_wp2_with fail
    refine HS.out.mono ?_
    rintro e w0 ⟨rfl, rfl⟩
    clear HS
    by_cases hjn : j < n
    · have d1 : decide ((j : Int) < (n : Int)) = true := decide_eq_true (by omega)
      have HR1 := hide (read_ok w0 g1 gs1 b1 n s1 (H1.out.below HB.out) u1 j hjn)
      have L1 := hide (full_lt (H1.out.dat hjn).1)
      have L2 := hide (full_lt (H2.out.dat hjn).1)
      have L3 := hide (full_lt (H3.out.dat hjn).1)
      go_wp2_with fail
      refine HR1.out.mono ?_
      rintro e w1 ⟨q1, rfl, hq1, hr1, hb1⟩
      have HB1 : Hid (Below w.heap.size w w1) := hide (HB.out.trans (hb1.mono HB.out.size))
      have R1 := hide (hr1.isB L1.out)
      have HR2 := hide (read_ok w1 g2 gs2 b2 n s2 (H2.out.below HB1.out) u2 j hjn)
      clear hq1 hr1 hb1 HR1 HB
      go_wp2_with fail
      refine HR2.out.mono ?_
      rintro e w2 ⟨q2, rfl, hq2, hr2, hb2⟩
      have HB2 : Hid (Below w.heap.size w w2) := hide (HB1.out.trans (hb2.mono HB1.out.size))
      have R12 := hide (R1.out.below hb2)
      have R2 := hide (hr2.isB L2.out)
      have HR3 := hide (read_ok w2 g3 gs3 b3 n s3 (H3.out.below HB2.out) u3 j hjn)
      clear hq2 hr2 hb2 HR2 HB1 R1
      go_wp2_with fail
      refine HR3.out.mono ?_
      rintro e w3 ⟨q3, rfl, hq3, hr3, hb3⟩
      have HB3 : Hid (Below w.heap.size w w3) := hide (HB2.out.trans (hb3.mono HB2.out.size))
      have HF := hide (forged_any w3 _ _ _ 4096 4096 4096 4096 4096 _ _ _ (R12.out.below hb3) (R2.out.below hb3) (hr3.isB L3.out))
      clear hq3 hr3 hb3 HR3 HB2 R12 R2
      go_wp2_with fail
      refine HF.out.mono ?_
      rintro e w4 ⟨⟨t, rfl, ht⟩, hb4⟩
      have HB4 : Hid (Below w.heap.size w w4) := hide (HB3.out.trans (hb4.mono HB3.out.size))
      have HT := hide ht
      clear hb4 HB3 HF ht
      cases t with
      | true =>
        go_wp2_with fail
        go_ret
        exact FaPost.yes HB4.out
      | false =>
        have HN2 : Hid (NoF (j + 1) s1 s2 s3) := hide (fun x hx => by
          by_cases e : x = j
          · subst e; exact HT.out rfl
          · exact HN.out x (by omega))
        go_wp2_with fail
        go_roundw
        case rel => exact ⟨j + 1, by omega, by go_num, HN2.out, HB4.out⟩
        case measure => simp [intOf]; omega
    · have d1 : decide ((j : Int) < (n : Int)) = false := decide_eq_false (by omega)
      have hjn' : j = n := by omega
      have HN2 : Hid (NoF n s1 s2 s3) := hide (by rw [← hjn']; exact HN.out)
      clear hjn'
      go_wp2_with fail
      go_ret
      exact FaPost.no HN2.out HB.out
end Go.Proofs.Yteckglnfkgfefaa
