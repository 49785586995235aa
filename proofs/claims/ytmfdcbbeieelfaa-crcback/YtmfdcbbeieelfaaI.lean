/- contracts: the document's Seal and Open -/
import Derived.Test.YtmfdcbbeieelfaaH
namespace Go.Proofs.Ytmfdcbbeieelfaa
open Go.RowKit
theorem update_lt (s : Nat) (l : List Nat) (hs : s < 4294967296) (hl : ∀ x ∈ l, x < 256) : Crc.update s l < 4294967296 :=
  Nat.xor_lt_two_pow (n := 32) (by decide) (Crc.upd_lt _ _ (Nat.xor_lt_two_pow (n := 32) (by decide) hs) hl)
theorem src_lit (W : World) (l : List Value) : ∀ j u, l[j]? = some u → (W.alloc (.cells l.toArray 5)).cell? ((⟨W.heap.size, 0, none⟩ : Addr).add j) = some u := by
  intro j u hj
  rw [addr_add]
  have hn := heap_alloc_new W (.cells l.toArray 5)
  simp only [World.cell?, hn]
  simpa using hj
set_option maxHeartbeats 400000 in
/-- ladingref02.Seal -/
theorem refSeal_any (a : Option Addr) (len cap : Nat) (l : List Nat) (w : World) (h : IsB w a len cap l) (hr : cap ≤ 140737488351232) :
    Calls Try.prog 22 #[.slice a len cap] w fun e w' => ∃ v, e = .returned v ∧ w'.ownsRow w.heap.size 5 1 v (len + 4) (bv (l ++ le (Crc.update 0 l))) ∧ Below w.heap.size w w' := by
  have hcl : len ≤ cap := h.2.1
  obtain ⟨i0, hi, hz0, hz1, hz2⟩ := info_parts Try.info5
  go_enter Try.func22, Try.ntmps22
  go_wp2_with fail
  refine (refOf_any a len cap l _ h).mono ?_
  rintro e w' ⟨rfl, rfl⟩
  go_wp2_with (at_builtin; refine wpList_clone rfl (.tmp 7) (.tmp 8) rfl w'.heap.size _ 0 [] rfl (owns_empty w' _ (Nat.le_refl _)) a len cap l rfl ?hB ?hb ?hbase w'.heap.size w' ?bel (Nat.le_refl _) ?_)
  case hB => exact h.below ((Below.refl _ _).alloc (Nat.le_refl _) _)
  case hb => omega
  case hbase => simp
  case bel => exact (Below.refl _ _).alloc (Nat.le_refl _) _
  intro v w1 hown0 hb1
  have hown : w1.ownsRow w'.heap.size 5 1 v len (bv l) := by simpa using hown0
  clear hown0
  have hsz := hb1.size
  generalize hcu : Crc.update 0 l = c at *
  have Hcu := hide hcu
  clear hcu h
  go_wp2_with (at_builtin; refine wpList_append_own _ rfl (.tmp 10) (.tmp 22) 23 rfl w'.heap.size 5 i0 (.int .u8 0) 1 1 Try.underlying23 hi hz0 hz1 hz2 rfl (by decide) _ len (bv l) rfl (hown.alloc _) ⟨w1.heap.size, 0, none⟩ 4 4 [.int .u8 ((c : Int) % 256), .int .u8 ((c : Int) / 256 % 256), .int .u8 ((c : Int) / 65536 % 256), .int .u8 ((c : Int) / 16777216 % 256)] rfl rfl (src_lit w1 _) ?c2 ?c3 ?c4 ?c5 ?_)
  case c2 => intro u hu; simp at hu; rcases hu with rfl | rfl | rfl | rfl <;> rfl
  case c3 => unfold maxLen; omega
  case c4 => omega
  case c5 => simp; omega
  intro v2 w2 hown2 hg2 _
  have hb2 : Below w'.heap.size w' w2 := (hb1.alloc hsz _).grown hg2 (by simp; omega) (fun k hk => (hown.lt k hk).1)
  have el : bv (le c) = [.int .u8 ((c : Int) % 256), .int .u8 ((c : Int) / 256 % 256), .int .u8 ((c : Int) / 65536 % 256), .int .u8 ((c : Int) / 16777216 % 256)] := by simp [bv, le]
  rw [← el, ← bv_append] at hown2
  clear el
  clear hg2 hown
  go_wp2
  go_ret
  exact ⟨_, rfl, by rw [Hcu.out]; exact hown2, hb2⟩
theorem refOpen_short (a : Option Addr) (len cap : Nat) (hl : len < 4) (w : World) :
    Calls Try.prog 20 #[.slice a len cap] w fun e w' => e = .returned (.tuple #[.slice none 0 0, .int .i64 6]) ∧ w' = w := by
  have h4 : (len : Int) - 4 < 0 := by omega
  go_enter Try.func20, Try.ntmps20
  go_wp2
  go_ret2
  exact ⟨rfl, rfl⟩
theorem bne_of_ne {x c : Int} (h : x ≠ c) : (x != c) = true := by simpa using h
theorem bne_of_eq {x c : Int} (h : x = c) : (x != c) = false := by simpa using h
set_option maxHeartbeats 1000000 in
/-- ladingref02.Open -/
theorem refOpen_any (b off len cap : Nat) (l : List Nat) (w : World) (h : IsB w (some ⟨b, off, none⟩) len cap l) (hr : len ≤ 140737488355328) (hl4 : 4 ≤ len) :
    Calls Try.prog 20 #[.slice (some ⟨b, off, none⟩) len cap] w fun e w' =>
      ((l.drop (len - 4) = le (Crc.update 0 (l.take (len - 4))) ∧ ∃ v, e = .returned (.tuple #[v, .int .i64 0]) ∧ w'.ownsRow w.heap.size 5 1 v (len - 4) (bv (l.take (len - 4)))) ∨
       (l.drop (len - 4) ≠ le (Crc.update 0 (l.take (len - 4))) ∧ e = .returned (.tuple #[.slice none 0 0, .int .i64 6]))) ∧ Below w.heap.size w w' := by
  have hcl : len ≤ cap := h.2.1
  have hcm : cap ≤ 9223372036854775807 := h.2.2.1
  obtain ⟨n, rfl⟩ : ∃ n, len = n + 4 := ⟨len - 4, by omega⟩
  have e0 : n + 4 - 4 = n := by omega
  rw [e0]
  clear e0
  have hfr := h.front n (by omega)
  obtain ⟨b', off', hbe, hlt, hcell⟩ := h.2.2.2.2.resolve_left (by omega)
  cases hbe
  have HE := end_eq l n (Crc.update 0 (l.take n)) h.1
  have q0 : w.cell? ⟨b, off + n, none⟩ = some (.int .u8 (l.getD (n + 0) 0 : Nat)) := hcell n (by omega)
  have q1 : w.cell? ⟨b, off + (n + 1), none⟩ = some (.int .u8 (l.getD (n + 1) 0 : Nat)) := hcell (n + 1) (by omega)
  have q2 : w.cell? ⟨b, off + (n + 2), none⟩ = some (.int .u8 (l.getD (n + 2) 0 : Nat)) := hcell (n + 2) (by omega)
  have q3 : w.cell? ⟨b, off + (n + 3), none⟩ = some (.int .u8 (l.getD (n + 3) 0 : Nat)) := hcell (n + 3) (by omega)
  have hof := hide (refOf_any _ n cap (l.take n) w hfr)
  obtain ⟨i0, hi, hz0, hz1, hz2⟩ := info_parts Try.info5
  clear h hcell
  generalize hcu : Crc.update 0 (l.take n) = c at *
  have Hcu := hide hcu
  clear hcu
  by_cases g0 : l.getD (n + 0) 0 = c % 256
  case neg =>
    have HN : Hid (¬ (l.drop n = le c)) := hide (fun h0 => g0 (by simpa using HE.1 h0 0 (by omega)))
    have t0 : (((l.getD (n + 0) 0 : Nat) : Int) != (c : Int) % 256) = true := bne_of_ne (by omega)
    clear HE g0
    generalize l.getD (n + 0) 0 = x0 at *
    generalize l.getD (n + 1) 0 = x1 at *
    generalize l.getD (n + 2) 0 = x2 at *
    generalize l.getD (n + 3) 0 = x3 at *
    go_enter Try.func20, Try.ntmps20
    go_wp2_with fail
    refine (hof.out).mono ?_
    rintro e w' ⟨rfl, rfl⟩
    go_wp2
    go_ret2
    exact ⟨.inr ⟨HN.out, rfl⟩, Below.refl _ _⟩
  by_cases g1 : l.getD (n + 1) 0 = c / 256 % 256
  case neg =>
    have HN : Hid (¬ (l.drop n = le c)) := hide (fun h0 => g1 (by simpa using HE.1 h0 1 (by omega)))
    have t0 : (((l.getD (n + 0) 0 : Nat) : Int) != (c : Int) % 256) = false := bne_of_eq (by omega)
    have t1 : (((l.getD (n + 1) 0 : Nat) : Int) != (c : Int) / 256 % 256) = true := bne_of_ne (by omega)
    clear HE g0 g1
    generalize l.getD (n + 0) 0 = x0 at *
    generalize l.getD (n + 1) 0 = x1 at *
    generalize l.getD (n + 2) 0 = x2 at *
    generalize l.getD (n + 3) 0 = x3 at *
    go_enter Try.func20, Try.ntmps20
    go_wp2_with fail
    refine (hof.out).mono ?_
    rintro e w' ⟨rfl, rfl⟩
    go_wp2
    go_ret2
    exact ⟨.inr ⟨HN.out, rfl⟩, Below.refl _ _⟩
  by_cases g2 : l.getD (n + 2) 0 = c / 65536 % 256
  case neg =>
    have HN : Hid (¬ (l.drop n = le c)) := hide (fun h0 => g2 (by simpa using HE.1 h0 2 (by omega)))
    have t0 : (((l.getD (n + 0) 0 : Nat) : Int) != (c : Int) % 256) = false := bne_of_eq (by omega)
    have t1 : (((l.getD (n + 1) 0 : Nat) : Int) != (c : Int) / 256 % 256) = false := bne_of_eq (by omega)
    have t2 : (((l.getD (n + 2) 0 : Nat) : Int) != (c : Int) / 65536 % 256) = true := bne_of_ne (by omega)
    clear HE g0 g1 g2
    generalize l.getD (n + 0) 0 = x0 at *
    generalize l.getD (n + 1) 0 = x1 at *
    generalize l.getD (n + 2) 0 = x2 at *
    generalize l.getD (n + 3) 0 = x3 at *
    go_enter Try.func20, Try.ntmps20
    go_wp2_with fail
    refine (hof.out).mono ?_
    rintro e w' ⟨rfl, rfl⟩
    go_wp2
    go_ret2
    exact ⟨.inr ⟨HN.out, rfl⟩, Below.refl _ _⟩
  by_cases g3 : l.getD (n + 3) 0 = c / 16777216 % 256
  case neg =>
    have HN : Hid (¬ (l.drop n = le c)) := hide (fun h0 => g3 (by simpa using HE.1 h0 3 (by omega)))
    have t0 : (((l.getD (n + 0) 0 : Nat) : Int) != (c : Int) % 256) = false := bne_of_eq (by omega)
    have t1 : (((l.getD (n + 1) 0 : Nat) : Int) != (c : Int) / 256 % 256) = false := bne_of_eq (by omega)
    have t2 : (((l.getD (n + 2) 0 : Nat) : Int) != (c : Int) / 65536 % 256) = false := bne_of_eq (by omega)
    have t3 : (((l.getD (n + 3) 0 : Nat) : Int) != (c : Int) / 16777216 % 256) = true := bne_of_ne (by omega)
    clear HE g0 g1 g2 g3
    generalize l.getD (n + 0) 0 = x0 at *
    generalize l.getD (n + 1) 0 = x1 at *
    generalize l.getD (n + 2) 0 = x2 at *
    generalize l.getD (n + 3) 0 = x3 at *
    go_enter Try.func20, Try.ntmps20
    go_wp2_with fail
    refine (hof.out).mono ?_
    rintro e w' ⟨rfl, rfl⟩
    go_wp2
    go_ret2
    exact ⟨.inr ⟨HN.out, rfl⟩, Below.refl _ _⟩
  have HY : Hid (l.drop n = le c) := hide (HE.2 (fun j hj => by
    match j, hj with
    | 0, _ => simpa using g0
    | 1, _ => simpa using g1
    | 2, _ => simpa using g2
    | 3, _ => simpa using g3))
  have t0 : (((l.getD (n + 0) 0 : Nat) : Int) != (c : Int) % 256) = false := bne_of_eq (by omega)
  have t1 : (((l.getD (n + 1) 0 : Nat) : Int) != (c : Int) / 256 % 256) = false := bne_of_eq (by omega)
  have t2 : (((l.getD (n + 2) 0 : Nat) : Int) != (c : Int) / 65536 % 256) = false := bne_of_eq (by omega)
  have t3 : (((l.getD (n + 3) 0 : Nat) : Int) != (c : Int) / 16777216 % 256) = false := bne_of_eq (by omega)
  clear HE g0 g1 g2 g3
  generalize l.getD (n + 0) 0 = x0 at *
  generalize l.getD (n + 1) 0 = x1 at *
  generalize l.getD (n + 2) 0 = x2 at *
  generalize l.getD (n + 3) 0 = x3 at *
  have hn : Hid ((l.take n).length = n) := hfr.1
  go_enter Try.func20, Try.ntmps20
  go_wp2_with fail
  refine (hof.out).mono ?_
  rintro e w' ⟨rfl, rfl⟩
  go_wp2_with (at_builtin; refine wpList_clone rfl (.tmp 55) (.tmp 58) rfl w'.heap.size _ 0 [] rfl (owns_empty w' _ (Nat.le_refl _)) (some ⟨b, off, none⟩) n cap (l.take n) rfl ?hB ?hb ?hbase w'.heap.size w' ?bel (Nat.le_refl _) ?_)
  case hB => exact hfr.below ((Below.refl _ _).alloc (Nat.le_refl _) _)
  case hb => omega
  case hbase => simp
  case bel => exact (Below.refl _ _).alloc (Nat.le_refl _) _
  intro v w1 hown hb1
  have hown' : w1.ownsRow w'.heap.size 5 1 v n (bv (l.take n)) := by simpa using hown
  clear hown
  go_wp2
  go_ret2
  exact ⟨.inl ⟨HY.out, _, rfl, hown'⟩, hb1⟩
end Go.Proofs.Ytmfdcbbeieelfaa
