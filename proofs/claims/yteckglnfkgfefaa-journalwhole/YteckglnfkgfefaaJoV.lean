/- JoV JoR -/
import Derived.Test.YteckglnfkgfefaaJoD
/- a journal on a disk whose power stays on: what is found, and what isn't (pure) -/
namespace Go.Proofs.Yteckglnfkgfefaa
open Go.RowKit Cod
set_option maxRecDepth 40000
/-- a sector's own number -/
def numL (b : List Nat) : Nat := lowN ((b.drop 8).take 8)
theorem numL_rsecL (l : List Nat) (s i n : Nat) (h : s + i < 18446744073709551616) : numL (rsecL l s i n) = s + i := by
  have e : rsecL l s i n = (markL ++ leB (Crc.update 0 (markL ++ [0, 0, 0, 0] ++ secB l s i n)) 4) ++ (leB (s + i) 8 ++ (leB s 8 ++ (leB n 4 ++ (leB l.length 4 ++ (l ++ List.replicate (4064 - l.length) 0))))) := by
    rw [rsecL]
    generalize Crc.update 0 (markL ++ [0, 0, 0, 0] ++ secB l s i n) = c
    simp only [secB, List.append_assoc]
  have h8 : (markL ++ leB (Crc.update 0 (markL ++ [0, 0, 0, 0] ++ secB l s i n)) 4).length = 8 := by simp [leB_length, markL]
  rw [numL, e, List.drop_left' h8, List.take_left' (leB_length ..), lowN_leB]
  exact Nat.mod_eq_of_lt (by omega)
theorem fr_num {rs : List ByteArray} {s i : Nat} (hi : i < (frL rs s).length) (h : s + i < 18446744073709551616) : numL ((frL rs s).getD i []) = s + i := by
  rw [frL_length] at hi
  rw [frL_get hi, secL_eq _ (pcAt_len hi).2.1, numL_rsecL _ _ _ _ h]
theorem Bat.num {rd : Nat → List Nat} {s m n : Nat} {rs : List ByteArray} (h : Bat rd s m rs n) (hs : s < 18446744073709551616) : numL (rd s) = s := by
  have h1 := fr_num (rs := rs) (s := s) (i := 0) (by have := fr_pos rs s; omega) (by omega)
  rw [h.2.1, rds_get (by have := h.2.2.1; omega)] at h1
  simpa using h1
/-- no batch begins at s -/
def Stale (rd : Nat → List Nat) (s : Nat) : Prop := ¬ ((rd s).getD 0 0 = 76 ∧ numL (rd s) = s)
theorem Stale.no {rd : Nat → List Nat} {s : Nat} (h : Stale rd s) (hs : s < 18446744073709551616) (m : Nat) : ∀ rs n, ¬ Bat rd s m rs n := fun _ _ hb => h ⟨hb.first, hb.num hs⟩
theorem run_widen {rd : Nat → List Nat} {t e : Nat} : ∀ (l : List (List ByteArray)) (s : Nat), Run rd t s l t → t ≤ e → (∀ rs n, ¬ Bat rd t (e - t) rs n) → Run rd e s l t := by
  intro l
  induction l with
  | nil =>
    rintro s ⟨rfl, _⟩ _ hn
    exact ⟨rfl, hn⟩
  | cons x l ih =>
    rintro s ⟨k, hk, h1⟩ hte hn
    exact ⟨k, ⟨hk.1, hk.2.1, hk.2.2.1, by have := hk.2.2.2; omega⟩, ih (s + k) h1 hte hn⟩
/-- a journal whose disk is up: its batches l, and none behind them -/
structure Lv (n : Nat) (j : Jn) (st : St) (l : List (List ByteArray)) : Prop where
  up : st.down = false
  arm : st.arm = false
  nf : j.failed = false
  c0 : 0 < j.count
  c1 : j.first + j.count ≤ n
  c2 : j.count ≤ 1024
  f0 : 1 ≤ j.frm
  f1 : j.frm ≤ j.nxt
  f2 : j.nxt ≤ j.frm + j.count
  run : Run (j.rd st) j.nxt j.frm l j.nxt
  stale : ∀ s, j.nxt ≤ s → s < j.nxt + j.count → Stale (j.rd st) s
theorem Lv.all {n : Nat} {j : Jn} {st : St} {l : List (List ByteArray)} (h : Lv n j st l) (hn : j.nxt ≤ 4611686018427390000) : Run (j.rd st) (j.frm + j.count) j.frm l j.nxt :=
  run_widen l j.frm h.run h.f2 ((h.stale j.nxt (Nat.le_refl _) (by have := h.c0; omega)).no (by omega) _)
theorem Lv.drop {n : Nat} {j : Jn} {st : St} {l : List (List ByteArray)} (h : Lv n j st l) : Lv n (j.drop j.nxt) st [] :=
  ⟨h.up, h.arm, h.nf, h.c0, h.c1, h.c2, by have := h.f0; have := h.f1; show 1 ≤ j.nxt; omega, Nat.le_refl _, by show j.nxt ≤ j.nxt + j.count; omega, ⟨rfl, fun rs n hb => by have := hb.2.2; simp only [Jn.drop] at this; omega⟩, h.stale⟩
theorem rd_again {j : Jn} {st : St} {s : Nat} (h : 1 ≤ s) : j.rd st (s + j.count) = j.rd st s := by
  unfold Jn.rd Jn.sec
  rw [show s + j.count - 1 = s - 1 + j.count by omega, Nat.add_mod_right]
theorem Lv.append {n : Nat} {j : Jn} {st : St} {l : List (List ByteArray)} {rs : List ByteArray} (h : Lv n j st l) (hok : okB rs) (hn : j.nxt ≤ 4611686018427387904) (hr : (frL rs j.nxt).length ≤ j.room) :
    ∃ st', Jn.append n rs j st = ({ j with nxt := j.nxt + (frL rs j.nxt).length }, st', 0) ∧ Lv n { j with nxt := j.nxt + (frL rs j.nxt).length } st' (l ++ [rs]) ∧ st'.wr = st.wr + (frL rs j.nxt).length := by
  have hf0 := h.f0
  have hf1 := h.f1
  have hf2 := h.f2
  have hc2 := h.c2
  have hst : startB j.nxt = true := decide_eq_true ⟨by omega, hn⟩
  obtain ⟨st', a1, a2, a3, a4, _, _, a7, a8, _⟩ := append_up h.up h.arm h.nf h.c1 h.c0 hok hst hr
  have hro : j.nxt + (frL rs j.nxt).length ≤ j.frm + j.count := by unfold Jn.room at hr; omega
  have hp := fr_pos rs j.nxt
  obtain ⟨L, hL⟩ : ∃ L, L = (frL rs j.nxt).length := ⟨_, rfl⟩
  rw [← hL] at a1 a4 a8 hro hp hr
  refine ⟨st', by rw [← hL]; exact a1, ?_, by rw [← hL]; exact a4⟩
  rw [← hL]
  refine ⟨a2, a3, h.nf, h.c0, h.c1, h.c2, hf0, by show j.frm ≤ j.nxt + L; omega, hro, ?_, ?_⟩
  · show Run (j.rd st') (j.nxt + L) j.frm (l ++ [rs]) (j.nxt + L)
    have hrun : Run (j.rd st') j.nxt j.frm l j.nxt := run_congr l j.frm j.nxt (fun x hx1 hx2 => (a8 x (by omega) (by omega) (by omega) (by omega)).symm) h.run
    have hb := bat_of (rd := j.rd st') (rs := rs) (s := j.nxt) (m := j.nxt + L - j.nxt) hok (fun i hi => a7 i hi) (by omega)
    rw [← hL] at hb
    exact run_snoc l j.frm j.nxt (j.nxt + L) ⟨_, hrun, rfl⟩ hb ⟨rfl, fun rs n hb => by have := hb.2.2; omega⟩ (Nat.le_add_right _ _)
  · intro s hs1 hs2
    simp only at hs1 hs2
    show Stale (j.rd st') s
    by_cases hlt : s < j.nxt + j.count
    · have e := a8 s (by omega) (by omega) hlt (by omega)
      have := h.stale s (by omega) hlt
      unfold Stale at this ⊢
      rw [e]
      exact this
    · obtain ⟨z, rfl⟩ : ∃ z, s = z + j.count := ⟨s - j.count, by omega⟩
      have hz : z - j.nxt < (frL rs j.nxt).length := by rw [← hL]; omega
      have e1 := a7 (z - j.nxt) hz
      rw [show j.nxt + (z - j.nxt) = z by omega] at e1
      have e2 := fr_num (rs := rs) (s := j.nxt) hz (by omega)
      unfold Stale
      rw [rd_again (by omega), e1, e2]
      rintro ⟨_, h2⟩
      have := h.c0
      omega
theorem Lv.new {n count : Nat} (h0 : 0 < count) (h1 : count ≤ n) (h2 : count ≤ 1024) : Lv n ⟨0, count, 1, 1, false⟩ st0 [] := by
  refine ⟨rfl, rfl, rfl, h0, by show 0 + count ≤ n; omega, h2, Nat.le_refl _, Nat.le_refl _, by show 1 ≤ 1 + count; omega, ⟨rfl, fun rs n hb => by have := hb.2.2; dsimp only at this; omega⟩, fun s _ _ => ?_⟩
  rintro ⟨h, _⟩
  have : (⟨0, count, 1, 1, false⟩ : Jn).rd st0 s = full [] := rfl
  rw [this] at h
  exact absurd h (by decide)
/-- Append of any batch, the power on -/
theorem Lv.tries {n : Nat} {j : Jn} {st : St} {l : List (List ByteArray)} {rs : List ByteArray} (h : Lv n j st l) (hn : j.nxt ≤ 4611686018427387904) :
    (okB rs ∧ (frL rs 1).length ≤ j.room ∧ ∃ st', Jn.append n rs j st = ({ j with nxt := j.nxt + (frL rs 1).length }, st', 0) ∧ Lv n { j with nxt := j.nxt + (frL rs 1).length } st' (l ++ [rs]) ∧ st'.wr = st.wr + (frL rs 1).length) ∨
    (¬ (okB rs ∧ (frL rs 1).length ≤ j.room) ∧ ∃ e : Int, e ≠ 0 ∧ Jn.append n rs j st = (j, st, e)) := by
  have hl : (frL rs 1).length = (frL rs j.nxt).length := by rw [frL_length, frL_length]
  have hst : startB j.nxt = true := decide_eq_true ⟨by have := h.f0; have := h.f1; omega, hn⟩
  by_cases hok : okB rs
  · by_cases hr : (frL rs 1).length ≤ j.room
    · left
      rw [hl] at hr ⊢
      exact ⟨hok, hr, h.append hok hn hr⟩
    · right
      refine ⟨fun e => hr e.2, 7, by decide, ?_⟩
      unfold Jn.append
      rw [if_neg (by simp [h.nf]), if_neg (fun e => e (frE_of hok hst)), if_pos (by omega)]
  · right
    have hE : frE rs j.nxt ≠ 0 := fun e => hok (frE_ok e).1
    refine ⟨fun e => hok e.1, frE rs j.nxt, hE, ?_⟩
    unfold Jn.append
    rw [if_neg (by simp [h.nf]), if_pos hE]
end Go.Proofs.Yteckglnfkgfefaa
/- sectors that differ by one byte are not both a batch's (pure) -/
namespace Go.Proofs.Yteckglnfkgfefaa
open Go.RowKit Cod
set_option maxRecDepth 40000
/-- a sector of what lies behind its checksum -/
def sealS (b : List Nat) : List Nat := markL ++ leB (Crc.update 0 (markL ++ [0, 0, 0, 0] ++ b)) 4 ++ b
theorem rsecL_seal (l : List Nat) (s i n : Nat) : rsecL l s i n = sealS (secB l s i n) := rfl
theorem seal_drop (b : List Nat) : (sealS b).drop 8 = b := by
  unfold sealS
  rw [List.drop_left' (by simp [markL, leB_length])]
theorem seal_mid (b : List Nat) : ((sealS b).drop 4).take 4 = leB (Crc.update 0 (markL ++ [0, 0, 0, 0] ++ b)) 4 := by
  unfold sealS
  generalize Crc.update 0 (markL ++ [0, 0, 0, 0] ++ b) = c
  rw [List.append_assoc, List.drop_left' (show markL.length = 4 from rfl), List.take_left' (leB_length ..)]
theorem seal_head (b : List Nat) : (sealS b).take 4 = markL := by
  unfold sealS
  generalize Crc.update 0 (markL ++ [0, 0, 0, 0] ++ b) = c
  rw [List.append_assoc, List.take_left' (show markL.length = 4 from rfl)]
end Go.Proofs.Yteckglnfkgfefaa
