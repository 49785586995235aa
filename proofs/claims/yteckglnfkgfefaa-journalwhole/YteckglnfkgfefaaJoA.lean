/- the batches found from a number on (pure) -/
import Derived.Test.YteckglnfkgfefaaJnO
namespace Go.Proofs.Yteckglnfkgfefaa
open Go.RowKit Cod
set_option maxRecDepth 40000
/-- how many sectors its batch has, as a sector says -/
def cntL (b : List Nat) : Nat := lowN ((b.drop 24).take 4)
theorem cntL_rsecL (l : List Nat) (s i n : Nat) (hn : n < 4294967296) : cntL (rsecL l s i n) = n := by
  have e : rsecL l s i n = (markL ++ leB (Crc.update 0 (markL ++ [0, 0, 0, 0] ++ secB l s i n)) 4 ++ leB (s + i) 8 ++ leB s 8) ++ (leB n 4 ++ (leB l.length 4 ++ (l ++ List.replicate (4064 - l.length) 0))) := by
    rw [rsecL]
    generalize Crc.update 0 (markL ++ [0, 0, 0, 0] ++ secB l s i n) = c
    simp only [secB, List.append_assoc]
  have h24 : (markL ++ leB (Crc.update 0 (markL ++ [0, 0, 0, 0] ++ secB l s i n)) 4 ++ leB (s + i) 8 ++ leB s 8).length = 24 := by simp [leB_length, markL]
  rw [cntL, e, List.drop_left' h24, List.take_left' (leB_length ..), lowN_leB]
  exact Nat.mod_eq_of_lt (by omega)
theorem cnt_fr {rs : List ByteArray} {s : Nat} (h : pcN (batL rs).length < 4294967296) : cntL ((frL rs s).getD 0 []) = (frL rs s).length := by
  have h0 : 0 < pcN (batL rs).length := by have := batL_pos rs; unfold pcN; omega
  rw [frL_get h0, secL_eq _ (pcAt_len h0).2.1, cntL_rsecL _ _ _ _ h, frL_length]
theorem rsecL_first (l : List Nat) (s i n : Nat) : (rsecL l s i n).getD 0 0 = 76 := by
  rw [rsecL]
  generalize Crc.update 0 (markL ++ [0, 0, 0, 0] ++ secB l s i n) = c
  rfl
theorem fr_pos (rs : List ByteArray) (s : Nat) : 1 ≤ (frL rs s).length := by
  have := batL_pos rs
  rw [frL_length]
  unfold pcN
  omega
theorem fr_first (rs : List ByteArray) (s : Nat) : ((frL rs s).getD 0 []).getD 0 0 = 76 := by
  have h0 : 0 < pcN (batL rs).length := by have := fr_pos rs s; rw [frL_length] at this; omega
  rw [frL_get h0, secL_eq _ (pcAt_len h0).2.1, rsecL_first]
/-- the n sectors from s on -/
def rds (rd : Nat → List Nat) (s n : Nat) : List (List Nat) := (List.range n).map (fun i => rd (s + i))
theorem rds_length (rd : Nat → List Nat) (s n : Nat) : (rds rd s n).length = n := by simp [rds]
theorem rds_get {rd : Nat → List Nat} {s n i : Nat} (h : i < n) : (rds rd s n).getD i [] = rd (s + i) := by simp [rds, List.getD_eq_getElem?_getD, h]
theorem rds_succ (rd : Nat → List Nat) (s n : Nat) : rds rd s (n + 1) = rds rd s n ++ [rd (s + n)] := by simp [rds, List.range_succ]
theorem rds_congr {rd rd' : Nat → List Nat} {s n : Nat} (h : ∀ i, i < n → rd (s + i) = rd' (s + i)) : rds rd s n = rds rd' s n := by
  unfold rds
  apply List.map_congr_left
  intro i hi
  exact h i (List.mem_range.1 hi)
/-- they are those of a batch, and not above m -/
def Bat (rd : Nat → List Nat) (s m : Nat) (rs : List ByteArray) (n : Nat) : Prop := okB rs ∧ frL rs s = rds rd s n ∧ 1 ≤ n ∧ n ≤ m
theorem Bat.len {rd : Nat → List Nat} {s m n : Nat} {rs : List ByteArray} (h : Bat rd s m rs n) : (frL rs s).length = n := by rw [h.2.1, rds_length]
theorem Bat.cnt {rd : Nat → List Nat} {s m n : Nat} {rs : List ByteArray} (h : Bat rd s m rs n) (hm : m ≤ 1048576) : cntL (rd s) = n := by
  have h1 := h.len
  have h2 := h.2.2
  have h3 := cnt_fr (rs := rs) (s := s) (by rw [← frL_length rs s, h1]; omega)
  rw [h1, h.2.1, rds_get (by omega)] at h3
  simpa using h3
theorem Bat.first {rd : Nat → List Nat} {s m n : Nat} {rs : List ByteArray} (h : Bat rd s m rs n) : (rd s).getD 0 0 = 76 := by
  have h1 := fr_first rs s
  rw [h.2.1, rds_get (by have := h.2.2.1; omega)] at h1
  simpa using h1
theorem Bat.det {rd : Nat → List Nat} {s m m' n k : Nat} {rs qs : List ByteArray} (h : Bat rd s m rs n) (g : Bat rd s m' qs k) (hm : m ≤ 1048576) (hm' : m' ≤ 1048576) : rs = qs ∧ n = k := by
  have e : n = k := (h.cnt hm).symm.trans (g.cnt hm')
  subst e
  exact ⟨frL_inj h.1 g.1 (h.2.1.trans g.2.1.symm), rfl⟩
theorem Bat.congr {rd rd' : Nat → List Nat} {s m n : Nat} {rs : List ByteArray} (h : Bat rd s m rs n) (e : ∀ i, i < m → rd (s + i) = rd' (s + i)) : Bat rd' s m rs n :=
  ⟨h.1, by rw [h.2.1]; exact rds_congr (fun i hi => e i (by have := h.2.2.2; omega)), h.2.2⟩
/-- from s on, below e, there are the batches l, one behind the other, and none at t -/
def Run (rd : Nat → List Nat) (e : Nat) : Nat → List (List ByteArray) → Nat → Prop
  | s, [], t => t = s ∧ ∀ rs n, ¬ Bat rd s (e - s) rs n
  | s, rs :: l, t => ∃ n, Bat rd s (e - s) rs n ∧ Run rd e (s + n) l t
theorem run_le {rd : Nat → List Nat} {e : Nat} : ∀ (l : List (List ByteArray)) (s t : Nat), s ≤ e → Run rd e s l t → s + l.length ≤ t ∧ t ≤ e := by
  intro l
  induction l with
  | nil => rintro s t hs ⟨rfl, _⟩; exact ⟨by simp, hs⟩
  | cons r l ih =>
    rintro s t hs ⟨n, hb, hr⟩
    have h1 := hb.2.2
    have h2 := ih (s + n) t (by omega) hr
    simp only [List.length_cons]
    omega
theorem run_congr {rd rd' : Nat → List Nat} {e : Nat} : ∀ (l : List (List ByteArray)) (s t : Nat), (∀ x, s ≤ x → x < e → rd x = rd' x) → Run rd e s l t → Run rd' e s l t := by
  intro l
  induction l with
  | nil =>
    rintro s t he ⟨rfl, h⟩
    exact ⟨rfl, fun rs n hb => h rs n (hb.congr (fun i hi => (he (t + i) (by omega) (by omega)).symm))⟩
  | cons r l ih =>
    rintro s t he ⟨n, hb, hr⟩
    exact ⟨n, hb.congr (fun i hi => he (s + i) (by omega) (by omega)), ih (s + n) t (fun x h1 h2 => he x (by omega) h2) hr⟩
theorem run_none {rd : Nat → List Nat} {e s t : Nat} {l : List (List ByteArray)} (h : Run rd e s l t) (hn : ∀ rs n, ¬ Bat rd s (e - s) rs n) : l = [] ∧ t = s := by
  cases l with
  | nil => exact ⟨rfl, h.1⟩
  | cons r l => obtain ⟨n, hb, _⟩ := h; exact absurd hb (hn r n)
theorem run_some {rd : Nat → List Nat} {e s t n : Nat} {l : List (List ByteArray)} {rs : List ByteArray} (h : Run rd e s l t) (he : e - s ≤ 1048576) (hb : Bat rd s (e - s) rs n) : ∃ l', l = rs :: l' ∧ Run rd e (s + n) l' t := by
  cases l with
  | nil => exact absurd hb (h.2 rs n)
  | cons r l =>
    obtain ⟨k, hb', hr⟩ := h
    obtain ⟨rfl, rfl⟩ := hb.det hb' he he
    exact ⟨l, rfl, hr⟩
end Go.Proofs.Yteckglnfkgfefaa
