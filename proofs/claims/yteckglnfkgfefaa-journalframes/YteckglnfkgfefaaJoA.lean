/- JoA JoD -/
import Derived.Test.YteckglnfkgfefaaJnP
import Derived.Test.YteckglnfkgfefaaCrD
/- the batches found from a number on (pure) -/
namespace Go.Proofs.Yteckglnfkgfefaa
open Go.RowKit Cod
set_option maxRecDepth 40000
/-- how many sectors its batch has, as a sector says -/
def cntL (b : List Nat) : Nat := lowN ((b.drop 24).take 4)
theorem cntL_rsecL (l : List Nat) (s i n : Nat) (hn : n < 4294967296) : cntL (rsecL l s i n) = n := by
  have e : rsecL l s i n = (markL ++ leB (Crc.update 0 (markL ++ [0, 0, 0, 0] ++ secB l s i n)) 4 ++ leB (s + i) 8 ++ leB s 8) ++ (leB n 4 ++ (leB l.length 4 ++ (l ++ List.replicate (4064 - l.length) 0))) := by
    rw [rsecL]
    generalize Crc.update 0 (markL ++ [0, 0, 0, 0] ++ secB l s i n) = c
    simp only [secB, List.append_assoc]
  have h24 : (markL ++ leB (Crc.update 0 (markL ++ [0, 0, 0, 0] ++ secB l s i n)) 4 ++ leB (s + i) 8 ++ leB s 8).length = 24 := by simp [leB_length, markL]
  rw [cntL, e, List.drop_left' h24, List.take_left' (leB_length ..), lowN_leB]
  exact Nat.mod_eq_of_lt (by omega)
theorem cnt_fr {rs : List ByteArray} {s : Nat} (h : pcN (batL rs).length < 4294967296) : cntL ((frL rs s).getD 0 []) = (frL rs s).length := by
  have h0 : 0 < pcN (batL rs).length := by have := batL_pos rs; unfold pcN; omega
  rw [frL_get h0, secL_eq _ (pcAt_len h0).2.1, cntL_rsecL _ _ _ _ h, frL_length]
theorem rsecL_first (l : List Nat) (s i n : Nat) : (rsecL l s i n).getD 0 0 = 76 := by
  rw [rsecL]
  generalize Crc.update 0 (markL ++ [0, 0, 0, 0] ++ secB l s i n) = c
  rfl
theorem fr_pos (rs : List ByteArray) (s : Nat) : 1 ≤ (frL rs s).length := by
  have := batL_pos rs
  rw [frL_length]
  unfold pcN
  omega
theorem fr_first (rs : List ByteArray) (s : Nat) : ((frL rs s).getD 0 []).getD 0 0 = 76 := by
  have h0 : 0 < pcN (batL rs).length := by have := fr_pos rs s; rw [frL_length] at this; omega
  rw [frL_get h0, secL_eq _ (pcAt_len h0).2.1, rsecL_first]
/-- the n sectors from s on -/
def rds (rd : Nat → List Nat) (s n : Nat) : List (List Nat) := (List.range n).map (fun i => rd (s + i))
theorem rds_length (rd : Nat → List Nat) (s n : Nat) : (rds rd s n).length = n := by simp [rds]
theorem rds_get {rd : Nat → List Nat} {s n i : Nat} (h : i < n) : (rds rd s n).getD i [] = rd (s + i) := by simp [rds, List.getD_eq_getElem?_getD, h]
theorem rds_succ (rd : Nat → List Nat) (s n : Nat) : rds rd s (n + 1) = rds rd s n ++ [rd (s + n)] := by simp [rds, List.range_succ]
theorem rds_congr {rd rd' : Nat → List Nat} {s n : Nat} (h : ∀ i, i < n → rd (s + i) = rd' (s + i)) : rds rd s n = rds rd' s n := by
  unfold rds
  apply List.map_congr_left
  intro i hi
  exact h i (List.mem_range.1 hi)
/-- they are those of a batch, and not above m -/
def Bat (rd : Nat → List Nat) (s m : Nat) (rs : List ByteArray) (n : Nat) : Prop := okB rs ∧ frL rs s = rds rd s n ∧ 1 ≤ n ∧ n ≤ m
theorem Bat.len {rd : Nat → List Nat} {s m n : Nat} {rs : List ByteArray} (h : Bat rd s m rs n) : (frL rs s).length = n := by rw [h.2.1, rds_length]
theorem Bat.cnt {rd : Nat → List Nat} {s m n : Nat} {rs : List ByteArray} (h : Bat rd s m rs n) (hm : m ≤ 1048576) : cntL (rd s) = n := by
  have h1 := h.len
  have h2 := h.2.2
  have h3 := cnt_fr (rs := rs) (s := s) (by rw [← frL_length rs s, h1]; omega)
  rw [h1, h.2.1, rds_get (by omega)] at h3
  simpa using h3
theorem Bat.first {rd : Nat → List Nat} {s m n : Nat} {rs : List ByteArray} (h : Bat rd s m rs n) : (rd s).getD 0 0 = 76 := by
  have h1 := fr_first rs s
  rw [h.2.1, rds_get (by have := h.2.2.1; omega)] at h1
  simpa using h1
theorem Bat.det {rd : Nat → List Nat} {s m m' n k : Nat} {rs qs : List ByteArray} (h : Bat rd s m rs n) (g : Bat rd s m' qs k) (hm : m ≤ 1048576) (hm' : m' ≤ 1048576) : rs = qs ∧ n = k := by
  have e : n = k := (h.cnt hm).symm.trans (g.cnt hm')
  subst e
  exact ⟨frL_inj h.1 g.1 (h.2.1.trans g.2.1.symm), rfl⟩
theorem Bat.congr {rd rd' : Nat → List Nat} {s m n : Nat} {rs : List ByteArray} (h : Bat rd s m rs n) (e : ∀ i, i < m → rd (s + i) = rd' (s + i)) : Bat rd' s m rs n :=
  ⟨h.1, by rw [h.2.1]; exact rds_congr (fun i hi => e i (by have := h.2.2.2; omega)), h.2.2⟩
/-- from s on, below e, there are the batches l, one behind the other, and none at t -/
def Run (rd : Nat → List Nat) (e : Nat) : Nat → List (List ByteArray) → Nat → Prop
  | s, [], t => t = s ∧ ∀ rs n, ¬ Bat rd s (e - s) rs n
  | s, rs :: l, t => ∃ n, Bat rd s (e - s) rs n ∧ Run rd e (s + n) l t
theorem run_le {rd : Nat → List Nat} {e : Nat} : ∀ (l : List (List ByteArray)) (s t : Nat), s ≤ e → Run rd e s l t → s + l.length ≤ t ∧ t ≤ e := by
  intro l
  induction l with
  | nil => rintro s t hs ⟨rfl, _⟩; exact ⟨by simp, hs⟩
  | cons r l ih =>
    rintro s t hs ⟨n, hb, hr⟩
    have h1 := hb.2.2
    have h2 := ih (s + n) t (by omega) hr
    simp only [List.length_cons]
    omega
theorem run_none {rd : Nat → List Nat} {e s t : Nat} {l : List (List ByteArray)} (h : Run rd e s l t) (hn : ∀ rs n, ¬ Bat rd s (e - s) rs n) : l = [] ∧ t = s := by
  cases l with
  | nil => exact ⟨rfl, h.1⟩
  | cons r l => obtain ⟨n, hb, _⟩ := h; exact absurd hb (hn r n)
theorem run_some {rd : Nat → List Nat} {e s t n : Nat} {l : List (List ByteArray)} {rs : List ByteArray} (h : Run rd e s l t) (he : e - s ≤ 1048576) (hb : Bat rd s (e - s) rs n) : ∃ l', l = rs :: l' ∧ Run rd e (s + n) l' t := by
  cases l with
  | nil => exact absurd hb (h.2 rs n)
  | cons r l =>
    obtain ⟨k, hb', hr⟩ := h
    obtain ⟨rfl, rfl⟩ := hb.det hb' he he
    exact ⟨l, rfl, hr⟩
end Go.Proofs.Yteckglnfkgfefaa
/- a journal's write as what it makes of the disk (pure) -/
namespace Go.Proofs.Yteckglnfkgfefaa
open Go.RowKit Cod
set_option maxRecDepth 40000
/-- sectors are written, one behind the other, and synced -/
def St.wrs (n : Nat) (sec : Nat → Nat) : Nat → List (List Nat) → St → St × Int
  | _, [], st => st.sync
  | s, b :: bs, st => if (st.write n (sec s : Nat) b).2 = 0 then St.wrs n sec (s + 1) bs (st.write n (sec s : Nat) b).1 else st.write n (sec s : Nat) b
theorem write_up {st : St} {n i : Nat} {l : List Nat} (hd : st.down = false) (ha : st.arm = false) (hi : i < n) (hl : l.length ≤ 4096) : st.write n (i : Nat) l = (st.puts i l, 0) := by
  unfold St.write St.goes
  rw [if_neg (by simp [hd]), if_neg (by omega), if_neg (by omega), if_neg (by simp [ha]), if_neg (by simp [ha]), Int.toNat_natCast]
theorem sync_up {st : St} (hd : st.down = false) : st.sync = (st.syncs, 0) := by
  unfold St.sync
  rw [if_neg (by simp [hd])]
theorem reads_puts (st : St) (i : Nat) (l : List Nat) (k : Nat) : (st.puts i l).reads k = if k = i then l else st.reads k := by
  unfold St.reads St.puts
  by_cases h : k = i
  · simp [h]
  · simp [h]
/-- where the power stays on -/
theorem wrs_up (n : Nat) (sec : Nat → Nat) : ∀ (bs : List (List Nat)) (s : Nat) (st : St), st.down = false → st.arm = false → (∀ i, i < bs.length → sec (s + i) < n) → (∀ b ∈ bs, b.length ≤ 4096) → (∀ i k, i < k → k < bs.length → sec (s + i) ≠ sec (s + k)) →
    ∃ st', St.wrs n sec s bs st = (st', 0) ∧ st'.down = false ∧ st'.arm = false ∧ (∀ i, i < bs.length → st'.reads (sec (s + i)) = bs.getD i []) ∧ (∀ k, (∀ i, i < bs.length → k ≠ sec (s + i)) → st'.reads k = st.reads k) ∧ (∀ k, st'.fr k = none) ∧ st'.wr = st.wr + bs.length ∧ st'.left = st.left := by
  intro bs
  induction bs with
  | nil =>
    intro s st hd ha _ _ _
    exact ⟨st.syncs, sync_up hd, hd, ha, fun i hi => by simp at hi, fun k _ => rfl, fun k => rfl, rfl, rfl⟩
  | cons b bs ih =>
    intro s st hd ha hn hl hne
    have h0 := write_up hd ha (by simpa using hn 0 (by simp)) (hl b (List.mem_cons_self ..))
    have e1 : ∀ i, s + 1 + i = s + (i + 1) := fun i => by omega
    obtain ⟨st', g1, g2, g3, g4, g5, g6, g7, g8⟩ := ih (s + 1) (st.puts (sec s) b) hd ha (fun i hi => by rw [e1]; exact hn (i + 1) (by simpa using hi)) (fun x hx => hl x (List.mem_cons_of_mem _ hx)) (fun i k hi hk => by rw [e1, e1]; exact hne (i + 1) (k + 1) (by omega) (by simpa using hk))
    refine ⟨st', ?_, g2, g3, ?_, ?_, g6, ?_, g8⟩
    · rw [St.wrs, h0, if_pos rfl]
      exact g1
    · intro i hi
      cases i with
      | zero =>
        have := g5 (sec s) (fun i hi => by rw [e1]; have := hne 0 (i + 1) (by omega) (by simpa using hi); simpa using this)
        rw [reads_puts, if_pos rfl] at this
        simpa using this
      | succ i =>
        have := g4 i (by simpa using hi)
        rw [e1] at this
        simpa using this
    · intro k hk
      have := g5 k (fun i hi => by rw [e1]; exact hk (i + 1) (by simpa using hi))
      rw [this, reads_puts, if_neg (by simpa using hk 0 (by simp))]
    · rw [g7]
      simp only [St.puts, List.length_cons]
      omega
/-- an Errno that Frame answers -/
def frE (rs : List ByteArray) (s : Nat) : Int := if 4096 < rs.length then 3 else if ¬ (∀ r ∈ rs, r.size ≤ 4096) then 4 else if startB s = true then 0 else 2
theorem frE_ok {rs : List ByteArray} {s : Nat} (h : frE rs s = 0) : okB rs ∧ startB s = true := by
  unfold frE at h
  by_cases h1 : 4096 < rs.length
  · rw [if_pos h1] at h; cases h
  · rw [if_neg h1] at h
    by_cases h2 : ∀ r ∈ rs, r.size ≤ 4096
    · rw [if_neg (fun e => e h2)] at h
      by_cases h3 : startB s = true
      · exact ⟨⟨by omega, h2⟩, h3⟩
      · rw [if_neg h3] at h; cases h
    · rw [if_pos h2] at h; cases h
theorem frE_of {rs : List ByteArray} {s : Nat} (h : okB rs) (hs : startB s = true) : frE rs s = 0 := by
  unfold frE
  rw [if_neg (by have := h.1; omega), if_neg (fun e => e h.2), if_pos hs]
/-- Append, on the journal and its disk -/
def Jn.append (n : Nat) (rs : List ByteArray) (j : Jn) (st : St) : Jn × St × Int :=
  if j.failed = true then (j, st, 9) else if frE rs j.nxt ≠ 0 then (j, st, frE rs j.nxt) else if j.room < (frL rs j.nxt).length then (j, st, 7) else
  if (St.wrs n j.sec j.nxt (frL rs j.nxt) st).2 ≠ 0 then ({ j with failed := true }, (St.wrs n j.sec j.nxt (frL rs j.nxt) st).1, (St.wrs n j.sec j.nxt (frL rs j.nxt) st).2) else ({ j with nxt := j.nxt + (frL rs j.nxt).length }, (St.wrs n j.sec j.nxt (frL rs j.nxt) st).1, 0)
/-- what the number s reads as -/
def Jn.rd (j : Jn) (st : St) (s : Nat) : List Nat := full (st.reads (j.sec s))
theorem sec_ne {j : Jn} {s i k : Nat} (h1 : 1 ≤ s) (hik : i < k) (hk : k < j.count) : j.sec (s + i) ≠ j.sec (s + k) := by
  unfold Jn.sec
  intro e
  have e2 : (s + i - 1) % j.count = (s + k - 1) % j.count := by omega
  have h3 := Nat.mod_add_div (s + i - 1) j.count
  have h4 := Nat.mod_add_div (s + k - 1) j.count
  rw [e2] at h3
  have h5 : j.count * ((s + k - 1) / j.count) = j.count * ((s + i - 1) / j.count) + (k - i) := by omega
  have h6 : (k - i) % j.count = 0 := by
    have : (k - i) = j.count * ((s + k - 1) / j.count) - j.count * ((s + i - 1) / j.count) := by omega
    rw [this, ← Nat.mul_sub]
    exact Nat.mul_mod_right _ _
  rw [Nat.mod_eq_of_lt (by omega)] at h6
  omega
theorem sec_lt {j : Jn} (h : 0 < j.count) (s : Nat) : j.sec s < j.first + j.count := by
  unfold Jn.sec
  have := Nat.mod_lt (s - 1) h
  omega
theorem full_of {l : List Nat} (h : l.length = 4096) : full l = l := by
  unfold full fullN
  rw [h]
  simp
end Go.Proofs.Yteckglnfkgfefaa
