/- what Put makes of versions and writes -/
import Derived.Test.YtlkmcbelmldleaaGreatVZ
namespace Go.Proofs.YtlkmcbelmldleaaGreat
open Go.RowKit Go.Shelf Go.Lib Go.Sort
set_option maxRecDepth 40000
theorem behind_anti {x y : Vr} (h : behindB x y = true) : behindB y x = false := by
  cases hb : behindB y x
  · rfl
  · have := behind_trans h hb
    unfold behindB at this
    simp [less_irrefl] at this
theorem srt_total {m : List Vr} (h : Srt m) {a b : Vr} (ha : a ∈ m) (hb : b ∈ m) : a = b ∨ behindB a b = true ∨ behindB b a = true := by
  induction m with
  | nil => cases ha
  | cons x r ih =>
    obtain ⟨h1, h2⟩ := List.pairwise_cons.1 h
    rcases List.mem_cons.1 ha with rfl | ha1 <;> rcases List.mem_cons.1 hb with rfl | hb1
    · exact .inl rfl
    · exact .inr (.inl (h1 _ hb1))
    · exact .inr (.inr (h1 _ ha1))
    · exact ih h2 ha1 hb1
theorem sorted_one {l' m : List Vr} (hs : ∀ i j, i < j → j < l'.length → behindB (l'.getD j Vr0) (l'.getD i Vr0) = false) (hm : Srt m) (hp : l'.Perm m) : l' = m := by
  refine hp.eq_of_pairwise (le := fun a b => behindB b a = false) (fun a b ha hb h1 h2 => ?_) ?_ ?_
  · rcases srt_total hm (hp.mem_iff.1 ha) hb with h | h | h
    · exact h
    · rw [h] at h2; cases h2
    · rw [h] at h1; cases h1
  · rw [List.pairwise_iff_getElem]
    intro i j hi hj hij
    have := hs i j hij hj
    rwa [List.getD_eq_getElem?_getD, List.getD_eq_getElem?_getD, List.getElem?_eq_getElem hi, List.getElem?_eq_getElem hj] at this
  · exact hm.imp (fun h => behind_anti h)
/-- versions with one more in its place -/
def upTo (x y : Vr) : Bool := !Op.bytesLess x.key.toList y.key.toList
def withL (l : List Vr) (x : Vr) : List Vr := l.takeWhile (upTo x) ++ x :: l.dropWhile (upTo x)
theorem withL_perm (l : List Vr) (x : Vr) : (withL l x).Perm (l ++ [x]) := by
  unfold withL
  refine List.perm_middle.trans ?_
  rw [List.takeWhile_append_dropWhile]
  exact (List.perm_append_singleton x l).symm
theorem withL_srt {l : List Vr} {x : Vr} (h : Srt l) (hx : ∀ y ∈ l, y.key.toList = x.key.toList → y.at_ < x.at_) : Srt (withL l x) := by
  unfold withL Srt
  have hsp : l = l.takeWhile (upTo x) ++ l.dropWhile (upTo x) := (List.takeWhile_append_dropWhile).symm
  have h' := h
  unfold Srt at h'
  rw [hsp, List.pairwise_append] at h'
  obtain ⟨p1, p2, p3⟩ := h'
  have ht : ∀ y ∈ l.takeWhile (upTo x), behindB y x = true := fun y hy => by
    have h1 := List.all_eq_true.1 (List.all_takeWhile (l := l) (p := upTo x)) y hy
    have h2 : y ∈ l := (List.takeWhile_sublist _).subset hy
    unfold upTo at h1
    have h1' : Op.bytesLess x.key.toList y.key.toList = false := by simpa using h1
    unfold behindB
    cases h3 : Op.bytesLess y.key.toList x.key.toList
    · have e := less_tri _ _ h3 h1'
      simp [e, hx y h2 e]
    · rfl
  have hd : ∀ z ∈ l.dropWhile (upTo x), behindB x z = true := by
    cases hq : l.dropWhile (upTo x) with
    | nil => intro z hz; cases hz
    | cons q r =>
      rw [hq] at p2
      obtain ⟨q1, _⟩ := List.pairwise_cons.1 p2
      have hnot : upTo x q = false := by
        have := List.head?_dropWhile_not (upTo x) l
        rw [hq] at this
        simpa using this
      have hb : behindB x q = true := by
        unfold upTo at hnot
        have : Op.bytesLess x.key.toList q.key.toList = true := by simpa using hnot
        unfold behindB
        rw [this]; rfl
      intro z hz
      rcases List.mem_cons.1 hz with rfl | hz
      · exact hb
      · exact behind_trans hb (q1 z hz)
  rw [List.pairwise_append]
  refine ⟨p1, List.pairwise_cons.2 ⟨hd, p2⟩, fun y hy z hz => ?_⟩
  rcases List.mem_cons.1 hz with rfl | hz
  · exact ht y hy
  · exact p3 y hy z hz
/-- versions with writes put to them -/
def putL (t : Nat) (l : List Vr) (ws : List Wt) : List Vr := ws.foldl (fun q x => withL q (vOf t x)) l
theorem putL_good (t : Nat) : ∀ (ws : List Wt) (l : List Vr), Srt l → (∀ y ∈ l, ∀ x ∈ ws, y.key.toList = x.key.toList → y.at_ < t) → (ws.map (fun x => x.key.toList)).Nodup → Srt (putL t l ws) ∧ (putL t l ws).Perm (l ++ ws.map (vOf t))
  | [], l, h, _, _ => ⟨h, by simp [putL]⟩
  | x :: r, l, h, hl, hn => by
    rw [List.map_cons, List.nodup_cons] at hn
    have hw := withL_srt (x := vOf t x) h (fun y hy e => hl y hy x (List.mem_cons_self) e)
    obtain ⟨k1, k2⟩ := putL_good t r (withL l (vOf t x)) hw (fun y hy z hz e => by
      have := (withL_perm l (vOf t x)).mem_iff.1 hy
      rcases List.mem_append.1 this with h1 | h1
      · exact hl y h1 z (List.mem_cons_of_mem _ hz) e
      · obtain rfl := List.mem_singleton.1 h1
        exact absurd (List.mem_map.2 ⟨z, hz, e.symm⟩) hn.1) hn.2
    refine ⟨k1, k2.trans ?_⟩
    refine ((withL_perm l (vOf t x)).append_right _).trans ?_
    simp
theorem ref_zero {low : Nat} {l : List Vr} {ws : List Wt} {t : Nat} (h : refE low l ws t = 0) : goodB low l = true ∧ ws.length ≤ 4096 ∧ ws.any longB = false ∧ twiceB ws = false ∧ timeB t = true ∧ ¬ t < low ∧ l.any (lateB t) = false ∧ l.length + ws.length ≤ 4096 := by
  unfold refE at h
  by_cases h1 : goodB low l = true
  · rw [if_pos h1] at h
    by_cases h2 : 4096 < ws.length
    · rw [if_pos h2] at h; cases h
    rw [if_neg h2] at h
    cases h3 : ws.any longB
    · rw [h3, if_neg (by simp)] at h
      cases h4 : twiceB ws
      · rw [h4, if_neg (by simp)] at h
        cases h5 : timeB t
        · rw [h5, if_neg (by simp)] at h; cases h
        · rw [h5, if_pos rfl] at h
          by_cases h6 : t < low ∨ l.any (lateB t) = true
          · rw [if_pos h6] at h; cases h
          · rw [if_neg h6] at h
            by_cases h7 : 4096 < l.length + ws.length
            · rw [if_pos h7] at h; cases h
            · exact ⟨h1, by omega, rfl, rfl, rfl, fun h => h6 (.inl h), by
                cases h8 : l.any (lateB t)
                · rfl
                · exact absurd (.inr h8) h6, by omega⟩
      · rw [h4, if_pos rfl] at h; cases h
    · rw [h3, if_pos rfl] at h; cases h
  · rw [if_neg h1] at h; cases h
theorem puts_eq {low : Nat} {l : List Vr} {ws : List Wt} {t : Nat} {l' : List Vr} (h : refE low l ws t = 0) (hp : Puts t l ws l') : l' = putL t l ws := by
  obtain ⟨h1, _, _, h4, _, _, h7, _⟩ := ref_zero h
  obtain ⟨k1, k2⟩ := putL_good t ws l (good_srt h1) (fun y hy _ _ _ => by
    have := List.any_eq_false.1 h7 y hy
    unfold lateB at this
    simp at this
    omega) (by unfold twiceB at h4; simpa using h4)
  exact sorted_one hp.2 k1 (hp.1.trans k2.symm)
/-- what Put answers -/
def putR (low : Nat) (l : List Vr) (ws : List Wt) (t : Nat) : List Vr × Nat × Int := if refE low l ws t = 0 then (putL t l ws, low, 0) else ([], 0, refE low l ws t)
theorem put_any (a : Option Addr) (len cap low : Nat) (l : List Vr) (aw : Option Addr) (lw cw : Nat) (ws : List Wt) (t : Nat) (w : World) (hL : IsV w a len cap l) (hW : IsW w aw lw cw ws) :
    Calls Tryz.prog 39 #[.agg #[.slice a len cap, .int .u64 (low : Nat)], .slice aw lw cw, .int .u64 (t : Nat)] w fun e w' =>
    ∃ a' c', e = .returned (.tuple #[.agg #[.slice a' (putR low l ws t).1.length c', .int .u64 ((putR low l ws t).2.1 : Nat)], .int .i64 (putR low l ws t).2.2]) ∧ IsV w' a' (putR low l ws t).1.length c' (putR low l ws t).1 ∧ Below w.heap.size w w' ∧ ∀ b off, a' = some ⟨b, off, none⟩ → w.heap.size ≤ b := by
  unfold putR
  by_cases hE : refE low l ws t = 0
  · simp only [if_pos hE]
    obtain ⟨_, _, _, _, _, _, _, h8⟩ := ref_zero hE
    rw [hL.1, hW.1] at h8
    refine (put_yes a len cap low l aw lw cw ws t w hL hW hE (by omega) (by omega)).mono ?_
    rintro e w' ⟨a', c', l', rfl, hI, hP, hb, hfr⟩
    obtain rfl := puts_eq hE hP
    have := hI.1
    exact ⟨a', c', by rw [this], by rw [this]; exact hI, hb, hfr⟩
  · simp only [if_neg hE]
    refine (put_no a len cap low l aw lw cw ws t w hL hW hE).mono ?_
    rintro e w' ⟨rfl, hb⟩
    exact ⟨none, 0, rfl, ⟨rfl, Nat.le_refl _, Nat.zero_le _, fun i hi => absurd hi (Nat.not_lt_zero _)⟩, hb, by intro b off h; cases h⟩
end Go.Proofs.YtlkmcbelmldleaaGreat
