/- reading a batch's text: records one after another (pure) -/
import Derived.Test.YteckglnfkgfefaaJnO
namespace Go.Proofs.Yteckglnfkgfefaa
open Go.RowKit Cod
set_option maxRecDepth 40000
/-- out has been read of R, and rest is what comes after -/
def Red (R : List Nat) (out : List ByteArray) (rest : List Nat) : Prop := R = recL out ++ rest ∧ ∀ r ∈ out, r.size ≤ 4096
theorem Red.start (R : List Nat) : Red R [] R := ⟨rfl, by simp⟩
theorem Red.step {R rest r : List Nat} {out : List ByteArray} {x : ByteArray} (h : Red R out rest) (hx : ∀ y ∈ rest, y < 256) (e : rdR rest = some (x, r)) : Red R (out ++ [x]) r := by
  obtain ⟨e1, e2⟩ := rdR_ok hx e
  refine ⟨?_, ?_⟩
  · rw [recL_append, h.1]
    simp only [recL, List.append_nil, List.append_assoc]
    rw [e1]
    simp only [List.append_assoc]
  · intro y hy
    rcases List.mem_append.1 hy with hy | hy
    · exact h.2 y hy
    · rw [List.mem_singleton.1 hy]; exact e2
theorem Red.split {R rest : List Nat} {out q : List ByteArray} (h : Red R out rest) (hl : out.length ≤ q.length) (hq : ∀ r ∈ q, r.size ≤ 4096) (e : recL q = R) : q.take out.length = out ∧ rest = recL (q.drop out.length) := by
  have e2 : recL (q.take out.length) ++ recL (q.drop out.length) = recL out ++ rest := by rw [← recL_append, List.take_append_drop, e, h.1]
  obtain ⟨a, b⟩ := recL_apart _ _ _ _ (by rw [List.length_take]; omega) (fun r hr => hq r (List.mem_of_mem_take hr)) h.2 e2
  exact ⟨a, b.symm⟩
/-- where no record can be read there is no batch -/
theorem Red.stuck {R rest : List Nat} {out q : List ByteArray} (h : Red R out rest) (e : rdR rest = none) (hl : out.length < q.length) (hq : ∀ r ∈ q, r.size ≤ 4096) : recL q ≠ R := by
  intro g
  obtain ⟨_, e2⟩ := h.split (by omega) hq g
  cases hd : q.drop out.length with
  | nil =>
    have := congrArg List.length hd
    rw [List.length_drop, List.length_nil] at this
    omega
  | cons x t =>
    have hx : x.size ≤ 4096 := hq x (List.mem_of_mem_drop (i := out.length) (by rw [hd]; exact List.mem_cons_self ..))
    rw [hd, recL] at e2
    rw [e2, rdR_rec hx] at e
    cases e
/-- where something is left there is no batch -/
theorem Red.left {R rest : List Nat} {out q : List ByteArray} (h : Red R out rest) (h0 : rest ≠ []) (hl : q.length = out.length) (hq : ∀ r ∈ q, r.size ≤ 4096) : recL q ≠ R := by
  intro g
  obtain ⟨_, e2⟩ := h.split (by omega) hq g
  rw [List.drop_of_length_le (by omega)] at e2
  exact h0 e2
theorem Red.done {R : List Nat} {out : List ByteArray} (h : Red R out []) : recL out = R := by rw [h.1, List.append_nil]
/-- what reading a text answers: the batch whose text it is, or that there is none -/
def RdB (l : List Nat) (rs : List ByteArray) (ok : Bool) : Prop :=
  (ok = true ∧ okB rs ∧ batL rs = l) ∨ (ok = false ∧ ∀ q, okB q → batL q ≠ l)
theorem RdB.noNum {l : List Nat} (h : rdNum l = none) (rs : List ByteArray) : RdB l rs false := by
  refine .inr ⟨rfl, fun q hq e => ?_⟩
  rw [← e, batL, rdNum_num (by have := hq.1; omega)] at h
  cases h
theorem batL_num {l R : List Nat} {n : Nat} (h : rdNum l = some (n, R)) {q : List ByteArray} (hq : okB q) (e : batL q = l) : q.length = n ∧ recL q = R := by
  rw [← e, batL, rdNum_num (by have := hq.1; omega)] at h
  exact Prod.mk.inj (Option.some.inj h)
theorem RdB.many {l R : List Nat} {n : Nat} (h : rdNum l = some (n, R)) (hn : 4096 < n) (rs : List ByteArray) : RdB l rs false := by
  refine .inr ⟨rfl, fun q hq e => ?_⟩
  have := (batL_num h hq e).1
  have := hq.1
  omega
theorem RdB.stuck {l R rest : List Nat} {n : Nat} {out : List ByteArray} (h : rdNum l = some (n, R)) (hr : Red R out rest) (hn : out.length < n) (e : rdR rest = none) (rs : List ByteArray) : RdB l rs false := by
  refine .inr ⟨rfl, fun q hq e2 => ?_⟩
  obtain ⟨h1, h2⟩ := batL_num h hq e2
  exact hr.stuck e (by omega) hq.2 h2
theorem RdB.left {l R rest : List Nat} {n : Nat} {out : List ByteArray} (h : rdNum l = some (n, R)) (hr : Red R out rest) (hn : out.length = n) (h0 : rest ≠ []) (rs : List ByteArray) : RdB l rs false := by
  refine .inr ⟨rfl, fun q hq e2 => ?_⟩
  obtain ⟨h1, h2⟩ := batL_num h hq e2
  exact hr.left h0 (by omega) hq.2 h2
theorem RdB.done {l R : List Nat} {n : Nat} {out : List ByteArray} (hx : ∀ x ∈ l, x < 256) (h : rdNum l = some (n, R)) (hr : Red R out []) (hn : out.length = n) (h4 : n ≤ 4096) : RdB l out true := by
  refine .inl ⟨rfl, ⟨by omega, hr.2⟩, ?_⟩
  rw [batL, hr.done, hn]
  exact (rdNum_some hx h).1.symm
/-- the program's Unframe: its sectors are those of their pieces, and the text is read -/
theorem UnR.of_chk {bs : List (List Nat)} {s : Nat} (h : Chk bs s) {rs : List ByteArray} {ok : Bool} (g : RdB (unL bs) rs ok) (er : Nat) (he : er = 0 ↔ ok = true) : UnR bs s rs er := by
  rcases g with ⟨rfl, h1, h2⟩ | ⟨rfl, h1⟩
  · exact .inl ⟨he.2 rfl, h1, fr_chk h h2⟩
  · refine .inr ⟨fun e => by have := he.1 e; simp at this, fun q hq e => h1 q hq ?_⟩
    rw [← e, unL_fr]
/-- a sector that isn't that of its piece: none -/
theorem UnR.of_not {bs : List (List Nat)} {s : Nat} (h : ¬ Chk bs s) (rs : List ByteArray) {er : Nat} (he : er ≠ 0) : UnR bs s rs er :=
  .inr ⟨he, fun q _ e => h (by rw [← e]; exact chk_fr q s)⟩
/-- what the sectors say is no batch: none -/
theorem UnR.of_text {bs : List (List Nat)} {s : Nat} {rs : List ByteArray} (h : RdB (unL bs) rs false) {er : Nat} (he : er ≠ 0) : UnR bs s rs er := by
  refine .inr ⟨he, fun q hq e => ?_⟩
  rcases h with ⟨h1, _⟩ | ⟨_, h1⟩
  · cases h1
  · exact h1 q hq (by rw [← e, unL_fr])
/-- what was read isn't framed so: none -/
theorem UnR.of_other {bs : List (List Nat)} {s : Nat} {rs : List ByteArray} (h : RdB (unL bs) rs true) (hne : frL rs s ≠ bs) (qs : List ByteArray) {er : Nat} (he : er ≠ 0) : UnR bs s qs er := by
  rcases h with ⟨_, h1, h2⟩ | ⟨h1, _⟩
  · refine .inr ⟨he, fun q hq e => hne ?_⟩
    have : batL q = batL rs := by rw [h2, ← e, unL_fr]
    rw [← batL_inj hq h1 this]
    exact e
  · cases h1
end Go.Proofs.Yteckglnfkgfefaa
