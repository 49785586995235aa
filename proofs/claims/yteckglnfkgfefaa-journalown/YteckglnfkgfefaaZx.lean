/- contracts: Restore with fates -/
import Derived.Test.YteckglnfkgfefaaJ
import Derived.Test.YteckglnfkgfefaaHx
namespace Go.Proofs.Yteckglnfkgfefaa
open Go.RowKit
open Go.ChangeMaps (setBlock)
open Go.Maps (Keyed has size)
variable {X : Nat → Prop}
def setSyn (f : Nat → List Nat) (x : Nat) (v : List Nat) : Nat → List Nat := fun i => if i = x then v else f i
/-- what sectors are behind the fates of the first k of those that were unsynced -/
def fated (fr : Nat → Option (List Nat)) (l : List (Nat × Nat)) (us : List Nat) (f : Nat → List Nat) : Nat → Nat → List Nat
  | 0 => f
  | k + 1 => setSyn (fated fr l us f k) (us.getD k 0) (outL (l.getD k (0, 0)).1 (l.getD k (0, 0)).2 (fated fr l us f k (us.getD k 0)) ((fr (us.getD k 0)).getD []))
def St.fates (st : St) (l : List (Nat × Nat)) (us : List Nat) (k : Nat) : St := { st with syn := fated st.fr l us st.syn k }
theorem IsD.puts {w : World} {g gs b n : Nat} {st : St} (h : IsD X w g gs b n st) {k : Nat} {v : Value} {l : List Nat} (hk : k < n) (hD : Dat X w v l) : IsD X (w.setCell ⟨gs, k, none⟩ v) g gs b n { st with syn := setSyn st.syn k l } := by
  obtain ⟨n1, n2, n3⟩ := h.ne
  obtain ⟨cur, hc, hsz, hd⟩ := h.syn
  obtain ⟨m, D, hown, hm, hfr⟩ := h.map
  have hK : K5 w (w.setCell ⟨gs, k, none⟩ v) := fun j cur' m' hj => by
    have hne : j ≠ gs := by rintro rfl; rw [hc] at hj; simp at hj
    exact (Below.heap_setCell _ _ _ _ hne).trans hj
  refine ⟨h.n0, h.n1, (Below.heap_setCell _ _ _ _ n1).trans h.blk, ⟨cur.setIfInBounds k v, blk_set hc _, hsz.set hk, fun i hi => ?_⟩, ⟨m, D, ?_, hm, hfr.kept hK⟩, h.wr, h.left, fun i hi => by have := h.xb i hi; simpa [World.setCell] using this⟩
  · by_cases hik : i = k
    · subst hik
      exact ⟨v, by simp [hsz.lt hi], by simp only [setSyn, if_true]; exact hD.kept hK⟩
    · obtain ⟨u, hu, hdu⟩ := hd i hi
      exact ⟨u, by simp [Ne.symm hik, hu], by simp only [setSyn, if_neg hik]; exact hdu.kept hK⟩
  · obtain ⟨es, clock, hb, rest⟩ := hown
    exact ⟨es, clock, (Below.heap_setCell _ _ _ _ (Ne.symm n3)).trans hb, rest⟩
theorem IsF.frm {w w' : World} {g gs b n : Nat} {st : St} {a : Option Addr} {len cap : Nat} {l : List (Nat × Nat)} (h : IsF w a len cap l) (hI : IsD X w g gs b n st) (hf : Frm (SD g gs b) w w') : IsF w' a len cap l := by
  refine ⟨h.1, h.2.1, h.2.2.1, h.2.2.2.1, fun i hi => ?_⟩
  obtain ⟨b', off, e, hlt, h1, h2⟩ := h.2.2.2.2 i hi
  have hne : ¬ SD g gs b b' := fun hi => hI.noU8 hi h1
  exact ⟨b', off, e, Nat.lt_of_lt_of_le hlt hf.size, (World.cell?_of_block (hf.block b' hlt hne)).trans h1, (World.cell?_of_block (hf.block b' hlt hne)).trans h2⟩
end Go.Proofs.Yteckglnfkgfefaa
