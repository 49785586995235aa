/- versions that are handed in, with what none has; the document's Copy of them -/
import Derived.Test.YtpgdmkjfgmiacaaOp
import Derived.Test.YtpgdmkjfgmiacaaZc
namespace Go.Proofs.Ytpgdmkjfgmiacaa
open Go.RowKit Go.ChangeShapes Go.WideShapes Go.Deep
theorem copy_any (a : Option Addr) (len cap low : Nat) (l : List Vr) (w : World) (h : IsV w a len cap l) (hb : len * 48 ≤ 140737488355328) (hn : a = none → cap = 0) :
    Calls Try.prog 10 #[.agg #[.slice a len cap, .int .u64 (low : Nat)]] w fun e w' => ∃ a' c', e = .returned (.agg #[.slice a' len c', .int .u64 (low : Nat)]) ∧ IsV w' a' len c' l ∧ Below w.heap.size w w' := by
  cases a with
  | none =>
    obtain rfl := hn rfl
    obtain rfl : len = 0 := Nat.le_zero.1 h.2.1
    obtain rfl : l = [] := List.length_eq_zero_iff.1 h.1
    exact copy_nil low w
  | some ad => exact copy_some ad len cap low l w h hb
section
variable {H : Type} {enc : TypeId × Value → H} {W : World} {base : Nat} {spare : Nat → Bool} {held : Bool}
theorem none_state {fuel : Nat} {a : Option Addr} {len cap : Nat} {u : Value} {x : DataW H × List MemPlace} (h : DataW.trod enc Try.prog W base spare held fuel 25 [.slice a len cap, u] = some x) : a = none → cap = 0 := by
  obtain ⟨xs, n, rfl, rfl, hl, hx, hf⟩ := DataW.trod_struct Try.underlying25 h
  have hx2 : xs.length = 2 := hx
  match xs, hx2 with
  | [y0, y1], _ =>
    have g0 : DataW.trod enc Try.prog W base spare held n 22 [.slice a len cap] = some y0 := by simpa [ocells22] using hf 0 _ rfl
    rcases open_slice Try.underlying22 g0 with ⟨e, _⟩ | ⟨a', len', cap', m, n, D, Pl, e, hb, hl, hm, hmm, rfl, hx⟩
    · cases e; exact fun _ => rfl
    · cases e; intro h; cases h
/-- versions with their low, of the two cells -/
theorem open_state2 {fuel : Nat} {cs : List Value} {x : DataW H × List MemPlace} (h : DataW.trod enc Try.prog W base spare held fuel 25 cs = some x) (hlt : ∀ p ∈ x.2, p.block < W.heap.size) (hw : ∀ n ∈ x.1.weights Try.prog 25, n ≤ reachBytes) :
    ∃ a len cap l low, cs = [.slice a len cap, .int .u64 ((low : Nat) : Int)] ∧ IsV W a len cap l ∧ len * 48 ≤ 140737488355328 ∧ (a = none → cap = 0) := by
  obtain ⟨a, len, cap, l, low, rfl, h1, h2⟩ := open_state h hlt hw
  exact ⟨a, len, cap, l, low, rfl, h1, h2, none_state h⟩
end
end Go.Proofs.Ytpgdmkjfgmiacaa
