/- Na Ta Tb Tc0 Tc Td Te Tf Tg Th -/
import Derived.Test.YtlkmcbelmldleaaGreatVA
import Derived.Test.YtlkmcbelmldleaaGreatVR
import Derived.Test.YtlkmcbelmldleaaGreatVL
import Derived.Maps.OwnSet
import Derived.Maps.RangeWalk
import Derived.Test.YtlkmcbelmldleaaGreatVHl
import Derived.Test.YtlkmcbelmldleaaGreatVO
import Derived.StringKeys
import Derived.Test.YtlkmcbelmldleaaGreatVXb
/- a manager that is none -/
namespace Go.Proofs.YtlkmcbelmldleaaGreat
open Go.RowKit
set_option maxRecDepth 40000
end Go.Proofs.YtlkmcbelmldleaaGreat
/- a manager and its transactions in memory -/
namespace Go.Proofs.YtlkmcbelmldleaaGreat
open Go.RowKit
open Go.Maps (Keyed has size)
set_option maxRecDepth 40000
/-- the reader of a map's elements hands the value itself over -/
def heldR (v : Value) : Option (DataW Value × List MemPlace) := some (.held v, [])
theorem kint : Keyed Tryz.prog 3 := Go.Maps.int_keyed Tryz.underlying3
theorem kstr : Keyed Tryz.prog 9 := Go.Maps.string_keyed Tryz.underlying9
/-- as many as there are -/
theorem owns_exact {k : TypeId} {w : World} {b n : Nat} {D : DataW Value} (h : w.ownsMap Tryz.prog k heldR b n D) : w.ownsMap Tryz.prog k heldR b (size D) D := by
  obtain ⟨es, clock, hb, F, hs, rfl⟩ := h
  exact ⟨es, clock, hb, F, by simp [Go.Maps.size, length_sorted], rfl⟩
/-- which blocks may have turned -/
structure Frm (S : Nat → Prop) (w w' : World) : Prop where
  os : w'.os = w.os
  tape : w'.tape = w.tape
  output : w'.output = w.output
  size : w.heap.size ≤ w'.heap.size
  block : ∀ i, i < w.heap.size → ¬ S i → w'.heap[i]? = w.heap[i]?
theorem Frm.refl (S : Nat → Prop) (w : World) : Frm S w w := ⟨rfl, rfl, rfl, Nat.le_refl _, fun _ _ _ => rfl⟩
theorem Frm.trans {S : Nat → Prop} {a b c : World} (h : Frm S a b) (k : Frm S b c) : Frm S a c :=
  ⟨k.os.trans h.os, k.tape.trans h.tape, k.output.trans h.output, Nat.le_trans h.size k.size, fun i hi hn => (k.block i (Nat.lt_of_lt_of_le hi h.size) hn).trans (h.block i hi hn)⟩
theorem Frm.mono {S T : Nat → Prop} {a b : World} (h : Frm S a b) (hs : ∀ i, i < a.heap.size → S i → T i) : Frm T a b :=
  ⟨h.os, h.tape, h.output, h.size, fun i hi hn => h.block i hi (fun e => hn (hs i hi e))⟩
theorem Frm.below {S : Nat → Prop} {a b : World} (h : Below a.heap.size a b) : Frm S a b := ⟨h.os, h.tape, h.output, h.size, fun i hi _ => h.block i hi⟩
theorem Frm.grown {S : Nat → Prop} {a b : World} {r : Option Nat} (h : a.grownBy b r) (hr : ∀ k, r = some k → S k) : Frm S a b :=
  ⟨h.os, h.tape, h.output, h.size, fun i hi hn => h.block i hi (fun e => hn (hr i e.symm))⟩
theorem Frm.toBelow {S : Nat → Prop} {a b : World} {B : Nat} (h : Frm S a b) (hB : B ≤ a.heap.size) (hs : ∀ i, S i → B ≤ i) : Below B a b :=
  ⟨h.os, h.tape, h.output, h.size, fun i hi => h.block i (Nat.lt_of_lt_of_le hi hB) (fun e => by have := hs i e; omega)⟩
/-- a transaction: when it began, what it read (spans), what it wrote (by rising keys, each once) -/
structure Tr where
  began : Nat
  reads : List (ByteArray × ByteArray)
  ws : List Wt
/-- a manager: its versions, the time, the number given last, the open ones by rising numbers -/
structure Mg where
  low : Nat
  vs : List Vr
  now : Nat
  last : Nat
  opn : List (Nat × Tr)
abbrev spc (x : ByteArray × ByteArray) : List Value := [.string x.1, .string x.2]
abbrev wv (x : Wt) : Value := .agg #[.string x.key, .string x.val, .bool x.gone]
def kS (k : ByteArray) : Lit := .string k.data.toList
def kN (k : Nat) : Lit := .int .i64 (k : Int)
/-- writes rise by their keys -/
def SrtW (l : List Wt) : Prop := l.Pairwise (fun x y => Op.bytesLess x.key.toList y.key.toList = true)
/-- what a transaction's map of writes reads as -/
structure WsD (D : DataW Value) (ws : List Wt) : Prop where
  srt : SrtW ws
  len : size D = ws.length
  all : ∀ x ∈ ws, has D (kS x.key) = true ∧ ∀ z, D.atKey (kS x.key) z = .held (wv x)
  just : ∀ kl, has D kl = true → ∃ x ∈ ws, kl = kS x.key
/-- a transaction in memory: its block, its map's block, its reads -/
structure IsX (w : World) (p wb : Nat) (rv : Value) (tr : Tr) : Prop where
  blk : w.heap[p]? = some (.cells #[.int .u64 (tr.began : Nat), rv, .map (some wb)] 125 (0, 0))
  row : w.ownsRow 0 127 2 rv tr.reads.length (tr.reads.flatMap spc)
  map : ∃ D, w.ownsMap Tryz.prog 9 heldR wb tr.ws.length D ∧ WsD D tr.ws
/-- where a transaction lies -/
structure Pl where
  p : Nat
  wb : Nat
  rv : Value
/-- the blocks of a transaction -/
def Pl.has (l : Pl) (i : Nat) : Prop := i = l.p ∨ i = l.wb ∨ l.rv.ownBlock = some i
/-- what the map of open transactions reads as -/
structure OpD (D : DataW Value) (os : List (Nat × Tr)) (ps : List Pl) : Prop where
  srt : os.Pairwise (fun x y => x.1 < y.1)
  one : ps.length = os.length
  len : size D = os.length
  all : ∀ (i n : Nat) (tr : Tr) (l : Pl), os[i]? = some (n, tr) → ps[i]? = some l → has D (kN n) = true ∧ ∀ z, D.atKey (kN n) z = .held (.pointer (some ⟨l.p, 0, none⟩))
  just : ∀ kl, has D kl = true → ∃ x ∈ os, kl = kN x.1
/-- the blocks of a manager -/
def SM (g ob : Nat) (ps : List Pl) (i : Nat) : Prop := i = g ∨ i = ob ∨ ∃ l ∈ ps, l.has i
/-- a manager in memory -/
structure IsM (w : World) (g ob : Nat) (ps : List Pl) (ms : Mg) : Prop where
  ver : ∃ a n c, w.heap[g]? = some (.cells #[.slice a n c, .int .u64 (ms.low : Nat), .int .u64 (ms.now : Nat), .int .i64 (ms.last : Nat), .map (some ob)] 97 (0, 0)) ∧ IsV w a n c ms.vs ∧ (a = none → n = 0) ∧ ∀ b off, 0 < n → a = some ⟨b, off, none⟩ → ¬ SM g ob ps b
  map : ∃ D, w.ownsMap Tryz.prog 3 heldR ob ms.opn.length D ∧ OpD D ms.opn ps
  each : ∀ (i n : Nat) (tr : Tr) (l : Pl), ms.opn[i]? = some (n, tr) → ps[i]? = some l → IsX w l.p l.wb l.rv tr
  apart : ps.Pairwise (fun x y => ∀ i, x.has i → ¬ y.has i)
  far : ∀ l ∈ ps, ¬ l.has g ∧ ¬ l.has ob
  last : ms.last < 4611686018427387904
  nums : ∀ x ∈ ms.opn, x.1 ≤ ms.last
  few : ms.opn.length ≤ 16
set_option maxHeartbeats 1000000 in
/-- (*Manager).Now -/
theorem now_any (w : World) (g ob : Nat) (ps : List Pl) (ms : Mg) (h : IsM w g ob ps ms) : Calls Tryz.prog 20 #[.pointer (some ⟨g, 0, none⟩)] w fun e w' => e = .returned (.int .u64 (ms.now : Nat)) ∧ w' = w := by
  obtain ⟨a, n, c, hb, _⟩ := h.ver
  have c2 : w.cell? ⟨g, 2, none⟩ = some (.int .u64 (ms.now : Nat)) := cell_blk hb rfl
  clear h hb
  go_enter Tryz.func20, Tryz.ntmps20
  go_wp2
  go_ret
  exact ⟨rfl, rfl⟩
theorem zero98 (W : World) : (zeroValue 98).run Tryz.prog W = .ok (.pointer none) W := Tryz.zeroValue98 W
theorem key_int {t : Int} (h : -9223372036854775808 ≤ t ∧ t ≤ 9223372036854775807) : keyOf Tryz.prog 3 (.int .i64 t) = some (.int .i64 t) := Go.Maps.keyOf_int_mk Tryz.underlying3 (by
  have h1 : IntKind.i64.min = -9223372036854775808 := rfl
  have h2 : IntKind.i64.max = 9223372036854775807 := rfl
  simp [Lit.wf, h1, h2]; omega)
/-- where an open one is -/
def placeOf (os : List (Nat × Tr)) (t : Int) : Option Nat := os.findIdx? (fun x => decide ((x.1 : Int) = t))
set_option maxHeartbeats 1000000 in
/-- (*Manager).find: not there -/
theorem find_no (w : World) (g ob : Nat) (ps : List Pl) (ms : Mg) (h : IsM w g ob ps ms) (t : Int) (ht : -9223372036854775808 ≤ t ∧ t ≤ 9223372036854775807) (hn : ∀ x ∈ ms.opn, ¬ (x.1 : Int) = t) :
    Calls Tryz.prog 40 #[.pointer (some ⟨g, 0, none⟩), .int .i64 t] w fun e w' => e = .returned (.tuple #[.pointer none, .int .i64 11]) ∧ w' = w := by
  obtain ⟨a, n, c, hb, _⟩ := h.ver
  have c4 : w.cell? ⟨g, 4, none⟩ = some (.map (some ob)) := cell_blk hb rfl
  obtain ⟨D, hown, hD⟩ := h.map
  have hf : has D (.int .i64 t) = false := by
    cases hq : has D (.int .i64 t)
    · rfl
    · obtain ⟨x, hx, e⟩ := hD.just _ hq
      unfold kN at e
      injection e with _ e
      exact absurd e.symm (hn x hx)
  obtain ⟨v, qs, hrun, _⟩ := hown.look_ok kint Tryz.underlying95 (zero98 w) (zd := .held (.pointer none)) (zp := []) rfl (key_int ht)
  rw [hf] at hrun
  clear h hb hown hD hf
  go_enter Tryz.func40, Tryz.ntmps40
  go_wp2
  go_ret2
  exact ⟨rfl, rfl⟩
set_option maxHeartbeats 1000000 in
/-- (*Manager).find: there -/
theorem find_yes (w : World) (g ob : Nat) (ps : List Pl) (ms : Mg) (h : IsM w g ob ps ms) (i n : Nat) (tr : Tr) (l : Pl) (h1 : ms.opn[i]? = some (n, tr)) (h2 : ps[i]? = some l) :
    Calls Tryz.prog 40 #[.pointer (some ⟨g, 0, none⟩), .int .i64 (n : Int)] w fun e w' => e = .returned (.tuple #[.pointer (some ⟨l.p, 0, none⟩), .int .i64 0]) ∧ w' = w := by
  obtain ⟨a, n', c, hb, _⟩ := h.ver
  have c4 : w.cell? ⟨g, 4, none⟩ = some (.map (some ob)) := cell_blk hb rfl
  obtain ⟨D, hown, hD⟩ := h.map
  obtain ⟨q1, q2⟩ := hD.all i n tr l h1 h2
  have hle := h.nums (n, tr) (List.mem_of_getElem? h1)
  have hlt := h.last
  obtain ⟨v, qs, hrun, hv⟩ := hown.look_ok kint Tryz.underlying95 (zero98 w) (zd := .held (.pointer none)) (zp := []) rfl (key_int (t := (n : Int)) (by dsimp only at hle; omega))
  have e1 : has D (.int .i64 (n : Int)) = true := q1
  have e2 : D.atKey (.int .i64 (n : Int)) (.held (.pointer none)) = .held (.pointer (some ⟨l.p, 0, none⟩)) := q2 _
  rw [e1] at hrun
  rw [e2] at hv
  obtain rfl : v = .pointer (some ⟨l.p, 0, none⟩) := by
    simp only [heldR, Option.some.injEq, Prod.mk.injEq] at hv
    have := hv.1
    injection this
  clear h hb hown hD q1 q2 e1 e2 hv h1 h2
  go_enter Tryz.func40, Tryz.ntmps40
  go_wp2
  go_ret2
  exact ⟨rfl, rfl⟩
end Go.Proofs.YtlkmcbelmldleaaGreat
/- what stays of a manager where other blocks turn; Begin -/
namespace Go.Proofs.YtlkmcbelmldleaaGreat
open Go.RowKit
open Go.Maps (Keyed has size)
set_option maxRecDepth 40000
theorem row_kept {w w' : World} {base e k n : Nat} {v : Value} {xs : List Value} (h : w.ownsRow base e k v n xs) (hb : ∀ j, v.ownBlock = some j → w'.heap[j]? = w.heap[j]?) : w'.ownsRow base e k v n xs :=
  ⟨h.1, h.2.imp id (fun ⟨g, cap, cur, h1, h2, h3, h4⟩ => ⟨g, cap, cur, h1, h2, (hb g (by rw [h1]; rfl)).trans h3, h4⟩)⟩
theorem map_kept {k : TypeId} {w w' : World} {b n : Nat} {D : DataW Value} (h : w.ownsMap Tryz.prog k heldR b n D) (hb : w'.heap[b]? = w.heap[b]?) : w'.ownsMap Tryz.prog k heldR b n D := by
  obtain ⟨es, clock, h1, h2⟩ := h
  exact ⟨es, clock, hb.trans h1, h2⟩
theorem IsX.lt {w : World} {l : Pl} {tr : Tr} (h : IsX w l.p l.wb l.rv tr) {i : Nat} (hi : l.has i) : i < w.heap.size := by
  rcases hi with rfl | rfl | hi
  · exact heap_lt h.blk
  · obtain ⟨D, hD, _⟩ := h.map; exact hD.lt
  · exact (h.row.lt i hi).2
theorem IsX.kept {w w' : World} {l : Pl} {tr : Tr} (h : IsX w l.p l.wb l.rv tr) (hb : ∀ i, l.has i → w'.heap[i]? = w.heap[i]?) : IsX w' l.p l.wb l.rv tr := by
  obtain ⟨D, h1, h2⟩ := h.map
  exact ⟨(hb _ (.inl rfl)).trans h.blk, row_kept h.row (fun j hj => hb j (.inr (.inr hj))), ⟨D, map_kept h1 (hb _ (.inr (.inl rfl))), h2⟩⟩
theorem IsV.keptB {w w' : World} {a : Option Addr} {n c : Nat} {l : List Vr} (h : IsV w a n c l) (hs : w.heap.size ≤ w'.heap.size) (hb : ∀ b off, 0 < n → a = some ⟨b, off, none⟩ → b < w.heap.size → w'.heap[b]? = w.heap[b]?) : IsV w' a n c l := by
  refine ⟨h.1, h.2.1, h.2.2.1, fun i hi => ?_⟩
  obtain ⟨b, off, e, hlt, z0, z1, z2, z3⟩ := h.2.2.2 i hi
  have k : ∀ j, w'.cell? ⟨b, j, none⟩ = w.cell? ⟨b, j, none⟩ := fun j => World.cell?_of_block (hb b off (by omega) e hlt)
  exact ⟨b, off, e, Nat.lt_of_lt_of_le hlt hs, (k _).trans z0, (k _).trans z1, (k _).trans z2, (k _).trans z3⟩
theorem mem_pl {ps : List Pl} {os : List (Nat × Tr)} (h1 : ps.length = os.length) {l : Pl} (hl : l ∈ ps) : ∃ (i n : Nat) (tr : Tr), os[i]? = some (n, tr) ∧ ps[i]? = some l := by
  obtain ⟨i, hi, rfl⟩ := List.getElem_of_mem hl
  exact ⟨i, (os[i]'(by omega)).1, (os[i]'(by omega)).2, List.getElem?_eq_getElem (by omega), List.getElem?_eq_getElem hi⟩
theorem IsM.ltS {w : World} {g ob : Nat} {ps : List Pl} {ms : Mg} (h : IsM w g ob ps ms) {i : Nat} (hi : SM g ob ps i) : i < w.heap.size := by
  obtain ⟨D, hD, hO⟩ := h.map
  rcases hi with rfl | rfl | ⟨l, hl, hi⟩
  · obtain ⟨_, _, _, hb, _⟩ := h.ver; exact heap_lt hb
  · exact hD.lt
  · obtain ⟨j, n, tr, q1, q2⟩ := mem_pl hO.one hl
    exact (h.each j n tr l q1 q2).lt hi
theorem IsM.ne {w : World} {g ob : Nat} {ps : List Pl} {ms : Mg} (h : IsM w g ob ps ms) : g ≠ ob := by
  obtain ⟨D, ⟨es, clock, hD, _⟩, _⟩ := h.map
  obtain ⟨_, _, _, hb, _⟩ := h.ver
  rintro rfl
  rw [hb] at hD; cases hD
/-- a manager stays where none of its blocks turns -/
theorem IsM.kept {w w' : World} {g ob : Nat} {ps : List Pl} {ms : Mg} (h : IsM w g ob ps ms) (hs : w.heap.size ≤ w'.heap.size) (hb : ∀ i, SM g ob ps i → w'.heap[i]? = w.heap[i]?) (hv : ∀ i, i < w.heap.size → ¬ SM g ob ps i → w'.heap[i]? = w.heap[i]?) : IsM w' g ob ps ms := by
  obtain ⟨a, n, c, h1, h2, h3, h4⟩ := h.ver
  obtain ⟨D, hD, hO⟩ := h.map
  refine ⟨⟨a, n, c, (hb _ (.inl rfl)).trans h1, h2.keptB hs (fun b off h0 e hlt => hv b hlt (h4 b off h0 e)), h3, h4⟩, ⟨D, map_kept hD (hb _ (.inr (.inl rfl))), hO⟩, fun i n tr l q1 q2 => (h.each i n tr l q1 q2).kept (fun j hj => hb j (.inr (.inr ⟨l, List.mem_of_getElem? q2, hj⟩))), h.apart, h.far, h.last, h.nums, h.few⟩
/-- the block of a manager's versions -/
def VB (w : World) (g b : Nat) : Prop := ∃ a n c x1 x2 x3 x4, w.heap[g]? = some (.cells #[.slice a n c, x1, x2, x3, x4] 97 (0, 0)) ∧ 0 < n ∧ ∃ off, a = some ⟨b, off, none⟩
theorem VB.same {w w' : World} {g b : Nat} (h : VB w' g b) (hg : w'.heap[g]? = w.heap[g]?) : VB w g b := by
  obtain ⟨a, n, c, x1, x2, x3, x4, e, h0⟩ := h
  exact ⟨a, n, c, x1, x2, x3, x4, hg ▸ e, h0⟩
theorem VB.of {w w' : World} {g b : Nat} {a : Option Addr} {n c : Nat} {x1 x2 x3 x4 y1 y2 y3 y4 : Value} (h : VB w' g b) (h' : w'.heap[g]? = some (.cells #[.slice a n c, x1, x2, x3, x4] 97 (0, 0))) (hw : w.heap[g]? = some (.cells #[.slice a n c, y1, y2, y3, y4] 97 (0, 0))) : VB w g b := by
  obtain ⟨a', n', c', _, _, _, _, e, h0⟩ := h
  rw [h'] at e
  simp only [Option.some.injEq, Obj.cells.injEq, Array.mk.injEq, List.cons.injEq, Value.slice.injEq] at e
  obtain ⟨⟨⟨rfl, rfl, rfl⟩, _⟩, _⟩ := e
  exact ⟨a, n, c, y1, y2, y3, y4, hw, h0⟩
theorem VB.at {w' : World} {g b : Nat} {a : Option Addr} {n c : Nat} {x1 x2 x3 x4 : Value} (h : VB w' g b) (h' : w'.heap[g]? = some (.cells #[.slice a n c, x1, x2, x3, x4] 97 (0, 0))) : 0 < n ∧ ∃ off, a = some ⟨b, off, none⟩ := by
  obtain ⟨a', n', c', _, _, _, _, e, h0⟩ := h
  rw [h'] at e
  simp only [Option.some.injEq, Obj.cells.injEq, Array.mk.injEq, List.cons.injEq, Value.slice.injEq] at e
  obtain ⟨⟨⟨rfl, rfl, rfl⟩, _⟩, _⟩ := e
  exact h0
/-- a manager stays where none of its blocks turns, nor that of its versions -/
theorem IsM.keptX {w w' : World} {g ob : Nat} {ps : List Pl} {ms : Mg} (h : IsM w g ob ps ms) (hs : w.heap.size ≤ w'.heap.size) (hb : ∀ i, SM g ob ps i → w'.heap[i]? = w.heap[i]?) (hv : ∀ i, VB w g i → i < w.heap.size → w'.heap[i]? = w.heap[i]?) : IsM w' g ob ps ms := by
  obtain ⟨a, n, c, h1, h2, h3, h4⟩ := h.ver
  obtain ⟨D, hD, hO⟩ := h.map
  refine ⟨⟨a, n, c, (hb _ (.inl rfl)).trans h1, h2.keptB hs (fun b off h0 e hlt => hv b ⟨a, n, c, _, _, _, _, h1, h0, off, e⟩ hlt), h3, h4⟩, ⟨D, map_kept hD (hb _ (.inr (.inl rfl))), hO⟩, fun i n tr l q1 q2 => (h.each i n tr l q1 q2).kept (fun j hj => hb j (.inr (.inr ⟨l, List.mem_of_getElem? q2, hj⟩))), h.apart, h.far, h.last, h.nums, h.few⟩
theorem IsM.below {w w' : World} {g ob : Nat} {ps : List Pl} {ms : Mg} (h : IsM w g ob ps ms) (hb : Below w.heap.size w w') : IsM w' g ob ps ms :=
  h.kept hb.size (fun i hi => hb.block i (h.ltS hi)) (fun i hi _ => hb.block i hi)
set_option maxHeartbeats 1000000 in
/-- (*Manager).Begin: there are too many -/
theorem begin_full (w : World) (g ob : Nat) (ps : List Pl) (ms : Mg) (h : IsM w g ob ps ms) (hl : ms.opn.length = 16) :
    Calls Tryz.prog 29 #[.pointer (some ⟨g, 0, none⟩)] w fun e w' => e = .returned (.tuple #[.int .i64 0, .int .i64 3]) ∧ w' = w := by
  obtain ⟨a, n, c, hb, _⟩ := h.ver
  have c4 : w.cell? ⟨g, 4, none⟩ = some (.map (some ob)) := cell_blk hb rfl
  obtain ⟨D, hown, hD⟩ := h.map
  have hlen := hown.len Tryz.underlying95 3
  rw [hD.len, hl] at hlen
  clear h hb hown hD hl
  go_enter Tryz.func29, Tryz.ntmps29
  go_wp2
  go_ret2
  exact ⟨rfl, rfl⟩
end Go.Proofs.YtlkmcbelmldleaaGreat
/- a manager with one more transaction -/
namespace Go.Proofs.YtlkmcbelmldleaaGreat
open Go.RowKit
open Go.Maps (Keyed has size)
set_option maxRecDepth 40000
/-- a manager with one more -/
def Mg.begun (ms : Mg) : Mg := { ms with last := ms.last + 1, opn := ms.opn ++ [(ms.last + 1, ⟨ms.now, [], []⟩)] }
theorem wsd_nil : WsD (.map []) [] := ⟨List.Pairwise.nil, rfl, fun x hx => (by cases hx), fun kl h => by simp [Go.Maps.has] at h⟩
theorem begun_isM {w w4 : World} {g ob : Nat} {ps : List Pl} {ms : Mg} {D : DataW Value} (h : IsM w g ob ps ms) (q : Nat) (hq : q = w.heap.size) (hfew : ms.opn.length < 16) (hlt : ms.last + 1 < 4611686018427387904)
    (hg : ∀ a n c, w.heap[g]? = some (.cells #[.slice a n c, .int .u64 (ms.low : Nat), .int .u64 (ms.now : Nat), .int .i64 (ms.last : Nat), .map (some ob)] 97 (0, 0)) → w4.heap[g]? = some (.cells #[.slice a n c, .int .u64 (ms.low : Nat), .int .u64 (ms.now : Nat), .int .i64 ((ms.last : Int) + 1), .map (some ob)] 97 (0, 0)))
    (hp : w4.heap[q + 1]? = some (.cells #[.int .u64 (ms.now : Nat), .slice none 0 0, .map (some q)] 125 (0, 0))) (hw : w4.ownsMap Tryz.prog 9 heldR q 0 (.map []))
    (hD : OpD D ms.opn ps) (hM : Go.Maps.Tidy D) (hI : Go.Maps.IsMap D) (ho : w4.ownsMap Tryz.prog 3 heldR ob (ms.opn.length + 1) (D.put (.int .i64 ((ms.last : Int) + 1)) (.held (.pointer (some ⟨q + 1, 0, none⟩)))))
    (hk : ∀ i, i < w.heap.size → i ≠ g → i ≠ ob → w4.heap[i]? = w.heap[i]?) (hs : q + 2 ≤ w4.heap.size) : IsM w4 g ob (ps ++ [⟨q + 1, q, .slice none 0 0⟩]) ms.begun := by
  obtain ⟨a, n, c, h1, h2, h3, h4⟩ := h.ver
  have hgl := h.ltS (.inl rfl)
  have hol := h.ltS (.inr (.inl rfl))
  have hnk : ∀ x ∈ ms.opn, kN x.1 ≠ .int .i64 ((ms.last : Int) + 1) := fun x hx e => by
    have := h.nums x hx
    unfold kN at e
    injection e with _ e
    omega
  have hno : has D (.int .i64 ((ms.last : Int) + 1)) = false := by
    cases hq : has D (.int .i64 ((ms.last : Int) + 1))
    · rfl
    · obtain ⟨x, hx, e⟩ := hD.just _ hq
      exact absurd e.symm (hnk x hx)
  have hold : ∀ l ∈ ps, ∀ i, l.has i → i < w.heap.size := fun l hl i hi => h.ltS (.inr (.inr ⟨l, hl, hi⟩))
  have hnew : ∀ i, (⟨q + 1, q, .slice none 0 0⟩ : Pl).has i → w.heap.size ≤ i := by
    rintro i (hi | hi | hi)
    · have : i = q + 1 := hi
      omega
    · have : i = q := hi
      omega
    · simp [Value.ownBlock] at hi
  have hkey : WideAt.IsKeyLit (.int .i64 ((ms.last : Int) + 1)) := trivial
  refine ⟨⟨a, n, c, hg a n c h1, h2.keptB (by omega) (fun b off h0 e hlt => ?_), h3, fun b off h0 e hb => ?_⟩, ⟨D.put (.int .i64 ((ms.last : Int) + 1)) (.held (.pointer (some ⟨q + 1, 0, none⟩))), ?_, ?_⟩, ?_, ?_, ?_, ?_, ?_, ?_⟩
  · exact hk b hlt (fun e' => h4 b off h0 e (.inl e')) (fun e' => h4 b off h0 e (.inr (.inl e')))
  · obtain ⟨b', off', e', hlt', _⟩ := h2.2.2.2 0 h0
    rw [e] at e'
    cases e'
    rcases hb with hb | hb | ⟨l, hl, hi⟩
    · exact h4 b off h0 e (.inl hb)
    · exact h4 b off h0 e (.inr (.inl hb))
    · rcases List.mem_append.1 hl with hl | hl
      · exact h4 b off h0 e (.inr (.inr ⟨l, hl, hi⟩))
      · rw [List.mem_singleton.1 hl] at hi
        have := hnew b hi; omega
  · have e : ms.begun.opn.length = ms.opn.length + 1 := by simp [Mg.begun]
    rw [e]; exact ho
  · refine ⟨?_, by simp [Mg.begun, hD.one], ?_, ?_, ?_⟩
    · show (ms.opn ++ [_]).Pairwise _
      rw [List.pairwise_append]
      refine ⟨hD.srt, by simp, fun x hx y hy => ?_⟩
      rw [List.mem_singleton.1 hy]
      have := h.nums x hx
      show x.1 < ms.last + 1
      omega
    · rw [Go.Maps.size_put hM, hno, hD.len]
      simp [Mg.begun]
    · intro i n tr l q1 q2
      by_cases hi : i < ms.opn.length
      · have q1' : ms.opn[i]? = some (n, tr) := by
          have : (ms.opn ++ [(ms.last + 1, (⟨ms.now, [], []⟩ : Tr))])[i]? = some (n, tr) := q1
          rwa [List.getElem?_append_left hi] at this
        have q2' : ps[i]? = some l := by rwa [List.getElem?_append_left (by rw [hD.one]; exact hi)] at q2
        obtain ⟨r1, r2⟩ := hD.all i n tr l q1' q2'
        have hne := hnk (n, tr) (List.mem_of_getElem? q1')
        exact ⟨by rw [Go.Maps.has_put_other hne]; exact r1, fun z => by rw [Go.Maps.atKey_put_other hne]; exact r2 z⟩
      · have q1' : (ms.opn ++ [(ms.last + 1, (⟨ms.now, [], []⟩ : Tr))])[i]? = some (n, tr) := q1
        rw [List.getElem?_append_right (by omega)] at q1'
        rw [List.getElem?_append_right (by rw [hD.one]; omega)] at q2
        rw [hD.one] at q2
        obtain hz : i - ms.opn.length = 0 := by
          by_cases hz : i - ms.opn.length = 0
          · exact hz
          · rw [List.getElem?_eq_none (by simp; omega)] at q1'; cases q1'
        rw [hz] at q1' q2
        simp only [List.getElem?_cons_zero, Option.some.injEq, Prod.mk.injEq] at q1' q2
        obtain ⟨rfl, rfl⟩ := q1'
        subst q2
        have hke : kN (ms.last + 1) = .int .i64 ((ms.last : Int) + 1) := rfl
        rw [hke]
        exact ⟨Go.Maps.has_put_same hI hkey _, fun z => Go.Maps.atKey_put_same hI hkey _ z⟩
    · intro kl hkl
      by_cases hke : kl = .int .i64 ((ms.last : Int) + 1)
      · exact ⟨(ms.last + 1, ⟨ms.now, [], []⟩), by simp [Mg.begun], hke⟩
      · rw [Go.Maps.has_put_other hke] at hkl
        obtain ⟨x, hx, e⟩ := hD.just kl hkl
        exact ⟨x, by simp [Mg.begun, hx], e⟩
  · intro i n tr l q1 q2
    by_cases hi : i < ms.opn.length
    · have q1' : ms.opn[i]? = some (n, tr) := by
        have : (ms.opn ++ [(ms.last + 1, (⟨ms.now, [], []⟩ : Tr))])[i]? = some (n, tr) := q1
        rwa [List.getElem?_append_left hi] at this
      have q2' : ps[i]? = some l := by rwa [List.getElem?_append_left (by rw [hD.one]; exact hi)] at q2
      have hl := List.mem_of_getElem? q2'
      exact (h.each i n tr l q1' q2').kept (fun j hj => hk j (hold l hl j hj) (fun e => (h.far l hl).1 (e ▸ hj)) (fun e => (h.far l hl).2 (e ▸ hj)))
    · have q1' : (ms.opn ++ [(ms.last + 1, (⟨ms.now, [], []⟩ : Tr))])[i]? = some (n, tr) := q1
      rw [List.getElem?_append_right (by omega)] at q1'
      rw [List.getElem?_append_right (by rw [hD.one]; omega)] at q2
      rw [hD.one] at q2
      obtain hz : i - ms.opn.length = 0 := by
        by_cases hz : i - ms.opn.length = 0
        · exact hz
        · rw [List.getElem?_eq_none (by simp; omega)] at q1'; cases q1'
      rw [hz] at q1' q2
      simp only [List.getElem?_cons_zero, Option.some.injEq, Prod.mk.injEq] at q1' q2
      obtain ⟨rfl, rfl⟩ := q1'
      subst q2
      exact ⟨hp, World.ownsRow_nil _ _ _ _, ⟨.map [], hw, wsd_nil⟩⟩
  · rw [List.pairwise_append]
    refine ⟨h.apart, by simp, fun x hx y hy i hi hj => ?_⟩
    rw [List.mem_singleton.1 hy] at hj
    have := hold x hx i hi
    have := hnew i hj
    omega
  · intro l hl
    rcases List.mem_append.1 hl with hl | hl
    · exact h.far l hl
    · rw [List.mem_singleton.1 hl]
      exact ⟨fun hh => by have := hnew _ hh; omega, fun hh => by have := hnew _ hh; omega⟩
  · exact hlt
  · intro x hx
    have hx' : x ∈ ms.opn ++ [(ms.last + 1, (⟨ms.now, [], []⟩ : Tr))] := hx
    rcases List.mem_append.1 hx' with hx' | hx'
    · have := h.nums x hx'
      show x.1 ≤ ms.last + 1
      omega
    · rw [List.mem_singleton.1 hx']; exact Nat.le_refl _
  · simp [Mg.begun]; omega
end Go.Proofs.YtlkmcbelmldleaaGreat
/- Begin -/
namespace Go.Proofs.YtlkmcbelmldleaaGreat
open Go.RowKit
open Go.Maps (Keyed has size)
set_option maxRecDepth 40000
set_option maxHeartbeats 2000000 in
theorem begin_ok (w : World) (g ob : Nat) (ps : List Pl) (ms : Mg) (h : IsM w g ob ps ms) (hl : ¬ ms.opn.length = 16) (hlt : ms.last + 1 < 4611686018427387904) :
    Calls Tryz.prog 29 #[.pointer (some ⟨g, 0, none⟩)] w fun e w' => ∃ p wb, e = .returned (.tuple #[.int .i64 ((ms.last : Int) + 1), .int .i64 0]) ∧ IsM w' g ob (ps ++ [⟨p, wb, .slice none 0 0⟩]) ms.begun ∧ Frm (fun i => i = g ∨ i = ob) w w' ∧ w.heap.size ≤ p ∧ w.heap.size ≤ wb ∧ ∀ b, VB w' g b → VB w g b := by
  obtain ⟨a, n, c, hb, hV, hN0, hVF⟩ := h.ver
  have c1 : w.cell? ⟨g, 2, none⟩ = some (.int .u64 (ms.now : Nat)) := cell_blk hb rfl
  have c3 : w.cell? ⟨g, 3, none⟩ = some (.int .i64 (ms.last : Nat)) := cell_blk hb rfl
  have c4 : w.cell? ⟨g, 4, none⟩ = some (.map (some ob)) := cell_blk hb rfl
  have f3 : w.frozen? ⟨g, 3, none⟩ = false := frz hb 3
  obtain ⟨D, hown, hD⟩ := h.map
  have hlen := hown.len Tryz.underlying95 3
  rw [hD.len] at hlen
  have hl1 : ¬ (ms.opn.length : Int) = 16 := by omega
  have hl2 : ((ms.opn.length : Int) == 16) = false := by simp; omega
  have hl3 : (ms.opn.length == 16) = false := by simp; omega
  have hw1 : IntKind.i64.wrap ((ms.last : Int) + 1) = ((ms.last : Int) + 1) := by rw [IntKind.wrap_i64]; omega
  have hmix := mixed
  -- the world where the number is given
  have hg1 : (w.setCell ⟨g, 3, none⟩ (.int .i64 ((ms.last : Int) + 1))).heap[g]? = some (.cells #[.slice a n c, .int .u64 (ms.low : Nat), .int .u64 (ms.now : Nat), .int .i64 ((ms.last : Int) + 1), .map (some ob)] 97 (0, 0)) := by
    have := blk_set2 (j := 3) hb (.int .i64 ((ms.last : Int) + 1))
    simpa using this
  have hne := h.ne
  have hown1 := hown.setCell (a := ⟨g, 3, none⟩) (fun e => hne e.symm) (.int .i64 ((ms.last : Int) + 1))
  have hF1 : Frm (fun i => i = g ∨ i = ob) w (w.setCell ⟨g, 3, none⟩ (.int .i64 ((ms.last : Int) + 1))) := ⟨rfl, rfl, rfl, by simp [World.setCell], fun i _ hn => Below.heap_setCell _ _ _ _ (fun e => hn (.inl e))⟩
  have hz1 : (w.setCell ⟨g, 3, none⟩ (.int .i64 ((ms.last : Int) + 1))).heap.size = w.heap.size := by simp [World.setCell]
  have HM := hide h
  have HHB := hide hb
  have HV := hide (And.intro hV (And.intro hN0 hVF))
  have HD := hide hD
  have HLT := hide hlt
  clear h hV hN0 hVF hD hown hlt
  go_enter Tryz.func29, Tryz.ntmps29
  go_wp2_with fail
  generalize hV1 : (w.setCell ⟨g, 3, none⟩ (.int .i64 ((ms.last : Int) + 1))) = V at *
  clear hV1
  have HG1 := hide hg1
  have HOW := hide hown1
  have HF1 := hide hF1
  have HZ1 := hide hz1
  clear hg1 hown1 hF1 hz1 c1 c3 c4 f3 hlen
  have d2 : V.cell? ⟨g, 2, none⟩ = some (.int .u64 (ms.now : Nat)) := cell_blk HG1.out rfl
  have d3 : V.cell? ⟨g, 3, none⟩ = some (.int .i64 ((ms.last : Int) + 1)) := cell_blk HG1.out rfl
  have d4 : V.cell? ⟨g, 4, none⟩ = some (.map (some ob)) := cell_blk HG1.out rfl
  have hmm : ∀ W : World, (Instr.makeMap 122 none).run Tryz.prog W = .ok (.map (some W.heap.size)) (W.alloc (.map #[] 0)) := fun _ => rfl
  refine wp_region_last 15 (fun W' : World => W'.cell? ⟨g, 2, none⟩ = some (.int .u64 (ms.now : Nat)) ∧ W'.cell? ⟨g, 3, none⟩ = some (.int .i64 ((ms.last : Int) + 1)) ∧ W'.cell? ⟨g, 4, none⟩ = some (.map (some ob))) hmix ⟨d2, d3, d4⟩ (fun hHeld => ?_)
  refine wpAnyL_take (i := 0) (v := ?v0) rfl (by kernel_rfl) (fun _ _ _ h => h) (by assumption) (by rfl) ?hy0 ?hn0
  case hy0 => (intro w hSw; (try dsimp only at hSw); skip; go_simp; try with_reducible rfl)
  try simp only [Act.put]
  refine wpAnyL_take (i := 1) (v := ?v1) rfl (by kernel_rfl) (fun _ _ _ h => h) (by assumption) (by rfl) ?hy1 ?hn1
  case hy1 => (intro w hSw; (try dsimp only at hSw); skip; go_simp; try with_reducible rfl)
  try simp only [Act.put]
  refine wpAnyL_take (i := 2) (v := ?v2) rfl (by kernel_rfl) (fun _ _ _ h => h) (by assumption) (by rfl) ?hy2 ?hn2
  case hy2 => (intro w hSw; (try dsimp only at hSw); skip; go_simp; try with_reducible rfl)
  try simp only [Act.put]
  refine wpAnyL_take (i := 3) (v := ?v3) rfl (by kernel_rfl) (fun _ _ _ h => h) (by assumption) (by rfl) ?hy3 ?hn3
  case hy3 => (intro w hSw; (try dsimp only at hSw); skip; go_simp; try with_reducible rfl)
  try simp only [Act.put]
  refine wpAnyL_take (i := 4) (v := ?v4) rfl (by kernel_rfl) (fun _ _ _ h => h) (by assumption) (by rfl) ?hy4 ?hn4
  case hy4 => (intro w hSw; (try dsimp only at hSw); skip; go_simp; try with_reducible rfl)
  try simp only [Act.put]
  refine wpAnyL_take (i := 5) (v := ?v5) rfl (by kernel_rfl) (fun _ _ _ h => h) (by assumption) (by rfl) ?hy5 ?hn5
  case hy5 => (intro w hSw; (try dsimp only at hSw); skip; go_simp; try with_reducible rfl)
  try simp only [Act.put]
  refine wpAnyL_take (i := 6) (v := ?v6) rfl (by kernel_rfl) (fun _ _ _ h => h) (by assumption) (by rfl) ?hy6 ?hn6
  case hy6 => (intro w hSw; (try dsimp only at hSw); skip; go_simp; try with_reducible rfl)
  try simp only [Act.put]
  refine wpAnyL_take (i := 7) (v := ?v7) rfl (by kernel_rfl) (fun _ _ _ h => h) (by assumption) (by rfl) ?hy7 ?hn7
  case hy7 => (intro w hSw; (try dsimp only at hSw); skip; go_simp; try with_reducible rfl)
  try simp only [Act.put]
  refine wpAnyL_take (i := 8) (v := ?v8) rfl (by kernel_rfl) (fun _ _ _ h => h) (by assumption) (by rfl) ?hy8 ?hn8
  case hy8 => (intro w hSw; (try dsimp only at hSw); skip; go_simp; try with_reducible rfl)
  try simp only [Act.put]
  refine wpAnyL_take (i := 9) (v := ?v9) rfl (by kernel_rfl) (fun _ _ _ h => h) (by assumption) (by rfl) ?hy9 ?hn9
  case hy9 => (intro w hSw; (try dsimp only at hSw); skip; go_simp; try with_reducible rfl)
  try simp only [Act.put]
  refine wpAnyL_take (i := 10) (v := ?v10) rfl (by kernel_rfl) (fun _ _ _ h => h) (by assumption) (by rfl) ?hy10 ?hn10
  case hy10 => (intro w hSw; (try dsimp only at hSw); skip; go_simp; try with_reducible rfl)
  try simp only [Act.put]
  refine wpAnyL_take (i := 11) (v := ?v11) rfl (by kernel_rfl) (fun _ _ _ h => h) (by assumption) (by rfl) ?hy11 ?hn11
  case hy11 => (intro w hSw; (try dsimp only at hSw); skip; go_simp; try with_reducible rfl)
  try simp only [Act.put]
  refine wpAnyL_one (i := 12) rfl (by kernel_rfl) (fun K hK => ?_)
  go_simp
  have HBa : Hid (Below V.heap.size V (V.drew.alloc (.map #[] 0))) := hide ((Below.refl _ V).drew.alloc (Nat.le_refl _) _)
  have e2 : (V.drew.alloc (.map #[] 0)).cell? ⟨g, 2, none⟩ = some (.int .u64 (ms.now : Nat)) := (World.cell?_of_block (HBa.out.block _ (heap_lt HG1.out))).trans d2
  have e3 : (V.drew.alloc (.map #[] 0)).cell? ⟨g, 3, none⟩ = some (.int .i64 ((ms.last : Int) + 1)) := (World.cell?_of_block (HBa.out.block _ (heap_lt HG1.out))).trans d3
  have e4 : (V.drew.alloc (.map #[] 0)).cell? ⟨g, 4, none⟩ = some (.map (some ob)) := (World.cell?_of_block (HBa.out.block _ (heap_lt HG1.out))).trans d4
  refine hK.out _ _ ⟨e2, e3, e4⟩ (fun hHeld => ?_)
  clear hK K
  try simp only [Act.put]
  refine wpAnyL_take (i := 13) (v := ?v13) rfl (by kernel_rfl) (fun _ _ _ h => h) (by assumption) (by rfl) ?hy13 ?hn13
  case hy13 => (intro w hSw; (try dsimp only at hSw); skip; go_simp; try with_reducible rfl)
  try simp only [Act.put]
  refine wpAnyL_one (i := 14) rfl (by kernel_rfl) (fun K hK => ?_)
  go_simp
  have HBb : Hid (Below V.heap.size V ((V.drew.alloc (.map #[] 0)).alloc (.cells #[.int .u64 (ms.now : Nat), .slice none 0 0, .map (some V.heap.size)] 125))) := hide (HBa.out.alloc HBa.out.size _)
  have k2 : ((V.drew.alloc (.map #[] 0)).alloc (.cells #[.int .u64 (ms.now : Nat), .slice none 0 0, .map (some V.heap.size)] 125)).cell? ⟨g, 2, none⟩ = some (.int .u64 (ms.now : Nat)) := (World.cell?_of_block (HBb.out.block _ (heap_lt HG1.out))).trans d2
  have k3 : ((V.drew.alloc (.map #[] 0)).alloc (.cells #[.int .u64 (ms.now : Nat), .slice none 0 0, .map (some V.heap.size)] 125)).cell? ⟨g, 3, none⟩ = some (.int .i64 ((ms.last : Int) + 1)) := (World.cell?_of_block (HBb.out.block _ (heap_lt HG1.out))).trans d3
  have k4 : ((V.drew.alloc (.map #[] 0)).alloc (.cells #[.int .u64 (ms.now : Nat), .slice none 0 0, .map (some V.heap.size)] 125)).cell? ⟨g, 4, none⟩ = some (.map (some ob)) := (World.cell?_of_block (HBb.out.block _ (heap_lt HG1.out))).trans d4
  refine hK.out _ _ ⟨k2, k3, k4⟩ (fun hHeld => ?_)
  clear hK K
  try simp only [Act.put]
  have HZb : Hid (((V.alloc (.map #[] 0)).alloc (.cells #[.int .u64 (ms.now : Nat), .slice none 0 0, .map (some V.heap.size)] 125)).drew.heap.size = V.heap.size + 2) := hide (by show ((V.alloc (.map #[] 0)).alloc (.cells #[.int .u64 (ms.now : Nat), .slice none 0 0, .map (some V.heap.size)] 125)).heap.size = _; rw [World.size_alloc, World.size_alloc])
  have hpb := heap_alloc_new (V.alloc (.map #[] 0)) (.cells #[.int .u64 (ms.now : Nat), .slice none 0 0, .map (some V.heap.size)] 125)
  have hzz : (V.alloc (.map #[] 0)).heap.size = V.heap.size + 1 := by rw [World.size_alloc]
  rw [hzz] at hpb
  have HPB : Hid (((V.alloc (.map #[] 0)).alloc (.cells #[.int .u64 (ms.now : Nat), .slice none 0 0, .map (some V.heap.size)] 125)).drew.heap[V.heap.size + 1]? = some (.cells #[.int .u64 (ms.now : Nat), .slice none 0 0, .map (some V.heap.size)] 125 (0, 0))) := hide hpb
  have HBc : Hid (Below V.heap.size V ((V.alloc (.map #[] 0)).alloc (.cells #[.int .u64 (ms.now : Nat), .slice none 0 0, .map (some V.heap.size)] 125)).drew) := hide HBb.out
  clear HBb
  have HWB : Hid (((V.alloc (.map #[] 0)).alloc (.cells #[.int .u64 (ms.now : Nat), .slice none 0 0, .map (some V.heap.size)] 125)).drew.ownsMap Tryz.prog 9 heldR V.heap.size 0 (.map [])) := hide (World.ownsMap.drew (World.ownsMap.alloc (World.ownsMap_made V Tryz.prog 9 heldR) _))
  have HOB := hide (map_kept HOW.out (HBc.out.block ob (World.ownsMap.lt HOW.out)))
  clear hpb hzz k2 k3 k4 e2 e3 e4 d2 d3 d4
  generalize ((V.alloc (.map #[] 0)).alloc (.cells #[.int .u64 (ms.now : Nat), .slice none 0 0, .map (some V.heap.size)] 125)).drew = W3 at *
  obtain ⟨w4, hst, how4, hmt⟩ := HOB.out.store kint Tryz.underlying95 (by have := HM.out.few; unfold maxLen; omega) (key_int (t := (ms.last : Int) + 1) (by have := HLT.out; omega)) (val := .pointer (some ⟨V.heap.size + 1, 0, none⟩)) (d := .held (.pointer (some ⟨V.heap.size + 1, 0, none⟩))) (ps := []) rfl
  have HOW4 := hide how4
  have HMT := hide hmt
  clear how4 hmt
  refine wpAnyL_last rfl (by kernel_rfl) (by kernel_rfl) (fun K hK => ?_)
  go_simp
  refine hK.out _ _ ?_
  clear hK K hHeld
  have hbk : ∀ i, i < V.heap.size → i ≠ ob → w4.heap[i]? = V.heap[i]? := fun i hi hn => ((HMT.out.grown).block i (by rw [HZb.out]; omega) (by simpa using hn)).trans (HBc.out.block i hi)
  have hz4 : W3.heap.size ≤ w4.heap.size := HMT.out.grown.size
  have hg4 : w4.heap[g]? = some (.cells #[.slice a n c, .int .u64 (ms.low : Nat), .int .u64 (ms.now : Nat), .int .i64 ((ms.last : Int) + 1), .map (some ob)] 97 (0, 0)) := (hbk g (heap_lt HG1.out) hne).trans HG1.out
  have HF4 : Hid (Frm (fun i => i = g ∨ i = ob) w w4) := hide ⟨by rw [HMT.out.grown.os, HBc.out.os, HF1.out.os], by rw [HMT.out.grown.tape, HBc.out.tape, HF1.out.tape], by rw [HMT.out.grown.output, HBc.out.output, HF1.out.output], by have := HZb.out; have := HZ1.out; omega, fun i hi hn => (hbk i (by rw [HZ1.out]; exact hi) (fun e => hn (.inr e))).trans (HF1.out.block i hi hn)⟩
  have HIS : Hid (IsM w4 g ob (ps ++ [⟨V.heap.size + 1, V.heap.size, .slice none 0 0⟩]) ms.begun) := hide (begun_isM HM.out V.heap.size HZ1.out (by have := HM.out.few; omega) HLT.out
    (fun a' n' c' e => by
      have e2 := HHB.out.symm.trans e
      simp only [Option.some.injEq, Obj.cells.injEq, Array.mk.injEq, List.cons.injEq, Value.slice.injEq] at e2
      obtain ⟨⟨⟨rfl, rfl, rfl⟩, _⟩, _⟩ := e2
      exact hg4)
    (((HMT.out.grown).block _ (by rw [HZb.out]; omega) (by
      have h1 := HM.out.ltS (.inr (.inl rfl)); have h2 := HZ1.out; simp; omega)).trans HPB.out)
    (map_kept HWB.out ((HMT.out.grown).block _ (by rw [HZb.out]; omega) (by
      have h1 := HM.out.ltS (.inr (.inl rfl)); have h2 := HZ1.out; simp; omega)))
    HD.out (HOB.out.tidy kint) HOB.out.isMap HOW4.out
    (fun i hi h1 h2 => (hbk i (by rw [HZ1.out]; exact hi) h2).trans (HF1.out.block i hi (fun e => e.elim h1 h2)))
    (by have := HZb.out; omega))
  have l3 : w4.cell? ⟨g, 3, none⟩ = some (.int .i64 ((ms.last : Int) + 1)) := cell_blk hg4 rfl
  have HPW : Hid (w.heap.size ≤ V.heap.size + 1 ∧ w.heap.size ≤ V.heap.size) := hide (by have := HZ1.out; omega)
  have HVN : Hid (∀ b, VB w4 g b → VB w g b) := hide (fun b h => h.of hg4 HHB.out)
  clear hbk hz4 hg4 HMT HOW4 HBc HZb HPB HWB HOB
  go_wp2
  go_ret2
  exact ⟨V.heap.size + 1, V.heap.size, rfl, HIS.out, HF4.out, HPW.out.1, HPW.out.2, HVN.out⟩
end Go.Proofs.YtlkmcbelmldleaaGreat
/- a transaction's writes: refused -/
namespace Go.Proofs.YtlkmcbelmldleaaGreat
open Go.RowKit
open Go.Maps (Keyed has size)
set_option maxRecDepth 40000
set_option maxHeartbeats 1000000 in
theorem write_no (w : World) (g ob : Nat) (ps : List Pl) (ms : Mg) (h : IsM w g ob ps ms) (t : Int) (ht : -9223372036854775808 ≤ t ∧ t ≤ 9223372036854775807) (hn : ∀ x ∈ ms.opn, ¬ (x.1 : Int) = t) (a b : ByteArray) (c : Bool) :
    Calls Tryz.prog 60 #[.pointer (some ⟨g, 0, none⟩), .int .i64 t, .agg #[.string a, .string b, .bool c]] w fun e w' => e = .returned (.int .i64 11) ∧ Below w.heap.size w w' := by
  have HB : Hid (Below w.heap.size w (w.alloc (.cells #[.string a, .string b, .bool c] 64))) := hide ((Below.refl _ w).alloc (Nat.le_refl _) _)
  have HF := hide (find_no _ g ob ps ms (h.below HB.out) t ht hn)
  clear h ht hn
  go_enter Tryz.func60, Tryz.ntmps60
  go_wp2_with fail
  refine HF.out.mono ?_
  rintro e w' ⟨rfl, rfl⟩
  go_wp2
  go_ret
  exact ⟨rfl, HB.out⟩
set_option maxHeartbeats 1000000 in
theorem write_long (w : World) (g ob : Nat) (ps : List Pl) (ms : Mg) (h : IsM w g ob ps ms) (i n : Nat) (tr : Tr) (l : Pl) (h1 : ms.opn[i]? = some (n, tr)) (h2 : ps[i]? = some l) (a b : ByteArray) (c : Bool) (hl : 256 < a.size ∨ 512 < b.size) :
    Calls Tryz.prog 60 #[.pointer (some ⟨g, 0, none⟩), .int .i64 (n : Int), .agg #[.string a, .string b, .bool c]] w fun e w' => e = .returned (.int .i64 4) ∧ Below w.heap.size w w' := by
  have HB : Hid (Below w.heap.size w (w.alloc (.cells #[.string a, .string b, .bool c] 64))) := hide ((Below.refl _ w).alloc (Nat.le_refl _) _)
  have HF := hide (find_yes _ g ob ps ms (h.below HB.out) i n tr l h1 h2)
  clear h h1 h2
  by_cases ha : 256 < a.size
  · have haI : (256 : Int) < (a.size : Int) := by omega
    clear hl
    go_enter Tryz.func60, Tryz.ntmps60
    go_wp2_with fail
    refine HF.out.mono ?_
    rintro e w' ⟨rfl, rfl⟩
    go_wp2
    go_ret
    exact ⟨rfl, HB.out⟩
  · have haI : ¬ (256 : Int) < (a.size : Int) := by omega
    have hb : 512 < b.size := by omega
    have hbI : (512 : Int) < (b.size : Int) := by omega
    clear hl
    go_enter Tryz.func60, Tryz.ntmps60
    go_wp2_with fail
    refine HF.out.mono ?_
    rintro e w' ⟨rfl, rfl⟩
    go_wp2
    go_ret
    exact ⟨rfl, HB.out⟩
end Go.Proofs.YtlkmcbelmldleaaGreat
/- a write more among a transaction's -/
namespace Go.Proofs.YtlkmcbelmldleaaGreat
open Go.RowKit
open Go.Maps (Keyed has size)
set_option maxRecDepth 40000
/-- writes with one more, in its key's place -/
def putW (l : List Wt) (x : Wt) : List Wt := l.filter (fun y => Op.bytesLess y.key.toList x.key.toList) ++ x :: l.filter (fun y => Op.bytesLess x.key.toList y.key.toList)
theorem mem_putW {l : List Wt} {x y : Wt} : y ∈ putW l x ↔ y = x ∨ (y ∈ l ∧ ¬ y.key.toList = x.key.toList) := by
  unfold putW
  simp only [List.mem_append, List.mem_cons, List.mem_filter]
  constructor
  · rintro (⟨h1, h2⟩ | h | ⟨h1, h2⟩)
    · refine .inr ⟨h1, fun e => ?_⟩
      rw [e, less_irrefl] at h2; cases h2
    · exact .inl h
    · refine .inr ⟨h1, fun e => ?_⟩
      rw [e, less_irrefl] at h2; cases h2
  · rintro (h | ⟨h1, h2⟩)
    · exact .inr (.inl h)
    · cases h3 : Op.bytesLess y.key.toList x.key.toList
      · cases h4 : Op.bytesLess x.key.toList y.key.toList
        · exact absurd (less_tri _ _ h3 h4) h2
        · exact .inr (.inr ⟨h1, by simp⟩)
      · exact .inl ⟨h1, by simp⟩
theorem putW_srt {l : List Wt} (h : SrtW l) (x : Wt) : SrtW (putW l x) := by
  unfold putW SrtW
  rw [List.pairwise_append]
  refine ⟨List.Pairwise.filter _ h, ?_, ?_⟩
  · rw [List.pairwise_cons]
    exact ⟨fun y hy => (List.mem_filter.1 hy).2, List.Pairwise.filter _ h⟩
  · intro y hy z hz
    have h1 := (List.mem_filter.1 hy).2
    rcases List.mem_cons.1 hz with rfl | hz
    · exact h1
    · exact less_trans _ _ _ h1 (List.mem_filter.1 hz).2
/-- whether a key is written -/
def hasW (l : List Wt) (k : ByteArray) : Bool := l.any (fun y => y.key.toList == k.toList)
theorem putW_len (x : Wt) : ∀ {l : List Wt}, SrtW l → (putW l x).length = if hasW l x.key = true then l.length else l.length + 1 := by
  have key : ∀ l : List Wt, (putW l x).length + (l.filter (fun y => y.key.toList == x.key.toList)).length = l.length + 1 := by
    intro l
    induction l with
    | nil => rfl
    | cons y r ih =>
      unfold putW at ih ⊢
      simp only [List.length_append, List.length_cons, List.filter_cons] at ih ⊢
      cases h1 : Op.bytesLess y.key.toList x.key.toList
      · cases h2 : Op.bytesLess x.key.toList y.key.toList
        · have e := less_tri _ _ h1 h2
          simp [e] at ih ⊢; omega
        · have hne : (y.key.toList == x.key.toList) = false := by
            simp; intro e; rw [e, less_irrefl] at h2; cases h2
          simp [hne] at ih ⊢; omega
      · have h2 := less_asymm _ _ h1
        have hne : (y.key.toList == x.key.toList) = false := by
          simp; intro e; rw [e, less_irrefl] at h1; cases h1
        simp [h2, hne] at ih ⊢; omega
  intro l hs
  have hk := key l
  have hle : (l.filter (fun y => y.key.toList == x.key.toList)).length ≤ 1 := by
    have hp : (l.filter (fun y => y.key.toList == x.key.toList)).Pairwise (fun a b => Op.bytesLess a.key.toList b.key.toList = true) := List.Pairwise.filter _ hs
    match hq : l.filter (fun y => y.key.toList == x.key.toList) with
    | [] => rw [hq]; simp
    | [_] => rw [hq]; simp
    | a :: b :: r =>
      rw [hq] at hp
      have h1 := (List.pairwise_cons.1 hp).1 b (by simp)
      have ma : a ∈ l.filter (fun y => y.key.toList == x.key.toList) := by rw [hq]; simp
      have mb : b ∈ l.filter (fun y => y.key.toList == x.key.toList) := by rw [hq]; simp
      have ea := eq_of_beq (List.mem_filter.1 ma).2
      have eb := eq_of_beq (List.mem_filter.1 mb).2
      rw [ea, eb, less_irrefl] at h1; cases h1
  by_cases hw : hasW l x.key = true
  · rw [if_pos hw]
    obtain ⟨y, hy, hye⟩ := List.any_eq_true.1 hw
    have : 0 < (l.filter (fun y => y.key.toList == x.key.toList)).length := List.length_pos_of_mem (List.mem_filter.2 ⟨hy, hye⟩)
    omega
  · rw [if_neg hw]
    have : l.filter (fun y => y.key.toList == x.key.toList) = [] := List.filter_eq_nil_iff.2 (fun y hy hye => hw (List.any_eq_true.2 ⟨y, hy, hye⟩))
    rw [this] at hk
    simpa using hk
theorem kS_inj {a b : ByteArray} (h : kS a = kS b) : a = b := by
  unfold kS at h
  injection h with h
  cases a; cases b
  simp only at h
  congr
  exact Array.toList_inj.1 h
theorem wsd_has {D : DataW Value} {ws : List Wt} (h : WsD D ws) (k : ByteArray) : has D (kS k) = hasW ws k := by
  cases hq : has D (kS k)
  · cases hw : hasW ws k
    · rfl
    · obtain ⟨y, hy, hye⟩ := List.any_eq_true.1 hw
      have e := str_inj (eq_of_beq hye)
      have := (h.all y hy).1
      rw [e, hq] at this; cases this
  · obtain ⟨x, hx, e⟩ := h.just _ hq
    have e' := kS_inj e
    rw [e']
    exact (List.any_eq_true.2 ⟨x, hx, by simp⟩).symm
theorem wsd_put {D : DataW Value} {ws : List Wt} (h : WsD D ws) (hT : Go.Maps.Tidy D) (hI : Go.Maps.IsMap D) (x : Wt) : WsD (D.put (kS x.key) (.held (wv x))) (putW ws x) := by
  have hkey : WideAt.IsKeyLit (kS x.key) := trivial
  refine ⟨putW_srt h.srt x, ?_, fun y hy => ?_, fun kl hkl => ?_⟩
  · rw [Go.Maps.size_put hT, wsd_has h, h.len, putW_len x h.srt]
  · rcases mem_putW.1 hy with rfl | ⟨h1, h2⟩
    · exact ⟨Go.Maps.has_put_same hI hkey _, fun z => Go.Maps.atKey_put_same hI hkey _ z⟩
    · have hne : kS y.key ≠ kS x.key := fun e => h2 (by rw [kS_inj e])
      exact ⟨by rw [Go.Maps.has_put_other hne]; exact (h.all y h1).1, fun z => by rw [Go.Maps.atKey_put_other hne]; exact (h.all y h1).2 z⟩
  · by_cases hke : kl = kS x.key
    · exact ⟨x, mem_putW.2 (.inl rfl), hke⟩
    · rw [Go.Maps.has_put_other hke] at hkl
      obtain ⟨y, hy, e⟩ := h.just kl hkl
      exact ⟨y, mem_putW.2 (.inr ⟨hy, fun e' => hke (by rw [e, str_inj e'])⟩), e⟩
end Go.Proofs.YtlkmcbelmldleaaGreat
/- a manager one of whose transactions has turned -/
namespace Go.Proofs.YtlkmcbelmldleaaGreat
open Go.RowKit
open Go.Maps (Keyed has size)
set_option maxRecDepth 40000
theorem get_set {α : Type} {l : List α} {i j : Nat} {x y : α} (h : (l.set i x)[j]? = some y) : (j = i ∧ y = x ∧ i < l.length) ∨ (j ≠ i ∧ l[j]? = some y) := by
  by_cases hj : i = j
  · subst hj
    rw [List.getElem?_set_self'] at h
    cases hq : l[i]? with
    | none => rw [hq] at h; cases h
    | some z =>
      rw [hq] at h
      simp at h
      exact .inl ⟨rfl, h.symm, (List.getElem?_eq_some_iff.1 hq).1⟩
  · rw [List.getElem?_set_ne hj] at h
    exact .inr ⟨fun e => hj e.symm, h⟩
theorem pair_apart {ps : List Pl} (h : ps.Pairwise (fun x y => ∀ i, x.has i → ¬ y.has i)) {i j : Nat} {x y : Pl} (hi : ps[i]? = some x) (hj : ps[j]? = some y) (hne : i ≠ j) : ∀ k, x.has k → ¬ y.has k := by
  obtain ⟨a1, rfl⟩ := List.getElem?_eq_some_iff.1 hi
  obtain ⟨b1, rfl⟩ := List.getElem?_eq_some_iff.1 hj
  rcases Nat.lt_or_gt_of_ne hne with h1 | h1
  · exact List.pairwise_iff_getElem.1 h i j a1 b1 h1
  · intro k h2 h3
    exact List.pairwise_iff_getElem.1 h j i b1 a1 h1 k h3 h2
/-- a manager with a transaction changed -/
def Mg.turn (ms : Mg) (i n : Nat) (tr : Tr) : Mg := { ms with opn := ms.opn.set i (n, tr) }
/-- only blocks of the one, and new ones, have turned -/
theorem turn_isM {w w' : World} {g ob : Nat} {ps : List Pl} {ms : Mg} (h : IsM w g ob ps ms) {i n : Nat} {tr tr' : Tr} {l l' : Pl} (h1 : ms.opn[i]? = some (n, tr)) (h2 : ps[i]? = some l) (hp : l'.p = l.p)
    (hs : w.heap.size ≤ w'.heap.size) (hk : ∀ j, j < w.heap.size → ¬ l.has j → w'.heap[j]? = w.heap[j]?) (hn : ∀ j, l'.has j → l.has j ∨ w.heap.size ≤ j) (hX : IsX w' l'.p l'.wb l'.rv tr') : IsM w' g ob (ps.set i l') (ms.turn i n tr') := by
  obtain ⟨a, m, c, v1, v2, v3, v4⟩ := h.ver
  obtain ⟨D, hD, hO⟩ := h.map
  have hl := List.mem_of_getElem? h2
  have hfar := h.far l hl
  have hgl := h.ltS (.inl rfl)
  have hol := h.ltS (.inr (.inl rfl))
  have hmem : ∀ q, q ∈ ps.set i l' → q = l' ∨ q ∈ ps := fun q hq => by
    obtain ⟨j, hj⟩ := List.mem_iff_getElem?.1 hq
    rcases get_set hj with ⟨_, e, _⟩ | ⟨_, e⟩
    · exact .inl e
    · exact .inr (List.mem_of_getElem? e)
  have hSM : ∀ b, b < w.heap.size → ¬ SM g ob ps b → ¬ SM g ob (ps.set i l') b := by
    rintro b hb hnb (rfl | rfl | ⟨q, hq, hi⟩)
    · exact hnb (.inl rfl)
    · exact hnb (.inr (.inl rfl))
    · rcases hmem q hq with rfl | hq
      · rcases hn b hi with h' | h'
        · exact hnb (.inr (.inr ⟨l, hl, h'⟩))
        · omega
      · exact hnb (.inr (.inr ⟨q, hq, hi⟩))
  refine ⟨⟨a, m, c, (hk g hgl hfar.1).trans v1, v2.keptB hs (fun b off h0 e hlt => hk b hlt (fun hh => v4 b off h0 e (.inr (.inr ⟨l, hl, hh⟩)))), v3, fun b off h0 e => ?_⟩, ⟨D, ?_, ?_⟩, ?_, ?_, ?_, h.last, ?_, ?_⟩
  · obtain ⟨b', off', e', hlt', _⟩ := v2.2.2.2 0 h0
    rw [e] at e'
    cases e'
    exact hSM b hlt' (v4 b off h0 e)
  · have e : (ms.turn i n tr').opn.length = ms.opn.length := by simp [Mg.turn]
    rw [e]
    exact map_kept hD (hk ob hol hfar.2)
  · refine ⟨?_, by simp [Mg.turn, hO.one], by simp [Mg.turn, hO.len], fun j n2 t2 l2 q1 q2 => ?_, fun kl hkl => ?_⟩
    · have hs := hO.srt
      rw [List.pairwise_iff_getElem] at hs ⊢
      have hfst : ∀ j (hj : j < (ms.turn i n tr').opn.length), ((ms.turn i n tr').opn[j]).1 = (ms.opn[j]'(by simpa [Mg.turn] using hj)).1 := by
        intro j hj
        simp only [Mg.turn, List.getElem_set]
        split
        · next e => subst e; have := (List.getElem?_eq_some_iff.1 h1).2; rw [this]
        · rfl
      intro j k hj hk' hjk
      rw [hfst j hj, hfst k hk']
      exact hs j k _ _ hjk
    · rcases get_set q2 with ⟨rfl, rfl, _⟩ | ⟨hne, q2'⟩
      · rcases get_set (show (ms.opn.set j (n, tr'))[j]? = some (n2, t2) from q1) with ⟨_, e, _⟩ | ⟨hh, _⟩
        · cases e
          rw [hp]
          exact hO.all j n tr l h1 h2
        · exact absurd rfl hh
      · rcases get_set (show (ms.opn.set i (n, tr'))[j]? = some (n2, t2) from q1) with ⟨e, _⟩ | ⟨_, q1'⟩
        · exact absurd e hne
        · exact hO.all j n2 t2 l2 q1' q2'
    · obtain ⟨x, hx, e⟩ := hO.just kl hkl
      obtain ⟨j, hj⟩ := List.mem_iff_getElem?.1 hx
      by_cases hji : j = i
      · subst hji
        rw [h1] at hj
        cases hj
        refine ⟨(n, tr'), List.mem_of_getElem? (i := j) ?_, e⟩
        show (ms.opn.set j (n, tr'))[j]? = _
        rw [List.getElem?_set_self (List.getElem?_eq_some_iff.1 h1).1]
      · refine ⟨x, List.mem_of_getElem? (i := j) ?_, e⟩
        show (ms.opn.set i (n, tr'))[j]? = _
        rw [List.getElem?_set_ne (fun e => hji e.symm)]
        exact hj
  · intro j n2 t2 l2 q1 q2
    rcases get_set q2 with ⟨rfl, rfl, _⟩ | ⟨hne, q2'⟩
    · rcases get_set (show (ms.opn.set j (n, tr'))[j]? = some (n2, t2) from q1) with ⟨_, e, _⟩ | ⟨hh, _⟩
      · cases e; exact hX
      · exact absurd rfl hh
    · rcases get_set (show (ms.opn.set i (n, tr'))[j]? = some (n2, t2) from q1) with ⟨e, _⟩ | ⟨_, q1'⟩
      · exact absurd e hne
      · have hx := h.each j n2 t2 l2 q1' q2'
        exact hx.kept (fun k hkk => hk k (hx.lt hkk) (pair_apart h.apart q2' h2 hne k hkk))
  · rw [List.pairwise_iff_getElem]
    intro j k hj hk' hjk b hb1 hb2
    have e1 := List.getElem?_eq_getElem hj
    have e2 := List.getElem?_eq_getElem hk'
    rcases get_set e1 with ⟨r1, r2, _⟩ | ⟨r1, r2⟩ <;> rcases get_set e2 with ⟨s1, s2, _⟩ | ⟨s1, s2⟩
    · omega
    · rw [r2] at hb1
      have hlt := h.ltS (.inr (.inr ⟨_, List.mem_of_getElem? s2, hb2⟩))
      rcases hn b hb1 with h' | h'
      · exact pair_apart h.apart h2 s2 (fun e => s1 e.symm) b h' hb2
      · omega
    · rw [s2] at hb2
      have hlt := h.ltS (.inr (.inr ⟨_, List.mem_of_getElem? r2, hb1⟩))
      rcases hn b hb2 with h' | h'
      · exact pair_apart h.apart r2 h2 r1 b hb1 h'
      · omega
    · exact pair_apart h.apart r2 s2 (by omega) b hb1 hb2
  · intro q hq
    rcases hmem q hq with rfl | hq
    · refine ⟨fun hh => ?_, fun hh => ?_⟩
      · rcases hn g hh with h' | h'
        · exact hfar.1 h'
        · omega
      · rcases hn ob hh with h' | h'
        · exact hfar.2 h'
        · omega
    · exact h.far q hq
  · intro x hx
    obtain ⟨j, hj⟩ := List.mem_iff_getElem?.1 hx
    rcases get_set (show (ms.opn.set i (n, tr'))[j]? = some x from hj) with ⟨_, e, _⟩ | ⟨_, e⟩
    · rw [e]; exact h.nums (n, tr) (List.mem_of_getElem? h1)
    · exact h.nums x (List.mem_of_getElem? e)
  · simpa [Mg.turn] using h.few
end Go.Proofs.YtlkmcbelmldleaaGreat
/- a key looked up among a transaction's writes -/
namespace Go.Proofs.YtlkmcbelmldleaaGreat
open Go.RowKit
open Go.Maps (Keyed has size)
set_option maxRecDepth 40000
theorem zero64 (W : World) : (zeroValue 64).run Tryz.prog W = .ok (.agg #[.string ⟨#[]⟩, .string ⟨#[]⟩, .bool false]) W := Tryz.zeroValue64 W
theorem key_str {a : ByteArray} (h : a.size ≤ 256) : keyOf Tryz.prog 9 (.string a) = some (kS a) := Go.WideMaps.keyOf_string_mk Tryz.underlying9 (by unfold maxLen; omega)
/-- what is found at a key -/
def atW (ws : List Wt) (a : ByteArray) : Value := match ws.find? (fun y => y.key.toList == a.toList) with
  | some x => wv x
  | none => .agg #[.string ⟨#[]⟩, .string ⟨#[]⟩, .bool false]
theorem look_ws {W : World} {wb n : Nat} {D : DataW Value} {ws : List Wt} (h : W.ownsMap Tryz.prog 9 heldR wb n D) (hD : WsD D ws) {a : ByteArray} (ha : a.size ≤ 256) :
    (Instr.lookup 122 (.map (some wb)) (.string a) true).run Tryz.prog W = .ok (.tuple #[atW ws a, .bool (hasW ws a)]) W := by
  obtain ⟨v, qs, hrun, hv⟩ := h.look_ok kstr Tryz.underlying122 (zero64 W) (zd := .held (.agg #[.string ⟨#[]⟩, .string ⟨#[]⟩, .bool false])) (zp := []) rfl (key_str ha)
  rw [wsd_has hD] at hrun
  rw [hrun]
  have e : v = atW ws a := by
    simp only [heldR, Option.some.injEq, Prod.mk.injEq] at hv
    have hv := hv.1
    unfold atW
    cases hq : ws.find? (fun y => y.key.toList == a.toList) with
    | some x =>
      have e0 : (x.key.toList == a.toList) = true := by simpa using List.find?_some hq
      have e1 := str_inj (eq_of_beq e0)
      have e2 := (hD.all x (List.mem_of_find?_eq_some hq)).2 (.held (.agg #[.string ⟨#[]⟩, .string ⟨#[]⟩, .bool false]))
      rw [e1] at e2
      rw [e2] at hv
      injection hv
    | none =>
      have hn : has D (kS a) = false := by
        rw [wsd_has hD]
        cases hw : hasW ws a
        · rfl
        · obtain ⟨y, hy, hye⟩ := List.any_eq_true.1 hw
          exact absurd hye (by simpa using List.find?_eq_none.1 hq y hy)
      rw [Go.Maps.atKey_of_not_has hn] at hv
      injection hv
  rw [e]
end Go.Proofs.YtlkmcbelmldleaaGreat
/- a write: too many -/
namespace Go.Proofs.YtlkmcbelmldleaaGreat
open Go.RowKit
open Go.Maps (Keyed has size)
set_option maxRecDepth 40000
set_option maxHeartbeats 2000000 in
theorem write_many (w : World) (g ob : Nat) (ps : List Pl) (ms : Mg) (h : IsM w g ob ps ms) (i n : Nat) (tr : Tr) (l : Pl) (h1 : ms.opn[i]? = some (n, tr)) (h2 : ps[i]? = some l) (a b : ByteArray) (c : Bool) (ha : a.size ≤ 256) (hb : b.size ≤ 512) (hw : hasW tr.ws a = false) (hl : tr.ws.length = 256) :
    Calls Tryz.prog 60 #[.pointer (some ⟨g, 0, none⟩), .int .i64 (n : Int), .agg #[.string a, .string b, .bool c]] w fun e w' => e = .returned (.int .i64 3) ∧ Below w.heap.size w w' := by
  have HB : Hid (Below w.heap.size w (w.alloc (.cells #[.string a, .string b, .bool c] 64))) := hide ((Below.refl _ w).alloc (Nat.le_refl _) _)
  have HM := hide (h.below HB.out)
  have HF := hide (find_yes _ g ob ps ms HM.out i n tr l h1 h2)
  have haI : ¬ (256 : Int) < (a.size : Int) := by omega
  have hbI : ¬ (512 : Int) < (b.size : Int) := by omega
  have HX := hide (HM.out.each i n tr l h1 h2)
  have HN := hide (heap_alloc_new w (.cells #[.string a, .string b, .bool c] 64))
  have HZ : Hid ((w.alloc (.cells #[.string a, .string b, .bool c] 64)).heap.size = w.heap.size + 1) := hide (by rw [World.size_alloc])
  have hmix := mixed
  have HXl : Hid (l.p < w.heap.size ∧ l.wb < w.heap.size) := hide ⟨(h.each i n tr l h1 h2).lt (.inl rfl), (h.each i n tr l h1 h2).lt (.inr (.inl rfl))⟩
  clear h h1 h2
  go_enter Tryz.func60, Tryz.ntmps60
  go_wp2_with fail
  refine HF.out.mono ?_
  rintro e w' ⟨rfl, rfl⟩
  go_wp2_with fail
  generalize hV1 : (w.alloc (.cells #[.string a, .string b, .bool c] 64)) = V at *
  clear hV1 HF
  obtain ⟨D, hown, hD⟩ := HX.out.map
  have HO := hide hown
  have HD := hide hD
  clear hown hD
  have hS : ∀ W : World, Below V.heap.size V W → W.cell? ⟨l.p, 2, none⟩ = some (.map (some l.wb)) ∧ W.cell? ⟨w.heap.size, 0, none⟩ = some (.string a) ∧ (Instr.lookup 122 (.map (some l.wb)) (.string a) true).run Tryz.prog W = .ok (.tuple #[atW tr.ws a, .bool false]) W := fun W hW => by
    have q1 := hW.block l.p (by have := HXl.out; have := HZ.out; omega)
    have q2 := hW.block w.heap.size (by have := HZ.out; omega)
    have q3 := hW.block l.wb (by have := HXl.out; have := HZ.out; omega)
    refine ⟨cell_blk (q1.trans HX.out.blk) rfl, cell_blk (q2.trans HN.out) rfl, ?_⟩
    have := look_ws (map_kept HO.out q3) HD.out ha
    rw [hw] at this
    exact this
  have HS := hide hS
  clear hS
  refine wp_region_last 12 (fun W' : World => W'.cell? ⟨l.p, 2, none⟩ = some (.map (some l.wb)) ∧ W'.cell? ⟨w.heap.size, 0, none⟩ = some (.string a) ∧ (Instr.lookup 122 (.map (some l.wb)) (.string a) true).run Tryz.prog W' = .ok (.tuple #[atW tr.ws a, .bool false]) W') hmix (HS.out V.drew (Below.refl _ V).drew) (fun hHeld => ?_)
  refine wpAnyL_take (i := 0) (v := ?v0) rfl (by kernel_rfl) (fun _ _ _ h => h) (by assumption) (by rfl) ?hy0 ?hn0
  case hy0 => (intro w hSw; (try dsimp only at hSw); skip; go_simp; try with_reducible rfl)
  try simp only [Act.put]
  refine wpAnyL_take (i := 1) (v := ?v1) rfl (by kernel_rfl) (fun _ _ _ h => h) (by assumption) (by rfl) ?hy1 ?hn1
  case hy1 => (intro w hSw; (try dsimp only at hSw); skip; go_simp; try with_reducible rfl)
  try simp only [Act.put]
  refine wpAnyL_take (i := 2) (v := ?v2) rfl (by kernel_rfl) (fun _ _ _ h => h) (by assumption) (by rfl) ?hy2 ?hn2
  case hy2 => (intro w hSw; (try dsimp only at hSw); skip; go_simp; try with_reducible rfl)
  try simp only [Act.put]
  refine wpAnyL_take (i := 3) (v := ?v3) rfl (by kernel_rfl) (fun _ _ _ h => h) (by assumption) (by rfl) ?hy3 ?hn3
  case hy3 => (intro w hSw; (try dsimp only at hSw); skip; go_simp; try with_reducible rfl)
  try simp only [Act.put]
  refine wpAnyL_take (i := 4) (v := ?v4) rfl (by kernel_rfl) (fun _ _ _ h => h) (by assumption) (by rfl) ?hy4 ?hn4
  case hy4 => (intro w hSw; (try dsimp only at hSw); skip; go_simp; try with_reducible rfl)
  try simp only [Act.put]
  refine wpAnyL_take (i := 5) (v := ?v5) rfl (by kernel_rfl) (fun _ _ _ h => h) (by assumption) (by rfl) ?hy5 ?hn5
  case hy5 => (intro w hSw; (try dsimp only at hSw); skip; go_simp; try with_reducible rfl)
  try simp only [Act.put]
  refine wpAnyL_take (i := 6) (v := ?v6) rfl (by kernel_rfl) (fun _ _ _ h => h) (by assumption) (by rfl) ?hy6 ?hn6
  case hy6 => (intro w hSw; (try dsimp only at hSw); skip; go_simp; try with_reducible rfl)
  try simp only [Act.put]
  refine wpAnyL_take (i := 7) (v := ?v7) rfl (by kernel_rfl) (fun _ _ _ h => h) (by assumption) (by rfl) ?hy7 ?hn7
  case hy7 => (intro w hSw; (try dsimp only at hSw); skip; go_simp; try with_reducible rfl)
  try simp only [Act.put]
  refine wpAnyL_take (i := 8) (v := ?v8) rfl (by kernel_rfl) (fun _ _ _ h => h) (by assumption) (by rfl) ?hy8 ?hn8
  case hy8 => (intro w hSw; (try dsimp only at hSw); skip; go_simp; try with_reducible rfl)
  try simp only [Act.put]
  refine wpAnyL_take (i := 9) (v := ?v9) rfl (by kernel_rfl) (fun _ _ _ h => h) (by assumption) (by rfl) ?hy9 ?hn9
  case hy9 => (intro w hSw; (try dsimp only at hSw); skip; go_simp; try with_reducible rfl)
  try simp only [Act.put]
  refine wpAnyL_one (i := 10) rfl (by kernel_rfl) (fun K hK => ?_)
  go_simp
  have HBa : Hid (Below V.heap.size V (V.alloc (.cells #[.string ⟨#[]⟩, .string ⟨#[]⟩, .bool false] 64)).drew) := hide ((Below.refl _ V).alloc (Nat.le_refl _) _).drew
  have HNa : Hid ((V.alloc (.cells #[.string ⟨#[]⟩, .string ⟨#[]⟩, .bool false] 64)).drew.heap[V.heap.size]? = some (.cells #[.string ⟨#[]⟩, .string ⟨#[]⟩, .bool false] 64 (0, 0))) := hide (heap_alloc_new V (.cells #[.string ⟨#[]⟩, .string ⟨#[]⟩, .bool false] 64))
  refine hK.out _ _ (HS.out _ HBa.out) (fun hHeld => ?_)
  clear hK K
  try simp only [Act.put]
  generalize (V.alloc (.cells #[.string ⟨#[]⟩, .string ⟨#[]⟩, .bool false] 64)).drew = W2 at *
  have z0 : W2.cell? ⟨V.heap.size, 0, none⟩ = some (.string ⟨#[]⟩) := cell_blk HNa.out rfl
  have z1 : W2.cell? ⟨V.heap.size, 1, none⟩ = some (.string ⟨#[]⟩) := cell_blk HNa.out rfl
  have z2 : W2.cell? ⟨V.heap.size, 2, none⟩ = some (.bool false) := cell_blk HNa.out rfl
  have f0 : W2.frozen? ⟨V.heap.size, 0, none⟩ = false := frz HNa.out 0
  have f1 : W2.frozen? ⟨V.heap.size, 1, none⟩ = false := frz HNa.out 1
  have f2 : W2.frozen? ⟨V.heap.size, 2, none⟩ = false := frz HNa.out 2
  obtain ⟨k0, v0, g0, hat⟩ : ∃ k v gn, atW tr.ws a = .agg #[.string k, .string v, .bool gn] := by
    unfold atW
    split
    · exact ⟨_, _, _, rfl⟩
    · exact ⟨_, _, _, rfl⟩
  rw [hat]
  refine wpAnyL_one (i := 11) rfl (by kernel_rfl) (fun K hK => ?_)
  go_simp
  have HBc : Hid (Below V.heap.size V (((W2.setCell ⟨V.heap.size, 0, none⟩ (.string k0)).setCell ⟨V.heap.size, 1, none⟩ (.string v0)).setCell ⟨V.heap.size, 2, none⟩ (.bool g0))) := hide (((HBa.out.setCell (Nat.le_refl _) _).setCell (Nat.le_refl _) _).setCell (Nat.le_refl _) _)
  refine hK.out _ _ (by have := HS.out _ HBc.out; rw [hat] at this; exact this) (fun hHeld => ?_)
  clear hK K z0 z1 z2 f0 f1 f2
  try simp only [Act.put]
  generalize (((W2.setCell ⟨V.heap.size, 0, none⟩ (.string k0)).setCell ⟨V.heap.size, 1, none⟩ (.string v0)).setCell ⟨V.heap.size, 2, none⟩ (.bool g0)) = W3 at *
  refine wpAnyL_last rfl (by kernel_rfl) (by kernel_rfl) (fun K hK => ?_)
  go_simp
  refine hK.out _ _ ?_
  clear hK K hHeld
  have y1 := (HS.out _ HBc.out).1
  have HO3 := hide (map_kept HO.out (HBc.out.block l.wb (by have := HXl.out; have := HZ.out; omega)))
  have y2 := HO3.out.len Tryz.underlying122 3
  rw [HD.out.len, hl] at y2
  have HBe : Hid (Below w.heap.size w W3) := hide (HB.out.trans (HBc.out.mono (by have := HZ.out; omega)))
  go_wp2
  go_ret
  exact ⟨rfl, HBe.out⟩
end Go.Proofs.YtlkmcbelmldleaaGreat
