/- mvcc.Get -/
import Derived.Test.YtlkmcbelmldleaaGreatVI
namespace Go.Proofs.YtlkmcbelmldleaaGreat
open Go.RowKit Go.Shelf
set_option maxRecDepth 40000
attribute [local go_sem] Oper.semAt_some
theorem calm {F : Fence} {n : Nat} {P : Program} {x : Code} {K : Act → World → Prop} {Q : Exit → Act → World → Prop} {a : Act} {w : World} (h : x.wpIn F n P (Exit.then K (fun _ _ _ => False)) a w) : x.wpIn F n P (Exit.then K Q) a w :=
  wpIn_mono h (fun e a w h => by cases e <;> first | exact h | exact h.elim)
theorem cells2_of_blk {w : World} {g : Nat} {a b : Value} {t : TypeId} (h : w.heap[g]? = some (.cells #[a, b] t)) : w.cell? ⟨g, 0, none⟩ = some a ∧ w.cell? ⟨g, 1, none⟩ = some b :=
  ⟨cell_blk h rfl, cell_blk h rfl⟩
/-- the five boxes of Get -/
structure Five (w : World) (N : Nat) (a : Option Addr) (len cap low t : Nat) (s : ByteArray) (b : Bool) (e : Int) : Prop where
  v : w.heap[N]? = some (.cells #[.slice a len cap, .int .u64 (low : Nat)] 31 (0, 0))
  t : Boxed w (N + 1) 29 (.int .u64 (t : Nat))
  s : Boxed w (N + 1 + 1) 9 (.string s)
  b : Boxed w (N + 1 + 1 + 1) 4 (.bool b)
  e : Boxed w (N + 1 + 1 + 1 + 1) 25 (.int .i64 e)
theorem Five.lt {w : World} {N : Nat} {a : Option Addr} {len cap low t : Nat} {s : ByteArray} {b : Bool} {e : Int} (h : Five w N a len cap low t s b e) : N + 5 ≤ w.heap.size := by have := h.e.lt; omega
theorem Five.below {w w' : World} {N : Nat} {a : Option Addr} {len cap low t : Nat} {s : ByteArray} {b : Bool} {e : Int} (h : Five w N a len cap low t s b e) (hb : Below w.heap.size w w') : Five w' N a len cap low t s b e :=
  have hl := h.lt
  ⟨(hb.block _ (by omega)).trans h.v, (hb.block _ (by omega)).trans h.t, (hb.block _ (by omega)).trans h.s, (hb.block _ (by omega)).trans h.b, (hb.block _ (by omega)).trans h.e⟩
theorem five_new (w : World) (a : Option Addr) (len cap low t : Nat) (s : ByteArray) (b : Bool) (e : Int) : Five (((((w.alloc (.cells #[.slice a len cap, .int .u64 (low : Nat)] 31)).alloc (.cells #[.int .u64 (t : Nat)] 29)).alloc (.cells #[.string s] 9)).alloc (.cells #[.bool b] 4)).alloc (.cells #[.int .i64 e] 25)) w.heap.size a len cap low t s b e := by
  refine ⟨?_, ?_, ?_, ?_, ?_⟩
  · rw [heap_alloc_old _ _ _ (by simp; omega), heap_alloc_old _ _ _ (by simp; omega), heap_alloc_old _ _ _ (by simp; omega), heap_alloc_old _ _ _ (by simp)]
    exact heap_alloc_new _ _
  · have := (((Boxed.new (w.alloc (.cells #[.slice a len cap, .int .u64 (low : Nat)] 31)) 29 (.int .u64 (t : Nat))).alloc (.cells #[.string s] 9)).alloc (.cells #[.bool b] 4)).alloc (.cells #[.int .i64 e] 25)
    simpa using this
  · have := ((Boxed.new ((w.alloc (.cells #[.slice a len cap, .int .u64 (low : Nat)] 31)).alloc (.cells #[.int .u64 (t : Nat)] 29)) 9 (.string s)).alloc (.cells #[.bool b] 4)).alloc (.cells #[.int .i64 e] 25)
    simpa using this
  · have := (Boxed.new (((w.alloc (.cells #[.slice a len cap, .int .u64 (low : Nat)] 31)).alloc (.cells #[.int .u64 (t : Nat)] 29)).alloc (.cells #[.string s] 9)) 4 (.bool b)).alloc (.cells #[.int .i64 e] 25)
    simpa using this
  · have := Boxed.new ((((w.alloc (.cells #[.slice a len cap, .int .u64 (low : Nat)] 31)).alloc (.cells #[.int .u64 (t : Nat)] 29)).alloc (.cells #[.string s] 9)).alloc (.cells #[.bool b] 4)) 25 (.int .i64 e)
    simpa using this
/-- the three results are laid -/
abbrev put3 (W : World) (N : Nat) (s : ByteArray) (b : Bool) (e : Int) : World := ((W.setCell ⟨N + 1 + 1, 0, none⟩ (.string s)).setCell ⟨N + 1 + 1 + 1, 0, none⟩ (.bool b)).setCell ⟨N + 1 + 1 + 1 + 1, 0, none⟩ (.int .i64 e)
theorem set_other {W : World} {b c : Nat} {t : TypeId} {u v : Value} (h : Boxed W b t v) (hne : b ≠ c) : Boxed (W.setCell ⟨c, 0, none⟩ u) b t v := (Below.heap_setCell W ⟨c, 0, none⟩ u b hne).trans h
theorem Five.put {w : World} {N : Nat} {a : Option Addr} {len cap low t : Nat} {s : ByteArray} {b : Bool} {e : Int} (h : Five w N a len cap low t s b e) (s' : ByteArray) (b' : Bool) (e' : Int) : Five (put3 w N s' b' e') N a len cap low t s' b' e' := by
  refine ⟨?_, ?_, ?_, ?_, ?_⟩
  · rw [Below.heap_setCell _ _ _ _ (by show N ≠ N + 1 + 1 + 1 + 1; omega), Below.heap_setCell _ _ _ _ (by show N ≠ N + 1 + 1 + 1; omega), Below.heap_setCell _ _ _ _ (by show N ≠ N + 1 + 1; omega)]
    exact h.v
  · exact set_other (set_other (set_other h.t (by omega)) (by omega)) (by omega)
  · exact set_other (set_other (h.s.set _) (by omega)) (by omega)
  · exact set_other ((set_other h.b (c := N + 1 + 1) (by omega)).set _) (by omega)
  · exact (set_other (set_other h.e (c := N + 1 + 1) (by omega)) (c := N + 1 + 1 + 1) (by omega)).set _
theorem put3_below {w W : World} {N n : Nat} (hn : n ≤ N) (h : Below n w W) (s : ByteArray) (b : Bool) (e : Int) : Below n w (put3 W N s b e) :=
  ((h.setCell (p := ⟨N + 1 + 1, 0, none⟩) (by show n ≤ N + 1 + 1; omega) _).setCell (p := ⟨N + 1 + 1 + 1, 0, none⟩) (by show n ≤ N + 1 + 1 + 1; omega) _).setCell (p := ⟨N + 1 + 1 + 1 + 1, 0, none⟩) (by show n ≤ N + 1 + 1 + 1 + 1; omega) _
theorem put3_others (W : World) (N : Nat) (s : ByteArray) (b : Bool) (e : Int) : KeepsOthers W (put3 W N s b e) :=
  ((KeepsOthers.setCell _ _ _).trans (KeepsOthers.setCell _ _ _)).trans (KeepsOthers.setCell _ _ _)
theorem Five.turn {box : Option Nat} {A B : World} {N : Nat} {a : Option Addr} {len cap low t : Nat} {s : ByteArray} {b : Bool} {e : Int} (h : Five A N a len cap low t s b e) (tu : Turn box A B) (hb : ∀ c, box = some c → N + 5 ≤ c) : Five B N a len cap low t s b e := by
  have hne : ∀ c, c < N + 5 → box ≠ some c := fun c hc e => by have := hb c e; omega
  refine ⟨?_, turn_boxed tu h.t (hne _ (by omega)), turn_boxed tu h.s (hne _ (by omega)), turn_boxed tu h.b (hne _ (by omega)), turn_boxed tu h.e (hne _ (by omega))⟩
  have hl := h.lt
  cases tu with
  | lay o => exact (heap_alloc_old A o N (by omega)).trans h.v
  | draw => exact h.v
  | put c u hc => exact (Below.heap_setCell A ⟨c, 0, none⟩ u N (by have := hb c hc; show N ≠ c; omega)).trans h.v
theorem Five.putObj {A : World} {N : Nat} {a : Option Addr} {len cap low t : Nat} {s : ByteArray} {b : Bool} {e : Int} (h : Five A N a len cap low t s b e) {r : Nat} {o o' : Obj} (ho : A.heap[r]? = some o) (hc : o.isCells = false) : Five (A.putObj r o') N a len cap low t s b e := by
  refine ⟨(World.putObj_heap_other ?_).trans h.v, put_boxed ho hc h.t, put_boxed ho hc h.s, put_boxed ho hc h.b, put_boxed ho hc h.e⟩
  rintro rfl
  rw [h.v] at ho; cases ho; cases hc
set_option maxRecDepth 40000 in
set_option maxHeartbeats 2000000 in
theorem get_no (a : Option Addr) (len cap low t : Nat) (key : ByteArray) (l : List Vr) (w : World) (hL : IsV w a len cap l) (hE : ¬ askE low l t = 0) : Calls Tryz.prog 58 #[.agg #[.slice a len cap, .int .u64 (low : Nat)], .string key, .int .u64 (t : Nat)] w fun e w' =>
    e = .returned (.tuple #[.string ⟨#[]⟩, .bool false, .int .i64 (askE low l t)]) ∧ Below w.heap.size w w' := by
  have HV := hide hL
  have H5 := hide (five_new w a len cap low t ⟨#[]⟩ false 0)
  have HB5 : Hid (Below w.heap.size w (((((w.alloc (.cells #[.slice a len cap, .int .u64 (low : Nat)] 31)).alloc (.cells #[.int .u64 (t : Nat)] 29)).alloc (.cells #[.string ⟨#[]⟩] 9)).alloc (.cells #[.bool false] 4)).alloc (.cells #[.int .i64 0] 25))) := hide ((((((Below.refl _ w).alloc (Nat.le_refl _) _).alloc (by simp) _).alloc (by simp; omega) _).alloc (by simp; omega) _).alloc (by simp; omega) _)
  have HE : (askE low l t != 0) = true := by simpa using hE
  go_enter Tryz.func58, Tryz.ntmps58
  go_wp2_with fail
  generalize (((((w.alloc (.cells #[.slice a len cap, .int .u64 (low : Nat)] 31)).alloc (.cells #[.int .u64 (t : Nat)] 29)).alloc (.cells #[.string ⟨#[]⟩] 9)).alloc (.cells #[.bool false] 4)).alloc (.cells #[.int .i64 0] 25)) = V at *
  refine (asked_any a len cap low t l V (HV.out.below HB5.out)).mono ?_
  rintro e w1 ⟨rfl, hb1⟩
  have h5 := H5.out.below hb1
  have HB1 := hide (HB5.out.trans (hb1.mono HB5.out.size))
  have cS := h5.s.cell
  have fS := h5.s.frozen
  have cB := h5.b.cell
  have fB := h5.b.frozen
  have cE := h5.e.cell
  have fE := h5.e.frozen
  have HF := hide h5
  clear hb1 h5 hE
  generalize her : askE low l t = er at *
  have HER := hide her
  clear her
  go_wp2
  have h5 := HF.out.put ⟨#[]⟩ false er
  have c1 := h5.s.cell
  have c2 := h5.b.cell
  have c3 := h5.e.cell
  refine bodyPost_ret (v := .tuple #[.string ⟨#[]⟩, .bool false, .int .i64 er]) (by simp [results, Tryz.f58, go_sem, c1, c2, c3]) rfl ?_
  exact ⟨by rw [HER.out], put3_below (Nat.le_refl _) HB1.out _ _ _⟩
set_option maxRecDepth 40000 in
set_option maxHeartbeats 2000000 in
theorem get_yes (a : Option Addr) (len cap low t : Nat) (key : ByteArray) (l : List Vr) (w : World) (hL : IsV w a len cap l) (hE : askE low l t = 0) : Calls Tryz.prog 58 #[.agg #[.slice a len cap, .int .u64 (low : Nat)], .string key, .int .u64 (t : Nat)] w fun e w' =>
    e = .returned (.tuple #[.string (seenR (lastTo (l.filter (sameK key)) t)).1, .bool (seenR (lastTo (l.filter (sameK key)) t)).2, .int .i64 0]) ∧ Below w.heap.size w w' := by
  have HV := hide hL
  have HG := hide (ask_good hE)
  have H5 := hide (five_new w a len cap low t ⟨#[]⟩ false 0)
  have HB5 : Hid (Below w.heap.size w (((((w.alloc (.cells #[.slice a len cap, .int .u64 (low : Nat)] 31)).alloc (.cells #[.int .u64 (t : Nat)] 29)).alloc (.cells #[.string ⟨#[]⟩] 9)).alloc (.cells #[.bool false] 4)).alloc (.cells #[.int .i64 0] 25))) := hide ((((((Below.refl _ w).alloc (Nat.le_refl _) _).alloc (by simp) _).alloc (by simp; omega) _).alloc (by simp; omega) _).alloc (by simp; omega) _)
  refine (callsIn_wide (n := 6)).1 ?_
  refine callsIn_of_wp_marks Tryz.func58 rfl trivial ?_ rfl
  simp only [Tryz.ntmps58, List.size_toArray, List.length_cons, List.length_nil, Nat.reduceAdd, Nat.reduceSub, Array.replicate_succ, Array.replicate_zero, List.push_toArray, List.append_toArray, List.nil_append, List.cons_append]
  gi_wp2_with fail
  generalize (((((w.alloc (.cells #[.slice a len cap, .int .u64 (low : Nat)] 31)).alloc (.cells #[.int .u64 (t : Nat)] 29)).alloc (.cells #[.string ⟨#[]⟩] 9)).alloc (.cells #[.bool false] 4)).alloc (.cells #[.int .i64 0] 25)) = V at *
  refine ⟨trivial, (callsIn_wide.2 (asked_any a len cap low t l V (HV.out.below HB5.out))).mono ?_⟩
  rintro e w1 ⟨rfl, hb1⟩
  rw [hE]
  have HF := hide (H5.out.below hb1)
  have HB1 := hide (HB5.out.trans (hb1.mono HB5.out.size))
  obtain ⟨v0, v1⟩ := cells2_of_blk HF.out.v
  clear hb1 hE HB5 H5
  generalize hN : w.heap.size = N at *
  have HN := hide hN
  clear hN
  gi_wp2_with fail
  have hmix := mixed
  have hlt : N < w1.heap.size := by have := HF.out.lt; omega
  have v2 : ∀ o, (w1.drew.alloc o).cell? ⟨N, 0, none⟩ = some (.slice a len cap) := fun o => (World.cell?_of_block (heap_alloc_old w1.drew o N hlt)).trans v0
  have v3 : w1.drew.cell? ⟨N, 0, none⟩ = some (.slice a len cap) := v0
  refine calm ?_
  gi_region_with_o (first | (refine ⟨trivial, ?_⟩; gi_at_call 89; refine (only_in _ key _).mono ?_; rintro e w2 ⟨rfl, rfl⟩) | (refine ⟨trivial, ?_⟩; gi_at_call 83; refine (byKey_in _ a len cap 116 _ _).mono ?_; rintro e w2 ⟨rfl, rfl⟩))
  all_goals
    gi_wp2_with fail
    have hb2 : Below w1.heap.size w1 (((w1.alloc (.cells #[.string key] 9)).alloc (.cells #[.slice a len cap] 28)).alloc (.cells #[.func (.func 116) #[] #[.pointer (some ⟨w1.heap.size, 0, none⟩)]] 145)).drew := ((((Below.refl _ w1).alloc (Nat.le_refl _) _).alloc (by simp) _).alloc (by simp; omega) _).drew
    have hF2 := HF.out.below hb2
    have hB2 : Below N w (((w1.alloc (.cells #[.string key] 9)).alloc (.cells #[.slice a len cap] 28)).alloc (.cells #[.func (.func 116) #[] #[.pointer (some ⟨w1.heap.size, 0, none⟩)]] 145)).drew := HB1.out.trans (hb2.mono (by rw [← HN.out]; exact HB1.out.size))
    have bK : (((w1.alloc (.cells #[.string key] 9)).alloc (.cells #[.slice a len cap] 28)).alloc (.cells #[.func (.func 116) #[] #[.pointer (some ⟨w1.heap.size, 0, none⟩)]] 145)).drew.heap[w1.heap.size]? = some (.cells #[.string key] 9 (0, 0)) := ((Boxed.new w1 9 (.string key)).alloc (.cells #[.slice a len cap] 28)).alloc (.cells #[.func (.func 116) #[] #[.pointer (some ⟨w1.heap.size, 0, none⟩)]] 145)
    have bL := (Boxed.new (w1.alloc (.cells #[.string key] 9)) 28 (.slice a len cap)).alloc (.cells #[.func (.func 116) #[] #[.pointer (some ⟨w1.heap.size, 0, none⟩)]] 145)
    have bI := Boxed.new ((w1.alloc (.cells #[.string key] 9)).alloc (.cells #[.slice a len cap] 28)) 145 (.func (.func 116) #[] #[.pointer (some ⟨w1.heap.size, 0, none⟩)])
    simp only [World.size_alloc] at bL bI
    replace bL : Boxed (((w1.alloc (.cells #[.string key] 9)).alloc (.cells #[.slice a len cap] 28)).alloc (.cells #[.func (.func 116) #[] #[.pointer (some ⟨w1.heap.size, 0, none⟩)]] 145)).drew (w1.heap.size + 1) 28 (.slice a len cap) := bL
    replace bI : Boxed (((w1.alloc (.cells #[.string key] 9)).alloc (.cells #[.slice a len cap] 28)).alloc (.cells #[.func (.func 116) #[] #[.pointer (some ⟨w1.heap.size, 0, none⟩)]] 145)).drew (w1.heap.size + 1 + 1) 145 (.func (.func 116) #[] #[.pointer (some ⟨w1.heap.size, 0, none⟩)]) := bI
    have hS2 : (((w1.alloc (.cells #[.string key] 9)).alloc (.cells #[.slice a len cap] 28)).alloc (.cells #[.func (.func 116) #[] #[.pointer (some ⟨w1.heap.size, 0, none⟩)]] 145)).drew.heap.size = w1.heap.size + 3 := by simp
    generalize (((w1.alloc (.cells #[.string key] 9)).alloc (.cells #[.slice a len cap] 28)).alloc (.cells #[.func (.func 116) #[] #[.pointer (some ⟨w1.heap.size, 0, none⟩)]] 145)).drew = V2 at *
    have HF2 := hide hF2
    have HB2 := hide hB2
    have HS2 := hide hS2
    have HBK := hide bK
    have HBL := hide bL
    have HBI := hide bI
    have HM : Hid (N + 5 ≤ w1.heap.size) := hide HF.out.lt
    clear hb2 hF2 hB2 bK bL bI hS2 v0 v1 v2 v3 hlt
    generalize w1.heap.size = M at *
    obtain ⟨b, off, hab⟩ : ∃ b off, 0 < len → a = some ⟨b, off, none⟩ ∧ b < N := by
      by_cases h : 0 < len
      · obtain ⟨b, off, e, hb, _⟩ := HV.out.2.2.2 0 h
        exact ⟨b, off, fun _ => ⟨e, by rw [← HN.out]; exact hb⟩⟩
      · exact ⟨0, 0, fun h' => absurd h' h⟩
    have HAB := hide hab
    clear hab
    have HGK := hide (gps_key key l.length 0 l (Nat.le_refl _) (good_srt HG.out))
    generalize hxs : (gpsOf 0 l).filter (fun g => (hd g).key.toList == key.toList) = xs at *
    have HXS := hide hxs
    clear hxs
    refine wp_gives (gf := 112) (lb := #[.pointer (some ⟨M + 1, 0, none⟩), .pointer (some ⟨M + 1 + 1, 0, none⟩)]) (encs := encG b off cap) (xs := xs) (box := some (M + 1)) (w0 := V2) (Kp := Kp (fun _ => false) (M + 3)) rfl (enters_of Tryz.func112 (by kernel_rfl) rfl)
      (by
        have := byKey_gives 5 (by omega) (M + 1) (M + 1 + 1) (M + 3) (fun _ => false) a b off len cap l 116 #[.pointer (some ⟨M, 0, none⟩)] (fun k => k.toList == key.toList) [(M, .cells #[.string key] 9 (0, 0))] V2 HBL.out HBI.out (by omega) (by omega) (by rw [HS2.out]; exact Nat.le_refl _) rfl rfl (by omega)
          (HV.out.below (by rw [HN.out]; exact HB2.out)) (fun h => ⟨(HAB.out h).1, by have := (HAB.out h).2; have := HM.out; omega, rfl, by have := (HAB.out h).2; have := HM.out; omega⟩)
          (fun q hq => by simp only [List.mem_singleton] at hq; subst hq; exact ⟨HBK.out, by show M < M + 3; omega, rfl, by show M ≠ M + 1; omega⟩)
          (enters_of Tryz.func116 (by kernel_rfl) rfl) (fun k W hc => only1_any k key M W (Boxed.cell (t := 9) (hc (M, .cells #[.string key] 9 (0, 0)) (by simp))))
        rw [HXS.out] at this
        exact this)
      (Below.refl _ _) (fun _ => rfl) Kp.trans (kp_put (by rw [HS2.out]; exact Nat.le_refl _))
      (fun k W => Five W N a len cap low t ⟨#[]⟩ false 0 ∧ Below N w W ∧ k = 0)
      (fun c _ W => c = .ret ∧ Five W N a len cap low t (seenR (lastTo (l.filter (sameK key)) t)).1 (seenR (lastTo (l.filter (sameK key)) t)).2 0 ∧ Below N w W)
      (fun k A B tu h => ⟨h.1.turn tu (fun c hc => by cases hc; have := HM.out; omega), turn_below tu h.2.1 (by rw [HN.out]; exact Nat.le_refl _) (fun c hc => by cases hc; have := HM.out; omega), h.2.2⟩)
      (fun c k A B tu h => ⟨h.1, h.2.1.turn tu (fun c hc => by cases hc; have := HM.out; omega), turn_below tu h.2.2 (by rw [HN.out]; exact Nat.le_refl _) (fun c hc => by cases hc; have := HM.out; omega)⟩)
      (fun k A r o o' hr ho hc h => ⟨h.1.putObj ho hc, put_below (by have := HS2.out; have := HM.out; omega) h.2.1 (Array.getElem?_eq_some_iff.1 ho).1, h.2.2⟩)
      (fun c k A r o o' hr ho hc h => ⟨h.1, h.2.1.putObj ho hc, put_below (by have := HS2.out; have := HM.out; omega) h.2.2 (Array.getElem?_eq_some_iff.1 ho).1⟩)
      ⟨HF2.out, HB2.out, rfl⟩
      (fun x a' _ => a' = { tmps := #[.agg #[.slice a len cap, .int .u64 (low : Nat)], .string key, .int .u64 (t : Nat), .pointer (some ⟨N, 0, none⟩), undef, .pointer (some ⟨N + 1, 0, none⟩), .pointer (some ⟨N + 1 + 1, 0, none⟩), .pointer (some ⟨N + 1 + 1 + 1, 0, none⟩), .pointer (some ⟨N + 1 + 1 + 1 + 1, 0, none⟩), .int .i64 0, undef, .slice (some ⟨b, off + x.1 * 4, none⟩) x.2.length (cap - x.1), undef, undef, .agg #[.slice a len cap, .int .u64 (low : Nat)], .int .u64 (t : Nat), .int .i64 0, .int .i64 0, .bool false, undef, .pointer (some ⟨N, 0, none⟩), .slice a len cap, .string key, .func (.func 116) #[] #[.pointer (some ⟨M, 0, none⟩)], .func (.func 112) #[] #[.pointer (some ⟨M + 1, 0, none⟩), .pointer (some ⟨M + 1 + 1, 0, none⟩)], .string (hd x).key, .slice (some ⟨b, off + x.1 * 4, none⟩) x.2.length (cap - x.1), undef, undef, undef, undef, undef, undef, undef, undef], defers := [] })
      (fun x a' A r o o' hr ho hc h => h)
      ?assign ?body ?all ?left
    case assign =>
      rintro lo k ⟨s, q⟩ W K hx hI hK
      have HK := hide (fun a' => hK a' W (KeepsOthers.refl _) ⟨Nat.le_refl _, fun _ _ _ => rfl⟩ hI)
      clear hK hI hx
      gi_wp2
      refine HK.out _ ?_
      simp
    case body =>
      rintro lo k ⟨s, q⟩ a' W hx ⟨h5, hB, rfl⟩ rfl
      have HX := hide hx
      have H5 := hide h5
      have HB := hide hB
      have hq : q = l.filter (sameK key) := by
        rcases HGK.out with ⟨_, e⟩ | ⟨_, s', e⟩
        · rw [e] at hx; simp at hx
        · rw [e] at hx; simp at hx; exact hx.2.symm
      have hlies := gps_lies l l.length 0 (by simp) (Nat.zero_le _) (s, q) (by
        rw [List.drop_zero]
        have : (s, q) ∈ xs := List.mem_of_getElem? hx
        rw [← HXS.out] at this
        exact (List.mem_filter.1 this).1)
      obtain ⟨e1, e2, e3⟩ := hlies
      dsimp only at e1 e2 e3
      have hlen : 0 < len := by rw [← HV.out.1]; omega
      have hVW : IsV W a len cap l := HV.out.below (by rw [HN.out]; exact hB)
      rw [(HAB.out hlen).1] at hVW
      have hVS := hVW.sub s q.length (by rw [← HV.out.1]; exact e2)
      rw [← e1] at hVS
      have HAS := hide (asOf_any _ _ _ t q W hVS)
      have cT := h5.t.cell
      clear hx h5 hB hVW hVS e1 e2 e3 hlen
      dsimp only
      generalize cap - s = cs at *
      generalize off + s * 4 = os at *
      have HQ := hide hq
      clear hq
      gi_wp2_with fail
      refine ⟨trivial, (CallsIn.inRound lo (callsIn_wide.2 HAS.out)).mono ?_⟩
      rintro e W2 ⟨rfl, hb3⟩
      have h53 := H5.out.below hb3
      have cS := h53.s.cell
      have fS := h53.s.frozen
      have cB := h53.b.cell
      have fB := h53.b.frozen
      have cE := h53.e.cell
      have fE := h53.e.frozen
      have HFIN : Hid (KeepsOthers W (put3 W2 N (seenR (lastTo q t)).1 (seenR (lastTo q t)).2 0) ∧ Five (put3 W2 N (seenR (lastTo q t)).1 (seenR (lastTo q t)).2 0) N a len cap low t (seenR (lastTo q t)).1 (seenR (lastTo q t)).2 0 ∧ Below N w (put3 W2 N (seenR (lastTo q t)).1 (seenR (lastTo q t)).2 0)) := hide ⟨(Below.keepsOthers hb3).trans (put3_others _ _ _ _ _), h53.put _ _ _, put3_below (Nat.le_refl _) (HB.out.trans (hb3.mono (by rw [← HN.out]; exact HB.out.size))) _ _ _⟩
      clear h53 hb3 cT
      gi_wp2
      exact ⟨HFIN.out.1, rfl, by rw [← HQ.out]; exact HFIN.out.2.1, HFIN.out.2.2⟩
    case all =>
      rintro D W hD hK ⟨h5, hB, hz⟩
      have HB := hide hB
      have H5 := hide h5
      have HND : Hid (N ≤ D) := hide (by have := HS2.out; have := HM.out; omega)
      have HNIL : Hid (l.filter (sameK key) = []) := hide (by
        rcases HGK.out with ⟨e, _⟩ | ⟨_, s', e⟩
        · exact e
        · rw [e] at hz; simp at hz)
      have cS := h5.s.cell
      have fS := h5.s.frozen
      have cB := h5.b.cell
      have fB := h5.b.frozen
      have cE := h5.e.cell
      have fE := h5.e.frozen
      clear h5 hB hz
      gi_wp2
      have hK2 := (put3_others W N ⟨#[]⟩ false 0).same _ _ hK rfl
      refine ⟨by simp, .inl ⟨_, _, rfl, run_takeDeferred hK2, ?_⟩⟩
      have h52 := (H5.out.put ⟨#[]⟩ false 0).putObj (o' := .deferred none) hK2 rfl
      have c1 := h52.s.cell
      have c2 := h52.b.cell
      have c3 := h52.e.cell
      refine ⟨.tuple #[.string ⟨#[]⟩, .bool false, .int .i64 0], by simp [results, Tryz.f58, go_sem, c1, c2, c3], ?_⟩
      rw [HNIL.out]
      exact ⟨rfl, by rw [HN.out]; exact put_below HND.out (put3_below (Nat.le_refl _) HB.out _ _ _) (Array.getElem?_eq_some_iff.1 hK2).1⟩
    case left =>
      rintro D c k W hD hK hk ⟨rfl, h5, hB⟩
      have HB := hide hB
      have HND : Hid (N ≤ D) := hide (by have := HS2.out; have := HM.out; omega)
      have h52 := h5.putObj (o' := .deferred none) hK rfl
      have c1 := h52.s.cell
      have c2 := h52.b.cell
      have c3 := h52.e.cell
      have HC := hide (show _ ∧ _ ∧ _ from ⟨c1, c2, c3⟩)
      clear c1 c2 c3 h52 h5
      gi_wp2
      refine ⟨by simp, .inl ⟨_, _, rfl, run_takeDeferred hK, ?_⟩⟩
      obtain ⟨c1, c2, c3⟩ := HC.out
      refine ⟨_, by simp [results, Tryz.f58, go_sem, c1, c2, c3]; rfl, ?_⟩
      exact ⟨rfl, by rw [HN.out]; exact put_below HND.out HB.out (Array.getElem?_eq_some_iff.1 hK).1⟩
theorem get_any (a : Option Addr) (len cap low t : Nat) (key : ByteArray) (l : List Vr) (w : World) (hL : IsV w a len cap l) : Calls Tryz.prog 58 #[.agg #[.slice a len cap, .int .u64 (low : Nat)], .string key, .int .u64 (t : Nat)] w fun e w' =>
    e = .returned (.tuple #[.string (getR low l key t).1, .bool (getR low l key t).2.1, .int .i64 (getR low l key t).2.2]) ∧ Below w.heap.size w w' := by
  unfold getR
  by_cases hE : askE low l t = 0
  · simp only [if_pos hE]
    exact get_yes a len cap low t key l w hL hE
  · simp only [if_neg hE]
    exact get_no a len cap low t key l w hL hE
end Go.Proofs.YtlkmcbelmldleaaGreat
