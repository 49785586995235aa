/- sees: what a transaction sees of a span -/
import Derived.Test.YtlkmcbelmldleaaGreatJp
import Derived.Test.YtlkmcbelmldleaaGreatCx3
import Derived.Test.YtlkmcbelmldleaaGreatCx5
namespace Go.Proofs.YtlkmcbelmldleaaGreat
open Go.RowKit Go.Shelf Go.Lib Go.Sort
open Go.Maps (has size)
set_option maxRecDepth 40000
def cfP (x y : Pr) : Int := Lib.compareBytes x.key.toList y.key.toList
theorem ltP_eq (x y : Pr) : ltOf cfP x y = Op.bytesLess x.key.toList y.key.toList := by
  unfold ltOf cfP
  have := cmpB_lt x.key.toList y.key.toList
  cases hb : Op.bytesLess x.key.toList y.key.toList
  · rw [hb] at this; simp; simp at this; omega
  · exact decide_eq_true (this.2 hb)
theorem swoP : SWO (ltOf cfP) where
  irrefl x := by rw [ltP_eq]; exact less_irrefl _
  trans x y z h1 h2 := by rw [ltP_eq] at *; exact less_trans _ _ _ h1 h2
  ntrans x y z h1 h2 := by rw [ltP_eq] at *; exact le_trans_key h2 h1
set_option maxHeartbeats 1000000 in
theorem sees1_any (x y : Pr) (W : World) : Calls Tryz.prog 88 #[.agg (prc x).toArray, .agg (prc y).toArray] W fun e w' => e = .returned (.int .i64 (cfP x y)) ∧ ∃ q os', w' = grow (W.drewN q) os' := by
  obtain ⟨x1, x3⟩ := x
  obtain ⟨y1, y3⟩ := y
  show Calls Tryz.prog 88 #[.agg #[.string x1, .string x3], .agg #[.string y1, .string y3]] W _
  have HC1 := hide (fun W => cmpS_any x1 y1 W)
  have HCF : Hid (cfP ⟨x1, x3⟩ ⟨y1, y3⟩ = Lib.compareBytes x1.toList y1.toList) := hide rfl
  have HGR : Hid (∃ q os', ((W.alloc (.cells #[.string x1, .string x3] 62)).alloc (.cells #[.string y1, .string y3] 62)) = grow (W.drewN q) os') := hide ⟨0, _, by rw [alloc_eq_grow, alloc_eq_grow, grow_grow]; rfl⟩
  generalize Lib.compareBytes x1.toList y1.toList = c1 at *
  go_enter Tryz.func88, Tryz.ntmps88
  go_wp2_with (first | (go_at_call 66; refine (HC1.out _).mono ?_; rintro e w' ⟨rfl, rfl⟩))
  go_ret
  exact ⟨ret_int HCF.out.symm, HGR.out⟩
theorem flat_lenP (l : List Pr) : (l.flatMap prc).length = l.length * 2 := by
  induction l with
  | nil => rfl
  | cons x r ih => rw [List.flatMap_cons, List.length_append, ih]; simp; omega
/-- slices.SortFunc of pairs -/
theorem sortP_any (base g cap n : Nat) (l : List Pr) (w : World) (hl : l.length = n) (hn : n < 4611686018427387904) (hown : w.ownsRow base 62 2 (.slice (some ⟨g, 0, none⟩) n cap) n (l.flatMap prc)) :
    Calls Tryz.prog 87 #[.slice (some ⟨g, 0, none⟩) n cap, .func (.func 88) #[] #[]] w fun e w' => e = .returned (.tuple #[]) ∧ ∃ l' : List Pr, l'.Perm l ∧ (∀ i j, i < j → j < n → Op.bytesLess (l'.getD j Pr0).key.toList (l'.getD i Pr0).key.toList = false) ∧ w'.ownsRow base 62 2 (.slice (some ⟨g, 0, none⟩) n cap) n (l'.flatMap prc) ∧ w.grownBy w' (some g) := by
  rcases hown.2 with ⟨h, _⟩ | ⟨g', cap', cur, e, hb, hg, h1, h2, h3, h4⟩
  · cases h
  cases e
  letI : Inhabited Pr := ⟨Pr0⟩
  have eg : ∀ args w, (callFunc 88 args).run Tryz.prog w = .ok (.enter 88 args) w := enters_of Tryz.func88 (by kernel_rfl) rfl
  have hH := row_holds prc 2 (fun _ => rfl) hl hg h3 h4
  have hcon := AnyQ.slices_SortFunc Tryz.sortP 2 Tryz.isAgg62 Tryz.sizeOf62 prc (fun _ => rfl) (fun x v hv => by simp at hv; rcases hv with rfl | rfl <;> rfl) cfP swoP 88 #[] g 0 cap l.toArray w eg (fun m os dk _ x y => sees1_any x y _) hH (heap_lt hg) (by rw [List.size_toArray]; omega)
  change Calls Tryz.prog 87 _ _ _ at hcon
  rw [List.size_toArray, hl] at hcon
  refine hcon.mono ?_
  rintro e w' ⟨rfl, d', m, os, hp, hsrt, rfl⟩
  have hsz : d'.toList.length = n := by rw [Array.length_toList, hp.1, List.size_toArray, hl]
  have hd : d' = d'.toList.toArray := by simp
  refine ⟨rfl, d'.toList, ?_, ?_, ?_, sort_grown prc 2 d'⟩
  · have := hp.2.2
    rw [show d'.extract 0 n = d' by rw [← hsz]; simp, show l.toArray.extract 0 n = l.toArray by rw [← hl]; simp] at this
    exact this
  · intro i j hij hj
    have := hsrt i j (Nat.zero_le _) hij hj
    rw [ltP_eq] at this
    have e : ∀ k, d'[k]! = d'.toList.getD k Pr0 := fun k => by
      rw [List.getD_eq_getElem?_getD, Array.getElem?_toList, getElem!_def]
      cases d'[k]? <;> rfl
    rw [e, e] at this
    exact this
  · obtain ⟨cur', q1, q2, q3⟩ := sort_blk prc 2 (fun _ => rfl) (by omega) (n := m) (os := os) d'.toList hg h3 (by omega)
    rw [← hd] at q1
    exact ⟨by rw [flat_lenP, hsz], .inr ⟨g, cap, cur', rfl, hb, q1, h1, h2, q2, by rw [← hsz]; exact q3⟩⟩
theorem sortP_none (a : Option Addr) (c : Nat) (fv : Value) (w : World) : Calls Tryz.prog 87 #[.slice a 0 c, fv] w fun e w' => e = .returned (.tuple #[]) ∧ w' = w := by
  have := AnyF.slices_SortFunc_none { Tryz.sortP with } a c fv w
  change Calls Tryz.prog 87 _ _ _ at this
  exact this

/-- append of one pair to an own row, and where it lies -/
theorem wpList_pr {w : World} {ops : Array Oper} {rest : List Oper} {o : Oper} {a : Act} {Q : Exit → Act → World → Prop} (hgd : o.guard = none) (s x : Operand)
    (ho : o.op = .call { callee := .builtin .append, args := #[s, x], argTypes := #[22, 22] }) (base : Nat) (v : Value) (n : Nat) (xs : List Pr) (hs : a.eval s = v) (hown : w.ownsRow base 62 2 v n (xs.flatMap prc))
    (b : Nat) (y : Pr) (hx : a.eval x = .slice (some ⟨b, 0, none⟩) 1 1) (hB : w.heap[b]? = some (.cells #[.string y.key, .string y.val] 62 (0, 0))) (hb : (n + 1) * 32 ≤ 140737488355328) (hbase : base ≤ w.heap.size)
    (h : ∀ v' w', Hid (w'.ownsRow base 62 2 v' (n + 1) ((xs ++ [y]).flatMap prc) ∧ w.grownBy w' v.ownBlock ∧ (v'.ownBlock = v.ownBlock ∨ v'.ownBlock = some w.heap.size) ∧ Below base w w') → wpList Tryz.prog ops Q rest (a.put o.dst v') w') : wpList Tryz.prog ops Q (o :: rest) a w := by
  obtain ⟨i0, hi, hz0, hz1, hz2⟩ := info_parts info54
  obtain ⟨v', w', hrun, q1, q2, _, q3⟩ := run_append_own_at (w := w) base 22 o.type 62 i0 _ 2 32 Tryz.underlying22 hi hz0 hz1 hz2 rfl (by decide) v n _ hown _ 1 1 (prc y) rfl (prc_news y hB) (prc_one y) (by unfold maxLen; omega) hb hbase
  exact wpList_plain hgd fun K hK => wp_append_eq s x 22 ho hs hx hrun (hK _ _ (h v' w' (hide ⟨by rw [List.flatMap_append]; simpa using q1, q2, q3, (Below.refl _ _).grown q2 hbase (fun k hk => (hown.lt k hk).1)⟩)))
def prOf (x : Wt) : Pr := ⟨x.key, x.val⟩
/-- those that were there and are not written -/
def oldP (ws : List Wt) (bs : List Pr) : List Pr := bs.filter (fun p => !hasW ws p.key)
def seenW (ask : Sp) (x : Wt) : Bool := inSp ask x.key && !x.gone
/-- the first loop: what was there -/
structure Sone (w wr : World) (B : Nat) (ws : List Wt) (bs : List Pr) (k : Nat) (v : Value) (acc : List Pr) : Prop where
  bel : Below B w wr
  row : wr.ownsRow B 62 2 v acc.length (acc.flatMap prc)
  acc : acc = oldP ws (bs.take k)
/-- the second: what is written -/
structure Stwo (w wr : World) (B wb r m : Nat) (D : DataW Value) (ws : List Wt) (ask : Sp) (old : List Pr) (left : Lit → Bool) (cnt : Nat) (v : Value) (acc : List Pr) : Prop where
  rg : wr.ranges Tryz.prog 9 heldR wb r m D left cnt
  row : wr.ownsRow B 62 2 v acc.length (acc.flatMap prc)
  ne : v.ownBlock ≠ some r
  perm : acc.Perm (old ++ ((ws.filter (fun x => !left (kS x.key))).filter (seenW ask)).map prOf)
  sub : ∀ kl, left kl = true → has D kl = true
  bel : Below B w wr
  big : r + 1 ≤ wr.heap.size
set_option maxHeartbeats 8000000 in
theorem sees_any (w : World) (l : Pl) (tr : Tr) (h : IsX w l.p l.wb l.rv tr) (hn : tr.ws.length ≤ 256) (a : Option Addr) (n c : Nat) (bs : List Pr) (hP : IsP w a n c bs) (hn2 : n ≤ 4096) (hks : ∀ p ∈ bs, p.key.size ≤ 256) (ask : Sp) :
    Calls Tryz.prog 57 #[.pointer (some ⟨l.p, 0, none⟩), .slice a n c, .agg #[.string ask.1, .string ask.2]] w fun e w' => ∃ (v : Value) (l' : List Pr), e = .returned v ∧ w'.ownsRow w.heap.size 62 2 v l'.length (l'.flatMap prc) ∧ l'.Perm (oldP tr.ws bs ++ (tr.ws.filter (seenW ask)).map prOf) ∧ (∀ i j, i < j → j < l'.length → Op.bytesLess (l'.getD j Pr0).key.toList (l'.getD i Pr0).key.toList = false) ∧ Below w.heap.size w w' := by
  obtain ⟨s1, s2⟩ := ask
  dsimp only
  have HB0 : Hid (Below w.heap.size w (w.alloc (.cells #[.string s1, .string s2] 127))) := hide ((Below.refl _ w).alloc (Nat.le_refl _) _)
  have HN0 := hide (heap_alloc_new w (.cells #[.string s1, .string s2] 127))
  have HX0 := hide (h.kept (fun i hi => HB0.out.block i (h.lt hi)))
  have HXL : Hid (l.p < w.heap.size ∧ l.wb < w.heap.size) := hide ⟨h.lt (.inl rfl), h.lt (.inr (.inl rfl))⟩
  have HP0 := hide (hP.below HB0.out)
  have HPN := hide hP.1
  have hcm : c ≤ 9223372036854775807 := hP.2.2.1
  have hcap := hP.2.1
  have HS0 : Hid ((w.alloc (.cells #[.string s1, .string s2] 127)).heap.size = w.heap.size + 1) := hide (World.size_alloc _ _)
  have HKS := hide hks
  have hmix := mixed
  clear h hP hks
  generalize hws : tr.ws = ws at *
  have HWS := hide hws
  clear hws
  go_enter Tryz.func57, Tryz.ntmps57
  refine wp_seq_k (fun K hK => ?_)
  have HK := hide hK
  clear hK
  go_wp2_with fail
  refine HK.out _ _ ?_
  clear HK K
  generalize (w.alloc (.cells #[.string s1, .string s2] 127)) = V0 at *
  obtain ⟨B, hB⟩ : ∃ B, B = V0.heap.size := ⟨_, rfl⟩
  have HBE := hide hB
  clear hB
  go_wp2
  go_loopw [16, 7] (fun v16 v7 wr => ∃ (k : Nat) (acc : List Pr) (a7 : Option Addr) (c7 : Nat), k ≤ n ∧ v16 = .int .i64 (k : Nat) ∧ v7 = .slice a7 acc.length c7 ∧ Hid (Sone V0 wr B ws bs k (.slice a7 acc.length c7) acc)) (fun v16 _ _ => n - (intOf v16).toNat)
  case atStart => exact ⟨0, [], none, 0, Nat.zero_le _, rfl, rfl, hide ⟨Below.refl _ _, World.ownsRow_nil _ _ _ _, rfl⟩⟩
  case round =>
    obtain ⟨k, acc, a7, c7, hk, rfl, rfl, HI⟩ := hrel
    have HBw : Hid (Below V0.heap.size V0 wr) := hide (by rw [← HBE.out]; exact HI.out.bel)
    by_cases hlt : k < n
    · obtain ⟨b, off, rfl, hb, z0, z1⟩ := (HP0.out.below HBw.out).2.2.2 k hlt
      have HTK : Hid (oldP ws (bs.take (k + 1)) = oldP ws (bs.take k) ++ (if hasW ws (bs.getD k Pr0).key = true then [] else [bs.getD k Pr0])) := hide (by
        have e : bs.take (k + 1) = bs.take k ++ [bs.getD k Pr0] := by
          rw [List.take_add_one, List.getD_eq_getElem?_getD, List.getElem?_eq_getElem (by rw [HPN.out]; exact hlt)]; rfl
        unfold oldP
        rw [e, List.filter_append]
        generalize bs.getD k Pr0 = y
        cases hq : hasW ws y.key <;> simp [hq])
      have HKB : Hid ((bs.getD k Pr0).key.size ≤ 256) := hide (HKS.out _ (by
        rw [List.getD_eq_getElem?_getD, List.getElem?_eq_getElem (by rw [HPN.out]; exact hlt)]
        exact List.getElem_mem _))
      generalize bs.getD k Pr0 = x at *
      obtain ⟨x1, x2⟩ := x
      dsimp only at z0 z1 HTK HKB
      have hw1 : IntKind.i64.wrap ((k : Int) + 1) = (k : Int) + 1 := wr64' (by omega) (by omega)
      have hi4 : (0 : Int) ≤ (k : Int) := by omega
      have hiI : (k : Int) < (n : Int) := by omega
      have HBG : Hid ((acc.length + 1) * 32 ≤ 140737488355328) := hide (by
        have h1 : acc.length ≤ (bs.take k).length := by rw [HI.out.acc]; exact List.length_filter_le _ _
        have h2 : (bs.take k).length ≤ k := by rw [List.length_take]; omega
        omega)
      have HBp : Hid (Below wr.heap.size wr (wr.alloc (.cells #[.string x1, .string x2] 62))) := hide ((Below.refl _ wr).alloc (Nat.le_refl _) _)
      have HNp := hide (heap_alloc_new wr (.cells #[.string x1, .string x2] 62))
      have HXp := hide ((HX0.out.kept (fun i hi => HBw.out.block i (HX0.out.lt hi))).kept (fun i hi => HBp.out.block i ((HX0.out.kept (fun i hi => HBw.out.block i (HX0.out.lt hi))).lt hi)))
      have HRp : Hid ((wr.alloc (.cells #[.string x1, .string x2] 62)).ownsRow B 62 2 (.slice a7 acc.length c7) acc.length (acc.flatMap prc)) := hide (HI.out.row.alloc _)
      have HBq : Hid (Below B V0 (wr.alloc (.cells #[.string x1, .string x2] 62)) ∧ B ≤ (wr.alloc (.cells #[.string x1, .string x2] 62)).heap.size) := hide (by
        have h1 : B ≤ wr.heap.size := by rw [HBE.out]; exact HBw.out.size
        exact ⟨HI.out.bel.trans (HBp.out.mono h1), Nat.le_trans h1 HBp.out.size⟩)
      go_wp2_with fail
      generalize hpb : wr.heap.size = pb at *
      clear hpb
      generalize (wr.alloc (.cells #[.string x1, .string x2] 62)) = V at *
      obtain ⟨D, hown, hD⟩ := HXp.out.map
      rw [HWS.out] at hown hD
      have HO := hide hown
      have HD := hide hD
      clear hown hD
      cases hhw : hasW ws x1
      · have HS : Hid (∀ W : World, Below V.heap.size V W → W.cell? ⟨l.p, 2, none⟩ = some (.map (some l.wb)) ∧ W.cell? ⟨pb, 0, none⟩ = some (.string x1) ∧ (Instr.lookup 122 (.map (some l.wb)) (.string x1) true).run Tryz.prog W = .ok (.tuple #[atW ws x1, .bool false]) W) := hide (fun W hW => by
          have q1 := hW.block l.p (heap_lt HXp.out.blk)
          have q2 := hW.block pb (heap_lt HNp.out)
          have q3 := hW.block l.wb HO.out.lt
          refine ⟨cell_blk (q1.trans HXp.out.blk) rfl, cell_blk (q2.trans HNp.out) rfl, ?_⟩
          have := look_ws (map_kept HO.out q3) HD.out HKB.out
          rw [hhw] at this
          exact this)
        refine wp_region_last 12 (fun W' : World => W'.cell? ⟨l.p, 2, none⟩ = some (.map (some l.wb)) ∧ W'.cell? ⟨pb, 0, none⟩ = some (.string x1) ∧ (Instr.lookup 122 (.map (some l.wb)) (.string x1) true).run Tryz.prog W' = .ok (.tuple #[atW ws x1, .bool false]) W') hmix (HS.out V.drew (Below.refl _ V).drew) (fun hHeld => ?_)
        refine wpAnyL_take (i := 0) (v := ?vf0) rfl (by kernel_rfl) (fun _ _ _ h => h) (by assumption) (by rfl) ?hyf0 ?hnf0
        case hyf0 => (intro w hSw; (try dsimp only at hSw); skip; go_simp; try with_reducible rfl)
        try simp only [Act.put]
        refine wpAnyL_take (i := 1) (v := ?vf1) rfl (by kernel_rfl) (fun _ _ _ h => h) (by assumption) (by rfl) ?hyf1 ?hnf1
        case hyf1 => (intro w hSw; (try dsimp only at hSw); skip; go_simp; try with_reducible rfl)
        try simp only [Act.put]
        refine wpAnyL_take (i := 2) (v := ?vf2) rfl (by kernel_rfl) (fun _ _ _ h => h) (by assumption) (by rfl) ?hyf2 ?hnf2
        case hyf2 => (intro w hSw; (try dsimp only at hSw); skip; go_simp; try with_reducible rfl)
        try simp only [Act.put]
        refine wpAnyL_take (i := 3) (v := ?vf3) rfl (by kernel_rfl) (fun _ _ _ h => h) (by assumption) (by rfl) ?hyf3 ?hnf3
        case hyf3 => (intro w hSw; (try dsimp only at hSw); skip; go_simp; try with_reducible rfl)
        try simp only [Act.put]
        refine wpAnyL_take (i := 4) (v := ?vf4) rfl (by kernel_rfl) (fun _ _ _ h => h) (by assumption) (by rfl) ?hyf4 ?hnf4
        case hyf4 => (intro w hSw; (try dsimp only at hSw); skip; go_simp; try with_reducible rfl)
        try simp only [Act.put]
        refine wpAnyL_take (i := 5) (v := ?vf5) rfl (by kernel_rfl) (fun _ _ _ h => h) (by assumption) (by rfl) ?hyf5 ?hnf5
        case hyf5 => (intro w hSw; (try dsimp only at hSw); skip; go_simp; try with_reducible rfl)
        try simp only [Act.put]
        refine wpAnyL_take (i := 6) (v := ?vf6) rfl (by kernel_rfl) (fun _ _ _ h => h) (by assumption) (by rfl) ?hyf6 ?hnf6
        case hyf6 => (intro w hSw; (try dsimp only at hSw); skip; go_simp; try with_reducible rfl)
        try simp only [Act.put]
        refine wpAnyL_take (i := 7) (v := ?vf7) rfl (by kernel_rfl) (fun _ _ _ h => h) (by assumption) (by rfl) ?hyf7 ?hnf7
        case hyf7 => (intro w hSw; (try dsimp only at hSw); skip; go_simp; try with_reducible rfl)
        try simp only [Act.put]
        refine wpAnyL_take (i := 8) (v := ?vf8) rfl (by kernel_rfl) (fun _ _ _ h => h) (by assumption) (by rfl) ?hyf8 ?hnf8
        case hyf8 => (intro w hSw; (try dsimp only at hSw); skip; go_simp; try with_reducible rfl)
        try simp only [Act.put]
        refine wpAnyL_take (i := 9) (v := ?vf9) rfl (by kernel_rfl) (fun _ _ _ h => h) (by assumption) (by rfl) ?hyf9 ?hnf9
        case hyf9 => (intro w hSw; (try dsimp only at hSw); skip; go_simp; try with_reducible rfl)
        try simp only [Act.put]
        refine wpAnyL_one (i := 10) rfl (by kernel_rfl) (fun K hK => ?_)
        go_simp
        have HBa : Hid (Below V.heap.size V (V.alloc (.cells #[.string ⟨#[]⟩, .string ⟨#[]⟩, .bool false] 64)).drew) := hide ((Below.refl _ V).alloc (Nat.le_refl _) _).drew
        have HNa : Hid ((V.alloc (.cells #[.string ⟨#[]⟩, .string ⟨#[]⟩, .bool false] 64)).drew.heap[V.heap.size]? = some (.cells #[.string ⟨#[]⟩, .string ⟨#[]⟩, .bool false] 64 (0, 0))) := hide (heap_alloc_new V (.cells #[.string ⟨#[]⟩, .string ⟨#[]⟩, .bool false] 64))
        refine hK.out _ _ (HS.out _ HBa.out) (fun hHeld => ?_)
        clear hK K
        try simp only [Act.put]
        generalize (V.alloc (.cells #[.string ⟨#[]⟩, .string ⟨#[]⟩, .bool false] 64)).drew = W2 at *
        have z0 : W2.cell? ⟨V.heap.size, 0, none⟩ = some (.string ⟨#[]⟩) := cell_blk HNa.out rfl
        have z1 : W2.cell? ⟨V.heap.size, 1, none⟩ = some (.string ⟨#[]⟩) := cell_blk HNa.out rfl
        have z2 : W2.cell? ⟨V.heap.size, 2, none⟩ = some (.bool false) := cell_blk HNa.out rfl
        have f0 : W2.frozen? ⟨V.heap.size, 0, none⟩ = false := frz HNa.out 0
        have f1 : W2.frozen? ⟨V.heap.size, 1, none⟩ = false := frz HNa.out 1
        have f2 : W2.frozen? ⟨V.heap.size, 2, none⟩ = false := frz HNa.out 2
        obtain ⟨k0, v0, g0, hat⟩ : ∃ k v gn, atW ws x1 = .agg #[.string k, .string v, .bool gn] := by
          unfold atW
          split
          · exact ⟨_, _, _, rfl⟩
          · exact ⟨_, _, _, rfl⟩
        rw [hat]
        refine wpAnyL_one (i := 11) rfl (by kernel_rfl) (fun K hK => ?_)
        go_simp
        have HBc : Hid (Below V.heap.size V (((W2.setCell ⟨V.heap.size, 0, none⟩ (.string k0)).setCell ⟨V.heap.size, 1, none⟩ (.string v0)).setCell ⟨V.heap.size, 2, none⟩ (.bool g0))) := hide (((HBa.out.setCell (Nat.le_refl _) _).setCell (Nat.le_refl _) _).setCell (Nat.le_refl _) _)
        refine hK.out _ _ (by have := HS.out _ HBc.out; rw [hat] at this; exact this) (fun hHeld => ?_)
        clear hK K z0 z1 z2 f0 f1 f2
        try simp only [Act.put]
        generalize (((W2.setCell ⟨V.heap.size, 0, none⟩ (.string k0)).setCell ⟨V.heap.size, 1, none⟩ (.string v0)).setCell ⟨V.heap.size, 2, none⟩ (.bool g0)) = W3 at *
        refine wpAnyL_last rfl (by kernel_rfl) (by kernel_rfl) (fun K hK => ?_)
        go_simp
        refine hK.out _ _ ?_
        clear hK K hHeld
        have HR3 : Hid (W3.ownsRow B 62 2 (.slice a7 acc.length c7) acc.length (acc.flatMap prc)) := hide (row_kept HRp.out (fun j hj => HBc.out.block j (HRp.out.lt j hj).2))
        have HB3 : Hid (Below B V0 W3 ∧ B ≤ W3.heap.size) := hide ⟨HBq.out.1.trans (HBc.out.mono HBq.out.2), Nat.le_trans HBq.out.2 HBc.out.size⟩
        have HNp3 : Hid (W3.heap[pb]? = some (.cells #[.string x1, .string x2] 62 (0, 0))) := hide ((HBc.out.block pb (heap_lt HNp.out)).trans HNp.out)
        have p0 : W3.cell? ⟨pb, 0, none⟩ = some (.string x1) := cell_blk HNp3.out rfl
        have p1 : W3.cell? ⟨pb, 1, none⟩ = some (.string x2) := cell_blk HNp3.out rfl
        have HR4 : Hid ((W3.alloc (.cells #[.string x1, .string x2] 62)).ownsRow B 62 2 (.slice a7 acc.length c7) acc.length (acc.flatMap prc)) := hide (HR3.out.alloc _)
        have HN4 := hide (heap_alloc_new W3 (.cells #[.string x1, .string x2] 62))
        have HB4 : Hid (Below B V0 (W3.alloc (.cells #[.string x1, .string x2] 62)) ∧ B ≤ (W3.alloc (.cells #[.string x1, .string x2] 62)).heap.size) := hide ⟨HB3.out.1.alloc HB3.out.2 _, by rw [World.size_alloc]; have := HB3.out.2; omega⟩
        go_wp2_with (at_builtin; refine wpList_pr rfl _ _ rfl B (.slice a7 acc.length c7) acc.length acc rfl HR4.out W3.heap.size ⟨x1, x2⟩ rfl HN4.out HBG.out HB4.out.2 ?_)
        intro v9 w9 HN9
        obtain ⟨a9, c9, rfl⟩ := own_form HN9.out.1
        have HNX : Hid (Sone V0 w9 B ws bs (k + 1) (.slice a9 (acc.length + 1) c9) (acc ++ [⟨x1, x2⟩])) := hide ⟨HB4.out.1.trans HN9.out.2.2.2, by
          have e : (acc ++ [(⟨x1, x2⟩ : Pr)]).length = acc.length + 1 := by simp
          rw [e]
          have := HN9.out.1
          simpa using this, by rw [HTK.out, hhw]; simp; exact HI.out.acc⟩
        have HLL : Hid ((acc ++ [(⟨x1, x2⟩ : Pr)]).length = acc.length + 1) := hide (by simp)
        clear HN9 HR4 HN4 HB4 p0 p1 HR3 HB3 HNp3 HBc HRp HBq HXp HO HD HNp
        go_wp2
        go_roundw
        case rel => exact ⟨k + 1, acc ++ [⟨x1, x2⟩], a9, c9, by omega, by simp, by rw [HLL.out], by rw [HLL.out]; exact HNX⟩
        case measure => simp [intOf]; omega
      · have HS : Hid (∀ W : World, Below V.heap.size V W → W.cell? ⟨l.p, 2, none⟩ = some (.map (some l.wb)) ∧ W.cell? ⟨pb, 0, none⟩ = some (.string x1) ∧ (Instr.lookup 122 (.map (some l.wb)) (.string x1) true).run Tryz.prog W = .ok (.tuple #[atW ws x1, .bool true]) W) := hide (fun W hW => by
          have q1 := hW.block l.p (heap_lt HXp.out.blk)
          have q2 := hW.block pb (heap_lt HNp.out)
          have q3 := hW.block l.wb HO.out.lt
          refine ⟨cell_blk (q1.trans HXp.out.blk) rfl, cell_blk (q2.trans HNp.out) rfl, ?_⟩
          have := look_ws (map_kept HO.out q3) HD.out HKB.out
          rw [hhw] at this
          exact this)
        refine wp_region_last 12 (fun W' : World => W'.cell? ⟨l.p, 2, none⟩ = some (.map (some l.wb)) ∧ W'.cell? ⟨pb, 0, none⟩ = some (.string x1) ∧ (Instr.lookup 122 (.map (some l.wb)) (.string x1) true).run Tryz.prog W' = .ok (.tuple #[atW ws x1, .bool true]) W') hmix (HS.out V.drew (Below.refl _ V).drew) (fun hHeld => ?_)
        refine wpAnyL_take (i := 0) (v := ?vt0) rfl (by kernel_rfl) (fun _ _ _ h => h) (by assumption) (by rfl) ?hyt0 ?hnt0
        case hyt0 => (intro w hSw; (try dsimp only at hSw); skip; go_simp; try with_reducible rfl)
        try simp only [Act.put]
        refine wpAnyL_take (i := 1) (v := ?vt1) rfl (by kernel_rfl) (fun _ _ _ h => h) (by assumption) (by rfl) ?hyt1 ?hnt1
        case hyt1 => (intro w hSw; (try dsimp only at hSw); skip; go_simp; try with_reducible rfl)
        try simp only [Act.put]
        refine wpAnyL_take (i := 2) (v := ?vt2) rfl (by kernel_rfl) (fun _ _ _ h => h) (by assumption) (by rfl) ?hyt2 ?hnt2
        case hyt2 => (intro w hSw; (try dsimp only at hSw); skip; go_simp; try with_reducible rfl)
        try simp only [Act.put]
        refine wpAnyL_take (i := 3) (v := ?vt3) rfl (by kernel_rfl) (fun _ _ _ h => h) (by assumption) (by rfl) ?hyt3 ?hnt3
        case hyt3 => (intro w hSw; (try dsimp only at hSw); skip; go_simp; try with_reducible rfl)
        try simp only [Act.put]
        refine wpAnyL_take (i := 4) (v := ?vt4) rfl (by kernel_rfl) (fun _ _ _ h => h) (by assumption) (by rfl) ?hyt4 ?hnt4
        case hyt4 => (intro w hSw; (try dsimp only at hSw); skip; go_simp; try with_reducible rfl)
        try simp only [Act.put]
        refine wpAnyL_take (i := 5) (v := ?vt5) rfl (by kernel_rfl) (fun _ _ _ h => h) (by assumption) (by rfl) ?hyt5 ?hnt5
        case hyt5 => (intro w hSw; (try dsimp only at hSw); skip; go_simp; try with_reducible rfl)
        try simp only [Act.put]
        refine wpAnyL_take (i := 6) (v := ?vt6) rfl (by kernel_rfl) (fun _ _ _ h => h) (by assumption) (by rfl) ?hyt6 ?hnt6
        case hyt6 => (intro w hSw; (try dsimp only at hSw); skip; go_simp; try with_reducible rfl)
        try simp only [Act.put]
        refine wpAnyL_take (i := 7) (v := ?vt7) rfl (by kernel_rfl) (fun _ _ _ h => h) (by assumption) (by rfl) ?hyt7 ?hnt7
        case hyt7 => (intro w hSw; (try dsimp only at hSw); skip; go_simp; try with_reducible rfl)
        try simp only [Act.put]
        refine wpAnyL_take (i := 8) (v := ?vt8) rfl (by kernel_rfl) (fun _ _ _ h => h) (by assumption) (by rfl) ?hyt8 ?hnt8
        case hyt8 => (intro w hSw; (try dsimp only at hSw); skip; go_simp; try with_reducible rfl)
        try simp only [Act.put]
        refine wpAnyL_take (i := 9) (v := ?vt9) rfl (by kernel_rfl) (fun _ _ _ h => h) (by assumption) (by rfl) ?hyt9 ?hnt9
        case hyt9 => (intro w hSw; (try dsimp only at hSw); skip; go_simp; try with_reducible rfl)
        try simp only [Act.put]
        refine wpAnyL_one (i := 10) rfl (by kernel_rfl) (fun K hK => ?_)
        go_simp
        have HBa : Hid (Below V.heap.size V (V.alloc (.cells #[.string ⟨#[]⟩, .string ⟨#[]⟩, .bool false] 64)).drew) := hide ((Below.refl _ V).alloc (Nat.le_refl _) _).drew
        have HNa : Hid ((V.alloc (.cells #[.string ⟨#[]⟩, .string ⟨#[]⟩, .bool false] 64)).drew.heap[V.heap.size]? = some (.cells #[.string ⟨#[]⟩, .string ⟨#[]⟩, .bool false] 64 (0, 0))) := hide (heap_alloc_new V (.cells #[.string ⟨#[]⟩, .string ⟨#[]⟩, .bool false] 64))
        refine hK.out _ _ (HS.out _ HBa.out) (fun hHeld => ?_)
        clear hK K
        try simp only [Act.put]
        generalize (V.alloc (.cells #[.string ⟨#[]⟩, .string ⟨#[]⟩, .bool false] 64)).drew = W2 at *
        have z0 : W2.cell? ⟨V.heap.size, 0, none⟩ = some (.string ⟨#[]⟩) := cell_blk HNa.out rfl
        have z1 : W2.cell? ⟨V.heap.size, 1, none⟩ = some (.string ⟨#[]⟩) := cell_blk HNa.out rfl
        have z2 : W2.cell? ⟨V.heap.size, 2, none⟩ = some (.bool false) := cell_blk HNa.out rfl
        have f0 : W2.frozen? ⟨V.heap.size, 0, none⟩ = false := frz HNa.out 0
        have f1 : W2.frozen? ⟨V.heap.size, 1, none⟩ = false := frz HNa.out 1
        have f2 : W2.frozen? ⟨V.heap.size, 2, none⟩ = false := frz HNa.out 2
        obtain ⟨k0, v0, g0, hat⟩ : ∃ k v gn, atW ws x1 = .agg #[.string k, .string v, .bool gn] := by
          unfold atW
          split
          · exact ⟨_, _, _, rfl⟩
          · exact ⟨_, _, _, rfl⟩
        rw [hat]
        refine wpAnyL_one (i := 11) rfl (by kernel_rfl) (fun K hK => ?_)
        go_simp
        have HBc : Hid (Below V.heap.size V (((W2.setCell ⟨V.heap.size, 0, none⟩ (.string k0)).setCell ⟨V.heap.size, 1, none⟩ (.string v0)).setCell ⟨V.heap.size, 2, none⟩ (.bool g0))) := hide (((HBa.out.setCell (Nat.le_refl _) _).setCell (Nat.le_refl _) _).setCell (Nat.le_refl _) _)
        refine hK.out _ _ (by have := HS.out _ HBc.out; rw [hat] at this; exact this) (fun hHeld => ?_)
        clear hK K z0 z1 z2 f0 f1 f2
        try simp only [Act.put]
        generalize (((W2.setCell ⟨V.heap.size, 0, none⟩ (.string k0)).setCell ⟨V.heap.size, 1, none⟩ (.string v0)).setCell ⟨V.heap.size, 2, none⟩ (.bool g0)) = W3 at *
        refine wpAnyL_last rfl (by kernel_rfl) (by kernel_rfl) (fun K hK => ?_)
        go_simp
        refine hK.out _ _ ?_
        clear hK K hHeld
        have HR3 : Hid (W3.ownsRow B 62 2 (.slice a7 acc.length c7) acc.length (acc.flatMap prc)) := hide (row_kept HRp.out (fun j hj => HBc.out.block j (HRp.out.lt j hj).2))
        have HB3 : Hid (Below B V0 W3 ∧ B ≤ W3.heap.size) := hide ⟨HBq.out.1.trans (HBc.out.mono HBq.out.2), Nat.le_trans HBq.out.2 HBc.out.size⟩
        have HNp3 : Hid (W3.heap[pb]? = some (.cells #[.string x1, .string x2] 62 (0, 0))) := hide ((HBc.out.block pb (heap_lt HNp.out)).trans HNp.out)
        have HNX : Hid (Sone V0 W3 B ws bs (k + 1) (.slice a7 acc.length c7) acc) := hide ⟨HB3.out.1, HR3.out, by rw [HTK.out, hhw]; simp; exact HI.out.acc⟩
        clear HR3 HB3 HNp3 HBc HRp HBq HXp HO HD HNp
        go_wp2
        go_roundw
        case rel => exact ⟨k + 1, acc, a7, c7, by omega, by simp, rfl, HNX⟩
        case measure => simp [intOf]; omega
    · obtain rfl : k = n := by omega
      have hkk : ¬ (k : Int) < (k : Int) := by omega
      have HACC : Hid (acc = oldP ws bs) := hide (by rw [HI.out.acc, ← HPN.out, List.take_length])
      have HXw := hide (HX0.out.kept (fun i hi => HBw.out.block i (HX0.out.lt hi)))
      have c2 : wr.cell? ⟨l.p, 2, none⟩ = some (.map (some l.wb)) := cell_blk HXw.out.blk rfl
      obtain ⟨D, hown, hD⟩ := HXw.out.map
      rw [HWS.out] at hown hD
      have HD := hide hD
      clear hD
      have HAL : Hid (acc.length ≤ 4096) := hide (by
        rw [HACC.out]
        have h1 := List.length_filter_le (fun p : Pr => !hasW ws p.key) bs
        rw [HPN.out] at h1
        exact Nat.le_trans h1 hn2)
      have HNw : Hid (wr.heap[w.heap.size]? = some (.cells #[.string s1, .string s2] 127 (0, 0))) := hide ((HBw.out.block _ (heap_lt HN0.out)).trans HN0.out)
      have HWL : Hid (l.wb < w.heap.size) := hide HXL.out.2
      generalize hm : ws.length = m at *
      have HM := hide hm
      clear hm
      generalize l.wb = wb at *
      go_wp2_with (at_range; refine wpList_range_own _ rfl _ 122 rfl 9 64 kstr Tryz.underlying122 heldR wb m D rfl hown ?_)
      intro w0 hrg0 hg0 hs0
      have HSZ0 : Hid (w.heap.size + 1 ≤ B ∧ B ≤ wr.heap.size) := hide ⟨by rw [HBE.out, HS0.out]; omega, by rw [HBE.out]; exact HBw.out.size⟩
      generalize hr : wr.heap.size = r at *
      have HR := hide hr
      have H0 : Hid (Stwo V0 w0 B wb r m D ws (s1, s2) (oldP ws bs) (has D) (size D) (.slice a7 acc.length c7) acc) := hide ⟨hrg0, row_kept HI.out.row (fun j hj => hg0.block j ((HI.out.row.lt j hj).2) (by simp)), fun e => by have := (HI.out.row.lt r e).2; omega, by
        have e0 : ws.filter (fun x => !(has D) (kS x.key)) = [] := List.filter_eq_nil_iff.2 (fun x hx => by simp [(HD.out.all x hx).1])
        rw [e0, HACC.out]
        simp, fun _ h => h, HI.out.bel.trans ⟨hg0.os, hg0.tape, hg0.output, hg0.size, fun j hj => hg0.block j (by have := HSZ0.out; omega) (by simp)⟩, by omega⟩
      have HNx0 : Hid (w0.heap[w.heap.size]? = some (.cells #[.string s1, .string s2] 127 (0, 0))) := hide ((hg0.block _ (heap_lt HNw.out) (by simp)).trans HNw.out)
      clear hrg0 hg0 hs0 hown c2 hr
      go_wp2_with fail
      try go_frame
      go_loopw [7] (fun v7 wq => ∃ (left : Lit → Bool) (cnt : Nat) (ac : List Pr) (aa : Option Addr) (cc : Nat), v7 = .slice aa ac.length cc ∧ Hid (Stwo V0 wq B wb r m D ws (s1, s2) (oldP ws bs) left cnt (.slice aa ac.length cc) ac)) (fun _ wq => wq.rangeLeft wb r)
      case atStart => exact ⟨_, _, acc, a7, c7, rfl, H0⟩
      case round =>
        obtain ⟨left, cnt, ac, aa, cc, rfl, HS⟩ := hrel
        clear H0
        have hrg := HS.out.rg
        have hle := HS.out.rg.left_eq
        have HNq : Hid (wr.heap[w.heap.size]? = some (.cells #[.string s1, .string s2] 127 (0, 0))) := hide (((HS.out.bel.block w.heap.size (by have := HSZ0.out; omega))).trans HN0.out)
        go_wp2_with (at_next; refine wpList_next_ranges _ rfl _ rfl 9 kstr heldR Value.string (fun v : Value => v) (fun key kl hkey => by obtain ⟨x, rfl, _⟩ := key_str_inv hkey; exact ⟨x, rfl⟩) (fun v y _ => ⟨v, rfl⟩) wb r m D left cnt rfl hrg ?_ ?_)
        · intro hc0 hl0
          have HAC : Hid (ac.Perm (oldP ws bs ++ (ws.filter (seenW (s1, s2))).map prOf)) := hide (by
            have := HS.out.perm
            have e0 : ws.filter (fun x => !left (kS x.key)) = ws := List.filter_eq_self.2 (fun x _ => by simp [hl0])
            rw [e0] at this
            exact this)
          have HROW := hide HS.out.row
          have HBL : Hid (Below B V0 wr ∧ B ≤ wr.heap.size) := hide ⟨HS.out.bel, by have := HS.out.big; have := HSZ0.out; omega⟩
          have HACL : Hid (ac.length ≤ 8192) := hide (by
            have h1 := HAC.out.length_eq
            have h2 := List.length_filter_le (fun p : Pr => !hasW ws p.key) bs
            have h3 := List.length_filter_le (seenW (s1, s2)) ws
            rw [HPN.out] at h2
            rw [HM.out] at h3
            unfold oldP at h1
            simp only [List.length_append, List.length_map] at h1
            omega)
          clear hrg hl0 hle HS
          obtain ⟨q, hq⟩ : ∃ q, ac.length = q := ⟨_, rfl⟩
          have HQ := hide hq
          rw [hq] at HROW HACL ⊢
          clear hq
          rcases HROW.out.2 with ⟨e0, _⟩ | ⟨g, cp, cur, e0, hg, _⟩
          · simp only [Value.slice.injEq] at e0
            obtain ⟨rfl, rfl, rfl⟩ := e0
            have HW0 : Hid (ac = []) := hide (List.eq_nil_of_length_eq_zero HQ.out)
            go_wp2_with fail
            refine (sortP_none none _ _ wr).mono ?_
            rintro e w2 ⟨rfl, rfl⟩
            go_wp2
            go_ret
            exact ⟨_, [], rfl, World.ownsRow_nil _ _ _ _, by rw [← HW0.out]; exact HAC.out, fun i j _ h => absurd h (Nat.not_lt_zero _), HB0.out.trans (HBL.out.1.mono (by have := HSZ0.out; omega))⟩
          · simp only [Value.slice.injEq] at e0
            obtain ⟨rfl, _, rfl⟩ := e0
            have HSO := hide (sortP_any B g cc q ac wr HQ.out (by have := HACL.out; omega) HROW.out)
            have HG := hide hg
            clear hg
            go_wp2_with fail
            refine HSO.out.mono ?_
            rintro e w2 ⟨rfl, l', q1, q2, q3, q4⟩
            have HLE : Hid (l'.length = q) := hide (q1.length_eq.trans HQ.out)
            have H9 : Hid (w2.ownsRow w.heap.size 62 2 (.slice (some ⟨g, 0, none⟩) q cc) l'.length (l'.flatMap prc) ∧ l'.Perm (oldP ws bs ++ (ws.filter (seenW (s1, s2))).map prOf) ∧ (∀ i j, i < j → j < l'.length → Op.bytesLess (l'.getD j Pr0).key.toList (l'.getD i Pr0).key.toList = false) ∧ Below w.heap.size w w2) := hide ⟨by rw [HLE.out]; exact row_mono q3 (by have := HSZ0.out; omega), q1.trans HAC.out, by rw [HLE.out]; exact q2, HB0.out.trans ((HBL.out.1.trans ((Below.refl _ wr).grown q4 HBL.out.2 (fun k e => by cases e; exact HG.out))).mono (by have := HSZ0.out; omega))⟩
            clear q1 q2 q3 q4 HSO
            go_wp2
            go_ret
            exact ⟨_, l', rfl, H9.out.1, H9.out.2.1, H9.out.2.2.1, H9.out.2.2.2⟩
        · intro x c kl y1 y2 w1 cnt1 hkey hlk hv hat hrg1 hlt hg1 hs1 hen
          obtain ⟨z, hz, rfl⟩ := HD.out.just kl (HS.out.sub kl hlk)
          have hcv : c = wv z := by
            have e1 := (HD.out.all z hz).2 (.held c)
            rw [hat] at e1
            unfold heldR at hv
            cases hv
            cases e1
            rfl
          subst hcv
          have HB1 : Hid (Below B V0 w1 ∧ B ≤ w1.heap.size ∧ r + 1 ≤ w1.heap.size) := hide (by
            have h1 := HS.out.big
            have h2 := HSZ0.out
            exact ⟨HS.out.bel.trans ((Below.refl _ wr).grown hg1 (by omega) (fun k e => by cases e; omega)), by omega, by omega⟩)
          have HR1 : Hid (w1.ownsRow B 62 2 (.slice aa ac.length cc) ac.length (ac.flatMap prc)) := hide (row_kept HS.out.row (fun j hj => hg1.block j ((HS.out.row.lt j hj).2) (fun e => by cases e; exact HS.out.ne hj)))
          have HNE := hide HS.out.ne
          have HN1 : Hid (w1.heap[w.heap.size]? = some (.cells #[.string s1, .string s2] 127 (0, 0))) := hide ((hg1.block _ (heap_lt HNq.out) (by have := HSZ0.out; simp; omega)).trans HNq.out)
          have HPS := hide ((perm_strike left z hlk ws HD.out.srt hz).filter (seenW (s1, s2)))
          have HPM := hide HS.out.perm
          have HSU : Hid (∀ q, (left q && !q.sameKey (kS z.key)) = true → has D q = true) := hide (fun q hq => HS.out.sub q (by simp at hq; exact hq.1))
          have HRG := hide hrg1
          have HACL : Hid ((ac.length + 1) * 32 ≤ 140737488355328) := hide (by
            have h1 := HS.out.perm.length_eq
            have h2 := List.length_filter_le (fun p : Pr => !hasW ws p.key) bs
            have h3 := List.length_filter_le (seenW (s1, s2)) (ws.filter (fun x => !left (kS x.key)))
            have h4 := List.length_filter_le (fun x : Wt => !left (kS x.key)) ws
            rw [HPN.out] at h2
            rw [HM.out] at h4
            unfold oldP at h1
            simp only [List.length_append, List.length_map] at h1
            omega)
          obtain ⟨z1, z2, z3⟩ := z
          have HBz : Hid (Below w1.heap.size w1 (w1.alloc (.cells #[.string z1, .string z2, .bool z3] 64))) := hide ((Below.refl _ w1).alloc (Nat.le_refl _) _)
          have HNz := hide (heap_alloc_new w1 (.cells #[.string z1, .string z2, .bool z3] 64))
          have HSH := hide (span_has (w1.alloc (.cells #[.string z1, .string z2, .bool z3] 64)) (s1, s2) z1)
          have HAz := hide ((HBz.out.block _ (heap_lt HN1.out)).trans HN1.out)
          have t0 : (w1.alloc (.cells #[.string z1, .string z2, .bool z3] 64)).cell? ⟨w.heap.size, 0, none⟩ = some (.string s1) := cell_blk HAz.out rfl
          have t1 : (w1.alloc (.cells #[.string z1, .string z2, .bool z3] 64)).cell? ⟨w.heap.size, 1, none⟩ = some (.string s2) := cell_blk HAz.out rfl
          clear hrg hrg1 hat hlk hkey hv hg1 hs1 HS hz
          go_wp2_with fail
          refine HSH.out.mono ?_
          rintro e V5 ⟨rfl, hb5⟩
          have HB5 := hide (HBz.out.trans (hb5.mono HBz.out.size))
          have HN5 := hide ((hb5.block _ (heap_lt HNz.out)).trans HNz.out)
          clear hb5 HSH t0 t1 HBz
          generalize hzb : w1.heap.size = zb at *
          have HZB := hide hzb
          clear hzb
          have v0 : V5.cell? ⟨zb, 0, none⟩ = some (.string z1) := cell_blk HN5.out rfl
          have v1 : V5.cell? ⟨zb, 1, none⟩ = some (.string z2) := cell_blk HN5.out rfl
          have v2 : V5.cell? ⟨zb, 2, none⟩ = some (.bool z3) := cell_blk HN5.out rfl
          have HB6 : Hid (Below B V0 V5 ∧ B ≤ V5.heap.size ∧ r + 1 ≤ V5.heap.size ∧ w1.grownBy V5 none) := hide (by
            have h1 := HB1.out
            have h2 : zb ≤ V5.heap.size := by rw [← HZB.out]; exact HB5.out.size
            exact ⟨h1.1.trans (HB5.out.mono (by omega)), by omega, by omega, ⟨HB5.out.os, HB5.out.tape, HB5.out.output, HB5.out.size, fun i hi _ => HB5.out.block i (by rw [← HZB.out]; exact hi)⟩⟩)
          have HR6 : Hid (V5.ownsRow B 62 2 (.slice aa ac.length cc) ac.length (ac.flatMap prc)) := hide (row_kept HR1.out (fun j hj => HB5.out.block j (by have := (HR1.out.lt j hj).2; have := HZB.out; omega)))
          have HRG6 := hide (HRG.out.kept HB6.out.2.2.2 (by simp) (by simp))
          have HSW : Hid (seenW (s1, s2) ⟨z1, z2, z3⟩ = (inSp (s1, s2) z1 && !z3)) := hide rfl
          have HIN : Hid (kS (⟨z1, z2, z3⟩ : Wt).key = kS z1) := hide rfl
          cases hin : inSp (s1, s2) z1
          · rw [hin] at HSW
            have HN7 : Hid (Stwo V0 V5 B wb r m D ws (s1, s2) (oldP ws bs) (fun q => left q && !q.sameKey (kS z1)) cnt1 (.slice aa ac.length cc) ac) := hide ⟨HRG6.out, HR6.out, HNE.out, HPM.out.trans ((List.Perm.refl _).append ((by have := HPS.out; rw [List.filter_cons_of_neg (by rw [HSW.out]; simp)] at this; exact this.symm : List.Perm _ _).map prOf)), HSU.out, HB6.out.1, HB6.out.2.2.1⟩
            have hle2 := HN7.out.rg.left_eq
            clear HRG HRG6 HR6 HR1 HPS HPM
            go_wp2
            go_roundw
            case rel => exact ⟨_, _, ac, aa, cc, rfl, HN7⟩
            case measure => rw [hle, hle2]; exact hlt
          · rw [hin] at HSW
            cases z3
            · have HR8 : Hid ((V5.alloc (.cells #[.string z1, .string z2] 62)).ownsRow B 62 2 (.slice aa ac.length cc) ac.length (ac.flatMap prc)) := hide (HR6.out.alloc _)
              have HN8 := hide (heap_alloc_new V5 (.cells #[.string z1, .string z2] 62))
              have HS8 : Hid ((V5.alloc (.cells #[.string z1, .string z2] 62)).heap.size = V5.heap.size + 1) := hide (World.size_alloc _ _)
              have HB8 : Hid (Below B V0 (V5.alloc (.cells #[.string z1, .string z2] 62)) ∧ B ≤ (V5.alloc (.cells #[.string z1, .string z2] 62)).heap.size) := hide ⟨HB6.out.1.alloc HB6.out.2.1 _, by have := HS8.out; have := HB6.out.2.1; omega⟩
              have HRG8 := hide (HRG6.out.alloc (.cells #[.string z1, .string z2] 62))
              have HWR : Hid (wb < B ∧ B ≤ r) := hide (by have h1 := HWL.out; have h2 := HSZ0.out; omega)
              go_wp2_with (at_builtin; refine wpList_pr rfl _ _ rfl B (.slice aa ac.length cc) ac.length ac rfl HR8.out V5.heap.size ⟨z1, z2⟩ rfl HN8.out HACL.out HB8.out.2 ?_)
              intro v9 w9 HN9
              obtain ⟨a9, c9, rfl⟩ := own_form HN9.out.1
              have HLL : Hid ((ac ++ [(⟨z1, z2⟩ : Pr)]).length = ac.length + 1) := hide (by simp)
              have HN7 : Hid (Stwo V0 w9 B wb r m D ws (s1, s2) (oldP ws bs) (fun q => left q && !q.sameKey (kS z1)) cnt1 (.slice a9 (ac.length + 1) c9) (ac ++ [⟨z1, z2⟩])) := hide ⟨HRG8.out.kept HN9.out.2.1 (fun e => by have := (HR8.out.lt wb e.symm).1; have := HWR.out; omega) (fun e => HNE.out e.symm), by rw [HLL.out]; have := HN9.out.1; simpa using this, fun e => HN9.out.2.2.1.elim (fun h => HNE.out (by rw [← h]; exact e)) (fun h => by rw [h] at e; simp only [Option.some.injEq] at e; have := HB6.out.2.2.1; omega), by
                have h1 := HPS.out
                rw [List.filter_cons_of_pos (by rw [HSW.out]; rfl)] at h1
                have h2 := (h1.map prOf).symm
                rw [List.map_cons] at h2
                have h3 := ((List.Perm.refl (oldP ws bs)).append h2)
                refine List.Perm.trans ?_ h3
                refine List.Perm.trans ?_ (List.perm_middle).symm
                exact (List.perm_append_comm).trans (HPM.out.cons _), HSU.out, HB8.out.1.trans HN9.out.2.2.2, by have h1 := HN9.out.2.1.size; have h2 := HS8.out; have h3 := HB6.out.2.2.1; omega⟩
              have hle2 := HN7.out.rg.left_eq
              clear HN9 HRG HRG6 HRG8 HR6 HR8 HR1 HPS HPM HN8
              go_wp2
              go_roundw
              case rel => exact ⟨_, _, ac ++ [⟨z1, z2⟩], a9, c9, by rw [HLL.out], by rw [HLL.out]; exact HN7⟩
              case measure => rw [hle, hle2]; exact hlt
            · have HN7 : Hid (Stwo V0 V5 B wb r m D ws (s1, s2) (oldP ws bs) (fun q => left q && !q.sameKey (kS z1)) cnt1 (.slice aa ac.length cc) ac) := hide ⟨HRG6.out, HR6.out, HNE.out, HPM.out.trans ((List.Perm.refl _).append ((by have := HPS.out; rw [List.filter_cons_of_neg (by rw [HSW.out]; simp)] at this; exact this.symm : List.Perm _ _).map prOf)), HSU.out, HB6.out.1, HB6.out.2.2.1⟩
              have hle2 := HN7.out.rg.left_eq
              clear HRG HRG6 HR6 HR1 HPS HPM
              go_wp2
              go_roundw
              case rel => exact ⟨_, _, ac, aa, cc, rfl, HN7⟩
              case measure => rw [hle, hle2]; exact hlt
end Go.Proofs.YtlkmcbelmldleaaGreat
