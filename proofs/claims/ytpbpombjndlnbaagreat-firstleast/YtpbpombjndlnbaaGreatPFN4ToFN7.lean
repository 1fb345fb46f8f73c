import Derived.Test.YtpbpombjndlnbaaGreatPFN1ToFN3
import Derived.Laws.OwnMore
namespace Go.Proofs.YtpbpombjndlnbaaGreat
set_option linter.unusedVariables false
set_option maxRecDepth 100000
set_option maxHeartbeats 16000000
open Go.RowKit
theorem SymRow.dropQ {w : World} {b o : Nat} {l : List (Int × Int)} (h : SymRow w (some ⟨b, o, none⟩) l) (i : Nat) : SymRow w (some ⟨b, o + i * 2, none⟩) (l.drop i) := fun hne => by
 have hl : l ≠ [] := fun e => hne (by rw [e]; simp)
 obtain ⟨b', o', e, hb, hc⟩ := h hl
 simp at e
 obtain ⟨rfl, rfl⟩ := e
 refine ⟨b, _, rfl, hb, fun j hj => ?_⟩
 have hj2 : i + j < l.length := by rw [List.length_drop] at hj; omega
 have e2 : (l.drop i).getD j (0, 0) = l.getD (i + j) (0, 0) := by simp [List.getD, List.getElem?_drop]
 have := hc (i + j) hj2
 rw [e2]
 rw [show o + i * 2 + j * 2 = o + (i + j) * 2 by omega]
 exact this
theorem slice_froQ (b o lc len i : Nat) (hi : i <= len) (hc : len <= lc) :
  ∃ o' c', (∀ w, (Instr.slice 62 (.slice (some ⟨b, o, none⟩) len lc) (some (.int .i64 (i : Int))) none none).run Tryz.prog w = .ok (.slice (some ⟨b, o', none⟩) (len - i) c') w) /\ ∀ w (l : List (Int × Int)), l.length = len -> SymRow w (some ⟨b, o, none⟩) l -> SymRow w (some ⟨b, o', none⟩) (l.drop i) := by
 obtain ⟨i0, hinf, _, hz1, _⟩ := infoSym_parts
 have hu : Tryz.prog.underlying 62 = some (.slice (Tryz.prog.elem 62)) := by kernel_rfl
 have he : Tryz.prog.elem 62 = 102 := by kernel_rfl
 have hrun : ∀ w : World, (Instr.slice 62 (.slice (some ⟨b, o, none⟩) len lc) (some (.int .i64 (i : Int))) none none).run Tryz.prog w = .ok (sliced (some ⟨b, o, none⟩) i len lc 2) w := by
  intro w
  have := run_slice_l (P := Tryz.prog) (w := w) 62 (some ⟨b, o, none⟩) len lc hu .i64 (i : Int) (by omega) (by omega)
  rw [this, he]
  simp [sizeOf, typeInfo, hinf, hz1]
 by_cases hcp : lc = i
 ·refine ⟨o, lc - i, fun w => by rw [hrun w]; simp [sliced, hcp], fun w l hl h => ?_⟩
  rw [List.drop_eq_nil_of_le (by omega)]
  exact fun h => absurd rfl h
 ·exact ⟨o + i * 2, lc - i, fun w => by rw [hrun w]; simp [sliced, hcp, add_none], fun w l _ h => h.dropQ i⟩
theorem RF.other {w : World} {ob fb : Nat} {H F : List BS} (h : RF w ob H) (hf : RF w fb F) (hne : fb ≠ ob) (v : Value) (i : Nat) : RF (w.setCell ⟨ob, i, none⟩ v) fb F := by
 obtain ⟨C, h0, h1, h2⟩ := hf
 refine ⟨C, h0, (Below.heap_setCell _ _ _ _ hne).trans h1, fun j hj => ?_⟩
 obtain ⟨u, e, q⟩ := h2 j hj
 exact ⟨u, e, h.jl_ne q v i⟩
theorem ofS_look (N : List Bool) (F : List BS) (look : BS) : ∀ l : List (Int × Int), (∀ s ∈ l, s.1 = 1 ∨ s.1 = 2) -> ofS N F l look = if allN N l = true then withS (ofS N F l (0, 0)) look else ofS N F l (0, 0)
 | [], _ => by
  show look = if allN N [] = true then withS (0, 0) look else (0, 0)
  rw [if_pos (by simp [allN]), zero_with]
 | s :: l, hs => by
  have ih := ofS_look N F look l (fun x hx => hs x (List.mem_cons_of_mem _ hx))
  rw [of_cons, of_cons, ih]
  have ea : allN N (s :: l) = (null1 N s && allN N l) := by simp [allN]
  rw [ea]
  unfold aheadS null1
  rcases hs s (List.mem_cons_self ..) with h1 | h2
  ·rw [if_pos h1, if_pos h1, if_neg (by simp [h1])]
  ·simp only [h2, decide_true, Bool.true_and]
   cases hn : N.getD s.2.toNat false with
   | false => simp
   | true =>
    cases ha : allN N l with
    | false => simp
    | true =>
     have h21 : ¬ (2 : Int) = 1 := by decide
     simp only [if_true, if_neg h21, Bool.and_self]
     rw [with_assoc, with_assoc, with_comm look]
def cloK (N : List Bool) (F H : List BS) (p : PV) (k : Nat) : Prop := (p.right.getD k (0, 0)).1 = 2 -> LeS (ofS N F (p.right.drop (k + 1)) (H.getD p.left.toNat (0, 0))) (H.getD (p.right.getD k (0, 0)).2.toNat (0, 0))
theorem clos_of {N : List Bool} {F H : List BS} {ps : List PV} (h : ∀ p ∈ ps, ∀ k, k < p.right.length -> cloK N F H p k) : ClosW N F ps H := fun p hp r1 s r2 e hs => by
 have := h p hp r1.length (by rw [e]; simp)
 unfold cloK at this
 have e1 : p.right.getD r1.length (0, 0) = s := by rw [e]; simp [List.getD]
 have e2 : p.right.drop (r1.length + 1) = r2 := by rw [e, List.drop_append]; simp
 rw [e1, e2] at this
 exact this hs
theorem cloK_of {N : List Bool} {F H : List BS} {ps : List PV} (h : ClosW N F ps H) {p : PV} (hp : p ∈ ps) {k : Nat} (hk : k < p.right.length) : cloK N F H p k := fun hs => by
 refine h p hp (p.right.take k) _ (p.right.drop (k + 1)) ?_ hs
 have : p.right.getD k (0, 0) = p.right[k] := by simp [List.getD, hk]
 rw [this, <- List.drop_eq_getElem_cons hk, List.take_append_drop]
structure RW2 (g : GV) (w : World) (nb fb ob : Nat) (F E H : List BS) (wr : World) : Prop where
 len : H.length = g.ns.length
 ok : ∀ i, OkS (H.getD i (0, 0))
 le : ∀ i, LeS (H.getD i (0, 0)) (E.getD i (0, 0))
 st : hasS (H.getD g.start.toNat (0, 0)) g.ts.length = true
 rf : RF wr ob H
 ff : RF wr fb F
 nu : BB wr nb (nullU g.ps g.ns.length)
 box : wr.heap[w.heap.size]? = some (gBox g)
 bel : Below w.heap.size w wr
 ord : w.heap.size < ob /\ nb < ob /\ fb < ob
theorem RW2.any {g : GV} {w wr w' : World} {nb fb ob : Nat} {F E H : List BS} (h : RW2 g w nb fb ob F E H wr) (hb : Below wr.heap.size wr w') : RW2 g w nb fb ob F E H w' :=
 ⟨h.len, h.ok, h.le, h.st, h.rf.later hb, h.ff.later hb, h.nu.later hb, (hb.block _ (lt_of_block h.box)).trans h.box, h.bel.trans (hb.mono h.bel.size), h.ord⟩
theorem RW2.set {g : GV} {w wr : World} {nb fb ob : Nat} {F E H : List BS} (h : RW2 g w nb fb ob F E H wr) {i : Nat} (hi : i < H.length) {v : Value} {s : BS} (hj : JL wr v (withS (H.getD i (0, 0)) s)) (hs : OkS s) (hl : LeS s (E.getD i (0, 0))) : RW2 g w nb fb ob F E (H.set i (withS (H.getD i (0, 0)) s)) (wr.setCell ⟨ob, i, none⟩ v) := by
 have ho := h.ord
 refine ⟨by simpa using h.len, fun j => ?_, fun j => ?_, ?_, h.rf.set hi hj, h.rf.other h.ff (by omega) _ _, h.nu.kept (Below.heap_setCell _ _ _ _ (by show nb ≠ ob; omega)), (Below.heap_setCell _ _ _ _ (by show w.heap.size ≠ ob; omega)).trans h.box, h.bel.setCell (p := ⟨ob, i, none⟩) (by show w.heap.size <= ob; omega) _, ho⟩
 ·rw [getD_setS]
  split
  ·exact (h.ok i).with hs
  ·exact h.ok j
 ·rw [getD_setS]
  split
  ·rename_i q
   rw [<- q.1]
   exact leS_with (h.le i) hl
  ·exact h.le j
 ·rw [getD_setS]
  split
  ·rename_i q
   rw [hasS_with, q.1, h.st]
   rfl
  ·exact h.st
theorem jl_one (w : World) (n : Nat) (hn : n < 128) : JL (w.alloc (.cells #[.int .i64 (n : Int)] 3)) (.slice (some ⟨w.heap.size, 0, none⟩) 1 1) (addS (0, 0) n) := by
 have e : listS (addS (0, 0) n) 128 = [(n : Int)] := by
  have h : SL [(n : Int)] := ⟨by simp, fun x hx => by simp at hx; omega⟩
  have := h.list
  rwa [show setS [(n : Int)] = addS (0, 0) n by simp [setS]] at this
 refine ⟨some ⟨w.heap.size, 0, none⟩, 1, by rw [e]; rfl, ?_, .inr ⟨_, _, rfl⟩, by rw [e]; simp⟩
 rw [e]
 intro _
 refine ⟨w.heap.size, 0, rfl, by simp, fun i hi => ?_⟩
 obtain rfl : i = 0 := by simp at hi; omega
 simp
theorem rf_start (w3 : World) (n st T : Nat) (hst : st < n) (hT : T < 128) : RF ((w3.alloc (.cells ((madeCells #[.slice none 0 0] n).setIfInBounds st (.slice (some ⟨w3.heap.size + 1, 0, none⟩) 1 1)) 47)).alloc (.cells #[.int .i64 (T : Int)] 3)) w3.heap.size (startW n st T) := by
 refine ⟨(List.replicate n (.slice none 0 0)).set st (.slice (some ⟨w3.heap.size + 1, 0, none⟩) 1 1), by simp [startW], ?_, fun i hi => ?_⟩
 ·rw [alN (by simp), heap_alloc_new, made_listF, List.setIfInBounds_toArray]
 ·have hi' : i < n := by simpa [startW] using hi
  unfold startW
  rw [getD_setS]
  by_cases e : st = i
  ·subst e
   rw [if_pos ⟨rfl, by simpa using hst⟩]
   have := jl_one (w3.alloc (.cells ((madeCells #[.slice none 0 0] n).setIfInBounds st (.slice (some ⟨w3.heap.size + 1, 0, none⟩) 1 1)) 47)) T hT
   rw [alZ] at this
   exact ⟨_, by simp [hst], this⟩
  ·rw [if_neg (fun h => e h.1), rep_zero]
   exact ⟨.slice none 0 0, by rw [List.getElem?_set_ne e]; simp [hi'], JL.nil _⟩
set_option linter.unusedSimpArgs false in
theorem rfollow_S (g : GV) (w : World) (hfg : FG w g) (hst : 0 <= g.start /\ g.start < g.ns.length) (hcap : ∀ p ∈ g.ps, p.right.length <= p.rc) (F E : List BS) (hF : LeastF g F) (hE : LstW g F E) :
  Calls Tryz.prog 17 #[g.val] w fun e w' => ∃ b, e = .returned (.slice (some ⟨b, 0, none⟩) g.ns.length g.ns.length) /\ RF w' b E /\ w.heap.size <= b /\ Below w.heap.size w w' := by
 have X0 : Hid ((w.alloc (gBox g)).heap[w.heap.size]? = some (gBox g)) := heap_alloc_new _ _
 have HFG : Hid (∀ w', Below w.heap.size w w' -> FG w' g) := fun w' hb => hfg.later hb
 have HGP : Hid (GP g) := hfg.gp
 have HLF : Hid (LeastF g F) := hF
 have HLE : Hid (LstW g F E) := hE
 have HCP : Hid (∀ p ∈ g.ps, p.right.length <= p.rc) := hcap
 have HNU : Hid ((nullU g.ps g.ns.length).length = g.ns.length) := nullU_len _ _
 have HFL : Hid (F.length = g.ns.length /\ ∀ i, OkS (F.getD i (0, 0))) := by obtain ⟨_, _, _, q1, q2⟩ := hF; exact ⟨q2, q1⟩
 have hmk := make_intsF g.ns.length (by have := hfg.nl; omega)
 have hpl := hfg.pl
 have hnl := hfg.nl.2
 have htl := hfg.tl.2
 obtain ⟨st, hst2⟩ : ∃ st : Nat, g.start = (st : Int) := ⟨g.start.toNat, by omega⟩
 have HST : Hid (g.start.toNat = st) := by show _ = _; omega
 have slt : (st : Int) < (g.ns.length : Int) := by omega
 have HS2 : Hid (g.start = (st : Int)) := hst2
 obtain ⟨x0, x1, x2, x3, x4⟩ := gb_cells X0.out
 clear hfg hF hE hcap hst hst2
 go_enter Tryz.func17, Tryz.ntmps17
 go_wp2_with (first
  | (go_at_call 14; refine (rnull_S g _ (HFG.out _ (below_alloc w (gBox g)))).mono ?_; rintro e w2 ⟨nb, rfl, n2, l2, b2⟩; have B2 : Hid (BB w2 nb (nullU g.ps g.ns.length) /\ w2.heap[w.heap.size]? = some (gBox g) /\ Below w.heap.size w w2) := ⟨n2, (b2.block _ (lt_of_block X0.out)).trans X0.out, (below_alloc w _).trans (b2.mono (below_alloc w _).size)⟩; clear n2 l2 b2 x0 x1 x2 x3 x4; obtain ⟨x0, x1, x2, x3, x4⟩ := gb_cells B2.out.2.1)
  | (go_at_call 16; refine (rfirst_S g _ (HFG.out _ B2.out.2.2) F HLF.out).mono ?_; rintro e w3 ⟨fb, rfl, n3, l3, b3⟩; have B3 : Hid (BB w3 nb (nullU g.ps g.ns.length) /\ w3.heap[w.heap.size]? = some (gBox g) /\ Below w.heap.size w w3 /\ RF w3 fb F) := ⟨B2.out.1.later b3, (b3.block _ (lt_of_block B2.out.2.1)).trans B2.out.2.1, B2.out.2.2.trans (b3.mono B2.out.2.2.size), n3⟩; clear n3 l3 b3 x0 x1 x2 x3 x4; have x1 := (gb_cells B3.out.2.1).2.1; have p0 : (w3.alloc (.cells (madeCells #[.slice none 0 0] g.ns.length) 47)).cell? ⟨w.heap.size, 0, none⟩ = some (.slice g.ta g.ts.length g.tc) := (gb_cells (((below_alloc w3 _).block _ (lt_of_block B3.out.2.1)).trans B3.out.2.1)).1; have p2 : (w3.alloc (.cells (madeCells #[.slice none 0 0] g.ns.length) 47)).cell? ⟨w.heap.size, 2, none⟩ = some (.int .i64 (st : Int)) := (by rw [<- HS2.out]; exact (gb_cells (((below_alloc w3 _).block _ (lt_of_block B3.out.2.1)).trans B3.out.2.1)).2.2.1); have R0 : Hid (RF ((w3.alloc (.cells (madeCells #[.slice none 0 0] g.ns.length) 47)).alloc (.cells #[.int .i64 (g.ts.length : Int)] 3)) w3.heap.size (List.replicate g.ns.length (0, 0))) := (RF.made w3 g.ns.length).later (below_alloc _ _); obtain ⟨za, zc, hc0, _⟩ := R0.out.cell (i := st) (by simp; omega); have hf0 := R0.out.free st))
 have M0 : Hid (RW2 g w nb fb w3.heap.size F E (startW g.ns.length g.start.toNat g.ts.length) ((w3.alloc (.cells ((madeCells #[.slice none 0 0] g.ns.length).setIfInBounds st (.slice (some ⟨w3.heap.size + 1, 0, none⟩) 1 1)) 47)).alloc (.cells #[.int .i64 (g.ts.length : Int)] 3))) := by
  have bA : Below w3.heap.size w3 ((w3.alloc (.cells ((madeCells #[.slice none 0 0] g.ns.length).setIfInBounds st (.slice (some ⟨w3.heap.size + 1, 0, none⟩) 1 1)) 47)).alloc (.cells #[.int .i64 (g.ts.length : Int)] 3)) := (below_alloc w3 _).trans ((below_alloc (w3.alloc _) _).mono (below_alloc w3 _).size)
  obtain ⟨q1, q2, q3, q4⟩ := B3.out
  have hh : ∀ i, (startW g.ns.length g.start.toNat g.ts.length).getD i (0, 0) = if st = i then addS (0, 0) g.ts.length else (0, 0) := fun i => by
   unfold startW
   rw [getD_setS, HST.out]
   by_cases q : st = i
   ·rw [if_pos ⟨q, by simp; omega⟩, if_pos q]
   ·rw [if_neg (fun h => q h.1), if_neg q, rep_zero]
  have hrf := rf_start w3 g.ns.length st g.ts.length (by omega) (by omega)
  refine ⟨by simp [startW], fun i => ?_, fun i n hn h => ?_, ?_, by rw [HST.out]; exact hrf, q4.later bA, q1.later bA, (bA.block _ (lt_of_block q2)).trans q2, q3.trans (bA.mono q3.size), lt_of_block q2, q1.lt, q4.lt⟩
  ·rw [hh]
   split
   ·exact OkS.zero.add (by omega)
   ·exact OkS.zero
  ·rw [hh] at h
   split at h
   ·rename_i e
    subst e
    rw [hasS_add _ _ _ (by omega) hn, hasS_zero, Bool.false_or, decide_eq_true_eq] at h
    rw [<- h, <- HST.out]
    exact HLE.out.st
   ·rw [hasS_zero] at h
    cases h
  ·rw [hh, HST.out, if_pos rfl, hasS_add _ _ _ (by omega) (by omega)]
   simp
 clear x1 p0 p2 hc0 hf0 R0
 generalize Value.agg #[Value.slice g.ta g.ts.length g.tc, Value.slice g.na g.ns.length g.nc, Value.int .i64 g.start, Value.slice g.pa g.ps.length g.pc, Value.slice g.la g.ls.length g.lc] = v9
 generalize hob : w3.heap.size = ob at *
 generalize (w3.alloc (.cells ((madeCells #[.slice none 0 0] g.ns.length).setIfInBounds st (.slice (some ⟨ob + 1, 0, none⟩) 1 1)) 47)).alloc (.cells #[.int .i64 (g.ts.length : Int)] 3) = wB at *
 clear B2 B3 X0 hob
 go_loopw [6] (fun z wr => ∃ (bo : Bool) (H : List BS), z = .bool bo /\ RW2 g w nb fb ob F E H wr /\ (bo = false -> ClosW (nullU g.ps g.ns.length) F g.ps H)) (fun z wr => mesR ob wr + tOf z)
 case atStart => exact ⟨true, _, rfl, M0.out, fun h => by cases h⟩
 case round =>
  clear M0
  obtain ⟨bo, H, rfl, hW, hcl⟩ := hrel
  have HW : Hid (RW2 g w nb fb ob F E H wr) := hW
  have HM : Hid (mesR ob wr = mesF H) := mesR_of hW.rf hW.ok
  cases bo
  ·have R : Hid (H = E) := eqF_of (by rw [hW.len, HLE.out.len]) hW.ok HLE.out.ok hW.le (HLE.out.lst H hW.st (hcl rfl))
   clear hW hcl
   go_wp2
   go_ret
   exact ⟨ob, rfl, by rw [<- R.out]; exact HW.out.rf, Nat.le_of_lt HW.out.ord.1, HW.out.bel⟩
  ·clear hcl hW
   obtain ⟨wz, rfl⟩ : ∃ wz : World, wz = wr := ⟨_, rfl⟩
   go_wp2
   go_loopw [6, 7] (fun z i wr => ∃ (k : Nat) (b2 : Bool) (H2 : List BS), k <= g.ps.length /\ z = .bool b2 /\ i = .int .i64 k /\ RW2 g w nb fb ob F E H2 wr /\ mesF H2 + (if b2 then 1 else 0) <= mesF H /\ (b2 = false -> H2 = H /\ ∀ j, j < k -> ∀ q, q < (g.ps.getD j .none).right.length -> cloK (nullU g.ps g.ns.length) F H (g.ps.getD j .none) q)) (fun _ i _ => g.ps.length - (intOf i).toNat)
   case atStart => exact ⟨0, false, H, Nat.zero_le _, rfl, rfl, HW.out, by simp, fun _ => ⟨rfl, fun j hj => absurd hj (Nat.not_lt_zero j)⟩⟩
   case round =>
    obtain ⟨k, b2, H2, hk, rfl, rfl, hW2, hle, hcl⟩ := hrel
    have HW2 : Hid (RW2 g w nb fb ob F E H2 wr) := hW2
    obtain ⟨x0, x1, x2, x3, x4⟩ := gb_cells hW2.box
    by_cases hlt : k < g.ps.length
    ·obtain ⟨b, o, hpa, hbl, hc⟩ := (HFG.out _ hW2.bel).p.cells (by intro e; rw [e] at hlt; simp at hlt)
     obtain ⟨c0, c1, c2⟩ := hc k hlt
     have klt : (k : Int) < (g.ps.length : Int) := by omega
     have hmem : g.ps.getD k .none ∈ g.ps := by simp [List.getD, hlt]
     obtain ⟨l0, l1⟩ := (HFG.out _ hW2.bel).left _ hmem
     have HRW : Hid (∀ w', Below w.heap.size w w' -> SymRow w' (g.ps.getD k .none).ra (g.ps.getD k .none).right) := fun w' hb => (HFG.out _ hb).p.rows _ hmem
     have hrl := (HFG.out _ hW2.bel).rl _ hmem
     have hrc := HCP.out _ hmem
     have HSY : Hid (∀ s ∈ (g.ps.getD k .none).right, SymIn (nullU g.ps g.ns.length).length s) := (HFG.out _ hW2.bel).gp.symIn (N := (nullU g.ps g.ns.length)) HNU.out _ hmem
     have HCL : Hid (b2 = false -> H2 = H /\ ∀ j, j < k -> ∀ q, q < (g.ps.getD j .none).right.length -> cloK (nullU g.ps g.ns.length) F H (g.ps.getD j .none) q) := hcl
     have HPK : Hid (∀ H', (∀ j, j < k -> ∀ q, q < (g.ps.getD j .none).right.length -> cloK (nullU g.ps g.ns.length) F H' (g.ps.getD j .none) q) -> (∀ q, q < (g.ps.getD k .none).right.length -> cloK (nullU g.ps g.ns.length) F H' (g.ps.getD k .none) q) -> ∀ j, j < k + 1 -> ∀ q, q < (g.ps.getD j .none).right.length -> cloK (nullU g.ps g.ns.length) F H' (g.ps.getD j .none) q) := fun H' h1 h2 j hj => by
      by_cases r : j = k
      ·subst r; exact h2
      ·exact h1 j (by omega)
     have HEK : Hid (∀ q, q < (g.ps.getD k .none).right.length -> cloK (nullU g.ps g.ns.length) F E (g.ps.getD k .none) q) := fun q hq => cloK_of HLE.out.cl hmem hq
     have HLE2 : Hid (mesF H2 + (if b2 then 1 else 0) <= mesF H) := hle
     generalize g.ps.getD k .none = p at *
     obtain ⟨pl, pra, prc, pr, pp⟩ := p
     simp only at c0 c1 c2 l0 l1 hrl hrc HSY HRW
     obtain ⟨m, rfl⟩ : ∃ m : Nat, pl = (m : Int) := ⟨pl.toNat, by omega⟩
     have mlt : (m : Int) < (g.ns.length : Int) := by omega
     have HWA : Hid (RW2 g w nb fb ob F E H2 (wr.alloc (.cells #[.int .i64 (m : Int), .slice pra pr.length prc, .int .i64 pp] 64)) /\ (wr.alloc (.cells #[.int .i64 (m : Int), .slice pra pr.length prc, .int .i64 pp] 64)).heap[wr.heap.size]? = some (.cells #[.int .i64 (m : Int), .slice pra pr.length prc, .int .i64 pp] 64 (0, 0))) := ⟨hW2.any (below_alloc _ _), heap_alloc_new _ _⟩
     rw [hpa] at x3
     clear hc hmem hW2 hcl hle hpa
     obtain ⟨wy, rfl⟩ : ∃ wy : World, wy = wr := ⟨_, rfl⟩
     go_wp2
     clear x0 x1 x2 x3 x4 c0 c1 c2
     generalize wy.alloc (.cells #[.int .i64 (m : Int), .slice pra pr.length prc, .int .i64 pp] 64) = wA at *
     generalize hpb : wy.heap.size = pb at *
     clear hbl HW2
     go_loopw [6, 9] (fun z i wr => ∃ (q : Nat) (b3 : Bool) (H3 : List BS), q <= pr.length /\ z = .bool b3 /\ i = .int .i64 q /\ RW2 g w nb fb ob F E H3 wr /\ wr.heap[pb]? = some (.cells #[.int .i64 (m : Int), .slice pra pr.length prc, .int .i64 pp] 64 (0, 0)) /\ mesF H3 + (if b3 then 1 else 0) <= mesF H /\ (b3 = false -> H3 = H /\ (∀ j, j < k -> ∀ q, q < (g.ps.getD j .none).right.length -> cloK (nullU g.ps g.ns.length) F H (g.ps.getD j .none) q) /\ ∀ j, j < q -> cloK (nullU g.ps g.ns.length) F H ⟨(m : Int), pra, prc, pr, pp⟩ j)) (fun _ i _ => pr.length - (intOf i).toNat)
     case atStart => exact ⟨0, b2, H2, Nat.zero_le _, rfl, rfl, HWA.out.1, HWA.out.2, HLE2.out, fun h => ⟨(HCL.out h).1, (HCL.out h).2, fun j hj => absurd hj (Nat.not_lt_zero j)⟩⟩
     case round =>
      clear HWA HLE2 HCL
      obtain ⟨q, b3, H3, hq, rfl, rfl, hW3, hP3, hle3, hcl3⟩ := hrel
      have HW3 : Hid (RW2 g w nb fb ob F E H3 wr /\ wr.heap[pb]? = some (.cells #[.int .i64 (m : Int), .slice pra pr.length prc, .int .i64 pp] 64 (0, 0))) := ⟨hW3, hP3⟩
      have HCL3 : Hid (b3 = false -> H3 = H /\ (∀ j, j < k -> ∀ q, q < (g.ps.getD j .none).right.length -> cloK (nullU g.ps g.ns.length) F H (g.ps.getD j .none) q) /\ ∀ j, j < q -> cloK (nullU g.ps g.ns.length) F H ⟨(m : Int), pra, prc, pr, pp⟩ j) := hcl3
      have HLE3 : Hid (mesF H3 + (if b3 then 1 else 0) <= mesF H) := hle3
      have d1 : wr.cell? ⟨pb, 1, none⟩ = some (.slice pra pr.length prc) := (cellq_any hP3).trans rfl
      by_cases hql : q < pr.length
      ·have qlt : (q : Int) < (pr.length : Int) := by omega
       obtain ⟨sb, so, hpr, hsl, hsc⟩ := HRW.out _ hW3.bel (by intro e; rw [e] at hql; simp at hql)
       subst hpr
       obtain ⟨o2, c2, hs2, hr2⟩ := slice_froQ sb so prc pr.length (q + 1) (by omega) hrc
       simp only [show ((q + 1 : Nat) : Int) = (q : Int) + 1 from rfl] at hs2
       have HR2 : Hid (∀ w', Below w.heap.size w w' -> SymRow w' (some ⟨sb, o2, none⟩) (pr.drop (q + 1))) := fun w' hb => hr2 w' _ rfl (HRW.out w' hb)
       obtain ⟨x, hx⟩ : ∃ x, pr.getD q (0, 0) = x := ⟨_, rfl⟩
       have HSC : Hid (∀ w', Below w.heap.size w w' -> w'.cell? ⟨sb, so + q * 2, none⟩ = some (.int .i64 x.1) /\ w'.cell? ⟨sb, so + q * 2 + 1, none⟩ = some (.int .i64 x.2)) := fun w' hb => by
        obtain ⟨b', o', e, _, hc⟩ := HRW.out w' hb (by intro e; rw [e] at hql; simp at hql)
        simp at e
        obtain ⟨rfl, rfl⟩ := e
        rw [<- hx]
        exact hc q hql
       have hin := HSY.out x (by rw [<- hx]; simp [List.getD, hql])
       have HNX : Hid ((x.1 = 2 -> LeS (ofS (nullU g.ps g.ns.length) F (pr.drop (q + 1)) (H3.getD m (0, 0))) (H3.getD x.2.toNat (0, 0))) -> b3 = false -> H3 = H /\ (∀ j, j < k -> ∀ q, q < (g.ps.getD j .none).right.length -> cloK (nullU g.ps g.ns.length) F H (g.ps.getD j .none) q) /\ ∀ j, j < q + 1 -> cloK (nullU g.ps g.ns.length) F H ⟨(m : Int), some ⟨sb, so, none⟩, prc, pr, pp⟩ j) := fun h hb => by
        obtain ⟨e1, e2, e3⟩ := HCL3.out hb
        refine ⟨e1, e2, fun j hj => ?_⟩
        by_cases r : j = q
        ·subst r
         intro hs
         have := h (by rw [<- hx]; exact hs)
         rw [e1, <- hx] at this
         simpa using this
        ·exact e3 j (by omega)
       have HEQ : Hid (x.1 = 2 -> LeS (ofS (nullU g.ps g.ns.length) F (pr.drop (q + 1)) (E.getD m (0, 0))) (E.getD x.2.toNat (0, 0))) := fun hs => by
        have := HEK.out q hql (by show (pr.getD q (0, 0)).1 = 2; rw [hx]; exact hs)
        simp only [hx] at this
        simpa using this
       obtain ⟨s0, s1⟩ := HSC.out _ hW3.bel
       clear hr2 hsc hsl hW3 hP3 hle3 hcl3 hx
       obtain ⟨y1, y2⟩ := x
       have hin2 : (y1 = 1 /\ 0 <= y2 /\ y2 < 64) ∨ (y1 = 2 /\ 0 <= y2 /\ y2 < ((nullU g.ps g.ns.length).length : Int)) := hin
       simp only at HSC HNX HEQ s0 s1
       clear hin
       rcases hin2 with ⟨h1, i0, i1⟩ | ⟨h1, i0, i1⟩
       ·have t1 : (y1 != 2) = true := by rw [h1]; decide
        have R : Hid (b3 = false -> H3 = H /\ (∀ j, j < k -> ∀ q, q < (g.ps.getD j .none).right.length -> cloK (nullU g.ps g.ns.length) F H (g.ps.getD j .none) q) /\ ∀ j, j < q + 1 -> cloK (nullU g.ps g.ns.length) F H ⟨(m : Int), some ⟨sb, so, none⟩, prc, pr, pp⟩ j) := HNX.out (fun e => by omega)
        clear h1
        go_wp2
        go_roundw
        case rel => exact ⟨q + 1, b3, H3, by omega, rfl, by go_num, HW3.out.1, HW3.out.2, HLE3.out, R.out⟩
        case measure => simp [intOf]; omega
       ·have t1 : (y1 != 2) = false := by rw [h1]; decide
        rw [HNU.out] at i1
        obtain ⟨e, rfl⟩ : ∃ e : Nat, y2 = (e : Int) := ⟨y2.toNat, by omega⟩
        have elt : (e : Int) < (g.ns.length : Int) := i1
        have HE3 : Hid (e < H3.length) := by show _ < _; rw [HW3.out.1.len]; omega
        have HM3 : Hid (m < H3.length) := by show _ < _; rw [HW3.out.1.len]; omega
        have HSD : Hid (∀ s ∈ pr.drop (q + 1), SymIn (nullU g.ps g.ns.length).length s) := fun s hs => HSY.out s (List.mem_of_mem_drop hs)
        have BG : Hid (∀ w', RW2 g w nb fb ob F E H3 w' -> Calls Tryz.prog 42 #[.slice (some ⟨nb, 0, none⟩) g.ns.length g.ns.length, .slice (some ⟨fb, 0, none⟩) g.ns.length g.ns.length, .slice (some ⟨sb, o2, none⟩) (pr.length - (q + 1)) c2] w' fun e w'' => ∃ v, e = .returned v /\ JL w'' v (ofS (nullU g.ps g.ns.length) F (pr.drop (q + 1)) (0, 0)) /\ Below w'.heap.size w' w'') := fun w' hw => by
         have e1 : (listsU F).length = g.ns.length := by simp [listsU, HFL.out.1]
         have := rbegins_S (some ⟨nb, 0, none⟩) g.ns.length (nullU g.ps g.ns.length) (some ⟨fb, 0, none⟩) g.ns.length (listsU F) (some ⟨sb, o2, none⟩) c2 (pr.drop (q + 1)) w' hw.nu.row hw.ff.row (HR2.out _ hw.bel) (by rw [List.length_drop]; omega) (by rw [HNU.out]; omega) (by rw [HNU.out, e1]) HSD.out (fun z hz => by
          obtain ⟨s, _, rfl⟩ := List.mem_map.1 hz
          exact ⟨listS_range s, Nat.le_trans (listS_len s 128) (by omega)⟩)
         rwa [HNU.out, e1, sets_lists HFL.out.2, List.length_drop] at this
        have AL : Hid (∀ w', RW2 g w nb fb ob F E H3 w' -> Calls Tryz.prog 41 #[.slice (some ⟨nb, 0, none⟩) g.ns.length g.ns.length, .slice (some ⟨sb, o2, none⟩) (pr.length - (q + 1)) c2] w' fun e w'' => e = .returned (.bool (allN (nullU g.ps g.ns.length) (pr.drop (q + 1)))) /\ Below w'.heap.size w' w'') := fun w' hw => by
         have := rall_S (some ⟨nb, 0, none⟩) g.ns.length (nullU g.ps g.ns.length) (some ⟨sb, o2, none⟩) c2 (pr.drop (q + 1)) w' hw.nu.row (HR2.out _ hw.bel) (by rw [List.length_drop]; omega) (by rw [HNU.out]; omega) (fun s hs h2 => by
          rcases HSD.out s hs with z | z
          ·omega
          ·exact z.2)
         rwa [HNU.out, List.length_drop] at this
        have HLK : Hid (ofS (nullU g.ps g.ns.length) F (pr.drop (q + 1)) (H3.getD m (0, 0)) = if allN (nullU g.ps g.ns.length) (pr.drop (q + 1)) = true then withS (ofS (nullU g.ps g.ns.length) F (pr.drop (q + 1)) (0, 0)) (H3.getD m (0, 0)) else ofS (nullU g.ps g.ns.length) F (pr.drop (q + 1)) (0, 0)) := ofS_look _ _ _ _ (fun s hs => by
         rcases HSD.out s hs with z | z
         ·exact .inl z.1
         ·exact .inr z.1)
        have LEB : Hid (LeS (ofS (nullU g.ps g.ns.length) F (pr.drop (q + 1)) (H3.getD m (0, 0))) (E.getD e (0, 0))) := (of_mono (fun _ q => q) (fun i => LeS.refl _) (HW3.out.1.le m) _).trans (by have := HEQ.out h1; simpa using this)
        have HOB : Hid (OkS (ofS (nullU g.ps g.ns.length) F (pr.drop (q + 1)) (H3.getD m (0, 0)))) := ofS_ok HFL.out.2 _ _ HSD.out (HW3.out.1.ok m)
        have HO0 : Hid (OkS (ofS (nullU g.ps g.ns.length) F (pr.drop (q + 1)) (0, 0))) := ofS_ok HFL.out.2 _ _ HSD.out OkS.zero
        have HNX2 : Hid (LeS (ofS (nullU g.ps g.ns.length) F (pr.drop (q + 1)) (H3.getD m (0, 0))) (H3.getD e (0, 0)) -> b3 = false -> H3 = H /\ (∀ j, j < k -> ∀ q, q < (g.ps.getD j .none).right.length -> cloK (nullU g.ps g.ns.length) F H (g.ps.getD j .none) q) /\ ∀ j, j < q + 1 -> cloK (nullU g.ps g.ns.length) F H ⟨(m : Int), some ⟨sb, so, none⟩, prc, pr, pp⟩ j) := fun h => HNX.out (fun _ => by simpa using h)
        clear HNX HEQ h1 i0 i1
        generalize ofS (nullU g.ps g.ns.length) F (pr.drop (q + 1)) (0, 0) = B0 at *
        obtain ⟨Bq, hBq⟩ : ∃ Bq, ofS (nullU g.ps g.ns.length) F (pr.drop (q + 1)) (H3.getD m (0, 0)) = Bq := ⟨_, rfl⟩
        rw [hBq] at HLK LEB HOB HNX2
        clear hBq
        have HNX := HNX2
        clear HNX2
        obtain ⟨Hm, hHm⟩ : ∃ Hm, H3.getD m (0, 0) = Hm := ⟨_, rfl⟩
        obtain ⟨He, hHe⟩ : ∃ He, H3.getD e (0, 0) = He := ⟨_, rfl⟩
        rw [hHm] at HLK
        rw [hHe] at HNX
        have HHM : Hid (H3.getD m (0, 0) = Hm /\ OkS Hm) := ⟨hHm, by rw [<- hHm]; exact HW3.out.1.ok m⟩
        have HHE : Hid (H3.getD e (0, 0) = He) := hHe
        have HOE : Hid (OkS He) := by rw [<- hHe]; exact HW3.out.1.ok e
        clear hHm hHe
        have HRM : Hid (∀ w', RW2 g w nb fb ob F E H3 w' -> ∃ a0 c0, w'.cell? ⟨ob, m, none⟩ = some (.slice a0 (listS Hm 128).length c0) /\ JL w' (.slice a0 (listS Hm 128).length c0) Hm) := fun w' h => by
         have := h.rf.cell HM3.out
         rwa [HHM.out.1] at this
        have HRE : Hid (∀ w', RW2 g w nb fb ob F E H3 w' -> ∃ a1 c1, w'.cell? ⟨ob, e, none⟩ = some (.slice a1 (listS He 128).length c1) /\ JL w' (.slice a1 (listS He 128).length c1) He) := fun w' h => by
         have := h.rf.cell HE3.out
         rwa [HHE.out] at this
        have JN0 : Hid (∀ (w' : World) va vc a0 c0, JL w' (.slice va (listS B0 128).length vc) B0 -> JL w' (.slice a0 (listS Hm 128).length c0) Hm -> Calls Tryz.prog 44 #[.slice va (listS B0 128).length vc, .slice a0 (listS Hm 128).length c0] w' fun e w'' => ∃ v, e = .returned v /\ JL w'' v (withS B0 Hm) /\ Below w'.heap.size w' w'') := fun w' va vc a0 c0 j1 j2 => by
         obtain ⟨_, _, e1, r1, _⟩ := j2
         cases e1
         have := rjoin_S (.slice va (listS B0 128).length vc) B0 a0 c0 (listS Hm 128) w' j1 HO0.out r1 (listS_range Hm) (Nat.le_trans (listS_len _ _) (by omega))
         rwa [set_list HHM.out.2] at this
        obtain ⟨dv, hdv⟩ : ∃ dv, decide (withS Bq He = He) = dv := ⟨_, rfl⟩
        have WI : Hid (∀ (w' : World) va vc a1 c1, JL w' (.slice va (listS Bq 128).length vc) Bq -> JL w' (.slice a1 (listS He 128).length c1) He -> Calls Tryz.prog 43 #[.slice va (listS Bq 128).length vc, .slice a1 (listS He 128).length c1] w' fun en w'' => en = .returned (.bool dv) /\ Below w'.heap.size w' w'') := fun w' va vc a1 c1 j1 j2 => by
         obtain ⟨_, _, e1, r1, _⟩ := j1
         obtain ⟨_, _, e2, r2, _⟩ := j2
         cases e1
         cases e2
         have := rwithin_S va a1 vc c1 (listS Bq 128) (listS He 128) w' r1 r2 (Nat.le_trans (listS_len _ _) (by omega)) (Nat.le_trans (listS_len _ _) (by omega))
         rw [part_within HOB.out (listS_range He), set_list HOE.out, hdv] at this
         exact this
        have HDV : Hid (decide (withS Bq He = He) = dv) := hdv
        clear hdv
        obtain ⟨al, hal⟩ : ∃ al, allN (nullU g.ps g.ns.length) (pr.drop (q + 1)) = al := ⟨_, rfl⟩
        rw [hal] at HLK AL
        clear hal
        cases al
        ·rw [if_neg (by decide)] at HLK
         obtain rfl : Bq = B0 := HLK.out
         cases dv
         all_goals
          go_wp2_with (first
           | (go_at_call 42; refine (BG.out _ HW3.out.1).mono ?_; rintro e5 w5 ⟨v, rfl, jv, b5⟩; have W5 : Hid (RW2 g w nb fb ob F E H3 w5 /\ w5.heap[pb]? = some (.cells #[.int .i64 (m : Int), .slice (some ⟨sb, so, none⟩) pr.length prc, .int .i64 pp] 64 (0, 0))) := ⟨HW3.out.1.any b5, (b5.block _ (lt_of_block HW3.out.2)).trans HW3.out.2⟩; obtain ⟨va, vc, hv, _⟩ := id jv; subst hv; have J5 : Hid (JL w5 (.slice va (listS Bq 128).length vc) Bq) := jv; have d5 : w5.cell? ⟨pb, 1, none⟩ = some (.slice (some ⟨sb, so, none⟩) pr.length prc) := (cellq_any W5.out.2).trans rfl; clear b5 jv)
           | (go_at_call 41; refine (AL.out _ W5.out.1).mono ?_; rintro e6 w6 ⟨rfl, b6⟩; have W6 : Hid (RW2 g w nb fb ob F E H3 w6 /\ w6.heap[pb]? = some (.cells #[.int .i64 (m : Int), .slice (some ⟨sb, so, none⟩) pr.length prc, .int .i64 pp] 64 (0, 0)) /\ JL w6 (.slice va (listS Bq 128).length vc) Bq) := ⟨W5.out.1.any b6, (b6.block _ (lt_of_block W5.out.2)).trans W5.out.2, J5.out.later b6⟩; have d6 : w6.cell? ⟨pb, 1, none⟩ = some (.slice (some ⟨sb, so, none⟩) pr.length prc) := (cellq_any W6.out.2.1).trans rfl; have m6 : w6.cell? ⟨pb, 0, none⟩ = some (.int .i64 (m : Int)) := (cellq_any W6.out.2.1).trans rfl; obtain ⟨s60, s61⟩ := HSC.out _ W6.out.1.bel; obtain ⟨a0, c0', h60, j60⟩ := HRM.out _ W6.out.1; have J60 : Hid (JL w6 (.slice a0 (listS Hm 128).length c0') Hm) := j60; obtain ⟨a1, c1, h61, j61⟩ := HRE.out _ W6.out.1; have J61 : Hid (JL w6 (.slice a1 (listS He 128).length c1) He) := j61; clear j61; clear b6 j60)
           | (go_at_call 43; refine (WI.out w6 va vc a1 c1 W6.out.2.2 J61.out).mono ?_; rintro e8 w8 ⟨rfl, b8⟩; have W8 : Hid (RW2 g w nb fb ob F E H3 w8 /\ w8.heap[pb]? = some (.cells #[.int .i64 (m : Int), .slice (some ⟨sb, so, none⟩) pr.length prc, .int .i64 pp] 64 (0, 0)) /\ JL w8 (.slice va (listS Bq 128).length vc) Bq /\ JL w8 (.slice a1 (listS He 128).length c1) He /\ w8.cell? ⟨ob, e, none⟩ = some (.slice a1 (listS He 128).length c1)) := ⟨W6.out.1.any b8, (b8.block _ (lt_of_block W6.out.2.1)).trans W6.out.2.1, W6.out.2.2.later b8, J61.out.later b8, (b8.cell (p := ⟨ob, e, none⟩) W6.out.1.rf.lt).trans h61⟩; clear b8))
         ·have KS : Hid (∀ w', Below w.heap.size w w' -> w'.heap[pb]? = some (.cells #[.int .i64 (m : Int), .slice (some ⟨sb, so, none⟩) pr.length prc, .int .i64 pp] 64 (0, 0)) -> w'.cell? ⟨ob, e, none⟩ = some (.slice a1 (listS He 128).length c1) -> (fun w' : World => w'.cell? ⟨pb, 1, none⟩ = some (.slice (some ⟨sb, so, none⟩) pr.length prc) /\ w'.cell? ⟨sb, so + q * 2 + 1, none⟩ = some (.int .i64 (e : Int))) w' /\ (fun w' : World => w'.cell? ⟨ob, e, none⟩ = some (.slice a1 (listS He 128).length c1)) w') := fun w' hb h1 h2 => ⟨⟨(cellq_any h1).trans rfl, (HSC.out _ hb).2⟩, h2⟩
          have BD : Hid (Below w8.heap.size w8 w8.drew) := (Below.refl _ _).drew
          have hs : Hid ((fun w' : World => w'.cell? ⟨pb, 1, none⟩ = some (.slice (some ⟨sb, so, none⟩) pr.length prc) /\ w'.cell? ⟨sb, so + q * 2 + 1, none⟩ = some (.int .i64 (e : Int))) w8.drew /\ (fun w' : World => w'.cell? ⟨ob, e, none⟩ = some (.slice a1 (listS He 128).length c1)) w8.drew) := KS.out _ (W8.out.1.any BD.out).bel W8.out.2.1 W8.out.2.2.2.2
          have HNE : Hid (mesF (H3.set e (withS He Bq)) + 1 <= mesF H3) := by
           have := mesF_set (G := H3) HW3.out.1.ok HE3.out HOB.out (by rw [HHE.out]; exact of_decide_eq_false HDV.out)
           rwa [HHE.out] at this
          have WD : Hid (RW2 g w nb fb ob F E H3 w8.drew /\ JL w8.drew (.slice va (listS Bq 128).length vc) Bq /\ JL w8.drew (.slice a1 (listS He 128).length c1) He) := ⟨W8.out.1.any BD.out, W8.out.2.2.1.later BD.out, W8.out.2.2.2.1.later BD.out⟩
          have JN : Hid (Calls Tryz.prog 44 #[.slice a1 (listS He 128).length c1, .slice va (listS Bq 128).length vc] w8.drew fun e w' => ∃ v, e = .returned v /\ JL w' v (withS He Bq) /\ Below w8.drew.heap.size w8.drew w') := by
           obtain ⟨_, _, e1, r1, _⟩ := WD.out.2.1
           cases e1
           have := rjoin_S (.slice a1 (listS He 128).length c1) He va vc (listS Bq 128) w8.drew WD.out.2.2 HOE.out r1 (listS_range Bq) (Nat.le_trans (listS_len _ _) (by omega))
           rwa [set_list HOB.out] at this
          clear d5 d6 m6 s60 s61 h60 h61
          refine wp_region_x (S := SX 19 (fun w' : World => w'.cell? ⟨pb, 1, none⟩ = some (.slice (some ⟨sb, so, none⟩) pr.length prc) /\ w'.cell? ⟨sb, so + q * 2 + 1, none⟩ = some (.int .i64 (e : Int))) (fun w' : World => w'.cell? ⟨ob, e, none⟩ = some (.slice a1 (listS He 128).length c1))) (by kernel_rfl) ?_
          refine wtT (m := 19) (i := 0) (v := ?_) rfl (Or.inl ⟨by rfl, ?_⟩) (SX.both hs.out.1 hs.out.2) ?_
          rotate_left
          ·(intro w hSw; (try dsimp only at hSw); go_simp; try (with_reducible rfl))
          (try simp only [Act.put, lsA, lsZ, lsN])
          refine wtT (m := 19) (i := 1) (v := ?_) rfl (Or.inl ⟨by rfl, ?_⟩) (SX.both hs.out.1 hs.out.2) ?_
          rotate_left
          ·(intro w hSw; (try dsimp only at hSw); go_simp; try (with_reducible rfl))
          (try simp only [Act.put, lsA, lsZ, lsN])
          refine wtT (m := 19) (i := 2) (v := ?_) rfl (Or.inl ⟨by rfl, ?_⟩) (SX.both hs.out.1 hs.out.2) ?_
          rotate_left
          ·(intro w hSw; (try dsimp only at hSw); go_simp; try (with_reducible rfl))
          (try simp only [Act.put, lsA, lsZ, lsN])
          refine wtT (m := 19) (i := 3) (v := ?_) rfl (Or.inl ⟨by rfl, ?_⟩) (SX.both hs.out.1 hs.out.2) ?_
          rotate_left
          ·(intro w hSw; (try dsimp only at hSw); go_simp; try (with_reducible rfl))
          (try simp only [Act.put, lsA, lsZ, lsN])
          refine wtT (m := 19) (i := 4) (v := ?_) rfl (Or.inl ⟨by rfl, ?_⟩) (SX.both hs.out.1 hs.out.2) ?_
          rotate_left
          ·(intro w hSw; (try dsimp only at hSw); go_simp; try (with_reducible rfl))
          (try simp only [Act.put, lsA, lsZ, lsN])
          refine wtT (m := 19) (i := 5) (v := ?_) rfl (Or.inl ⟨by rfl, ?_⟩) (SX.both hs.out.1 hs.out.2) ?_
          rotate_left
          ·(intro w hSw; (try dsimp only at hSw); go_simp; try (with_reducible rfl))
          (try simp only [Act.put, lsA, lsZ, lsN])
          refine wtT (m := 19) (i := 6) (v := ?_) rfl (Or.inl ⟨by rfl, ?_⟩) (SX.both hs.out.1 hs.out.2) ?_
          rotate_left
          ·(intro w hSw; (try dsimp only at hSw); go_simp; try (with_reducible rfl))
          (try simp only [Act.put, lsA, lsZ, lsN])
          refine wtT (m := 19) (i := 7) (v := ?_) rfl (Or.inl ⟨by rfl, ?_⟩) (SX.both hs.out.1 hs.out.2) ?_
          rotate_left
          ·(intro w hSw; (try dsimp only at hSw); go_simp; try (with_reducible rfl))
          (try simp only [Act.put, lsA, lsZ, lsN])
          refine wtT (m := 19) (i := 8) (v := ?_) rfl (Or.inl ⟨by rfl, ?_⟩) (SX.both hs.out.1 hs.out.2) ?_
          rotate_left
          ·(intro w hSw; (try dsimp only at hSw); go_simp; try (with_reducible rfl))
          (try simp only [Act.put, lsA, lsZ, lsN])
          refine wtT (m := 19) (i := 9) (v := ?_) rfl (Or.inl ⟨by rfl, ?_⟩) (SX.both hs.out.1 hs.out.2) ?_
          rotate_left
          ·(intro w hSw; (try dsimp only at hSw); go_simp; try (with_reducible rfl))
          (try simp only [Act.put, lsA, lsZ, lsN])
          refine wtT (m := 19) (i := 10) (v := ?_) rfl (Or.inl ⟨by rfl, ?_⟩) (SX.both hs.out.1 hs.out.2) ?_
          rotate_left
          ·(intro w hSw; (try dsimp only at hSw); go_simp; try (with_reducible rfl))
          (try simp only [Act.put, lsA, lsZ, lsN])
          refine wtT (m := 19) (i := 11) (v := ?_) rfl (Or.inl ⟨by rfl, ?_⟩) (SX.both hs.out.1 hs.out.2) ?_
          rotate_left
          ·(intro w hSw; (try dsimp only at hSw); go_simp; try (with_reducible rfl))
          (try simp only [Act.put, lsA, lsZ, lsN])
          refine wtT (m := 19) (i := 12) (v := ?_) rfl (Or.inl ⟨by rfl, ?_⟩) (SX.both hs.out.1 hs.out.2) ?_
          rotate_left
          ·(intro w hSw; (try dsimp only at hSw); go_simp; try (with_reducible rfl))
          (try simp only [Act.put, lsA, lsZ, lsN])
          refine wtT (m := 19) (i := 13) (v := ?_) rfl (Or.inl ⟨by rfl, ?_⟩) (SX.both hs.out.1 hs.out.2) ?_
          rotate_left
          ·(intro w hSw; (try dsimp only at hSw); go_simp; try (with_reducible rfl))
          (try simp only [Act.put, lsA, lsZ, lsN])
          refine wtT (m := 19) (i := 14) (v := ?_) rfl (Or.inl ⟨by rfl, ?_⟩) (SX.both hs.out.1 hs.out.2) ?_
          rotate_left
          ·(intro w hSw; (try dsimp only at hSw); go_simp; try (with_reducible rfl))
          (try simp only [Act.put, lsA, lsZ, lsN])
          refine wtT (m := 19) (i := 15) (v := ?_) rfl (Or.inl ⟨by rfl, ?_⟩) (SX.both hs.out.1 hs.out.2) ?_
          rotate_left
          ·(intro w hSw; (try dsimp only at hSw); go_simp; try (with_reducible rfl))
          (try simp only [Act.put, lsA, lsZ, lsN])
          refine wtT (m := 19) (i := 16) (v := ?_) rfl (Or.inl ⟨by rfl, ?_⟩) (SX.both hs.out.1 hs.out.2) ?_
          rotate_left
          ·(intro w hSw; (try dsimp only at hSw); go_simp; try (with_reducible rfl))
          (try simp only [Act.put, lsA, lsZ, lsN])
          refine wpAnyX_one (j := 17) (by decide +kernel) rfl (fun K' hK => ?_)
          refine step_callX rfl 44 #[.slice a1 (listS He 128).length c1, .slice va (listS Bq 128).length vc] _ (run_join2 (v0 := .slice a1 (listS He 128).length c1) (v1 := .slice va (listS Bq 128).length vc) (by rfl) (by rfl) (by rfl) _) JN.out ?_
          rintro e9 w9 ⟨jv, rfl, j9, b9⟩
          have W9 : Hid (RW2 g w nb fb ob F E H3 w9 /\ JL w9 jv (withS He Bq) /\ w9.heap[pb]? = some (.cells #[.int .i64 (m : Int), .slice (some ⟨sb, so, none⟩) pr.length prc, .int .i64 pp] 64 (0, 0))) := ⟨WD.out.1.any b9, j9, (b9.block _ (lt_of_block W8.out.2.1)).trans W8.out.2.1⟩
          have hc9 : w9.cell? ⟨ob, e, none⟩ = some (.slice a1 (listS He 128).length c1) := (b9.cell (p := ⟨ob, e, none⟩) WD.out.1.rf.lt).trans W8.out.2.2.2.2
          clear b9 j9 hs
          have hs : Hid ((fun w' : World => w'.cell? ⟨pb, 1, none⟩ = some (.slice (some ⟨sb, so, none⟩) pr.length prc) /\ w'.cell? ⟨sb, so + q * 2 + 1, none⟩ = some (.int .i64 (e : Int))) w9 /\ (fun w' : World => w'.cell? ⟨ob, e, none⟩ = some (.slice a1 (listS He 128).length c1)) w9) := KS.out _ W9.out.1.bel W9.out.2.2 hc9
          refine ⟨_, rfl, hK.out _ _ (SX.both hs.out.1 hs.out.2) ?_⟩
          clear hK K'
          (try simp only [Act.put, lsA, lsZ, lsN])
          refine wtT (m := 19) (i := 18) (v := ?_) rfl (Or.inl ⟨by rfl, ?_⟩) (SX.both hs.out.1 hs.out.2) ?_
          rotate_left
          ·(intro w hSw; (try dsimp only at hSw); go_simp; try (with_reducible rfl))
          (try simp only [Act.put, lsA, lsZ, lsN])
          have f9 := W9.out.1.rf.free e
          obtain ⟨ja, jn, jc, rfl, _⟩ := W9.out.2.1.val
          refine wpAnyX_one (j := 19) (by decide +kernel) rfl (fun K' hK => ?_)
          go_simp
          have WS : Hid (RW2 g w nb fb ob F E (H3.set e (withS He Bq)) (w9.setCell ⟨ob, e, none⟩ (.slice ja jn jc))) := by
           have := W9.out.1.set HE3.out (v := .slice ja jn jc) (s := Bq) (by rw [HHE.out]; exact W9.out.2.1) HOB.out LEB.out
           rwa [HHE.out] at this
          have PS : Hid ((w9.setCell ⟨ob, e, none⟩ (.slice ja jn jc)).heap[pb]? = some (.cells #[.int .i64 (m : Int), .slice (some ⟨sb, so, none⟩) pr.length prc, .int .i64 pp] 64 (0, 0))) := (Below.heap_setCell _ _ _ _ (fun q => by
           have q : pb = ob := q
           obtain ⟨C, _, r1, _⟩ := W9.out.1.rf
           have r2 := W9.out.2.2
           rw [q, r1] at r2
           simp at r2)).trans W9.out.2.2
          refine hK.out _ _ (SX.one ⟨(cellq_any PS.out).trans rfl, (HSC.out _ WS.out.bel).2⟩ (by decide +kernel)) ?_
          clear hK K' hs f9 hc9
          (try simp only [Act.put, lsA, lsZ, lsN])
          refine wpAnyX_done (by decide +kernel) ?_
          generalize w9.setCell ⟨ob, e, none⟩ (.slice ja jn jc) = ws at *
          have R : Hid (mesF (H3.set e (withS He Bq)) + (if true then 1 else 0) <= mesF H) := by
           have := HLE3.out
           have := HNE.out
           show _ + 1 <= _
           omega
          go_wp2
          go_roundw
          case rel => exact ⟨q + 1, true, _, by omega, rfl, by go_num, WS.out, PS.out, R.out, fun h => by cases h⟩
          case measure => simp [intOf]; omega
         ·have R : Hid (b3 = false -> H3 = H /\ (∀ j, j < k -> ∀ q, q < (g.ps.getD j .none).right.length -> cloK (nullU g.ps g.ns.length) F H (g.ps.getD j .none) q) /\ ∀ j, j < q + 1 -> cloK (nullU g.ps g.ns.length) F H ⟨(m : Int), some ⟨sb, so, none⟩, prc, pr, pp⟩ j) := HNX.out ((within_iff HOB.out HOE.out).1 (of_decide_eq_true HDV.out))
          go_roundw
          case rel => exact ⟨q + 1, b3, H3, by omega, rfl, by go_num, W8.out.1, W8.out.2.1, HLE3.out, R.out⟩
          case measure => simp [intOf]; omega
        ·rw [if_pos rfl] at HLK
         have JN1 : Hid (∀ (w' : World) va vc a0 c0, JL w' (.slice va (listS B0 128).length vc) B0 -> JL w' (.slice a0 (listS Hm 128).length c0) Hm -> Calls Tryz.prog 44 #[.slice va (listS B0 128).length vc, .slice a0 (listS Hm 128).length c0] w' fun e w'' => ∃ v, e = .returned v /\ JL w'' v Bq /\ Below w'.heap.size w' w'') := by
          have := JN0.out
          rw [<- HLK.out] at this
          exact this
         clear HLK
         cases dv
         all_goals
          go_wp2_with (first
           | (go_at_call 42; refine (BG.out _ HW3.out.1).mono ?_; rintro e5 w5 ⟨v, rfl, jv, b5⟩; have W5 : Hid (RW2 g w nb fb ob F E H3 w5 /\ w5.heap[pb]? = some (.cells #[.int .i64 (m : Int), .slice (some ⟨sb, so, none⟩) pr.length prc, .int .i64 pp] 64 (0, 0))) := ⟨HW3.out.1.any b5, (b5.block _ (lt_of_block HW3.out.2)).trans HW3.out.2⟩; obtain ⟨va, vc, hv, _⟩ := id jv; subst hv; have J5 : Hid (JL w5 (.slice va (listS B0 128).length vc) B0) := jv; have d5 : w5.cell? ⟨pb, 1, none⟩ = some (.slice (some ⟨sb, so, none⟩) pr.length prc) := (cellq_any W5.out.2).trans rfl; clear b5 jv)
           | (go_at_call 41; refine (AL.out _ W5.out.1).mono ?_; rintro e6 w6 ⟨rfl, b6⟩; have W6 : Hid (RW2 g w nb fb ob F E H3 w6 /\ w6.heap[pb]? = some (.cells #[.int .i64 (m : Int), .slice (some ⟨sb, so, none⟩) pr.length prc, .int .i64 pp] 64 (0, 0)) /\ JL w6 (.slice va (listS B0 128).length vc) B0) := ⟨W5.out.1.any b6, (b6.block _ (lt_of_block W5.out.2)).trans W5.out.2, J5.out.later b6⟩; have d6 : w6.cell? ⟨pb, 1, none⟩ = some (.slice (some ⟨sb, so, none⟩) pr.length prc) := (cellq_any W6.out.2.1).trans rfl; have m6 : w6.cell? ⟨pb, 0, none⟩ = some (.int .i64 (m : Int)) := (cellq_any W6.out.2.1).trans rfl; obtain ⟨s60, s61⟩ := HSC.out _ W6.out.1.bel; obtain ⟨a0, c0', h60, j60⟩ := HRM.out _ W6.out.1; have J60 : Hid (JL w6 (.slice a0 (listS Hm 128).length c0') Hm) := j60; clear b6 j60)
           | (go_at_call 44; refine (JN1.out w6 va vc a0 c0' W6.out.2.2 J60.out).mono ?_; rintro e7 w7 ⟨v, rfl, jv, b7⟩; have W7 : Hid (RW2 g w nb fb ob F E H3 w7 /\ w7.heap[pb]? = some (.cells #[.int .i64 (m : Int), .slice (some ⟨sb, so, none⟩) pr.length prc, .int .i64 pp] 64 (0, 0))) := ⟨W6.out.1.any b7, (b7.block _ (lt_of_block W6.out.2.1)).trans W6.out.2.1⟩; obtain ⟨vb, vd, hv, _⟩ := id jv; subst hv; have J7 : Hid (JL w7 (.slice vb (listS Bq 128).length vd) Bq) := jv; have d7 : w7.cell? ⟨pb, 1, none⟩ = some (.slice (some ⟨sb, so, none⟩) pr.length prc) := (cellq_any W7.out.2).trans rfl; obtain ⟨s70, s71⟩ := HSC.out _ W7.out.1.bel; obtain ⟨a1, c1, h61, j61⟩ := HRE.out _ W7.out.1; have J61 : Hid (JL w7 (.slice a1 (listS He 128).length c1) He) := j61; clear b7 jv j61)
           | (go_at_call 43; refine (WI.out w7 vb vd a1 c1 J7.out J61.out).mono ?_; rintro e8 w8 ⟨rfl, b8⟩; have W8 : Hid (RW2 g w nb fb ob F E H3 w8 /\ w8.heap[pb]? = some (.cells #[.int .i64 (m : Int), .slice (some ⟨sb, so, none⟩) pr.length prc, .int .i64 pp] 64 (0, 0)) /\ JL w8 (.slice vb (listS Bq 128).length vd) Bq /\ JL w8 (.slice a1 (listS He 128).length c1) He /\ w8.cell? ⟨ob, e, none⟩ = some (.slice a1 (listS He 128).length c1)) := ⟨W7.out.1.any b8, (b8.block _ (lt_of_block W7.out.2)).trans W7.out.2, J7.out.later b8, J61.out.later b8, (b8.cell (p := ⟨ob, e, none⟩) W7.out.1.rf.lt).trans h61⟩; clear b8))
         ·have KS : Hid (∀ w', Below w.heap.size w w' -> w'.heap[pb]? = some (.cells #[.int .i64 (m : Int), .slice (some ⟨sb, so, none⟩) pr.length prc, .int .i64 pp] 64 (0, 0)) -> w'.cell? ⟨ob, e, none⟩ = some (.slice a1 (listS He 128).length c1) -> (fun w' : World => w'.cell? ⟨pb, 1, none⟩ = some (.slice (some ⟨sb, so, none⟩) pr.length prc) /\ w'.cell? ⟨sb, so + q * 2 + 1, none⟩ = some (.int .i64 (e : Int))) w' /\ (fun w' : World => w'.cell? ⟨ob, e, none⟩ = some (.slice a1 (listS He 128).length c1)) w') := fun w' hb h1 h2 => ⟨⟨(cellq_any h1).trans rfl, (HSC.out _ hb).2⟩, h2⟩
          have BD : Hid (Below w8.heap.size w8 w8.drew) := (Below.refl _ _).drew
          have hs : Hid ((fun w' : World => w'.cell? ⟨pb, 1, none⟩ = some (.slice (some ⟨sb, so, none⟩) pr.length prc) /\ w'.cell? ⟨sb, so + q * 2 + 1, none⟩ = some (.int .i64 (e : Int))) w8.drew /\ (fun w' : World => w'.cell? ⟨ob, e, none⟩ = some (.slice a1 (listS He 128).length c1)) w8.drew) := KS.out _ (W8.out.1.any BD.out).bel W8.out.2.1 W8.out.2.2.2.2
          have HNE : Hid (mesF (H3.set e (withS He Bq)) + 1 <= mesF H3) := by
           have := mesF_set (G := H3) HW3.out.1.ok HE3.out HOB.out (by rw [HHE.out]; exact of_decide_eq_false HDV.out)
           rwa [HHE.out] at this
          have WD : Hid (RW2 g w nb fb ob F E H3 w8.drew /\ JL w8.drew (.slice vb (listS Bq 128).length vd) Bq /\ JL w8.drew (.slice a1 (listS He 128).length c1) He) := ⟨W8.out.1.any BD.out, W8.out.2.2.1.later BD.out, W8.out.2.2.2.1.later BD.out⟩
          have JN : Hid (Calls Tryz.prog 44 #[.slice a1 (listS He 128).length c1, .slice vb (listS Bq 128).length vd] w8.drew fun e w' => ∃ v, e = .returned v /\ JL w' v (withS He Bq) /\ Below w8.drew.heap.size w8.drew w') := by
           obtain ⟨_, _, e1, r1, _⟩ := WD.out.2.1
           cases e1
           have := rjoin_S (.slice a1 (listS He 128).length c1) He vb vd (listS Bq 128) w8.drew WD.out.2.2 HOE.out r1 (listS_range Bq) (Nat.le_trans (listS_len _ _) (by omega))
           rwa [set_list HOB.out] at this
          clear d5 d6 m6 s60 s61 h60 h61 d7 s70 s71
          refine wp_region_x (S := SX 19 (fun w' : World => w'.cell? ⟨pb, 1, none⟩ = some (.slice (some ⟨sb, so, none⟩) pr.length prc) /\ w'.cell? ⟨sb, so + q * 2 + 1, none⟩ = some (.int .i64 (e : Int))) (fun w' : World => w'.cell? ⟨ob, e, none⟩ = some (.slice a1 (listS He 128).length c1))) (by kernel_rfl) ?_
          refine wtT (m := 19) (i := 0) (v := ?_) rfl (Or.inl ⟨by rfl, ?_⟩) (SX.both hs.out.1 hs.out.2) ?_
          rotate_left
          ·(intro w hSw; (try dsimp only at hSw); go_simp; try (with_reducible rfl))
          (try simp only [Act.put, lsA, lsZ, lsN])
          refine wtT (m := 19) (i := 1) (v := ?_) rfl (Or.inl ⟨by rfl, ?_⟩) (SX.both hs.out.1 hs.out.2) ?_
          rotate_left
          ·(intro w hSw; (try dsimp only at hSw); go_simp; try (with_reducible rfl))
          (try simp only [Act.put, lsA, lsZ, lsN])
          refine wtT (m := 19) (i := 2) (v := ?_) rfl (Or.inl ⟨by rfl, ?_⟩) (SX.both hs.out.1 hs.out.2) ?_
          rotate_left
          ·(intro w hSw; (try dsimp only at hSw); go_simp; try (with_reducible rfl))
          (try simp only [Act.put, lsA, lsZ, lsN])
          refine wtT (m := 19) (i := 3) (v := ?_) rfl (Or.inl ⟨by rfl, ?_⟩) (SX.both hs.out.1 hs.out.2) ?_
          rotate_left
          ·(intro w hSw; (try dsimp only at hSw); go_simp; try (with_reducible rfl))
          (try simp only [Act.put, lsA, lsZ, lsN])
          refine wtT (m := 19) (i := 4) (v := ?_) rfl (Or.inl ⟨by rfl, ?_⟩) (SX.both hs.out.1 hs.out.2) ?_
          rotate_left
          ·(intro w hSw; (try dsimp only at hSw); go_simp; try (with_reducible rfl))
          (try simp only [Act.put, lsA, lsZ, lsN])
          refine wtT (m := 19) (i := 5) (v := ?_) rfl (Or.inl ⟨by rfl, ?_⟩) (SX.both hs.out.1 hs.out.2) ?_
          rotate_left
          ·(intro w hSw; (try dsimp only at hSw); go_simp; try (with_reducible rfl))
          (try simp only [Act.put, lsA, lsZ, lsN])
          refine wtT (m := 19) (i := 6) (v := ?_) rfl (Or.inl ⟨by rfl, ?_⟩) (SX.both hs.out.1 hs.out.2) ?_
          rotate_left
          ·(intro w hSw; (try dsimp only at hSw); go_simp; try (with_reducible rfl))
          (try simp only [Act.put, lsA, lsZ, lsN])
          refine wtT (m := 19) (i := 7) (v := ?_) rfl (Or.inl ⟨by rfl, ?_⟩) (SX.both hs.out.1 hs.out.2) ?_
          rotate_left
          ·(intro w hSw; (try dsimp only at hSw); go_simp; try (with_reducible rfl))
          (try simp only [Act.put, lsA, lsZ, lsN])
          refine wtT (m := 19) (i := 8) (v := ?_) rfl (Or.inl ⟨by rfl, ?_⟩) (SX.both hs.out.1 hs.out.2) ?_
          rotate_left
          ·(intro w hSw; (try dsimp only at hSw); go_simp; try (with_reducible rfl))
          (try simp only [Act.put, lsA, lsZ, lsN])
          refine wtT (m := 19) (i := 9) (v := ?_) rfl (Or.inl ⟨by rfl, ?_⟩) (SX.both hs.out.1 hs.out.2) ?_
          rotate_left
          ·(intro w hSw; (try dsimp only at hSw); go_simp; try (with_reducible rfl))
          (try simp only [Act.put, lsA, lsZ, lsN])
          refine wtT (m := 19) (i := 10) (v := ?_) rfl (Or.inl ⟨by rfl, ?_⟩) (SX.both hs.out.1 hs.out.2) ?_
          rotate_left
          ·(intro w hSw; (try dsimp only at hSw); go_simp; try (with_reducible rfl))
          (try simp only [Act.put, lsA, lsZ, lsN])
          refine wtT (m := 19) (i := 11) (v := ?_) rfl (Or.inl ⟨by rfl, ?_⟩) (SX.both hs.out.1 hs.out.2) ?_
          rotate_left
          ·(intro w hSw; (try dsimp only at hSw); go_simp; try (with_reducible rfl))
          (try simp only [Act.put, lsA, lsZ, lsN])
          refine wtT (m := 19) (i := 12) (v := ?_) rfl (Or.inl ⟨by rfl, ?_⟩) (SX.both hs.out.1 hs.out.2) ?_
          rotate_left
          ·(intro w hSw; (try dsimp only at hSw); go_simp; try (with_reducible rfl))
          (try simp only [Act.put, lsA, lsZ, lsN])
          refine wtT (m := 19) (i := 13) (v := ?_) rfl (Or.inl ⟨by rfl, ?_⟩) (SX.both hs.out.1 hs.out.2) ?_
          rotate_left
          ·(intro w hSw; (try dsimp only at hSw); go_simp; try (with_reducible rfl))
          (try simp only [Act.put, lsA, lsZ, lsN])
          refine wtT (m := 19) (i := 14) (v := ?_) rfl (Or.inl ⟨by rfl, ?_⟩) (SX.both hs.out.1 hs.out.2) ?_
          rotate_left
          ·(intro w hSw; (try dsimp only at hSw); go_simp; try (with_reducible rfl))
          (try simp only [Act.put, lsA, lsZ, lsN])
          refine wtT (m := 19) (i := 15) (v := ?_) rfl (Or.inl ⟨by rfl, ?_⟩) (SX.both hs.out.1 hs.out.2) ?_
          rotate_left
          ·(intro w hSw; (try dsimp only at hSw); go_simp; try (with_reducible rfl))
          (try simp only [Act.put, lsA, lsZ, lsN])
          refine wtT (m := 19) (i := 16) (v := ?_) rfl (Or.inl ⟨by rfl, ?_⟩) (SX.both hs.out.1 hs.out.2) ?_
          rotate_left
          ·(intro w hSw; (try dsimp only at hSw); go_simp; try (with_reducible rfl))
          (try simp only [Act.put, lsA, lsZ, lsN])
          refine wpAnyX_one (j := 17) (by decide +kernel) rfl (fun K' hK => ?_)
          refine step_callX rfl 44 #[.slice a1 (listS He 128).length c1, .slice vb (listS Bq 128).length vd] _ (run_join2 (v0 := .slice a1 (listS He 128).length c1) (v1 := .slice vb (listS Bq 128).length vd) (by rfl) (by rfl) (by rfl) _) JN.out ?_
          rintro e9 w9 ⟨jv, rfl, j9, b9⟩
          have W9 : Hid (RW2 g w nb fb ob F E H3 w9 /\ JL w9 jv (withS He Bq) /\ w9.heap[pb]? = some (.cells #[.int .i64 (m : Int), .slice (some ⟨sb, so, none⟩) pr.length prc, .int .i64 pp] 64 (0, 0))) := ⟨WD.out.1.any b9, j9, (b9.block _ (lt_of_block W8.out.2.1)).trans W8.out.2.1⟩
          have hc9 : w9.cell? ⟨ob, e, none⟩ = some (.slice a1 (listS He 128).length c1) := (b9.cell (p := ⟨ob, e, none⟩) WD.out.1.rf.lt).trans W8.out.2.2.2.2
          clear b9 j9 hs
          have hs : Hid ((fun w' : World => w'.cell? ⟨pb, 1, none⟩ = some (.slice (some ⟨sb, so, none⟩) pr.length prc) /\ w'.cell? ⟨sb, so + q * 2 + 1, none⟩ = some (.int .i64 (e : Int))) w9 /\ (fun w' : World => w'.cell? ⟨ob, e, none⟩ = some (.slice a1 (listS He 128).length c1)) w9) := KS.out _ W9.out.1.bel W9.out.2.2 hc9
          refine ⟨_, rfl, hK.out _ _ (SX.both hs.out.1 hs.out.2) ?_⟩
          clear hK K'
          (try simp only [Act.put, lsA, lsZ, lsN])
          refine wtT (m := 19) (i := 18) (v := ?_) rfl (Or.inl ⟨by rfl, ?_⟩) (SX.both hs.out.1 hs.out.2) ?_
          rotate_left
          ·(intro w hSw; (try dsimp only at hSw); go_simp; try (with_reducible rfl))
          (try simp only [Act.put, lsA, lsZ, lsN])
          have f9 := W9.out.1.rf.free e
          obtain ⟨ja, jn, jc, rfl, _⟩ := W9.out.2.1.val
          refine wpAnyX_one (j := 19) (by decide +kernel) rfl (fun K' hK => ?_)
          go_simp
          have WS : Hid (RW2 g w nb fb ob F E (H3.set e (withS He Bq)) (w9.setCell ⟨ob, e, none⟩ (.slice ja jn jc))) := by
           have := W9.out.1.set HE3.out (v := .slice ja jn jc) (s := Bq) (by rw [HHE.out]; exact W9.out.2.1) HOB.out LEB.out
           rwa [HHE.out] at this
          have PS : Hid ((w9.setCell ⟨ob, e, none⟩ (.slice ja jn jc)).heap[pb]? = some (.cells #[.int .i64 (m : Int), .slice (some ⟨sb, so, none⟩) pr.length prc, .int .i64 pp] 64 (0, 0))) := (Below.heap_setCell _ _ _ _ (fun q => by
           have q : pb = ob := q
           obtain ⟨C, _, r1, _⟩ := W9.out.1.rf
           have r2 := W9.out.2.2
           rw [q, r1] at r2
           simp at r2)).trans W9.out.2.2
          refine hK.out _ _ (SX.one ⟨(cellq_any PS.out).trans rfl, (HSC.out _ WS.out.bel).2⟩ (by decide +kernel)) ?_
          clear hK K' hs f9 hc9
          (try simp only [Act.put, lsA, lsZ, lsN])
          refine wpAnyX_done (by decide +kernel) ?_
          generalize w9.setCell ⟨ob, e, none⟩ (.slice ja jn jc) = ws at *
          have R : Hid (mesF (H3.set e (withS He Bq)) + (if true then 1 else 0) <= mesF H) := by
           have := HLE3.out
           have := HNE.out
           show _ + 1 <= _
           omega
          go_wp2
          go_roundw
          case rel => exact ⟨q + 1, true, _, by omega, rfl, by go_num, WS.out, PS.out, R.out, fun h => by cases h⟩
          case measure => simp [intOf]; omega
         ·have R : Hid (b3 = false -> H3 = H /\ (∀ j, j < k -> ∀ q, q < (g.ps.getD j .none).right.length -> cloK (nullU g.ps g.ns.length) F H (g.ps.getD j .none) q) /\ ∀ j, j < q + 1 -> cloK (nullU g.ps g.ns.length) F H ⟨(m : Int), some ⟨sb, so, none⟩, prc, pr, pp⟩ j) := HNX.out ((within_iff HOB.out HOE.out).1 (of_decide_eq_true HDV.out))
          go_roundw
          case rel => exact ⟨q + 1, b3, H3, by omega, rfl, by go_num, W8.out.1, W8.out.2.1, HLE3.out, R.out⟩
          case measure => simp [intOf]; omega
      ·obtain rfl : q = pr.length := by omega
       have qlt : ¬ (pr.length : Int) < (pr.length : Int) := by omega
       have R : Hid (b3 = false -> H3 = H /\ ∀ j, j < k + 1 -> ∀ q, q < (g.ps.getD j .none).right.length -> cloK (nullU g.ps g.ns.length) F H (g.ps.getD j .none) q) := fun h => ⟨(HCL3.out h).1, HPK.out H (HCL3.out h).2.1 (HCL3.out h).2.2⟩
       clear hW3 hP3 hle3 hcl3
       go_wp2
       go_roundw
       case rel => exact ⟨k + 1, b3, H3, by omega, rfl, by go_num, HW3.out.1, HLE3.out, R.out⟩
       case measure => simp [intOf]; omega
    ·have klt : ¬ (k : Int) < (g.ps.length : Int) := by omega
     have R : Hid (RW2 g w nb fb ob F E H2 wr /\ (b2 = false -> ClosW (nullU g.ps g.ns.length) F g.ps H2)) := ⟨hW2, fun hb => by
      obtain ⟨e, q⟩ := hcl hb
      refine clos_of fun p hp j hj => ?_
      obtain ⟨i, hi, rfl⟩ := List.getElem_of_mem hp
      have e2 : g.ps.getD i .none = g.ps[i] := by simp [List.getD, hi]
      rw [e]
      have := q i (by omega) j
      rw [e2] at this
      exact this hj⟩
     have ME : Hid (mesR ob wr + (if b2 then 1 else 0) <= mesR ob wz) := by
      show _ <= _
      rw [mesR_of hW2.rf hW2.ok, HM.out]
      exact hle
     clear hW2 hcl hle
     go_wp2
     go_roundw
     case rel => exact ⟨b2, H2, rfl, R.out.1, R.out.2⟩
     case measure =>
      have := ME.out
      cases b2 <;> simp [tOf] at this ⊢ <;> omega
def nz1 (K : List Int) (s : Int × Int) : Bool := decide (s.1 = 2) && decide (K.getD s.2.toNat 0 ≠ 0)
def okU (K : List Int) (p : PV) : Bool := decide (K.getD p.left.toNat 0 = 0) && p.right.all (nz1 K)
def hStepR (r : Int) (K L : List Int) (p : PV) : List Int := if okU K p = true then L.set p.left.toNat r else L
theorem fit_nz {K L : List Int} {k : Nat} (h : HGo ((k : Int) + 1) K L) (hb : ∀ i, 0 <= K.getD i 0 /\ K.getD i 0 <= k) (l : List (Int × Int)) : fitU L l k = l.all (nz1 K) := by
 unfold fitU
 congr 1
 funext s
 unfold nz1
 by_cases hK : K.getD s.2.toNat 0 = 0
 ·have hL := h.new _ hK
  rw [hK]
  rcases hL with e | e
  ·rw [e]; simp
  ·rw [e]
   have : ¬ ((k : Int) + 1 <= k) := by omega
   simp [this]
 ·have hL := h.old _ hK
  have := hb s.2.toNat
  rw [hL, decide_eq_true this.2, Bool.and_true]
theorem hFold_eq {K : List Int} {k : Nat} (hb : ∀ i, 0 <= K.getD i 0 /\ K.getD i 0 <= k) : ∀ (ps : List PV) (L : List Int), HGo ((k : Int) + 1) K L -> ps.foldl (hStep k) L = ps.foldl (hStepR ((k : Int) + 1) K) L
 | [], _, _ => rfl
 | p :: ps, L, h => by
  have e : hStep k L p = hStepR ((k : Int) + 1) K L p := by
   unfold hStep hStepR okU
   rw [fit_nz h hb]
   by_cases ha : p.right.all (nz1 K) = true
   ·by_cases hK : K.getD p.left.toNat 0 = 0
    ·have hok : (decide (K.getD p.left.toNat 0 = 0) && p.right.all (nz1 K)) = true := by rw [decide_eq_true hK, ha]; rfl
     rcases h.new _ hK with q | q
     ·have hc : L.getD p.left.toNat 0 = 0 /\ p.right.all (nz1 K) = true := ⟨q, ha⟩
      rw [if_pos hc, if_pos hok]
     ·have hc : ¬ (L.getD p.left.toNat 0 = 0 /\ p.right.all (nz1 K) = true) := fun z => by have := z.1; omega
      rw [if_neg hc, if_pos hok]
      by_cases hl : p.left.toNat < L.length
      ·rw [set_same]
       simp only [List.getD, List.getElem?_eq_getElem hl, Option.getD_some] at q
       rw [List.getElem?_eq_getElem hl, q]
      ·rw [List.set_eq_of_length_le (by omega)]
    ·have e2 := h.old _ hK
     have hc : ¬ (L.getD p.left.toNat 0 = 0 /\ p.right.all (nz1 K) = true) := fun z => hK (by rw [<- e2]; exact z.1)
     have hok : ¬ (decide (K.getD p.left.toNat 0 = 0) && p.right.all (nz1 K)) = true := by rw [decide_eq_false hK, Bool.false_and]; decide
     rw [if_neg hc, if_neg hok]
   ·have hc : ¬ (L.getD p.left.toNat 0 = 0 /\ p.right.all (nz1 K) = true) := fun z => ha z.2
    have hok : ¬ (decide (K.getD p.left.toNat 0 = 0) && p.right.all (nz1 K)) = true := fun z => ha (Bool.and_eq_true _ _ ▸ z).2
    rw [if_neg hc, if_neg hok]
  rw [List.foldl_cons, List.foldl_cons, <- e]
  exact hFold_eq hb ps _ (h.trans (by omega) (hStep_go k L p))
theorem htU_next (ps : List PV) (n k : Nat) : htU ps n (k + 1) = ps.foldl (hStepR ((k : Int) + 1) (htU ps n k)) (htU ps n k) := hFold_eq (htU_bd ps n k) ps _ (HGo.refl _ _)
theorem il_cell {w : World} {b n c : Nat} {K : List Int} (h : IL w (.slice (some ⟨b, 0, none⟩) n c) K) {i : Nat} (hi : i < K.length) : n = K.length /\ w.cell? ⟨b, i, none⟩ = some (.int .i64 (K.getD i 0)) /\ w.frozen? ⟨b, i, none⟩ = false := by
 obtain ⟨a', c', e⟩ := il_len h
 simp only [Value.slice.injEq] at e
 obtain ⟨_, rfl, _⟩ := e
 refine ⟨rfl, ?_, World.ownsRow.frozenAt h i⟩
 rw [World.ownsRow.cellAt h i (by omega)]
 simp [List.getD, hi]
theorem il_set {w : World} {b n c : Nat} {K : List Int} (h : IL w (.slice (some ⟨b, 0, none⟩) n c) K) (i : Nat) (v : Int) : IL (w.setCell ⟨b, i, none⟩ (.int .i64 v)) (.slice (some ⟨b, 0, none⟩) n c) (K.set i v) := by
 obtain ⟨a', c', e⟩ := il_len h
 simp only [Value.slice.injEq] at e
 obtain ⟨_, rfl, _⟩ := e
 have := (World.ownsRow.stored h i (.int .i64 v)).1
 unfold IL
 rw [List.length_set, List.map_set]
 exact this
theorem rcopy_S (b n c : Nat) (K : List Int) (w : World) (h : IL w (.slice (some ⟨b, 0, none⟩) n c) K) (hn : K.length <= 64) (h1 : 1 <= K.length) :
  Calls Tryz.prog 45 #[.slice (some ⟨b, 0, none⟩) n c] w fun e w' => ∃ b' c', e = .returned (.slice (some ⟨b', 0, none⟩) K.length c') /\ IL w' (.slice (some ⟨b', 0, none⟩) K.length c') K /\ w.heap.size <= b' /\ Below w.heap.size w w' := by
 obtain ⟨e0, r0, s0, l0⟩ := h.inrow4
 subst e0
 have HR : Hid (InRow w (some ⟨b, 0, none⟩) K) := r0
 clear r0 s0 l0 h
 go_enter Tryz.func45, Tryz.ntmps45
 go_wp2_with (at_builtin; refine wpList_il_cat rfl _ _ rfl (.slice none 0 0) [] rfl (IL.nil _) (some ⟨b, 0, none⟩) c K.length K rfl rfl (.inr ⟨_, _, rfl⟩) HR.out (by simp; omega) ?_; intro a4 n4 c4 w4 ho4 hg4; have H4 : Hid (IL w4 (.slice a4 n4 c4) K /\ Grew w w4 (.slice none 0 0) (.slice a4 n4 c4)) := ⟨by simpa using ho4, hg4⟩; clear ho4 hg4)
 go_ret
 obtain ⟨h4, g4⟩ := H4.out
 obtain ⟨q1, q2⟩ := grew_belowI (Below.refl w.heap.size w) (fun j hj => by simp [Value.ownBlock] at hj) g4
 rcases h4.2 with ⟨e, _⟩ | ⟨b4, c5, cur, e, _⟩
 ·have := h4.inrow4.1
  simp only [Value.slice.injEq] at e
  omega
 ·cases e
  exact ⟨b4, _, rfl, h4, q2 b4 rfl, q1⟩
theorem take_all_snoc {α : Type} (f : α -> Bool) (l : List α) (d : α) {k : Nat} (hk : k < l.length) : (l.take (k + 1)).all f = ((l.take k).all f && f (l.getD k d)) := by
 rw [take_snoc l d hk, List.all_append]
 simp
theorem take_all_false {α : Type} {f : α -> Bool} {l : List α} {k : Nat} (h : (l.take k).all f = false) : l.all f = false := by
 rw [<- List.take_append_drop k l, List.all_append, h, Bool.false_and]
structure HW1 (g : GV) (w : World) (nb nc hb hc : Nat) (L K : List Int) (wr : World) : Prop where
 nx : IL wr (.slice (some ⟨nb, 0, none⟩) g.ns.length nc) L
 hh : IL wr (.slice (some ⟨hb, 0, none⟩) g.ns.length hc) K
 lens : L.length = g.ns.length /\ K.length = g.ns.length
 ord : w.heap.size < hb /\ hb < nb
 box : wr.heap[w.heap.size]? = some (gBox g)
 bel : Below w.heap.size w wr
theorem HW1.any {g : GV} {w wr w' : World} {nb nc hb hc : Nat} {L K : List Int} (h : HW1 g w nb nc hb hc L K wr) (q : Below wr.heap.size wr w') : HW1 g w nb nc hb hc L K w' :=
 ⟨h.nx.later q, h.hh.later q, h.lens, h.ord, (q.block _ (lt_of_block h.box)).trans h.box, h.bel.trans (q.mono h.bel.size)⟩
theorem HW1.set {g : GV} {w wr : World} {nb nc hb hc : Nat} {L K : List Int} (h : HW1 g w nb nc hb hc L K wr) (i : Nat) (v : Int) : HW1 g w nb nc hb hc (L.set i v) K (wr.setCell ⟨nb, i, none⟩ (.int .i64 v)) := by
 have ho := h.ord
 exact ⟨il_set h.nx i v, h.hh.kept (fun j hj => Below.heap_setCell _ _ _ _ (by simp [Value.ownBlock] at hj; show j ≠ nb; omega)), ⟨by simpa using h.lens.1, h.lens.2⟩, ho, (Below.heap_setCell _ _ _ _ (by show w.heap.size ≠ nb; omega)).trans h.box, h.bel.setCell (p := ⟨nb, i, none⟩) (by show w.heap.size <= nb; omega) _⟩
theorem rheights_S (g : GV) (w : World) (hfg : FG w g) :
  Calls Tryz.prog 19 #[g.val] w fun e w' => ∃ b c, e = .returned (.slice (some ⟨b, 0, none⟩) g.ns.length c) /\ InRow w' (some ⟨b, 0, none⟩) (htU g.ps g.ns.length g.ns.length) /\ w.heap.size <= b /\ Below w.heap.size w w' := by
 have X0 : Hid ((w.alloc (gBox g)).heap[w.heap.size]? = some (gBox g)) := heap_alloc_new _ _
 have HFG : Hid (∀ w', Below w.heap.size w w' -> FG w' g) := fun w' hb => hfg.later hb
 have hmk := make_intF g.ns.length (by have := hfg.nl; omega)
 have hpl := hfg.pl
 have hnl := hfg.nl
 have HLN : Hid (∀ k, (htU g.ps g.ns.length k).length = g.ns.length) := fun k => htU_len _ _ k
 obtain ⟨x0, x1, x2, x3, x4⟩ := gb_cells X0.out
 have hz : (w.alloc (gBox g)).heap.size = w.heap.size + 1 := by simp
 have M0 : Hid (IL ((w.alloc (gBox g)).alloc (.cells (madeCells #[.int .i64 0] g.ns.length) 3)) (.slice (some ⟨w.heap.size + 1, 0, none⟩) g.ns.length g.ns.length) (htU g.ps g.ns.length 0) /\ ((w.alloc (gBox g)).alloc (.cells (madeCells #[.int .i64 0] g.ns.length) 3)).heap[w.heap.size]? = some (gBox g) /\ Below w.heap.size w ((w.alloc (gBox g)).alloc (.cells (madeCells #[.int .i64 0] g.ns.length) 3))) := by
  have bA := below_alloc (w.alloc (gBox g)) (.cells (madeCells #[.int .i64 0] g.ns.length) 3)
  refine ⟨?_, (bA.block _ (by simp)).trans X0.out, (below_alloc w _).trans (bA.mono (by simp))⟩
  have k0 := KB.made (w.alloc (gBox g)) g.ns.length
  rw [hz] at k0
  refine ⟨by simp [htU], .inr ⟨w.heap.size + 1, g.ns.length, ((List.replicate g.ns.length (0 : Int)).map (Value.int .i64 ·)).toArray, by simp [htU], Nat.zero_le _, k0, by simp [htU], by unfold maxLen; omega, by simp, by simp [htU]⟩⟩
 clear hfg hz
 go_enter Tryz.func19, Tryz.ntmps19
 go_wp2
 go_loopw [3, 4] (fun hv r wr => ∃ (k hb hc : Nat), k <= g.ns.length /\ hv = .slice (some ⟨hb, 0, none⟩) g.ns.length hc /\ r = .int .i64 ((k : Int) + 1) /\ IL wr (.slice (some ⟨hb, 0, none⟩) g.ns.length hc) (htU g.ps g.ns.length k) /\ w.heap.size < hb /\ wr.heap[w.heap.size]? = some (gBox g) /\ Below w.heap.size w wr) (fun _ r _ => g.ns.length + 1 - (intOf r).toNat)
 case atStart => exact ⟨0, w.heap.size + 1, g.ns.length, Nat.zero_le _, rfl, rfl, M0.out.1, by omega, M0.out.2⟩
 case round =>
  clear x0 x1 x2 x3 x4 M0
  obtain ⟨k, hb, hc, hk, rfl, rfl, hI, ho, hbx, hbel⟩ := hrel
  obtain ⟨x0, x1, x2, x3, x4⟩ := gb_cells hbx
  by_cases hlt : k < g.ns.length
  ·have klt : (k : Int) + 1 <= (g.ns.length : Int) := by omega
   have HKN : Hid (htU g.ps g.ns.length (k + 1) = g.ps.foldl (hStepR ((k : Int) + 1) (htU g.ps g.ns.length k)) (htU g.ps g.ns.length k)) := htU_next _ _ _
   have HBD := htU_bd g.ps g.ns.length k
   have HKL : Hid ((htU g.ps g.ns.length k).length = g.ns.length) := HLN.out k
   have CP : Hid (Calls Tryz.prog 45 #[.slice (some ⟨hb, 0, none⟩) g.ns.length hc] wr fun e w' => ∃ b' c', e = .returned (.slice (some ⟨b', 0, none⟩) g.ns.length c') /\ IL w' (.slice (some ⟨b', 0, none⟩) g.ns.length c') (htU g.ps g.ns.length k) /\ wr.heap.size <= b' /\ Below wr.heap.size wr w') := by
    have := rcopy_S hb g.ns.length hc (htU g.ps g.ns.length k) wr hI (by rw [HLN.out]; omega) (by rw [HLN.out]; omega)
    rwa [HLN.out] at this
   have HI0 : Hid (IL wr (.slice (some ⟨hb, 0, none⟩) g.ns.length hc) (htU g.ps g.ns.length k) /\ w.heap.size < hb /\ wr.heap[w.heap.size]? = some (gBox g) /\ Below w.heap.size w wr) := ⟨hI, ho, hbx, hbel⟩
   have HHB : Hid (hb < wr.heap.size) := hI.lt hb rfl
   generalize htU g.ps g.ns.length k = K at *
   have HBK : Hid (∀ i, 0 <= K.getD i 0 /\ K.getD i 0 <= k) := HBD
   clear hI ho hbx hbel HBD
   obtain ⟨wz, rfl⟩ : ∃ wz : World, wz = wr := ⟨_, rfl⟩
   go_wp2_with (go_at_call 45; refine CP.out.mono ?_; rintro e w2 ⟨nb, nc, rfl, n2, l2, b2⟩; have B2 : Hid (HW1 g w nb nc hb hc K K w2) := ⟨n2, HI0.out.1.later b2, ⟨HKL.out, HKL.out⟩, ⟨HI0.out.2.1, Nat.lt_of_lt_of_le HHB.out l2⟩, (b2.block _ (lt_of_block HI0.out.2.2.1)).trans HI0.out.2.2.1, HI0.out.2.2.2.trans (b2.mono HI0.out.2.2.2.size)⟩; clear n2 l2 b2 x0 x1 x2 x3 x4)
   go_loopw [6] (fun i wr => ∃ j : Nat, j <= g.ps.length /\ i = .int .i64 j /\ HW1 g w nb nc hb hc ((g.ps.take j).foldl (hStepR ((k : Int) + 1) K) K) K wr) (fun i _ => g.ps.length - (intOf i).toNat)
   case atStart => exact ⟨0, Nat.zero_le _, rfl, B2.out⟩
   case round =>
    clear B2
    obtain ⟨j, hj, rfl, hW⟩ := hrel
    have HW : Hid (HW1 g w nb nc hb hc ((g.ps.take j).foldl (hStepR ((k : Int) + 1) K) K) K wr) := hW
    obtain ⟨x0, x1, x2, x3, x4⟩ := gb_cells hW.box
    by_cases hjt : j < g.ps.length
    ·obtain ⟨b, o, hpa, hbl, hcc⟩ := (HFG.out _ hW.bel).p.cells (by intro e; rw [e] at hjt; simp at hjt)
     obtain ⟨c0, c1, c2⟩ := hcc j hjt
     have jlt : (j : Int) < (g.ps.length : Int) := by omega
     have hmem : g.ps.getD j .none ∈ g.ps := by simp [List.getD, hjt]
     obtain ⟨l0, l1⟩ := (HFG.out _ hW.bel).left _ hmem
     have HRW : Hid (∀ w', Below w.heap.size w w' -> SymRow w' (g.ps.getD j .none).ra (g.ps.getD j .none).right) := fun w' q => (HFG.out _ q).p.rows _ hmem
     have hrl := (HFG.out _ hW.bel).rl _ hmem
     have HSY : Hid (∀ s ∈ (g.ps.getD j .none).right, (s.1 = 1 /\ 0 <= s.2 /\ s.2 < g.ts.length) ∨ (s.1 = 2 /\ 0 <= s.2 /\ s.2 < g.ns.length)) := (HFG.out _ hW.bel).sym _ hmem
     have HST : Hid ((g.ps.take (j + 1)).foldl (hStepR ((k : Int) + 1) K) K = hStepR ((k : Int) + 1) K ((g.ps.take j).foldl (hStepR ((k : Int) + 1) K) K) (g.ps.getD j .none)) := foldl_take_succ _ g.ps j K .none hjt
     generalize (g.ps.take j).foldl (hStepR ((k : Int) + 1) K) K = L at *
     generalize g.ps.getD j .none = p at *
     obtain ⟨pl, pra, prc, pr, pp⟩ := p
     simp only at c0 c1 c2 l0 l1 hrl HSY HRW
     obtain ⟨m, rfl⟩ : ∃ m : Nat, pl = (m : Int) := ⟨pl.toNat, by omega⟩
     have mlt : (m : Int) < (g.ns.length : Int) := by omega
     have HSN : Hid (∀ ok : Bool, ok = (decide (K.getD m 0 = 0) && pr.all (nz1 K)) -> hStepR ((k : Int) + 1) K L ⟨(m : Int), pra, prc, pr, pp⟩ = if ok = true then L.set m ((k : Int) + 1) else L) := fun ok h => by
      unfold hStepR okU
      simp only [Int.toNat_natCast]
      rw [<- h]
     have HWA : Hid (HW1 g w nb nc hb hc L K (wr.alloc (.cells #[.int .i64 (m : Int), .slice pra pr.length prc, .int .i64 pp] 64)) /\ (wr.alloc (.cells #[.int .i64 (m : Int), .slice pra pr.length prc, .int .i64 pp] 64)).heap[wr.heap.size]? = some (.cells #[.int .i64 (m : Int), .slice pra pr.length prc, .int .i64 pp] 64 (0, 0))) := ⟨hW.any (below_alloc _ _), heap_alloc_new _ _⟩
     obtain ⟨_, cm, _⟩ := il_cell HWA.out.1.hh (i := m) (by rw [HKL.out]; omega)
     have HBM : Hid (0 <= K.getD m 0 /\ K.getD m 0 <= k) := HBK.out m
     rw [hpa] at x3
     clear hcc hmem hW hpa hbl
     obtain ⟨hv, hhv⟩ : ∃ hv, K.getD m 0 = hv := ⟨_, rfl⟩
     rw [hhv] at cm HSN
     clear hhv
     obtain ⟨dz, hdz⟩ : ∃ dz, (hv == 0) = dz := ⟨_, rfl⟩
     have HDZ : Hid (decide (hv = 0) = dz) := by show _ = _; rw [<- hdz]; cases q : (hv == 0) <;> simp_all
     obtain ⟨wy, rfl⟩ : ∃ wy : World, wy = wr := ⟨_, rfl⟩
     go_wp2
     clear x0 x1 x2 x3 x4 c0 c1 c2 cm
     generalize wy.alloc (.cells #[.int .i64 (m : Int), .slice pra pr.length prc, .int .i64 pp] 64) = wA at *
     generalize hpb : wy.heap.size = pb at *
     clear hpb HW
     go_loopw [8, 9] (fun okv kv wr => ∃ (q : Nat) (ok : Bool), q <= pr.length /\ okv = .bool ok /\ kv = .int .i64 q /\ wA = wr /\ ok = (dz && (pr.take q).all (nz1 K))) (fun _ kv _ => pr.length - (intOf kv).toNat)
     case atStart => exact ⟨0, dz, Nat.zero_le _, by rw [<- hdz], rfl, rfl, by simp⟩
     case round =>
      obtain ⟨q, ok, hq, rfl, rfl, rfl, hok⟩ := hrel
      have HOK : Hid (ok = (dz && (pr.take q).all (nz1 K))) := hok
      clear hok
      have d0 : wA.cell? ⟨pb, 0, none⟩ = some (.int .i64 (m : Int)) := (cellq_any HWA.out.2).trans rfl
      have d1 : wA.cell? ⟨pb, 1, none⟩ = some (.slice pra pr.length prc) := (cellq_any HWA.out.2).trans rfl
      cases ok
      ·have R : Hid (hStepR ((k : Int) + 1) K L ⟨(m : Int), pra, prc, pr, pp⟩ = L) := by
        show _ = _
        have := HSN.out false (by
         rw [HDZ.out]
         have h := HOK.out
         cases dz
         ·rfl
         ·rw [Bool.true_and] at h ⊢
          exact (take_all_false h.symm).symm)
        simpa using this
       have R2 : Hid (HW1 g w nb nc hb hc ((g.ps.take (j + 1)).foldl (hStepR ((k : Int) + 1) K) K) K wA) := by rw [HST.out, R.out]; exact HWA.out.1
       by_cases hql : q < pr.length
       ·have qlt : (q : Int) < (pr.length : Int) := by omega
        go_wp2
        go_roundw
        case rel => exact ⟨j + 1, by omega, by go_num, R2.out⟩
        case measure => simp [intOf]; omega
       ·have qlt : ¬ (q : Int) < (pr.length : Int) := by omega
        go_wp2
        go_roundw
        case rel => exact ⟨j + 1, by omega, by go_num, R2.out⟩
        case measure => simp [intOf]; omega
      ·by_cases hql : q < pr.length
       ·have qlt : (q : Int) < (pr.length : Int) := by omega
        obtain ⟨sb, so, hpr, hsl, hsc⟩ := HRW.out _ HWA.out.1.bel (by intro e; rw [e] at hql; simp at hql)
        obtain ⟨s0, s1⟩ := hsc q hql
        rw [hpr] at d1
        have hin := HSY.out (pr.getD q (0, 0)) (by simp [List.getD, hql])
        have HNX : Hid ((dz && (pr.take (q + 1)).all (nz1 K)) = nz1 K (pr.getD q (0, 0))) := by
         show _ = _
         rw [take_all_snoc (nz1 K) pr (0, 0) hql, <- Bool.and_assoc, <- HOK.out, Bool.true_and]
        generalize pr.getD q (0, 0) = x at *
        obtain ⟨y1, y2⟩ := x
        simp only at s0 s1 hin
        clear hsc hsl hpr
        rcases hin with ⟨h1, i0, i1⟩ | ⟨h1, i0, i1⟩
        ·have t1 : (y1 == 2) = false := by rw [h1]; decide
         have R : Hid (false = (dz && (pr.take (q + 1)).all (nz1 K))) := by
          show _ = _
          rw [HNX.out]
          unfold nz1
          simp [h1]
         clear h1
         go_wp2
         go_roundw
         case rel => exact ⟨q + 1, false, by omega, rfl, by go_num, by trivial, R.out⟩
         case measure => simp [intOf]; omega
        ·have t1 : (y1 == 2) = true := by simpa using h1
         obtain ⟨e, rfl⟩ : ∃ e : Nat, y2 = (e : Int) := ⟨y2.toNat, by omega⟩
         obtain ⟨_, ce, _⟩ := il_cell HWA.out.1.hh (i := e) (by rw [HKL.out]; omega)
         obtain ⟨bv, hbv⟩ : ∃ bv, (K.getD e 0 != 0) = bv := ⟨_, rfl⟩
         have R : Hid (bv = (dz && (pr.take (q + 1)).all (nz1 K))) := by
          show _ = _
          rw [HNX.out, <- hbv]
          unfold nz1
          simp only [h1, decide_true, Bool.true_and, Int.toNat_natCast]
          cases z : (K.getD e 0 != 0) <;> simp_all
         generalize K.getD e 0 = ke at *
         clear h1
         go_wp2
         go_roundw
         case rel => exact ⟨q + 1, bv, by omega, by rw [<- hbv], by go_num, by trivial, R.out⟩
         case measure => simp [intOf]; omega
       ·have qlt : ¬ (q : Int) < (pr.length : Int) := by omega
        obtain rfl : q = pr.length := by omega
        have R : Hid (hStepR ((k : Int) + 1) K L ⟨(m : Int), pra, prc, pr, pp⟩ = L.set m ((k : Int) + 1)) := by
         show _ = _
         have := HSN.out true (by
          rw [HDZ.out]
          have h := HOK.out
          rw [List.take_length] at h
          exact h)
         simpa using this
        have R2 : Hid (HW1 g w nb nc hb hc ((g.ps.take (j + 1)).foldl (hStepR ((k : Int) + 1) K) K) K (wA.setCell ⟨nb, m, none⟩ (.int .i64 ((k : Int) + 1)))) := by rw [HST.out, R.out]; exact HWA.out.1.set m _
        obtain ⟨_, cn, fn⟩ := il_cell HWA.out.1.nx (i := m) (by rw [HWA.out.1.lens.1]; omega)
        generalize L.getD m 0 = lv at *
        go_wp2
        go_roundw
        case rel => exact ⟨j + 1, by omega, by go_num, R2.out⟩
        case measure => simp [intOf]; omega
    ·have jlt : ¬ (j : Int) < (g.ps.length : Int) := by omega
     obtain rfl : j = g.ps.length := by omega
     have R : Hid (IL wr (.slice (some ⟨nb, 0, none⟩) g.ns.length nc) (htU g.ps g.ns.length (k + 1)) /\ w.heap.size < nb /\ wr.heap[w.heap.size]? = some (gBox g) /\ Below w.heap.size w wr) := by
      have h := hW.nx
      rw [List.take_length, <- HKN.out] at h
      exact ⟨h, Nat.lt_trans hW.ord.1 hW.ord.2, hW.box, hW.bel⟩
     clear hW
     go_wp2
     go_roundw
     case rel => exact ⟨k + 1, nb, nc, by omega, rfl, by go_num, R.out⟩
     case measure => simp [intOf]; omega
  ·have klt : ¬ (k : Int) + 1 <= (g.ns.length : Int) := by omega
   obtain rfl : k = g.ns.length := by omega
   have R : Hid (InRow wr (some ⟨hb, 0, none⟩) (htU g.ps g.ns.length g.ns.length) /\ w.heap.size <= hb /\ Below w.heap.size w wr) := ⟨hI.inrow4.2.1, Nat.le_of_lt ho, hbel⟩
   clear hI ho hbx hbel
   go_wp2
   go_ret
   exact ⟨hb, ⟨hc, rfl⟩, R.out⟩
end Go.Proofs.YtpbpombjndlnbaaGreat
