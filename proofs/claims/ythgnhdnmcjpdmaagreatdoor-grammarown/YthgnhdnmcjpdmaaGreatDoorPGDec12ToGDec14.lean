import Derived.Test.YthgnhdnmcjpdmaaGreatDoorPGDec9ToGDec11
import Derived.Test.YthgnhdnmcjpdmaaGreatDoorPGCheckCToGCheckD
namespace Go.Proofs.YthgnhdnmcjpdmaaGreatDoor
set_option linter.unusedVariables false
set_option maxRecDepth 100000
set_option maxHeartbeats 16000000
open Go.RowKit
theorem proCells_get : ∀ (l : List PV) (i : Nat), i < l.length -> (proCells l)[i * 3]? = some (.int .i64 (l.getD i .none).left) /\ (proCells l)[i * 3 + 1]? = some (.slice (l.getD i .none).ra (l.getD i .none).right.length (l.getD i .none).rc) /\ (proCells l)[i * 3 + 2]? = some (.int .i64 (l.getD i .none).prec)
 | [], i, h => by simp at h
 | q :: r, 0, _ => by simp [proCells]
 | q :: r, i + 1, h => by
  have := proCells_get r i (by simpa using h)
  have e : proCells (q :: r) = .int .i64 q.left :: .slice q.ra q.right.length q.rc :: .int .i64 q.prec :: proCells r := rfl
  rw [e, show (i + 1) * 3 = i * 3 + 1 + 1 + 1 by omega]
  simpa using this
theorem levCells_get : ∀ (l : List LV) (i : Nat), i < l.length -> (levCells l)[i * 2]? = some (.int .i64 (l.getD i .none).assoc) /\ (levCells l)[i * 2 + 1]? = some (.slice (l.getD i .none).ta (l.getD i .none).terms.length (l.getD i .none).tc)
 | [], i, h => by simp at h
 | q :: r, 0, _ => by simp [levCells]
 | q :: r, i + 1, h => by
  have := levCells_get r i (by simpa using h)
  have e : levCells (q :: r) = .int .i64 q.assoc :: .slice q.ta q.terms.length q.tc :: levCells r := rfl
  rw [e, show (i + 1) * 2 = i * 2 + 1 + 1 by omega]
  simpa using this
theorem IL.inrow {w : World} {a : Option Addr} {n c : Nat} {l : List Int} (h : IL w (.slice a n c) l) : InRow w a l := by
 intro hne
 rcases h.2 with ⟨e, h0⟩ | ⟨g, cap, cur, e, h1, h2, h3⟩
 ·exact absurd (List.eq_nil_of_length_eq_zero h0) hne
 ·have hc := fun j x hx => World.ownsRow.cells h (g := g) (by rw [e]; rfl) j x hx
  cases e
  refine ⟨g, 0, rfl, lt_of_block h2, fun i hi => ?_⟩
  have r1 := hc i (.int .i64 (l.getD i 0)) (by simp [List.getD, hi])
  rw [add_none] at r1
  exact r1
theorem PO.at {B : Nat} {w : World} {a : Option Addr} {n c : Nat} {l : List PV} (h : PO B w (.slice a n c) l) : PrRow w a l := by
 refine ⟨fun hne => ?_, fun p hp => (h.each p hp).row⟩
 have hr := h.row
 rcases hr.2 with ⟨e, h0⟩ | ⟨g, cap, cur, e, h1, h2, h3⟩
 ·exact absurd (List.eq_nil_of_length_eq_zero h0) hne
 ·have hc := fun j x hx => World.ownsRow.cells hr (g := g) (by rw [e]; rfl) j x hx
  cases e
  refine ⟨g, 0, rfl, lt_of_block h2, fun i hi => ?_⟩
  obtain ⟨q1, q2, q3⟩ := proCells_get l i hi
  have r1 := hc _ _ q1
  have r2 := hc _ _ q2
  have r3 := hc _ _ q3
  rw [add_none] at r1 r2 r3
  exact ⟨by simpa using r1, by simpa [Nat.add_assoc] using r2, by simpa [Nat.add_assoc] using r3⟩
theorem LO.at {B : Nat} {w : World} {a : Option Addr} {n c : Nat} {l : List LV} (h : LO B w (.slice a n c) l) : LvRow w a l := by
 refine ⟨fun hne => ?_, fun p hp => (h.each p hp).inrow⟩
 have hr := h.row
 rcases hr.2 with ⟨e, h0⟩ | ⟨g, cap, cur, e, h1, h2, h3⟩
 ·exact absurd (List.eq_nil_of_length_eq_zero h0) hne
 ·have hc := fun j x hx => World.ownsRow.cells hr (g := g) (by rw [e]; rfl) j x hx
  cases e
  refine ⟨g, 0, rfl, lt_of_block h2, fun i hi => ?_⟩
  obtain ⟨q1, q2⟩ := levCells_get l i hi
  have r1 := hc _ _ q1
  have r2 := hc _ _ q2
  rw [add_none] at r1 r2
  exact ⟨by simpa using r1, by simpa [Nat.add_assoc] using r2⟩
theorem PO.cap {B : Nat} {w : World} {a : Option Addr} {n c : Nat} {l : List PV} (h : PO B w (.slice a n c) l) : l.length <= c := by
 rcases h.row.2 with ⟨e, h0⟩ | ⟨g, cap, cur, e, h1, h2, h3, h4⟩
 ·omega
 ·cases e; omega
theorem getD_core {α β : Type} (f : α -> β) (l : List α) (i : Nat) (d : α) : f (l.getD i d) = (l.map f).getD i (f d) := by
 simp only [List.getD, List.getElem?_map]
 cases l[i]? <;> rfl
theorem core_p {g g' : GV} (h : SameG g g') (i : Nat) : (g'.ps.getD i .none).core = (g.ps.getD i .none).core := by
 rw [getD_core PV.core, getD_core PV.core, h.ps]
theorem core_l {g g' : GV} (h : SameG g g') (i : Nat) : (g'.ls.getD i .none).core = (g.ls.getD i .none).core := by
 rw [getD_core LV.core, getD_core LV.core, h.ls]
theorem any_core {α β : Type} (f : α -> β) (p : β -> Bool) (l l' : List α) (h : l'.map f = l.map f) (i : Nat) : ((l'.take i).any fun q => p (f q)) = ((l.take i).any fun q => p (f q)) := by
 have e : ∀ k : List α, ((k.take i).any fun q => p (f q)) = ((k.map f).take i).any p := fun k => by rw [<- List.map_take, List.any_map]; rfl
 rw [e, e, h]
theorem same_prodU {g g' : GV} (h : SameG g g') (i : Nat) : prodU g' i = prodU g i := by
 have hc := core_p h i
 have c1 : (g'.ps.getD i .none).left = (g.ps.getD i .none).left := congrArg (·.1) hc
 have c2 : (g'.ps.getD i .none).right = (g.ps.getD i .none).right := congrArg (·.2.1) hc
 have c3 : (g'.ps.getD i .none).prec = (g.ps.getD i .none).prec := congrArg (·.2.2) hc
 have hn : inN g' = inN g := by funext x; simp only [inN, h.ns]
 have ht : inT g' = inT g := by funext x; simp only [inT, h.ts]
 have hG : inG g' = inG g := by funext x y; simp only [inG, ht, hn]
 have ha := any_core PV.core (fun q => q.1 == (g.ps.getD i .none).left && q.2.1 == (g.ps.getD i .none).right) g.ps g'.ps h.ps i
 unfold prodU
 rw [c1, c2, c3, hn, ht, hG]
 have ha' : ((g'.ps.take i).any fun q => q.left == (g.ps.getD i .none).left && q.right == (g.ps.getD i .none).right) = ((g.ps.take i).any fun q => q.left == (g.ps.getD i .none).left && q.right == (g.ps.getD i .none).right) := ha
 rw [ha']
theorem same_levelU {g g' : GV} (h : SameG g g') (i : Nat) : levelU g' i = levelU g i := by
 have hc := core_l h i
 have c1 : (g'.ls.getD i .none).assoc = (g.ls.getD i .none).assoc := congrArg (·.1) hc
 have c2 : (g'.ls.getD i .none).terms = (g.ls.getD i .none).terms := congrArg (·.2) hc
 have ht : inT g' = inT g := by funext x; simp only [inT, h.ts]
 have hnm : namedU g'.ls i = namedU g.ls i := by
  have e : ∀ k : List LV, namedU k i = ((k.map LV.core).take i).flatMap (·.2) := fun k => by rw [<- List.map_take, List.flatMap_map]; rfl
  rw [e, e, h.ls]
 unfold levelU
 rw [c1, c2, ht, hnm]
theorem same_check {g g' : GV} (h : SameG g g') : checkG g' (checkF g'.ts g'.ns) = checkG g (checkF g.ts g.ns) := by
 have hp : g'.ps.length = g.ps.length := by simpa using congrArg List.length h.ps
 have hl : g'.ls.length = g.ls.length := by simpa using congrArg List.length h.ls
 have hn : inN g' = inN g := by funext x; simp only [inN, h.ns]
 have e1 : prodU g' = prodU g := funext (same_prodU h)
 have e2 : levelU g' = levelU g := funext (same_levelU h)
 unfold checkG
 rw [h.ts, h.ns, h.start, hp, hl, hn, e1, e2]
theorem DG.at {B : Nat} {w : World} {g g' : GV} (h : DG B w g') (hs : SameG g g') (ok : OkD g) : GAt 1048576 w g' /\ g'.ps.length <= g'.pc := by
 have hp : g'.ps.length = g.ps.length := by simpa using congrArg List.length hs.ps
 have hl : g'.ls.length = g.ls.length := by simpa using congrArg List.length hs.ls
 obtain ⟨a1, c1, e1, r1, _⟩ := h.t.1.row
 obtain ⟨a2, c2, e2, r2, _⟩ := h.n_.1.row
 cases e1
 cases e2
 have o1 := ok.tl
 have o2 := ok.nl
 have o3 := ok.pl
 have o4 := ok.ll
 refine ⟨⟨r1, r2, h.p.at, h.l.at, ?_, ?_, by rw [hs.ts]; omega, by rw [hs.ns]; omega, by omega, by omega, ?_, ?_⟩, h.p.cap⟩
 ·rw [hs.ts]; exact fun s m => Nat.le_trans (ok.ts s m) (by unfold maxLen; omega)
 ·rw [hs.ns]; exact fun s m => Nat.le_trans (ok.ns s m) (by unfold maxLen; omega)
 ·intro p hp'
  have : p.core ∈ g.ps.map PV.core := hs.ps ▸ List.mem_map_of_mem hp'
  obtain ⟨q, hq, e⟩ := List.mem_map.1 this
  have e' : q.right = p.right := congrArg (·.2.1) e
  have := (ok.ps q hq).2.2.2
  rw [<- e']; omega
 ·intro p hp'
  have : p.core ∈ g.ls.map LV.core := hs.ls ▸ List.mem_map_of_mem hp'
  obtain ⟨q, hq, e⟩ := List.mem_map.1 this
  have e' : q.terms = p.terms := congrArg (·.2) e
  have := (ok.ls q hq).2.2
  rw [<- e']; omega
theorem newreader_own (ao : Option Addr) (n cap : Nat) (xs : List Int) (w : World) (hn : n = xs.length) (hl : xs.length <= 140737488355328) (hr : C.RowAt w ao xs) (hc : ao = none -> cap = 0) : Calls Tryz.prog 37 #[.slice ao n cap] w fun e w' => ∃ r ao N c, e = .returned (.pointer (some ⟨r, 0, none⟩)) /\ C.RInv w' r ao N c xs 0 0 /\ w.heap.size <= r /\ (∀ g, ao = some ⟨g, 0, none⟩ -> w.heap.size <= g /\ g < w'.heap.size) /\ Below w.heap.size w w' := by
 subst hn
 match ao with
 | none =>
  obtain rfl := hc rfl
  have hn : xs = [] := by
   by_cases hn : xs = []
   ·exact hn
   ·obtain ⟨b, off, he, _⟩ := hr.2 hn; cases he
  subst hn
  exact (C.newreader_none w).mono fun e w' ⟨h1, h2, h3⟩ => ⟨_, _, _, _, h1, h2, Nat.le_refl _, fun g h => (by cases h), h3⟩
 | some ad =>
  go_enter Tryz.func37, Tryz.ntmps37
  go_wp2_with (go_at_call 89; refine (C.clone_at ad xs.length cap xs w rfl hl hr).mono ?_; rintro e w1 ⟨g, N1, c1, rfl, ho, hg, hb⟩)
  go_ret
  have hz := hb.size
  exact ⟨w1.heap.size, some ⟨g, 0, none⟩, N1, c1, rfl, ⟨heap_alloc_new _ _, (C.own_len ho).1, (C.own_len ho).2.1.later (below_alloc _ _), C.no_nil, C.own_cap ho, Nat.zero_le _, hl, .inr ⟨g, rfl⟩⟩, hz, fun g' e => (by simp at e; subst e; exact ⟨hg, Nat.lt_of_lt_of_le (ho.lt g rfl) (below_alloc w1 _).size⟩), hb.trans ((below_alloc w1 _).mono hz)⟩
theorem DG.kept {B : Nat} {w w' : World} {g : GV} (h : DG B w g) (hb : ∀ k, B <= k -> k < w.heap.size -> w'.heap[k]? = w.heap[k]?) : DG B w' g := ⟨h.t.kept hb, h.n_.kept hb, h.p.kept hb, h.l.kept hb, h.tn⟩
theorem DG.mono {B B' : Nat} {w : World} {g : GV} (h : DG B w g) (hB : B' <= B) : DG B' w g := ⟨h.t.mono hB, h.n_.mono hB, h.p.mono hB, h.l.mono hB, h.tn⟩
theorem decode_ok (g : GV) (w : World) (ao : Option Addr) (N cap : Nat) (hN : N = (C.frame 1 (encG g)).length) (hl : (C.frame 1 (encG g)).length <= 140737488355328) (hcap : (C.frame 1 (encG g)).length <= cap) (hr : C.RowAt w ao (C.frame 1 (encG g))) (hm : C.Magic w) (at_ : Int) (hE : checkG g (checkF g.ts g.ns) = (0, at_)) (ok : OkD g) (hlen : (encG g).length <= 16777216) :
  Calls Tryz.prog 9 #[.slice ao N cap] w fun e w' => ∃ g', e = .returned (.tuple #[g'.val, .int .i64 0, .int .i64 0]) /\ SameG g g' /\ DG w.heap.size w' g' /\ Below w.heap.size w w' := by
 have HF : Hid (C.openS 1 (C.frame 1 (encG g)) = (encG g, 0, 0)) := C.open_frame 1 (encG g) hlen
 have HMG : ∀ w0 : World, Below w.heap.size w w0 -> C.Magic w0 := fun w0 hb => C.Magic.later hm hb hm.lt
 have HRW : ∀ w0 : World, Below w.heap.size w w0 -> C.RowAt w0 ao (C.frame 1 (encG g)) := fun w0 hb => C.RowAt.later hr hb
 have HOP : Hid (∀ w0 : World, Below w.heap.size w w0 -> Calls Tryz.prog 36 #[.int .u8 1, .slice ao N cap] w0 fun e w' => ∃ a c, e = .returned (.tuple #[.slice a (encG g).length c, .int .i64 0, .int .i64 0]) /\ C.RowAt w' a (encG g) /\ (a = none -> c = 0) /\ Below w0.heap.size w0 w') := fun w0 hb => (C.open_any 1 ao N cap _ w0 hN (by omega) (by omega) hl hcap (HMG w0 hb) (HRW w0 hb)).mono fun e w' he => by
  obtain ⟨v, rfl, ho, _, hb'⟩ := he
  rw [HF.out] at ho ⊢
  obtain ⟨a, c, rfl, hn, hr2⟩ := C.Own.row ho
  exact ⟨a, c, rfl, hr2, fun h => (hn h).2, hb'⟩
 have hNl : N <= 140737488355328 := by omega
 have HOK : Hid (OkD g /\ (encG g).length <= 16777216) := ⟨ok, hlen⟩
 have HCK : Hid (checkG g (checkF g.ts g.ns) = (0, at_)) := hE
 have HEND : Hid (C.endS (encG g) (0 + (encG g).length) 0 = (0, 0)) := by show _ = _; unfold C.endS; simp
 have KEEP : Hid (∀ (w1 w2 w3 w4 w5 : World) (r : Nat), Below (w.alloc (.cells #[.slice none 0 0, .slice none 0 0, .int .i64 0, .slice none 0 0, .slice none 0 0] 26)).heap.size (w.alloc (.cells #[.slice none 0 0, .slice none 0 0, .int .i64 0, .slice none 0 0, .slice none 0 0] 26)) w1 -> Below w1.heap.size w1 w2 -> w1.heap.size <= r -> C.ROnly w2 w3 r -> Below w3.heap.size w3 w4 -> Below w4.heap.size w4 w5 -> w5.heap[w.heap.size]? = some (.cells #[.slice none 0 0, .slice none 0 0, .int .i64 0, .slice none 0 0, .slice none 0 0] 26 (0, 0))) := fun w1 w2 w3 w4 w5 r b1 b2 lr o3 b4 b5 => by
  have hs : w.heap.size < (w.alloc (.cells #[.slice none 0 0, .slice none 0 0, .int .i64 0, .slice none 0 0, .slice none 0 0] 26)).heap.size := lt_of_block (heap_alloc_new w _)
  have s1 := b1.size
  have s2 := b2.size
  have s3 := o3.size
  have s4 := b4.size
  rw [b5.block _ (by omega), b4.block _ (by omega), o3.block _ (by omega) (by omega), b2.block _ (by omega), b1.block _ hs]
  exact heap_alloc_new w _
 clear hN hl hcap hr hm hE ok HMG HRW
 go_enter Tryz.func9, Tryz.ntmps9
 go_wp2_with (first
  | (go_at_call 36; refine (HOP.out _ (by first | exact below_alloc _ _ | exact (two_alloc _ _ _).1 | exact Below.refl _ _)).mono ?_; rintro e w1 ⟨ba, bc, rfl, hr1', hc1', hb1'⟩; have R1 : Hid _ := hr1'; have C1 : Hid _ := hc1'; have B1 : Hid _ := hb1'; clear hr1' hc1' hb1')
  | (go_at_call 37; refine (newreader_own ba _ bc (encG g) w1 rfl (Nat.le_trans HOK.out.2 (by omega)) R1.out C1.out).mono ?_; rintro e w2 ⟨r, ro, rN, rc, rfl, hR', hr', hg', hb'⟩; have R2 : Hid _ := hR'; have L2 : Hid _ := hr'; have G2 : Hid _ := hg'; have B2 : Hid _ := hb'; clear hR' hr' hg' hb')
  | (go_at_call 38; refine (dgram R2.out (fun g0 eg => (G2.out g0 eg).2) g [] (by simp) HOK.out.1).mono ?_; rintro e w3 ⟨g', rfl, sm', dg', hR', ho'⟩; have SM : Hid _ := sm'; have D3 : Hid _ := dg'; have R3 : Hid _ := hR'; have O3 : Hid _ := ho'; clear sm' dg' hR' ho')
  | (go_at_call 39; refine (C.rend_eq (R3.out.later (below_alloc w3 _)) 0 0 HEND.out).mono ?_; rintro e w4 ⟨rfl, n4, hw4⟩; have bx4 : w4.heap[w3.heap.size]? = some (.cells #[.slice g'.ta g'.ts.length g'.tc, .slice g'.na g'.ns.length g'.nc, .int .i64 g'.start, .slice g'.pa g'.ps.length g'.pc, .slice g'.la g'.ls.length g'.lc] 26 (0, 0)) := (by rw [hw4]; exact heap_alloc_new w3 _); have B4 : Hid (Below w3.heap.size w3 w4) := (by rw [hw4]; exact below_drewN (below_alloc w3 _) n4); have X4 : Hid _ := bx4; have c0 : w4.cell? ⟨w3.heap.size, 0, none⟩ = some (.slice g'.ta g'.ts.length g'.tc) := (by rw [cellq_any bx4]; rfl); have c1 : w4.cell? ⟨w3.heap.size, 1, none⟩ = some (.slice g'.na g'.ns.length g'.nc) := (by rw [cellq_any bx4]; rfl); have c2 : w4.cell? ⟨w3.heap.size, 2, none⟩ = some (.int .i64 g'.start) := (by rw [cellq_any bx4]; rfl); have c3 : w4.cell? ⟨w3.heap.size, 3, none⟩ = some (.slice g'.pa g'.ps.length g'.pc) := (by rw [cellq_any bx4]; rfl); have c4 : w4.cell? ⟨w3.heap.size, 4, none⟩ = some (.slice g'.la g'.ls.length g'.lc) := (by rw [cellq_any bx4]; rfl); clear hw4 bx4)
  | (go_at_call 17; refine (check_G g' w4 (((D3.out.at SM.out HOK.out.1).1.later B4.out).mono (by omega)) (D3.out.at SM.out HOK.out.1).2 0 at_ ((same_check SM.out).trans HCK.out)).mono ?_; rintro e w5 ⟨rfl, hb5'⟩; have B5 : Hid _ := hb5'; have bx5 := (hb5'.block _ (lt_of_block X4.out)).trans X4.out; clear c0 c1 c2 c3 c4; have c0 : w5.cell? ⟨w3.heap.size, 0, none⟩ = some (.slice g'.ta g'.ts.length g'.tc) := (by rw [cellq_any bx5]; rfl); have c1 : w5.cell? ⟨w3.heap.size, 1, none⟩ = some (.slice g'.na g'.ns.length g'.nc) := (by rw [cellq_any bx5]; rfl); have c2 : w5.cell? ⟨w3.heap.size, 2, none⟩ = some (.int .i64 g'.start) := (by rw [cellq_any bx5]; rfl); have c3 : w5.cell? ⟨w3.heap.size, 3, none⟩ = some (.slice g'.pa g'.ps.length g'.pc) := (by rw [cellq_any bx5]; rfl); have c4 : w5.cell? ⟨w3.heap.size, 4, none⟩ = some (.slice g'.la g'.ls.length g'.lc) := (by rw [cellq_any bx5]; rfl); have e5 : w5.heap[w.heap.size]? = some (.cells #[.slice none 0 0, .slice none 0 0, .int .i64 0, .slice none 0 0, .slice none 0 0] 26 (0, 0)) := KEEP.out w1 w2 w3 w4 w5 r B1.out B2.out L2.out O3.out B4.out B5.out; have x0 : w5.cell? ⟨w.heap.size, 0, none⟩ = some (.slice none 0 0) := (by rw [cellq_any e5]; rfl); have y0 : w5.frozen? ⟨w.heap.size, 0, none⟩ = false := (by simp [World.frozen?, e5]); have x1 : w5.cell? ⟨w.heap.size, 1, none⟩ = some (.slice none 0 0) := (by rw [cellq_any e5]; rfl); have y1 : w5.frozen? ⟨w.heap.size, 1, none⟩ = false := (by simp [World.frozen?, e5]); have x2 : w5.cell? ⟨w.heap.size, 2, none⟩ = some (.int .i64 0) := (by rw [cellq_any e5]; rfl); have y2 : w5.frozen? ⟨w.heap.size, 2, none⟩ = false := (by simp [World.frozen?, e5]); have x3 : w5.cell? ⟨w.heap.size, 3, none⟩ = some (.slice none 0 0) := (by rw [cellq_any e5]; rfl); have y3 : w5.frozen? ⟨w.heap.size, 3, none⟩ = false := (by simp [World.frozen?, e5]); have x4 : w5.cell? ⟨w.heap.size, 4, none⟩ = some (.slice none 0 0) := (by rw [cellq_any e5]; rfl); have y4 : w5.frozen? ⟨w.heap.size, 4, none⟩ = false := (by simp [World.frozen?, e5]); have hz5 : w.heap.size < w5.heap.size := lt_of_block e5; have hz6 : w3.heap.size < w5.heap.size := lt_of_block bx5; clear bx5 e5 hb5'))
 have hb9 : Below w.heap.size w5 (((((w5.setCell ⟨w.heap.size, 0, none⟩ (.slice g'.ta g'.ts.length g'.tc)).setCell ⟨w.heap.size, 1, none⟩ (.slice g'.na g'.ns.length g'.nc)).setCell ⟨w.heap.size, 2, none⟩ (.int .i64 g'.start)).setCell ⟨w.heap.size, 3, none⟩ (.slice g'.pa g'.ps.length g'.pc)).setCell ⟨w.heap.size, 4, none⟩ (.slice g'.la g'.ls.length g'.lc)) :=
  ((((own_set _ _ _ (Nat.le_refl _)).trans (own_set _ _ _ (Nat.le_refl _))).trans (own_set _ _ _ (Nat.le_refl _))).trans (own_set _ _ _ (Nat.le_refl _))).trans (own_set _ _ _ (Nat.le_refl _))
 have s0 := (below_alloc w (.cells #[.slice none 0 0, .slice none 0 0, .int .i64 0, .slice none 0 0, .slice none 0 0] 26)).size
 have hs : w.heap.size < (w.alloc (.cells #[.slice none 0 0, .slice none 0 0, .int .i64 0, .slice none 0 0, .slice none 0 0] 26)).heap.size := lt_of_block (heap_alloc_new w _)
 have s1 := B1.out.size
 have s2 := B2.out.size
 have s3 := O3.out.size
 have s4 := B4.out.size
 have lr := L2.out
 have hbw : Below w.heap.size w (((((w5.setCell ⟨w.heap.size, 0, none⟩ (.slice g'.ta g'.ts.length g'.tc)).setCell ⟨w.heap.size, 1, none⟩ (.slice g'.na g'.ns.length g'.nc)).setCell ⟨w.heap.size, 2, none⟩ (.int .i64 g'.start)).setCell ⟨w.heap.size, 3, none⟩ (.slice g'.pa g'.ps.length g'.pc)).setCell ⟨w.heap.size, 4, none⟩ (.slice g'.la g'.ls.length g'.lc)) := ((((((below_alloc w _).trans (B1.out.mono s0)).trans (B2.out.mono (Nat.le_trans s0 s1))).trans (O3.out.below (by omega) (by omega))).trans (B4.out.mono (by omega))).trans (B5.out.mono (by omega))).trans hb9
 refine bodyPost_ret (v := .tuple #[g'.val, .int .i64 0, .int .i64 0]) (by simp [results, Tryz.results9, go_sem, x0, x1, x2, x3, x4]) rfl ?_
 refine ⟨g', rfl, SM.out, (D3.out.kept fun k hk hks => ?_).mono (by omega), hbw⟩
 have hne : k ≠ w.heap.size := by omega
 rw [Below.heap_setCell _ _ _ _ hne, Below.heap_setCell _ _ _ _ hne, Below.heap_setCell _ _ _ _ hne, Below.heap_setCell _ _ _ _ hne, Below.heap_setCell _ _ _ _ hne]
 exact (B5.out.block k (by omega)).trans (B4.out.block k hks)
end Go.Proofs.YthgnhdnmcjpdmaaGreatDoor
