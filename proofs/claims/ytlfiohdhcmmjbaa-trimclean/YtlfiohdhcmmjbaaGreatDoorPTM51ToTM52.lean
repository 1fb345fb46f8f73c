import Derived.Test.YtlfiohdhcmmjbaaGreatDoorPTM44ToTM50
import Derived.Test.YtlfiohdhcmmjbaaGreatDoorPTM26ToTM28
import Derived.Test.YtlfiohdhcmmjbaaGreatDoorPGSame3ToGSame6
namespace Go.Proofs.YtlfiohdhcmmjbaaGreatDoor
set_option linter.unusedVariables false
open Go.RowKit Go.Shelf Go.Maps

theorem il_shape7 {w : World} {v : Value} {l : List Int} (h : IL w v l) : ∃ a c, v = .slice a l.length c := by
  rcases h.2 with ⟨e, h0⟩ | ⟨g, cap, cur, e, h1, h2, h3⟩
  · exact ⟨none, 0, by rw [e, h0]⟩
  · exact ⟨_, _, e⟩
theorem sy_cap7 {w : World} {a : Option Addr} {n c : Nat} {l : List (Int × Int)} (h : SY w (.slice a n c) l) : l.length ≤ c := by
  rcases h.2 with ⟨e, h0⟩ | ⟨g, cap, cur, e, h1, h2, h3, h4⟩
  · omega
  · cases e; omega
theorem OkC.okd7 {g : GV} (h : OkC g) : OkD g := by
  have tl := h.tl
  have nl := h.nl
  have pl := h.pl
  have ll := h.ll
  have st := h.st
  refine ⟨fun s hs => Nat.le_trans (h.ts s hs) (by omega), fun s hs => Nat.le_trans (h.ns s hs) (by omega), by omega, fun q hq => ?_, fun q hq => ?_, by omega, by omega, by omega, by omega⟩
  · obtain ⟨i, hi, rfl⟩ := getD_mem (d := PV.none) hq
    have l := h.left i hi
    have p := h.prec i hi
    have r := h.right i hi
    refine ⟨by omega, by omega, fun s hs => ?_, by omega⟩
    rcases inG_is (h.inG i hi s hs) with ⟨e, z⟩ | ⟨e, z⟩
    · exact ⟨.inl e, by omega, by omega⟩
    · exact ⟨.inr e, by omega, by omega⟩
  · obtain ⟨i, hi, rfl⟩ := getD_mem (d := LV.none) hq
    obtain ⟨a, b, _⟩ := h.level i hi
    have t := h.terms i hi
    exact ⟨by omega, fun s hs => by have := b s hs; omega, by omega⟩
/-- A grammar of one's own that may be: all that its readers want. -/
theorem DG.own7 {B : Nat} {w : World} {x : GV} (h : DG B w x) (ok : OkC x) : GAt 140737488355328 w x ∧ x.ps.length ≤ x.pc ∧ ∀ p ∈ x.ps, p.right.length ≤ p.rc := by
  have q := h.at (g := x) ⟨rfl, rfl, rfl, rfl, rfl⟩ ok.okd7
  exact ⟨q.1.mono (by omega), q.2, fun p hp => sy_cap7 (h.p.each p hp)⟩
theorem TrR.known {g x : GV} {er at_ : Int} (hE : checkG g (checkF g.ts g.ns) = (er, at_)) (h : TrR g er 0 x) : er = 0 ∧ ∃ M T N, TrK g x M T N := by
  by_cases h0 : er = 0
  · subst h0
    refine ⟨rfl, ?_⟩
    obtain ⟨M, hM, ⟨_, q, _⟩ | ⟨q1, T, N, q2, ⟨_, q, _⟩ | ⟨q3, _, q4⟩⟩⟩ := h.1 rfl
    · cases q
    · cases q
    · exact ⟨M, T, N, OkC.of (by rw [hE]), checkF_ok hE, hM, q1, q2, q3, q4⟩
  · exact absurd (h.2 h0).1.symm h0
/-- What Wells answers. -/
def WlR (g : GV) (er k' : Int) (x' : GV) : Prop := ∃ k x, TrR g er k x ∧ ((k ≠ 0 ∧ k' = k ∧ x' = gNil7) ∨ (k = 0 ∧ ∃ O, CiL x O ∧ ((O ≠ [] ∧ k' = 73 ∧ x' = gNil7) ∨ (O = [] ∧ k' = 0 ∧ x' = x))))
set_option linter.unusedSimpArgs false in
set_option maxRecDepth 100000 in
set_option maxHeartbeats 8000000 in
/-- Wells of any grammar: the program's. -/
theorem Wells_P (g : GV) (w : World) (h : GAt 140737488355328 w g) (hpc : g.ps.length ≤ g.pc) (er at_ : Int) (hE : checkG g (checkF g.ts g.ns) = (er, at_)) (hT : TabB w) :
    Calls Tryz.prog 23 #[g.val] w fun e w' => ∃ x k, e = .returned (.tuple #[x.val, .int .i64 k]) ∧ WlR g er k x ∧ DG (w.heap.size + 1 + 1) w' x ∧ Below w.heap.size w w' := by
  have B1 : Hid (Below w.heap.size w ((w.alloc (gBox g)).alloc zG) ∧ ((w.alloc (gBox g)).alloc zG).heap[w.heap.size]? = some (gBox g) ∧ ((w.alloc (gBox g)).alloc zG).heap[w.heap.size + 1]? = some zG) := by
    have q0 := heap_alloc_new w (gBox g)
    have q := heap_alloc_new (w.alloc (gBox g)) zG
    rw [show (w.alloc (gBox g)).heap.size = w.heap.size + 1 by simp] at q
    exact ⟨(below_alloc w _).trans ((below_alloc (w.alloc (gBox g)) _).mono (below_alloc w _).size), ((below_alloc (w.alloc (gBox g)) _).block _ (by simp)).trans q0, q⟩
  have TR : Hid (Calls Tryz.prog 21 #[g.val] ((w.alloc (gBox g)).alloc zG) fun e w' => ∃ x k, e = .returned (.tuple #[x.val, .int .i64 k]) ∧ TrR g er k x ∧ DG (((w.alloc (gBox g)).alloc zG).heap.size + 1 + 1) w' x ∧ Below ((w.alloc (gBox g)).alloc zG).heap.size ((w.alloc (gBox g)).alloc zG) w') := Trim_P g _ (h.later B1.out.1) hpc er at_ hE fun q => OkC.prw (OkC.of (by rw [hE, q]))
  have HE : Hid (checkG g (checkF g.ts g.ns) = (er, at_)) := hE
  have HT : Hid (TabB w) := hT
  obtain ⟨x0, x1, x2, x3, x4⟩ := gb_cells B1.out.2.1
  clear h hE hpc hT
  go_enter Tryz.func23, Tryz.ntmps23
  go_wp2_with (go_at_call 21; refine TR.out.mono ?_)
  rintro e w2 ⟨x, k, rfl, t2, d2, b2⟩
  have Bw2 : Hid (Below w.heap.size w w2 ∧ w2.heap[w.heap.size + 1]? = some zG) := ⟨B1.out.1.trans (b2.mono B1.out.1.size), (b2.block _ (lt_of_block B1.out.2.2)).trans B1.out.2.2⟩
  have T2 : Hid (TrR g er k x) := t2
  have D2 : Hid (DG (w.heap.size + 1 + 1) w2 x) := d2.mono (by simp)
  clear t2 d2 b2 x0 x1 x2 x3 x4 TR
  by_cases hk : k = 0
  · subst hk
    have KN : Hid (∃ M T N, TrK g x M T N) := (TrR.known HE.out T2.out).2
    have IN : Hid (∀ wq, Below w2.heap.size w2 wq → Calls Tryz.prog 38 #[x.val] wq fun e w' => ∃ a c l, e = .returned (.slice a l.length c) ∧ CiL x l ∧ Below wq.heap.size wq w') := fun wq hb => by
      obtain ⟨M, T, N, kn⟩ := KN.out
      have ck := kn.check
      have ok := kn.tidy.ok
      obtain ⟨y1, y2, y3⟩ := (D2.out.kept fun k _ hk => hb.block k hk).own7 ok
      exact (circular_P x wq y1 y2 0 ck y3 (HT.out.later (Bw2.out.1.trans (hb.mono Bw2.out.1.size)))).mono fun e w' ⟨v, q1, O, q2, q3⟩ => by
        obtain ⟨a, c, rfl⟩ := il_shape7 q2.il
        exact ⟨a, c, _, q1, circ_L ok y1 q3, q2.bel⟩
    have t1 : ((0 : Int) != 0) = false := by decide
    have b3 : Below w2.heap.size w2 (w2.alloc (gBox x)) := below_alloc _ _
    have X3 : Hid ((w2.alloc (gBox x)).heap[w2.heap.size]? = some (gBox x)) := heap_alloc_new _ _
    have Bw3 : Hid (Below w.heap.size w (w2.alloc (gBox x)) ∧ (w2.alloc (gBox x)).heap[w.heap.size + 1]? = some zG) := ⟨Bw2.out.1.trans (b3.mono Bw2.out.1.size), (b3.block _ (lt_of_block Bw2.out.2)).trans Bw2.out.2⟩
    have CC : Hid (Calls Tryz.prog 38 #[x.val] (w2.alloc (gBox x)) fun e w' => ∃ a c l, e = .returned (.slice a l.length c) ∧ CiL x l ∧ Below (w2.alloc (gBox x)).heap.size (w2.alloc (gBox x)) w') := IN.out _ b3
    have D3 : Hid (DG (w.heap.size + 1 + 1) (w2.alloc (gBox x)) x) := D2.out.kept fun k _ hk => b3.block k hk
    obtain ⟨x0, x1, x2, x3, x4⟩ := gb_cells X3.out
    clear b3 IN
    go_wp2_with (go_at_call 38; refine CC.out.mono ?_)
    rintro e w4 ⟨a, c, l, rfl, c4, b4⟩
    have B4 : Hid (Below w.heap.size w w4 ∧ w4.heap[w.heap.size + 1]? = some zG ∧ w4.heap[w2.heap.size]? = some (gBox x)) := ⟨Bw3.out.1.trans (b4.mono Bw3.out.1.size), (b4.block _ (lt_of_block Bw3.out.2)).trans Bw3.out.2, (b4.block _ (lt_of_block X3.out)).trans X3.out⟩
    have D4 : Hid (DG (w.heap.size + 1 + 1) w4 x) := D3.out.kept fun k _ hk => b4.block k hk
    have C4 : Hid (CiL x l) := c4
    clear b4 c4 x0 x1 x2 x3 x4
    obtain ⟨x0, x1, x2, x3, x4⟩ := gb_cells B4.out.2.2
    obtain ⟨r0, r1, r2, r3, r4⟩ := zcells B4.out.2.1
    obtain ⟨e0, e1, e2, e3, e4⟩ := zfree B4.out.2.1
    cases l with
    | nil =>
      have REL : Hid (WlR g er 0 x) := ⟨0, x, T2.out, .inr ⟨rfl, [], C4.out, .inr ⟨rfl, rfl, rfl⟩⟩⟩
      go_wp2
      refine bodyPost_ret (v := .tuple #[x.val, .int .i64 0]) (by simp [results, Tryz.results23, go_sem, r0, r1, r2, r3, r4]) rfl ?_
      refine ⟨x, 0, rfl, REL.out, D4.out.kept fun k hk hk2 => ?_, below_set5 B4.out.1 _ _ _ _ _⟩
      exact (set5 (o := w4.heap[k]'hk2) (by omega) (by simp) _ _ _ _ _ _ _ _ _ _).trans (by simp)
    | cons y l =>
      have REL : Hid (WlR g er 73 gNil7) := ⟨0, x, T2.out, .inr ⟨rfl, y :: l, C4.out, .inl ⟨by simp, rfl, rfl⟩⟩⟩
      have hpos : (0 : Int) < ((y :: l).length : Int) := by simp only [List.length_cons]; omega
      go_wp2
      refine bodyPost_ret (v := .tuple #[gNil7.val, .int .i64 73]) (by simp [results, Tryz.results23, go_sem, r0, r1, r2, r3, r4, gNil7]) rfl ?_
      exact ⟨gNil7, 73, rfl, REL.out, DG.nil7 _ _, below_set5 B4.out.1 _ _ _ _ _⟩
  · have t1 : (k != 0) = true := by simpa using hk
    have b3 : Below w2.heap.size w2 (w2.alloc (gBox x)) := below_alloc _ _
    have Bw3 : Hid (Below w.heap.size w (w2.alloc (gBox x)) ∧ (w2.alloc (gBox x)).heap[w.heap.size + 1]? = some zG) := ⟨Bw2.out.1.trans (b3.mono Bw2.out.1.size), (b3.block _ (lt_of_block Bw2.out.2)).trans Bw2.out.2⟩
    obtain ⟨r0, r1, r2, r3, r4⟩ := zcells Bw3.out.2
    obtain ⟨e0, e1, e2, e3, e4⟩ := zfree Bw3.out.2
    have REL : Hid (WlR g er k gNil7) := ⟨k, x, T2.out, .inl ⟨hk, rfl, rfl⟩⟩
    clear b3 hk
    go_wp2
    refine bodyPost_ret (v := .tuple #[gNil7.val, .int .i64 k]) (by simp [results, Tryz.results23, go_sem, r0, r1, r2, r3, r4, gNil7]) rfl ?_
    exact ⟨gNil7, k, rfl, REL.out, DG.nil7 _ _, below_set5 Bw3.out.1 _ _ _ _ _⟩
end Go.Proofs.YtlfiohdhcmmjbaaGreatDoor
namespace Go.Proofs.YtlfiohdhcmmjbaaGreatDoor
set_option linter.unusedVariables false
open Go.RowKit Go.Shelf Go.Maps

theorem TrG.one7 {f : Int × Int → Option Int} {C : PV → Bool} {g x y : GV} (h : TrG f C g x) (h' : TrG f C g y) : SameG x y := ⟨h'.ts.trans h.ts.symm, h'.ns.trans h.ns.symm, h'.st.trans h.st.symm, h'.ps.trans h.ps.symm, h'.ls.trans h.ls.symm⟩
theorem TrR.one7 {g x y : GV} {er k k' : Int} (h : TrR g er k x) (h' : TrR g er k' y) : k' = k ∧ SameG x y := by
  by_cases h0 : er = 0
  · obtain ⟨M, hM, a⟩ := h.1 h0
    obtain ⟨M', hM', b⟩ := h'.1 h0
    obtain rfl := hM.one hM'
    rcases a with ⟨a1, rfl, rfl⟩ | ⟨a1, T, N, aR, a2⟩ <;> rcases b with ⟨b1, rfl, rfl⟩ | ⟨b1, T', N', bR, b2⟩
    · exact ⟨rfl, rfl, rfl, rfl, rfl, rfl⟩
    · rw [a1] at b1; cases b1
    · rw [a1] at b1; cases b1
    · obtain ⟨rfl, rfl⟩ := aR.one bR
      rcases a2 with ⟨a3, rfl, rfl⟩ | ⟨a3, rfl, a4⟩ <;> rcases b2 with ⟨b3, rfl, rfl⟩ | ⟨b3, rfl, b4⟩
      · exact ⟨rfl, rfl, rfl, rfl, rfl, rfl⟩
      · rw [a3] at b3; cases b3
      · rw [a3] at b3; cases b3
      · exact ⟨rfl, a4.one7 b4⟩
  · obtain ⟨rfl, rfl⟩ := h.2 h0
    obtain ⟨rfl, rfl⟩ := h'.2 h0
    exact ⟨rfl, rfl, rfl, rfl, rfl, rfl⟩
theorem TrR.nil7 {g x : GV} {er k : Int} (h : TrR g er k x) (hk : k ≠ 0) : x = gNil7 := by
  by_cases h0 : er = 0
  · obtain ⟨M, hM, ⟨_, _, e⟩ | ⟨_, T, N, _, ⟨_, _, e⟩ | ⟨_, e, _⟩⟩⟩ := h.1 h0
    · exact e
    · exact e
    · exact absurd e hk
  · exact (h.2 h0).2
theorem SameG.sym7 {g x : GV} (h : SameG g x) : SameG x g := ⟨h.ts.symm, h.ns.symm, h.start.symm, h.ps.symm, h.ls.symm⟩
theorem nil7_at (w : World) : GAt 140737488355328 w gNil7 := (((DG.nil7 0 w).at (g := gNil7) ⟨rfl, rfl, rfl, rfl, rfl⟩ ⟨fun s hs => (by cases hs), fun s hs => (by cases hs), by simp [gNil7], fun s hs => (by cases hs), fun s hs => (by cases hs), by simp [gNil7], by simp [gNil7], by simp [gNil7], by simp [gNil7]⟩).1).mono (by omega)
/-- The walk of TrimClean under way: the grammar's box, and the boxes of own grammars. -/
structure CW7 (g : GV) (w : World) (X : List (Nat × GV)) (wr : World) : Prop where
  bel : Below w.heap.size w wr
  box : wr.heap[w.heap.size]? = some (gBox g)
  own : ∀ q ∈ X, wr.heap[q.1]? = some (gBox q.2) ∧ ∃ B, DG B wr q.2
section
variable {g x : GV} {w wr w' : World} {X : List (Nat × GV)}
theorem CW7.later (h : CW7 g w X wr) (hb : Below wr.heap.size wr w') : CW7 g w X w' :=
  ⟨h.bel.trans (hb.mono h.bel.size), (hb.block _ (lt_of_block h.box)).trans h.box, fun q hq => ⟨(hb.block _ (lt_of_block (h.own q hq).1)).trans (h.own q hq).1, (h.own q hq).2.imp fun _ d => d.kept fun k _ hk => hb.block k hk⟩⟩
theorem CW7.add (h : CW7 g w X wr) (hb : Below wr.heap.size wr w') {B : Nat} (hd : DG B w' x) : CW7 g w ((w'.heap.size, x) :: X) (w'.alloc (gBox x)) :=
  have k := (h.later hb).later (below_alloc w' (gBox x))
  ⟨k.bel, k.box, fun q hq => by
    rcases List.mem_cons.1 hq with rfl | r
    · exact ⟨heap_alloc_new _ _, B, hd.kept fun k _ hk => (below_alloc w' (gBox x)).block k hk⟩
    · exact k.own q r⟩
end
set_option linter.unusedSimpArgs false in
set_option maxRecDepth 100000 in
set_option maxHeartbeats 16000000 in
/-- The law holds of every grammar. -/
theorem clean_walk (g : GV) (w : World) (h : GAt 140737488355328 w g) (hpc : g.ps.length ≤ g.pc) (hcap : ∀ p ∈ g.ps, p.right.length ≤ p.rc) (hT : TabB w) :
    Calls Tryz.prog 5 #[g.val] w fun e w' => e = .returned (.bool true) ∧ Below w.heap.size w w' := by
  obtain ⟨er, at_, hE⟩ : ∃ er at_, checkG g (checkF g.ts g.ns) = (er, at_) := ⟨_, _, rfl⟩
  have A0 : Hid (CW7 g w [] (w.alloc (gBox g))) := ⟨below_alloc _ _, heap_alloc_new _ _, fun q hq => (by cases hq)⟩
  have HT : Hid (∀ wr, Below w.heap.size w wr → TabB wr) := fun wr hb => hT.later hb
  have HE : Hid (checkG g (checkF g.ts g.ns) = (er, at_)) := hE
  have TG : Hid (∀ X wr, CW7 g w X wr → Calls Tryz.prog 21 #[g.val] wr fun e w' => ∃ x k B, e = .returned (.tuple #[x.val, .int .i64 k]) ∧ TrR g er k x ∧ DG B w' x ∧ Below wr.heap.size wr w') := fun X wr k => (Trim_P g wr (h.later k.bel) hpc er at_ hE fun q => OkC.prw (OkC.of (by rw [hE, q]))).mono fun e w' ⟨x, kk, q1, q2, q3, q4⟩ => ⟨x, kk, _, q1, q2, q3, q4⟩
  have WG : Hid (∀ X wr, CW7 g w X wr → Calls Tryz.prog 23 #[g.val] wr fun e w' => ∃ x k B, e = .returned (.tuple #[x.val, .int .i64 k]) ∧ WlR g er k x ∧ DG B w' x ∧ Below wr.heap.size wr w') := fun X wr k => (Wells_P g wr (h.later k.bel) hpc er at_ hE (HT.out _ k.bel)).mono fun e w' ⟨x, kk, q1, q2, q3, q4⟩ => ⟨x, kk, _, q1, q2, q3, q4⟩
  have PB : Hid (∀ x X wr b, CW7 g w X wr → TrR g er 0 x → (b, x) ∈ X → Calls Tryz.prog 8 #[x.val] wr fun e w' => ∃ a c, e = .returned (.tuple #[.slice a 0 c, .int .i64 0]) ∧ Below wr.heap.size wr w') := fun x X wr b k t m => by
    obtain ⟨M, T, N, kn⟩ := (t.known HE.out).2
    obtain ⟨B, d⟩ := (k.own _ m).2
    obtain ⟨y1, y2, y3⟩ := d.own7 kn.tidy.ok
    exact (Barren_P x wr y1 y2 0 0 kn.check).mono fun e w' ⟨v, l, q1, q2, q3⟩ => by
      obtain ⟨a, c, rfl⟩ := il_len q3.il
      obtain rfl := (q2.1 rfl).one kn.tidy.barren
      exact ⟨a, c, q1, q3.bel⟩
  have PU : Hid (∀ x X wr b, CW7 g w X wr → TrR g er 0 x → (b, x) ∈ X → Calls Tryz.prog 10 #[x.val] wr fun e w' => ∃ a c, e = .returned (.tuple #[.slice a 0 c, .int .i64 0]) ∧ Below wr.heap.size wr w') := fun x X wr b k t m => by
    obtain ⟨M, T, N, kn⟩ := (t.known HE.out).2
    obtain ⟨B, d⟩ := (k.own _ m).2
    obtain ⟨y1, y2, y3⟩ := d.own7 kn.tidy.ok
    exact (Unreached_P x wr y1 y2 0 0 kn.check).mono fun e w' ⟨v, l, q1, q2, q3⟩ => by
      obtain ⟨a, c, rfl⟩ := sy_lenP q3.sy
      obtain rfl := (q2.1 rfl).one kn.tidy.unreached
      exact ⟨a, c, q1, q3.bel⟩
  have PT : Hid (∀ x X wr b, CW7 g w X wr → TrR g er 0 x → (b, x) ∈ X → Calls Tryz.prog 21 #[x.val] wr fun e w' => ∃ y B, e = .returned (.tuple #[y.val, .int .i64 0]) ∧ SameG x y ∧ DG B w' y ∧ Below wr.heap.size wr w') := fun x X wr b k t m => by
    obtain ⟨M, T, N, kn⟩ := (t.known HE.out).2
    obtain ⟨B, d⟩ := (k.own _ m).2
    obtain ⟨y1, y2, y3⟩ := d.own7 kn.tidy.ok
    exact (Trim_P x wr y1 y2 0 0 kn.check fun _ => OkC.prw kn.tidy.ok).mono fun e w' ⟨y, kk, q1, q2, q3, q4⟩ => by
      obtain ⟨rfl, s⟩ := kn.tidy.same (q2.1 rfl)
      exact ⟨y, _, q1, s, q3, q4⟩
  have PM : Hid (∀ x X wr b, CW7 g w X wr → TrR g er 0 x → (b, x) ∈ X → Calls Tryz.prog 26 #[x.val] wr fun e w' => e = .returned (.int .i64 0) ∧ Below wr.heap.size wr w') := fun x X wr b k t m => by
    obtain ⟨M, T, N, kn⟩ := (t.known HE.out).2
    obtain ⟨B, d⟩ := (k.own _ m).2
    obtain ⟨y1, y2, y3⟩ := d.own7 kn.tidy.ok
    exact (refmay_G x wr y1).mono fun e w' ⟨q1, q2⟩ => ⟨by rw [q1, kn.check], q2⟩
  have PC : Hid (∀ x X wr b, CW7 g w X wr → TrR g er 0 x → (b, x) ∈ X → Calls Tryz.prog 12 #[x.val] wr fun e w' => ∃ a c l, e = .returned (.tuple #[.slice a l.length c, .int .i64 0]) ∧ CiL x l ∧ Below wr.heap.size wr w') := fun x X wr b k t m => by
    obtain ⟨M, T, N, kn⟩ := (t.known HE.out).2
    obtain ⟨B, d⟩ := (k.own _ m).2
    obtain ⟨y1, y2, y3⟩ := d.own7 kn.tidy.ok
    exact (Circular_P x wr y1 y2 0 0 kn.check y3 (HT.out _ k.bel)).mono fun e w' ⟨v, l, q1, q2, q3⟩ => by
      obtain ⟨a, c, rfl⟩ := il_len q3.il
      exact ⟨a, c, l, q1, q2.1 rfl, q3.bel⟩
  have PW : Hid (∀ x X wr b, CW7 g w X wr → TrR g er 0 x → CiL x [] → (b, x) ∈ X → Calls Tryz.prog 14 #[x.val] wr fun e w' => ∃ s n, e = .returned (.tuple #[.int .i64 0, .agg #[.int .i64 s, .int .i64 n]]) ∧ Below wr.heap.size wr w') := fun x X wr b k t ci m => by
    obtain ⟨M, T, N, kn⟩ := (t.known HE.out).2
    obtain ⟨B, d⟩ := (k.own _ m).2
    obtain ⟨y1, y2, y3⟩ := d.own7 kn.tidy.ok
    exact (Well_P2 x wr y1 y2 0 0 kn.check y3 (HT.out _ k.bel)).mono fun e w' ⟨kk, s, q1, q2, q3⟩ => by
      obtain ⟨B, Y, O, r1, r2, r3, r4⟩ := q2.1 rfl
      obtain rfl := r1.one kn.tidy.barren
      obtain rfl := r2.one kn.tidy.unreached
      obtain rfl := r3.one ci
      obtain rfl : kk = 0 := congrArg Prod.fst r4
      exact ⟨s.1, s.2, q1, q3⟩
  have SG : Hid (∀ x y X wr b b', CW7 g w X wr → TrR g er 0 x → SameG x y → (b, x) ∈ X → (b', y) ∈ X → Calls Tryz.prog 25 #[x.val, y.val] wr fun e w' => e = .returned (.bool true) ∧ Below wr.heap.size wr w') := fun x y X wr b b' k t s m m' => by
    obtain ⟨M, T, N, kn⟩ := (t.known HE.out).2
    obtain ⟨B, d⟩ := (k.own _ m).2
    obtain ⟨B', d'⟩ := (k.own _ m').2
    exact samegram_g wr y x 140737488355328 (Nat.le_refl _) ((d'.at s kn.tidy.ok.okd7).1.mono (by omega)) (d.own7 kn.tidy.ok).1 s.sym7
  obtain ⟨x0, x1, x2, x3, x4⟩ := gb_cells A0.out.box
  have T0 : Hid True := trivial
  clear h hpc hE hcap hT
  go_enter Tryz.func5, Tryz.ntmps5
  go_wp2_with (first
    | (go_at_call 20; refine (alive_T _ (HT.out _ A0.out.bel)).mono ?_; rintro e w1 ⟨rfl, b1⟩; have A1 : Hid (CW7 g w [] w1) := A0.out.later b1; clear b1 x0 x1 x2 x3 x4; obtain ⟨x0, x1, x2, x3, x4⟩ := gb_cells A1.out.box)
    | (go_at_call 21; refine (TG.out _ _ A1.out).mono ?_))
  rintro e w2 ⟨x, k, B2, rfl, t2, d2, b2⟩
  have A2 : Hid (CW7 g w [(w2.heap.size, x)] (w2.alloc (gBox x))) := A1.out.add b2 d2
  have T2 : Hid (TrR g er k x) := t2
  clear b2 d2 t2 x0 x1 x2 x3 x4
  obtain ⟨x0, x1, x2, x3, x4⟩ := gb_cells (A2.out.own _ (List.mem_cons_self ..)).1
  by_cases hk : k = 0
  · subst hk
    obtain ⟨y0, y1, y2, y3, y4⟩ := gb_cells A2.out.box
    go_wp2_with (first
      | (go_at_call 17; refine (num07_P _ _).mono ?_; rintro e wn ⟨rfl, rfl⟩)
      | (go_at_call 8; refine (PB.out _ _ _ w2.heap.size A2.out T2.out (by simp)).mono ?_; rintro e w3 ⟨a3, c3, rfl, b3⟩; have A3 : Hid (CW7 g w [(w2.heap.size, x)] w3) := A2.out.later b3; clear b3 x0 x1 x2 x3 x4 y0 y1 y2 y3 y4; obtain ⟨x0, x1, x2, x3, x4⟩ := gb_cells (A3.out.own (w2.heap.size, x) (by simp)).1)
      | (go_at_call 10; refine (PU.out _ _ _ w2.heap.size A3.out T2.out (by simp)).mono ?_; rintro e w4 ⟨a4, c4, rfl, b4⟩; have A4 : Hid (CW7 g w [(w2.heap.size, x)] w4) := A3.out.later b4; clear b4 x0 x1 x2 x3 x4; obtain ⟨x0, x1, x2, x3, x4⟩ := gb_cells (A4.out.own (w2.heap.size, x) (by simp)).1)
      | (go_at_call 21; refine (PT.out _ _ _ w2.heap.size A4.out T2.out (by simp)).mono ?_; rintro e w5 ⟨x5, B5, rfl, s5, d5, b5⟩; have A5 : Hid (CW7 g w [(w5.heap.size, x5), (w2.heap.size, x)] (w5.alloc (gBox x5))) := A4.out.add b5 d5; have S5 : Hid (SameG x x5) := s5; clear s5 d5 b5 x0 x1 x2 x3 x4; obtain ⟨x0, x1, x2, x3, x4⟩ := gb_cells (A5.out.own (w2.heap.size, x) (by simp)).1)
      | (go_at_call 26; refine (PM.out _ _ _ w2.heap.size A5.out T2.out (by simp)).mono ?_; rintro e w6 ⟨rfl, b6⟩; have A6 : Hid (CW7 g w [(w5.heap.size, x5), (w2.heap.size, x)] w6) := A5.out.later b6; clear b6 x0 x1 x2 x3 x4; obtain ⟨x0, x1, x2, x3, x4⟩ := gb_cells (A6.out.own (w2.heap.size, x) (by simp)).1; obtain ⟨z0, z1, z2, z3, z4⟩ := gb_cells (A6.out.own (w5.heap.size, x5) (by simp)).1)
      | (go_at_call 25; refine (SG.out _ _ _ _ w2.heap.size w5.heap.size A6.out T2.out S5.out (by simp) (by simp)).mono ?_; rintro e w7 ⟨rfl, b7⟩; have A7 : Hid (CW7 g w [(w5.heap.size, x5), (w2.heap.size, x)] w7) := A6.out.later b7; clear b7 x0 x1 x2 x3 x4 z0 z1 z2 z3 z4; obtain ⟨x0, x1, x2, x3, x4⟩ := gb_cells A7.out.box)
      | (go_at_call 23; refine (WG.out _ _ A7.out).mono ?_; rintro e w8 ⟨x8, k8, B8, rfl, l8, d8, b8⟩; have A8 : Hid (CW7 g w [(w8.heap.size, x8), (w5.heap.size, x5), (w2.heap.size, x)] (w8.alloc (gBox x8))) := A7.out.add b8 d8; have L8 : Hid (WlR g er k8 x8) := l8; clear l8 d8 b8 x0 x1 x2 x3 x4; obtain ⟨x0, x1, x2, x3, x4⟩ := gb_cells (A8.out.own (w2.heap.size, x) (by simp)).1)
      | (go_at_call 12; refine (PC.out _ _ _ w2.heap.size A8.out T2.out (by simp)).mono ?_))
    rintro e w9 ⟨a9, c9, l9, rfl, ci9, b9⟩
    have A9 : Hid (CW7 g w [(w8.heap.size, x8), (w5.heap.size, x5), (w2.heap.size, x)] w9) := A8.out.later b9
    have C9 : Hid ((l9 ≠ [] → k8 = 73) ∧ (l9 = [] → k8 = 0 ∧ SameG x x8 ∧ CiL x8 [] ∧ TrR g er 0 x8)) := by
      obtain ⟨k0, z, q1, q2⟩ := L8.out
      obtain ⟨rfl, sz⟩ := T2.out.one7 q1
      rcases q2 with ⟨q, _⟩ | ⟨_, O, q3, q4⟩
      · exact absurd rfl q
      have e9 := (CiL.same sz q3).one ci9
      subst e9
      refine ⟨fun hl => ?_, fun hl => ?_⟩
      · rcases q4 with ⟨_, q5, _⟩ | ⟨q5, _⟩
        · exact q5
        · exact absurd q5 hl
      · rcases q4 with ⟨q5, _⟩ | ⟨_, q6, q7⟩
        · exact absurd hl q5
        · subst q7; subst hl; exact ⟨q6, sz, q3, q1⟩
    clear ci9 b9 x0 x1 x2 x3 x4 L8
    cases l9 with
    | cons o l9 =>
      obtain rfl := C9.out.1 (by simp)
      have hpos : (0 : Int) < ((o :: l9).length : Int) := by simp only [List.length_cons]; omega
      go_wp2_with (go_at_call 17; refine (num07_P _ _).mono ?_; rintro e wn ⟨rfl, rfl⟩)
      go_ret
      exact ⟨rfl, A9.out.bel⟩
    | nil =>
      obtain ⟨rfl, s9, i9, r9⟩ := C9.out.2 rfl
      have S9 : Hid (SameG x x8 ∧ CiL x8 [] ∧ TrR g er 0 x8) := ⟨s9, i9, r9⟩
      clear C9 s9 i9 r9
      obtain ⟨x0, x1, x2, x3, x4⟩ := gb_cells (A9.out.own (w8.heap.size, x8) (by simp)).1
      go_wp2_with (first
        | (go_at_call 17; refine (num07_P _ _).mono ?_; rintro e wn ⟨rfl, rfl⟩)
        | (go_at_call 14; refine (PW.out _ _ _ w8.heap.size A9.out S9.out.2.2 S9.out.2.1 (by simp)).mono ?_; rintro e w10 ⟨s10, n10, rfl, b10⟩; have A10 : Hid (CW7 g w [(w8.heap.size, x8), (w5.heap.size, x5), (w2.heap.size, x)] (w10.alloc (.cells #[.int .i64 s10, .int .i64 n10] 54))) := (A9.out.later b10).later (below_alloc _ _); clear b10 x0 x1 x2 x3 x4; obtain ⟨x0, x1, x2, x3, x4⟩ := gb_cells (A10.out.own (w8.heap.size, x8) (by simp)).1; obtain ⟨z0, z1, z2, z3, z4⟩ := gb_cells (A10.out.own (w2.heap.size, x) (by simp)).1)
        | (go_at_call 25; refine (SG.out _ _ _ _ w8.heap.size w2.heap.size A10.out S9.out.2.2 S9.out.1.sym7 (by simp) (by simp)).mono ?_; rintro e w11 ⟨rfl, b11⟩; have A11 : Hid (CW7 g w [(w8.heap.size, x8), (w5.heap.size, x5), (w2.heap.size, x)] w11) := A10.out.later b11; clear b11))
      go_ret
      exact ⟨rfl, A11.out.bel⟩
  · have t1 : (k != 0) = true := by simpa using hk
    obtain rfl := T2.out.nil7 hk
    have SN : Hid (∀ wr, Calls Tryz.prog 25 #[gNil7.val, gNil7.val] wr fun e w' => e = .returned (.bool true) ∧ Below wr.heap.size wr w') := fun wr => samegram_g wr gNil7 gNil7 140737488355328 (Nat.le_refl _) (nil7_at _) (nil7_at _) ⟨rfl, rfl, rfl, rfl, rfl⟩
    clear hk
    go_wp2_with (first
      | (go_at_call 17; refine (num07_P _ _).mono ?_; rintro e w3' ⟨rfl, rfl⟩)
      | (go_at_call 25; refine (SN.out _).mono ?_; rintro e w4 ⟨rfl, b4⟩; have A4 : Hid (CW7 g w _ w4) := A2.out.later b4; clear b4))
    go_ret
    exact ⟨rfl, A4.out.bel⟩
end Go.Proofs.YtlfiohdhcmmjbaaGreatDoor
