import Derived.Test.YtfckmbdcfeljiaaSOwn
import Derived.Handy
namespace Go.Proofs.Ytfckmbdcfeljiaa
set_option linter.unusedVariables false
open Go.RowKit Go.Maps

/-- The pages of a book at block g, one page of them at offset o: of the kind kd, its list V of the names ss. -/
structure PAt (w : World) (g b o : Nat) (kd fl : Int) (V : Value) (ss : List ByteArray) (D : DataW Unit) (f : ByteArray → Option (Int × Int)) (C : Array Value) : Prop where
  hg : w.heap[g]? = some (.cells C 68 (0, 0))
  c0 : C[0]? = some (.map (some b))
  ck : C[o]? = some (.int .i64 kd)
  cm : C[o + 1]? = some (.int .i64 64)
  cf : C[o + 2]? = some (.int .i64 fl)
  cn : C[o + 3]? = some V
  own : w.ownsMap Try.prog 9 symElem b (Maps.size D) D
  look : MInv D f
  names : GS w V ss
theorem PAt.cell {w : World} {g b o : Nat} {kd fl : Int} {V : Value} {ss : List ByteArray} {D : DataW Unit} {f : ByteArray → Option (Int × Int)} {C : Array Value} (h : PAt w g b o kd fl V ss D f C) :
    w.cell? ⟨g, 0, none⟩ = some (.map (some b)) ∧ w.cell? ⟨g, o, none⟩ = some (.int .i64 kd) ∧ w.cell? ⟨g, o + 1, none⟩ = some (.int .i64 64) ∧ w.cell? ⟨g, o + 2, none⟩ = some (.int .i64 fl) ∧ w.cell? ⟨g, o + 3, none⟩ = some V ∧ w.frozen? ⟨g, o + 3, none⟩ = false := by
  refine ⟨?_, ?_, ?_, ?_, ?_, ?_⟩
  · simpa [World.cell?, h.hg] using h.c0
  · simpa [World.cell?, h.hg] using h.ck
  · simpa [World.cell?, h.hg] using h.cm
  · simpa [World.cell?, h.hg] using h.cf
  · simpa [World.cell?, h.hg] using h.cn
  · simp [World.frozen?, h.hg]

set_option maxHeartbeats 1000000 in
theorem number_known {w : World} {g b o : Nat} {kd fl : Int} {V : Value} {ss : List ByteArray} {D : DataW Unit} {f : ByteArray → Option (Int × Int)} {C : Array Value} (h : PAt w g b o kd fl V ss D f C) (s : ByteArray) (hs : s.size ≤ maxLen) (i : Int) (hf : f s = some (kd, i)) :
    Calls Try.prog 46 #[.pointer (some ⟨g, 0, none⟩), .pointer (some ⟨g, o, none⟩), .string s] w fun e w' => e = .returned (.tuple #[.int .i64 i, .int .i64 0]) ∧ Below w.heap.size w w' := by
  obtain ⟨c0, ck, cm, cf, cn, _⟩ := h.cell
  have hgl : g < w.heap.size := lt_of_block h.hg
  have hkk : (kd == kd) = true := by simp
  go_enter Try.func46, Try.ntmps46
  go_wp2_with (at_lookup; refine wpList_look_some _ rfl _ _ rfl b _ D f rfl h.own h.look s rfl hs kd i hf ?_)
  go_quiet (fail)
  go_wp2
  go_returns
  exact ⟨rfl, by repeat (first | exact below_alloc _ _ | apply below_drewN | apply Below.drew)⟩

set_option maxHeartbeats 1000000 in
theorem number_twice {w : World} {g b o : Nat} {kd fl : Int} {V : Value} {ss : List ByteArray} {D : DataW Unit} {f : ByteArray → Option (Int × Int)} {C : Array Value} (h : PAt w g b o kd fl V ss D f C) (s : ByteArray) (hs : s.size ≤ maxLen) (k i : Int) (hf : f s = some (k, i)) (hk : k ≠ kd) :
    Calls Try.prog 46 #[.pointer (some ⟨g, 0, none⟩), .pointer (some ⟨g, o, none⟩), .string s] w fun e w' => e = .returned (.tuple #[.int .i64 0, .int .i64 6]) ∧ Below w.heap.size w w' := by
  obtain ⟨c0, ck, cm, cf, cn, _⟩ := h.cell
  have hgl : g < w.heap.size := lt_of_block h.hg
  have hkk : (k == kd) = false := by simp [hk]
  go_enter Try.func46, Try.ntmps46
  go_wp2_with (at_lookup; refine wpList_look_some _ rfl _ _ rfl b _ D f rfl h.own h.look s rfl hs k i hf ?_)
  go_quiet (fail)
  go_wp2
  go_returns
  exact ⟨rfl, by repeat (first | exact below_alloc _ _ | apply below_drewN | apply Below.drew)⟩

set_option maxHeartbeats 1000000 in
theorem number_full {w : World} {g b o : Nat} {kd fl : Int} {V : Value} {ss : List ByteArray} {D : DataW Unit} {f : ByteArray → Option (Int × Int)} {C : Array Value} (h : PAt w g b o kd fl V ss D f C) (s : ByteArray) (hs : s.size ≤ maxLen) (hf : f s = none) (hl : ss.length = 64) :
    Calls Try.prog 46 #[.pointer (some ⟨g, 0, none⟩), .pointer (some ⟨g, o, none⟩), .string s] w fun e w' => e = .returned (.tuple #[.int .i64 0, .int .i64 fl]) ∧ Below w.heap.size w w' := by
  obtain ⟨c0, ck, cm, cf, cn, _⟩ := h.cell
  have hgl : g < w.heap.size := lt_of_block h.hg
  obtain ⟨a, c, rfl⟩ := gs_len h.names
  rw [hl] at cn
  go_enter Try.func46, Try.ntmps46
  go_wp2_with (at_lookup; refine wpList_look_none _ rfl _ _ rfl b _ D f rfl h.own h.look s rfl hs hf ?_)
  go_quiet (fail)
  go_wp2
  go_quiet (fail)
  go_wp2
  go_quiet (fail)
  go_wp2
  go_returns
  exact ⟨rfl, by repeat (first | exact below_alloc _ _ | apply below_drewN | apply Below.drew)⟩

/-- What a new name leaves. -/
structure PNew (w w' : World) (g b o : Nat) (V V' : Value) (ss : List ByteArray) (D : DataW Unit) (f : ByteArray → Option (Int × Int)) (C : Array Value) (s : ByteArray) (kd : Int) : Prop where
  os : w'.os = w.os
  tape : w'.tape = w.tape
  output : w'.output = w.output
  size : w.heap.size ≤ w'.heap.size
  block : ∀ k, k < w.heap.size → k ≠ g → k ≠ b → some k ≠ V.ownBlock → w'.heap[k]? = w.heap[k]?
  hg : w'.heap[g]? = some (.cells (C.setIfInBounds (o + 3) V') 68 (0, 0))
  own : w'.ownsMap Try.prog 9 symElem b (Maps.size D + 1) (D.put (keyL s) (symD kd ss.length))
  names : GS w' V' (ss ++ [s])
  moved : V'.ownBlock = V.ownBlock ∨ ∃ k, V'.ownBlock = some k ∧ w.heap.size ≤ k
set_option maxRecDepth 100000 in
set_option maxHeartbeats 2000000 in
theorem number_new {w : World} {g b o : Nat} {kd fl : Int} {V : Value} {ss : List ByteArray} {D : DataW Unit} {f : ByteArray → Option (Int × Int)} {C : Array Value} (h : PAt w g b o kd fl V ss D f C) (s : ByteArray) (hs : s.size ≤ 140737488355328) (hf : f s = none) (hl : ss.length < 64) (hD : Maps.size D ≤ 1000) :
    Calls Try.prog 46 #[.pointer (some ⟨g, 0, none⟩), .pointer (some ⟨g, o, none⟩), .string s] w fun e w' => e = .returned (.tuple #[.int .i64 ss.length, .int .i64 0]) ∧ ∃ V', PNew w w' g b o V V' ss D f C s kd := by
  obtain ⟨c0, ck, cm, cf, cn, hfr⟩ := h.cell
  have hgl : g < w.heap.size := lt_of_block h.hg
  have hsm : s.size ≤ maxLen := by unfold maxLen; omega
  obtain ⟨a, c, rfl⟩ := gs_len h.names
  have hll : ((ss.length : Int) == 64) = false := by simp; omega
  go_enter Try.func46, Try.ntmps46
  go_wp2_with (at_lookup; refine wpList_look_none _ rfl _ _ rfl b _ D f rfl h.own h.look s rfl hsm hf ?_)
  go_quiet (fail)
  go_wp2
  go_quiet (fail)
  go_wp2_with (go_at_call 61; refine (clone_any s _ hs).mono ?_; rintro e w1 ⟨rfl, hb1⟩)
  have hb2 : Below (w.heap.size + 1) (w.alloc (.cells #[.int .i64 0, .int .i64 0] 70)) w1 := by
    have h2 := below_ofDrewN hb1
    rw [(drewN_heap _ _).1] at h2
    simpa using h2
  clear hb1
  have hb1 := hb2
  clear hb2
  have hB1 : Below w.heap.size w w1 := (below_alloc w _).trans (hb1.mono (by omega))
  have d0 : w1.cell? ⟨w.heap.size, 0, none⟩ = some (.int .i64 0) := by
    rw [hb1.cell (p := ⟨w.heap.size, 0, none⟩) (by simp)]; simp
  have d1 : w1.cell? ⟨w.heap.size, 1, none⟩ = some (.int .i64 0) := by
    rw [hb1.cell (p := ⟨w.heap.size, 1, none⟩) (by simp)]; simp
  have d2 : w1.heap[w.heap.size]? = some (.cells #[.int .i64 0, .int .i64 0] 70 (0, 0)) := by
    rw [hb1.block w.heap.size (by simp)]; exact heap_alloc_new w _
  have e0 : w1.frozen? ⟨w.heap.size, 0, none⟩ = false := by simp [World.frozen?, d2]
  have e1 : w1.frozen? ⟨w.heap.size, 1, none⟩ = false := by simp [World.frozen?, d2]
  have ck1 := (hB1.cell (p := ⟨g, o, none⟩) hgl).trans ck
  have cn1 := (hB1.cell (p := ⟨g, o + 3, none⟩) hgl).trans cn
  have hsz1 := hB1.size
  clear ck cn cm cf c0
  go_region
  go_wp2
  refine wp_world (fun w2 => Below w.heap.size w w2 ∧ w2.heap[w.heap.size]? = some (.cells #[.int .i64 kd, .int .i64 ss.length] 70 (0, 0))) ⟨((hB1.setCell (Nat.le_refl _) _).setCell (Nat.le_refl _) _).drew, ?_⟩ ?_
  · have := heap_set (heap_set d2 0 (.int .i64 kd)) 1 (.int .i64 ss.length)
    exact this
  clear d0 d1 d2 e0 e1 ck1 cn1 hsz1 hb1 hB1
  rintro w2 ⟨hB2, d2⟩
  have s0 : w2.cell? ⟨w.heap.size, 0, none⟩ = some (.int .i64 kd) := by rw [cellq_any d2]; rfl
  have s1 : w2.cell? ⟨w.heap.size, 1, none⟩ = some (.int .i64 ss.length) := by rw [cellq_any d2]; rfl
  have hq2 := lt_of_block d2
  have c02 := (hB2.cell (p := ⟨g, 0, none⟩) hgl).trans h.cell.1
  have hown2 : w2.ownsMap Try.prog 9 symElem b (Maps.size D) D := by
    obtain ⟨es, cl, hb, F, hs, hD⟩ := h.own
    exact ⟨es, cl, (hB2.block b (lt_of_block hb)).trans hb, F, hs, hD⟩
  obtain ⟨w3, hrun, hown3, hturn⟩ := World.ownsMap.store hown2.drew law Try.underlying63 (by unfold maxLen; omega) (keyOf_name hsm) (symElem_mk kd ss.length)
  go_region
  have hbm : ∃ es cl, w2.heap[b]? = some (.map es cl) := by obtain ⟨es, cl, hb, _⟩ := hown2; exact ⟨es, cl, hb⟩
  obtain ⟨es, cl, hbm⟩ := hbm
  have hg2 := (hB2.block g hgl).trans h.hg
  have hn2 : GS w2 (.slice a ss.length c) ss := h.names.later hB2
  have hgb : g ≠ b := by intro e; rw [e, hbm] at hg2; simp at hg2
  have hqb : w.heap.size ≠ b := by intro e; rw [e, hbm] at d2; simp at d2
  have hgr := hturn.grown
  have hg3 : w3.heap[g]? = some (.cells C 68 (0, 0)) := (hgr.block g (lt_of_block hg2) (by simpa using hgb)).trans hg2
  have hq3 : w3.heap[w.heap.size]? = some (.cells #[.int .i64 kd, .int .i64 ss.length] 70 (0, 0)) := (hgr.block w.heap.size hq2 (by simpa using hqb)).trans d2
  have hn3 : GS w3 (.slice a ss.length c) ss := hn2.kept fun k hk => hgr.block k (hn2.lt k hk) (fun e => hn2.neMap hbm (by rw [hk, e]))
  have hsz3 : w2.heap.size ≤ w3.heap.size := hgr.size
  have hgl3 := lt_of_block hg3
  have cn3 : w3.cell? ⟨g, o + 3, none⟩ = some (.slice a ss.length c) := by rw [cellq_any hg3]; exact h.cn
  have hnA : GS (w3.alloc (.cells #[.string s] 9)) (.slice a ss.length c) ss := hn3.later (below_alloc w3 _)
  have hy : (w3.alloc (.cells #[.string s] 9)).cell? ⟨w3.heap.size, 0, none⟩ = some (.string s) := by simp
  have hle : ss.length ≤ 1000000 := by omega
  have AF : Hid (∀ w4, (w3.alloc (.cells #[.string s] 9)).grownBy w4 (Value.slice a ss.length c).ownBlock → w4.heap[g]? = some (.cells C 68 (0, 0)) ∧ w4.heap[w.heap.size]? = some (.cells #[.int .i64 kd, .int .i64 ss.length] 70 (0, 0)) ∧ w4.cell? ⟨g, o + 3, none⟩ = some (.slice a ss.length c) ∧ w4.frozen? ⟨g, o + 3, none⟩ = false ∧ w4.cell? ⟨w.heap.size, 1, none⟩ = some (.int .i64 ss.length) ∧ w.heap.size ≠ g) := by
    intro w4 hg4
    have x1 : w4.heap[g]? = some (.cells C 68 (0, 0)) := (hg4.block g (by simp; omega) (hn3.ne hg3 (by decide))).trans ((Below.heap_alloc _ _ g hgl3).trans hg3)
    have x2 : w4.heap[w.heap.size]? = some (.cells #[.int .i64 kd, .int .i64 ss.length] 70 (0, 0)) := (hg4.block w.heap.size (by have := lt_of_block hq3; simp; omega) (hn3.ne hq3 (by decide))).trans ((Below.heap_alloc _ _ _ (lt_of_block hq3)).trans hq3)
    exact ⟨x1, x2, by rw [cellq_any x1]; exact h.cn, by simp [World.frozen?, x1], by rw [cellq_any x2]; rfl, by omega⟩
  clear hrun hown2 s0 s1 c02
  have hgr2 := hgr
  clear hgr
  go_wp2_with (at_builtin; refine wpList_gs_append rfl _ _ rfl (.slice a ss.length c) ss rfl hnA _ _ s rfl hy hle ?_; intro a4 n4 c4 w4 ho4 hg4; obtain ⟨x1, x2, x3, x4, x5, x6⟩ := AF.out w4 hg4.grown)
  go_returns
  refine ⟨rfl, .slice a4 n4 c4, ?_⟩
  have hb4 : w4.heap[b]? = w3.heap[b]? := by
    obtain ⟨es3, cl3, hb3, _⟩ := hown3
    have hl3 := lt_of_block hb3
    exact (hg4.grown.block b (by simp; omega) (hn3.neMap hb3)).trans (Below.heap_alloc _ _ b hl3)
  refine ⟨hg4.grown.os.trans (hgr2.os.trans hB2.os), hg4.grown.tape.trans (hgr2.tape.trans hB2.tape), hg4.grown.output.trans (hgr2.output.trans hB2.output), ?_, fun k hk hkg hkb hkv => ?_, ?_, ?_, ?_, ?_⟩
  · have := hg4.grown.size
    have h0 : (w4.setCell ⟨g, o + 3, none⟩ (.slice a4 n4 c4)).heap.size = w4.heap.size := by simp [World.setCell]
    rw [h0]
    simp at this
    omega
  · rw [Below.heap_setCell _ _ _ _ hkg]
    have k2 : k < w2.heap.size := by omega
    have k3 : k < w3.heap.size := by omega
    rw [hg4.grown.block k (by simp; omega) hkv, Below.heap_alloc _ _ k k3]
    exact (hgr2.block k k2 (by simpa using hkb)).trans (hB2.block k hk)
  · exact heap_set x1 _ _
  · obtain ⟨es3, cl3, hb3, F, hs3, hD3⟩ := hown3
    exact ⟨es3, cl3, by rw [Below.heap_setCell _ _ _ _ (fun e => hgb e.symm), hb4, hb3], F, hs3, hD3⟩
  · exact ho4.kept fun k hk => Below.heap_setCell _ _ _ _ fun e => ho4.ne x1 (by decide) (by rw [hk, e])
  · rcases hg4.moved with e | ⟨k, e, hk⟩
    · exact .inl e
    · exact .inr ⟨k, e, by simp at hk; omega⟩
end Go.Proofs.Ytfckmbdcfeljiaa
