import Derived.Test.YtcjejnenklppiaaDoorBArg
import Derived.Test.YtcjejnenklppiaaDoorRegXToBS3
namespace Go.Proofs.YtcjejnenklppiaaDoor
set_option linter.unusedVariables false
open Go.ChangeShapes Go.WideShapes Go.ChangeAt Go.RowKit

theorem bcellsStep : Tryd.prog.cellsOf 35 = 3 := by kernel_rfl
/-- Steps in memory. -/
def StpB (w : World) (ao : Option Addr) (l : List (Int × Int × Int)) : Prop := l ≠ [] → ∃ b off, ao = some ⟨b, off, none⟩ ∧ b < w.heap.size ∧ ∀ i, i < l.length → w.cell? ⟨b, off + i * 3, none⟩ = some (.int .i64 (l.getD i (0, 0, 0)).1) ∧ w.cell? ⟨b, off + i * 3 + 1, none⟩ = some (.int .i64 (l.getD i (0, 0, 0)).2.1) ∧ w.cell? ⟨b, off + i * 3 + 2, none⟩ = some (.int .i64 (l.getD i (0, 0, 0)).2.2)
def okS (q : Int × Int × Int) : Prop := okI q.1 ∧ okI q.2.1 ∧ okI q.2.2
section
variable {H : Type} {enc : TypeId × Value → H} {W : World}
set_option maxRecDepth 100000 in
theorem ostepc {fuel : Nat} {cs : List Value} {x : DataW H × List MemPlace} (h : DataW.trod enc Tryd.prog W 0 (fun _ => true) true fuel 35 cs = some x) : ∃ q : Int × Int × Int, cs = [.int .i64 q.1, .int .i64 q.2.1, .int .i64 q.2.2] ∧ okS q := by
  obtain ⟨xs, n, _, hx, hl, hlen, hf⟩ := DataW.trod_struct Tryd.underlying35 h
  rw [bcellsStep] at hl
  match xs, hlen, cs, hl with
  | [y0, y1, y2], _, [e0, e1, e2], _ =>
    have g0 := hf 0 _ rfl
    have g1 := hf 1 _ rfl
    have g2 := hf 2 _ rfl
    simp [bcellsInt] at g0 g1 g2
    obtain ⟨a, ha, _, wa⟩ := DataW.trod_int Tryd.underlying3 g0
    obtain ⟨b, hb, _, wb⟩ := DataW.trod_int Tryd.underlying3 g1
    obtain ⟨c, hc, _, wc⟩ := DataW.trod_int Tryd.underlying3 g2
    simp only [List.cons.injEq, and_true] at ha hb hc
    subst ha; subst hb; subst hc
    exact ⟨(a, b, c), rfl, bounds_i64 wa, bounds_i64 wb, bounds_i64 wc⟩
set_option maxRecDepth 100000 in
theorem osteps {fuel : Nat} {cs : List Value} {x : DataW H × List MemPlace} (hf : DataW.trod enc Tryd.prog W 0 (fun _ => true) true fuel 22 cs = some x) :
    ∃ (a : Option Addr) (cap : Nat) (l : List (Int × Int × Int)), cs = [.slice a l.length cap] ∧ StpB W a l ∧ l.length ≤ cap ∧ LD l.length x.1 ∧ ∀ q ∈ l, okS q := by
  rcases Go.Deep.open_slice Tryd.underlying22 hf with ⟨hcs, hx⟩ | ⟨a, len, cap, m, n, D, Pl, hcs, _, hl, _, hm, hx, hel⟩
  · exact ⟨none, 0, [], hcs, fun h => absurd rfl h, Nat.le_refl _, .inl ⟨by rw [hx], rfl⟩, fun q hq => (by cases hq)⟩
  · have hm' : m = cap := by simpa using hm
    have each : ∀ i, i < m → ∃ q : Int × Int × Int, W.cell? (a.add (i * 3)) = some (.int .i64 q.1) ∧ W.cell? (a.add (i * 3 + 1)) = some (.int .i64 q.2.1) ∧ W.cell? (a.add (i * 3 + 2)) = some (.int .i64 q.2.2) ∧ okS q := by
      intro i hi
      obtain ⟨cs', h1, h2⟩ := hel i hi
      rw [bcellsStep] at h1
      obtain ⟨hl1, _, hcell⟩ := World.cells?_some h1
      obtain ⟨q, hs, hq⟩ := ostepc h2
      subst hs
      have e0 := hcell 0 (by omega)
      have e1 := hcell 1 (by omega)
      have e2 := hcell 2 (by omega)
      rw [Go.Deep.add_add] at e0 e1 e2
      exact ⟨q, by simpa using e0, by simpa using e1, by simpa using e2, hq⟩
    obtain ⟨f, hfs⟩ : ∃ f : Nat → Int × Int × Int, ∀ i, i < m → W.cell? (a.add (i * 3)) = some (.int .i64 (f i).1) ∧ W.cell? (a.add (i * 3 + 1)) = some (.int .i64 (f i).2.1) ∧ W.cell? (a.add (i * 3 + 2)) = some (.int .i64 (f i).2.2) ∧ okS (f i) :=
      ⟨fun i => if h : i < m then Classical.choose (each i h) else (0, 0, 0), fun i h => by simp only [dif_pos h]; exact Classical.choose_spec (each i h)⟩
    have hpl : ((List.range len).map f).length = len := by simp
    have hgd : ∀ i, i < len → ((List.range len).map f).getD i (0, 0, 0) = f i := fun i hi => by simp [List.getD, hi]
    refine ⟨some a, cap, (List.range len).map f, by rw [hpl]; exact hcs, fun hne => ?_, by rw [hpl]; exact hl, .inr ⟨_, _, by rw [hx], by simp⟩, fun q hq => ?_⟩
    · obtain ⟨b, off, spot⟩ := a
      have h0 : 0 < len := by
        rcases Nat.eq_zero_or_pos len with e | e
        · subst e; simp at hne
        · exact e
      have hc0 := (hfs 0 (by omega)).1
      have hspot : spot = none := by simpa [Addr.add] using World.cell?_spot hc0
      subst hspot
      refine ⟨b, off, rfl, ?_, fun i hi => ?_⟩
      · have := World.block_lt_of_cell? W _ hc0
        rw [add_none] at this
        exact this
      · rw [hpl] at hi
        rw [hgd i hi]
        obtain ⟨e0, e1, e2, _⟩ := hfs i (by omega)
        rw [add_none] at e0 e1 e2
        exact ⟨e0, by rw [Nat.add_assoc]; exact e1, by rw [Nat.add_assoc]; exact e2⟩
    · obtain ⟨i, hi, rfl⟩ := List.mem_map.1 hq
      have := List.mem_range.1 hi
      exact (hfs i (by omega)).2.2.2
end
set_option maxRecDepth 100000 in
theorem open_stepsB {H : Type} {enc : TypeId × Value → H} {W : World} {base : Nat} {v : Value} {d : DataW H} {p : List MemPlace} (hv : Value.okWide Tryd.prog W .any base 22 v)
    (h : DataW.Trod enc Tryd.prog W 0 (fun _ => true) true 22 v d p) :
    ∃ (a : Option Addr) (cap : Nat) (l : List (Int × Int × Int)), v = .slice a l.length cap ∧ StpB W a l ∧ l.length ≤ cap ∧ LD l.length d ∧ ∀ q ∈ l, okS q := by
  obtain ⟨a0, len0, cap0, rfl⟩ := okWide_slice Tryd.underlying22 hv
  obtain ⟨fuel, hf⟩ := h
  obtain ⟨a, cap, l, hcs, h1, h2, h3, h4⟩ := osteps hf
  simp only [Value.cells, List.cons.injEq, and_true] at hcs
  exact ⟨a, cap, l, hcs, h1, h2, h3, h4⟩
set_option maxRecDepth 100000 in
theorem steps_reachB {H : Type} {ts : List TypeId} {ds : List (DataW H)} (hs : (DataW.weightsEach Tryd.prog ts ds).all (· ≤ reachBytes) = true) {j : Nat} {d : DataW H} {n : Nat} (ht : ts[j]? = some 22) (hd : ds[j]? = some d) (h : LD n d) : n ≤ 140737488355328 := by
  refine ld_weight Tryd.underlying22 (by decide +kernel) h fun k hk => ?_
  have := List.all_eq_true.1 hs k (DataW.weights_mem_each ht hd k hk)
  simpa using this
end Go.Proofs.YtcjejnenklppiaaDoor
namespace Go.Proofs.YtcjejnenklppiaaDoor
set_option linter.unusedVariables false
open Go.RowKit Go.Shelf

theorem StpB.later {w w' : World} {ao : Option Addr} {l : List (Int × Int × Int)} (h : StpB w ao l) (hb : Below w.heap.size w w') : StpB w' ao l := by
  intro hne
  obtain ⟨b, off, rfl, hl, hc⟩ := h hne
  have e : ∀ j, w'.cell? ⟨b, j, none⟩ = w.cell? ⟨b, j, none⟩ := fun j => hb.cell (p := ⟨b, j, none⟩) hl
  refine ⟨b, off, rfl, Nat.lt_of_lt_of_le hl hb.size, fun i hi => ?_⟩
  rw [e, e, e]
  exact hc i hi
/-- Blocks of two types are two. -/
theorem ne_ty {w : World} {a b : Nat} {ca cb : Array Value} {ta tb : TypeId} (h1 : w.heap[a]? = some (.cells ca ta)) (h2 : w.heap[b]? = some (.cells cb tb)) (ht : (ta == tb) = false) : a ≠ b := by
  intro e
  subst e
  rw [h1] at h2
  simp only [Option.some.injEq, Obj.cells.injEq] at h2
  rw [h2.2.1] at ht
  simp at ht
def upB (f : Nat → Nat) (c x : Nat) : Nat → Nat := fun j => if j = c then x else f j
theorem upB_at (f : Nat → Nat) (c x : Nat) : upB f c x c = x := if_pos rfl
theorem upB_ne {f : Nat → Nat} {c x j : Nat} (h : j ≠ c) : upB f c x j = f j := if_neg h
theorem upB_same (f : Nat → Nat) (c : Nat) : upB f c (f c) = f := by
  funext j
  unfold upB
  by_cases e : j = c
  · rw [if_pos e, e]
  · rw [if_neg e]
/-- Two sets, and two by the page. -/
structure TwB (w0 : World) (ks km : Nat) (K KB KH M S P : Nat → Nat) (wr : World) : Prop where
  sc : wr.heap[ks]? = some (.cells #[.pointer (some ⟨K 0 + 1, 0, none⟩), .pointer (some ⟨K 1 + 1, 0, none⟩)] 23)
  mc : wr.heap[km]? = some (.cells #[.pointer (some ⟨KH 0, 0, none⟩), .pointer (some ⟨KH 1, 0, none⟩)] 29)
  sb : ∀ c, c < 2 → SB wr (K c) (M c) (S c)
  mb : ∀ c, c < 2 → MB wr (KB c) (KH c) (M c) (P c)
  bel : Below w0.heap.size w0 wr
  ks0 : w0.heap.size ≤ ks
  k0 : ∀ c, c < 2 → w0.heap.size ≤ K c
  b0 : ∀ c, c < 2 → w0.heap.size ≤ KB c
  kne : ∀ c d, c < 2 → d < 2 → c ≠ d → K c ≠ K d
  bne : ∀ c d, c < 2 → d < 2 → c ≠ d → KB c ≠ KB d
section
variable {w0 wr w1 : World} {ks km : Nat} {K KB KH M S P : Nat → Nat}
theorem TwB.later (h : TwB w0 ks km K KB KH M S P wr) (hb : Below wr.heap.size wr w1) : TwB w0 ks km K KB KH M S P w1 :=
  ⟨(hb.block _ (lt_of_block h.sc)).trans h.sc, (hb.block _ (lt_of_block h.mc)).trans h.mc, fun c hc => (h.sb c hc).later hb, fun c hc => (h.mb c hc).later hb, h.bel.trans (hb.mono h.bel.size), h.ks0, h.k0, h.b0, h.kne, h.bne⟩
theorem TwB.set (h : TwB w0 ks km K KB KH M S P wr) {c x : Nat} (hc : c < 2) (h1 : SB w1 (K c) (M c) x) (hf : FrB (· = K c) wr w1) : TwB w0 ks km K KB KH M (upB S c x) P w1 := by
  have hk := (h.sb c hc).wd
  have n1 : ks ≠ K c := ne_ty h.sc hk (by decide)
  have n2 : km ≠ K c := ne_ty h.mc hk (by decide)
  refine ⟨(hf.block _ (lt_of_block h.sc) n1).trans h.sc, (hf.block _ (lt_of_block h.mc) n2).trans h.mc, fun d hd => ?_, fun d hd => ?_, FrB.below h.bel hf h.bel.size (fun j e => by rw [e]; exact h.k0 c hc), h.ks0, h.k0, h.b0, h.kne, h.bne⟩
  · by_cases e : d = c
    · subst e; rw [upB_at]; exact h1
    · rw [upB_ne e]
      exact (h.sb d hd).frB hf (h.kne d c hd hc e) (ne_ty (h.sb d hd).hd hk (by decide))
  · exact (h.mb d hd).frB hf (ne_ty (h.mb d hd).bl hk (by decide)) (ne_ty (h.mb d hd).hd hk (by decide))
theorem TwB.page (h : TwB w0 ks km K KB KH M S P wr) {c x : Nat} (hc : c < 2) (h1 : MB w1 (KB c) (KH c) (M c) x) (hf : FrB (· = KB c) wr w1) : TwB w0 ks km K KB KH M S (upB P c x) w1 := by
  have hk := (h.mb c hc).bl
  have n1 : ks ≠ KB c := ne_ty h.sc hk (by decide)
  have n2 : km ≠ KB c := ne_ty h.mc hk (by decide)
  refine ⟨(hf.block _ (lt_of_block h.sc) n1).trans h.sc, (hf.block _ (lt_of_block h.mc) n2).trans h.mc, fun d hd => ?_, fun d hd => ?_, FrB.below h.bel hf h.bel.size (fun j e => by rw [e]; exact h.b0 c hc), h.ks0, h.k0, h.b0, h.kne, h.bne⟩
  · exact (h.sb d hd).frB hf (ne_ty (h.sb d hd).wd hk (by decide)) (ne_ty (h.sb d hd).hd hk (by decide))
  · by_cases e : d = c
    · subst e; rw [upB_at]; exact h1
    · rw [upB_ne e]
      exact (h.mb d hd).frB hf (h.bne d c hd hc e) (ne_ty (h.mb d hd).hd hk (by decide))
/-- Another set in its place. -/
theorem TwB.swap (h : TwB w0 ks km K KB KH M S P wr) {c k x : Nat} (hc : c < 2) (h1 : SB wr k (M c) x) (hk0 : w0.heap.size ≤ k) (hkn : ∀ d, d < 2 → k ≠ K d) : TwB w0 ks km (upB K c k) KB KH M (upB S c x) P (wr.setCell ⟨ks, c, none⟩ (.pointer (some ⟨k + 1, 0, none⟩))) := by
  have hf := frB_setCell wr ks c (.pointer (some ⟨k + 1, 0, none⟩))
  refine ⟨?_, ?_, fun d hd => ?_, fun d hd => ?_, FrB.below h.bel hf h.bel.size (fun j e => by rw [e]; exact h.ks0), h.ks0, fun d hd => ?_, h.b0, fun d e hd he hde => ?_, h.bne⟩
  · rw [heap_set h.sc c (.pointer (some ⟨k + 1, 0, none⟩))]
    have : c = 0 ∨ c = 1 := by omega
    rcases this with rfl | rfl
    · rw [upB_at, upB_ne (show (1 : Nat) ≠ 0 by decide)]; rfl
    · rw [upB_at, upB_ne (show (0 : Nat) ≠ 1 by decide)]; rfl
  · exact (hf.block _ (lt_of_block h.mc) (ne_ty h.mc h.sc (by decide))).trans h.mc
  · by_cases e : d = c
    · subst e
      rw [upB_at, upB_at]
      exact h1.frB hf (ne_ty h1.wd h.sc (by decide)) (ne_ty h1.hd h.sc (by decide))
    · rw [upB_ne e, upB_ne e]
      exact (h.sb d hd).frB hf (ne_ty (h.sb d hd).wd h.sc (by decide)) (ne_ty (h.sb d hd).hd h.sc (by decide))
  · exact (h.mb d hd).frB hf (ne_ty (h.mb d hd).bl h.sc (by decide)) (ne_ty (h.mb d hd).hd h.sc (by decide))
  · by_cases e : d = c
    · subst e; rw [upB_at]; exact hk0
    · rw [upB_ne e]; exact h.k0 d hd
  · by_cases q : d = c
    · subst q
      rw [upB_at, upB_ne (fun q => hde q.symm)]
      exact hkn e he
    · rw [upB_ne q]
      by_cases q2 : e = c
      · subst q2; rw [upB_at]; exact fun g => hkn d hd g.symm
      · rw [upB_ne q2]; exact h.kne d e hd he hde
theorem TwB.cell (h : TwB w0 ks km K KB KH M S P wr) {c : Nat} (hc : c < 2) : wr.cell? ⟨ks, c, none⟩ = some (.pointer (some ⟨K c + 1, 0, none⟩)) ∧ wr.cell? ⟨km, c, none⟩ = some (.pointer (some ⟨KH c, 0, none⟩)) := by
  rw [cellq_any h.sc, cellq_any h.mc]
  have : c = 0 ∨ c = 1 := by omega
  rcases this with rfl | rfl <;> exact ⟨rfl, rfl⟩
theorem TwB.free (h : TwB w0 ks km K KB KH M S P wr) (c : Nat) : wr.frozen? ⟨ks, c, none⟩ = false := by
  simp [World.frozen?, h.sc]
end
theorem bmBool : ∃ i, Tryd.prog.info? 4 = some i ∧ i.zero = some (.bool false) ∧ i.size = 1 ∧ i.bytes = 1 := by
  have h : (Tryd.prog.info? 4).map (fun i => (i.zero, i.size, i.bytes)) = some (some (.bool false), 1, 1) := by kernel_rfl
  cases e : Tryd.prog.info? 4 with
  | none => rw [e] at h; cases h
  | some i => rw [e] at h; simp at h; exact ⟨i, rfl, h⟩
theorem make_boolB (n : Nat) (hn : n ≤ 1048576) (w : World) : (Instr.makeSlice 30 (.int .i64 (n : Int)) (.int .i64 (n : Int))).run Tryd.prog w = .ok (.slice (some ⟨w.heap.size, 0, none⟩) n n) (w.alloc (.cells (madeCells #[.bool false] n) 4)) := by
  obtain ⟨i0, hi, hz0, hz1, hz2⟩ := bmBool
  have := run_makeSlice w 30 4 i0 (.bool false) Tryd.underlying30 hi hz0 .i64 .i64 (n : Int) (n : Int) (by omega) (by omega) (by rw [hz1]; simp; omega) (by rw [hz2]; omega) (by omega)
  rw [hz1] at this
  simpa [Value.cells] using this
theorem mCells_zero (m : Nat) : mCells 0 m = List.replicate m (.bool false) := by
  unfold mCells
  apply List.ext_getElem?
  intro i
  rw [List.getElem?_map, List.getElem?_replicate]
  by_cases h : i < m
  · rw [List.getElem?_range h, if_pos h]; simp
  · rw [List.getElem?_eq_none (by simpa using h), if_neg h]; rfl
/-- Where the steps begin. -/
theorem TwB.start {w w1 w2 wx : World} {m n km kb0 kh0 kb1 kh1 : Nat} (s1 : SB w1 w.heap.size m 0) (b1 : Below w.heap.size w w1) (s2 : SB w2 w1.heap.size n 0) (b2 : Below w1.heap.size w1 w2) (bx : Below w2.heap.size w2 wx)
    (hs : wx.heap[w2.heap.size]? = some (.cells #[.pointer (some ⟨w.heap.size + 1, 0, none⟩), .pointer (some ⟨w1.heap.size + 1, 0, none⟩)] 23))
    (hk : wx.heap[km]? = some (.cells #[.pointer (some ⟨kh0, 0, none⟩), .pointer (some ⟨kh1, 0, none⟩)] 29))
    (hb0 : wx.heap[kb0]? = some (.cells (madeCells #[.bool false] m) 4)) (hh0 : wx.heap[kh0]? = some (.cells #[.slice (some ⟨kb0, 0, none⟩) m m] 32))
    (hb1 : wx.heap[kb1]? = some (.cells (madeCells #[.bool false] n) 4)) (hh1 : wx.heap[kh1]? = some (.cells #[.slice (some ⟨kb1, 0, none⟩) n n] 32))
    (ne : kb0 ≠ kb1) (g0 : w2.heap.size ≤ kb0) (g1 : w2.heap.size ≤ kb1) :
    TwB w w2.heap.size km (fun c => if c = 0 then w.heap.size else w1.heap.size) (fun c => if c = 0 then kb0 else kb1) (fun c => if c = 0 then kh0 else kh1) (fun c => if c = 0 then m else n) (fun _ => 0) (fun _ => 0) wx := by
  have z1 := s1.size
  have z2 := s2.size
  have q1 := b1.size
  have q2 := b2.size
  have c2 : ∀ c, c < 2 → c = 0 ∨ c = 1 := fun c hc => by omega
  refine ⟨hs, hk, fun c hc => ?_, fun c hc => ?_, (b1.trans (b2.mono b1.size)).trans (bx.mono (Nat.le_trans b1.size b2.size)), by omega, fun c hc => ?_, fun c hc => ?_, fun c d hc hd hcd => ?_, fun c d hc hd hcd => ?_⟩
  · rcases c2 c hc with rfl | rfl
    · exact (s1.later b2).later bx
    · exact s2.later bx
  · rcases c2 c hc with rfl | rfl
    · exact ⟨hh0, by show wx.heap[kb0]? = some (.cells (mCells 0 m).toArray _); rw [hb0, made_listB, mCells_zero], Nat.two_pow_pos _, s1.ml, ne_ty hb0 hh0 (by decide)⟩
    · exact ⟨hh1, by show wx.heap[kb1]? = some (.cells (mCells 0 n).toArray _); rw [hb1, made_listB, mCells_zero], Nat.two_pow_pos _, s2.ml, ne_ty hb1 hh1 (by decide)⟩
  · rcases c2 c hc with rfl | rfl
    · exact Nat.le_refl _
    · show w.heap.size ≤ w1.heap.size
      omega
  · rcases c2 c hc with rfl | rfl
    · show w.heap.size ≤ kb0
      omega
    · show w.heap.size ≤ kb1
      omega
  · rcases c2 c hc with rfl | rfl <;> rcases c2 d hd with rfl | rfl
    · exact absurd rfl hcd
    · show w.heap.size ≠ w1.heap.size
      omega
    · show w1.heap.size ≠ w.heap.size
      omega
    · exact absurd rfl hcd
  · rcases c2 c hc with rfl | rfl <;> rcases c2 d hd with rfl | rfl
    · exact absurd rfl hcd
    · exact ne
    · exact fun q => ne q.symm
    · exact absurd rfl hcd
/-- Six blocks one behind the other. -/
theorem six_at0 (w2 : World) (a b c d e f : Obj) : ∀ wx, wx = (((((w2.alloc a).alloc b).alloc c).alloc d).alloc e).alloc f → wx.heap[w2.heap.size]? = some a ∧ wx.heap[w2.heap.size + 1]? = some b ∧ wx.heap[w2.heap.size + 1 + 1]? = some c ∧ wx.heap[w2.heap.size + 1 + 1 + 1]? = some d ∧ wx.heap[w2.heap.size + 1 + 1 + 1 + 1]? = some e ∧ wx.heap[w2.heap.size + 1 + 1 + 1 + 1 + 1]? = some f ∧ Below w2.heap.size w2 wx := by
  rintro wx rfl
  have hs : ∀ (v : World) (o : Obj), (v.alloc o).heap.size = v.heap.size + 1 := fun v o => by simp
  have up : ∀ (v : World) (o : Obj) (j : Nat), j < v.heap.size → (v.alloc o).heap[j]? = v.heap[j]? := fun v o j hj => (below_alloc v o).block j hj
  have new : ∀ (v : World) (o : Obj), (v.alloc o).heap[v.heap.size]? = some o := fun v o => heap_alloc_new v o
  have n1 := new w2 a
  have n2 := new (w2.alloc a) b
  have n3 := new ((w2.alloc a).alloc b) c
  have n4 := new (((w2.alloc a).alloc b).alloc c) d
  have n5 := new ((((w2.alloc a).alloc b).alloc c).alloc d) e
  have n6 := new (((((w2.alloc a).alloc b).alloc c).alloc d).alloc e) f
  simp only [hs] at n1 n2 n3 n4 n5 n6
  refine ⟨?_, ?_, ?_, ?_, ?_, n6, ?_⟩
  · rw [up _ _ _ (by simp only [hs]; omega), up _ _ _ (by simp only [hs]; omega), up _ _ _ (by simp only [hs]; omega), up _ _ _ (by simp only [hs]; omega), up _ _ _ (by simp only [hs]; omega), n1]
  · rw [up _ _ _ (by simp only [hs]; omega), up _ _ _ (by simp only [hs]; omega), up _ _ _ (by simp only [hs]; omega), up _ _ _ (by simp only [hs]; omega), n2]
  · rw [up _ _ _ (by simp only [hs]; omega), up _ _ _ (by simp only [hs]; omega), up _ _ _ (by simp only [hs]; omega), n3]
  · rw [up _ _ _ (by simp only [hs]; omega), up _ _ _ (by simp only [hs]; omega), n4]
  · rw [up _ _ _ (by simp only [hs]; omega), n5]
  · have t : ∀ {v : World} (o : Obj), Below w2.heap.size w2 v → Below w2.heap.size w2 (v.alloc o) := fun o q => q.alloc q.size o
    exact t f (t e (t d (t c (t b (t a (Below.refl _ _))))))
theorem six_at (w2 : World) (a b c d e f : Obj) : ∀ wx, wx = ((((((w2.alloc a).alloc b).alloc c).alloc d).alloc e).alloc f).drew → wx.heap[w2.heap.size]? = some a ∧ wx.heap[w2.heap.size + 1]? = some b ∧ wx.heap[w2.heap.size + 1 + 1]? = some c ∧ wx.heap[w2.heap.size + 1 + 1 + 1]? = some d ∧ wx.heap[w2.heap.size + 1 + 1 + 1 + 1]? = some e ∧ wx.heap[w2.heap.size + 1 + 1 + 1 + 1 + 1]? = some f ∧ Below w2.heap.size w2 wx := by
  rintro wx rfl
  obtain ⟨h0, h1, h2, h3, h4, h5, hB⟩ := six_at0 w2 a b c d e f _ rfl
  exact ⟨h0, h1, h2, h3, h4, h5, hB.drew⟩
end Go.Proofs.YtcjejnenklppiaaDoor
