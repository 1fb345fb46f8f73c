import Derived.Test.YtccednepbkjajaaPGT3ToGT4
import Derived.Shelf.SlicesQ.Reverse
import Derived.Test.YtccednepbkjajaaPGCheckCToGCheckD
import Derived.Test.YtccednepbkjajaaPGDec9ToGDec13
namespace Go.Proofs.Ytccednepbkjajaa
set_option linter.unusedVariables false
open Go.RowKit Go.Shelf Go.Sort
def revRen : Ren := ⟨fun _ => 66, fun x => if x = 22 then 50 else if x = 23 then 47 else x, fun x => x⟩
theorem rev_lays : SlLaysE0.n35 Try.prog revRen := {
 mixed := by kernel_rfl
 f35 := ⟨Try.f66.name, by decide, by kernel_rfl⟩
 t0 := by kernel_rfl
 a0 := fun _ => by kernel_rfl
 z0 := fun _ => by kernel_rfl
 v0 := fun _ => by kernel_rfl
 t3 := by kernel_rfl
 a3 := fun _ => by kernel_rfl
 z3 := fun _ => by kernel_rfl
 v3 := fun _ => by kernel_rfl
 t4 := by kernel_rfl
 a4 := fun _ => by kernel_rfl
 z4 := fun _ => by kernel_rfl
 v4 := fun _ => by kernel_rfl
 t22 := by kernel_rfl
 a22 := fun _ => by kernel_rfl
 z22 := fun _ => by kernel_rfl
 v22 := fun _ => by kernel_rfl }
def symEnc (q : Int × Int) : List Value := [.int .i64 q.1, .int .i64 q.2]
theorem flat_sym (r : List (Int × Int)) : flatK symEnc 2 r.toArray = (symCells r).toArray := by
 apply Array.ext
 ·simp [symCells_len]
 ·intro t h1 h2
  have ht : t < r.length * 2 := by simpa using h1
  have hk : t / 2 < r.length := by omega
  obtain ⟨q1, q2⟩ := symCells_get r (t / 2) hk
  have hm : t % 2 = 0 ∨ t % 2 = 1 := by omega
  have e0 : r.getD (t / 2) (0, 0) = r[t / 2] := by simp [List.getD, hk]
  rcases hm with hm | hm
  ·have e : t / 2 * 2 = t := by omega
   rw [e, e0] at q1
   have q1' := (List.getElem?_eq_some_iff.1 q1).2
   simp only [flatK, List.getElem_toArray, Array.getElem_map, Array.getElem_range, q1', hm]
   simp [symEnc, hk]
  ·have e : t / 2 * 2 + 1 = t := by omega
   rw [e, e0] at q2
   have q2' := (List.getElem?_eq_some_iff.1 q2).2
   simp only [flatK, List.getElem_toArray, Array.getElem_map, Array.getElem_range, q2', hm]
   simp [symEnc, hk]
theorem RB.holds {w : World} {b : Nat} {t : TypeId} {xs : List Value} {c s : Nat} (h : RB w b t xs c s) : Holds id w b 0 xs.toArray := fun j hj => by
 have hj' : j < xs.length := by simpa using hj
 refine ⟨?_, h.free _⟩
 rw [Nat.zero_add, h.cell (i := j) (u := xs[j]) (List.getElem?_eq_getElem hj')]
 simp [hj']
theorem heap_put {w : World} {b n : Nat} {F : Array Value} {cur : Array Value} {t : TypeId} (hb : w.heap[b]? = some (.cells cur t (0, 0))) : (putRow id (Sort.ahead w n) b 0 F).heap[b]? = some (.cells (putCells id 0 F cur) t (0, 0)) := by
 simp [putRow, mapBlock, Sort.ahead, Array.getElem?_modify, hb, onCells]
theorem heap_put_ne {w : World} {b n j : Nat} {F : Array Value} (h : j ≠ b) : (putRow id (Sort.ahead w n) b 0 F).heap[j]? = w.heap[j]? := by
 simp [putRow, mapBlock, Sort.ahead, Array.getElem?_modify, Ne.symm h]
theorem RB.put {w : World} {b : Nat} {t : TypeId} {xs ys : List Value} {c s : Nat} (h : RB w b t xs c s) (n : Nat) (hl : ys.length = xs.length) : RB (putRow id (Sort.ahead w n) b 0 ys.toArray) b t ys c s := by
 obtain ⟨cur, h1, h2, _, h4, h5⟩ := h
 refine ⟨_, heap_put h1, by simp [putCells]; omega, ?_, by simpa [putCells] using h4, h5⟩
 apply List.ext_getElem?
 intro j
 by_cases hj : j < ys.length
 ·rw [List.getElem?_take_of_lt hj, Array.getElem?_toList]
  simp [putCells, hj, show j < cur.size by omega]
 ·rw [List.getElem?_take_eq_none (by omega), List.getElem?_eq_none (by omega)]
structure Turned (w w' : World) (b : Nat) : Prop where
 size : w.heap.size <= w'.heap.size
 other : ∀ j, j < w.heap.size -> j ≠ b -> w'.heap[j]? = w.heap[j]?
 bel : ∀ B, B <= w.heap.size -> B <= b -> Below B w w'
theorem turned_put (w : World) (b n : Nat) (F : Array Value) : Turned w (putRow id (Sort.ahead w n) b 0 F) b := by
 have hs : (putRow id (Sort.ahead w n) b 0 F).heap.size = w.heap.size := by simp [putRow, mapBlock, Sort.ahead]
 refine ⟨by omega, fun j _ hj => heap_put_ne hj, fun B hB hb => ?_⟩
 have hg : w.grownBy (putRow id (Sort.ahead w n) b 0 F) (some b) := ⟨rfl, rfl, rfl, by omega, fun k _ hk => heap_put_ne fun e => hk (by rw [e])⟩
 exact (Below.refl B w).grown hg hB (fun k e => by cases e; exact hb)
theorem rev_sym {C S : Nat} (b c : Nat) (r : List (Int × Int)) (w : World) (hr : r.length <= 1048576) (h : RB w b 47 (symCells r) C S) :
  Calls Try.prog 66 #[.slice (some ⟨b, 0, none⟩) r.length c] w fun e w' => e = .returned (.tuple #[]) /\ RB w' b 47 (symCells r.reverse) C S /\ Turned w w' b := by
 have hH : HoldsK symEnc 2 w b 0 r.toArray := by
  unfold HoldsK
  rw [flat_sym]
  exact h.holds
 have hc := AnyQ.slices_Reverse rev_lays 2 (fun _ => by kernel_rfl) (fun _ => by kernel_rfl) symEnc (fun _ => rfl) (fun x v hv => by simp [symEnc] at hv; rcases hv with rfl | rfl <;> rfl) b 0 c r.toArray w hH (by simp; omega)
 change Calls Try.prog 66 _ _ _ at hc
 simp only [List.reverse_toArray, List.size_toArray] at hc
 refine hc.mono ?_
 rintro e w' ⟨rfl, n, rfl⟩
 refine ⟨rfl, ?_, ?_⟩
 ·unfold putRowK
  rw [flat_sym]
  exact h.put n (by simp [symCells_len])
 ·exact turned_put w b n _
theorem rev_none (ao : Option Addr) (c : Nat) (w : World) : Calls Try.prog 66 #[.slice ao 0 c] w fun e w' => e = .returned (.tuple #[]) /\ w' = w := by
 go_enter Try.func66, Try.ntmps66
 go_wp2
 go_loopw [2, 3] (fun i j wr => i = .int .i64 0 /\ j = .int .i64 (-1) /\ wr = w) (fun _ _ _ => 0)
 case atStart => exact ⟨rfl, rfl, rfl⟩
 case round =>
  obtain ⟨rfl, rfl, rfl⟩ := hrel
  go_wp2
  go_end0
  exact ⟨rfl, rfl⟩
open Go.RowKit
theorem mem_getD {α : Type} {l : List α} {d : α} {j : Nat} (h : j < l.length) : l.getD j d ∈ l := by
 have e : l.getD j d = l[j] := by simp [List.getD, h]
 rw [e]; exact List.getElem_mem h
theorem firstU_all {f : Nat -> Int} : ∀ (c i : Nat), (firstU f c i).1 = 0 -> ∀ j, j < c -> f (i + j) = 0
 | 0, _, _, j, hj => absurd hj (by omega)
 | c + 1, i, h, j, hj => by
  unfold firstU at h
  by_cases hz : f i = 0
  ·rw [if_neg (by simpa using hz)] at h
   match j with
   | 0 => exact hz
   | j + 1 =>
    have := firstU_all c (i + 1) h j (by omega)
    rw [show i + (j + 1) = i + 1 + j by omega]
    exact this
  ·rw [if_pos hz] at h
   exact absurd h hz
theorem wordS_size {s : ByteArray} (h : wordS s = true) : s.size <= 32 := by
 simp only [wordS, Bool.and_eq_true, decide_eq_true_eq] at h
 exact h.1.1.2
theorem quotedS_size {s : ByteArray} (h : quotedS s = true) : s.size <= 32 := by
 simp only [quotedS, Bool.and_eq_true, decide_eq_true_eq] at h
 exact h.1.1.1.2
theorem termS_size {s : ByteArray} (h : termS s = true) : s.size <= 32 := by
 simp only [termS, Bool.or_eq_true] at h
 exact h.elim wordS_size quotedS_size
theorem formsF_each {form : ByteArray -> Bool} : ∀ (ss seen : List ByteArray), (formsF form ss seen).1 = 0 -> ∀ s ∈ ss, form s = true
 | [], _, _, s, hs => by cases hs
 | a :: r, seen, h, s, hs => by
  unfold formsF at h
  by_cases h1 : form a = false
  ·rw [if_pos h1] at h; exact absurd h (by simp)
  ·rw [if_neg h1] at h
   by_cases h2 : inB seen a = true
   ·rw [if_pos h2] at h; exact absurd h (by simp)
   ·rw [if_neg h2] at h
    rcases List.mem_cons.1 hs with rfl | hs
    ·simpa using h1
    ·exact formsF_each r _ h s hs
theorem checkF_each {ts ns : List ByteArray} (h : (checkF ts ns).1 = 0) : (∀ s ∈ ts, s.size <= 32) /\ ∀ s ∈ ns, s.size <= 32 := by
 unfold checkF at h
 split at h
 ·exact absurd h (by simp)
 ·split at h
  ·exact absurd h (by simp)
  ·by_cases h1 : (formsF termS ts []).1 = 0
   ·rw [if_neg (by simpa using h1)] at h
    by_cases h2 : (formsF wordS ns (formsF termS ts []).2.2).1 = 0
    ·exact ⟨fun s hs => termS_size (formsF_each _ _ h1 s hs), fun s hs => wordS_size (formsF_each _ _ h2 s hs)⟩
    ·rw [if_pos h2] at h; exact absurd h h2
   ·rw [if_pos h1] at h; exact absurd h h1
structure OkC (g : GV) : Prop where
 tl : 1 <= g.ts.length /\ g.ts.length <= 64
 nl : 1 <= g.ns.length /\ g.ns.length <= 64
 ts : ∀ s ∈ g.ts, s.size <= 32
 ns : ∀ s ∈ g.ns, s.size <= 32
 st : 0 <= g.start /\ g.start < g.ns.length
 pl : 1 <= g.ps.length /\ g.ps.length <= 256
 ps : ∀ i, i < g.ps.length -> prodU g i = 0
 ll : g.ls.length <= 32
 ls : ∀ i, i < g.ls.length -> levelU g i = 0
theorem OkC.of {g : GV} (h : (checkG g (checkF g.ts g.ns)).1 = 0) : OkC g := by
 unfold checkG at h
 by_cases h1 : g.ts.length = 0 ∨ 64 < g.ts.length
 ·rw [if_pos h1] at h; exact absurd h (by simp)
 rw [if_neg h1] at h
 by_cases h2 : g.ns.length = 0 ∨ 64 < g.ns.length
 ·rw [if_pos h2] at h; exact absurd h (by simp)
 rw [if_neg h2] at h
 by_cases h3 : (checkF g.ts g.ns).1 = 0
 case neg => rw [if_pos h3] at h; exact absurd h h3
 rw [if_neg (by simpa using h3)] at h
 by_cases h4 : inN g g.start = false
 ·rw [if_pos h4] at h; exact absurd h (by simp)
 rw [if_neg h4] at h
 by_cases h5 : g.ps.length = 0 ∨ 256 < g.ps.length
 ·rw [if_pos h5] at h; exact absurd h (by simp)
 rw [if_neg h5] at h
 by_cases h6 : (firstU (prodU g) g.ps.length 0).1 = 0
 case neg => rw [if_pos h6] at h; exact absurd h h6
 rw [if_neg (by simpa using h6)] at h
 by_cases h7 : 32 < g.ls.length
 ·rw [if_pos h7] at h; exact absurd h (by simp)
 rw [if_neg h7] at h
 have hn := checkF_each h3
 refine ⟨by omega, by omega, hn.1, hn.2, ?_, by omega, fun i hi => ?_, by omega, fun i hi => ?_⟩
 ·simpa [inN] using h4
 ·simpa using firstU_all _ _ h6 i hi
 ·simpa using firstU_all _ _ h i hi
theorem OkC.left {g : GV} (h : OkC g) (i : Nat) (hi : i < g.ps.length) : 0 <= (g.ps.getD i .none).left /\ (g.ps.getD i .none).left < g.ns.length := by
 have := h.ps i hi
 unfold prodU at this
 by_cases h1 : inN g (g.ps.getD i .none).left = false
 ·rw [if_pos h1] at this; exact absurd this (by omega)
 ·simpa [inN] using h1
theorem OkC.right {g : GV} (h : OkC g) (i : Nat) (hi : i < g.ps.length) : (g.ps.getD i .none).right.length <= 16 := by
 have := h.ps i hi
 unfold prodU at this
 by_cases h1 : inN g (g.ps.getD i .none).left = false
 ·rw [if_pos h1] at this; exact absurd this (by omega)
 rw [if_neg h1] at this
 by_cases h2 : 16 < (g.ps.getD i .none).right.length
 ·rw [if_pos h2] at this; exact absurd this (by omega)
 ·omega
theorem OkC.inG {g : GV} (h : OkC g) (i : Nat) (hi : i < g.ps.length) : ∀ s ∈ (g.ps.getD i .none).right, inG g s.1 s.2 = true := by
 have := h.ps i hi
 unfold prodU at this
 by_cases h1 : inN g (g.ps.getD i .none).left = false
 ·rw [if_pos h1] at this; exact absurd this (by omega)
 rw [if_neg h1] at this
 by_cases h2 : 16 < (g.ps.getD i .none).right.length
 ·rw [if_pos h2] at this; exact absurd this (by omega)
 rw [if_neg h2] at this
 by_cases h3 : ((g.ps.getD i .none).right.any fun s => !Go.Proofs.Ytccednepbkjajaa.inG g s.1 s.2) = true
 ·rw [if_pos h3] at this; exact absurd this (by omega)
 ·intro s hs
  have h4 := Bool.not_eq_true _ ▸ h3
  rw [List.any_eq_false] at h4
  simpa using h4 s hs
theorem OkC.prec {g : GV} (h : OkC g) (i : Nat) (hi : i < g.ps.length) : -1 <= (g.ps.getD i .none).prec /\ (g.ps.getD i .none).prec < g.ts.length := by
 have := h.ps i hi
 unfold prodU at this
 split at this
 ·exact absurd this (by omega)
 split at this
 ·exact absurd this (by omega)
 split at this
 ·exact absurd this (by omega)
 split at this
 ·exact absurd this (by omega)
 by_cases h5 : (g.ps.getD i .none).prec = -1
 ·rw [h5]; omega
 ·by_cases h6 : inT g (g.ps.getD i .none).prec = false
  ·rw [if_pos ⟨h5, h6⟩] at this; exact absurd this (by omega)
  ·have : 0 <= (g.ps.getD i .none).prec /\ (g.ps.getD i .none).prec < g.ts.length := by simpa [inT] using h6
   omega
theorem OkC.level {g : GV} (h : OkC g) (i : Nat) (hi : i < g.ls.length) : (1 <= (g.ls.getD i .none).assoc /\ (g.ls.getD i .none).assoc <= 3) /\ (∀ n ∈ (g.ls.getD i .none).terms, 0 <= n /\ n < g.ts.length) /\ risesU (g.ls.getD i .none).terms = true := by
 have := h.ls i hi
 unfold levelU at this
 by_cases h1 : (g.ls.getD i .none).assoc < 1 ∨ 3 < (g.ls.getD i .none).assoc ∨ (g.ls.getD i .none).terms.length = 0
 ·rw [if_pos h1] at this; exact absurd this (by omega)
 rw [if_neg h1] at this
 by_cases h2 : ((g.ls.getD i .none).terms.any fun n => !inT g n) = true
 ·rw [if_pos h2] at this; exact absurd this (by omega)
 rw [if_neg h2] at this
 by_cases h3 : risesU (g.ls.getD i .none).terms = false
 ·rw [if_pos h3] at this; exact absurd this (by omega)
 refine ⟨by omega, fun n hn => ?_, by simpa using h3⟩
 have h4 := Bool.not_eq_true _ ▸ h2
 rw [List.any_eq_false] at h4
 simpa [inT] using h4 n hn
theorem rises_le {l : List Int} (h : risesU l = true) : ∀ j, j < l.length -> l.getD 0 0 + j <= l.getD j 0
 | 0, _ => by simp
 | j + 1, hj => by
  have ih := rises_le h j (by omega)
  unfold risesU at h
  rw [List.all_eq_true] at h
  have := h j (by simp; omega)
  simp only [decide_eq_true_eq] at this
  omega
theorem rises_len {l : List Int} {n : Nat} (h : risesU l = true) (hb : ∀ x ∈ l, 0 <= x /\ x < n) : l.length <= n := by
 rcases Nat.eq_zero_or_pos l.length with e | e
 ·omega
 ·have h1 := rises_le h (l.length - 1) (by omega)
  have m0 : l.getD 0 0 ∈ l := mem_getD e
  have m1 : l.getD (l.length - 1) 0 ∈ l := mem_getD (by omega)
  have := hb _ m0
  have := hb _ m1
  omega
theorem OkC.terms {g : GV} (h : OkC g) (i : Nat) (hi : i < g.ls.length) : (g.ls.getD i .none).terms.length <= 64 := by
 obtain ⟨_, h1, h2⟩ := h.level i hi
 exact Nat.le_trans (rises_len h2 h1) h.tl.2
theorem getD_mem {α : Type} {l : List α} {d x : α} (h : x ∈ l) : ∃ i, i < l.length /\ x = l.getD i d := by
 obtain ⟨i, hi, rfl⟩ := List.getElem_of_mem h
 exact ⟨i, hi, by simp [List.getD, hi]⟩
theorem GAt.ok {n : Nat} {w : World} {g : GV} (h : GAt n w g) (ok : OkC g) : GAt 1048576 w g := by
 have h1 := ok.tl
 have h2 := ok.nl
 have h3 := ok.pl
 have h4 := ok.ll
 refine ⟨h.t, h.n_, h.p, h.l, h.tz, h.nz, by omega, by omega, by omega, by omega, fun p hp => ?_, fun p hp => ?_⟩
 ·obtain ⟨i, hi, rfl⟩ := getD_mem (d := PV.none) hp
  have := ok.right i hi
  omega
 ·obtain ⟨i, hi, rfl⟩ := getD_mem (d := LV.none) hp
  have := ok.terms i hi
  omega
theorem DG.kept {B : Nat} {w w' : World} {g : GV} (h : DG B w g) (hb : ∀ k, B <= k -> k < w.heap.size -> w'.heap[k]? = w.heap[k]?) : DG B w' g := ⟨h.t.kept hb, h.n_.kept hb, h.p.kept hb, h.l.kept hb, h.tn⟩
theorem DG.mono {B B' : Nat} {w : World} {g : GV} (h : DG B w g) (hB : B' <= B) : DG B' w g := ⟨h.t.mono hB, h.n_.mono hB, h.p.mono hB, h.l.mono hB, h.tn⟩
end Go.Proofs.Ytccednepbkjajaa
