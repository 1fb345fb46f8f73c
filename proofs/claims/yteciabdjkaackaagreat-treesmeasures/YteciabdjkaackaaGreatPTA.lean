import Derived.Test.YteciabdjkaackaaGreatPTTPToRegS
import Derived.Test.YteciabdjkaackaaGreatPGRulesToGBulk
namespace Go.Proofs.YteciabdjkaackaaGreat
set_option linter.unusedVariables false
open Go.ChangeShapes Go.WideShapes Go.ChangeAt Go.RowKit
theorem gcellsTree : Tryz.prog.cellsOf 26 = 4 := by kernel_rfl
theorem gcellsTrees : Tryz.prog.cellsOf 24 = 1 := by kernel_rfl
theorem gcellsTok : Tryz.prog.cellsOf 23 = 2 := by kernel_rfl
theorem gcellsStr1 : Tryz.prog.cellsOf 9 = 1 := by kernel_rfl
section
variable {H : Type} {enc : TypeId × Value -> H} {W : World}
set_option maxRecDepth 100000 in
theorem otok {fuel : Nat} {cs : List Value} {x : DataW H × List MemPlace} (h : DataW.trod enc Tryz.prog W 0 (fun _ => true) true fuel 23 cs = some x) : ∃ (k : Int) (s : ByteArray), cs = [.int .i64 k, .string s] := by
 obtain ⟨xs, n, _, hx, hl, hlen, hf⟩ := DataW.trod_struct Tryz.underlying23 h
 rw [gcellsTok] at hl
 match xs, hlen, cs, hl with
 | [y0, y1], _, [e0, e1], _ =>
  have g0 := hf 0 _ rfl
  have g1 := hf 1 _ rfl
  simp [gcellsInt, gcellsStr1] at g0 g1
  obtain ⟨a, ha, _, _⟩ := DataW.trod_int Tryz.underlying3 g0
  obtain ⟨b, hb, _⟩ := DataW.trod_string Tryz.underlying9 g1
  simp only [List.cons.injEq, and_true] at ha hb
  subst ha; subst hb
  exact ⟨a, b, rfl⟩
theorem plL_bulk (d : Int) (f : Nat -> TV) (D : Nat -> DataW H) : ∀ (l : List Nat), (∀ i ∈ l, ∀ d, (plT d (f i)).length <= Rows.uptoBulk (D i)) -> (plL d (l.map f)).length <= Rows.uptoBulkAll (l.map D)
 | [], _ => by rw [List.map_nil, plL_nil]; exact Nat.zero_le _
 | i :: l, h => by
  have h1 := plL_bulk d f D l (fun i hi => h i (List.mem_cons_of_mem _ hi))
  have h2 := h i (List.mem_cons_self ..) d
  rw [List.map_cons, plL_cons, List.length_append, List.map_cons]
  simp only [Rows.uptoBulkAll]
  omega
set_option maxRecDepth 100000 in
theorem otree (N : Nat) : ∀ (fuel : Nat) (cs : List Value) (x : DataW H × List MemPlace), DataW.trod enc Tryz.prog W 0 (fun _ => true) true fuel 26 cs = some x -> Rows.uptoBulk x.1 <= N ->
  ∃ t : TV, cs = [.int .i64 t.prod, .int .i64 t.kind, .string t.tx, .slice t.ka t.kids.length t.kc] /\ TAt W t /\ ∀ d, (plT d t).length <= Rows.uptoBulk x.1 := by
 induction N with
 | zero => intro fuel cs x _ hN; have := gbulk_pos x.1; omega
 | succ N ih =>
  intro fuel cs x h hN
  obtain ⟨xs, n, _, hx, hl, hlen, hf⟩ := DataW.trod_struct Tryz.underlying26 h
  rw [gcellsTree] at hl
  match xs, hlen, cs, hl with
  | [y0, y1, y2], _, [e0, e1, e2, e3], _ =>
   have g0 := hf 0 _ rfl
   have g1 := hf 1 _ rfl
   have g2 := hf 2 _ rfl
   simp [gcellsInt, gcellsTok, gcellsTrees] at g0 g1 g2
   obtain ⟨p, hp, hdp, _⟩ := DataW.trod_int Tryz.underlying3 g0
   obtain ⟨k, s, hks⟩ := otok g1
   simp only [List.cons.injEq, and_true] at hp hks
   obtain ⟨rfl, rfl⟩ := hks
   subst hp
   have hb : Rows.uptoBulk x.1 = 1 + (Rows.uptoBulk y0.1 + (Rows.uptoBulk y1.1 + Rows.uptoBulk y2.1)) := by
    rw [hx]
    simp only [List.map_cons, List.map_nil, Rows.uptoBulk, Rows.uptoBulkAll]
    omega
   rcases Go.Deep.open_slice Tryz.underlying24 g2 with ⟨hcs, hx2⟩ | ⟨a, len, cap, m, n', D, Pl, hcs, _, hl, _, hm, hx2, hel⟩
   ·simp only [List.cons.injEq, and_true] at hcs
    subst hcs
    refine ⟨.mk p k s none 0 [], rfl, .mk _ (fun h => absurd rfl h) (fun k hk => by cases hk), fun d => ?_⟩
    rw [plT_eq]
    show (_ :: plL (d + 1) []).length <= _
    rw [plL_nil]
    simp
    omega
   ·simp only [List.cons.injEq, and_true] at hcs
    subst hcs
    have hm' : m = cap := by simpa using hm
    have hb2 : Rows.uptoBulkAll ((List.range len).map D) + 1 <= Rows.uptoBulk y2.1 := by
     rw [hx2]
     simp only [Rows.uptoBulk]
     omega
    have each : ∀ i, i < len -> ∃ t : TV, (W.cell? (a.add (i * 4)) = some (.int .i64 t.prod) /\ W.cell? (a.add (i * 4 + 1)) = some (.int .i64 t.kind) /\ W.cell? (a.add (i * 4 + 2)) = some (.string t.tx) /\ W.cell? (a.add (i * 4 + 3)) = some (.slice t.ka t.kids.length t.kc)) /\ TAt W t /\ ∀ d, (plT d t).length <= Rows.uptoBulk (D i) := by
     intro i hi
     obtain ⟨cs', h1, h2⟩ := hel i (by omega)
     rw [gcellsTree] at h1
     obtain ⟨hl1, _, hcell⟩ := World.cells?_some h1
     have hbi : Rows.uptoBulk (D i) <= Rows.uptoBulkAll ((List.range len).map D) := gbulk_mem (List.mem_map.2 ⟨i, List.mem_range.2 hi, rfl⟩)
     obtain ⟨t, ht, hta, htb⟩ := ih _ _ _ h2 (by show Rows.uptoBulk (D i) <= N; omega)
     subst ht
     have e0 := hcell 0 (by omega)
     have e1 := hcell 1 (by omega)
     have e2 := hcell 2 (by omega)
     have e3 := hcell 3 (by omega)
     rw [Go.Deep.add_add] at e0 e1 e2 e3
     exact ⟨t, ⟨by simpa using e0, by simpa using e1, by simpa using e2, by simpa using e3⟩, hta, htb⟩
    obtain ⟨f, hfs⟩ : ∃ f : Nat -> TV, ∀ i, i < len -> (W.cell? (a.add (i * 4)) = some (.int .i64 (f i).prod) /\ W.cell? (a.add (i * 4 + 1)) = some (.int .i64 (f i).kind) /\ W.cell? (a.add (i * 4 + 2)) = some (.string (f i).tx) /\ W.cell? (a.add (i * 4 + 3)) = some (.slice (f i).ka (f i).kids.length (f i).kc)) /\ TAt W (f i) /\ ∀ d, (plT d (f i)).length <= Rows.uptoBulk (D i) :=
     ⟨fun i => if h : i < len then Classical.choose (each i h) else .none, fun i h => by simp only [dif_pos h]; exact Classical.choose_spec (each i h)⟩
    have hpl : ((List.range len).map f).length = len := by simp
    have hgd : ∀ i, i < len -> ((List.range len).map f).getD i .none = f i := fun i hi => by simp [List.getD, hi]
    have hrow : KRow W (some a) ((List.range len).map f) := fun hne => by
     obtain ⟨b, off, spot⟩ := a
     have h0 : 0 < len := by
      rcases Nat.eq_zero_or_pos len with e | e
      ·subst e; simp at hne
      ·exact e
     have hc0 := (hfs 0 h0).1.1
     have hspot : spot = none := by simpa [Addr.add] using World.cell?_spot hc0
     subst hspot
     refine ⟨b, off, rfl, ?_, fun i hi => ?_⟩
     ·have := World.block_lt_of_cell? W _ hc0
      rw [add_none] at this
      exact this
     ·rw [hpl] at hi
      rw [hgd i hi]
      obtain ⟨e0, e1, e2, e3⟩ := (hfs i hi).1
      rw [add_none] at e0 e1 e2 e3
      exact ⟨e0, by rw [Nat.add_assoc]; exact e1, by rw [Nat.add_assoc]; exact e2, by rw [Nat.add_assoc]; exact e3⟩
    refine ⟨.mk p k s (some a) cap ((List.range len).map f), ?_, .mk _ hrow (fun t ht => ?_), fun d => ?_⟩
    ·show _ = [_, _, _, Value.slice (some a) ((List.range len).map f).length cap]
     rw [hpl]
     rfl
    ·obtain ⟨i, hi, rfl⟩ := List.mem_map.1 ht
     exact (hfs i (List.mem_range.1 hi)).2.1
    ·have q := plL_bulk (d + 1) f D (List.range len) (fun i hi => (hfs i (List.mem_range.1 hi)).2.2)
     rw [plT_eq, List.length_cons]
     show (plL (d + 1) ((List.range len).map f)).length + 1 <= _
     omega
set_option maxRecDepth 100000 in
theorem open_tree {base : Nat} {v : Value} {d : DataW H} {p : List MemPlace} (hv : Value.okWide Tryz.prog W .any base 26 v)
  (h : DataW.Trod enc Tryz.prog W 0 (fun _ => true) true 26 v d p) : ∃ t : TV, v = t.val /\ TAt W t /\ ∀ e, (plT e t).length <= Rows.uptoBulk d := by
 obtain ⟨cs, rfl, hsz⟩ := okWide_struct Tryz.underlying26 hv
 obtain ⟨fuel, hf⟩ := h
 obtain ⟨t, hcs, h1, h2⟩ := otree _ _ _ _ hf (Nat.le_refl _)
 refine ⟨t, ?_, h1, h2⟩
 obtain ⟨cs⟩ := cs
 simp only [Value.cells] at hcs
 unfold TV.val
 rw [<- hcs]
end
end Go.Proofs.YteciabdjkaackaaGreat
