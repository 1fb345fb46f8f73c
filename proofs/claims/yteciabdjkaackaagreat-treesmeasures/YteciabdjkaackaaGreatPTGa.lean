import Derived.Test.YteciabdjkaackaaGreatPBBaseToGRow
import Derived.Test.YteciabdjkaackaaGreatPTD3ToTSm
import Derived.Test.YteciabdjkaackaaGreatPTDcToTDe
namespace Go.Proofs.YteciabdjkaackaaGreat
set_option linter.unusedVariables false
open Go.RowKit
theorem wpAnyX_twoM {P : Program} {ops : Array Oper} {Q : Exit -> Act -> World -> Prop} {md : Region.Mode} {S : Array Bool -> World -> Prop} {β1 β2 : Type} {o1 o2 : Oper} {d1 d2 : Nat} {L : Array Bool} {a : Act} {w : World} {fuel : Nat} (j1 j2 : Nat) (h1 : ops.toList[j1]? = some o1) (h2 : ops.toList[j2]? = some o2)
  (e1 : o1.dst = some d1) (e2 : o2.dst = some d2) (hd : d1 ≠ d2)
  (r : Region.ready md ops L = [j1, j2]) (r1 : Region.ready md ops (L.setIfInBounds j1 true) = [j2]) (r2 : Region.ready md ops (L.setIfInBounds j2 true) = [j1])
  {I : World -> Prop} (hI : ∀ w' w'', I w' -> Below w'.heap.size w' w'' -> I w'') (hS : ∀ w' L', I w' -> S L' w')
  {T1 : β1 -> World -> Prop} {T2 : β2 -> World -> Prop} {f1 : β1 -> Value} {f2 : β2 -> Value} (t1 : ∀ b w' w'', T1 b w' -> Below w'.heap.size w' w'' -> T1 b w'') (t2 : ∀ b w' w'', T2 b w' -> Below w'.heap.size w' w'' -> T2 b w'')
  {At : Act -> Prop} (hAt : At a) (a1 : ∀ a v, At a -> At (a.put (some d1) v)) (a2 : ∀ a v, At a -> At (a.put (some d2) v))
  (s1 : ∀ (a : Act) (w : World) (K : Act -> World -> Prop), At a -> I w -> (∀ b w', Below w.heap.size w w' -> T1 b w' -> K (a.put o1.dst (f1 b)) w') -> if Region.wanted o1 (yielded ops a.tmps) = true then Oper.wp P o1 a w K Q else K (a.put o1.dst undef) w)
  (s2 : ∀ (a : Act) (w : World) (K : Act -> World -> Prop), At a -> I w -> (∀ b w', Below w.heap.size w w' -> T2 b w' -> K (a.put o2.dst (f2 b)) w') -> if Region.wanted o2 (yielded ops a.tmps) = true then Oper.wp P o2 a w K Q else K (a.put o2.dst undef) w) (hw : I w)
  (h : ∀ b1 b2 w', I w' -> Below w.heap.size w w' -> T1 b1 w' -> T2 b2 w' -> wpAnyX P md ops Q S fuel ((L.setIfInBounds j1 true).setIfInBounds j2 true) ((a.put (some d1) (f1 b1)).put (some d2) (f2 b2)) w') :
  wpAnyX P md ops Q S (fuel + 1 + 1) L a w := by
 have sc : ∀ (L : Array Bool) (i j : Nat), (L.setIfInBounds i true).setIfInBounds j true = (L.setIfInBounds j true).setIfInBounds i true := fun L i j => by
  by_cases h : i = j
  ·rw [h]
  ·exact Array.setIfInBounds_comm _ _ h
 have pc : ∀ (a : Act) (u v : Value), (a.put (some d2) u).put (some d1) v = (a.put (some d1) v).put (some d2) u := fun a u v => by
  simp only [Act.put, Act.mk.injEq, and_true]
  exact Array.setIfInBounds_comm _ _ (Ne.symm hd)
 refine pickT r (by simp) (fun j hj => ?_)
 simp only [List.mem_cons, List.not_mem_nil, or_false] at hj
 rcases hj with hj | hj <;> rw [hj]
 ·refine ⟨o1, h1, fun K' hK => s1 a w K' hAt hw fun b1 w1 B1 q1 => hK.out _ _ (hS _ _ (hI _ _ hw B1)) ?_⟩
  rw [e1]
  refine pickT r1 (by simp) (fun j hj => ?_)
  simp only [List.mem_cons, List.not_mem_nil, or_false] at hj
  rw [hj]
  refine ⟨o2, h2, fun K' hK => s2 _ w1 K' (a1 _ _ hAt) (hI _ _ hw B1) fun b2 w2 B2 q2 => hK.out _ _ (hS _ _ (hI _ _ (hI _ _ hw B1) B2)) ?_⟩
  rw [e2]
  exact h b1 b2 w2 (hI _ _ (hI _ _ hw B1) B2) (B1.trans (B2.mono B1.size)) (t1 _ _ _ q1 B2) q2
 ·refine ⟨o2, h2, fun K' hK => s2 a w K' hAt hw fun b2 w1 B1 q2 => hK.out _ _ (hS _ _ (hI _ _ hw B1)) ?_⟩
  rw [e2]
  refine pickT r2 (by simp) (fun j hj => ?_)
  simp only [List.mem_cons, List.not_mem_nil, or_false] at hj
  rw [hj]
  refine ⟨o1, h1, fun K' hK => s1 _ w1 K' (a2 _ _ hAt) (hI _ _ hw B1) fun b1 w2 B2 q1 => hK.out _ _ (hS _ _ (hI _ _ (hI _ _ hw B1) B2)) ?_⟩
  rw [e1]
  have g := h b1 b2 w2 (hI _ _ (hI _ _ hw B1) B2) (B1.trans (B2.mono B1.size)) q1 (t2 _ _ _ q2 B2)
  rw [sc _ j2 j1, pc]
  exact g
theorem wpAnyX_takePM {P : Program} {ops : Array Oper} {Q : Exit -> Act -> World -> Prop} {md : Region.Mode} {m i : Nat} {oi : Oper} {v : Value} {S0 S1 : World -> Prop} {fuel : Nat} {listed : Array Bool} {a : Act} {w : World} (hi' : ops.toList[i]? = some oi)
  (hs : Region.noSelect ops = true) (him : i ≠ m) (hf : Region.free md ops listed i = true) (hr : (Region.ready md ops listed).contains i = true)
  (hQ : ∀ c a w, Q (.panic c) (a.put oi.dst v) w -> Q (.panic c) a w) (hy : YieldsIf P ops (fun _ => True) oi v a) (hS : SX m S0 S1 listed w)
  (h : wpAnyX P md ops Q (SX m S0 S1) fuel (listed.setIfInBounds i true) (a.put oi.dst v) w) : wpAnyX P md ops Q (SX m S0 S1) (fuel + 1) listed a w :=
 have hi : ops[i]? = some oi := by rw [<- Array.getElem?_toList]; exact hi'
 wpAnyX_first (Cl := fun _ => True) (T := fun _ => True) hi (Region.noSelect_spec hs) hQ (fun _ _ _ _ => trivial) (fun _ _ _ _ _ => trivial)
  (fun L w => by
   have e : (L.setIfInBounds i true).getD m false = L.getD m false := getD_set_ne false him
   unfold SX
   rw [e]) fuel listed a w (Region.free_spec hi hf) (by simpa using hr) trivial hy hS h
theorem run_copyM {o : Oper} {a : Act} {t0 : TypeId} {v0 : Value} {x0 : Operand} (hop : o.op = Op.call { callee := Callee.value (Operand.func 33), args := #[x0], argTypes := #[t0] }) (h0 : a.eval x0 = v0) (w : World) : (execOp a.eval o).run Tryz.prog w = .ok (.enter 33 #[v0]) w := by
 have hf : a.eval (Operand.func 33) = .func (.func 33) #[] #[] := rfl
 simp [execOp, hop, resolve, invoke, h0, hf, Deferred.ofValue]
theorem set_app4M {α : Type} (A B : List α) (a0 a1 a2 a3 v0 v1 v2 v3 : α) (n : Nat) (hn : A.length = n) : ((((A ++ a0 :: a1 :: a2 :: a3 :: B).set n v0).set (n + 1) v1).set (n + 2) v2).set (n + 3) v3 = A ++ v0 :: v1 :: v2 :: v3 :: B := by
 subst hn
 simp
theorem tro_lastM {w : World} {g n c : Nat} {l : List TV} {x : TV} (T : TV) (h : TRo w (.slice (some ⟨g, 0, none⟩) n c) (l ++ [x])) : TRo (set4 w g (l.length * 4) T) (.slice (some ⟨g, 0, none⟩) n c) (l ++ [T]) := by
 rcases h.2 with ⟨e, _⟩ | ⟨g', cap, cur, e, h1, h2, h3, h4, h5, h6⟩
 ·cases e
 ·simp only [Value.slice.injEq, Option.some.injEq, Addr.mk.injEq, and_true] at e
  obtain ⟨rfl, rfl, rfl⟩ := e
  have b0 := heap_setCell_same w g (l.length * 4) _ _ (.int .i64 T.prod) h2
  have b1 := heap_setCell_same _ g (l.length * 4 + 1) _ _ (.int .i64 T.kind) b0
  have b2 := heap_setCell_same _ g (l.length * 4 + 2) _ _ (.string T.tx) b1
  have b3 := heap_setCell_same _ g (l.length * 4 + 3) _ _ (.slice T.ka T.kids.length T.kc) b2
  have hA := fm_len (k := 4) (f := trCells) (fun _ => rfl) l
  have hlen : (l ++ [x]).length = (l ++ [T]).length := by simp
  refine ⟨fm_len (k := 4) (fun _ => rfl) _, .inr ⟨g, c, _, by rw [hlen], h1, b3, by rw [<- hlen]; exact h3, h4, by simpa using h5, ?_⟩⟩
  obtain ⟨B, hB⟩ : ∃ B, cur.toList = l.flatMap trCells ++ (.int .i64 x.prod) :: (.int .i64 x.kind) :: (.string x.tx) :: (.slice x.ka x.kids.length x.kc) :: B := by
   refine ⟨cur.toList.drop ((l ++ [x]).length * 4), ?_⟩
   conv => lhs; rw [<- List.take_append_drop ((l ++ [x]).length * 4) cur.toList, h6]
   simp [trCells]
  simp only [Array.toList_setIfInBounds, hB]
  rw [set_app4M _ _ _ _ _ _ _ _ _ _ _ hA, List.flatMap_append]
  have hT : ([T] : List TV).flatMap trCells = [.int .i64 T.prod, .int .i64 T.kind, .string T.tx, .slice T.ka T.kids.length T.kc] := by simp [trCells]
  rw [hT]
  have e2 : (l ++ [T]).length * 4 = (l.flatMap trCells ++ [Value.int .i64 T.prod, Value.int .i64 T.kind, Value.string T.tx, Value.slice T.ka T.kids.length T.kc]).length := by
   rw [List.length_append, List.length_append, hA]; simp; omega
  rw [e2]
  have e3 : l.flatMap trCells ++ (Value.int .i64 T.prod) :: (Value.int .i64 T.kind) :: (Value.string T.tx) :: (Value.slice T.ka T.kids.length T.kc) :: B = (l.flatMap trCells ++ [Value.int .i64 T.prod, Value.int .i64 T.kind, Value.string T.tx, Value.slice T.ka T.kids.length T.kc]) ++ B := by simp
  rw [e3, List.take_left']
  rfl
theorem set_swapM (w : World) {q g : Nat} (hqg : q ≠ g) (i o : Nat) (v : Value) (T : TV) : set4 (w.setCell ⟨q, i, none⟩ v) g o T = (set4 w g o T).setCell ⟨q, i, none⟩ v := by
 unfold set4
 have sw : ∀ (w : World) (j : Nat) (u : Value), (w.setCell ⟨q, i, none⟩ v).setCell ⟨g, j, none⟩ u = (w.setCell ⟨g, j, none⟩ u).setCell ⟨q, i, none⟩ v := fun w j u => by
  simp only [World.setCell]
  congr 1
  apply Array.ext_getElem?
  intro k
  simp only [Array.getElem?_modify]
  by_cases h1 : g = k
  ·subst h1
   simp [hqg]
  ·by_cases h2 : q = k
   ·subst h2
    simp [h1]
   ·simp [h1, h2]
 rw [sw, sw, sw, sw]
theorem ro_thereM {w : World} {g n c : Nat} {l : List TV} {x : TV} (h : TRo w (.slice (some ⟨g, 0, none⟩) n c) (l ++ [x])) : w.there g (l.length * 4) 4 := by
 rcases h.2 with ⟨e, _⟩ | ⟨g', cap, cur, e, h1, h2, h3, h4, h5, h6⟩
 ·cases e
 ·simp only [Value.slice.injEq, Option.some.injEq, Addr.mk.injEq, and_true] at e
  obtain ⟨rfl, rfl, rfl⟩ := e
  intro j hj
  have hc : l.length * 4 + j < cur.size := by rw [h5]; simp at h3; omega
  refine ⟨?_, by simp [World.frozen?, h2]⟩
  rw [cellq_any h2, Array.getElem?_eq_getElem hc]
  first | rfl | simp
end Go.Proofs.YteciabdjkaackaaGreat
