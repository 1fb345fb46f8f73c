import Derived.Test.YtfgfkchhkbkplaaGreatDoorPTW3ToRegX
namespace Go.Proofs.YtfgfkchhkbkplaaGreatDoor
set_option linter.unusedVariables false
open Go.RowKit
def preT (t : TV) : List TV := (plT 0 t).map (·.t)
def preL (l : List TV) : List TV := l.flatMap preT
theorem pre_depth (d : Int) (t : TV) : (plT d t).map (·.t) = preT t := by
 unfold preT
 induction t using TV.ind generalizing d with
 | _ t ih =>
  rw [plT_eq, plT_eq 0]
  simp only [List.map_cons]
  congr 1
  have : ∀ (d e : Int) (l : List TV), (∀ k ∈ l, ∀ d, (plT d k).map (·.t) = (plT 0 k).map (·.t)) -> (plL d l).map (·.t) = (plL e l).map (·.t) := by
   intro d e l
   induction l with
   | nil => intro _; rfl
   | cons a l ihl =>
    intro hl
    rw [plL_cons, plL_cons, List.map_append, List.map_append, ihl (fun k hk => hl k (List.mem_cons_of_mem _ hk)), hl a List.mem_cons_self d, hl a List.mem_cons_self e]
  exact this _ _ t.kids (fun k hk => ih k hk)
theorem preT_eq (t : TV) : preT t = t :: preL t.kids := by
 have : ∀ l : List TV, (plL 1 l).map (·.t) = preL l := by
  intro l
  induction l with
  | nil => rfl
  | cons a l ihl => rw [plL_cons, List.map_append, ihl, pre_depth]; rfl
 conv => lhs; unfold preT
 rw [plT_eq, List.map_cons, Int.zero_add, this]
theorem preT_len (t : TV) : (preT t).length = szT t := by unfold preT szT; rw [List.length_map]
def enE (D : List EV) : List TV := (D.filter (·.en)).map (·.t)
theorem enE_app (D R : List EV) : enE (D ++ R) = enE D ++ enE R := by simp [enE]
theorem enE_in (p q : Nat) (t : TV) : enE [⟨true, p, q, t⟩] = [t] := rfl
theorem enE_out (p q : Nat) (t : TV) : enE [⟨false, p, q, t⟩] = [] := rfl
theorem evL_pre (b o : Nat) : ∀ (i : Nat) (l : List TV), (∀ k ∈ l, ∀ p q, enE (evT p q k) = preT k) -> enE (evL (kidF b o i l)) = preL l
 | _, [], _ => rfl
 | i, k :: l, h => by
  rw [kidF, evL_cons, enE_app, h k List.mem_cons_self, evL_pre b o (i + 1) l (fun k' hk => h k' (List.mem_cons_of_mem _ hk))]
  rfl
theorem ev_pre (t : TV) : ∀ p q, enE (evT p q t) = preT t := by
 induction t using TV.ind with
 | _ t ih =>
  intro p q
  rw [evT_eq, <- List.singleton_append, enE_app, enE_app, enE_in, enE_out, List.append_nil, preT_eq]
  unfold kidsA
  rw [evL_pre _ _ _ _ ih]
  rfl
theorem enE_len (D : List EV) : (enE D).length <= D.length := by
 unfold enE
 rw [List.length_map]
 exact List.length_filter_le _ _
theorem ev_bound {D R : List EV} {x : EV} {p q : Nat} {t : TV} (h : D ++ x :: R = evT p q t) (hs : szT t <= 100000000) : D.length < 200000000 := by
 have := congrArg List.length h
 rw [evT_len, List.length_append, List.length_cons] at this
 omega
def leafT (l : List TV) : List TV := l.filter fun t => decide (t.prod = -1)
theorem leafT_app (l m : List TV) : leafT (l ++ m) = leafT l ++ leafT m := by simp [leafT]
def tkC (t : TV) : List Value := [.int .i64 t.kind, .string t.tx]
abbrev TKt := RO 23 2 tkC
theorem not_stp {cs : Array Value} {t : TypeId} {fz : Nat × Nat} (ht : (t == 187) = false) : ¬ Stp (.cells cs t fz) := fun ⟨_, _, e⟩ => by
 simp only [Obj.cells.injEq] at e
 rw [e.2.1] at ht
 simp at ht
theorem RO.noStp {α : Type} {τ : TypeId} {k : Nat} {f : α -> List Value} {N : Nat} {w w' : World} {v : Value} {l : List α} (h : RO τ k f w v l) (hn : NoStp N w w') (ht : (τ == 187) = false) : RO τ k f w' v l := h.kept fun j hj => by
 rcases h.2 with ⟨rfl, _⟩ | ⟨g, cap, cur, rfl, _, h2, _⟩
 ·simp [Value.ownBlock] at hj
 ·simp [Value.ownBlock] at hj
  subst hj
  rw [hn.keep _ _ h2 (fun ⟨_, s⟩ => not_stp ht s), h2]
theorem NoStp.bel {w0 w w' : World} (h : NoStp w0.heap.size w w') (hb : Below w0.heap.size w0 w) : Below w0.heap.size w0 w' :=
 ⟨h.os.trans hb.os, h.tape.trans hb.tape, h.output.trans hb.output, Nat.le_trans hb.size h.size, fun j hj => by
  have e := hb.block j hj
  rw [<- e]
  have hj' : j < w.heap.size := Nat.lt_of_lt_of_le hj hb.size
  rw [Array.getElem?_eq_getElem hj']
  exact h.keep j _ (Array.getElem?_eq_getElem hj') (fun ⟨q, _⟩ => by omega)⟩
structure YSt (w0 : World) (yb : Nat) (D : List EV) (w : World) : Prop where
 bel : Below w0.heap.size w0 w
 yn : w0.heap.size <= yb
 bx : ∃ vo, w.heap[yb]? = some (.cells #[vo] 77) /\ TKt w vo (leafT (enE D)) /\ ∀ j, vo.ownBlock = some j -> w0.heap.size <= j
theorem YSt.still {w0 : World} {yb : Nat} {D : List EV} {w w' : World} (h : YSt w0 yb D w) (hn : NoStp w0.heap.size w w') : YSt w0 yb D w' := by
 obtain ⟨vo, h1, h2, h3⟩ := h.bx
 exact ⟨hn.bel h.bel, h.yn, vo, hn.keep _ _ h1 (fun ⟨_, s⟩ => not_stp (by decide) s), h2.noStp hn (by decide), h3⟩
theorem cellW {w w' : World} {p : Addr} {v : Value} (hb : Below w.heap.size w w') (h : w.cell? p = some v) : w'.cell? p = some v := by
 have hlt : p.block < w.heap.size := by
  apply Classical.byContradiction
  intro e
  have : w.heap[p.block]? = none := Array.getElem?_eq_none (by omega)
  unfold World.cell? at h
  rw [this] at h
  cases h
 rw [hb.cell (p := p) hlt]
 exact h
def tkS (yb : Nat) (vo : Value) (p q : Nat) (t : TV) (w : World) : Prop := w.cell? ⟨yb, 0, none⟩ = some vo /\ w.cell? ⟨p, q + 1, none⟩ = some (.int .i64 t.kind) /\ w.cell? ⟨p, q + 2, none⟩ = some (.string t.tx)
theorem tkS.later {yb : Nat} {vo : Value} {p q : Nat} {t : TV} {w w' : World} (h : tkS yb vo p q t w) (hb : Below w.heap.size w w') : tkS yb vo p q t w' := ⟨cellW hb h.1, cellW hb h.2.1, cellW hb h.2.2⟩
theorem tbx_new (w : World) (t : TV) : TBx (w.alloc (tBox t)) w.heap.size 0 t := by
 have h := heap_alloc_new w (tBox t)
 obtain ⟨a, b, c, d⟩ := tb_cells h
 exact ⟨by simp, a, b, c, d⟩
structure MS where
 pl : Int
 lf : Int
 ht : Int
 dp : Int
 cv : Int
def msE (m : MS) (x : EV) : MS :=
 if x.en = true then
  (if x.t.prod = -1 then ⟨m.pl + 1, m.lf + 1, if m.cv + 1 = 0 then max m.ht (m.dp + 1) else m.ht, m.dp + 1, m.cv + 1⟩
   else ⟨m.pl + 1, m.lf, if m.cv = 0 then max m.ht (m.dp + 1) else m.ht, m.dp + 1, m.cv⟩)
 else (if x.t.prod = -1 then ⟨m.pl, m.lf, m.ht, m.dp - 1, m.cv - 1⟩ else ⟨m.pl, m.lf, m.ht, m.dp - 1, m.cv⟩)
def msU (D : List EV) : MS := D.foldl msE ⟨0, 0, 0, 0, 0⟩
theorem msU_app (D : List EV) (x : EV) : msU (D ++ [x]) = msE (msU D) x := by simp [msU]
theorem ev_rev {P : List EV -> Prop} (h0 : P []) (h1 : ∀ D x, P D -> P (D ++ [x])) (D : List EV) : P D := by
 have : ∀ l : List EV, P l.reverse := by
  intro l
  induction l with
  | nil => exact h0
  | cons a l ih => rw [List.reverse_cons]; exact h1 _ _ ih
 have := this D.reverse
 rwa [List.reverse_reverse] at this
theorem msU_bd (D : List EV) : 0 <= (msU D).pl /\ (msU D).pl <= D.length /\ 0 <= (msU D).lf /\ (msU D).lf <= D.length /\ -(D.length : Int) <= (msU D).ht /\ (msU D).ht <= D.length /\ -(D.length : Int) <= (msU D).dp /\ (msU D).dp <= D.length /\ -(D.length : Int) <= (msU D).cv /\ (msU D).cv <= D.length := by
 induction D using ev_rev with
 | h0 => simp [msU]
 | h1 D x ih =>
  rw [msU_app, List.length_append, List.length_singleton]
  generalize msU D = m at *
  unfold msE
  split <;> split <;> dsimp only <;> (try split) <;> refine ⟨?_, ?_, ?_, ?_, ?_, ?_, ?_, ?_, ?_, ?_⟩ <;> omega
theorem msU_pl (D : List EV) : (msU D).pl = ((enE D).length : Int) /\ (msU D).lf = ((leafT (enE D)).length : Int) := by
 induction D using ev_rev with
 | h0 => simp [msU, enE, leafT]
 | h1 D x ih =>
  rw [msU_app, enE_app, leafT_app, List.length_append, List.length_append]
  have hq : ∀ t : TV, leafT [t] = if t.prod = -1 then [t] else [] := fun t => by simp [leafT, List.filter_cons]
  generalize leafT (enE D) = Lf at *
  generalize msU D = m at *
  obtain ⟨en, p, q, t⟩ := x
  unfold msE
  cases en with
  | true =>
   rw [enE_in]
   by_cases hp : t.prod = -1
   ·simp [hp, hq]
    omega
   ·simp [hp, hq]
    omega
  | false =>
   rw [enE_out]
   have h0 : leafT [] = [] := rfl
   by_cases hp : t.prod = -1 <;> simp [hp, h0] <;> omega
abbrev iBox (x : Int) : Obj := .cells #[.int .i64 x] 3
structure MSt (w0 : World) (b : Nat) (D : List EV) (w : World) : Prop where
 bel : Below w0.heap.size w0 w
 yn : w0.heap.size <= b
 pl : w.heap[b]? = some (iBox (msU D).pl)
 lf : w.heap[b + 1]? = some (iBox (msU D).lf)
 ht : w.heap[b + 2]? = some (iBox (msU D).ht)
 dp : w.heap[b + 3]? = some (iBox (msU D).dp)
 cv : w.heap[b + 4]? = some (iBox (msU D).cv)
theorem MSt.still {w0 : World} {b : Nat} {D : List EV} {w w' : World} (h : MSt w0 b D w) (hn : NoStp w0.heap.size w w') : MSt w0 b D w' :=
 have k : ∀ (j : Nat) (x : Int), w.heap[j]? = some (iBox x) -> w'.heap[j]? = some (iBox x) := fun j x e => hn.keep _ _ e (fun ⟨_, s⟩ => not_stp (by decide) s)
 ⟨hn.bel h.bel, h.yn, k _ _ h.pl, k _ _ h.lf, k _ _ h.ht, k _ _ h.dp, k _ _ h.cv⟩
end Go.Proofs.YtfgfkchhkbkplaaGreatDoor
