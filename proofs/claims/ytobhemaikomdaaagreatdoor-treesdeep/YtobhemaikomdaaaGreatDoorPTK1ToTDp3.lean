import Derived.Test.YtobhemaikomdaaaGreatDoorPTB13ToTB28
import Derived.Test.YtobhemaikomdaaaGreatDoorPTCn
import Derived.Test.YtobhemaikomdaaaGreatDoorPTS1ToTS3
import Derived.Test.YtobhemaikomdaaaGreatDoorPTW8ToTS4
import Derived.Test.YtobhemaikomdaaaGreatDoorPTPqToTSq
import Derived.Test.YtobhemaikomdaaaGreatDoorPTEaToTEb
import Derived.Test.YtobhemaikomdaaaGreatDoorPTDgToPR5
namespace Go.Proofs.YtobhemaikomdaaaGreatDoor
set_option linter.unusedVariables false
open Go.RowKit
structure RtB (n : Nat) (w0 : World) (g : GV) (t : TV) (w : World) : Prop where
 bel : Below n w0 w
 g : w.heap[n]? = some (gBox g)
 t : w.heap[n + 1]? = some (tBox t)
 y : w.heap[n + 1 + 1]? = some (yBoxC 0 0)
theorem RtB.later {n : Nat} {w0 : World} {g : GV} {t : TV} {w w' : World} (h : RtB n w0 g t w) (hn : n <= w.heap.size) (hb : Below w.heap.size w w') : RtB n w0 g t w' :=
 ⟨h.bel.trans (hb.mono hn), (hb.block _ (lt_of_block h.g)).trans h.g, (hb.block _ (lt_of_block h.t)).trans h.t, (hb.block _ (lt_of_block h.y)).trans h.y⟩
theorem RtB.sz {n : Nat} {w0 : World} {g : GV} {t : TV} {w : World} (h : RtB n w0 g t w) : n <= w.heap.size := Nat.le_of_lt (lt_of_block h.g)
structure TOS (w : World) (g : GV) (b : Nat) (T : TV) (w' : World) : Prop where
 bel : Below w.heap.size w w'
 gb : w'.heap[w.heap.size]? = some (gBox g)
 tb : w'.heap[b]? = some (tBox T)
 ta : TAt w' T
theorem TOS.later {w : World} {g : GV} {b : Nat} {T : TV} {w' w'' : World} (h : TOS w g b T w') (hb : Below w'.heap.size w' w'') : TOS w g b T w'' := ⟨h.bel.trans (hb.mono h.bel.size), (hb.block _ (lt_of_block h.gb)).trans h.gb, (hb.block _ (lt_of_block h.tb)).trans h.tb, h.ta.later hb⟩
theorem ilo_row {w : World} {vo : Value} {l : List Int} (h : ILo w vo l) : ∃ a c, vo = .slice a l.length c /\ InRow w a l := by
 obtain ⟨a, c, rfl, -⟩ := RO.len h
 exact ⟨a, c, rfl, (ILo.row h).2⟩
theorem tkt_row {w : World} {vo : Value} {l : List TV} (h : TKt w vo l) : ∃ a c, vo = .slice a (l.map tkV).length c /\ TkRow w a (l.map tkV) := by
 obtain ⟨a, c, rfl, -⟩ := RO.len h
 exact ⟨a, c, by rw [List.length_map], (TKt.row h).2⟩
theorem nds_in {g : GV} (t : TV) : GdT g t -> ∀ n ∈ nds t, 0 <= n /\ n < g.ps.length := by
 induction t using TV.ind with
 | _ t ih =>
  intro h n hn
  have h1 := AllP.here h
  rw [nds_eq] at hn
  rcases List.mem_append.1 hn with hn | hn
  ·by_cases hp : t.prod = -1
   ·rw [if_pos hp] at hn; cases hn
   ·rw [if_neg hp] at hn
    obtain ⟨a, b, -⟩ := gd_node h1 hp
    simp only [List.mem_cons, List.not_mem_nil, or_false] at hn
    rw [hn]; exact ⟨a, b⟩
  ·obtain ⟨k, hk, hn⟩ := List.mem_flatMap.1 hn
   exact ih k hk (AllP.kid h k hk) n hn
theorem from_of {n : Nat} {l : List Int} {u : Option TV × Int × Int} (hl : l ≠ []) (h : ∀ x ∈ l, 0 <= x /\ x < n) : fromU (cpU 0 n l) u = u := by
 unfold fromU
 rw [cp_of hl h]
 exact if_neg (by simp)
structure BkS (w : World) (g : GV) (t : TV) (w' : World) : Prop where
 bel : Below w.heap.size w w'
 gb : w'.heap[w.heap.size]? = some (gBox g)
 tb : w'.heap[w.heap.size + 1]? = some (tBox t)
theorem BkS.later {w : World} {g : GV} {t : TV} {w' w'' : World} (h : BkS w g t w') (hb : Below w'.heap.size w' w'') : BkS w g t w'' := ⟨h.bel.trans (hb.mono h.bel.size), (hb.block _ (lt_of_block h.gb)).trans h.gb, (hb.block _ (lt_of_block h.tb)).trans h.tb⟩
structure BkT (w : World) (g : GV) (t : TV) (ai ar ak : Option Addr) (l r : List Int) (L : List (Int × ByteArray)) (b1 : Nat) (T1 : TV) (w' : World) : Prop where
 s : BkS w g t w'
 ri : InRow w' ai l
 rr : InRow w' ar r
 rk : TkRow w' ak L
 bx : w'.heap[b1]? = some (tBox T1)
 ta : TAt w' T1
theorem BkT.later {w : World} {g : GV} {t : TV} {ai ar ak : Option Addr} {l r : List Int} {L : List (Int × ByteArray)} {b1 : Nat} {T1 : TV} {w' w'' : World} (h : BkT w g t ai ar ak l r L b1 T1 w') (hb : Below w'.heap.size w' w'') : BkT w g t ai ar ak l r L b1 T1 w'' := ⟨h.s.later hb, h.ri.later hb, h.rr.later hb, h.rk.later hb, (hb.block _ (lt_of_block h.bx)).trans h.bx, h.ta.later hb⟩
theorem run_le {o : Oper} {a : Act} {t0 : TypeId} {v0 : Value} {x0 : Operand} (hop : o.op = Op.call { callee := Callee.value (Operand.func 9), args := #[x0], argTypes := #[t0] }) (h0 : a.eval x0 = v0) (w : World) : (execOp a.eval o).run Tryz.prog w = .ok (.enter 9 #[v0]) w := by
 have hf : a.eval (Operand.func 9) = .func (.func 9) #[] #[] := rfl
 simp [execOp, hop, resolve, invoke, h0, hf, Deferred.ofValue]
theorem run_yi {o : Oper} {a : Act} {t0 : TypeId} {v0 : Value} {x0 : Operand} (hop : o.op = Op.call { callee := Callee.value (Operand.func 10), args := #[x0], argTypes := #[t0] }) (h0 : a.eval x0 = v0) (w : World) : (execOp a.eval o).run Tryz.prog w = .ok (.enter 10 #[v0]) w := by
 have hf : a.eval (Operand.func 10) = .func (.func 10) #[] #[] := rfl
 simp [execOp, hop, resolve, invoke, h0, hf, Deferred.ofValue]
def isLf (k : Int) (t : TV) : Prop := t.prod = -1 /\ t.kind = k /\ t.tx = ByteArray.empty /\ t.kids = []
def DP : Nat -> TV -> Prop
 | 0, t => t.prod = 1 /\ t.kind = 0 /\ t.tx = ByteArray.empty /\ ∃ l, t.kids = [l] /\ isLf 1 l
 | n + 1, t => t.prod = 0 /\ t.kind = 0 /\ t.tx = ByteArray.empty /\ ∃ l s, t.kids = [l, s] /\ isLf 0 l /\ DP n s
theorem be_nil : ByteArray.empty.toList = [] := by rw [ByteArray.toList_eq]; rfl
theorem dp_prod {n : Nat} {t : TV} (h : DP n t) : (t.prod = 0 ∨ t.prod = 1) /\ t.kind = 0 /\ t.tx = ByteArray.empty := by
 cases n with
 | zero => obtain ⟨h1, h2, h3, -⟩ := h; exact ⟨.inr h1, h2, h3⟩
 | succ n => obtain ⟨h1, h2, h3, -⟩ := h; exact ⟨.inl h1, h2, h3⟩
theorem lf_root {m : Nat} {k : Int} {l : TV} (h : isLf k l) (hk : k = 0 ∨ k = 1) : rootU (sgG m) l = (1, k) := by
 obtain ⟨h1, h2, -, -⟩ := h
 have e : (sgG m).ts.length = 2 := rfl
 unfold rootU
 rw [h1, h2, e]
 rcases hk with rfl | rfl <;> simp
theorem dp_root {m n : Nat} {t : TV} (h : DP n t) : rootU (sgG m) t = (2, 0) := by
 have e : (sgG m).ps.length = 2 := rfl
 unfold rootU
 rcases (dp_prod h).1 with h1 | h1
 ·rw [h1, e]; simp; rfl
 ·rw [h1, e]; simp; rfl
theorem lf_gd {m : Nat} {k : Int} {l : TV} (h : isLf k l) (hk : k = 0 ∨ k = 1) : GdT (sgG m) l := by
 obtain ⟨h1, h2, h3, h4⟩ := h
 have e : (sgG m).ts.length = 2 := rfl
 refine AllP.mk ⟨?_, fun q => absurd h1 q⟩ fun x hx => by rw [h4] at hx; cases hx
 unfold alTU
 rw [if_pos h1, h2, e, h4]
 rcases hk with rfl | rfl <;> simp
theorem dp_gd {m : Nat} : ∀ {n : Nat} {t : TV}, DP n t -> GdT (sgG m) t
 | 0, t, h => by
  obtain ⟨h1, h2, h3, l, h4, h5⟩ := h
  have er : rightU (sgG m) t = [(1, 1)] := by unfold rightU; rw [h1]; rfl
  have e : (sgG m).ps.length = 2 := rfl
  refine AllP.mk ⟨?_, fun _ => ?_⟩ fun x hx => ?_
  ·unfold alTU
   rw [if_neg (by omega), h1, h2, h3, h4, er, e, be_nil]
   simp
  ·rw [h4, er]
   simp [lf_root h5]
  ·rw [h4] at hx
   simp only [List.mem_cons, List.not_mem_nil, or_false] at hx
   rw [hx]
   exact lf_gd h5 (.inr rfl)
 | n + 1, t, h => by
  obtain ⟨h1, h2, h3, l, s, h4, h5, h6⟩ := h
  have er : rightU (sgG m) t = [(1, 0), (2, 0)] := by unfold rightU; rw [h1]; rfl
  have e : (sgG m).ps.length = 2 := rfl
  refine AllP.mk ⟨?_, fun _ => ?_⟩ fun x hx => ?_
  ·unfold alTU
   rw [if_neg (by omega), h1, h2, h3, h4, er, e, be_nil]
   simp
  ·rw [h4, er]
   simp [lf_root h5, dp_root h6]
  ·rw [h4] at hx
   simp only [List.mem_cons, List.not_mem_nil, or_false] at hx
   rcases hx with rfl | rfl
   ·exact lf_gd h5 (.inl rfl)
   ·exact dp_gd h6
theorem lf_sz {k : Int} {l : TV} (h : isLf k l) : szT l = 1 := by rw [szT_eq, h.2.2.2]; rfl
theorem dp_sz : ∀ {n : Nat} {t : TV}, DP n t -> szT t = 2 * n + 2
 | 0, t, h => by
  obtain ⟨h1, h2, h3, l, h4, h5⟩ := h
  rw [szT_eq, h4, szL_cons, lf_sz h5]
  rfl
 | n + 1, t, h => by
  obtain ⟨h1, h2, h3, l, s, h4, h5, h6⟩ := h
  have e : szL [] = 0 := rfl
  rw [szT_eq, h4, szL_cons, szL_cons, lf_sz h5, dp_sz h6, e]
  omega
theorem lf_hg {k : Int} {l : TV} (h : isLf k l) : hgT l = 0 := by rw [hgT_eq, if_pos h.1]
theorem dp_hg : ∀ {n : Nat} {t : TV}, DP n t -> hgT t = n + 1
 | 0, t, h => by
  obtain ⟨h1, h2, h3, l, h4, h5⟩ := h
  rw [hgT_eq, if_neg (by omega), h4]
  show max (hgT l) 0 + 1 = _
  rw [lf_hg h5]
  rfl
 | n + 1, t, h => by
  obtain ⟨h1, h2, h3, l, s, h4, h5, h6⟩ := h
  rw [hgT_eq, if_neg (by omega), h4]
  show max (hgT l) (max (hgT s) 0) + 1 = _
  rw [lf_hg h5, dp_hg h6]
  omega
theorem dp_lv : ∀ {n : Nat} {t : TV}, DP n t -> (lvs t).length = n + 1
 | 0, t, h => by
  obtain ⟨h1, h2, h3, l, h4, h5⟩ := h
  rw [lvs_eq, if_neg (by omega), h4]
  simp [lvs_eq l, h5.1, h5.2.2.2]
 | n + 1, t, h => by
  obtain ⟨h1, h2, h3, l, s, h4, h5, h6⟩ := h
  rw [lvs_eq, if_neg (by omega), h4]
  simp [lvs_eq l, h5.1, h5.2.2.2, dp_lv h6]
theorem lf_cd {k : Int} {l : TV} (h : isLf k l) (hk : k = 0 ∨ k = 1) : CdT l := by
 obtain ⟨h1, h2, h3, h4⟩ := h
 refine AllP.mk ?_ fun x hx => by rw [h4] at hx; cases hx
 show cdF l = 0
 unfold cdF
 rw [if_pos h1, h2, h4]
 rcases hk with rfl | rfl <;> simp
theorem dp_cd : ∀ {n : Nat} {t : TV}, DP n t -> CdT t
 | 0, t, h => by
  obtain ⟨h1, h2, h3, l, h4, h5⟩ := h
  refine AllP.mk ?_ fun x hx => ?_
  ·show cdF t = 0
   unfold cdF
   rw [if_neg (by omega), h1, h2, h3, be_nil]
   simp
  ·rw [h4] at hx
   simp only [List.mem_cons, List.not_mem_nil, or_false] at hx
   rw [hx]
   exact lf_cd h5 (.inr rfl)
 | n + 1, t, h => by
  obtain ⟨h1, h2, h3, l, s, h4, h5, h6⟩ := h
  refine AllP.mk ?_ fun x hx => ?_
  ·show cdF t = 0
   unfold cdF
   rw [if_neg (by omega), h1, h2, h3, be_nil]
   simp
  ·rw [h4] at hx
   simp only [List.mem_cons, List.not_mem_nil, or_false] at hx
   rcases hx with rfl | rfl
   ·exact lf_cd h5 (.inl rfl)
   ·exact dp_cd h6
theorem lf_wt {k : Int} {l : TV} (h : isLf k l) : wtT l = 3 := by rw [wtT_eq, h.2.2.2, h.2.2.1]; rfl
theorem dp_wt : ∀ {n : Nat} {t : TV}, DP n t -> wtT t = 6 * n + 6
 | 0, t, h => by
  obtain ⟨h1, h2, h3, l, h4, h5⟩ := h
  rw [wtT_eq, h4, wtL_cons, lf_wt h5, h3]
  rfl
 | n + 1, t, h => by
  obtain ⟨h1, h2, h3, l, s, h4, h5, h6⟩ := h
  have e : wtL [] = 0 := rfl
  have e2 : ByteArray.empty.size = 0 := rfl
  rw [wtT_eq, h4, wtL_cons, wtL_cons, lf_wt h5, dp_wt h6, h3, e, e2]
  omega
theorem lf_enc {k : Int} {l : TV} (h : isLf k l) : (encT l).length <= 30 := by
 rw [encT_eq, h.2.2.2]
 simp only [List.flatMap_nil, List.append_nil]
 have h1 := plB_le l
 have h2 : lsZ l = 3 := by unfold lsZ; rw [if_pos h.1, h.2.2.1]; rfl
 omega
theorem dp_enc : ∀ {n : Nat} {t : TV}, DP n t -> (encT t).length <= 50 * n + 50
 | 0, t, h => by
  obtain ⟨h1, h2, h3, l, h4, h5⟩ := h
  have q1 := plB_le t
  have q2 : lsZ t = 2 := by unfold lsZ; rw [if_neg (by omega)]
  have q3 := lf_enc h5
  rw [encT_eq, h4]
  simp only [List.flatMap_cons, List.flatMap_nil, List.append_nil, List.length_append]
  omega
 | n + 1, t, h => by
  obtain ⟨h1, h2, h3, l, s, h4, h5, h6⟩ := h
  have q1 := plB_le t
  have q2 : lsZ t = 2 := by unfold lsZ; rw [if_neg (by omega)]
  have q3 := lf_enc h5
  have q4 := dp_enc h6
  rw [encT_eq, h4]
  simp only [List.flatMap_cons, List.flatMap_nil, List.append_nil, List.length_append]
  omega
theorem lf_tx {m : Nat} {k : Int} {l : TV} (h : isLf k l) (hk : k = 0 ∨ k = 1) : (txT (sgG m) l).length = 1 := by
 obtain ⟨h1, h2, h3, h4⟩ := h
 rw [txT_eq, h4]
 unfold hdP enP nmT
 rw [if_pos h1, if_pos h1, h2]
 rcases hk with rfl | rfl <;> rfl
theorem dp_hd {m n : Nat} {t : TV} (h : DP n t) : (hdP (sgG m) t).length = 2 /\ (enP t).length = 1 := by
 have hp := (dp_prod h).1
 unfold hdP enP nmN
 rw [if_neg (by omega), if_neg (by omega)]
 rcases hp with hp | hp <;> (rw [hp]; exact ⟨rfl, rfl⟩)
theorem dp_tx {m : Nat} : ∀ {n : Nat} {t : TV}, DP n t -> (txT (sgG m) t).length = 6 * n + 5
 | 0, t, h => by
  obtain ⟨q1, q2⟩ := dp_hd (m := m) h
  obtain ⟨h1, h2, h3, l, h4, h5⟩ := h
  have e : txL (sgG m) [] = [] := rfl
  rw [txT_eq, h4, txL_cons, List.length_append, List.length_append, List.length_append, List.length_cons, lf_tx h5 (.inr rfl), q1, q2, e]
  rfl
 | n + 1, t, h => by
  obtain ⟨q1, q2⟩ := dp_hd (m := m) h
  obtain ⟨h1, h2, h3, l, s, h4, h5, h6⟩ := h
  have e : txL (sgG m) [] = [] := rfl
  rw [txT_eq, h4, txL_cons, txL_cons, List.length_append, List.length_append, List.length_append, List.length_append, List.length_cons, List.length_cons, lf_tx h5 (.inl rfl), dp_tx h6, q1, q2, e]
  simp
  omega
theorem dp_path : ∀ {n : Nat} {t : TV}, DP n t -> okP (List.replicate n 1) t /\ nuP (List.replicate n 1) t = 2 * n /\ (getAt (List.replicate n 1) t).prod = 1
 | 0, t, h => ⟨trivial, rfl, h.1⟩
 | n + 1, t, h => by
  obtain ⟨h1, h2, h3, l, s, h4, h5, h6⟩ := h
  obtain ⟨a, b, c⟩ := dp_path h6
  rw [List.replicate_succ]
  have e : t.kids.getD 1 TV.none = s := by rw [h4]; rfl
  refine ⟨⟨by rw [h4]; simp, by rw [e]; exact a⟩, ?_, ?_⟩
  ·show 1 + szL (t.kids.take 1) + nuP (List.replicate n 1) (t.kids.getD 1 TV.none) = _
   have e2 : szL (t.kids.take 1) = 1 := by
    rw [h4]
    show szL [l] = 1
    rw [szL_cons, lf_sz h5]
    rfl
   rw [e, b, e2]
   omega
  ·show (getAt (List.replicate n 1) (t.kids.getD 1 TV.none)).prod = 1
   rw [e]
   exact c
structure DpS (w : World) (m gb n : Nat) (t : TV) (W : World) : Prop where
 bel : Below w.heap.size w W
 ga : GAt 140737488355328 W (sgG m)
 gg : W.heap[gb]? = some (gBox (sgG m))
 tb : W.heap[gb + 1]? = some (tBox t)
 ta : TAt W t
 dp : DP n t
 ad : ∀ a ∈ adsL (kidsA t), a.1 ≠ gb + 1
 gw : w.heap.size <= gb
 gk : ∀ W', (∀ j, j < gb -> W'.heap[j]? = W.heap[j]?) -> W.heap.size <= W'.heap.size -> GAt 140737488355328 W' (sgG m)
section
variable {w W W' : World} {m gb n : Nat} {t : TV}
theorem DpS.later (h : DpS w m gb n t W) (hb : Below W.heap.size W W') : DpS w m gb n t W' := by
 have hl := lt_of_block h.gg
 exact ⟨h.bel.trans (hb.mono h.bel.size), h.ga.later hb, (hb.block _ hl).trans h.gg, (hb.block _ (lt_of_block h.tb)).trans h.tb, h.ta.later hb, h.dp, h.ad, h.gw, fun W'' hk hs => h.gk W'' (fun j hj => (hk j hj).trans (hb.block j (by omega))) (Nat.le_trans hb.size hs)⟩
abbrev row8 (t : TV) : Obj := .cells #[.int .i64 (-1), .int .i64 0, .string ⟨#[]⟩, .slice none 0 0, .int .i64 t.prod, .int .i64 t.kind, .string t.tx, .slice t.ka t.kids.length t.kc] 32
abbrev dpT (b : Nat) (t : TV) : TV := TV.mk 0 0 ⟨#[]⟩ (some ⟨b, 0, none⟩) 2 [TV.mk (-1) 0 ⟨#[]⟩ none 0 [], t]
theorem dpT_ads (b : Nat) (t : TV) : adsL (kidsA (dpT b t)) = (b, 0) :: (b, 4) :: adsL (kidsA t) := by
 have e : kidsA (dpT b t) = [(b, 0, TV.mk (-1) 0 ⟨#[]⟩ none 0 []), (b, 4, t)] := rfl
 have e2 : kidsA (TV.mk (-1) 0 ⟨#[]⟩ none 0 []) = [] := rfl
 rw [e]
 show adsT b 0 _ ++ (adsT b 4 t ++ []) = _
 rw [adsT_eq, adsT_eq, e2]
 simp [adsL]
theorem DpS.turn (h : DpS w m gb n t W) : DpS w m gb (n + 1) (dpT W.heap.size t) (set4 (W.alloc (row8 t)) (gb + 1) 0 (dpT W.heap.size t)) := by
 have hB := below_alloc W (row8 t)
 have hn := heap_alloc_new W (row8 t)
 have hz : (W.alloc (row8 t)).heap.size = W.heap.size + 1 := by simp
 have hgl := lt_of_block h.tb
 have hgg := lt_of_block h.gg
 have ht1 : (W.alloc (row8 t)).heap[gb + 1]? = some (tBox t) := (hB.block _ hgl).trans h.tb
 have ho : ∀ j, j ≠ gb + 1 -> (set4 (W.alloc (row8 t)) (gb + 1) 0 (dpT W.heap.size t)).heap[j]? = (W.alloc (row8 t)).heap[j]? := fun j hj => set4_other _ _ _ _ _ hj
 have hsz : (set4 (W.alloc (row8 t)) (gb + 1) 0 (dpT W.heap.size t)).heap.size = W.heap.size + 1 := by rw [set4_size, hz]
 have hrow : (set4 (W.alloc (row8 t)) (gb + 1) 0 (dpT W.heap.size t)).heap[W.heap.size]? = some (row8 t) := (ho _ (by omega)).trans hn
 have hg := h.gw
 refine ⟨set4_below (h.bel.trans (hB.mono h.bel.size)) 0 _ (by omega), h.gk _ (fun j hj => (ho j (by omega)).trans (hB.block j (by omega))) (by omega), (ho _ (by omega)).trans ((hB.block _ hgg).trans h.gg), ?_, ?_, ⟨rfl, rfl, rfl, _, _, rfl, ⟨rfl, rfl, rfl, rfl⟩, h.dp⟩, ?_, h.gw, fun W'' hk hs => h.gk W'' (fun j hj => (hk j hj).trans ((ho j (by omega)).trans (hB.block j (by omega)))) (by omega)⟩
 ·exact setCs_fourB (a0 := .int .i64 t.prod) (a1 := .int .i64 t.kind) (a2 := .string t.tx) (a3 := .slice t.ka t.kids.length t.kc) ht1
 ·refine TAt.mk _ (fun _ => ⟨W.heap.size, 0, rfl, by omega, fun i hi => ?_⟩) fun x hx => ?_
  ·have hi : i < 2 := hi
   rw [cellq_any hrow, cellq_any hrow, cellq_any hrow, cellq_any hrow]
   rcases (show i = 0 ∨ i = 1 by omega) with rfl | rfl <;> exact ⟨rfl, rfl, rfl, rfl⟩
  ·have hx : x ∈ [TV.mk (-1) 0 ⟨#[]⟩ none 0 [], t] := hx
   simp only [List.mem_cons, List.not_mem_nil, or_false] at hx
   rcases hx with rfl | rfl
   ·exact TAt.mk _ (fun h => absurd rfl h) (fun x hx => by cases hx)
   ·refine keep_at x 0 0 h.ta fun a ha => ?_
    have hal := kids_lt h.ta ha
    have e := (ho a.1 (h.ad a ha)).trans (hB.block _ hal)
    exact ⟨by omega, fun j _ => World.cell?_of_block e⟩
 ·intro a ha
  rw [dpT_ads] at ha
  simp only [List.mem_cons] at ha
  rcases ha with rfl | rfl | ha
  ·dsimp only; omega
  ·dsimp only; omega
  ·exact h.ad a ha
end
theorem sam_dp0 {m : Nat} {w W : World} (h : SAk 1 m w W) (b : Nat) (hb : b = m9 m + 1) : TAt W (TV.mk 1 0 ByteArray.empty (some ⟨b, 0, none⟩) 1 [sgL 1]) := by
 subst hb
 have h10 := h.b10
 refine TAt.mk _ ?_ ?_
 ·intro _
  refine ⟨m9 m + 1, 0, rfl, lt_of_block h10, fun i hi => ?_⟩
  have hi : i < 1 := hi
  obtain rfl : i = 0 := by omega
  rw [cellq_any h10, cellq_any h10, cellq_any h10, cellq_any h10]
  exact ⟨rfl, rfl, rfl, rfl⟩
 ·intro y hy
  have hy : y ∈ [sgL 1] := hy
  simp only [List.mem_cons, List.not_mem_nil, or_false] at hy
  subst hy
  exact sgL_at _ _
abbrev dp0 (m : Nat) : TV := TV.mk 1 0 ByteArray.empty (some ⟨m9 m + 1, 0, none⟩) 1 [sgL 1]
theorem dp0_dp (m : Nat) : DP 0 (dp0 m) := ⟨rfl, rfl, rfl, _, rfl, rfl, rfl, rfl, rfl⟩
theorem dp_start {m : Nat} {w : World} {gb : Nat} {W : World} (hm : w.heap.size = m) (h : SWk 1 m w gb (sgG (m + 1 + 1 + 1 + 1)) W) : DpS w (m + 1 + 1 + 1 + 1) gb 0 (dp0 m) (set4 W (gb + 1) 0 (dp0 m)) := by
 have hg := h.gt
 have ho : ∀ j, j ≠ gb + 1 -> (set4 W (gb + 1) 0 (dp0 m)).heap[j]? = W.heap[j]? := fun j hj => set4_other _ _ _ _ _ hj
 have hz : (set4 W (gb + 1) 0 (dp0 m)).heap.size = W.heap.size := set4_size _ _ _ _
 have hbW := h.sa.bel
 have sk : ∀ W', (∀ j, j < gb -> W'.heap[j]? = W.heap[j]?) -> W.heap.size <= W'.heap.size -> Below m w W' -> SAk 1 m w W' := fun W' hk hs hb => ⟨hb, Nat.lt_of_lt_of_le h.sa.sz hs, fun i o hi hn q => (by
   have hlt : m + i < gb := by
    have : i < 13 := by
     by_cases hh : i < 13
     ·exact hh
     ·exfalso
      have e : (sgO m)[i]? = none := List.getElem?_eq_none (by show 13 <= i; omega)
      rw [e] at q; cases q
    omega
   exact (hk _ hlt).trans (h.sa.bk i o hi hn q)), (hk _ (by unfold m9; omega)).trans h.sa.b10⟩
 have hB : Below m w (set4 W (gb + 1) 0 (dp0 m)) := set4_below hbW 0 _ (by omega)
 have s1 := sk _ (fun j hj => ho j (by omega)) (by omega) hB
 refine ⟨by rw [hm]; exact hB, s1.gat, (ho _ (by omega)).trans h.gg, ?_, sam_dp0 s1 _ rfl, dp0_dp m, ?_, by omega, fun W' hk hs => ?_⟩
 ·exact setCs_fourB h.tb
 ·intro a ha
  have e : kidsA (dp0 m) = [(m9 m + 1, 0, sgL 1)] := rfl
  have e2 : kidsA (sgL 1) = [] := rfl
  have e3 : adsL (kidsA (dp0 m)) = [(m9 m + 1, 0)] := by
   rw [e]
   show adsT _ 0 _ ++ [] = _
   rw [adsT_eq, e2]
   rfl
  rw [e3] at ha
  simp only [List.mem_cons, List.not_mem_nil, or_false] at ha
  subst ha
  dsimp only
  unfold m9
  omega
 ·have hk2 : ∀ j, j < gb -> W'.heap[j]? = W.heap[j]? := fun j hj => (hk j hj).trans (ho j (by omega))
  refine SAk.gat (k := 1) (w := W') ⟨Below.refl _ _, by have := h.sa.sz; omega, ?_, ?_⟩
  ·intro i o hi hn q
   have hlt : m + i < gb := by
    have : i < 13 := by
     by_cases hh : i < 13
     ·exact hh
     ·exfalso
      have e : (sgO m)[i]? = none := List.getElem?_eq_none (by show 13 <= i; omega)
      rw [e] at q; cases q
    omega
   exact (hk2 _ hlt).trans (h.sa.bk i o hi hn q)
  ·exact (hk2 _ (by unfold m9; omega)).trans h.sa.b10
theorem samV_prod {a b : TV} (h : samV a b) : a.prod = b.prod := (sg_parts ((samV_iff _ _).1 h).1).1
structure DpC (wr : World) (G : GV) (t : TV) : Prop where
 ck : ∀ w', Below wr.heap.size wr w' -> Calls Tryz.prog 6 #[G.val, t.val] w' fun e w'' => e = .returned (.tuple #[.int .i64 0, .int .i64 200002]) /\ Below w'.heap.size w' w''
 ms : ∀ w', Below wr.heap.size wr w' -> Calls Tryz.prog 7 #[t.val] w' fun e w'' => e = .returned (.tuple #[.int .i64 200002, .int .i64 100001, .int .i64 100001]) /\ Below w'.heap.size w' w''
 le : ∀ w', Below wr.heap.size wr w' -> Calls Tryz.prog 9 #[t.val] w' fun e w'' => ∃ a c, e = .returned (.slice a (nds t).length c) /\ InRow w'' a (nds t) /\ Below w'.heap.size w' w''
 yi : ∀ w', Below wr.heap.size wr w' -> Calls Tryz.prog 10 #[t.val] w' fun e w'' => ∃ a c, e = .returned (.slice a (lvs t).length c) /\ TkRow w'' a (lvs t) /\ Below w'.heap.size w' w''
 fl : ∀ ai ci ak ck w', Below wr.heap.size wr w' -> InRow w' ai (nds t) -> TkRow w' ak (lvs t) -> Calls Tryz.prog 8 #[G.val, .slice ai (nds t).length ci, .slice ak (lvs t).length ck] w' fun e w'' => ∃ T : TV, e = .returned (.tuple #[T.val, .int .i64 0, .int .i64 0]) /\ samV T t /\ OwT w'.heap.size w'' T /\ Below w'.heap.size w' w''
 en : ∀ w', Below wr.heap.size wr w' -> Calls Tryz.prog 11 #[t.val] w' fun e w'' => ∃ a c, e = .returned (.tuple #[.slice a (C.frame 3 (encT t)).length c, .int .i64 0]) /\ C.RowAt w'' a (C.frame 3 (encT t)) /\ (C.frame 3 (encT t)).length <= c /\ Below w'.heap.size w' w''
 de : ∀ a c w', Below wr.heap.size wr w' -> C.RowAt w' a (C.frame 3 (encT t)) -> (C.frame 3 (encT t)).length <= c -> Calls Tryz.prog 12 #[.slice a (C.frame 3 (encT t)).length c] w' fun e w'' => ∃ T : TV, e = .returned (.tuple #[T.val, .int .i64 0, .int .i64 0]) /\ samV T t /\ TAt w'' T /\ Below w'.heap.size w' w''
 at_ : ∀ w', Below wr.heap.size wr w' -> Calls Tryz.prog 13 #[t.val, .int .i64 200000] w' fun e w'' => ∃ T : TV, e = .returned (.tuple #[T.val, .int .i64 0]) /\ T.prod = 1 /\ Below w'.heap.size w' w''
 pr : ∀ w', Below wr.heap.size wr w' -> Calls Tryz.prog 14 #[G.val, t.val] w' fun e w'' => ∃ S : ByteArray, S.size = 600005 /\ e = .returned (.tuple #[.string S, .int .i64 0]) /\ Below w'.heap.size w' w''
 sm : ∀ T w', Below wr.heap.size wr w' -> TAt w' T -> samV T t -> Calls Tryz.prog 15 #[T.val, t.val] w' fun e w'' => e = .returned (.bool true) /\ Below w'.heap.size w' w''
theorem dp_calls {w0 : World} {M gb n : Nat} {t : TV} {wr : World} (h : DpS w0 M gb n t wr) (hn : n = 100000) (hmg : C.Magic wr) : DpC wr (sgG M) t := by
 have hpc : (sgG M).ps.length <= (sgG M).pc := by simp [sgG]
 have hE : checkG (sgG M) (checkF (sgG M).ts (sgG M).ns) = (0, 0) := sgG_check M
 have hgd : GdT (sgG M) t := dp_gd h.dp
 have hcd := dp_cd h.dp
 have hsz : szT t = 200002 := by rw [dp_sz h.dp, hn]
 have hz1 : szT t <= 100000000 := by omega
 have hhg : hgT t = 100001 := by rw [dp_hg h.dp, hn]
 have hlv : (lvs t).length = 100001 := by rw [dp_lv h.dp, hn]
 have hwt : wtT t <= 100000000 := by rw [dp_wt h.dp, hn]; omega
 have henl : (encT t).length <= 16777216 := Nat.le_trans (dp_enc h.dp) (by rw [hn]; omega)
 have hzn := sz_nl t
 have hp : ¬ t.prod = -1 := by have := (dp_prod h.dp).1; omega
 have htx : (txT (sgG M) t).length = 600005 := by rw [dp_tx h.dp, hn]
 obtain ⟨hp1, hp2, hp3⟩ := dp_path h.dp
 have hnu : (200000 : Int) = (nuP (List.replicate n 1) t : Int) := by rw [hp2, hn]; rfl
 have henu := enc_of hcd henl
 have he0 : (encU t).2 = 0 := by rw [henu]
 obtain ⟨-, -, -, hdec⟩ := enc_ok he0
 have hfl := frame_leT 3 (encT t)
 have hnd : nds t ≠ [] := by
  rw [nds_eq, if_neg hp]
  simp
 have hcs := cln_sam t hgd
 have hcc := cln_cd t hcd
 have hmg2 : ∀ w', Below wr.heap.size wr w' -> C.Magic w' := fun w' hb => C.Magic.later hmg hb hmg.lt
 refine ⟨fun w' hb => ?_, fun w' hb => ?_, fun w' hb => ?_, fun w' hb => ?_, fun ai ci ak ck w' hb hi hk => ?_, fun w' hb => ?_, fun a c w' hb hr hc => ?_, fun w' hb => ?_, fun w' hb => ?_, fun T w' hb hT hs => ?_⟩
 ·have := Check_W (sgG M) t w' (h.ga.later hb) hpc 0 0 hE (h.ta.later hb) hz1
  rw [if_pos rfl, if_pos rfl, gd_run hgd, hsz] at this
  exact this
 ·have := measure_W t w' (h.ta.later hb) hz1
  rw [msU_ht] at this
  have e0 : (leafT (preT t)).length = (lvs t).length := by unfold lvs; rw [List.length_map]
  rw [e0, hsz, hlv, hhg] at this
  exact this
 ·exact (left_W t w' (h.ta.later hb) hz1).mono fun e w'' ⟨vo, q1, q2, _, q4⟩ => by
   obtain ⟨ao, c', rfl, hr⟩ := ilo_row q2
   exact ⟨ao, c', q1, hr, q4⟩
 ·exact (yield_W t w' (h.ta.later hb) hz1).mono fun e w'' ⟨vo, q1, q2, _, q4⟩ => by
   obtain ⟨ao, c, rfl, hr⟩ := tkt_row q2
   exact ⟨ao, c, q1, hr, q4⟩
 ·have := FromLeft_W (pc := ci) (wc := ck) (h.ga.later hb) hpc 0 0 hE hi hk (by omega) (by omega)
  rw [from_of hnd (nds_in t hgd), derive_of hgd hp] at this
  refine this.mono fun e w'' ⟨r1, r2⟩ => ?_
  obtain ⟨T, r3, r4, r5⟩ := ansE_T r2
  exact ⟨T, r5, samV_trans _ _ _ r3 hcs, r4, r1⟩
 ·exact encOk_W he0 (h.ta.later hb) hwt (hmg2 w' hb)
 ·refine (decOk_W hdec (by omega) hr hc (hmg2 w' hb)).mono fun e w'' ⟨u', r1, r2, r3, r4⟩ => ?_
  exact ⟨u', r1, samV_trans _ _ _ r2 hcc, r3, r4⟩
 ·refine (at_W t (List.replicate n 1) 200000 hp1 hnu w' (h.ta.later hb) hz1).mono fun e w'' ⟨T, r1, r2, r3, r4⟩ => ?_
  exact ⟨T, r1, by rw [<- samV_prod r3]; exact hp3, r2⟩
 ·refine (Print_W (sgG M) t w' (h.ga.later hb) hpc 0 0 hE (h.ta.later hb) hz1).mono fun e w'' ⟨r1, r2⟩ => ?_
  have k1 : prEr (sgG M) 0 t = 0 := by unfold prEr; rw [if_pos rfl, gd_run hgd]
  refine ⟨prTx (sgG M) 0 t, ?_, by rw [r1, k1], r2⟩
  unfold prTx
  rw [if_pos k1]
  exact htx
 ·exact same_W hT (h.ta.later hb) hs (by rw [samV_size _ _ hs]; exact hz1)
end Go.Proofs.YtobhemaikomdaaaGreatDoor
