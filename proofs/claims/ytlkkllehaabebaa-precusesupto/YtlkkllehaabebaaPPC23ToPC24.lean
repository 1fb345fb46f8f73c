import Derived.Test.YtlkkllehaabebaaPPC20ToPC22
namespace Go.Proofs.Ytlkkllehaabebaa
set_option linter.unusedVariables false
set_option maxRecDepth 100000
set_option maxHeartbeats 16000000
open Go.RowKit Go.Maps
structure DM where
 d : DV
 ao : Option Addr
 c : Nat
def dCells (x : DM) : List Value := [.int .i64 x.d.look, .int .i64 x.d.kind, .int .i64 x.d.prod, .slice x.ao x.d.drop.length x.c, .bool x.d.sd, .int .i64 x.d.lev]
theorem rkDec : RK 47 59 6 dCells := by
 refine ⟨Try.underlying59, ?_, by decide, fun _ => rfl, fun x u hu => ?_⟩
 ·have h : (Try.prog.info? 47).map (fun i => (i.zero, i.size, i.bytes)) = some (some (.agg #[.int .i64 0, .int .i64 0, .int .i64 0, .slice none 0 0, .bool false, .int .i64 0]), 6, 64) := by kernel_rfl
  cases e : Try.prog.info? 47 with
  | none => rw [e] at h; cases h
  | some i =>
   rw [e] at h
   simp at h
   exact ⟨i, _, rfl, h.1, h.2.1, by rw [h.2.2]; decide, rfl⟩
 ·simp only [dCells, List.mem_cons, List.not_mem_nil, or_false] at hu
  rcases hu with rfl | rfl | rfl | rfl | rfl | rfl <;> rfl
theorem lawK : Keyed Try.prog 44 := int_keyed Try.underlying44
theorem keyOf_K {x : Int} (h0 : 0 <= x) (h1 : x <= 140737488355328) : keyOf Try.prog 44 (.int .i64 x) = some (.int .i64 x) := by
 refine keyOf_int_mk Try.underlying44 ?_
 have e1 : IntKind.i64.min = -9223372036854775808 := by decide
 have e2 : IntKind.i64.max = 9223372036854775807 := by decide
 simp [Lit.wf, e1, e2]
 omega
theorem zeroDs (w : World) : (zeroValue 59).run Try.prog w = .ok (.slice none 0 0) w := by kernel_rfl
def kindM (k : Int) (xs : List DM) : List DM := xs.filter fun x => decide (x.d.kind = k)
structure RS (g : GV) (q : CV) (w0 : World) (jb mb : Nat) (xs : List DM) (f : Int -> Value) (w : World) : Prop where
 cb : w.heap[w0.heap.size]? = some (.cells #[.int .i64 q.st, .int .i64 q.look, .int .i64 q.shift, .slice q.ra q.red.length q.rc] 70 (0, 0))
 rb : w.heap[w0.heap.size + 1]? = some (.cells #[.int .i64 0, .int .i64 0, .int .i64 0, .slice none 0 0, .bool false, .int .i64 0] 47 (0, 0))
 bel : Below w0.heap.size w0 w
 mp : ∃ D, w.ownsMap Try.prog 44 heldE mb xs.length D /\ FMp (.slice none 0 0) D f
 rows : ∀ k, RO 47 6 dCells w (f k) (kindM k xs)
 ne : ∀ k k', k ≠ k' -> ∀ b, (f k).ownBlock = some b -> (f k').ownBlock ≠ some b
 lo : ∀ k b, (f k).ownBlock = some b -> w0.heap.size + 1 < b
 ds : ∀ x ∈ xs, D1 (w0.heap.size + 2) w x.d x.ao x.c
 mlo : w0.heap.size + 1 < mb
theorem RS.mapAt {g : GV} {q : CV} {w0 : World} {jb mb : Nat} {xs : List DM} {f : Int -> Value} {w : World} (h : RS g q w0 jb mb xs f w) : ∃ es cl, w.heap[mb]? = some (.map es cl) := by
 obtain ⟨D, ⟨es, cl, h1, _⟩, _⟩ := h.mp
 exact ⟨es, cl, h1⟩
theorem ownsK_kept {w w' : World} {b n : Nat} {D : DataW Value} (h : w.ownsMap Try.prog 44 heldE b n D) (e : w'.heap[b]? = w.heap[b]?) : w'.ownsMap Try.prog 44 heldE b n D := by
 obtain ⟨es, cl, h1, h2⟩ := h
 exact ⟨es, cl, e.trans h1, h2⟩
theorem RS.later {g : GV} {q : CV} {w0 : World} {jb mb : Nat} {xs : List DM} {f : Int -> Value} {w w' : World} (h : RS g q w0 jb mb xs f w) (hb : Below w.heap.size w w') : RS g q w0 jb mb xs f w' := by
 obtain ⟨es, cl, hm⟩ := h.mapAt
 obtain ⟨D, hD, hF⟩ := h.mp
 exact ⟨blk_later h.cb hb, blk_later h.rb hb, h.bel.trans (hb.mono h.bel.size), ⟨D, ownsK_kept hD (hb.block _ (lt_of_block hm)), hF⟩, fun k => (h.rows k).later hb, h.ne, h.lo, fun x hx => (h.ds x hx).later hb, h.mlo⟩
theorem RS.look {g : GV} {q : CV} {w0 : World} {jb mb : Nat} {xs : List DM} {f : Int -> Value} {w : World} (h : RS g q w0 jb mb xs f w) (k : Int) (h0 : 0 <= k) (h1 : k <= 3) : (Instr.lookup 156 (.map (some mb)) (.int .i64 k) false).run Try.prog w = .ok (f k) w := by
 obtain ⟨D, hD, hF⟩ := h.mp
 obtain ⟨v, ps, hrun, hv⟩ := hD.lookup lawK Try.underlying156 (zeroDs w) (heldE_mk _) (keyOf_K (x := k) (by omega) (by omega))
 rw [hF.at_ k] at hv
 rw [hrun, heldE_inv hv]
theorem RS.start (g : GV) (q : CV) (w0 w : World) (jb : Nat) (hc : w.heap[w0.heap.size]? = some (.cells #[.int .i64 q.st, .int .i64 q.look, .int .i64 q.shift, .slice q.ra q.red.length q.rc] 70 (0, 0))) (hr : w.heap[w0.heap.size + 1]? = some (.cells #[.int .i64 0, .int .i64 0, .int .i64 0, .slice none 0 0, .bool false, .int .i64 0] 47 (0, 0))) (hb : Below w0.heap.size w0 w) : RS g q w0 jb w.heap.size [] (fun _ => .slice none 0 0) (w.alloc (.map #[] 0)) := by
 refine ⟨blk_later hc (below_alloc _ _), blk_later hr (below_alloc _ _), hb.trans ((below_alloc _ _).mono hb.size), ⟨.map [], World.ownsMap_made _ _ _ _, FMp.empty _⟩, fun k => RO.nil _, fun k k' _ b e => ?_, fun k b e => ?_, fun x hx => absurd hx List.not_mem_nil, lt_of_block hr⟩
 ·have : (none : Option Nat) = some b := e
  cases this
 ·have : (none : Option Nat) = some b := e
  cases this
theorem RS.held {g : GV} {q : CV} {w0 : World} {jb mb : Nat} {xs : List DM} {f : Int -> Value} {w w' : World} {v' : Value} {k : Int} (h : RS g q w0 jb mb xs f w) (hg : Grew w w' (f k) v') {b : Nat} {o : Obj} (ho : w.heap[b]? = some o) (hn : ∀ cur fr, o ≠ .cells cur 47 fr) : w'.heap[b]? = some o :=
 grew_ne hg ho fun e => by obtain ⟨cur, fr, q⟩ := (h.rows k).ty e; rw [ho] at q; exact hn cur fr (by simpa using q)
end Go.Proofs.Ytlkkllehaabebaa
namespace Go.Proofs.Ytlkkllehaabebaa
set_option linter.unusedVariables false
set_option maxRecDepth 100000
set_option maxHeartbeats 16000000
open Go.RowKit Go.Maps
end Go.Proofs.Ytlkkllehaabebaa
