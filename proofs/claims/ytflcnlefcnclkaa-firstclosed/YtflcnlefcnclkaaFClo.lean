import Derived.Test.YtflcnlefcnclkaaFWrk
namespace Go.Proofs.Ytflcnlefcnclkaa
set_option linter.unusedVariables false
open Go.RowKit

/-- A box that stays where it was laid. -/
theorem box_on {w w' : World} {b : Nat} {o : Obj} (h : w.heap[b]? = some o) (hb : Below w.heap.size w w') : w'.heap[b]? = some o := (hb.block b (lt_of_block h)).trans h
set_option maxRecDepth 100000 in
set_option maxHeartbeats 4000000 in
theorem closed_no (g : GV) (na fa : Option Addr) (n nc m fc : Nat) (w : World) (h : GAt 140737488355328 w g) (hpc : g.ps.length ≤ g.pc) (er at_ : Int) (hE : checkG g (checkF g.ts g.ns) = (er, at_)) (h0 : er ≠ 0) :
    Calls Try.prog 3 #[g.val, .slice na n nc, .slice fa m fc] w fun e w' => e = .returned (.bool true) ∧ Below w.heap.size w w' := by
  have X0 : Hid ((w.alloc (gBox g)).heap[w.heap.size]? = some (gBox g)) := heap_alloc_new _ _
  have NC : Hid (∀ w', Below w.heap.size w w' → Calls Try.prog 5 #[g.val] w' fun e w'' => e = .returned (.tuple #[.slice none 0 0, .int .i64 er]) ∧ Below w'.heap.size w' w'') := fun w' hb => nullable_no g w' (h.later hb) hpc er at_ hE h0
  have FC : Hid (∀ w', Below w.heap.size w w' → Calls Try.prog 6 #[g.val] w' fun e w'' => e = .returned (.tuple #[.slice none 0 0, .int .i64 er]) ∧ Below w'.heap.size w' w'') := fun w' hb => first_no g w' (h.later hb) hpc er at_ hE h0
  have t1 : (er != 0) = true := by simpa using h0
  have t2 : (er != er) = false := by simp
  clear h hE h0
  go_enter Try.func3, Try.ntmps3
  go_wp2_with (first
    | (go_at_call 4; refine (works_S _).mono ?_; rintro e w1 ⟨rfl, b1⟩; have B1 : Hid (Below w.heap.size w w1 ∧ w1.heap[w.heap.size]? = some (gBox g)) := ⟨(below_alloc w _).trans (b1.mono (below_alloc w _).size), box_on X0.out b1⟩; clear b1; obtain ⟨x0, x1, x2, x3, x4⟩ := gb_cells B1.out.2)
    | (go_at_call 5; refine (NC.out _ B1.out.1).mono ?_; rintro e w2 ⟨rfl, b2⟩; have B2 : Hid (Below w.heap.size w w2 ∧ w2.heap[w.heap.size]? = some (gBox g)) := ⟨B1.out.1.trans (b2.mono B1.out.1.size), box_on B1.out.2 b2⟩; clear b2 x0 x1 x2 x3 x4; obtain ⟨x0, x1, x2, x3, x4⟩ := gb_cells B2.out.2)
    | (go_at_call 6; refine (FC.out _ B2.out.1).mono ?_; rintro e w3 ⟨rfl, b3⟩; have B3 : Hid (Below w.heap.size w w3) := B2.out.1.trans (b3.mono B2.out.1.size); clear b3 x0 x1 x2 x3 x4))
  go_ret
  exact ⟨rfl, B3.out⟩
/-- What FirstClosed asks where the grammar may be. -/
structure CloF (g : GV) (w : World) (na fa : Option Addr) (nc fc : Nat) (N : List Bool) (L : List (List Int)) : Prop where
  nul : ∀ w', Below w.heap.size w w' → Calls Try.prog 5 #[g.val] w' fun e w'' => ∃ nb, e = .returned (.tuple #[.slice (some ⟨nb, 0, none⟩) g.ns.length g.ns.length, .int .i64 0]) ∧ BRow w'' (some ⟨nb, 0, none⟩) (nullU g.ps g.ns.length) ∧ Below w'.heap.size w' w''
  fst : ∀ w', Below w.heap.size w w' → Calls Try.prog 6 #[g.val] w' fun e w'' => ∃ b F, LeastF g F ∧ e = .returned (.tuple #[.slice (some ⟨b, 0, none⟩) g.ns.length g.ns.length, .int .i64 0]) ∧ LsRow w'' (some ⟨b, 0, none⟩) (listsU F) ∧ Below w'.heap.size w' w''
  chk : ∀ w' nb, Below w.heap.size w w' → BRow w' (some ⟨nb, 0, none⟩) (nullU g.ps g.ns.length) → Calls Try.prog 7 #[g.val, .slice (some ⟨nb, 0, none⟩) g.ns.length g.ns.length] w' fun e w'' => e = .returned (.tuple #[.int .i64 0, .int .i64 0]) ∧ Below w'.heap.size w' w''
  chf : ∀ w' nb b F, Below w.heap.size w w' → BRow w' (some ⟨nb, 0, none⟩) (nullU g.ps g.ns.length) → LeastF g F → LsRow w' (some ⟨b, 0, none⟩) (listsU F) → Calls Try.prog 8 #[g.val, .slice (some ⟨nb, 0, none⟩) g.ns.length g.ns.length, .slice (some ⟨b, 0, none⟩) g.ns.length g.ns.length] w' fun e w'' => e = .returned (.tuple #[.int .i64 0, .int .i64 0]) ∧ Below w'.heap.size w' w''
  chk2 : ∀ w', Below w.heap.size w w' → Calls Try.prog 7 #[g.val, .slice na N.length nc] w' fun e w'' => e = .returned (.tuple #[.int .i64 (chkNU g N 0).1, .int .i64 (chkNU g N 0).2]) ∧ Below w'.heap.size w' w''
  chf2 : ∀ w', Below w.heap.size w w' → Calls Try.prog 8 #[g.val, .slice na N.length nc, .slice fa L.length fc] w' fun e w'' => e = .returned (.tuple #[.int .i64 (chkFU g N L 0).1, .int .i64 (chkFU g N L 0).2]) ∧ Below w'.heap.size w' w''
  nrow : ∀ w', Below w.heap.size w w' → BRow w' na N
  lrow : ∀ w', Below w.heap.size w w' → LsRow w' fa L
  nl : g.ns.length ≤ 64
  lens : ∀ F, LeastF g F → (listsU F).length = g.ns.length ∧ ∀ l ∈ listsU F, l.length ≤ 128
  has : (chkNU g N 0).1 = 0 → N.length = g.ns.length ∧ ∀ i, (nullU g.ps g.ns.length).getD i false = true → N.getD i false = true
  part : ∀ F, LeastF g F → (chkNU g N 0).1 = 0 → (chkFU g N L 0).1 = 0 → L.length = g.ns.length ∧ ∀ k, k < g.ns.length → partL ((listsU F).getD k []) (L.getD k []) = true
theorem clo_of (g : GV) (na fa : Option Addr) (nc fc : Nat) (N : List Bool) (L : List (List Int)) (w : World) (h : GAt 140737488355328 w g) (hpc : g.ps.length ≤ g.pc) (at_ : Int) (hE : checkG g (checkF g.ts g.ns) = (0, at_)) (hN : BRow w na N) (hL : LsRow w fa L) (hll : ∀ l ∈ L, l.length ≤ 140737488355328) : CloF g w na fa nc fc N L := by
  have ok : OkC g := OkC.of (by rw [hE])
  have gp : GP g := (ok.fg h).gp
  have hnl : (nullU g.ps g.ns.length).length = g.ns.length := nullU_len _ _
  have hle : ∀ F, LeastF g F → (listsU F).length = g.ns.length ∧ ∀ l ∈ listsU F, l.length ≤ 128 := fun F hF => by
    obtain ⟨_, _, _, _, e⟩ := hF
    refine ⟨by simp [listsU, e], fun l hl => ?_⟩
    obtain ⟨s, _, rfl⟩ := List.mem_map.1 hl
    exact listS_len s 128
  have hn0 : (chkNU g N 0).1 = 0 → N.length = g.ns.length ∧ (chkN N g.ps).1 = 0 := fun q => by
    by_cases e : N.length = g.ns.length
    · refine ⟨e, ?_⟩
      rw [chkNU, if_neg (by simp [askU, e])] at q
      exact q
    · rw [chkNU, if_pos (by simp [askU, e])] at q
      simp [askU, e] at q
  refine ⟨fun w' hb => ?_, fun w' hb => ?_, fun w' nb hb hB => ?_, fun w' nb b F hb hB hF hLs => ?_, fun w' hb => ?_, fun w' hb => ?_, fun w' hb => hN.later hb, fun w' hb => hL.later hb, ok.nl.2, hle, fun q => ⟨(hn0 q).1, null_least (hn0 q).2⟩, fun F hF q1 q2 => ?_⟩
  · refine (nullable_ok g w' (h.later hb) hpc at_ hE).mono ?_
    rintro e w'' ⟨nb, q1, q2, _, q4⟩
    exact ⟨nb, q1, q2.row, q4⟩
  · refine (first_ok g w' (h.later hb) hpc at_ hE).mono ?_
    rintro e w'' ⟨b, F, hF, q1, q2, _, q4⟩
    exact ⟨b, F, hF, q1, LLk.row (by rw [(hle F hF).1]; exact q2), q4⟩
  · have := chkNull_ok g (some ⟨nb, 0, none⟩) g.ns.length (nullU g.ps g.ns.length) w' (h.later hb) hpc at_ hE hB hnl
    rw [null_chk gp, hnl] at this
    exact this
  · have := chkFirst_ok g (some ⟨nb, 0, none⟩) g.ns.length (nullU g.ps g.ns.length) (some ⟨b, 0, none⟩) g.ns.length (listsU F) w' (h.later hb) hpc at_ hE hB hnl hLs (hle F hF).1 (fun l hl => Nat.le_trans ((hle F hF).2 l hl) (by decide))
    rw [hF.chk gp, hnl, (hle F hF).1] at this
    exact this
  · exact chkNull_S g na nc N w' (h.later hb) hpc 0 at_ hE (hN.later hb)
  · exact chkFirst_S g na nc N fa fc L w' (h.later hb) hpc 0 at_ hE (hN.later hb) (hL.later hb) hll
  · have h1 := hn0 q1
    by_cases e : L.length = g.ns.length
    · rw [chkFU, if_neg (by simp [askC, askU, e, h1.1])] at q2
      exact ⟨e, fun k hk => partL_of (least_part gp hF h1.1 h1.2 q2 e k hk)⟩
    · rw [chkFU, if_pos (by simp [askC, askU, e, h1.1])] at q2
      simp [askC, askU, e, h1.1] at q2
theorem run_pt2 {o : Oper} {a : Act} {t0 t1 : TypeId} {v0 v1 : Value} {x0 x1 : Operand} (hop : o.op = Op.call { callee := Callee.value (Operand.func 9), args := #[x0, x1], argTypes := #[t0, t1] }) (h0 : a.eval x0 = v0) (h1 : a.eval x1 = v1) (w : World) : (execOp a.eval o).run Try.prog w = .ok (.enter 9 #[v0, v1]) w := by
  have hf : a.eval (Operand.func 9) = .func (.func 9) #[] #[] := rfl
  simp [execOp, hop, resolve, invoke, h0, h1, hf, Deferred.ofValue]
end Go.Proofs.Ytflcnlefcnclkaa
