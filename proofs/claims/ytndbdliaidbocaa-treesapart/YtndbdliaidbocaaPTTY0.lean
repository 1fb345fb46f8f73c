import Derived.Test.YtndbdliaidbocaaPTT1ToTT2
namespace Go.Proofs.Ytndbdliaidbocaa
set_option linter.unusedVariables false
open Go.RowKit
section
variable {α : Type} {τ σ : TypeId} {k : Nat} {f : α -> List Value}
theorem run_ro_cat (r : RK τ σ k f) (w : World) (ty : TypeId) (v : Value) (l : List α) (h : RO τ k f w v l) (ao : Option Addr) (c : Nat) (xs : List α) (hy : xs ≠ [] -> ∃ b off, ao = some ⟨b, off, none⟩ /\ ∀ j u, (xs.flatMap f)[j]? = some u -> w.cell? ⟨b, off + j, none⟩ = some u) (hlen : l.length + xs.length <= 1000000000) :
  ∃ a' n' c' w', (Builtin.append_ #[σ, σ] ty #[v, .slice ao xs.length c]).run Try.prog w = .ok (.slice a' n' c') w' /\ RO τ k f w' (.slice a' n' c') (l ++ xs) /\ Grew w w' v (.slice a' n' c') := by
 obtain ⟨i0, z0, hi, hz0, hz1, hz2, hz3⟩ := r.info
 cases ao with
 | none =>
  have hz : xs = [] := Classical.byContradiction fun e => by
   obtain ⟨b, off, e1, _⟩ := hy e
   cases e1
  subst hz
  obtain ⟨a, c0, rfl, hc0⟩ := RO.len h
  have hr : (Builtin.append_ #[σ, σ] ty #[.slice a l.length c0, .slice none 0 c]).run Try.prog w = .ok (.slice a l.length c0) w := by
   cases a with
   | none =>
    have hl : l.length = 0 /\ c0 = 0 := by
     rcases h.2 with ⟨q, h0⟩ | ⟨g, cap, cur, q, _⟩
     ·simp at q; exact ⟨by rw [q.1]; rfl, q.2⟩
     ·cases q
    simp [Builtin.append_, run_underlying r.und, sizeOf, typeInfo, zeroValue, hi, hz0, Builtin.lenOf, Builtin.firstCells, hl]
   | some ad => simp [Builtin.append_, run_underlying r.und, sizeOf, typeInfo, zeroValue, hi, hz0, Builtin.lenOf, Builtin.firstCells, storeCells, hc0]
  exact ⟨_, _, _, _, hr, by rw [List.append_nil]; exact h, ⟨⟨rfl, rfl, rfl, Nat.le_refl _, fun _ _ _ => rfl⟩, .inl rfl⟩⟩
 | some ad =>
  have hlim : (l.length + xs.length) * i0.bytes <= 140737488355328 := Nat.le_trans (Nat.mul_le_mul_left _ hz2) (by omega)
  obtain ⟨v', w', hrun, hown, hgrow, _, hmv⟩ := run_append_own_at (P := Try.prog) (w := w) 0 σ ty τ i0 z0 k i0.bytes r.und hi hz0 hz1 rfl hz3 r.pos v l.length (l.flatMap f) h ad xs.length c (xs.flatMap f) (fm_len r.len xs) (fun j u hu => by
    have hne : xs ≠ [] := fun e => by rw [e] at hu; simp at hu
    obtain ⟨b, off, e, q⟩ := hy hne
    cases e
    rw [add_none]
    exact q j u hu) (fun u hu => by
    obtain ⟨x, _, hx⟩ := List.mem_flatMap.1 hu
    exact r.one x u hx) (by unfold maxLen; omega) hlim (Nat.zero_le _)
  have h6 : RO τ k f w' v' (l ++ xs) := by
   unfold RO
   rw [List.flatMap_append, List.length_append]
   exact hown
  obtain ⟨a', c', rfl, _⟩ := RO.len h6
  exact ⟨_, _, _, w', hrun, h6, ⟨hgrow, hmv.imp id fun e => ⟨_, e, Nat.le_refl _⟩⟩⟩
theorem wpList_ro_cat (r : RK τ σ k f) {ops : Array Oper} {rest : List Oper} {o : Oper} {a : Act} {Q : Exit -> Act -> World -> Prop} {w : World} (hgd : o.guard = none) (s x : Operand)
  (ho : o.op = .call { callee := .builtin .append, args := #[s, x], argTypes := #[σ, σ] })
  (v : Value) (l : List α) (hs : a.eval s = v) (h : RO τ k f w v l) (ao : Option Addr) (c : Nat) (xs : List α) (hx : a.eval x = .slice ao xs.length c) (hy : xs ≠ [] -> ∃ b off, ao = some ⟨b, off, none⟩ /\ ∀ j u, (xs.flatMap f)[j]? = some u -> w.cell? ⟨b, off + j, none⟩ = some u) (hlen : l.length + xs.length <= 1000000000)
  (hK : ∀ a' n' c' w', RO τ k f w' (.slice a' n' c') (l ++ xs) -> Grew w w' v (.slice a' n' c') -> wpList Try.prog ops Q rest (a.put o.dst (.slice a' n' c')) w') : wpList Try.prog ops Q (o :: rest) a w := by
 refine wpList_plain hgd fun K hK' => ?_
 obtain ⟨a', n', c', w', hrun, r1, r2⟩ := run_ro_cat r w o.type v l h ao c xs hy hlen
 unfold Oper.wp execOp
 simp only [ho, resolve, invoke, builtin, Sem.run_bind, Sem.run_pure, Result.andThen_ok, List.map_toArray, List.map_cons, List.map_nil, hs, hx, hrun]
 exact hK' _ _ (hK a' n' c' w' r1 r2)
end
def trCells (t : TV) : List Value := [.int .i64 t.prod, .int .i64 t.kind, .string t.tx, .slice t.ka t.kids.length t.kc]
theorem rkTree : RK 31 29 4 trCells := by
 refine ⟨Try.underlying29, ?_, by decide, fun _ => rfl, fun x u hu => ?_⟩
 ·have h : (Try.prog.info? 31).map (fun i => (i.zero, i.size, i.bytes)) = some (some (.agg #[.int .i64 0, .int .i64 0, .string ByteArray.empty, .slice none 0 0]), 4, 56) := by kernel_rfl
  cases e : Try.prog.info? 31 with
  | none => rw [e] at h; cases h
  | some i =>
   rw [e] at h
   simp at h
   exact ⟨i, _, rfl, h.1, h.2.1, by rw [h.2.2]; decide, rfl⟩
 ·simp [trCells] at hu
  rcases hu with rfl | rfl | rfl | rfl <;> rfl
abbrev TRo := RO 31 4 trCells
theorem KRow.src {w : World} {ao : Option Addr} {l : List TV} (h : KRow w ao l) (hne : l ≠ []) : ∃ b off, ao = some ⟨b, off, none⟩ /\ ∀ j u, (l.flatMap trCells)[j]? = some u -> w.cell? ⟨b, off + j, none⟩ = some u := by
 obtain ⟨b, off, e, hb, hc⟩ := h hne
 refine ⟨b, off, e, fun j u hu => ?_⟩
 have hlt : j < (l.flatMap trCells).length := Classical.byContradiction fun q => by
  rw [List.getElem?_eq_none (by omega)] at hu; cases hu
 rw [fm_len (k := 4) (fun _ => rfl) l] at hlt
 obtain ⟨i, m, hi, hm, rfl⟩ : ∃ i m, i < l.length /\ m < 4 /\ j = i * 4 + m := ⟨j / 4, j % 4, by omega, by omega, by omega⟩
 rw [fm_get (k := 4) (fun _ => rfl) l i hi m hm] at hu
 obtain ⟨c0, c1, c2, c3⟩ := hc i hi
 have eg : l.getD i .none = l[i] := by simp [List.getD, hi]
 rw [eg] at c0 c1 c2 c3
 rcases (show m = 0 ∨ m = 1 ∨ m = 2 ∨ m = 3 by omega) with rfl | rfl | rfl | rfl
 ·simp [trCells] at hu; rw [<- hu]; exact c0
 ·simp [trCells] at hu; rw [<- hu, <- Nat.add_assoc]; exact c1
 ·simp [trCells] at hu; rw [<- hu, <- Nat.add_assoc]; exact c2
 ·simp [trCells] at hu; rw [<- hu, <- Nat.add_assoc]; exact c3
end Go.Proofs.Ytndbdliaidbocaa
