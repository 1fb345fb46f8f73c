import Derived.Test.YteciabdjkaackaaGreatPUB2
namespace Go.Proofs.YteciabdjkaackaaGreat
set_option linter.unusedVariables false
open Go.RowKit
theorem ro_part {α : Type} {τ : TypeId} {k : Nat} {f : α -> List Value} {w : World} {a : Option Addr} {n c : Nat} {A X B : List α} (hf : ∀ x, (f x).length = k) (h0 : 0 < k) (h : RO τ k f w (.slice a n c) (A ++ (X ++ B))) (hX : X ≠ []) : ∃ b, a = some ⟨b, 0, none⟩ /\ ∀ j u, (X.flatMap f)[j]? = some u -> w.cell? ⟨b, A.length * k + j, none⟩ = some u := by
 have hp := List.length_pos_iff.2 hX
 have hlt : ∀ i, i < X.length -> A.length + i < (A ++ (X ++ B)).length := fun i hi => by simp; omega
 obtain ⟨b, c', e, -, -⟩ := RO.cell hf h (hlt 0 hp)
 simp only [Value.slice.injEq] at e
 obtain ⟨rfl, -, -⟩ := e
 refine ⟨b, rfl, fun j u hu => ?_⟩
 have hj : j < X.length * k := by
  by_cases q : j < X.length * k
  ·exact q
  ·rw [List.getElem?_eq_none (by rw [fm_len hf]; omega)] at hu
   cases hu
 have hi : j / k < X.length := Nat.div_lt_of_lt_mul (by rw [Nat.mul_comm]; exact hj)
 have hr := Nat.mod_lt j h0
 have ej : j = j / k * k + j % k := by rw [Nat.mul_comm]; exact (Nat.div_add_mod j k).symm
 obtain ⟨b', c', e, -, hc⟩ := RO.cell hf h (hlt _ hi)
 simp only [Value.slice.injEq, Option.some.injEq, Addr.mk.injEq, and_true] at e
 obtain ⟨rfl, -, -⟩ := e
 have h1 := hc _ hr
 have eg : (A ++ (X ++ B))[A.length + j / k]'(hlt _ hi) = X[j / k] := by
  rw [List.getElem_append_right (Nat.le_add_right _ _)]
  simp only [Nat.add_sub_cancel_left]
  exact List.getElem_append_left hi
 rw [eg, <- fm_get hf X _ hi _ hr, <- ej, hu] at h1
 rw [<- h1]
 congr 2
 rw [Nat.add_mul]
 conv => rhs; rw [Nat.add_assoc, <- ej]
theorem slice_toF (a : Option Addr) (lc len i : Nat) (hi : i <= lc) (h0 : a = none -> lc = 0) (h1 : ∀ ad, a = some ad -> ad = ⟨ad.block, 0, none⟩) (w : World) : (Instr.slice 86 (.slice a len lc) none (some (.int .i64 (i : Int))) none).run Tryz.prog w = .ok (.slice a i lc) w := by
 obtain ⟨i0, z, hinf, _, hz1, _⟩ := rkFlat.info
 have hu : Tryz.prog.underlying 86 = some (.slice (Tryz.prog.elem 86)) := by kernel_rfl
 have he : Tryz.prog.elem 86 = 128 := by kernel_rfl
 have := run_slice_h (P := Tryz.prog) (w := w) 86 a len lc hu .i64 (i : Int) (by omega) (by omega)
 rw [this, he]
 simp [sizeOf, typeInfo, hinf, hz1]
 unfold sliced
 cases a with
 | none => simp
 | some ad =>
  rw [h1 ad rfl]
  split <;> simp [add_none]
theorem pre_path : ∀ (π : List Nat) (t : TV), okP π t -> (preT t)[nuP π t]? = some (getAt π t)
 | [], t, _ => by rw [preT_eq]; rfl
 | i :: π, t, h => by
  obtain ⟨h1, h2⟩ := h
  have ih := pre_path π _ h2
  have eg : t.kids.getD i TV.none = t.kids[i] := by simp [List.getD, h1]
  rw [preT_eq]
  show (t :: preL t.kids)[1 + szL (t.kids.take i) + nuP π (t.kids.getD i TV.none)]? = some (getAt π (t.kids.getD i TV.none))
  rw [Nat.add_assoc, Nat.add_comm 1, List.getElem?_cons_succ]
  have ek : preL t.kids = preL (t.kids.take i) ++ (preT (t.kids.getD i TV.none) ++ preL (t.kids.drop (i + 1))) := by
   conv => lhs; rw [cut3' h1]
   rw [preL_app, preL_app, preL_one, List.append_assoc, eg]
  rw [ek, List.getElem?_append_right (by rw [preL_len]; omega), preL_len, Nat.add_sub_cancel_left]
  rw [List.getElem?_append_left (by
   have := List.getElem?_eq_some_iff.1 ih
   exact this.1)]
  exact ih
theorem graft_sgs {t s : TV} {π : List Nat} (hok : okP π t) {A B : List SP} {d : Int} {x : TV} (hP : plT 0 t = A ++ (plT d x ++ B)) (hA : A.length = nuP π t) : (A ++ (plT 0 s ++ B)).map (fun y => sgV y.t) = sgs (setAt π t s) := by
 obtain ⟨A', B', q1, q2, q3⟩ := pre_set π t hok
 have hm : ∀ (e : Int) (u : TV), (plT e u).map (fun y => sgV y.t) = (preT u).map sgV := fun e u => by
  rw [<- pre_depth e u, List.map_map]
  rfl
 have hx : x = getAt π t := by
  have h1 := pre_path π t hok
  rw [<- pre_depth 0 t, hP, <- hA, List.map_append, List.getElem?_append_right (by simp), List.map_append, pre_depth, preT_eq] at h1
  simp at h1
  exact h1
 have h1 := hm 0 t
 rw [hP, List.map_append, List.map_append, hm, q2, hx, List.append_assoc] at h1
 obtain ⟨r1, r2⟩ := List.append_inj h1 (by rw [List.length_map, hA, q1])
 obtain ⟨-, r4⟩ := List.append_inj r2 rfl
 have h2 := q3 s
 unfold sgs
 rw [h2, List.map_append, List.map_append, hm, r1, r4, List.append_assoc]
end Go.Proofs.YteciabdjkaackaaGreat
