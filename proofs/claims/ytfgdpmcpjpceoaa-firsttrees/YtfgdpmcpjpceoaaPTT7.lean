import Derived.Test.YtfgdpmcpjpceoaaPTT6
namespace Go.Proofs.Ytfgdpmcpjpceoaa
set_option linter.unusedVariables false
set_option maxRecDepth 100000
set_option maxHeartbeats 16000000
open Go.RowKit
def upU (P : List SP) (H : List Int) (k t : Nat) : List Int := if (P.getD t .none).t.prod ≠ -1 /\ H.getD t 0 < H.getD k 0 + 1 then H.set t (H.getD k 0 + 1) else H
def paU (P : List SP) (H : List Int) (k : Nat) : List Nat -> List Int
 | [] => H
 | t :: _ => upU P H k t
def clU (P : List SP) (d : Int) : List Nat -> List Int -> List Nat × List Int
 | [], H => ([], H)
 | k :: op, H => if d <= (P.getD k .none).d then clU P d op (paU P H k op) else (k :: op, H)
theorem clU_cons (P : List SP) (d : Int) (k : Nat) (op : List Nat) (H : List Int) : clU P d (k :: op) H = if d <= (P.getD k .none).d then clU P d op (paU P H k op) else (k :: op, H) := rfl
def stU (P : List SP) (S : List Nat × List Int) (i : Nat) : List Nat × List Int := (i :: (clU P (P.getD i .none).d S.1 S.2).1, (clU P (P.getD i .none).d S.1 S.2).2)
def foU (P : List SP) : Nat -> Nat -> List Nat × List Int -> List Nat × List Int
 | 0, _, S => S
 | n + 1, i, S => foU P n (i + 1) (stU P S i)
theorem foU_add (P : List SP) : ∀ (a b i : Nat) (S : List Nat × List Int), foU P (a + b) i S = foU P b (i + a) (foU P a i S)
 | 0, b, i, S => by rw [Nat.zero_add]; rfl
 | a + 1, b, i, S => by
  rw [show a + 1 + b = (a + b) + 1 by omega]
  show foU P (a + b) (i + 1) (stU P S i) = foU P b (i + (a + 1)) (foU P a (i + 1) (stU P S i))
  rw [foU_add P a b (i + 1), show i + 1 + a = i + (a + 1) by omega]
theorem cl_cl (P : List SP) {d d' : Int} (h : d <= d') : ∀ (op : List Nat) (H : List Int), clU P d (clU P d' op H).1 (clU P d' op H).2 = clU P d op H
 | [], H => rfl
 | k :: op, H => by
  by_cases q : d' <= (P.getD k .none).d
  ·rw [clU_cons, if_pos q, cl_cl P h op _]
   conv => rhs; rw [clU_cons, if_pos (Int.le_trans h q)]
  ·conv => lhs; rw [clU_cons, if_neg q]
theorem st_cl (P : List SP) (S : List Nat × List Int) (i : Nat) {d : Int} (h : (P.getD i .none).d <= d) : stU P (clU P d S.1 S.2) i = stU P S i := by
 unfold stU
 rw [cl_cl P h]
theorem up_len (P : List SP) (H : List Int) (k t : Nat) : (upU P H k t).length = H.length := by
 unfold upU
 split
 ·simp
 ·rfl
def Ran (P : List SP) (i : Nat) (op : List Nat) (H : List Int) (x : TV) (d : Int) (S : List Nat × List Int) : Prop :=
 ∃ H', clU P (d + 1) S.1 S.2 = (i :: op, H') /\ H'.length = H.length /\ H'.getD i 0 = (hgT x : Int) /\ ∀ j, j < i ∨ i + (plT d x).length <= j -> H'.getD j 0 = H.getD j 0
def iniU (P : List SP) (j : Nat) : Int := if (P.getD j .none).t.prod = -1 then 0 else 1
theorem getD_setI {H : List Int} {i j : Nat} {v : Int} : (H.set i v).getD j 0 = if i = j /\ j < H.length then v else H.getD j 0 := by
 simp only [List.getD, List.getElem?_set]
 by_cases h1 : i = j
 ·subst h1
  by_cases h2 : i < H.length
  ·simp [h2]
  ·simp [h2]
 ·simp [h1]
theorem ran_kids {P : List SP} {i : Nat} {op : List Nat} {x : TV} {d : Int} (hxi : P[i]? = some ⟨x, d, (0, 0), false⟩) :
  ∀ (ks : List TV), (∀ k ∈ ks, ∀ (i : Nat) (op : List Nat) (H : List Int) (d : Int) (rest : List SP), P.drop i = plT d k ++ rest -> H.length = P.length -> (∀ o op', op = o :: op' -> (P.getD o .none).d < d) -> (∀ j, i <= j -> j < P.length -> H.getD j 0 = iniU P j) -> Ran P i op H k d (foU P (plT d k).length i (op, H))) ->
  ∀ (j : Nat) (H : List Int) (m : Nat) (rest : List SP) (S : List Nat × List Int), P.drop j = plL (d + 1) ks ++ rest -> i < j -> H.length = P.length -> clU P (d + 1) S.1 S.2 = (i :: op, H) -> H.getD i 0 = (if x.prod = -1 then 0 else (m : Int) + 1) -> (∀ q, j <= q -> q < P.length -> H.getD q 0 = iniU P q) ->
  ∃ H', clU P (d + 1) (foU P (plL (d + 1) ks).length j S).1 (foU P (plL (d + 1) ks).length j S).2 = (i :: op, H') /\ H'.length = H.length /\ H'.getD i 0 = (if x.prod = -1 then 0 else ((max m (hgL ks) : Nat) : Int) + 1) /\ ∀ q, q < i ∨ j + (plL (d + 1) ks).length <= q -> H'.getD q 0 = H.getD q 0
 | [], _, j, H, m, rest, S, _, _, _, hS, hH, _ => by
  rw [plL_nil]
  refine ⟨H, hS, rfl, ?_, fun _ _ => rfl⟩
  rw [hH]
  show _ = if x.prod = -1 then 0 else ((max m 0 : Nat) : Int) + 1
  rw [Nat.max_zero]
 | k :: ks, hk, j, H, m, rest, S, hdr, hij, hl, hS, hH, hini => by
  have hgi : P.getD i .none = ⟨x, d, (0, 0), false⟩ := by simp [List.getD, hxi]
  have hil : i < P.length := (List.getElem?_eq_some_iff.1 hxi).1
  rw [plL_cons] at hdr ⊢
  rw [List.append_assoc] at hdr
  have hd0 := hdr
  rw [plT_eq] at hd0
  have hPj : P[j]? = some ⟨k, d + 1, (0, 0), false⟩ := by
   have hj : j < P.length := by
    rcases Nat.lt_or_ge j P.length with q | q
    ·exact q
    ·rw [List.drop_eq_nil_of_le q] at hd0; cases hd0
   have e := List.drop_eq_getElem_cons hj
   rw [hd0] at e
   rw [List.getElem?_eq_getElem hj, <- (List.cons.inj e).1]
  have hgj : P.getD j .none = ⟨k, d + 1, (0, 0), false⟩ := by simp [List.getD, hPj]
  have hjl : j < P.length := (List.getElem?_eq_some_iff.1 hPj).1
  -- the kid, begun where its parent lies open
  have e1 : foU P (plT (d + 1) k).length j S = foU P (plT (d + 1) k).length j (i :: op, H) := by
   obtain ⟨n, hn⟩ : ∃ n, (plT (d + 1) k).length = n + 1 := ⟨(plL (d + 1 + 1) k.kids).length, by rw [plT_eq]; rfl⟩
   rw [hn]
   show foU P n (j + 1) (stU P S j) = foU P n (j + 1) (stU P (i :: op, H) j)
   rw [<- hS, st_cl P S j (by rw [hgj]; exact Int.le_refl _)]
  obtain ⟨H1, a1, a2, a3, a4⟩ := hk k (List.mem_cons_self ..) j (i :: op) H (d + 1) _ hdr hl (fun o op' e => by
   obtain ⟨rfl, _⟩ := List.cons.inj e
   rw [hgi]
   show d < d + 1
   omega) hini
  -- the kid closed
  have c1 : clU P (d + 1) (foU P (plT (d + 1) k).length j S).1 (foU P (plT (d + 1) k).length j S).2 = (i :: op, upU P H1 j i) := by
   rw [e1, <- cl_cl P (show d + 1 <= d + 1 + 1 by omega), a1, clU_cons, if_pos (by rw [hgj]; exact Int.le_refl _)]
   show clU P (d + 1) (i :: op) (upU P H1 j i) = _
   rw [clU_cons, if_neg (by rw [hgi]; show ¬ d + 1 <= d; omega)]
  have hH1i : H1.getD i 0 = H.getD i 0 := a4 i (.inl hij)
  have hup : (upU P H1 j i).getD i 0 = (if x.prod = -1 then 0 else ((max m (hgT k) : Nat) : Int) + 1) := by
   unfold upU
   rw [hgi, hH1i, hH, a3]
   by_cases q : x.prod = -1
   ·rw [if_neg (by rintro ⟨z, _⟩; exact z q), hH1i, hH]
    simp [q]
   ·simp only [q, if_false]
    by_cases z : m < hgT k
    ·rw [if_pos ⟨q, by omega⟩, getD_setI, if_pos ⟨rfl, by omega⟩]
     omega
    ·rw [if_neg (by rintro ⟨_, y⟩; omega), hH1i, hH]
     simp only [q, if_false]
     omega
  have hupq : ∀ q, q ≠ i -> (upU P H1 j i).getD q 0 = H1.getD q 0 := fun q hq => by
   unfold upU
   split
   ·rw [getD_setI, if_neg (by rintro ⟨z, _⟩; exact hq z.symm)]
   ·rfl
  have hdr2 : P.drop (j + (plT (d + 1) k).length) = plL (d + 1) ks ++ rest := by
   rw [<- List.drop_drop, hdr, List.drop_left]
  obtain ⟨H2, b1, b2, b3, b4⟩ := ran_kids hxi ks (fun k' hk' => hk k' (List.mem_cons_of_mem _ hk')) (j + (plT (d + 1) k).length) (upU P H1 j i) (max m (hgT k)) rest _ hdr2 (by omega) (by rw [up_len, a2, hl]) c1 hup (fun q h1 h2 => by
   rw [hupq q (by omega), a4 q (.inr h1)]
   exact hini q (by omega) h2)
  refine ⟨H2, ?_, by rw [b2, up_len, a2], ?_, fun q hq => ?_⟩
  ·rw [List.length_append, foU_add]
   exact b1
  ·rw [b3]
   show _ = if x.prod = -1 then 0 else ((max m (max (hgT k) (hgL ks)) : Nat) : Int) + 1
   rw [Nat.max_assoc]
  ·rw [List.length_append] at hq
   rw [b4 q (by omega), hupq q (by rcases hq with z | z <;> omega), a4 q (by omega)]
theorem ran_tree {P : List SP} (x : TV) : ∀ (i : Nat) (op : List Nat) (H : List Int) (d : Int) (rest : List SP), P.drop i = plT d x ++ rest -> H.length = P.length -> (∀ o op', op = o :: op' -> (P.getD o .none).d < d) -> (∀ j, i <= j -> j < P.length -> H.getD j 0 = iniU P j) -> Ran P i op H x d (foU P (plT d x).length i (op, H)) := by
 induction x using TV.ind with
 | h x ih =>
  intro i op H d rest hdr hl hop hini
  have hd0 := hdr
  rw [plT_eq] at hd0
  have hi : i < P.length := by
   rcases Nat.lt_or_ge i P.length with q | q
   ·exact q
   ·rw [List.drop_eq_nil_of_le q] at hd0; cases hd0
  have e := List.drop_eq_getElem_cons hi
  rw [hd0] at e
  obtain ⟨e1, e2⟩ := List.cons.inj e
  have hPi : P[i]? = some ⟨x, d, (0, 0), false⟩ := by rw [List.getElem?_eq_getElem hi, <- e1]
  have hgi : P.getD i .none = ⟨x, d, (0, 0), false⟩ := by simp [List.getD, hPi]
  have hcl : clU P d op H = (op, H) := by
   cases op with
   | nil => rfl
   | cons o op' => rw [clU_cons, if_neg (by have := hop o op' rfl; omega)]
  have hst : stU P (op, H) i = (i :: op, H) := by
   unfold stU
   rw [hgi]
   show (i :: (clU P d op H).1, (clU P d op H).2) = _
   rw [hcl]
  have hini0 : H.getD i 0 = (if x.prod = -1 then 0 else ((0 : Nat) : Int) + 1) := by
   rw [hini i (Nat.le_refl _) hi]
   unfold iniU
   rw [hgi]
   rfl
  obtain ⟨H', b1, b2, b3, b4⟩ := ran_kids hPi x.kids ih (i + 1) H 0 rest (i :: op, H) e2.symm (by omega) hl (by
   rw [clU_cons, if_neg (by rw [hgi]; show ¬ d + 1 <= d; omega)]) hini0 (fun q h1 h2 => hini q (by omega) h2)
  have hn : (plT d x).length = (plL (d + 1) x.kids).length + 1 := by rw [plT_eq]; rfl
  refine ⟨H', ?_, b2, ?_, fun q hq => ?_⟩
  ·rw [hn]
   show clU P (d + 1) (foU P (plL (d + 1) x.kids).length (i + 1) (stU P (op, H) i)).1 (foU P (plL (d + 1) x.kids).length (i + 1) (stU P (op, H) i)).2 = _
   rw [hst]
   exact b1
  ·rw [b3, hgT_eq]
   split
   ·rfl
   ·rw [Nat.zero_max]
    omega
  ·rw [hn] at hq
   exact b4 q (by omega)
end Go.Proofs.Ytfgdpmcpjpceoaa
