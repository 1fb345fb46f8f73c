import Derived.Test.YtndbdliaidbocaaPGRulesToGIn2
import Derived.Test.YtndbdliaidbocaaPGBulk
namespace Go.Proofs.Ytndbdliaidbocaa
set_option linter.unusedVariables false
open Go.RowKit
abbrev TV := DataW (Int × Int × ByteArray × Option Addr × Nat)
def TV.mk (prod kind : Int) (tx : ByteArray) (ka : Option Addr) (kc : Nat) (kids : List TV) : TV := DataW.agg (DataW.held (prod, kind, tx, ka, kc) :: kids)
def TV.pay : TV -> Int × Int × ByteArray × Option Addr × Nat
 | .agg (.held x :: _) => x
 | _ => (0, 0, ByteArray.empty, Option.none, 0)
def TV.prod (t : TV) : Int := (TV.pay t).1
def TV.kind (t : TV) : Int := (TV.pay t).2.1
def TV.tx (t : TV) : ByteArray := (TV.pay t).2.2.1
def TV.ka (t : TV) : Option Addr := (TV.pay t).2.2.2.1
def TV.kc (t : TV) : Nat := (TV.pay t).2.2.2.2
def TV.kids : TV -> List TV
 | .agg (.held _ :: l) => l
 | _ => []
def TV.none : TV := TV.mk 0 0 ByteArray.empty Option.none 0 []
def tsz (t : TV) : Nat := Rows.uptoBulk t
theorem tsz_pos (t : TV) : 0 < tsz t := gbulk_pos t
theorem kid_lt {t k : TV} (h : k ∈ TV.kids t) : tsz k < tsz t := by
 unfold TV.kids at h
 split at h
 ·have := gbulk_mem h
  simp only [tsz, Rows.uptoBulk, Rows.uptoBulkAll]
  omega
 ·cases h
theorem TV.ind {P : TV -> Prop} (h : ∀ t : TV, (∀ k ∈ TV.kids t, P k) -> P t) (t : TV) : P t := by
 have : ∀ (n : Nat) (t : TV), tsz t <= n -> P t := by
  intro n
  induction n with
  | zero => intro t ht; have := tsz_pos t; omega
  | succ n ih => intro t ht; exact h t (fun k hk => ih k (by have := kid_lt hk; omega))
 exact this _ t (Nat.le_refl _)
theorem fm_congr {α β : Type} {f f' : α -> List β} : ∀ (l : List α), (∀ x ∈ l, f x = f' x) -> l.flatMap f = l.flatMap f'
 | [], _ => rfl
 | x :: l, h => by rw [List.flatMap_cons, List.flatMap_cons, h x (List.mem_cons_self ..), fm_congr l (fun y hy => h y (List.mem_cons_of_mem _ hy))]
structure SP where
 t : TV
 d : Int
 s : Int × Int
 u : Bool
def SP.none : SP := ⟨.none, 0, (0, 0), false⟩
def plF : Nat -> Int -> TV -> List SP
 | 0, _, _ => []
 | n + 1, d, t => ⟨t, d, (0, 0), false⟩ :: (TV.kids t).flatMap (plF n (d + 1))
def plT (d : Int) (t : TV) : List SP := plF (tsz t) d t
def plL (d : Int) (l : List TV) : List SP := l.flatMap (plT d)
theorem plF_any : ∀ (n m : Nat) (t : TV) (d : Int), tsz t <= n -> tsz t <= m -> plF n d t = plF m d t
 | 0, _, t, _, h, _ => by have := tsz_pos t; omega
 | _ + 1, 0, t, _, _, h => by have := tsz_pos t; omega
 | n + 1, m + 1, t, d, h, h' => by
  rw [plF, plF]
  congr 1
  exact fm_congr _ (fun k hk => plF_any n m k (d + 1) (by have := kid_lt hk; omega) (by have := kid_lt hk; omega))
theorem plT_eq (d : Int) (t : TV) : plT d t = ⟨t, d, (0, 0), false⟩ :: plL (d + 1) (TV.kids t) := by
 obtain ⟨n, hn⟩ : ∃ n, tsz t = n + 1 := ⟨tsz t - 1, by have := tsz_pos t; omega⟩
 unfold plT plL
 rw [hn, plF]
 congr 1
 exact fm_congr _ (fun k hk => plF_any _ _ k (d + 1) (by have := kid_lt hk; omega) (Nat.le_refl _))
theorem plL_nil (d : Int) : plL d [] = [] := rfl
theorem plL_cons (d : Int) (t : TV) (l : List TV) : plL d (t :: l) = plT d t ++ plL d l := rfl
def ckK : List (Int × Int) -> List TV -> List SP
 | _, [] => []
 | r, t :: l => ⟨t, 0, r.headD (0, 0), true⟩ :: ckK r.tail l
theorem ckK_mem : ∀ (r : List (Int × Int)) (l : List TV) (x : SP), x ∈ ckK r l -> x.t ∈ l /\ x.d = 0
 | _, [], _, h => by cases h
 | r, t :: l, x, h => by
  rw [ckK] at h
  rcases List.mem_cons.1 h with rfl | h
  ·exact ⟨List.mem_cons_self .., rfl⟩
  ·obtain ⟨h1, h2⟩ := ckK_mem r.tail l x h
   exact ⟨List.mem_cons_of_mem _ h1, h2⟩
def rightU (g : GV) (t : TV) : List (Int × Int) := (g.ps.getD (TV.prod t).toNat .none).right
def ckF (g : GV) : Nat -> Int × Int -> Bool -> TV -> List SP
 | 0, _, _, _ => []
 | n + 1, s, u, t => ⟨t, 0, s, u⟩ :: (ckK (rightU g t) (TV.kids t)).flatMap fun x => ckF g n x.s x.u x.t
def ckT (g : GV) (s : Int × Int) (u : Bool) (t : TV) : List SP := ckF g (tsz t) s u t
def ckL (g : GV) (r : List (Int × Int)) (l : List TV) : List SP := (ckK r l).flatMap fun x => ckT g x.s x.u x.t
theorem ckF_any (g : GV) : ∀ (n m : Nat) (t : TV) (s : Int × Int) (u : Bool), tsz t <= n -> tsz t <= m -> ckF g n s u t = ckF g m s u t
 | 0, _, t, _, _, h, _ => by have := tsz_pos t; omega
 | _ + 1, 0, t, _, _, _, h => by have := tsz_pos t; omega
 | n + 1, m + 1, t, s, u, h, h' => by
  rw [ckF, ckF]
  congr 1
  exact fm_congr _ (fun x hx => ckF_any g n m x.t x.s x.u (by have := kid_lt (ckK_mem _ _ x hx).1; omega) (by have := kid_lt (ckK_mem _ _ x hx).1; omega))
theorem ckT_eq (g : GV) (s : Int × Int) (u : Bool) (t : TV) : ckT g s u t = ⟨t, 0, s, u⟩ :: ckL g (rightU g t) (TV.kids t) := by
 obtain ⟨n, hn⟩ : ∃ n, tsz t = n + 1 := ⟨tsz t - 1, by have := tsz_pos t; omega⟩
 unfold ckT ckL
 rw [hn, ckF]
 congr 1
 exact fm_congr _ (fun x hx => ckF_any g _ _ x.t x.s x.u (by have := kid_lt (ckK_mem _ _ x hx).1; omega) (Nat.le_refl _))
theorem ckL_cons (g : GV) (r : List (Int × Int)) (t : TV) (l : List TV) : ckL g r (t :: l) = ckT g (r.headD (0, 0)) true t ++ ckL g r.tail l := rfl
def alTU (g : GV) (t : TV) : Int :=
 if t.prod = -1 then (if t.kind < 0 ∨ (g.ts.length : Int) <= t.kind ∨ 0 < t.kids.length then 82 else 0)
 else if t.prod < 0 ∨ (g.ps.length : Int) <= t.prod ∨ t.kind ≠ 0 ∨ t.tx.toList ≠ [] ∨ t.kids.length ≠ (rightU g t).length then 81 else 0
def rootU (g : GV) (t : TV) : Int × Int :=
 if t.prod = -1 /\ 0 <= t.kind /\ t.kind < g.ts.length then (1, t.kind)
 else if 0 <= t.prod /\ t.prod < g.ps.length then (2, (g.ps.getD t.prod.toNat .none).left) else (0, 0)
def erU (g : GV) (x : SP) : Int :=
 if alTU g x.t ≠ 0 then alTU g x.t else if x.u = true /\ rootU g x.t ≠ x.s then (if x.s.1 = 1 ∨ x.t.prod = -1 then 82 else 81) else 0
def runU (g : GV) : List SP -> Nat -> Int × Nat
 | [], n => (0, n)
 | x :: l, n => if erU g x ≠ 0 then (erU g x, n) else runU g l (n + 1)
theorem runU_zero {g : GV} : ∀ (l : List SP) (n : Nat), (runU g l n).1 = 0 -> ∀ x ∈ l, erU g x = 0
 | [], _, _, x, hx => by cases hx
 | y :: l, n, h, x, hx => by
  rw [runU] at h
  split at h
  ·rename_i q
   exact absurd h q
  ·rename_i q
   rcases List.mem_cons.1 hx with rfl | hx
   ·exact Decidable.of_not_not q
   ·exact runU_zero l (n + 1) h x hx
def AllP (P : TV -> Prop) (t : TV) : Prop := ∀ d, ∀ y ∈ plT d t, P y.t
theorem plL_in {d : Int} {y : SP} : ∀ (l : List TV), y ∈ plL d l -> ∃ k ∈ l, y ∈ plT d k
 | [], h => by rw [plL_nil] at h; cases h
 | t :: l, h => by
  rw [plL_cons] at h
  rcases List.mem_append.1 h with q | q
  ·exact ⟨t, List.mem_cons_self .., q⟩
  ·obtain ⟨k, hk, hy⟩ := plL_in l q
   exact ⟨k, List.mem_cons_of_mem _ hk, hy⟩
theorem plL_of {d : Int} {y : SP} {k : TV} : ∀ (l : List TV), k ∈ l -> y ∈ plT d k -> y ∈ plL d l
 | [], h, _ => by cases h
 | t :: l, h, hy => by
  rw [plL_cons]
  rcases List.mem_cons.1 h with rfl | h
  ·exact List.mem_append_left _ hy
  ·exact List.mem_append_right _ (plL_of l h hy)
theorem AllP.mk {P : TV -> Prop} {t : TV} (h : P t) (hk : ∀ k ∈ TV.kids t, AllP P k) : AllP P t := fun d y hy => by
 rw [plT_eq] at hy
 rcases List.mem_cons.1 hy with rfl | hy
 ·exact h
 ·obtain ⟨k, hm, hy⟩ := plL_in _ hy
  exact hk k hm _ y hy
theorem AllP.here {P : TV -> Prop} {t : TV} (h : AllP P t) : P t := h 0 ⟨t, 0, (0, 0), false⟩ (by rw [plT_eq]; exact List.mem_cons_self ..)
theorem AllP.kid {P : TV -> Prop} {t : TV} (h : AllP P t) : ∀ k ∈ TV.kids t, AllP P k := fun k hk d y hy => h (d - 1) y (by
 rw [plT_eq, show d - 1 + 1 = d by omega]
 exact List.mem_cons_of_mem _ (plL_of _ hk hy))
def RT1 (g : GV) (t : TV) : Prop := (TV.prod t = -1 /\ 0 <= TV.kind t /\ TV.kind t < g.ts.length /\ TV.kids t = []) ∨ (0 <= TV.prod t /\ TV.prod t < g.ps.length /\ (TV.kids t).map (rootU g) = rightU g t)
def RT (g : GV) (t : TV) : Prop := AllP (RT1 g) t
theorem RT.leaf {g : GV} (t : TV) (h1 : TV.prod t = -1) (h2 : 0 <= TV.kind t) (h3 : TV.kind t < g.ts.length) (h4 : TV.kids t = []) : RT g t := AllP.mk (.inl ⟨h1, h2, h3, h4⟩) (fun k hk => by rw [h4] at hk; cases hk)
theorem RT.node {g : GV} (t : TV) (h0 : 0 <= TV.prod t) (h1 : TV.prod t < g.ps.length) (h2 : (TV.kids t).map (rootU g) = rightU g t) (hk : ∀ k ∈ TV.kids t, RT g k) : RT g t := AllP.mk (.inr ⟨h0, h1, h2⟩) hk
theorem RT.ind {g : GV} {motive : (t : TV) -> RT g t -> Prop} (leaf : ∀ (t : TV) (h1 : TV.prod t = -1) (h2 : 0 <= TV.kind t) (h3 : TV.kind t < g.ts.length) (h4 : TV.kids t = []), motive t (RT.leaf t h1 h2 h3 h4))
  (node : ∀ (t : TV) (h0 : 0 <= TV.prod t) (h1 : TV.prod t < g.ps.length) (h2 : (TV.kids t).map (rootU g) = rightU g t) (hk : ∀ k ∈ TV.kids t, RT g k), (∀ k (hm : k ∈ TV.kids t), motive k (hk k hm)) -> motive t (RT.node t h0 h1 h2 hk)) {t : TV} (h : RT g t) : motive t h := by
 revert h
 induction t using TV.ind with
 | h t ih =>
  intro h
  rcases AllP.here h with ⟨a, b, c, d⟩ | ⟨a, b, c⟩
  ·exact leaf t a b c d
  ·exact node t a b c (AllP.kid h) (fun k hm => ih k hm (AllP.kid h k hm))
theorem ckL_roots {g : GV} : ∀ (r : List (Int × Int)) (l : List TV), l.length = r.length -> (∀ x ∈ ckL g r l, erU g x = 0) -> l.map (rootU g) = r
 | [], [], _, _ => rfl
 | [], t :: l, e, _ => by simp at e
 | s :: r, [], e, _ => by simp at e
 | s :: r, t :: l, e, h => by
  rw [ckL_cons, ckT_eq] at h
  have h1 := h ⟨t, 0, s, true⟩ (by simp)
  have h2 := ckL_roots r l (by simpa using e) (fun x hx => h x (List.mem_append_right _ hx))
  rw [List.map_cons, h2]
  congr 1
  unfold erU at h1
  by_cases q : alTU g t = 0
  ·rw [if_neg (by simpa using q)] at h1
   by_cases q2 : rootU g t = s
   ·exact q2
   ·rw [if_pos ⟨rfl, q2⟩] at h1
    split at h1 <;> cases h1
  ·rw [if_pos q] at h1
   exact absurd h1 q
theorem ckL_mem {g : GV} : ∀ (r : List (Int × Int)) (l : List TV) (k : TV), k ∈ l -> ∃ s, ∀ x ∈ ckT g s true k, x ∈ ckL g r l
 | _, [], _, h => by cases h
 | r, t :: l, k, h => by
  rcases List.mem_cons.1 h with rfl | h
  ·exact ⟨_, fun x hx => by rw [ckL_cons]; exact List.mem_append_left _ hx⟩
  ·obtain ⟨s, hs⟩ := ckL_mem r.tail l k h
   exact ⟨s, fun x hx => by rw [ckL_cons]; exact List.mem_append_right _ (hs x hx)⟩
theorem RT.of {g : GV} (t : TV) : ∀ (s : Int × Int) (u : Bool), (∀ x ∈ ckT g s u t, erU g x = 0) -> RT g t := by
 induction t using TV.ind with
 | h t ih =>
  intro s u h
  rw [ckT_eq] at h
  have h1 := h ⟨t, 0, s, u⟩ (by simp)
  have ha : alTU g t = 0 := by
   unfold erU at h1
   by_cases q : alTU g t = 0
   ·exact q
   ·rw [if_pos q] at h1
    exact absurd h1 q
  unfold alTU at ha
  by_cases hp : t.prod = -1
  ·rw [if_pos hp] at ha
   split at ha
   ·cases ha
   ·rename_i q
    exact RT.leaf t hp (by omega) (by omega) (List.eq_nil_of_length_eq_zero (by omega))
  ·rw [if_neg hp] at ha
   split at ha
   ·cases ha
   ·rename_i q
    have hk : t.kids.length = (rightU g t).length := by
     by_cases e : t.kids.length = (rightU g t).length
     ·exact e
     ·exact absurd (.inr (.inr (.inr (.inr e)))) q
    refine RT.node t (by omega) (by omega) (ckL_roots _ _ hk (fun x hx => h x (List.mem_cons_of_mem _ hx))) (fun k hk => ?_)
    obtain ⟨s', hs'⟩ := ckL_mem (rightU g t) t.kids k hk
    exact ih k hk s' true (fun x hx => h x (List.mem_cons_of_mem _ (hs' x hx)))
theorem root_leaf {g : GV} {t : TV} (h : t.prod = -1) (h0 : 0 <= t.kind) (h1 : t.kind < g.ts.length) : rootU g t = (1, t.kind) := by
 unfold rootU
 rw [if_pos ⟨h, h0, h1⟩]
theorem root_node {g : GV} {t : TV} (h0 : 0 <= t.prod) (h1 : t.prod < g.ps.length) : rootU g t = (2, (g.ps.getD t.prod.toNat .none).left) := by
 unfold rootU
 rw [if_neg (by rintro ⟨q, _⟩; omega), if_pos ⟨h0, h1⟩]
end Go.Proofs.Ytndbdliaidbocaa
