import Derived.Test.YtccednepbkjajaaPTTPToRegS
namespace Go.Proofs.Ytccednepbkjajaa
set_option linter.unusedVariables false
open Go.RowKit
def maxU : List Nat -> Nat
 | [] => 0
 | n :: l => max n (maxU l)
def hgF : Nat -> TV -> Nat
 | 0, _ => 0
 | n + 1, t => if t.prod = -1 then 0 else maxU (t.kids.map (hgF n)) + 1
def hgT (t : TV) : Nat := hgF (tsz t) t
def hgL (l : List TV) : Nat := maxU (l.map hgT)
theorem map_congr' {α β : Type} {f f' : α -> β} : ∀ (l : List α), (∀ x ∈ l, f x = f' x) -> l.map f = l.map f'
 | [], _ => rfl
 | x :: l, h => by rw [List.map_cons, List.map_cons, h x (List.mem_cons_self ..), map_congr' l (fun y hy => h y (List.mem_cons_of_mem _ hy))]
theorem hgF_any : ∀ (n m : Nat) (t : TV), tsz t <= n -> tsz t <= m -> hgF n t = hgF m t
 | 0, _, t, h, _ => by have := tsz_pos t; omega
 | _ + 1, 0, t, _, h => by have := tsz_pos t; omega
 | n + 1, m + 1, t, h, h' => by
  rw [hgF, hgF, map_congr' t.kids (fun k hk => hgF_any n m k (by have := kid_lt hk; omega) (by have := kid_lt hk; omega))]
theorem hgT_eq (t : TV) : hgT t = if t.prod = -1 then 0 else hgL t.kids + 1 := by
 obtain ⟨n, hn⟩ : ∃ n, tsz t = n + 1 := ⟨tsz t - 1, by have := tsz_pos t; omega⟩
 unfold hgT hgL
 rw [hn, hgF, map_congr' t.kids (fun k hk => hgF_any n (tsz k) k (by have := kid_lt hk; omega) (Nat.le_refl _))]
 rfl
end Go.Proofs.Ytccednepbkjajaa
