import Derived.Test.YtldomigddgaabaaGreatPKApartF
import Derived.Test.YtldomigddgaabaaGreatPFOwn1
namespace Go.Proofs.YtldomigddgaabaaGreat
set_option linter.unusedVariables false
set_option maxRecDepth 100000
set_option maxHeartbeats 16000000
open Go.RowKit Go.Maps
structure FB (B q lo hi : Nat) (w5 : World) (V : Nat -> Value) (E : Nat -> List LE) (m1 m3 c : Nat) (w : World) : Prop where
 ki : KI kF B w q V E
 ql : q < lo
 fr : ∀ i k, (V i).ownBlock = some k -> k < lo ∨ hi <= k
 sm : ∀ k, lo <= k -> k < hi -> w.heap[k]? = w5.heap[k]?
 hz : hi <= w.heap.size
 bl : B <= lo
 no : ∀ i, i ∉ [1, 3] -> E i = []
 ln : ∀ i, (E i).length <= c
 nm : ∀ i, ∀ e ∈ E i, e.n <= 100000000
 t1 : ∀ e ∈ E 1, e.g < m1
 t3 : ∀ e ∈ E 3, e.g < m3
 bw : Below B w5 w
section
variable {B q lo hi : Nat} {w5 : World} {V : Nat -> Value} {E : Nat -> List LE} {m1 m3 c : Nat} {w : World}
theorem FB.step (h : FB B q lo hi w5 V E m1 m3 c w) {w' : World} {V' : Nat -> Value} {E' : Nat -> List LE} {m1' m3' i n c' : Nat} {a : Option Addr} (k : KI kF B w' q V' E') (z : KZ q w V w' V') (b : Below B w w') (hi' : i ∈ [1, 3]) (h2 : ∀ j, j ≠ i -> E' j = E j) (h3 : E' i = E i ∨ ∃ g, a = some ⟨g, 0, none⟩ /\ n ≠ 0 /\ E' i = E i ++ [⟨g, n, c'⟩]) (hn : n <= 100000000) (hm1 : m1 <= m1') (hm3 : m3 <= m3') (hg1 : i = 1 -> ∀ j, (Value.slice a n c').ownBlock = some j -> j < m1') (hg3 : i = 3 -> ∀ j, (Value.slice a n c').ownBlock = some j -> j < m3') : FB B q lo hi w5 V' E' m1' m3' (c + 1) w' := by
 have nw : ∀ j, ∀ e ∈ E' j, e ∈ E j ∨ (j = i /\ e.n = n /\ (Value.slice a n c').ownBlock = some e.g) := fun j e he => by
  by_cases ej : j = i
  ·subst ej
   rcases h3 with e3 | ⟨g, ea, _, e3⟩
   ·rw [e3] at he; exact .inl he
   ·rw [e3] at he
    rcases List.mem_append.1 he with he | he
    ·exact .inl he
    ·obtain rfl := List.mem_singleton.1 he
     exact .inr ⟨rfl, rfl, by rw [ea]; rfl⟩
  ·rw [h2 j ej] at he; exact .inl he
 refine ⟨k, h.ql, fun j x hx => ?_, fun x hx hy => ?_, Nat.le_trans h.hz z.size, h.bl, fun j hj => ?_, fun j => ?_, fun j e he => ?_, fun e he => ?_, fun e he => ?_, h.bw.trans b⟩
 ·rcases z.own j x hx with r | r
  ·exact h.fr j x r
  ·exact .inr (Nat.le_trans h.hz r)
 ·refine (z.block x (Nat.lt_of_lt_of_le hy h.hz) (by have := h.ql; omega) fun j e => ?_).trans (h.sm x hx hy)
  rcases h.fr j x e with r | r <;> omega
 ·rw [h2 j (fun e => hj (e ▸ hi'))]; exact h.no j hj
 ·have := h.ln j
  by_cases e : j = i
  ·subst e
   rcases h3 with e3 | ⟨g, _, _, e3⟩ <;> rw [e3]
   ·omega
   ·rw [List.length_append, List.length_singleton]; omega
  ·rw [h2 j e]; omega
 ·rcases nw j e he with r | ⟨_, r, _⟩
  ·exact h.nm j e r
  ·omega
 ·rcases nw 1 e he with r | ⟨r, _, r2⟩
  ·exact Nat.lt_of_lt_of_le (h.t1 e r) hm1
  ·exact hg1 r.symm e.g r2
 ·rcases nw 3 e he with r | ⟨r, _, r2⟩
  ·exact Nat.lt_of_lt_of_le (h.t3 e r) hm3
  ·exact hg3 r.symm e.g r2
theorem FB.keep (h : FB B q lo hi w5 V E m1 m3 c w) {w2 : World} {z : Nat} {t : TypeId} {sz n : Nat} {v : Value} {xs : List Value} (ho : w2.ownsRow 0 t sz v n xs) (hb : Below w2.heap.size w2 w5) (hz : w2.heap.size <= hi) (hl : ∀ j, v.ownBlock = some j -> z <= j) (hlo : lo <= z) : w.ownsRow 0 t sz v n xs := row_keptB ho fun k hk => by
 have := World.ownsRow.lt ho k hk
 have := hl k hk
 exact (h.sm k (by omega) (by omega)).trans (hb.block k (by omega))
theorem FB.ints {w2 : World} {z : Nat} {a : Option Addr} {l : List Int} {n c' : Nat} (h : FB B q lo hi w5 V E m1 m3 c w) (p : NO w2 z a l c') (hb : Below w2.heap.size w2 w5) (hz : w2.heap.size <= hi) (hlo : lo <= z) (hm : m1 <= z) (hzz : z <= w2.heap.size) (hc : c <= 1000) (hn : n = l.length) :
  Calls Tryz.prog 11 #[.pointer (some ⟨q, 0, none⟩), .slice a n c'] w fun e w' => e = .returned (.tuple #[]) /\ ∃ V' E', FB B q lo hi w5 V' E' w2.heap.size m3 (c + 1) w' := by
 subst hn
 have ho := h.keep p.own hb hz p.lo hlo
 have hle := p.le
 have hln := h.ln 1
 have hbl := h.bl
 refine (book_intsF kF kF_ok B q V E w a l.length c' _ h.ki ⟨rfl, rfl, rfl⟩ (fun _ => ho) (fun _ k hk => ⟨by have := p.lo k hk; omega, fun x hx e => ?_⟩) (by omega)).mono ?_
 ·have := h.t1 x hx
  have := p.lo k hk
  omega
 ·rintro e w' ⟨rfl, V', E', k, i, d, b, r⟩
  exact ⟨rfl, V', E', h.step k r b (i := 1) (by decide) i d (by omega) (Nat.le_trans hm hzz) (Nat.le_refl _) (fun _ j hj => (World.ownsRow.lt p.own j hj).2) (fun e => absurd e (by decide))⟩
theorem FB.bools {w2 : World} {z : Nat} {a : Option Addr} {l : List Bool} {n c' : Nat} (h : FB B q lo hi w5 V E m1 m3 c w) (p : BO w2 z a l c') (hb : Below w2.heap.size w2 w5) (hz : w2.heap.size <= hi) (hlo : lo <= z) (hm : m3 <= z) (hzz : z <= w2.heap.size) (hc : c <= 1000) (hn : n = l.length) :
  Calls Tryz.prog 12 #[.pointer (some ⟨q, 0, none⟩), .slice a n c'] w fun e w' => e = .returned (.tuple #[]) /\ ∃ V' E', FB B q lo hi w5 V' E' m1 w2.heap.size (c + 1) w' := by
 subst hn
 have ho := h.keep p.own hb hz p.lo hlo
 have hle := p.le
 have hln := h.ln 3
 have hbl := h.bl
 refine (book_boolsF kF kF_ok B q V E w a l.length c' _ h.ki ⟨rfl, rfl, rfl⟩ (fun _ => ho) (fun _ k hk => ⟨by have := p.lo k hk; omega, fun x hx e => ?_⟩) (by omega)).mono ?_
 ·have := h.t3 x hx
  have := p.lo k hk
  omega
 ·rintro e w' ⟨rfl, V', E', k, i, d, b, r⟩
  exact ⟨rfl, V', E', h.step k r b (i := 3) (by decide) i d (by omega) (Nat.le_refl _) (Nat.le_trans hm hzz) (fun e => absurd e (by decide)) (fun _ j hj => (World.ownsRow.lt p.own j hj).2)⟩
end
end Go.Proofs.YtldomigddgaabaaGreat
